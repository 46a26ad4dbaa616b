/-
  What Look tells (facts on lists), and the contracts of chapter 5's models l5Look and Look.
  A range over a function whose rounds know what lies in memory where they are called: the statement, and one round.
  Whether a number is among others: slices.Index and slices.Contains of integers.
  A range over a function whose rounds know what lies in memory where they are called; whether a number is among others: brought together.
  The iterator over an object, its prototype, and so on (lineOf), called with whatever loop body that goes on or returns.
  The contracts of the program's lookUp and Look (by lookUp: the code from 54ec384 on).
  The contract of chapter 5's model Look.
-/
import Derived.Deep.RegionHeld3
import Derived.Deep.RegionWith
import Derived.Test.YtpbafjcoomfooaaGreatGrpV
import Derived.Test.YtpbafjcoomfooaaGreatSlabT
import Derived.Test.YtpbafjcoomfooaaGreatSlabI
import Derived.Test.YtpbafjcoomfooaaGreatHelpM
namespace Go.Proofs.YtpbafjcoomfooaaGreat
open Go.RowKit

/-- What an object has itself of a name. -/
def hasO (zs : List Int) (name v : Int) : Option Int := if 0 ≤ (cellF zs name zs.length (hz zs (plc v + 2)) (-1)).1 then some (hz zs ((cellF zs name zs.length (hz zs (plc v + 2)) (-1)).1.toNat + 2)) else none
def lookF (zs : List Int) (name : Int) : Nat → Int → Option Int
  | 0, _ => none
  | n + 1, v => if v % 8 = 5 then (match hasO zs name v with | some x => some x | none => lookF zs name n (hz zs (plc v + 1))) else none
theorem lookF_hit {zs : List Int} {name v x : Int} (n : Nat) (h5 : v % 8 = 5) (h : hasO zs name v = some x) : lookF zs name (n + 1) v = some x := by simp [lookF, h5, h]
theorem lookF_on {zs : List Int} {name v : Int} (n : Nat) (h5 : v % 8 = 5) (h : hasO zs name v = none) : lookF zs name (n + 1) v = lookF zs name n (hz zs (plc v + 1)) := by simp [lookF, h5, h]
theorem lookF_no {zs : List Int} {name v : Int} (n : Nat) (h5 : v % 8 ≠ 5) : lookF zs name n v = none := by cases n <;> simp [lookF, h5]
def pairV : Option Int → Value
  | some x => .tuple #[.int .i64 x, .bool true]
  | none => .tuple #[.int .i64 0, .bool false]
def lookV (zs : List Int) (obj name : Int) : Value := if askR zs obj name = true then pairV (lookF zs name zs.length obj) else .tuple #[.int .i64 0, .bool false]
theorem lookV_tuple (zs : List Int) (obj name : Int) : ∃ x b, lookV zs obj name = .tuple #[.int .i64 x, .bool b] := by
  unfold lookV
  split
  · cases lookF zs name zs.length obj <;> exact ⟨_, _, rfl⟩
  · exact ⟨_, _, rfl⟩
/-- From v on the objects vs are prototypes one of the other, up to the value v'. -/
def Line (zs : List Int) : Int → List Int → Int → Prop
  | v, [], v' => v' = v
  | v, x :: xs, v' => x = v ∧ v % 8 = 5 ∧ Line zs (hz zs (plc v + 1)) xs v'
theorem Line.snoc {zs : List Int} {v' : Int} (h5 : v' % 8 = 5) : ∀ {vs : List Int} {v : Int}, Line zs v vs v' → Line zs v (vs ++ [v']) (hz zs (plc v' + 1))
  | [], v, h => by
    have e : v' = v := h
    subst e
    exact ⟨rfl, h5, rfl⟩
  | x :: xs, v, h => ⟨h.1, h.2.1, Line.snoc h5 h.2.2⟩
theorem Line.miss {zs : List Int} {name v' : Int} (n : Nat) : ∀ {vs : List Int} {v : Int}, Line zs v vs v' → (∀ x ∈ vs, hasO zs name x = none) → lookF zs name (vs.length + n) v = lookF zs name n v'
  | [], v, h, _ => by
    have e : v' = v := h
    subst e
    simp
  | x :: xs, v, h, hn => by
    obtain ⟨rfl, h5, h2⟩ := h
    rw [show (x :: xs).length + n = (xs.length + n) + 1 by simp; omega, lookF_on _ h5 (hn x (by simp))]
    exact Line.miss n h2 (fun y hy => hn y (by simp [hy]))
theorem Line.next {zs : List Int} {v' q : Int} : ∀ {vs : List Int} {v : Int}, Line zs v vs v' → q ∈ vs → hz zs (plc q + 1) = v' ∨ hz zs (plc q + 1) ∈ vs
  | [], v, h, hq => by simp at hq
  | [x], v, h, hq => by
    have e : q = x := by simpa using hq
    subst e
    obtain ⟨rfl, _, h2⟩ := h
    exact .inl h2.symm
  | x :: y :: vs, v, h, hq => by
    obtain ⟨rfl, _, h2⟩ := h
    rcases List.mem_cons.1 hq with rfl | hq
    · exact .inr (by rw [← h2.1]; simp)
    · rcases Line.next h2 hq with h1 | h1
      · exact .inl h1
      · exact .inr (List.mem_cons_of_mem _ h1)
theorem Line.kind {zs : List Int} {v' : Int} : ∀ {vs : List Int} {v : Int}, Line zs v vs v' → ∀ x ∈ vs, x % 8 = 5
  | [], v, h, x, hx => by simp at hx
  | y :: ys, v, h, x, hx => by
    obtain ⟨rfl, h5, h2⟩ := h
    rcases List.mem_cons.1 hx with rfl | hx
    · exact h5
    · exact Line.kind h2 x hx
theorem Line.circle {zs : List Int} {name v v' : Int} {vs : List Int} (h : Line zs v vs v') (hm : v' ∈ vs) (hn : ∀ x ∈ vs, hasO zs name x = none) : ∀ (n : Nat) (u : Int), u ∈ vs → lookF zs name n u = none
  | 0, _, _ => rfl
  | n + 1, u, hu => by
    rw [lookF_on n (h.kind u hu) (hn u hu)]
    rcases h.next hu with e | e
    · rw [e]; exact Line.circle h hm hn n v' hm
    · exact Line.circle h hm hn n _ e
theorem line_len {zs vs : List Int} (hd : vs.Nodup) (h : ∀ x ∈ vs, ∃ p : Nat, x = 8 * (p : Int) + 5 ∧ p < zs.length) : vs.length ≤ zs.length := by
  have h1 : (vs.map plc).Nodup := by
    refine List.Pairwise.map plc ?_ (List.Pairwise.and_mem.1 hd)
    rintro x y ⟨hx, hy, hne⟩ e
    obtain ⟨p, rfl, _⟩ := h x hx
    obtain ⟨q, rfl, _⟩ := h y hy
    have e1 : plc (8 * (p : Int) + 5) = p := plc_is (by omega)
    have e2 : plc (8 * (q : Int) + 5) = q := plc_is (by omega)
    rw [e1, e2] at e
    exact hne (by rw [e])
  have h2 := nodup_le zs.length (vs.map plc) h1 (fun p hp => by
    obtain ⟨x, hx, rfl⟩ := List.mem_map.1 hp
    obtain ⟨q, rfl, hq⟩ := h x hx
    rw [plc_is (n := q) (by omega)]
    exact hq)
  simpa using h2

set_option maxHeartbeats 8000000 in
set_option maxRecDepth 100000 in
theorem l5Look_ok (w : World) (ao : Option Addr) (cap : Nat) (zs : List Int) (obj name : Int) (hI : Ints w ao zs) (hl : zs.length ≤ 1048576) (hh : heapR zs = true) (h5 : obj % 8 = 5) (hv : leadsR zs obj 5 = true) :
    Calls Tryz.prog 69 #[.agg #[.slice ao zs.length cap], .int .i64 obj, .int .i64 name] w fun e w' => e = .returned (pairV (lookF zs name zs.length obj)) ∧ Kept w w' := by
  have b0 := Cells.new w 26 #[.slice ao zs.length cap]
  have k0 : Kept w (w.alloc (.cells #[.slice ao zs.length cap] 26)) := Kept.alloc (Below.refl _ _) _
  have HH : Hid _ := hh
  have HI : Hid _ := hI
  obtain ⟨W, hW⟩ : ∃ W, w.alloc (.cells #[.slice ao zs.length cap] 26) = W := ⟨_, rfl⟩
  obtain ⟨R, hR⟩ : ∃ R, lookF zs name zs.length obj = R := ⟨_, rfl⟩
  have HS : Hid ((obj = 1 ∨ (obj % 8 = 5 ∧ leadsR zs obj 5 = true)) ∧ lookF zs name zs.length obj = R) := ⟨.inr ⟨h5, hv⟩, hR⟩
  rw [hR]
  clear hh hI h5 hv hR
  go_enter Tryz.func69, Tryz.ntmps69
  go_wp2_with fail
  simp only [hW] at b0 k0 ⊢
  clear hW
  go_loopw [1, 8] (fun o i wr => ∃ (k : Nat) (v : Int), i = .int .i64 k ∧ o = .int .i64 v ∧ k ≤ zs.length ∧ (v = 1 ∨ (v % 8 = 5 ∧ leadsR zs v 5 = true)) ∧ lookF zs name (zs.length - k) v = R ∧ Kept W wr) (fun _ i _ => zs.length - (intOf i).toNat)
  case atStart => exact ⟨0, obj, rfl, rfl, Nat.zero_le _, HS.out.1, by simpa using HS.out.2, Below.refl _ _⟩
  case round =>
    obtain ⟨k, v, rfl, rfl, hk, hvo, hlk, hK⟩ := hrel
    have HK : Hid _ := hK
    have HL : Hid _ := hlk
    have bS := b0.kept hK
    have cS := bS.cell 0
    clear hlk HS
    rcases hvo with rfl | ⟨h5, hv⟩
    · have HE : Hid (none = R) := by rw [Hid, ← HL.out, lookF_no _ (by decide)]
      have hd : ((1 : Int) % 8 == 5) = false := by decide
      clear hK
      go_wp2_with (go_at_call 50; refine (spec_Kind_ok _ _).mono ?_; rintro e wx ⟨rfl, rfl⟩)
      refine bodyPost_ret (v := .tuple #[.int .i64 0, .bool false]) (by simp [results, Tryz.results69, go_sem]) rfl ⟨by rw [← HE.out]; rfl, k0.trans HK.out⟩
    · have hd : (v % 8 == 5) = true := by simpa using h5
      by_cases hlt : k < zs.length
      · have q1 : (k : Int) < (zs.length : Int) := by omega
        obtain ⟨a, s, ha, hle, hs, _, hpr, hnx⟩ := obj_facts HH.out h5 hv
        have hpl := plc_is ha
        have hCl := fun (u : World) (hu : Kept wr u) => l5Cell_ok u ao cap zs v name (Ints.kept HI.out ((k0.trans HK.out).trans hu)) hl HH.out h5 hv
        have hF := (cellF_facts HH.out name zs.length (hz zs (plc v + 2)) (-1) (by rw [hpl]; exact hnx) (.inl rfl)).1
        have hO : hasO zs name v = if 0 ≤ (cellF zs name zs.length (hz zs (plc v + 2)) (-1)).1 then some (hz zs ((cellF zs name zs.length (hz zs (plc v + 2)) (-1)).1.toNat + 2)) else none := rfl
        obtain ⟨x, hx⟩ : ∃ x, (cellF zs name zs.length (hz zs (plc v + 2)) (-1)).1 = x := ⟨_, rfl⟩
        obtain ⟨y, hy⟩ : ∃ y, (cellF zs name zs.length (hz zs (plc v + 2)) (-1)).2 = y := ⟨_, rfl⟩
        rw [hx] at hF hO
        rw [hx, hy] at hCl
        have HCl : Hid _ := hCl
        obtain ⟨n, hn⟩ : ∃ n, zs.length - k = n + 1 := ⟨zs.length - k - 1, by omega⟩
        have hlk2 := HL.out
        rw [hn] at hlk2
        have HN : Hid (spec_Num_ok = spec_Num_ok) := rfl
        have hNm : ∀ u : World, Calls Tryz.prog 53 #[.int .i64 v] u fun e w' => e = .returned (.int .i64 (a : Int)) ∧ u = w' := fun u => by have := spec_Num_ok v u; rw [ha] at this; exact this
        clear hx hy hCl HL hnx
        rcases hF with rfl | ⟨q, rfl, hq⟩
        · rw [lookF_on n h5 (by rw [hO]; simp), hpl] at hlk2
          have HR2 : Hid _ := hlk2
          have hpo : hz zs (a + 1) = 1 ∨ (hz zs (a + 1) % 8 = 5 ∧ leadsR zs (hz zs (a + 1)) 5 = true) := by
            rcases hpr with h | ⟨h, h'⟩
            · exact .inl h
            · exact .inr ⟨h, by rw [leads_any (by omega) 5 0]; exact h'⟩
          have HPo : Hid _ := hpo
          obtain ⟨bb, off, rfl, hc⟩ := Ints.at HI.out (k := a + 1) (by omega)
          have ca := hc (a + 1) (by omega)
          have hbl : bb < w.heap.size := World.block_lt_of_cell? _ _ ca
          have p1 : (a : Int) + 1 < (zs.length : Int) := by omega
          have z1 : (0 : Int) ≤ (a : Int) + 1 := by omega
          have t1 : ((a : Int) + 1).toNat = a + 1 := by omega
          have wr1 : IntKind.i64.wrap ((a : Int) + 1) = (a : Int) + 1 := by rw [IntWalk.i64_left, IntWalk.wrap64_in _ (by omega)]
          clear hlk2 hpo hc hpr hO ha hK
          go_wp2_with (first | (go_at_call 50; refine (spec_Kind_ok _ _).mono ?_; rintro e wx ⟨rfl, rfl⟩) | (go_at_call 111; refine (HCl.out _ (Below.refl _ _)).mono ?_; rintro e w2 ⟨rfl, hk2⟩))
          have c2 := (bS.kept hk2).cell 0
          have d2 := (((k0.trans HK.out).trans hk2).cell (p := ⟨bb, off + (a + 1), none⟩) hbl).trans ca
          clear cS
          go_region_held3 (fun w' => w'.cell? ⟨w.heap.size, 0, none⟩ = some (.slice (some ⟨bb, off, none⟩) zs.length cap) ∧ w'.cell? ⟨bb, off + (a + 1), none⟩ = some (.int .i64 (hz zs (a + 1)))) (go_keep) ((go_at_call 53; refine (hNm _).mono ?_; rintro e wx ⟨rfl, rfl⟩))
          go_wp2_with fail
          go_roundw
          case rel => exact ⟨k + 1, hz zs (a + 1), by go_num, rfl, by omega, HPo.out, by rw [show zs.length - (k + 1) = n by omega]; exact HR2.out, (Kept.trans HK.out hk2).drew⟩
          case measure => simp [intOf]; omega
        · rw [lookF_hit (x := hz zs (q + 2)) n h5 (by rw [hO]; simp)] at hlk2
          have HR2 : Hid _ := hlk2
          obtain ⟨bb, off, rfl, hc⟩ := Ints.at HI.out (k := q + 2) (by omega)
          have cq := hc (q + 2) (by omega)
          have hbl : bb < w.heap.size := World.block_lt_of_cell? _ _ cq
          have p2 : (q : Int) + 2 < (zs.length : Int) := by omega
          have t2 : ((q : Int) + 2).toNat = q + 2 := by omega
          have n0 : (0 : Int) ≤ (q : Int) := by omega
          clear hlk2 hc hpr hO ha hK
          go_wp2_with (first | (go_at_call 50; refine (spec_Kind_ok _ _).mono ?_; rintro e wx ⟨rfl, rfl⟩) | (go_at_call 111; refine (HCl.out _ (Below.refl _ _)).mono ?_; rintro e w2 ⟨rfl, hk2⟩; have c2 := (bS.kept hk2).cell 0; have d2 := (((k0.trans HK.out).trans hk2).cell (p := ⟨bb, off + (q + 2), none⟩) hbl).trans cq))
          refine bodyPost_ret (v := .tuple #[.int .i64 (hz zs (q + 2)), .bool true]) (by simp [results, Tryz.results69, go_sem]) rfl ⟨by rw [← HR2.out]; rfl, (k0.trans HK.out).trans hk2⟩
      · obtain rfl : k = zs.length := by omega
        have HE : Hid (none = R) := by rw [Hid, ← HL.out, Nat.sub_self]; rfl
        clear hK
        go_wp2_with (go_at_call 50; refine (spec_Kind_ok _ _).mono ?_; rintro e wx ⟨rfl, rfl⟩)
        refine bodyPost_ret (v := .tuple #[.int .i64 0, .bool false]) (by simp [results, Tryz.results69, go_sem]) rfl ⟨by rw [← HE.out]; rfl, k0.trans HK.out⟩
end Go.Proofs.YtpbafjcoomfooaaGreat
namespace Go.Proofs.YtpbafjcoomfooaaGreat
open Go.RowKit Go.Shelf
attribute [local go_sem] Oper.semAt_some

/-- The record of a loop that is the outermost one. -/
abbrev recL (fn : FuncId) (tmps : Array Value) (ps : Array Tmp) (assign body : Code) (D : Nat) (st : LoopState) (pe : Option Code) : Loop := { state := st, pending := pe, fn := fn, tmps := tmps, params := ps, assign := assign, body := body, defers := D }
theorem range_told {n : Nat} {P : Program} {g : Operand} {ps : Array Tmp} {assign body : Code} {Q : Exit → Act → World → Prop} {a : Act} {w : World} (h1 : 1 ≤ n) {gf : Nat} {lb : Array Value} (hg : a.eval g = .func (.func gf) #[] lb) (eg : ∀ args w, (callFunc gf args).run P w = .ok (.enter gf args) w)
    (hcall : ∀ fn, CallsIn Fence.wide (n - 1) P gf (#[.func (.yield (w.heap.size + 1)) #[] #[]] ++ lb) ((w.alloc (.deferred (some []))).alloc (.loop (recL fn a.tmps ps assign body w.heap.size .ready none))) fun e W' =>
      (∃ v, e = .returned v) ∧ ∃ (r : Loop) (W4 : World), W'.heap[w.heap.size + 1]? = some (.loop r) ∧ r.state ≠ .busy ∧ W'.putObj (w.heap.size + 1) (.loop { r with state := .exhausted }) = W4 ∧
        ((r.pending = none ∧ Q .normal { a with defers := { target := .collected w.heap.size, args := #[] } :: a.defers } W4) ∨ ∃ c, r.pending = some c ∧ c.wpIn Fence.wide n P Q { a with defers := { target := .collected w.heap.size, args := #[] } :: a.defers } W4)) :
    (Code.rangeFunc g ps assign body).wpIn Fence.wide n P Q a w := by
  refine wpIn_rangeFunc ?_
  intro fn _
  refine ⟨w.heap.size + 1, [{ target := .collected w.heap.size, args := #[] }], ((w.alloc (.deferred (some []))).alloc (.loop (recL fn a.tmps ps assign body w.heap.size .ready none))), { target := .fn (.func gf) lb, args := #[.func (.yield (w.heap.size + 1)) #[] #[]] }, ((w.alloc (.deferred (some []))).alloc (.loop (recL fn a.tmps ps assign body w.heap.size .ready none))), gf, #[.func (.yield (w.heap.size + 1)) #[] #[]] ++ lb, ((w.alloc (.deferred (some []))).alloc (.loop (recL fn a.tmps ps assign body w.heap.size .ready none))), run_enterLoop_outer _ _ _ _ _, ?_, fun _ _ => trivial, ?_, fun _ => h1, ?_⟩
  · simp only [resolve, hg]
    simp [go_sem]
  · simp [invoke, go_sem, eg]
  · refine (hcall fn).mono ?_
    rintro e W' ⟨⟨v, rfl⟩, r, W4, hr, hb, rfl, h⟩
    refine ⟨r.pending, _, run_endLoop hr hb, ?_⟩
    rcases h with ⟨e, h⟩ | ⟨c, e, h⟩
    · rw [e] at h ⊢; exact h
    · rw [e] at h ⊢; exact h
/-- One round that goes on, or returns. -/
theorem round_told {m : Nat} {P : Program} {l : Nat} {r : Loop} {args : Array Value} {W : World} {R : Ending → World → Prop} (hl : W.heap[l]? = some (.loop r)) (hr : r.state = .ready) (hs : args.size = r.params.size)
    (h : r.assign.wpIn (Fence.wide.inRound l) m P (Exit.then (fun a1 W1 => W1.heap[l]? = some (.loop r) ∧ r.body.wpIn (Fence.wide.inRound l) m P (fun e _ W3 => W3.heap[l]? = some (.loop { r with state := .busy }) ∧
        ((e = .normal ∧ R (.returned (.bool true)) (W3.putObj l (.loop { r with state := .ready, pending := none }))) ∨ (e = .ret ∧ R (.returned (.bool false)) (W3.putObj l (.loop { r with state := .done, pending := some .ret }))))) a1 (W1.putObj l (.loop { r with state := .busy }))) (fun _ _ _ => False))
      { tmps := (r.params.zip args).foldl (fun tmps (t, a) => tmps.setIfInBounds t a) r.tmps, defers := [] } W) :
    YieldAt Fence.wide m P l args W R := by
  refine ⟨r.fn, _, r.assign, r.body, run_yield hl hs, roundIn_of_wpIn trivial (Code.wpIn_mono (fun e a1 W1 h1 => ?_) h)⟩
  cases e with
  | normal =>
    obtain ⟨h2, h3⟩ := h1
    refine ⟨_, run_beginRound h2 hr, Code.wpIn_mono (fun e a3 W3 h4 => ?_) h3⟩
    obtain ⟨h5, ⟨rfl, h6⟩ | ⟨rfl, h6⟩⟩ := h4
    · exact ⟨_, _, run_endRound none h5, h6⟩
    · exact ⟨_, _, run_endRound (some .ret) h5, h6⟩
  | _ => exact h1.elim

end Go.Proofs.YtpbafjcoomfooaaGreat
namespace Go.Proofs.YtpbafjcoomfooaaGreat
open Go.RowKit

set_option maxHeartbeats 4000000 in
set_option maxRecDepth 100000 in
theorem intIndex_ok (w : World) (ao : Option Addr) (cap : Nat) (vs : List Int) (x : Int) (hI : Ints w ao vs) (hl : vs.length ≤ 1048576) :
    Calls Tryz.prog 157 #[.slice ao vs.length cap, .int .i64 x] w fun e w' => ∃ r : Int, e = .returned (.int .i64 r) ∧ (0 ≤ r ↔ x ∈ vs) ∧ Kept w w' := by
  have HI : Hid _ := hI
  clear hI
  go_enter Tryz.func157, Tryz.ntmps157
  go_wp2_with fail
  go_loopw [8] (fun i wr => ∃ k : Nat, i = .int .i64 k ∧ k ≤ vs.length ∧ (∀ j q, j < k → vs[j]? = some q → q ≠ x) ∧ Kept w wr) (fun i _ => vs.length - (intOf i).toNat)
  case atStart => exact ⟨0, rfl, Nat.zero_le _, fun j q h => absurd h (by omega), Below.refl _ _⟩
  case round =>
    obtain ⟨k, rfl, hk, hno, hK⟩ := hrel
    have HN : Hid _ := hno
    have HK1 : Hid _ := hK
    clear hno
    by_cases hlt : k < vs.length
    · obtain ⟨b, off, rfl, hc⟩ := Ints.at (Ints.kept HI.out hK) (k := k) hlt
      have c0 := hc k hlt
      have hq : vs[k]? = some (hz vs k) := by simp [hz, List.getElem?_eq_getElem hlt]
      obtain ⟨q, hqq⟩ : ∃ q, hz vs k = q := ⟨_, rfl⟩
      rw [hqq] at c0 hq
      have q1 : (k : Int) < (vs.length : Int) := by omega
      have q0 : (0 : Int) ≤ (k : Int) := by omega
      clear hc hK hqq
      by_cases he : q = x
      · subst he
        have HM : Hid (q ∈ vs) := List.mem_of_getElem? hq
        clear hq
        go_wp2
        go_ret
        exact ⟨_, rfl, ⟨fun _ => HM.out, fun _ => by omega⟩, HK1.out⟩
      · have e1 : (x == q) = false := by rw [beq_eq_false_iff_ne]; exact fun h => he h.symm
        have HQ : Hid _ := hq
        clear hq
        go_wp2
        go_roundw
        case rel => exact ⟨k + 1, by go_num, by omega, fun j q' hj hq' => by
          rcases Nat.lt_succ_iff_lt_or_eq.1 hj with h | h
          · exact HN.out j q' h hq'
          · rw [h, HQ.out] at hq'; cases hq'; exact he, HK1.out⟩
        case measure => simp [intOf]; omega
    · obtain rfl : k = vs.length := by omega
      clear hK
      go_wp2
      go_ret
      refine ⟨_, rfl, ⟨fun h => absurd h (by omega), fun h => ?_⟩, HK1.out⟩
      obtain ⟨j, hj, e⟩ := List.getElem_of_mem h
      exact absurd e (HN.out j _ hj (List.getElem?_eq_getElem hj))
set_option maxHeartbeats 4000000 in
set_option maxRecDepth 100000 in
theorem intContains_ok (w : World) (ao : Option Addr) (cap : Nat) (vs : List Int) (x : Int) (hI : Ints w ao vs) (hl : vs.length ≤ 1048576) :
    Calls Tryz.prog 147 #[.slice ao vs.length cap, .int .i64 x] w fun e w' => e = .returned (.bool (decide (x ∈ vs))) ∧ Kept w w' := by
  have hC := intIndex_ok w ao cap vs x hI hl
  go_enter Tryz.func147, Tryz.ntmps147
  go_wp2_with fail
  refine hC.mono ?_
  rintro e w1 ⟨r, rfl, hr, hk1⟩
  have hd : decide (0 ≤ r) = decide (x ∈ vs) := by simp [hr]
  clear hr hC
  go_wp2_with fail
  go_ret
  exact ⟨rfl, hk1⟩
end Go.Proofs.YtpbafjcoomfooaaGreat
namespace Go.Proofs.YtpbafjcoomfooaaGreat
open Go.RowKit Go.Shelf
attribute [local go_sem] Oper.semAt_some

theorem Ints.grownBy {W W' : World} {ao : Option Addr} {zs : List Int} {row : Option Nat} (h : Ints W ao zs) (hg : W.grownBy W' row) (hne : ∀ a, zs ≠ [] → ao = some a → some a.block ≠ row) : Ints W' ao zs := by
  refine ⟨h.1, ?_⟩
  rcases h.2 with h | ⟨b, off, e, hc⟩
  · exact .inl h
  · refine .inr ⟨b, off, e, fun j hj => ?_⟩
    have hlt := World.block_lt_of_cell? _ _ (hc j hj)
    rw [← hc j hj]
    exact World.cell?_of_block (w := W) (hg.block b hlt (hne _ (by intro h0; rw [h0] at hj; simp at hj) e))
theorem lineOf_ok (ao : Option Addr) (n cap : Nat) (obj : Int) (w : World) :
    Calls Tryz.prog 112 #[.slice ao n cap, .int .i64 obj] w fun e w' => e = .returned (.func (.func 146) #[] #[.pointer (some ⟨w.heap.size + 1, 0, none⟩), .pointer (some ⟨w.heap.size, 0, none⟩)]) ∧ w' = (w.alloc (.cells #[.slice ao n cap] 24)).alloc (.cells #[.int .i64 obj] 3) := by
  go_enter Tryz.func112, Tryz.ntmps112
  go_wp2
  go_ret
  exact ⟨by simp, rfl⟩
set_option maxHeartbeats 16000000 in
set_option maxRecDepth 100000 in
theorem lineOf1_in (n : Nat) (hn : 1 ≤ n) (l Bs Bo : Nat) (ao : Option Addr) (cap : Nat) (zs : List Int) (obj name : Int) (r : Loop) (W0 : World) (hl : zs.length ≤ 1048576) (hh : heapR zs = true) (h5 : obj % 8 = 5) (hv : leadsR zs obj 5 = true)
    (hI : Ints W0 ao zs) (hIl : ∀ a, zs ≠ [] → ao = some a → a.block ≠ l) (hBs : Cells W0 Bs 24 #[.slice ao zs.length cap]) (hBo : Cells W0 Bo 3 #[.int .i64 obj]) (hsl : Bs ≠ l) (hol : Bo ≠ l) (hrec : W0.heap[l]? = some (.loop r)) (Jx : Int → World → Prop)
    (hY : ∀ (W : World), W0.grownBy W (some l) → W.heap[l]? = some (.loop r) → ∀ (v : Int) (a : Nat) (ca : Option Addr) (cc : Nat) (ps : List Nat) (v' : Int), v % 8 = 5 → v / 8 = a → All zs (hz zs (a + 2)) ps v' → CelsAt W ca zs ps →
      YieldAt Fence.wide (n - 1) Tryz.prog l #[.agg #[.int .i64 (a : Int), .int .i64 (hz zs (a + 1)), .slice ca ps.length cc]] W fun e W' => (e = .returned (.bool true) ∧ hasO zs name v = none ∧ W'.heap[l]? = some (.loop r) ∧ W.grownBy W' (some l)) ∨ (e = .returned (.bool false) ∧ ∃ x, hasO zs name v = some x ∧ Jx x W')) :
    CallsIn Fence.wide n Tryz.prog 146 #[.func (.yield l) #[] #[], .pointer (some ⟨Bo, 0, none⟩), .pointer (some ⟨Bs, 0, none⟩)] W0 fun e W' => (∃ v, e = .returned v) ∧
      ((lookF zs name zs.length obj = none ∧ W'.heap[l]? = some (.loop r) ∧ W0.grownBy W' (some l)) ∨ ∃ x, lookF zs name zs.length obj = some x ∧ Jx x W') := by
  obtain ⟨i0, hi, hz0, hz1, hz2⟩ := info_parts infoI
  have co := hBo.cell 0
  have HY : Hid _ := hY
  have HH : Hid _ := hh
  have HI : Hid _ := hI
  have HS : Hid (obj = 1 ∨ (obj % 8 = 5 ∧ leadsR zs obj 5 = true)) := .inr ⟨h5, hv⟩
  clear hY hh hI h5 hv
  refine callsIn_of_wp Tryz.func146 rfl trivial ?_ rfl
  simp only [Tryz.ntmps146, List.size_toArray, List.length_cons, List.length_nil, Nat.reduceAdd, Nat.reduceSub, Array.replicate_succ, Array.replicate_zero, List.push_toArray, List.append_toArray, List.nil_append, List.cons_append]
  gi_wp2
  gi_loopw [4, 5] (fun met o wr => ∃ (vs : List Int) (v : Int), o = .int .i64 v ∧ OwnL wr W0.heap.size met vs ∧ Line zs obj vs v ∧ vs.Nodup ∧ (∀ x ∈ vs, hasO zs name x = none ∧ ∃ p : Nat, x = 8 * (p : Int) + 5 ∧ p < zs.length) ∧ (v = 1 ∨ (v % 8 = 5 ∧ leadsR zs v 5 = true)) ∧ W0.grownBy wr (some l) ∧ wr.heap[l]? = some (.loop r)) (fun met _ _ => zs.length + 1 - lenV met)
  case atStart => exact ⟨[], obj, rfl, ⟨by simp, World.ownsRow_nil _ _ _ _⟩, rfl, List.nodup_nil, by simp, HS.out, World.grownBy.refl _ _, hrec⟩
  case round =>
    obtain ⟨vs, v, rfl, hO, hL, hD, hA, hvo, hG, hr⟩ := hrel
    have hlen : vs.length ≤ zs.length := line_len hD (fun x hx => (hA x hx).2)
    have HL : Hid _ := hL
    have HD : Hid _ := hD
    have HA : Hid _ := hA
    have HG : Hid _ := hG
    have HR : Hid _ := hr
    obtain ⟨ma, mc, rfl, hMI⟩ := hO.ints
    have HO : Hid _ := hO
    clear hL hD hA hO co HS
    rcases hvo with rfl | ⟨h5, hv⟩
    · have hd : ((1 : Int) != 1) = false := by decide
      clear hG hr hMI
      gi_wp2
      refine ⟨trivial, ?_⟩
      gi_wp2
      go_end0
      refine ⟨⟨_, rfl⟩, .inl ⟨?_, HR.out, HG.out⟩⟩
      rw [show zs.length = vs.length + (zs.length - vs.length) by omega, HL.out.miss _ (fun x hx => (HA.out x hx).1)]
      exact lookF_no _ (by decide)
    · have hne : (v != 1) = true := by
        have : v ≠ 1 := by omega
        simpa using this
      have hCo := intContains_ok wr ma mc vs v hMI (by omega)
      by_cases hm : v ∈ vs
      · rw [decide_eq_true hm] at hCo
        have HM : Hid _ := hm
        clear hm hG hr
        gi_wp2_with (refine ⟨trivial, ?_⟩; gi_at_call 147; refine (callsIn_wide.2 hCo).mono ?_; rintro e w1 ⟨rfl, hk1⟩)
        go_end0
        refine ⟨⟨_, rfl⟩, .inl ⟨?_, (hk1.block l (Array.getElem?_eq_some_iff.1 HR.out).1).trans HR.out, grown_kept HG.out hk1⟩⟩
        rw [show zs.length = vs.length + (zs.length - vs.length) by omega, HL.out.miss _ (fun x hx => (HA.out x hx).1)]
        exact HL.out.circle HM.out (fun x hx => (HA.out x hx).1) _ _ HM.out
      · rw [decide_eq_false hm] at hCo
        have HM : Hid _ := hm
        obtain ⟨a, s, ha, hle, hs, _, hpr, hnx⟩ := obj_facts HH.out h5 hv
        have HX : Hid _ := hnx
        have HP : Hid _ := hpr
        have HV5 : Hid _ := h5
        have HVa : Hid _ := ha
        have hve : v = 8 * (a : Int) + 5 := by omega
        have HVE : Hid _ := hve
        have hNm : ∀ u : World, Calls Tryz.prog 34 #[.int .i64 v] u fun e w' => e = .returned (.int .i64 (a : Int)) ∧ u = w' := fun u => by have := impl_Num_ok v u (by omega) (by omega); rw [ha] at this; exact this
        clear hm hG hr hnx hpr h5 ha hve hv
        gi_wp2_with (refine ⟨trivial, ?_⟩; gi_at_call 147; refine (callsIn_wide.2 hCo).mono ?_; rintro e w1 ⟨rfl, hk1⟩)
        have zO : Kept w1 (w1.alloc (.cells #[.int .i64 0, .int .i64 0, .slice none 0 0] 71)).drew := (Kept.alloc (Below.refl _ _) _).drew
        have g1 : W0.grownBy w1 (some l) := grown_kept HG.out hk1
        have bs1 : Cells w1 Bs 24 #[.slice ao zs.length cap] := hBs.grown g1 (by intro e; cases e; exact hsl rfl)
        have cs1 := (bs1.kept (Below.refl _ w1).drew).cell 0
        have cs2 := (bs1.kept zO).cell 0
        have I1 : Ints w1 ao zs := Ints.grownBy HI.out g1 (fun b h1 h2 h3 => by cases h3; exact hIl b h1 h2 rfl)
        have HOA : Hid _ := fun (u : World) (hu : Kept w1 u) => objectAt_ok u ao cap zs a (I1.kept hu) hl HH.out (by omega) HX.out
        have xz : Cells (w1.alloc (.cells #[.int .i64 0, .int .i64 0, .slice none 0 0] 71)).drew w1.heap.size 71 #[.int .i64 0, .int .i64 0, .slice none 0 0] := (Cells.new w1 71 #[.int .i64 0, .int .i64 0, .slice none 0 0]).kept (Below.refl _ _).drew
        have zD : Kept w1 w1.drew := (Below.refl _ w1).drew
        refine wpIn_wide.2 ?_
        go_region_with (first | (go_at_call 34; refine (hNm _).mono ?_; rintro e wx ⟨rfl, rfl⟩) | (go_at_call 56; refine (HOA.out _ (by first | exact zD | exact zO)).mono ?_; rintro e w2 ⟨cs, ps, v', rfl, hOC, hAl, hk2⟩; obtain ⟨ca, cc, rfl, hcc, hAt⟩ := hOC.at; first | (have xz2 := xz.kept hk2; have d0 := xz2.cell 0; have d1 := xz2.cell 1; have d2 := xz2.cell 2; have f0 := xz2.frozen 0; have f1 := xz2.frozen 1; have f2 := xz2.frozen 2; clear cs1 cs2) | (have xy := Cells.new w2 71 #[.int .i64 0, .int .i64 0, .slice none 0 0]; have d0 := xy.cell 0; have d1 := xy.cell 1; have d2 := xy.cell 2; have f0 := xy.frozen 0; have f1 := xy.frozen 1; have f2 := xy.frozen 2; clear cs1 cs2)))
        all_goals (
          first
          | (obtain ⟨W3, hW3⟩ : ∃ W3, w2.alloc (.cells #[.int .i64 (a : Int), .int .i64 (hz zs (a + 1)), .slice ca ps.length cc] 71) = W3 := ⟨_, rfl⟩
             obtain ⟨B, hB⟩ : ∃ B, w2.heap.size = B := ⟨_, rfl⟩
             simp only [hW3, hB]
             have xB : Cells W3 B 71 #[.int .i64 (a : Int), .int .i64 (hz zs (a + 1)), .slice ca ps.length cc] := by rw [← hW3, ← hB]; exact Cells.new w2 _ _
             have cAt : CelsAt W3 ca zs ps := by rw [← hW3]; exact hAt.kept (Kept.alloc (Below.refl _ _) _)
             have k13 : Kept w1 W3 := by rw [← hW3]; exact Kept.alloc (zD.trans hk2) _
             have hB1 : w1.heap.size ≤ B := by rw [← hB]; exact (zD.trans hk2).size)
          | (obtain ⟨W3, hW3⟩ : ∃ W3, ((w2.setCell ⟨w1.heap.size, 0, none⟩ (.int .i64 (a : Int))).setCell ⟨w1.heap.size, 1, none⟩ (.int .i64 (hz zs (a + 1)))).setCell ⟨w1.heap.size, 2, none⟩ (.slice ca ps.length cc) = W3 := ⟨_, rfl⟩
             have xB' : Cells W3 w1.heap.size 71 #[.int .i64 (a : Int), .int .i64 (hz zs (a + 1)), .slice ca ps.length cc] := by rw [← hW3]; exact xz2.set3 _ _ _
             have cAt : CelsAt W3 ca zs ps := by rw [← hW3]; exact OwnC.cels (ownsRow_setCell_below (ownsRow_setCell_below (ownsRow_setCell_below hOC (by simp) _) (by simp) _) (by simp) _)
             have k13 : Kept w1 W3 := by rw [← hW3]; exact (((zO.trans hk2).set (by simp) _).set (by simp) _).set (by simp) _
             obtain ⟨B, hB⟩ : ∃ B, w1.heap.size = B := ⟨_, rfl⟩
             rw [hB] at xB'
             simp only [hW3]
             simp only [hB]
             have xB := xB'
             have hB1 : w1.heap.size ≤ B := by omega)
          clear hW3 hB d0 d1 d2 f0 f1 f2 hk2 hOC hAt
          have hll := (Array.getElem?_eq_some_iff.1 hrec).1
          have hl0 := Array.getElem?_eq_some_iff.1 HR.out |>.1
          have r1 := (hk1.block l hl0).trans HR.out
          have hs01 := g1.size
          have r3 := (k13.block l (by omega)).trans r1
          have g3 : W0.grownBy W3 (some l) := grown_kept g1 k13
          obtain ⟨fn', tm', as', bo', hy, hRd⟩ := HY.out W3 g3 r3 v a ca cc ps v' HV5.out HVa.out hAl cAt
          have d0 : W3.cell? ⟨B, 0, none⟩ = some (.int .i64 (a : Int)) := xB.cell 0
          have d1 : W3.cell? ⟨B, 1, none⟩ = some (.int .i64 (hz zs (a + 1))) := xB.cell 1
          have d2 : W3.cell? ⟨B, 2, none⟩ = some (.slice ca ps.length cc) := xB.cell 2
          have hps := hAl.len
          have hcnt : vs.length + 1 ≤ zs.length := by
            have := line_len (zs := zs) (vs := vs ++ [v]) (by rw [List.nodup_append]; exact ⟨HD.out, by simp, fun x hx y hy => by simp at hy; subst hy; intro e; subst e; exact HM.out hx⟩) (fun x hx => by rcases List.mem_append.1 hx with h | h; exact (HA.out x h).2; simp at h; subst h; exact ⟨a, HVE.out, by omega⟩)
            simpa using this
          gi_wp2
          refine hRd.mono ?_
          rintro e W4 (⟨rfl, hno, hl4, hg4⟩ | ⟨rfl, x, hx, hJx⟩)
          · have xB4 := xB.grown hg4 (by intro e; cases e; omega)
            have hOB := HO.out.2.lt
            have own3 := OwnL.kept (OwnL.kept HO.out hk1.grown (fun _ h => by cases h)) k13.grown (fun _ h => by cases h)
            have own4 := OwnL.kept own3 hg4 (fun k e j hj => by cases e; have := hOB j hj; omega)
            have hs4 := hg4.size
            have hs3 := k13.size
            have hs1 := hk1.size
            have e1 : W4.cell? ⟨B, 1, none⟩ = some (.int .i64 (hz zs (a + 1))) := xB4.cell 1
            clear hy hRd d0 d1 d2 hNm hCo
            gi_wp2_with (gi_at_builtin; refine wpListIn_append_own _ rfl _ _ 24 rfl W0.heap.size 3 i0 (.int .i64 0) 1 8 Tryz.underlying24 hi hz0 hz1 hz2 rfl (by decide) _ _ _ rfl (own4.2.alloc _) ⟨W4.heap.size, 0, none⟩ 1 1 [.int .i64 v] rfl rfl (cell_one_new _ _ _) (by simp [Value.oneCell']) (by unfold maxLen; omega) (by omega) (by simp; omega) ?_; intro mv W5 hown' hgrow _; obtain ⟨g', cap', rfl⟩ := ownsRow_succ hown'; have kb : ∀ k, k < W4.heap.size → (∀ j, (Value.slice ma vs.length mc).ownBlock = some j → j ≠ k) → W5.heap[k]? = W4.heap[k]? := fun k h1 h2 => (hgrow.block k (by simp; omega) (fun e => h2 k e.symm rfl)).trans (Below.heap_alloc _ _ _ h1); have xB5 : Cells W5 B 71 #[.int .i64 (a : Int), .int .i64 (hz zs (a + 1)), .slice ca ps.length cc] := (kb B xB4.lt (fun j hj e => by have := hOB j hj; omega)).trans xB4; have e5 : W5.cell? ⟨B, 1, none⟩ = some (.int .i64 (hz zs (a + 1))) := xB5.cell 1)
            go_roundw
            case rel =>
              have hsn := HL.out.snoc HV5.out
              rw [plc_is HVa.out] at hsn
              refine ⟨vs ++ [v], hz zs (a + 1), rfl, ⟨fun z hz' => ?_, by simpa using hown'⟩, hsn, ?_, ?_, ?_, ?_, ?_⟩
              · rcases List.mem_append.1 hz' with h | h
                · exact HO.out.1 z h
                · simp at h; subst h; have := HVE.out; omega
              · rw [List.nodup_append]
                exact ⟨HD.out, by simp, fun x hx y hy => by simp at hy; subst hy; intro e; subst e; exact HM.out hx⟩
              · intro x hx
                rcases List.mem_append.1 hx with h | h
                · exact HA.out x h
                · simp at h; subst h; exact ⟨hno, a, HVE.out, by omega⟩
              · rcases HP.out with h | ⟨h, h'⟩
                · exact .inl h
                · exact .inr ⟨h, by rw [leads_any (by omega) 5 0]; exact h'⟩
              · refine ⟨hgrow.os.trans (hg4.os.trans g3.os), hgrow.tape.trans (hg4.tape.trans g3.tape), hgrow.output.trans (hg4.output.trans g3.output), by have := hgrow.size; simp at this; omega, fun k hk hr => ?_⟩
                exact (kb k (by omega) (fun j hj e => by have := hOB j hj; omega)).trans ((hg4.block k (by omega) hr).trans (g3.block k hk hr))
              · exact (kb l (by omega) (fun j hj e => by have := hOB j hj; omega)).trans hl4
            case measure => simp only [lenV]; omega
          · clear hy hRd d0 d1 d2 hNm hCo
            gi_wp2
            refine bodyPost_ret (results_none rfl _ _ _) rfl ⟨⟨_, rfl⟩, .inr ⟨x, ?_, hJx⟩⟩
            rw [show zs.length = vs.length + ((zs.length - vs.length - 1) + 1) by omega, HL.out.miss _ (fun y hy => (HA.out y hy).1)]
            exact lookF_hit _ HV5.out hx)
end Go.Proofs.YtpbafjcoomfooaaGreat
namespace Go.Proofs.YtpbafjcoomfooaaGreat
open Go.RowKit Go.Shelf
attribute [local go_sem] Oper.semAt_some

theorem grown_put {a b : World} {l : Nat} (h : a.grownBy b (some l)) (o : Obj) : a.grownBy (b.putObj l o) (some l) := grown_trans h (grownBy_putObj' b l o)
theorem CelsAt.put {W : World} {l : Nat} {r : Loop} {ao : Option Addr} {zs : List Int} {ps : List Nat} (h : CelsAt W ao zs ps) (hl : W.heap[l]? = some (.loop r)) (o : Obj) : CelsAt (W.putObj l o) ao zs ps := by
  intro i p hp
  obtain ⟨b, off, e, hc⟩ := h i p hp
  refine ⟨b, off, e, fun q hq => ?_⟩
  have h1 := hc q hq
  have hb : b ≠ l := by
    rintro rfl
    obtain ⟨u, hu⟩ : ∃ u, (celC zs p)[q]? = some u := ⟨_, Array.getElem?_eq_getElem (by simpa using hq)⟩
    rw [hu] at h1
    simp [World.cell?, hl] at h1
  rw [← h1]
  exact World.cell?_of_block (w := W) (World.putObj_heap_other hb)
theorem getV_has {zs : List Int} {name v v' : Int} {a : Nat} {ps : List Nat} (ha : v / 8 = a) (h : All zs (hz zs (a + 2)) ps v') : getV zs name ps = pairV (hasO zs name v) := by
  unfold hasO
  rw [plc_is ha, h.cell (name := name)]
  cases hn : namedP zs name ps with
  | none => rw [getV_none hn]; simp [pairV]
  | some q => rw [getV_some hn]; simp [pairV]

theorem round_told2 {m : Nat} {P : Program} {l : Nat} {r : Loop} {args : Array Value} {W : World} {R : Ending → World → Prop} (hl : W.heap[l]? = some (.loop r)) (hr : r.state = .ready) (hs : args.size = r.params.size)
    (h : r.assign.wpIn (Fence.wide.inRound l) m P (Exit.then (fun a1 W1 => W1.heap[l]? = some (.loop r) ∧ ∀ (rb : Loop) (WB : World), W1.putObj l (.loop rb) = WB → WB.heap[l]? = some (.loop rb) → r.body.wpIn (Fence.wide.inRound l) m P (fun e _ W3 => W3.heap[l]? = some (.loop rb) ∧
        ((e = .normal ∧ R (.returned (.bool true)) (W3.putObj l (.loop r))) ∨ (e = .ret ∧ ∀ r', r'.state = .done → r'.pending = some .ret → R (.returned (.bool false)) (W3.putObj l (.loop r'))))) a1 WB) (fun _ _ _ => False))
      { tmps := (r.params.zip args).foldl (fun tmps (t, a) => tmps.setIfInBounds t a) r.tmps, defers := [] } W) (hp : r.pending = none) :
    YieldAt Fence.wide m P l args W R := by
  refine round_told hl hr hs (Code.wpIn_mono (fun e a1 W1 h1 => ?_) h)
  cases e with
  | normal =>
    obtain ⟨h2, h3⟩ := h1
    refine ⟨h2, Code.wpIn_mono (fun e a3 W3 h4 => ?_) (h3 { r with state := .busy } _ rfl (World.putObj_heap_same (Array.getElem?_eq_some_iff.1 h2).1))⟩
    obtain ⟨h5, ⟨e, h6⟩ | ⟨e, h6⟩⟩ := h4
    · refine ⟨h5, .inl ⟨e, ?_⟩⟩
      have : ({ r with state := .ready, pending := none } : Loop) = r := by cases r; simp_all
      rw [this]; exact h6
    · exact ⟨h5, .inr ⟨e, h6 _ rfl rfl⟩⟩
  | _ => exact h1.elim
set_option maxHeartbeats 16000000 in
set_option maxRecDepth 100000 in
theorem lookUp_ok (w : World) (ao : Option Addr) (cap : Nat) (zs : List Int) (obj name : Int) (hI : Ints w ao zs) (hl : zs.length ≤ 1048576) (hh : heapR zs = true) (h5 : obj % 8 = 5) (hv : leadsR zs obj 5 = true) :
    Calls Tryz.prog 67 #[.slice ao zs.length cap, .int .i64 obj, .int .i64 name] w fun e w' => e = .returned (pairV (lookF zs name zs.length obj)) ∧ Kept w w' := by
  have b1 := ((Cells.new w 3 #[.int .i64 name]).alloc (.cells #[.int .i64 0] 3)).alloc (.cells #[.bool false] 4)
  have b2 := (Cells.new (w.alloc (.cells #[.int .i64 name] 3)) 3 #[.int .i64 0]).alloc (.cells #[.bool false] 4)
  have b3 := Cells.new ((w.alloc (.cells #[.int .i64 name] 3)).alloc (.cells #[.int .i64 0] 3)) 4 #[.bool false]
  simp only [World.size_alloc] at b1 b2 b3
  have k0 : Kept w (((w.alloc (.cells #[.int .i64 name] 3)).alloc (.cells #[.int .i64 0] 3)).alloc (.cells #[.bool false] 4)) := ((Kept.alloc (Below.refl _ _) _).alloc _).alloc _
  have hs0 : (((w.alloc (.cells #[.int .i64 name] 3)).alloc (.cells #[.int .i64 0] 3)).alloc (.cells #[.bool false] 4)).heap.size = w.heap.size + 3 := by simp
  refine (callsIn_wide (n := 3)).1 ?_
  refine callsIn_of_wp_marks Tryz.func67 rfl trivial ?_ rfl
  simp only [Tryz.ntmps67, List.size_toArray, List.length_cons, List.length_nil, Nat.reduceAdd, Nat.reduceSub, Array.replicate_succ, Array.replicate_zero, List.push_toArray, List.append_toArray, List.nil_append, List.cons_append]
  gi_wp2_with (refine ⟨trivial, ?_⟩; gi_at_call 112; refine (callsIn_wide.2 (lineOf_ok _ _ _ _ _)).mono ?_; rintro e w2 ⟨rfl, rfl⟩)
  obtain ⟨w1, hw1⟩ : ∃ x, ((w.alloc (.cells #[.int .i64 name] 3)).alloc (.cells #[.int .i64 0] 3)).alloc (.cells #[.bool false] 4) = x := ⟨_, rfl⟩
  rw [hw1] at b1 b2 b3 k0 hs0 ⊢
  clear hw1
  have kL : Kept w1 ((w1.alloc (.cells #[.slice ao zs.length cap] 24)).alloc (.cells #[.int .i64 obj] 3)) := (Kept.alloc (Below.refl _ _) _).alloc _
  have bS := (Cells.new w1 24 #[.slice ao zs.length cap]).alloc (.cells #[.int .i64 obj] 3)
  have bO := Cells.new (w1.alloc (.cells #[.slice ao zs.length cap] 24)) 3 #[.int .i64 obj]
  simp only [World.size_alloc] at bO
  have y1 := b1.kept kL
  have y2 := b2.kept kL
  have y3 := b3.kept kL
  have K0 := k0.trans kL
  have hsz : ((w1.alloc (.cells #[.slice ao zs.length cap] 24)).alloc (.cells #[.int .i64 obj] 3)).heap.size = w1.heap.size + 2 := by simp
  rw [hs0] at bS bO hsz
  obtain ⟨W0, hW0⟩ : ∃ W0, (w1.alloc (.cells #[.slice ao zs.length cap] 24)).alloc (.cells #[.int .i64 obj] 3) = W0 := ⟨_, rfl⟩
  rw [hW0] at bS bO y1 y2 y3 K0 hsz ⊢
  have hszl : w.heap.size + 3 + 2 ≤ W0.heap.size := by omega
  clear hW0 kL b1 b2 b3 k0 hsz
  have cN := y1.cell 0
  have hlw : Ints W0 ao zs := hI.kept K0
  refine range_told (by omega) rfl (enters_of Tryz.func146 (by kernel_rfl) rfl) ?_
  intro fn
  have kD : Kept W0 (W0.alloc (.deferred (some []))) := Kept.alloc (Below.refl _ _) _
  have hD0 := World.alloc_heap_new W0 (.deferred (some []))
  have hRc := fun (rr : Loop) => World.alloc_heap_new (W0.alloc (.deferred (some []))) (.loop rr)
  simp only [World.size_alloc] at hRc
  have kR : ∀ rr : Loop, Kept W0 ((W0.alloc (.deferred (some []))).alloc (.loop rr)) := fun rr => kD.alloc _
  have hDR : ∀ rr : Loop, ((W0.alloc (.deferred (some []))).alloc (.loop rr)).heap[W0.heap.size]? = some (.deferred (some [])) := fun rr => (Below.heap_alloc _ _ _ (by simp)).trans hD0
  refine (lineOf1_in 2 (by omega) (W0.heap.size + 1) (w.heap.size + 3) (w.heap.size + 3 + 1) ao cap zs obj name (recL fn _ _ _ _ W0.heap.size .ready none) _ hl hh h5 hv (hlw.kept (kR _)) ?hIl (bS.kept (kR _)) (bO.kept (kR _)) (by omega) (by omega) (hRc _)
    (fun x W' => (∃ r' : Loop, W'.heap[W0.heap.size + 1]? = some (.loop r') ∧ r'.state = .done ∧ r'.pending = some .ret) ∧ W'.heap[W0.heap.size]? = some (.deferred (some [])) ∧ Cells W' (w.heap.size + 1) 3 #[.int .i64 x] ∧ Cells W' (w.heap.size + 1 + 1) 4 #[.bool true] ∧ Kept w W') ?hY).mono ?post
  case hIl =>
    intro b h1 h2 h3
    have := hlw.lt h1 h2
    omega
  case hY =>
    intro W hg hr v a ca cc ps v' h5' ha hAl hAt
    have hps := hAl.len
    have hget := getV_has (name := name) ha hAl
    refine round_told2 hr rfl rfl ?_ rfl
    have hlW := (Array.getElem?_eq_some_iff.1 hr).1
    have hsW := hg.size
    have u1 := (y1.kept (kR _)).grown hg (by intro e; have := Option.some.inj e; omega)
    have u2 := (y2.kept (kR _)).grown hg (by intro e; have := Option.some.inj e; omega)
    have u3 := (y3.kept (kR _)).grown hg (by intro e; have := Option.some.inj e; omega)
    have hDW := (hg.block W0.heap.size (by simp only [World.size_alloc]; omega) (by intro e; have := Option.some.inj e; omega)).trans (hDR _)
    have kWw : Below w.heap.size w W := Below.trans (K0.trans (kR _)) ((Below.refl _ _).grown hg (by have := K0.size; simp only [World.size_alloc]; omega) (fun k e => by have := Option.some.inj e; have := K0.size; omega))
    have rA := fun (o : Obj) => (Below.heap_alloc W o _ hlW).trans hr
    gi_wp2
    refine ⟨rA _, ?_⟩
    intro rb WB hWB hrb
    have kA : Kept W (W.alloc (.cells #[.int .i64 (a : Int), .int .i64 (hz zs (a + 1)), .slice ca ps.length cc] 71)) := Kept.alloc (Below.refl _ _) _
    have bX : Cells WB W.heap.size 71 #[.int .i64 (a : Int), .int .i64 (hz zs (a + 1)), .slice ca ps.length cc] := by rw [← hWB]; exact (Cells.new W _ _).put (rA _) rfl _
    have t1 : Cells WB (w.heap.size) 3 #[.int .i64 name] := by rw [← hWB]; exact (u1.kept kA).put (rA _) rfl _
    have t2 : Cells WB (w.heap.size + 1) 3 #[.int .i64 0] := by rw [← hWB]; exact (u2.kept kA).put (rA _) rfl _
    have t3 : Cells WB (w.heap.size + 1 + 1) 4 #[.bool false] := by rw [← hWB]; exact (u3.kept kA).put (rA _) rfl _
    have cAt : CelsAt WB ca zs ps := by rw [← hWB]; exact (hAt.kept kA).put (rA _) _
    have hDB : WB.heap[W0.heap.size]? = some (.deferred (some [])) := by rw [← hWB]; exact (World.putObj_heap_other (by omega)).trans ((Below.heap_alloc W _ _ (by omega)).trans hDW)
    have gB : W.grownBy WB (some (W0.heap.size + 1)) := by rw [← hWB]; exact grown_put (kept_grown kA (World.grownBy.refl _ _)) _
    have kB : Below w.heap.size w WB := Below.trans kWw ((Below.refl _ W).grown gB (by have := kWw.size; omega) (fun k e => by have := Option.some.inj e; have := K0.size; omega))
    have e2 : WB.cell? ⟨W.heap.size, 2, none⟩ = some (.slice ca ps.length cc) := bX.cell 2
    have e1 : WB.cell? ⟨w.heap.size, 0, none⟩ = some (.int .i64 name) := t1.cell 0
    have hGt := get_ok WB ca cc zs ps name cAt (by omega)
    rw [hget] at hGt
    have hsB := gB.size
    clear hWB cAt hAt u1 u2 u3 rA kA
    cases hx : hasO zs name v with
    | none =>
      rw [hx] at hGt
      have HX : Hid _ := hx
      simp only [pairV] at hGt
      clear hx
      gi_wp2_with (refine ⟨trivial, ?_⟩; gi_at_call 66; refine (CallsIn.inRound (W0.heap.size + 1) (callsIn_wide.2 hGt)).mono ?_; rintro e w3 ⟨rfl, hk3⟩)
      have hr3 := (hk3.block _ (Array.getElem?_eq_some_iff.1 hrb).1).trans hrb
      refine ⟨hr3, ?_⟩
      first
      | exact .inl ⟨rfl, .inl ⟨rfl, HX.out, World.putObj_heap_same (Array.getElem?_eq_some_iff.1 hr3).1, grown_put (grown_kept gB hk3) _⟩⟩
      | exact ⟨World.putObj_heap_same (Array.getElem?_eq_some_iff.1 hr3).1, grown_put (grown_kept gB hk3) _⟩
      | exact ⟨HX.out, World.putObj_heap_same (Array.getElem?_eq_some_iff.1 hr3).1, grown_put (grown_kept gB hk3) _⟩
    | some x =>
      rw [hx] at hGt
      have HX : Hid _ := hx
      simp only [pairV] at hGt
      clear hx
      gi_wp2_with (refine ⟨trivial, ?_⟩; gi_at_call 66; refine (CallsIn.inRound (W0.heap.size + 1) (callsIn_wide.2 hGt)).mono ?_; rintro e w3 ⟨rfl, hk3⟩; have v2 := t2.kept hk3; have v3 := t3.kept hk3; have c2 := v2.cell 0; have f2 := v2.frozen 0; have c3 := v3.cell 0; have f3 := v3.frozen 0)
      have hr3 := (hk3.block _ (Array.getElem?_eq_some_iff.1 hrb).1).trans hrb
      have hd3 := (hk3.block _ (Array.getElem?_eq_some_iff.1 hDB).1).trans hDB
      have s2 := (v2.set1 (.int .i64 x)).other (p := ⟨w.heap.size + 1 + 1, 0, none⟩) (by simp) (.bool true)
      have s3 := (v3.other (p := ⟨w.heap.size + 1, 0, none⟩) (by simp) (.int .i64 x)).set1 (.bool true)
      have hr4 := ((KeepsOthers.setCell w3 ⟨w.heap.size + 1, 0, none⟩ (.int .i64 x)).trans (KeepsOthers.setCell _ ⟨w.heap.size + 1 + 1, 0, none⟩ (.bool true))).same _ _ hr3 rfl
      have hd4 := ((KeepsOthers.setCell w3 ⟨w.heap.size + 1, 0, none⟩ (.int .i64 x)).trans (KeepsOthers.setCell _ ⟨w.heap.size + 1 + 1, 0, none⟩ (.bool true))).same _ _ hd3 rfl
      have kk := ((Below.trans kB (hk3.mono kB.size)).setCell (p := ⟨w.heap.size + 1, 0, none⟩) (by simp) (.int .i64 x)).setCell (p := ⟨w.heap.size + 1 + 1, 0, none⟩) (by simp; omega) (.bool true)
      have kf := fun (r' : Loop) => Below.trans kk ((Below.refl _ _).grown (grownBy_putObj' ((w3.setCell ⟨w.heap.size + 1, 0, none⟩ (.int .i64 x)).setCell ⟨w.heap.size + 1 + 1, 0, none⟩ (.bool true)) (W0.heap.size + 1) (.loop r')) (by have := kk.size; simpa using this) (fun k e => by have := Option.some.inj e; have := K0.size; omega))
      have fin : ∀ r' : Loop, r'.state = .done → r'.pending = some .ret → _ := fun r' h1 h2 => And.intro (⟨r', World.putObj_heap_same (Array.getElem?_eq_some_iff.1 hr4).1, h1, h2⟩ : ∃ r'' : Loop, _ = some (Obj.loop r'') ∧ r''.state = .done ∧ r''.pending = some .ret) (And.intro ((World.putObj_heap_other (o := .loop r') (show W0.heap.size ≠ W0.heap.size + 1 by omega)).trans hd4) (And.intro (s2.put hr4 rfl (.loop r')) (And.intro (s3.put hr4 rfl (.loop r')) (kf r'))))
      refine ⟨hr4, ?_⟩
      first
      | exact .inr ⟨rfl, fun r' h1 h2 => .inr ⟨rfl, x, HX.out, fin r' h1 h2⟩⟩
      | exact fun r' h1 h2 => fin r' h1 h2
  case post =>
    rintro e W' ⟨⟨vv, rfl⟩, ⟨hno, hr, hg⟩ | ⟨x, hx, ⟨r', hr', hst, hpe⟩, hD, z2, z3, hK⟩⟩
    · have u2 := (y2.kept (kR _)).grown hg (by intro e; have := Option.some.inj e; omega)
      have u3 := (y3.kept (kR _)).grown hg (by intro e; have := Option.some.inj e; omega)
      have hDW := (hg.block W0.heap.size (by simp only [World.size_alloc]; omega) (by intro e; have := Option.some.inj e; omega)).trans (hDR _)
      have kWw : Below w.heap.size w W' := Below.trans (K0.trans (kR _)) ((Below.refl _ _).grown hg (by have := K0.size; simp only [World.size_alloc]; omega) (fun k e => by have := Option.some.inj e; have := K0.size; omega))
      obtain ⟨rr, hr', hst, hpe⟩ : ∃ rr : Loop, W'.heap[W0.heap.size + 1]? = some (.loop rr) ∧ rr.state = .ready ∧ rr.pending = none := ⟨_, hr, rfl, rfl⟩
      obtain ⟨W4, hW4⟩ : ∃ W4, W'.putObj (W0.heap.size + 1) (.loop { rr with state := .exhausted }) = W4 := ⟨_, rfl⟩
      have q2 : Cells W4 (w.heap.size + 1) 3 #[.int .i64 0] := by rw [← hW4]; exact u2.put hr' rfl _
      have q3 : Cells W4 (w.heap.size + 1 + 1) 4 #[.bool false] := by rw [← hW4]; exact u3.put hr' rfl _
      have hK4 : W4.heap[W0.heap.size]? = some (.deferred (some [])) := by rw [← hW4]; exact (World.putObj_heap_other (by omega)).trans hDW
      have kF : Below w.heap.size w W4 := by rw [← hW4]; exact Below.trans kWw ((Below.refl _ _).grown (grownBy_putObj' _ _ _) (by have := kWw.size; omega) (fun k e => by have := Option.some.inj e; have := K0.size; omega))
      refine ⟨⟨vv, rfl⟩, rr, W4, hr', by rw [hst]; simp, hW4, .inl ⟨hpe, ?_⟩⟩
      have c2 := q2.cell 0
      have f2 := q2.frozen 0
      have c3 := q3.cell 0
      have f3 := q3.frozen 0
      have HNO : Hid _ := hno
      clear hW4 hr hr' hg u2 u3 hDW kWw hno hst hpe
      gi_wp2
      have hK' := ((KeepsOthers.setCell W4 ⟨w.heap.size + 1, 0, none⟩ (.int .i64 0)).trans (KeepsOthers.setCell _ ⟨w.heap.size + 1 + 1, 0, none⟩ (.bool false))).same _ _ hK4 rfl
      refine ⟨by simp, .inl ⟨_, _, rfl, run_takeDeferred hK', ?_⟩⟩
      have s2 := ((q2.set1 (.int .i64 0)).other (p := ⟨w.heap.size + 1 + 1, 0, none⟩) (by simp) (.bool false)).put hK' rfl (.deferred none)
      have s3 := ((q3.other (p := ⟨w.heap.size + 1, 0, none⟩) (by simp) (.int .i64 0)).set1 (.bool false)).put hK' rfl (.deferred none)
      refine ⟨.tuple #[.int .i64 0, .bool false], by simp [results, Tryz.results67, go_sem, s2.cell 0, s3.cell 0], by rw [HNO.out]; rfl, ?_⟩
      exact ((kF.setCell (p := ⟨w.heap.size + 1, 0, none⟩) (by simp) _).setCell (p := ⟨w.heap.size + 1 + 1, 0, none⟩) (by simp; omega) _).trans (belowK_b (w := w) (Nat.le_refl _) _ W0.heap.size _ _ (by have := K0.size; omega) hK' rfl rfl)
    · obtain ⟨W4, hW4⟩ : ∃ W4, W'.putObj (W0.heap.size + 1) (.loop { r' with state := .exhausted }) = W4 := ⟨_, rfl⟩
      have q2 : Cells W4 (w.heap.size + 1) 3 #[.int .i64 x] := by rw [← hW4]; exact z2.put hr' rfl _
      have q3 : Cells W4 (w.heap.size + 1 + 1) 4 #[.bool true] := by rw [← hW4]; exact z3.put hr' rfl _
      have hK4 : W4.heap[W0.heap.size]? = some (.deferred (some [])) := by rw [← hW4]; exact (World.putObj_heap_other (by omega)).trans hD
      have kF : Below w.heap.size w W4 := by rw [← hW4]; exact Below.trans hK ((Below.refl _ _).grown (grownBy_putObj' _ _ _) (by have := hK.size; omega) (fun k e => by have := Option.some.inj e; have := K0.size; omega))
      refine ⟨⟨vv, rfl⟩, r', W4, hr', by rw [hst]; simp, hW4, .inr ⟨.ret, hpe, ?_⟩⟩
      have HX : Hid _ := hx
      clear hW4 hr' hst hpe z2 z3 hD hK hx
      gi_wp2
      refine ⟨by simp, .inl ⟨_, _, rfl, run_takeDeferred hK4, ?_⟩⟩
      have s2 := q2.put hK4 rfl (.deferred none)
      have s3 := q3.put hK4 rfl (.deferred none)
      refine ⟨.tuple #[.int .i64 x, .bool true], by simp [results, Tryz.results67, go_sem, s2.cell 0, s3.cell 0], by rw [HX.out]; rfl, ?_⟩
      exact kF.trans (belowK_b (w := w) (Nat.le_refl _) _ W0.heap.size _ _ (by have := K0.size; omega) hK4 rfl rfl)
set_option maxHeartbeats 8000000 in
set_option maxRecDepth 100000 in
theorem impl_Look_ok (w : World) (ao : Option Addr) (cap : Nat) (zs : List Int) (obj name : Int) (hI : Ints w ao zs) (hl : zs.length ≤ 1048576) (ho : -9223372036854775808 ≤ obj ∧ obj ≤ 9223372036854775807) (hn : -9223372036854775808 ≤ name ∧ name ≤ 9223372036854775807) :
    Calls Tryz.prog 25 #[.agg #[.slice ao zs.length cap], .int .i64 obj, .int .i64 name] w fun e w' => e = .returned (lookV zs obj name) ∧ Kept w w' := by
  have b0 := Cells.new w 26 #[.slice ao zs.length cap]
  have k0 : Kept w (w.alloc (.cells #[.slice ao zs.length cap] 26)) := Kept.alloc (Below.refl _ _) _
  have hA := canAsk_ok _ ao cap zs obj name (hI.kept k0) hl ho hn
  cases hk : askR zs obj name with
  | false =>
    have HR : Hid (lookV zs obj name = .tuple #[.int .i64 0, .bool false]) := by simp [Hid, lookV, hk]
    rw [hk] at hA
    clear hI hk
    go_enter Tryz.func25, Tryz.ntmps25
    go_wp2_with (go_at_call 65; refine hA.mono ?_; rintro e w1 ⟨rfl, hk1⟩)
    refine bodyPost_ret (v := .tuple #[.int .i64 0, .bool false]) (by simp [results, Tryz.results25, go_sem]) rfl ⟨by rw [HR.out], k0.trans hk1⟩
  | true =>
    rw [hk] at hA
    obtain ⟨hh, hob, _⟩ := ask_facts hk
    obtain ⟨h5, hv⟩ := isOb_facts hob
    have HU : Hid (∀ u, Kept w u → Calls Tryz.prog 67 #[.slice ao zs.length cap, .int .i64 obj, .int .i64 name] u fun e w' => e = .returned (pairV (lookF zs name zs.length obj)) ∧ Kept u w') := fun u hu => lookUp_ok u ao cap zs obj name (hI.kept hu) hl hh h5 hv
    have HLV : Hid (lookV zs obj name = pairV (lookF zs name zs.length obj)) := by rw [Hid, lookV, if_pos hk]
    clear hk hob hI
    cases hx : lookF zs name zs.length obj with
    | none =>
      rw [hx] at HU HLV
      simp only [pairV] at HU HLV
      go_enter Tryz.func25, Tryz.ntmps25
      go_wp2_with (first
        | (have _tk := hk1; go_at_call 67; refine (HU.out _ (k0.trans hk1)).mono ?_; rintro e w2 ⟨rfl, hk2⟩)
        | (go_at_call 65; refine hA.mono ?_; rintro e w1 ⟨rfl, hk1⟩; have c0 := (b0.kept hk1).cell 0))
      refine bodyPost_ret (v := .tuple #[.int .i64 0, .bool false]) (by simp [results, Tryz.results25, go_sem]) rfl ⟨by rw [HLV.out], (k0.trans hk1).trans hk2⟩
    | some x =>
      rw [hx] at HU HLV
      simp only [pairV] at HU HLV
      go_enter Tryz.func25, Tryz.ntmps25
      go_wp2_with (first
        | (have _tk := hk1; go_at_call 67; refine (HU.out _ (k0.trans hk1)).mono ?_; rintro e w2 ⟨rfl, hk2⟩)
        | (go_at_call 65; refine hA.mono ?_; rintro e w1 ⟨rfl, hk1⟩; have c0 := (b0.kept hk1).cell 0))
      refine bodyPost_ret (v := .tuple #[.int .i64 x, .bool true]) (by simp [results, Tryz.results25, go_sem]) rfl ⟨by rw [HLV.out], (k0.trans hk1).trans hk2⟩
end Go.Proofs.YtpbafjcoomfooaaGreat
namespace Go.Proofs.YtpbafjcoomfooaaGreat
open Go.RowKit

set_option maxHeartbeats 8000000 in
set_option maxRecDepth 100000 in
theorem spec_Look_ok (w : World) (ao : Option Addr) (cap : Nat) (zs : List Int) (obj name : Int) (hI : Ints w ao zs) (hl : zs.length ≤ 1048576) (ho : -9223372036854775808 ≤ obj ∧ obj ≤ 9223372036854775807) (hn : -9223372036854775808 ≤ name ∧ name ≤ 9223372036854775807) :
    Calls Tryz.prog 30 #[.agg #[.slice ao zs.length cap], .int .i64 obj, .int .i64 name] w fun e w' => e = .returned (lookV zs obj name) ∧ Kept w w' := by
  have b0 := Cells.new w 26 #[.slice ao zs.length cap]
  have k0 : Kept w (w.alloc (.cells #[.slice ao zs.length cap] 26)) := Kept.alloc (Below.refl _ _) _
  have hKd := fun (u : World) => spec_Kind_ok name u
  by_cases h4 : name % 8 = 4
  · have hL := l5Is_at _ ao cap zs [obj, name] 2 5 #[.int .i64 obj, .int .i64 name] rfl rfl (by simp only [List.mem_cons, List.not_mem_nil, or_false]; rintro z (rfl | rfl); exact ho; exact hn) (by omega) (by omega) (hI.kept k0) hl
    simp only [World.size_alloc] at hL
    have hd : (name % 8 != 4) = false := by simpa using h4
    have c0' := b0.cell 0
    cases hr : isR zs [obj, name] 5 with
    | false =>
      have HR : Hid (lookV zs obj name = .tuple #[.int .i64 0, .bool false]) := by simp [Hid, lookV, ask_is, hr]
      rw [hr] at hL
      clear hr hI
      go_enter Tryz.func30, Tryz.ntmps30
      go_wp2_with (first | (go_at_call 50; refine (hKd _).mono ?_; rintro e wx ⟨rfl, rfl⟩) | (go_at_call 61; refine hL.mono ?_; rintro e w1 ⟨rfl, hk1⟩))
      refine bodyPost_ret (v := .tuple #[.int .i64 0, .bool false]) (by simp [results, Tryz.results30, go_sem]) rfl ⟨by rw [HR.out], k0.trans hk1⟩
    | true =>
      have hk : askR zs obj name = true := by rw [ask_is, hr]; simp [h4]
      rw [hr] at hL
      obtain ⟨hh, hob, _⟩ := ask_facts hk
      obtain ⟨h5, hv⟩ := isOb_facts hob
      have hCl := fun (u : World) (hu : Kept w u) => l5Look_ok u ao cap zs obj name (hI.kept hu) hl hh h5 hv
      have e0 : lookV zs obj name = pairV (lookF zs name zs.length obj) := by rw [lookV, if_pos hk]
      obtain ⟨x, b, hxb⟩ := lookV_tuple zs obj name
      rw [← e0, hxb] at hCl
      have HCl : Hid _ := hCl
      have HR : Hid _ := hxb
      clear hr hk hh hob h5 hv hCl e0 hxb hI
      go_enter Tryz.func30, Tryz.ntmps30
      go_wp2_with (first | (go_at_call 50; refine (hKd _).mono ?_; rintro e wx ⟨rfl, rfl⟩) | (go_at_call 61; refine hL.mono ?_; rintro e w1 ⟨rfl, hk1⟩; have c1 := (b0.kept hk1).cell 0) | (go_at_call 69; refine (HCl.out _ (k0.trans hk1)).mono ?_; rintro e w2 ⟨rfl, hk2⟩))
      refine bodyPost_ret (v := .tuple #[.int .i64 x, .bool b]) (by simp [results, Tryz.results30, go_sem]) rfl ⟨by rw [HR.out], (k0.trans hk1).trans hk2⟩
  · have HR : Hid (lookV zs obj name = .tuple #[.int .i64 0, .bool false]) := by simp [Hid, lookV, ask_is, h4]
    have hd : (name % 8 != 4) = true := by simpa using h4
    clear hI
    go_enter Tryz.func30, Tryz.ntmps30
    go_wp2_with (first | (go_at_call 50; refine (hKd _).mono ?_; rintro e wx ⟨rfl, rfl⟩))
    refine bodyPost_ret (v := .tuple #[.int .i64 0, .bool false]) (by simp [results, Tryz.results30, go_sem]) rfl ⟨by rw [HR.out], k0⟩
end Go.Proofs.YtpbafjcoomfooaaGreat
