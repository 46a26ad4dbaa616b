/-
  A range over a function whose rounds know what lies in memory where they are called: the statement, and one round.
  To which block a value leads (chapter 8's program): the contract of leadsTo.
  Facts on lists: where the blocks that are not free go when they are slid, as the program works it out (chapter 10).
  Ranges over the blocks of a slab, and over those that are not free (takenOf): the loop's body is told which block comes, and never leaves.
  The contracts of chapter 10's forwardOf, place and moved, and of impl.Moved.
  The contract of chapter 8's model l8Block.
  The contracts of chapter 10's place and moved, of impl.Moved and its model.
  The contract of spec.Forward.
  The contracts of impl.each at the method values place and moved, and of impl.Forward.
-/
import Derived.Deep.AppendLies
import Derived.Deep.RegionWith
import Derived.Test.YtaeeoehmocelhaaGreatDoorSlabT
import Derived.Test.YtaeeoehmocelhaaGreatDoorShapeD
import Derived.Test.YtaeeoehmocelhaaGreatDoorGrpB
import Derived.Test.YtaeeoehmocelhaaGreatDoorGrpO
import Derived.Test.YtaeeoehmocelhaaGreatDoorSlabU
import Derived.Test.YtaeeoehmocelhaaGreatDoorShapeQ
import Derived.Test.YtaeeoehmocelhaaGreatDoorGrpD
import Derived.Test.YtaeeoehmocelhaaGreatDoorVal
import Derived.Test.YtaeeoehmocelhaaGreatDoorGrpC
namespace Go.Proofs.YtaeeoehmocelhaaGreatDoor
open Go.RowKit Go.Shelf
attribute [local go_sem] Oper.semAt_some

/-- The record of a loop that is the outermost one. -/
abbrev recL (fn : FuncId) (tmps : Array Value) (ps : Array Tmp) (assign body : Code) (D : Nat) (st : LoopState) (pe : Option Code) : Loop := { state := st, pending := pe, fn := fn, tmps := tmps, params := ps, assign := assign, body := body, defers := D }
theorem range_told {n : Nat} {P : Program} {g : Operand} {ps : Array Tmp} {assign body : Code} {Q : Exit → Act → World → Prop} {a : Act} {w : World} (h1 : 1 ≤ n) {gf : Nat} {lb : Array Value} (hg : a.eval g = .func (.func gf) #[] lb) (eg : ∀ args w, (callFunc gf args).run P w = .ok (.enter gf args) w)
    (hcall : ∀ fn, CallsIn Fence.wide (n - 1) P gf (#[.func (.yield (w.heap.size + 1)) #[] #[]] ++ lb) ((w.alloc (.deferred (some []))).alloc (.loop (recL fn a.tmps ps assign body w.heap.size .ready none))) fun e W' =>
      (∃ v, e = .returned v) ∧ ∃ (r : Loop) (W4 : World), W'.heap[w.heap.size + 1]? = some (.loop r) ∧ r.state ≠ .busy ∧ W'.putObj (w.heap.size + 1) (.loop { r with state := .exhausted }) = W4 ∧
        ((r.pending = none ∧ Q .normal { a with defers := { target := .collected w.heap.size, args := #[] } :: a.defers } W4) ∨ ∃ c, r.pending = some c ∧ c.wpIn Fence.wide n P Q { a with defers := { target := .collected w.heap.size, args := #[] } :: a.defers } W4)) :
    (Code.rangeFunc g ps assign body).wpIn Fence.wide n P Q a w := by
  refine wpIn_rangeFunc ?_
  intro fn _
  refine ⟨w.heap.size + 1, [{ target := .collected w.heap.size, args := #[] }], ((w.alloc (.deferred (some []))).alloc (.loop (recL fn a.tmps ps assign body w.heap.size .ready none))), { target := .fn (.func gf) lb, args := #[.func (.yield (w.heap.size + 1)) #[] #[]] }, ((w.alloc (.deferred (some []))).alloc (.loop (recL fn a.tmps ps assign body w.heap.size .ready none))), gf, #[.func (.yield (w.heap.size + 1)) #[] #[]] ++ lb, ((w.alloc (.deferred (some []))).alloc (.loop (recL fn a.tmps ps assign body w.heap.size .ready none))), run_enterLoop_outer _ _ _ _ _, ?_, fun _ _ => trivial, ?_, fun _ => h1, ?_⟩
  · simp only [resolve, hg]
    simp [go_sem]
  · simp [invoke, go_sem, eg]
  · refine (hcall fn).mono ?_
    rintro e W' ⟨⟨v, rfl⟩, r, W4, hr, hb, rfl, h⟩
    refine ⟨r.pending, _, run_endLoop hr hb, ?_⟩
    rcases h with ⟨e, h⟩ | ⟨c, e, h⟩
    · rw [e] at h ⊢; exact h
    · rw [e] at h ⊢; exact h
/-- One round that goes on, or returns. -/
theorem round_told {m : Nat} {P : Program} {l : Nat} {r : Loop} {args : Array Value} {W : World} {R : Ending → World → Prop} (hl : W.heap[l]? = some (.loop r)) (hr : r.state = .ready) (hs : args.size = r.params.size)
    (h : r.assign.wpIn (Fence.wide.inRound l) m P (Exit.then (fun a1 W1 => W1.heap[l]? = some (.loop r) ∧ r.body.wpIn (Fence.wide.inRound l) m P (fun e _ W3 => W3.heap[l]? = some (.loop { r with state := .busy }) ∧
        ((e = .normal ∧ R (.returned (.bool true)) (W3.putObj l (.loop { r with state := .ready, pending := none }))) ∨ (e = .ret ∧ R (.returned (.bool false)) (W3.putObj l (.loop { r with state := .done, pending := some .ret }))))) a1 (W1.putObj l (.loop { r with state := .busy }))) (fun _ _ _ => False))
      { tmps := (r.params.zip args).foldl (fun tmps (t, a) => tmps.setIfInBounds t a) r.tmps, defers := [] } W) :
    YieldAt Fence.wide m P l args W R := by
  refine ⟨r.fn, _, r.assign, r.body, run_yield hl hs, roundIn_of_wpIn trivial (Code.wpIn_mono (fun e a1 W1 h1 => ?_) h)⟩
  cases e with
  | normal =>
    obtain ⟨h2, h3⟩ := h1
    refine ⟨_, run_beginRound h2 hr, Code.wpIn_mono (fun e a3 W3 h4 => ?_) h3⟩
    obtain ⟨h5, ⟨rfl, h6⟩ | ⟨rfl, h6⟩⟩ := h4
    · exact ⟨_, _, run_endRound none h5, h6⟩
    · exact ⟨_, _, run_endRound (some .ret) h5, h6⟩
  | _ => exact h1.elim

end Go.Proofs.YtaeeoehmocelhaaGreatDoor
namespace Go.Proofs.YtaeeoehmocelhaaGreatDoor
open Go.RowKit

/-- What leadsTo tells. -/
def leadV (zs : List Int) (v : Int) : Bool := decide (4 ≤ v % 8) && (valR zs 11 v || valR zs 6 v)
theorem valR_lead {zs : List Int} {r v : Int} (h : valR zs r v = true) : leadV zs v = decide (4 ≤ v % 8) := by
  unfold leadV
  by_cases h4 : 4 ≤ v % 8
  · have hm : v % 8 < 8 := by omega
    simp only [decide_eq_true h4, Bool.true_and]
    unfold valR at h ⊢
    simp only [decide_eq_true h4, Bool.not_true, Bool.false_or, Bool.and_eq_true, decide_eq_true_eq] at h ⊢
    obtain ⟨⟨h1, h2⟩, h3⟩ := h
    rw [h1, h3]
    have t11 : takesR 11 (v % 8) = true := by simp [takesR]
    rw [t11]
    by_cases hr : r = 6
    · subst hr
      rw [h2]
      simp
    · have e : goalR r (v % 8) = goalR 11 (v % 8) := by unfold goalR; simp [hr]
      rw [e]
      simp
  · simp [h4]
theorem lead_kind {zs : List Int} {v : Int} (h : leadV zs v = true) : 4 ≤ v % 8 ∧ 1 ≤ kindAt zs (v / 8) := by
  unfold leadV at h
  simp only [Bool.and_eq_true, Bool.or_eq_true, decide_eq_true_eq] at h
  refine ⟨h.1, ?_⟩
  rcases h.2 with h2 | h2
  all_goals (
    unfold valR at h2
    simp only [decide_eq_true h.1, Bool.not_true, Bool.false_or, Bool.and_eq_true, decide_eq_true_eq] at h2
    rw [h2.2]
    exact goal_pos _ _)
theorem slots_val {zs : List Int} (hok : slabOk zs = true) {b : BkOf zs.length} (hb : b ∈ blocks zs) (hr : blkR zs b.1.at' b.1.size b.1.kind = true) : ∀ v ∈ (slotsL zs ((b.1.at' : Nat) : Int)).map (fun j => hz zs j.toNat), ∃ r, valR zs r v = true := by
  have ha := atB_mem hok hb
  have hlen := (slabOk_iff.1 hok).1
  have hble := b.2.2.1
  have hk5 := b.2.2.2
  intro v hv
  unfold slotsL at hv
  rw [ha] at hv
  obtain ⟨x, hx, rfl⟩ := List.mem_map.1 hv
  obtain ⟨k, hk, e⟩ := List.getElem_of_mem hx
  simp only at hk e
  have hoff : 1 ≤ slOff b.1.kind := by unfold slOff; split <;> omega
  have hk' := hk
  rw [slL, someL_len] at hk'
  have e' : x = ((b.1.at' + slOff b.1.kind + k : Nat) : Int) := by
    rw [← e]
    have := someL_at (a := b.1.at' + slOff b.1.kind) hk'
    rw [← this]
    unfold hz slL
    rw [List.getElem?_eq_getElem (by rw [someL_len]; exact hk')]
    rfl
  rw [e', Int.toNat_natCast]
  unfold blkR at hr
  rw [Bool.and_eq_true, wordsR_iff] at hr
  have hw := hr.2 (slOff b.1.kind + k) (by omega) (by omega)
  have hrole := role_value hk5 (hz zs (b.1.at' + 1)) (k := slOff b.1.kind + k) (by omega) (by omega)
  rw [show decide (slOff b.1.kind ≤ slOff b.1.kind + k ∧ slOff b.1.kind + k < slOff b.1.kind + slMany b.1.kind) = true by simp; omega] at hrole
  simp only [decide_eq_true_eq] at hrole
  rw [show b.1.at' + (slOff b.1.kind + k) = b.1.at' + slOff b.1.kind + k by omega] at hw
  unfold wordR at hw
  rw [if_neg (by omega), if_neg (by omega), if_neg (by omega), if_neg (by omega), if_neg (by omega)] at hw
  exact ⟨_, hw⟩
set_option maxHeartbeats 4000000 in
set_option maxRecDepth 100000 in
theorem leadsTo_yes (w : World) (lo : Option Addr) (lc : Nat) (zs : List Int) (v : Int) (hI : Ints w lo (lyt zs)) (h0 : -9223372036854775808 ≤ v) (h1 : v ≤ 9223372036854775807) (hy : leadV zs v = true) :
    Calls Tryz.prog 71 #[.slice lo zs.length lc, .int .i64 v] w fun e w' => e = .returned (.tuple #[.int .i64 (v / 8), .bool true]) ∧ w = w' := by
  unfold leadV at hy
  simp only [Bool.and_eq_true, Bool.or_eq_true, decide_eq_true_eq] at hy
  obtain ⟨h4, hy⟩ := hy
  have hV := fun r => valueOk_ok w lo lc zs r v hI h0 h1
  have hK := impl_Kind_ok v w
  have hL := leads_ok (v % 8) w (by omega)
  have hN := impl_Num_ok v w h0 h1
  rw [decide_eq_true h4] at hL
  have V11 := hV 11
  have V6 := hV 6
  clear hV hI
  cases h11 : valR zs 11 v with
  | true =>
    rw [h11] at V11
    clear h11 V6 hy
    go_enter Tryz.func71, Tryz.ntmps71
    go_wp2_with fail
    refine hK.mono ?_
    rintro e w1 ⟨rfl, rfl⟩
    go_wp2_with fail
    refine hL.mono ?_
    rintro e w1 ⟨rfl, rfl⟩
    go_wp2_with fail
    refine V11.mono ?_
    rintro e w1 ⟨rfl, rfl⟩
    go_wp2_with fail
    refine hN.mono ?_
    rintro e w1 ⟨rfl, rfl⟩
    go_wp2_with fail
    go_ret2
    exact ⟨rfl, rfl⟩
  | false =>
    have h6 : valR zs 6 v = true := by
      rcases hy with h | h
      · rw [h11] at h; cases h
      · exact h
    rw [h11] at V11
    rw [h6] at V6
    clear h11 h6 hy
    go_enter Tryz.func71, Tryz.ntmps71
    go_wp2_with fail
    refine hK.mono ?_
    rintro e w1 ⟨rfl, rfl⟩
    go_wp2_with fail
    refine hL.mono ?_
    rintro e w1 ⟨rfl, rfl⟩
    go_wp2_with fail
    refine V11.mono ?_
    rintro e w1 ⟨rfl, rfl⟩
    go_wp2_with fail
    refine V6.mono ?_
    rintro e w1 ⟨rfl, rfl⟩
    go_wp2_with fail
    refine hN.mono ?_
    rintro e w1 ⟨rfl, rfl⟩
    go_wp2_with fail
    go_ret2
    exact ⟨rfl, rfl⟩
set_option maxHeartbeats 4000000 in
set_option maxRecDepth 100000 in
theorem leadsTo_no (w : World) (lo : Option Addr) (lc : Nat) (zs : List Int) (v : Int) (hI : Ints w lo (lyt zs)) (h0 : -9223372036854775808 ≤ v) (h1 : v ≤ 9223372036854775807) (hy : leadV zs v = false) :
    Calls Tryz.prog 71 #[.slice lo zs.length lc, .int .i64 v] w fun e w' => e = .returned (.tuple #[.int .i64 0, .bool false]) ∧ w = w' := by
  unfold leadV at hy
  have hV := fun r => valueOk_ok w lo lc zs r v hI h0 h1
  have hK := impl_Kind_ok v w
  have hL := leads_ok (v % 8) w (by omega)
  have V11 := hV 11
  have V6 := hV 6
  clear hV hI
  by_cases h4 : 4 ≤ v % 8
  · rw [decide_eq_true h4] at hL hy
    simp only [Bool.true_and, Bool.or_eq_false_iff] at hy
    rw [hy.1] at V11
    rw [hy.2] at V6
    clear hy
    go_enter Tryz.func71, Tryz.ntmps71
    go_wp2_with fail
    refine hK.mono ?_
    rintro e w1 ⟨rfl, rfl⟩
    go_wp2_with fail
    refine hL.mono ?_
    rintro e w1 ⟨rfl, rfl⟩
    go_wp2_with fail
    refine V11.mono ?_
    rintro e w1 ⟨rfl, rfl⟩
    go_wp2_with fail
    refine V6.mono ?_
    rintro e w1 ⟨rfl, rfl⟩
    go_wp2_with fail
    go_ret2
    exact ⟨rfl, rfl⟩
  · rw [decide_eq_false h4] at hL
    clear hy V11 V6
    go_enter Tryz.func71, Tryz.ntmps71
    go_wp2_with fail
    refine hK.mono ?_
    rintro e w1 ⟨rfl, rfl⟩
    go_wp2_with fail
    refine hL.mono ?_
    rintro e w1 ⟨rfl, rfl⟩
    go_wp2_with fail
    go_ret2
    exact ⟨rfl, rfl⟩
end Go.Proofs.YtaeeoehmocelhaaGreatDoor
namespace Go.Proofs.YtaeeoehmocelhaaGreatDoor
open Go.RowKit

/-- The blocks that are not free. -/
def tkL {L : Nat} (l : List (BkOf L)) : List (BkOf L) := l.filter (fun b => !decide (b.1.kind = 0))
theorem tkL_app {L : Nat} (l m : List (BkOf L)) : tkL (l ++ m) = tkL l ++ tkL m := by simp [tkL]
theorem tkL_yes {L : Nat} {b : BkOf L} (h : b.1.kind ≠ 0) : tkL [b] = [b] := by simp [tkL, h]
theorem tkL_no {L : Nat} {b : BkOf L} (h : b.1.kind = 0) : tkL [b] = [] := by simp [tkL, h]
/-- How many words they have together. -/
def szsB {L : Nat} (l : List (BkOf L)) : Nat := (l.map (fun b => b.1.size)).sum
theorem szsB_app {L : Nat} (l m : List (BkOf L)) : szsB (l ++ m) = szsB l + szsB m := by simp [szsB]
theorem szsB_snoc {L : Nat} (l : List (BkOf L)) (b : BkOf L) : szsB (l ++ [b]) = szsB l + b.1.size := by simp [szsB]
theorem szsB_cons {L : Nat} (l : List (BkOf L)) (b : BkOf L) : szsB (b :: l) = b.1.size + szsB l := by simp [szsB]
theorem slidW_tk {L : Nat} (zs : List Int) (l : List (BkOf L)) : slidW zs (tkL l) = slidW zs l := by
  induction l with
  | nil => rfl
  | cons b r ih =>
    by_cases h : b.1.kind = 0
    · have e : tkL (b :: r) = tkL r := by simp [tkL, h]
      rw [e, ih]
      simp [slidW, h]
    · have e : tkL (b :: r) = b :: tkL r := by simp [tkL, h]
      rw [e]
      simp only [slidW, ih]
theorem slidW_szs {L : Nat} (zs : List Int) (l : List (BkOf L)) : (slidW zs l).length = szsB (tkL l) := by
  induction l with
  | nil => rfl
  | cons b r ih =>
    by_cases h : b.1.kind = 0
    · have e : tkL (b :: r) = tkL r := by simp [tkL, h]
      rw [e, ← ih]
      simp [slidW, h]
    · have e : tkL (b :: r) = b :: tkL r := by simp [tkL, h]
      rw [e, szsB_cons, ← ih]
      simp [slidW, h, blkW_len]
theorem movF_blks {zs : List Int} {x : BkOf zs.length} {r : List (BkOf zs.length)} : ∀ (q : List (BkOf zs.length)) (k t n : Nat), blks zs k = q ++ x :: r → zs.length < n + k → movF zs x.1.at' n k t = t + szsB (tkL q)
  | [], k, t, n, e, _ => by
    by_cases h : Good zs k
    · rw [blks_yes h] at e
      simp only [List.nil_append, List.cons.injEq] at e
      rw [movF_end (by rw [← e.1]; simp)]
      simp [tkL, szsB]
    · rw [blks_no h] at e
      simp at e
  | y :: q, k, t, n, e, hn => by
    by_cases h : Good zs k
    · rw [blks_yes h] at e
      simp only [List.cons_append, List.cons.injEq] at e
      have hk := h.lt
      have h2 := h.sz2
      have hx : k + sz zs k ≤ x.1.at' := ((Seg.of zs (k + sz zs k)).bd x.1 (by rw [e.2]; simp [raw])).1
      cases n with
      | zero => omega
      | succ n =>
        rw [movF_on (by omega), movF_blks q (k + sz zs k) _ n e.2 (by omega)]
        have hy1 : y.1.kind = kd zs k := by rw [← e.1]
        have hy2 : y.1.size = sz zs k := by rw [← e.1]
        by_cases hq : kd zs k = 0
        · have e1 : tkL (y :: q) = tkL q := by simp [tkL, hy1, hq]
          rw [e1]
          simp [hq]
        · have e1 : tkL (y :: q) = y :: tkL q := by simp [tkL, hy1, hq]
          rw [e1, szsB_cons, hy2]
          simp [hq]
          omega
    · rw [blks_no h] at e
      simp at e
/-- The place that a block gets is how many words those ahead of it have that are not free. -/
theorem movT_blks {zs : List Int} {q r : List (BkOf zs.length)} {x : BkOf zs.length} (e : blocks zs = q ++ x :: r) : movT zs x.1.at' = szsB (tkL q) := by
  have := movF_blks q 0 0 (zs.length + 1) e (by omega)
  rw [movT, this]
  omega
theorem tk_split {L : Nat} : ∀ {l : List (BkOf L)} {pre r : List (BkOf L)} {x : BkOf L}, tkL l = pre ++ x :: r → ∃ q s, l = q ++ x :: s ∧ tkL q = pre
  | [], pre, r, x, e => by simp [tkL] at e
  | b :: l, pre, r, x, e => by
    by_cases h : b.1.kind = 0
    · have e1 : tkL (b :: l) = tkL l := by simp [tkL, h]
      rw [e1] at e
      obtain ⟨q, s, h1, h2⟩ := tk_split e
      exact ⟨b :: q, s, by rw [h1]; rfl, by rw [← h2]; simp [tkL, h]⟩
    · have e1 : tkL (b :: l) = b :: tkL l := by simp [tkL, h]
      rw [e1] at e
      cases pre with
      | nil =>
        simp only [List.nil_append, List.cons.injEq] at e
        exact ⟨[], l, by rw [e.1]; rfl, rfl⟩
      | cons y pre =>
        simp only [List.cons_append, List.cons.injEq] at e
        obtain ⟨q, s, h1, h2⟩ := tk_split e.2
        refine ⟨b :: q, s, by rw [h1]; rfl, ?_⟩
        have e2 : tkL (b :: q) = b :: tkL q := by simp [tkL, h]
        rw [e2, h2, e.1]
theorem movT_tk {zs : List Int} {pre : List (BkOf zs.length)} {x : BkOf zs.length} (h : pre ++ [x] <+: tkL (blocks zs)) : movT zs x.1.at' = szsB pre ∧ x ∈ blocks zs ∧ x.1.kind ≠ 0 := by
  obtain ⟨r, e⟩ := h
  obtain ⟨q, s, h1, h2⟩ := tk_split (l := blocks zs) (pre := pre) (x := x) (r := r) (by rw [← e]; simp)
  refine ⟨by rw [movT_blks h1, h2], by rw [h1]; simp, ?_⟩
  have hm : x ∈ tkL (blocks zs) := by rw [← e]; simp
  simpa [tkL] using (List.mem_filter.1 hm).2
/-- Where the blocks go, as it is written down: at the place where each begins. -/
def toL (zs : List Int) (pre : List (BkOf zs.length)) : List Int := pre.foldl (fun l b => l.set b.1.at' ((movT zs b.1.at' : Nat) : Int)) (List.replicate zs.length 0)
theorem toL_snoc (zs : List Int) (pre : List (BkOf zs.length)) (x : BkOf zs.length) : toL zs (pre ++ [x]) = (toL zs pre).set x.1.at' ((movT zs x.1.at' : Nat) : Int) := by simp [toL]
theorem toF_len (zs : List Int) : ∀ (pre : List (BkOf zs.length)) (l : List Int), (pre.foldl (fun l b => l.set b.1.at' ((movT zs b.1.at' : Nat) : Int)) l).length = l.length
  | [], l => rfl
  | b :: r, l => by rw [List.foldl_cons, toF_len zs r]; simp
theorem toL_len (zs : List Int) (pre : List (BkOf zs.length)) : (toL zs pre).length = zs.length := by
  rw [toL, toF_len]; simp
theorem toF_at {zs : List Int} {x : BkOf zs.length} : ∀ (pre : List (BkOf zs.length)) (l : List Int), l.length = zs.length → x ∈ pre ∨ hz l x.1.at' = ((movT zs x.1.at' : Nat) : Int) → hz (pre.foldl (fun l b => l.set b.1.at' ((movT zs b.1.at' : Nat) : Int)) l) x.1.at' = ((movT zs x.1.at' : Nat) : Int)
  | [], l, _, h => by
    rcases h with h | h
    · simp at h
    · exact h
  | b :: r, l, hl, h => by
    rw [List.foldl_cons]
    refine toF_at r _ (by simpa using hl) ?_
    by_cases e : b.1.at' = x.1.at'
    · refine .inr ?_
      rw [e]
      unfold hz
      rw [List.getElem?_set_self (by rw [hl]; have := x.2; omega)]
      rfl
    · rcases h with h | h
      · rcases List.mem_cons.1 h with h | h
        · rw [h] at e; exact absurd rfl e
        · exact .inl h
      · refine .inr ?_
        unfold hz at h ⊢
        rw [List.getElem?_set_ne (by omega)]
        exact h
theorem toL_at {zs : List Int} {pre : List (BkOf zs.length)} {x : BkOf zs.length} (h : x ∈ pre) : hz (toL zs pre) x.1.at' = ((movT zs x.1.at' : Nat) : Int) := toF_at pre _ (by simp) (.inl h)
/-- What Moved tells of what is right. -/
def movdV (zs : List Int) (v : Int) : Int := if leadV zs v = true then movV zs v else v
def fwdL (zs : List Int) : List Int := if heapR zs = true then (tkL (blocks zs)).map (fun b => ((movT zs b.1.at' : Nat) : Int)) else []
def movedC (zs : List Int) (v : Int) : Int := if heapR zs = true then movdV zs v else v
theorem movdV_val {zs : List Int} {r v : Int} (h : valR zs r v = true) : movdV zs v = movV zs v := by
  unfold movdV
  rw [valR_lead h]
  by_cases h4 : 4 ≤ v % 8
  · simp [h4]
  · simp only [h4, decide_false, Bool.false_eq_true, if_false]
    unfold movV
    rw [if_pos (by omega)]
end Go.Proofs.YtaeeoehmocelhaaGreatDoor
namespace Go.Proofs.YtaeeoehmocelhaaGreatDoor
open Go.RowKit Go.Shelf
attribute [local go_sem] Oper.semAt_some

/-- What a round keeps: cells as KeepX has it, and all that is no cells from nB on. -/
def K2 (X : Nat → Prop) (nI nB : Nat) (W W' : World) : Prop := KeepX X nI W W' ∧ KeepsFrom nB W W'
/-- The contract of an iterator over blocks: it yields just these, in order. -/
def Tells (n gf : Nat) (lb : Array Value) {L : Nat} (l0 : List (BkOf L)) (X : Nat → Prop) (nI nB : Nat) (w : World) : Prop :=
  ∀ (l : Nat) (J : List (BkOf L) → World → Prop) (W : World), Kept w W → OwnFrom W.heap.size J →
    (∀ pre x W1, J pre W1 → pre ++ [x] <+: l0 → YieldAt Fence.wide (n - 1) Tryz.prog l #[bkV (x.1.at' : Nat) (x.1.size : Nat) (x.1.kind : Nat)] W1 fun e W' => e = .returned (.bool true) ∧ J (pre ++ [x]) W' ∧ K2 X nI nB W1 W') →
    J [] W → CallsIn Fence.wide n Tryz.prog gf (#[.func (.yield l) #[] #[]] ++ lb) W fun e W' => (∃ v, e = .returned v) ∧ J l0 W'

theorem own_kept {β : Type} {B : Nat} {I : β → World → Prop} (h : OwnFrom B I) {s : β} {W W' : World} (hs : I s W) (hk : Kept W W') : I s W' := h s W W' none hs hk.grown (fun _ e => by cases e)
theorem own_le {β : Type} {B B' : Nat} {I : β → World → Prop} (h : OwnFrom B I) (hB : B ≤ B') : OwnFrom B' I := fun s W W' row hs hg hr => h s W W' row hs hg (fun r e => ⟨Nat.le_trans hB (hr r e).1, (hr r e).2⟩)

theorem Cells.keptT {X : Nat → Prop} {nI : Nat} {W W' : World} {B : Nat} {t : TypeId} {cs : Array Value} (h : Cells W B t cs) (hk : KeepX X nI W W') (hx : ¬ X B) (ht : t ≠ 3) : Cells W' B t cs := hk.2 _ _ h rfl hx (fun x => by obtain ⟨_, cs', fr, e⟩ := x; simp at e; exact ht e.2.1)
set_option maxRecDepth 100000 in
set_option maxHeartbeats 2000000 in
theorem blocksOf_tells (n : Nat) (hn : 1 ≤ n) (Bs nX nI nB : Nat) (X : Nat → Prop) (ao : Option Addr) (cap : Nat) (zs : List Int) (hL : zs.length * 8 ≤ 140737488351232) (hXa : ∀ a, zs ≠ [] → ao = some a → ¬ X a.block ∧ a.block < nI) (hXb : ¬ X Bs) (hXn : ∀ k, X k → k < nX)
    (w : World) (hnX : nX ≤ w.heap.size) (hB : Cells w Bs 24 #[.slice ao zs.length cap]) (hI0 : Ints w ao zs) : Tells n 90 #[.pointer (some ⟨Bs, 0, none⟩)] (blocks zs) X nI nB w := by
  intro l J W hW hA hY h0
  have hBs := hB.kept hW
  have hI := hI0.kept hW
  have hBc := hBs.cell 0
  have hnX : nX ≤ W.heap.size := Nat.le_trans hnX hW.size
  refine callsIn_of_wp Tryz.func90 rfl trivial ?_ rfl
  simp only [Tryz.ntmps90, List.size_toArray, List.length_cons, List.length_nil, Nat.reduceAdd, Nat.reduceSub, Array.replicate_succ, Array.replicate_zero, List.push_toArray, List.append_toArray, List.nil_append, List.cons_append]
  clear hB hI0
  gi_wp2
  gi_loopw [3] (fun i wr => ∃ (k : Nat) (pre : List (BkOf zs.length)), i = .int .i64 k ∧ k ≤ zs.length ∧ pre ++ blks zs k = blocks zs ∧ J pre wr ∧ Cells wr Bs 24 #[.slice ao zs.length cap] ∧ Ints wr ao zs ∧ nX ≤ wr.heap.size)
    (fun i _ => zs.length - (intOf i).toNat)
  case atStart => exact ⟨0, [], rfl, Nat.zero_le _, rfl, h0, hBs, hI, hnX⟩
  case round =>
    obtain ⟨k, pre, rfl, hk, hpre, hJ, hBC, hIw, hnw⟩ := hrel
    have hBw := hBC.cell 0
    clear hBs hI h0 hnX hBc
    by_cases hlt' : k < zs.length
    · by_cases hg : Good zs k
      · have hle := hg.le
        have hs2 := hg.sz2
        gi_wp2_with (refine ⟨trivial, ?_⟩; gi_at_call 91; refine (callsIn_wide.2 (readBlock_good _ ao cap zs k hIw hg hL)).mono ?_; rintro e w1 ⟨rfl, hk1⟩; have hkA := hk1.alloc (.cells #[.int .i64 k, .int .i64 (sz zs k), .int .i64 (kd zs k)] 56); obtain ⟨fn, tmps, assign, body, hy, hR⟩ := hY pre ⟨⟨k, sz zs k, kd zs k⟩, hg.sz2, hg.le, hg.kd5⟩ _ (own_kept hA hJ hkA) (by rw [← hpre, blks_yes hg]; exact ⟨blks zs (k + sz zs k), by simp⟩); dsimp only at hy)
        refine hR.mono ?_
        rintro e W3 ⟨rfl, hJ3, hk3, _⟩
        have hnew := World.alloc_heap_new w1 (.cells #[.int .i64 k, .int .i64 (sz zs k), .int .i64 (kd zs k)] 56)
        have hb3 := hk3.2 _ _ hnew rfl (fun h => by have := hXn _ h; have := hk1.size; omega) (fun h => by obtain ⟨_, cs, fr, e⟩ := h; simp at e)
        have c0 : W3.cell? ⟨w1.heap.size, 0, none⟩ = some (.int .i64 k) := by simp [World.cell?, hb3]
        have c1 : W3.cell? ⟨w1.heap.size, 1, none⟩ = some (.int .i64 (sz zs k)) := by simp [World.cell?, hb3]
        have c2 : W3.cell? ⟨w1.heap.size, 2, none⟩ = some (.int .i64 (kd zs k)) := by simp [World.cell?, hb3]
        have hBC3 := (hBC.kept hkA).keptT hk3 hXb (by decide)
        have hcB := hBC3.cell 0
        have hI3 := hk3.ints (hIw.kept hkA) hXa
        have hn3 : nX ≤ W3.heap.size := Nat.le_trans hnw (Nat.le_trans hkA.size hk3.1)
        clear hR hy hb3 hnew hY
        gi_wp2_with (refine ⟨trivial, ?_⟩; gi_at_call 89; refine (callsIn_wide.2 (end_ok _ _ _ _ (by omega) (by omega))).mono ?_; rintro e w4 ⟨rfl, rfl⟩)
        go_roundw
        case rel => exact ⟨k + sz zs k, _, by go_num, hle, by rw [← hpre, blks_yes hg]; simp, own_kept hA hJ3 (Kept.alloc (Below.refl _ _) _), hBC3.alloc _, hI3.kept (Kept.alloc (Below.refl _ _) _), by simp; omega⟩
        case measure => simp [intOf]; omega
      · gi_wp2_with (refine ⟨trivial, ?_⟩; gi_at_call 91; refine (callsIn_wide.2 (readBlock_bad _ ao cap zs k hIw hlt' hg hL)).mono ?_; rintro e w1 ⟨rfl, hk1⟩)
        refine ⟨fun _ _ => trivial, ?_⟩
        gi_wp2
        refine bodyPost_ret (results_none rfl _ _ _) rfl ?_
        refine ⟨⟨_, rfl⟩, ?_⟩
        rw [show blocks zs = pre by rw [← hpre, blks_no hg]; simp]
        exact own_kept hA hJ (hk1.alloc _)
    · obtain rfl : k = zs.length := by omega
      gi_wp2
      go_end0
      refine ⟨⟨_, rfl⟩, ?_⟩
      rw [show blocks zs = pre by rw [← hpre, blks_no (fun h => hlt' h.lt)]; simp]
      exact hJ

set_option maxHeartbeats 1000000 in
/-- 'for b := range ..', whatever its body, which never leaves: the body is walked once, told which block comes, at a block of its own for b. -/
theorem range_tells {g : Operand} {p d r gf L : Nat} {pos pos' : String} {aft : Array Edge} {body : Code} {Q : Exit → Act → World → Prop} {a : Act} {w : World} {n : Nat} {X : Nat → Prop} {nI : Nat} {lb : Array Value} {l0 : List (BkOf L)}
    (hn : 2 ≤ n) (hg : a.eval g = .func (.func gf) #[] lb) (eg : ∀ args w, (callFunc gf args).run Tryz.prog w = .ok (.enter gf args) w) (hp : p < a.tmps.size) (hd : d < a.tmps.size) (hpd : p ≠ d)
    (hT : Tells (n - 1) gf lb l0 X nI w.heap.size w)
    (I : List (BkOf L) → World → Prop) (hOI : OwnFrom w.heap.size I) (h0 : I [] w)
    (hbody : ∀ (l : Nat) (pre : List (BkOf L)) (x : BkOf L) (W : World) (Bx : Nat), w.heap.size ≤ Bx → Cells W Bx 56 (bkC (x.1.at' : Nat) (x.1.size : Nat) (x.1.kind : Nat)) → I pre W → pre ++ [x] <+: l0 →
      body.wpIn (Fence.wide.inRound l) (n - 1 - 1) Tryz.prog (fun e _ W' => e = .normal ∧ KeepsFrom w.heap.size W W' ∧ KeepX X nI W W' ∧ I (pre ++ [x]) W') { tmps := (a.tmps.setIfInBounds p (bkV (x.1.at' : Nat) (x.1.size : Nat) (x.1.kind : Nat))).setIfInBounds d (.pointer (some ⟨Bx, 0, none⟩)), defers := [] } W)
    (hdone : ∀ (D : Nat) (W : World), w.heap.size ≤ D → I l0 W → W.heap[D]? = some (.deferred (some [])) → Q .normal { a with defers := { target := .collected D, args := #[] } :: a.defers } W) :
    (Code.rangeFunc g #[p] (Code.region r #[{ dst := some d, op := Op.alloc 56, type := 0, pos := pos, after := #[], guard := none }, { dst := none, op := Op.store 56 (Operand.tmp d) (Operand.tmp p), type := 0, pos := pos', after := aft, guard := none }] false) body).wpIn Fence.wide n Tryz.prog Q a w := by
  refine range_told (by omega) hg eg (fun fn => ?_)
  obtain ⟨asg, has⟩ : ∃ asg, Code.region r #[{ dst := some d, op := Op.alloc 56, type := 0, pos := pos, after := #[], guard := none }, { dst := none, op := Op.store 56 (Operand.tmp d) (Operand.tmp p), type := 0, pos := pos', after := aft, guard := none }] false = asg := ⟨_, rfl⟩
  rw [has]
  obtain ⟨R0, hR0⟩ : ∃ R0, recL fn a.tmps #[p] asg body w.heap.size .ready none = R0 := ⟨_, rfl⟩
  rw [hR0]
  have kW : Kept w ((w.alloc (.deferred (some []))).alloc (.loop R0)) := (Kept.alloc (Below.refl _ _) _).alloc _
  have hsz : ((w.alloc (.deferred (some []))).alloc (.loop R0)).heap.size = w.heap.size + 2 := by simp
  have hl1 : ((w.alloc (.deferred (some []))).alloc (.loop R0)).heap[w.heap.size + 1]? = some (.loop R0) := by
    have := World.alloc_heap_new (w.alloc (.deferred (some []))) (.loop R0); rwa [World.size_alloc] at this
  have hd1 : ((w.alloc (.deferred (some []))).alloc (.loop R0)).heap[w.heap.size]? = some (.deferred (some [])) :=
    (Below.heap_alloc _ _ _ (by simp)).trans (World.alloc_heap_new w _)
  have key := hT (w.heap.size + 1) (fun pre W => I pre W ∧ W.heap[w.heap.size + 1]? = some (.loop R0) ∧ W.heap[w.heap.size]? = some (.deferred (some []))) _ kW ?own ?round ⟨own_kept hOI h0 kW, hl1, hd1⟩
  · refine key.mono ?_
    rintro e W' ⟨hv, hi, hl, hD⟩
    refine ⟨hv, R0, _, hl, by rw [← hR0]; simp, rfl, .inl ⟨by rw [← hR0], ?_⟩⟩
    exact hdone _ _ (Nat.le_refl _) (hOI.putObj _ hi (by omega) hl rfl) ((World.putObj_heap_other (by omega)).trans hD)
  case own =>
    rintro s A B row ⟨h1, h2, h3⟩ hg' hr
    refine ⟨hOI s A B row h1 hg' (fun k e => ⟨by have := (hr k e).1; omega, (hr k e).2⟩), ?_, ?_⟩
    · exact (hg'.block _ (Array.getElem?_eq_some_iff.1 h2).1 (fun e => by have := (hr _ e.symm).1; omega)).trans h2
    · exact (hg'.block _ (Array.getElem?_eq_some_iff.1 h3).1 (fun e => by have := (hr _ e.symm).1; omega)).trans h3
  case round =>
    rintro pre x W ⟨hi, hl, hD⟩ hpre
    have hlt : w.heap.size + 1 < W.heap.size := (Array.getElem?_eq_some_iff.1 hl).1
    subst hR0
    refine round_told hl rfl (by simp) ?_
    have hz : ∀ v : Value, ((#[p] : Array Tmp).zip #[v]).foldl (fun t (p, v) => t.setIfInBounds p v) a.tmps = a.tmps.setIfInBounds p v := fun v => by simp
    show asg.wpIn _ _ _ _ { tmps := ((#[p] : Array Tmp).zip #[_]).foldl (fun t (p, v) => t.setIfInBounds p v) a.tmps, defers := [] } W
    rw [hz, ← has]
    refine assign_b hp hd hpd _ _ _ ?_
    have hk : Kept W (W.alloc (.cells (bkC (x.1.at' : Nat) (x.1.size : Nat) (x.1.kind : Nat)) 56)) := Kept.alloc (Below.refl _ _) _
    have bX := Cells.new W 56 (bkC (x.1.at' : Nat) (x.1.size : Nat) (x.1.kind : Nat))
    obtain ⟨W2, hW2⟩ : ∃ W2, W.alloc (.cells (bkC (x.1.at' : Nat) (x.1.size : Nat) (x.1.kind : Nat)) 56) = W2 := ⟨_, rfl⟩
    rw [hW2] at hk bX ⊢
    have hl2 := (hk.block _ hlt).trans hl
    have hD2 := (hk.block _ (show w.heap.size < W.heap.size by omega)).trans hD
    have hi2 := own_kept hOI hi hk
    have hlt2 : w.heap.size + 1 < W2.heap.size := Nat.lt_of_lt_of_le hlt hk.size
    refine ⟨by rw [hl2, has], ?_⟩
    obtain ⟨RB, hRB⟩ : ∃ RB : Loop, { recL fn a.tmps #[p] asg body w.heap.size .ready none with state := LoopState.busy } = RB := ⟨_, rfl⟩
    have hRB' : { recL fn a.tmps #[p] (Code.region r #[{ dst := some d, op := Op.alloc 56, type := 0, pos := pos, after := #[], guard := none }, { dst := none, op := Op.store 56 (Operand.tmp d) (Operand.tmp p), type := 0, pos := pos', after := aft, guard := none }] false) body w.heap.size .ready none with state := LoopState.busy } = RB := by rw [has]; exact hRB
    have hl3 : (W2.putObj (w.heap.size + 1) (.loop RB)).heap[w.heap.size + 1]? = some (.loop RB) := World.putObj_heap_same hlt2
    have hD3 : (W2.putObj (w.heap.size + 1) (.loop RB)).heap[w.heap.size]? = some (.deferred (some [])) := (World.putObj_heap_other (by omega)).trans hD2
    have hi3 : I pre (W2.putObj (w.heap.size + 1) (.loop RB)) := hOI.putObj _ hi2 (by omega) hl2 rfl
    have bX3 := bX.put hl2 rfl (.loop RB)
    rw [hRB']
    have hb := hbody (w.heap.size + 1) pre x _ W.heap.size (by omega) bX3 hi3 hpre
    refine Code.wpIn_mono (fun e a4 W4 h => ?_) hb
    obtain ⟨rfl, hKF, hKX, hi4⟩ := h
    have hl4 := hKF.same _ _ (by omega) hl3 rfl
    have hD4 := hKF.same _ _ (Nat.le_refl _) hD3 rfl
    have hlt4 := (Array.getElem?_eq_some_iff.1 hl4).1
    refine ⟨hl4, .inl ⟨rfl, rfl, ⟨hOI.putObj _ hi4 (by omega) hl4 rfl, ?_, (World.putObj_heap_other (by omega)).trans hD4⟩, ?_, ?_⟩⟩
    · rw [has]; exact World.putObj_heap_same hlt4
    · exact ((KeepX.of hk).t (KeepX.b _ _ _ _ hl2 rfl)).t (hKX.t (KeepX.b _ _ _ _ hl4 rfl))
    · refine ⟨?_, fun k o hkB hko hco => ?_⟩
      · have h1 := hk.size
        have h2 := hKF.size
        simp at h2 ⊢
        omega
      · by_cases e : k = w.heap.size + 1
        · subst e
          rw [hl] at hko
          cases hko
          rw [has]
          exact World.putObj_heap_same hlt4
        · refine (World.putObj_heap_other e).trans ?_
          refine hKF.same k o hkB ?_ hco
          refine (World.putObj_heap_other e).trans ?_
          exact (hk.block k (Array.getElem?_eq_some_iff.1 hko).1).trans hko

theorem takenOf_ok (ao : Option Addr) (len cap : Nat) (w : World) :
    Calls Tryz.prog 41 #[.slice ao len cap] w fun e w' => e = .returned (.func (.func 79) #[] #[.pointer (some ⟨w.heap.size, 0, none⟩)]) ∧ w' = w.alloc (.cells #[.slice ao len cap] 24) := by
  go_enter Tryz.func41, Tryz.ntmps41
  go_wp2
  go_ret
  exact ⟨rfl, rfl⟩
theorem round_wide {m : Nat} (l' m' : Nat) {P : Program} {l : Nat} {f : FuncId} {tmps : Array Value} {assign body : Code} {w : World} {R : Ending → World → Prop} (h : RoundIn Fence.wide m P l f tmps assign body w R) : RoundIn (Fence.wide.inRound l') m' P l f tmps assign body w R := ⟨trivial, fun c cs _ => h.2 c cs (room_wide _)⟩
theorem KeepX.own {β : Type} {X : Nat → Prop} {nI B : Nat} {W0 : World} (hB : W0.heap.size ≤ B) : OwnFrom B (fun (_ : β) W => KeepX X nI W0 W) := fun _ A C row h hg hr =>
  ⟨Nat.le_trans h.1 hg.size, fun k o e c x i => by
    have h1 := h.2 k o e c x i
    have h2 := (Array.getElem?_eq_some_iff.1 e).1
    exact (hg.block k (Array.getElem?_eq_some_iff.1 h1).1 (fun er => by have := (hr k er.symm).1; omega)).trans h1⟩
set_option maxRecDepth 100000 in
set_option maxHeartbeats 4000000 in
theorem takenOf_tells (n : Nat) (hn : 5 ≤ n) (Bs nX nI nB : Nat) (X : Nat → Prop) (ao : Option Addr) (cap : Nat) (zs : List Int) (hL : zs.length * 8 ≤ 140737488351232) (hXa : ∀ a, zs ≠ [] → ao = some a → ¬ X a.block ∧ a.block < nI) (hXn : ∀ k, X k → k < nX)
    (w : World) (hnX : nX ≤ w.heap.size) (hnB : nB ≤ w.heap.size) (hB : Cells w Bs 24 #[.slice ao zs.length cap]) (hI0 : Ints w ao zs) : Tells n 79 #[.pointer (some ⟨Bs, 0, none⟩)] (tkL (blocks zs)) X nI nB w := by
  intro l J W hW hA hY h0
  have hBW := hB.kept hW
  have hIW := hI0.kept hW
  have hsW := hW.size
  have hn1 : 1 ≤ n := by omega
  have b1 := (Cells.new W 97 #[.func (.yield l) #[] #[]]).alloc (.cells #[.slice ao zs.length cap] 24)
  have b2 := Cells.new (W.alloc (.cells #[.func (.yield l) #[] #[]] 97)) 24 #[.slice ao zs.length cap]
  simp only [World.size_alloc] at b2
  have k1 : Kept W ((W.alloc (.cells #[.func (.yield l) #[] #[]] 97)).alloc (.cells #[.slice ao zs.length cap] 24)) := (Kept.alloc (Below.refl _ _) _).alloc _
  have hBs := hBW.cell 0
  have lBs := hBW.lt
  have hBs' := (hBW.alloc (.cells #[.func (.yield l) #[] #[]] 97)).cell 0
  refine callsIn_of_wp_marks Tryz.func79 rfl trivial ?_ rfl
  simp only [Tryz.ntmps79, List.size_toArray, List.length_cons, List.length_nil, Nat.reduceAdd, Nat.reduceSub, Array.replicate_succ, Array.replicate_zero, List.push_toArray, List.append_toArray, List.nil_append, List.cons_append]
  gi_wp2_with (refine ⟨trivial, ?_⟩; gi_at_call 51; refine (callsIn_wide.2 (blocksOf_ok _ _ _ _)).mono ?_; rintro e w' ⟨rfl, rfl⟩)
  have hsz : ((W.alloc (.cells #[.func (.yield l) #[] #[]] 97)).alloc (.cells #[.slice ao zs.length cap] 24)).heap.size = W.heap.size + 2 := by simp
  obtain ⟨W0, hW0⟩ : ∃ W0, (W.alloc (.cells #[.func (.yield l) #[] #[]] 97)).alloc (.cells #[.slice ao zs.length cap] 24) = W0 := ⟨_, rfl⟩
  rw [hW0] at b1 b2 k1 hsz ⊢
  clear hW0 hBs hBs'
  refine range_tells (X := X) (nI := nI) (l0 := blocks zs) (n := n) (by omega) rfl (enters_of Tryz.func90 (by kernel_rfl) rfl) (by simp) (by simp) (by decide)
    (blocksOf_tells (n - 1) (by omega) (W.heap.size + 1) nX nI W0.heap.size X ao cap zs hL hXa (fun x => by have := hXn _ x; omega) hXn W0 (by omega) b2 (hIW.kept k1))
    (fun pre V => J (tkL pre) V ∧ KeepX X nI W0 V) ?oi ⟨own_kept hA h0 k1, KeepX.of (Below.refl _ _)⟩ ?body ?done
  case oi => exact OwnFrom.and (fun s A B row hs hg hr => hA (tkL s) A B row hs hg (fun r e => ⟨by have := (hr r e).1; omega, (hr r e).2⟩)) (KeepX.own (Nat.le_refl _))
  case body =>
    rintro l' pre x V Bx hBx bX ⟨hJ, hK⟩ hpre
    have y1 := b1.keptT hK (fun h => by have := hXn _ h; omega) (by decide)
    have c0 := bX.cell 0
    have c1 := bX.cell 1
    have c2 := bX.cell 2
    have cy := y1.cell 0
    have lX := bX.lt
    have ly := y1.lt
    have hn2 : 1 ≤ n - 1 - 1 := by omega
    simp only [List.setIfInBounds_toArray, List.set_cons_succ, List.set_cons_zero]
    by_cases hq : x.1.kind = 0
    · have HN : Hid (tkL (pre ++ [x]) = tkL pre) := by rw [Hid, tkL_app, tkL_no hq]; simp
      have hq' : (((x.1.kind : Nat) : Int) == 0) = true := by simp [hq]
      clear hq
      gi_wp2_with (refine ⟨trivial, ?_⟩; gi_at_call 80; refine (CallsIn.inRound l' (callsIn_wide.2 (free_ok _ _ _ _))).mono ?_; rintro e w4 ⟨rfl, rfl⟩)
      refine ⟨fun _ h => (by cases h), ?_⟩
      gi_wp2
      refine ⟨(KeepsOthers.alloc _ _).from _, KeepX.of (Kept.alloc (Below.refl _ _) _), ?_, hK.t (KeepX.of (Kept.alloc (Below.refl _ _) _))⟩
      rw [HN.out]
      exact own_kept hA hJ (Kept.alloc (Below.refl _ _) _)
    · have HN : Hid (tkL (pre ++ [x]) = tkL pre ++ [x]) := by rw [Hid, tkL_app, tkL_yes hq]
      have hq' : (((x.1.kind : Nat) : Int) == 0) = false := by simpa using hq
      have hp2 : tkL pre ++ [x] <+: tkL (blocks zs) := by
        obtain ⟨r, e⟩ := hpre
        exact ⟨tkL r, by rw [← e, tkL_app, HN.out]⟩
      have kx : Kept V (V.alloc (.cells #[.int .i64 (x.1.at' : Nat), .int .i64 (x.1.size : Nat), .int .i64 (x.1.kind : Nat)] 56)) := Kept.alloc (Below.refl _ _) _
      have e0 := (bX.kept kx).cell 0
      have e1 := (bX.kept kx).cell 1
      have e2 := (bX.kept kx).cell 2
      have ey := (y1.kept kx).cell 0
      obtain ⟨fn, tmps, assign, body, hy, hR⟩ := hY (tkL pre) x _ (own_kept hA hJ kx) hp2
      clear hq
      gi_wp2_with (refine ⟨trivial, ?_⟩; gi_at_call 80; refine (CallsIn.inRound l' (callsIn_wide.2 (free_ok _ _ _ _))).mono ?_; rintro e w4 ⟨rfl, rfl⟩)
      refine (round_wide l' (n - 1 - 1 - 1) hR).mono ?_
      rintro e V3 ⟨rfl, hJ3, hk3, hf3⟩
      clear hR hy e0 e1 e2 ey
      gi_wp2
      refine ⟨((KeepsOthers.alloc _ _).from _).trans ⟨hf3.size, fun k o hB' hk' ho' => hf3.same k o (by omega) hk' ho'⟩, (KeepX.of kx).t hk3, ?_, hK.t ((KeepX.of kx).t hk3)⟩
      rw [HN.out]
      exact hJ3
  case done =>
    rintro D V hD ⟨hJ, hK⟩ hd
    gi_wp2
    refine ⟨by simp, .inl ⟨_, _, rfl, run_takeDeferred hd, ?_⟩⟩
    exact ⟨_, results_none rfl _ _ _, ⟨_, rfl⟩, hA.putObj _ hJ (by omega) hd rfl⟩
end Go.Proofs.YtaeeoehmocelhaaGreatDoor
namespace Go.Proofs.YtaeeoehmocelhaaGreatDoor
open Go.RowKit Go.Shelf
attribute [local go_sem] Oper.semAt_some

/-- A forward, as a value. -/
abbrev fwV (lo : Option Addr) (n lc : Nat) (to' : Value) (e : Nat) : Value := .agg #[.slice lo n lc, to', .int .i64 (e : Nat)]
theorem szs_le {zs : List Int} {pre : List (BkOf zs.length)} (h : pre <+: tkL (blocks zs)) : szsB pre ≤ zs.length := by
  obtain ⟨r, e⟩ := h
  have h1 := slidW_szs zs (blocks zs)
  have h2 := slidW_le zs
  rw [← e, szsB_app] at h1
  omega
theorem slab_two {zs : List Int} (hok : slabOk zs = true) (h0 : zs ≠ []) : 2 ≤ zs.length := by
  have h := ((Bnd.zero hok).good (List.length_pos_iff.2 h0)).1
  have h1 := h.sz2
  have h2 := h.le
  omega
theorem Ints.apart3 {W : World} {ao : Option Addr} {zs : List Int} (h : Ints W ao zs) {B : Nat} {t : TypeId} {x y z : Value} (hc : Cells W B t #[x, y, z]) (hx : ∀ n : Int, x ≠ .int .i64 n) (hy : ∀ n : Int, y ≠ .int .i64 n) (h2 : 2 ≤ zs.length) : ∀ a, ao = some a → a.block ≠ B := by
  intro a e hb
  obtain ⟨b, off, e', hcell⟩ := h.at (k := 0) (by omega)
  rw [e] at e'
  cases e'
  have h0 := hcell 0 (by omega)
  have h1 := hcell 1 (by omega)
  simp only at hb
  subst hb
  rw [hc.cell] at h0 h1
  match off, h0, h1 with
  | 0, h0, _ => simp at h0; exact hx _ h0
  | 1, h0, _ => simp at h0; exact hy _ h0
  | k + 2, _, h1 => simp at h1
set_option maxHeartbeats 8000000 in
set_option maxRecDepth 100000 in
theorem forwardOf_ok (w : World) (ao : Option Addr) (cap : Nat) (zs : List Int) (hI : Ints w ao zs) (hl : zs.length ≤ 1048576) :
    Calls Tryz.prog 29 #[.agg #[.slice ao zs.length cap]] w fun e w' => (heapR zs = false → e = .returned (.tuple #[fwV none 0 0 (.slice none 0 0) 0, .bool false])) ∧
      (heapR zs = true → ∃ lo lc g, e = .returned (.tuple #[fwV lo zs.length lc (.slice (some ⟨g, 0, none⟩) zs.length zs.length) (szsB (tkL (blocks zs))), .bool true]) ∧ Ints w' lo (lyt zs) ∧ Row w' g (toL zs (tkL (blocks zs)))) ∧ Kept w w' := by
  have hL : zs.length * 8 ≤ 140737488351232 := by omega
  obtain ⟨i0, hi, hz0, hz1, hz2⟩ := info_parts infoI
  have b0 := (Cells.new w 26 #[.slice ao zs.length cap]).alloc (.cells #[.slice none 0 0, .slice none 0 0, .int .i64 0] 43)
  have b1 := Cells.new (w.alloc (.cells #[.slice ao zs.length cap] 26)) 43 #[.slice none 0 0, .slice none 0 0, .int .i64 0]
  simp only [World.size_alloc] at b0 b1
  have k0 : Kept w ((w.alloc (.cells #[.slice ao zs.length cap] 26)).alloc (.cells #[.slice none 0 0, .slice none 0 0, .int .i64 0] 43)) := (Kept.alloc (Below.refl _ _) _).alloc _
  have hLo := heapLayout_ok _ ao cap zs (hI.kept k0) hl
  cases hh : heapR zs with
  | false =>
    have hLo' := hLo.mono (R' := fun e w' => e = .returned (.tuple #[.slice none 0 0, .bool false]) ∧ Kept ((w.alloc (.cells #[.slice ao zs.length cap] 26)).alloc (.cells #[.slice none 0 0, .slice none 0 0, .int .i64 0] 43)) w') (fun e w' h => ⟨h.1 hh, h.2.2⟩)
    clear hh hLo hI
    go_enter Tryz.func29, Tryz.ntmps29
    go_wp2_with (go_at_call 66; refine hLo'.mono ?_; rintro e w1 ⟨rfl, hk1⟩; have d1 := b1.kept hk1; have c10 := d1.cell 0; have c11 := d1.cell 1; have c12 := d1.cell 2; have f10 := d1.frozen 0; have f11 := d1.frozen 1; have f12 := d1.frozen 2; have l1 := d1.lt)
    have q := d1.set3 (.slice none 0 0) (.slice none 0 0) (.int .i64 0)
    refine bodyPost_ret (v := .tuple #[fwV none 0 0 (.slice none 0 0) 0, .bool false]) (by simp [results, Tryz.results29, go_sem, q.cell 0, q.cell 1, q.cell 2]) rfl ⟨fun _ => rfl, fun h => by simp at h, ?_⟩
    exact (((k0.trans hk1).set (p := ⟨w.heap.size + 1, 0, none⟩) (by simp) _).set (p := ⟨w.heap.size + 1, 1, none⟩) (by simp) _).set (p := ⟨w.heap.size + 1, 2, none⟩) (by simp) _
  | true =>
    have hLo' := hLo.mono (R' := fun e w' => ∃ lo lc, e = .returned (.tuple #[.slice lo zs.length lc, .bool true]) ∧ Ints w' lo (lyt zs) ∧ Kept ((w.alloc (.cells #[.slice ao zs.length cap] 26)).alloc (.cells #[.slice none 0 0, .slice none 0 0, .int .i64 0] 43)) w') (fun e w' h => by obtain ⟨lo, lc, h1, h2⟩ := h.2.1 hh; exact ⟨lo, lc, h1, h2, h.2.2⟩)
    have HH : Hid (heapR zs = true) := hh
    clear hLo hh
    refine (callsIn_wide (n := 9)).1 ?_
    refine callsIn_of_wp_marks Tryz.func29 rfl trivial ?_ rfl
    simp only [Tryz.ntmps29, List.size_toArray, List.length_cons, List.length_nil, Nat.reduceAdd, Nat.reduceSub, Array.replicate_succ, Array.replicate_zero, List.push_toArray, List.append_toArray, List.nil_append, List.cons_append]
    refine wpIn_wide.2 ?_
    go_wp2_with fail
    refine hLo'.mono ?_
    rintro e w1 ⟨lo, lc, rfl, hLy, hk1⟩
    have x0 := b0.kept hk1
    have cx0 := x0.cell 0
    have lx0 := x0.lt
    go_wp2_with (first | (at_make; refine wpList_make_full _ rfl _ _ 24 rfl w1.heap.size 3 i0 (.int .i64 0) 1 Tryz.underlying24 hi hz0 hz1 .i64 .i64 _ _ zs.length rfl rfl rfl rfl (by rw [hz2]; omega) (by unfold maxLen; omega) (by simp) ?_; intro w2 hown hgrow; have hK2 : Kept w1 w2 := (Below.refl _ _).grown hgrow (Nat.le_refl _) (by simp); have x2 := x0.kept hK2; have cx2 := (x2.alloc (.cells #[.slice lo zs.length lc, .slice (some ⟨w1.heap.size, 0, none⟩) zs.length zs.length, .int .i64 0] 43)).cell 0; have lx2 := x2.lt) | (go_at_call 41; refine (takenOf_ok _ _ _ _).mono ?_; rintro e w5 ⟨rfl, rfl⟩))
    rw [madeInts] at hown
    have hR2 := (Row.of_owns (zs := List.replicate zs.length 0) (by simpa using hown) (by simp)).1
    have ka : Kept w2 ((w2.alloc (.cells #[.slice lo zs.length lc, .slice (some ⟨w1.heap.size, 0, none⟩) zs.length zs.length, .int .i64 0] 43)).alloc (.cells #[.slice ao zs.length cap] 24)) := (Kept.alloc (Below.refl _ _) _).alloc _
    have xf := (Cells.new w2 43 #[.slice lo zs.length lc, .slice (some ⟨w1.heap.size, 0, none⟩) zs.length zs.length, .int .i64 0]).alloc (.cells #[.slice ao zs.length cap] 24)
    have bB := Cells.new (w2.alloc (.cells #[.slice lo zs.length lc, .slice (some ⟨w1.heap.size, 0, none⟩) zs.length zs.length, .int .i64 0] 43)) 24 #[.slice ao zs.length cap]
    simp only [World.size_alloc] at bB
    have hsz : ((w2.alloc (.cells #[.slice lo zs.length lc, .slice (some ⟨w1.heap.size, 0, none⟩) zs.length zs.length, .int .i64 0] 43)).alloc (.cells #[.slice ao zs.length cap] 24)).heap.size = w2.heap.size + 2 := by simp
    have y1 := ((b1.kept hk1).kept hK2).kept ka
    have rg := hR2.kept ka
    have hlt1 := hR2.lt
    have ly := (hLy.kept hK2).kept ka
    have hly : ∀ a, lyt zs ≠ [] → lo = some a → a.block < w1.heap.size := fun a h e => hLy.lt h e
    have ky := ((k0.trans hk1).trans hK2).trans ka
    have hs1 := (k0.trans hk1).size
    have hs1' := (b1.kept hk1).lt
    clear hown hgrow hLo' x0 cx0 lx0 x2 cx2 lx2 hR2 hLy b0 b1 hk1 hK2 ka k0
    obtain ⟨g, hg⟩ : ∃ g, w1.heap.size = g := ⟨_, rfl⟩
    rw [hg] at xf bB hsz y1 rg hlt1 ly hly ky hs1 hs1' ⊢
    obtain ⟨Bf, hBf⟩ : ∃ Bf, w2.heap.size = Bf := ⟨_, rfl⟩
    rw [hBf] at xf bB hsz hlt1 ⊢
    obtain ⟨W0, hW0⟩ : ∃ W0, (w2.alloc (.cells #[.slice lo zs.length lc, .slice (some ⟨g, 0, none⟩) zs.length zs.length, .int .i64 0] 43)).alloc (.cells #[.slice ao zs.length cap] 24) = W0 := ⟨_, rfl⟩
    rw [hW0] at xf bB hsz y1 rg ly ky ⊢
    clear hW0 hg hBf
    refine (wpIn_wide (n := 9)).1 ?_
    refine range_tells (X := fun k => k = Bf ∨ k = g) (nI := W0.heap.size) (l0 := tkL (blocks zs)) (n := 9) (by omega) rfl (enters_of Tryz.func79 (by kernel_rfl) rfl) (by simp) (by simp) (by decide)
      (takenOf_tells (9 - 1) (by omega) (Bf + 1) (Bf + 1) W0.heap.size W0.heap.size _ ao cap zs hL (fun a h e => ⟨by have := hI.lt h e; omega, by have := hI.lt h e; omega⟩) (by intro k h; omega) W0 (by omega) (Nat.le_refl _) bB (hI.kept ky))
      (fun pre W => (Row W g (toL zs pre) ∧ Cells W Bf 43 #[.slice lo zs.length lc, .slice (some ⟨g, 0, none⟩) zs.length zs.length, .int .i64 (szsB pre : Nat)]) ∧ (Below w.heap.size w W ∧ KeepX (fun k => k = Bf ∨ k = g) W0.heap.size W0 W))
      ?oi ⟨⟨by simpa [toL] using rg, by simpa [szsB] using xf⟩, ky, KeepX.of (Below.refl _ _)⟩ ?body ?done
    case oi => exact OwnFrom.and (OwnFrom.and (Own.from (Row.own g (fun pre => toL zs pre)) _) (Own.from (Cells.own _ _ (fun pre => #[.slice lo zs.length lc, .slice (some ⟨g, 0, none⟩) zs.length zs.length, .int .i64 (szsB pre : Nat)])) _)) (OwnFrom.and (ownFrom_below (Nat.le_refl _) (by omega)) (KeepX.own (Nat.le_refl _)))
    case body =>
      rintro l pre x W Bx hBx bX ⟨⟨r1, d1⟩, hB1, hK1⟩ hpre
      have hx := x.2
      have hmv := (movT_tk hpre).1
      have hle := szs_le hpre
      rw [szsB_snoc] at hle
      have c0 := bX.cell 0
      have c1 := bX.cell 1
      have lX := bX.lt
      have d10 := d1.cell 0
      have d11 := d1.cell 1
      have d12 := d1.cell 2
      have f12 := d1.frozen 2
      have ld := d1.lt
      have hlen := toL_len zs pre
      have gx := r1.cell (j := x.1.at') (by rw [hlen]; omega)
      have fx := r1.frozen x.1.at'
      have HR : Hid (Row (W.setCell ⟨g, x.1.at', none⟩ (.int .i64 ((szsB pre : Nat) : Int))) g ((toL zs pre).set x.1.at' ((szsB pre : Nat) : Int))) := r1.set (k := x.1.at') (v := ((szsB pre : Nat) : Int)) (by rw [hlen]; omega) ⟨by omega, by omega⟩
      have HT : Hid (toL zs (pre ++ [x]) = (toL zs pre).set x.1.at' ((szsB pre : Nat) : Int)) := by rw [Hid, toL_snoc, hmv]
      have HS : Hid (szsB (pre ++ [x]) = szsB pre + x.1.size) := szsB_snoc _ _
      have HRow : Hid _ := r1
      have d1' := d1.other (p := ⟨g, x.1.at', none⟩) (by simp; omega) (.int .i64 ((szsB pre : Nat) : Int))
      have e12 := d1'.cell 2
      have g12 := d1'.frozen 2
      have cx1 := (bX.other (p := ⟨g, x.1.at', none⟩) (by simp; omega) (.int .i64 ((szsB pre : Nat) : Int))).cell 1
      have q1 : ((x.1.at' : Nat) : Int) < (zs.length : Int) := by omega
      clear hlen r1 hmv hpre
      simp only [List.setIfInBounds_toArray, List.set_cons_succ, List.set_cons_zero]
      gi_wp2
      have kx : KeepX (fun k => k = Bf ∨ k = g) (Bf + 2) W ((W.setCell ⟨g, x.1.at', none⟩ (.int .i64 ((szsB pre : Nat) : Int))).setCell ⟨Bf, 2, none⟩ (.int .i64 (((szsB pre : Nat) : Int) + ((x.1.size : Nat) : Int)))) := (KeepX.setCell (p := ⟨g, x.1.at', none⟩) (.inr rfl) _).t (KeepX.setCell (p := ⟨Bf, 2, none⟩) (.inl rfl) _)
      refine ⟨((KeepsOthers.setCell _ _ _).trans (KeepsOthers.setCell _ _ _)).from _, kx, ⟨?_, ?_⟩, (hB1.setCell (p := ⟨g, x.1.at', none⟩) (by simp; omega) _).setCell (p := ⟨Bf, 2, none⟩) (by simp; omega) _, ?_⟩
      · rw [HT.out]
        exact Row.other HR.out (by simp; omega) _
      · rw [HS.out]
        have := d1'.set 2 (.int .i64 (((szsB pre : Nat) : Int) + ((x.1.size : Nat) : Int)))
        simpa using this
      · rw [hsz] at hK1
        exact hK1.t kx
    case done =>
      rintro D W hD ⟨⟨r1, d1⟩, hB1, hK1⟩ hK
      have z1 := y1.keptX hK1 (by omega) (by omega)
      have e0 := d1.cell 0
      have e1 := d1.cell 1
      have e2 := d1.cell 2
      have z10 := z1.cell 0
      have z11 := z1.cell 1
      have z12 := z1.cell 2
      have g10 := z1.frozen 0
      have g11 := z1.frozen 1
      have g12 := z1.frozen 2
      go_wp2
      have hK' := ((others3 (W := W) (B := w.heap.size + 1) (.slice lo zs.length lc) (.slice (some ⟨g, 0, none⟩) zs.length zs.length) (.int .i64 (szsB (tkL (blocks zs)) : Nat)))).same D _ hK rfl
      refine ⟨by simp, .inl ⟨_, _, rfl, run_takeDeferred hK', ?_⟩⟩
      have q := (z1.set3 (.slice lo zs.length lc) (.slice (some ⟨g, 0, none⟩) zs.length zs.length) (.int .i64 (szsB (tkL (blocks zs)) : Nat))).put hK' rfl (.deferred none)
      refine ⟨.tuple #[fwV lo zs.length lc (.slice (some ⟨g, 0, none⟩) zs.length zs.length) (szsB (tkL (blocks zs))), .bool true], by simp [results, Tryz.results29, go_sem, q.cell 0, q.cell 1, q.cell 2], fun h => absurd h (by simp), fun _ => ⟨lo, lc, g, rfl, ?_, ?_⟩, ?_⟩
      · have hy := hK1.ints ly (fun a hne e => ⟨by have := hly a hne e; omega, by have := hly a hne e; omega⟩)
        refine ((KeepX.set3 (X := fun k => k = w.heap.size + 1) (nI := W0.heap.size) rfl (.slice lo zs.length lc) (.slice (some ⟨g, 0, none⟩) zs.length zs.length) (.int .i64 (szsB (tkL (blocks zs)) : Nat))).t (KeepX.b _ D _ _ hK' rfl)).ints hy (fun a hne e => ⟨?_, by have := hly a hne e; omega⟩)
        exact ly.apart3 y1 (by intro n; simp) (by intro n; simp) (by rw [lyt_len]; exact slab_two (heapR_slab HH.out) (by intro h0; rw [h0] at hne; exact hne rfl)) a e
      · exact ((((r1.other (p := ⟨w.heap.size + 1, 0, none⟩) (by simp; omega) _).other (p := ⟨w.heap.size + 1, 1, none⟩) (by simp; omega) _).other (p := ⟨w.heap.size + 1, 2, none⟩) (by simp; omega) _)).put hK' rfl (.deferred none)
      · exact Below.trans (below3 hB1 (by omega) _ _ _) (belowK_b (w := w) (Nat.le_refl _) _ D _ _ (by omega) hK' rfl rfl)
end Go.Proofs.YtaeeoehmocelhaaGreatDoor
namespace Go.Proofs.YtaeeoehmocelhaaGreatDoor
open Go.RowKit
attribute [local go_sem] Plain.and7

/-- A value that leads to a block, of whatever kind fits. -/
def blockV (zs : List Int) (v : Int) : Bool := vOk v && decide (4 ≤ v % 8) && (leadsR zs v 5 || leadsR zs v 3)
set_option maxHeartbeats 8000000 in
set_option maxRecDepth 100000 in
theorem l8Block_ok (w : World) (ao : Option Addr) (cap : Nat) (zs : List Int) (v : Int) (hI : Ints w ao zs) (hl : zs.length ≤ 1048576) (hok : slabOk zs = true) (hvb : -9223372036854775808 ≤ v ∧ v ≤ 9223372036854775807) :
    Calls Tryz.prog 48 #[.agg #[.slice ao zs.length cap], .int .i64 v] w fun e w' => e = .returned (.bool (blockV zs v)) ∧ Kept w w' := by
  have b0 := Cells.new w 26 #[.slice ao zs.length cap]
  have k0 : Kept w (w.alloc (.cells #[.slice ao zs.length cap] 26)) := Kept.alloc (Below.refl _ _) _
  have c0 := b0.cell 0
  have hVo := fun (u : World) => spec_ValueOk_ok v u hvb.1 hvb.2
  have hKd := fun (u : World) => spec_Kind_ok v u
  have HL : Hid (∀ (u : World) (i : Int), Kept w u → 0 ≤ i → Calls Tryz.prog 49 #[.agg #[.slice ao zs.length cap], .int .i64 v, .int .i64 i] u fun e w' => e = .returned (.bool (leadsR zs v i)) ∧ Kept u w') := fun u i hu hi => l3Leads_ok u ao cap zs v i (hI.kept hu) hl hok hvb.1 hvb.2 hi
  clear hI hok
  cases h1 : vOk v with
  | false =>
    have HE : Hid (blockV zs v = false) := by simp [Hid, blockV, h1]
    rw [h1] at hVo
    clear h1
    go_enter Tryz.func48, Tryz.ntmps48
    go_wp2_with (go_at_call 87; refine (hVo _).mono ?_; rintro e wx ⟨rfl, rfl⟩)
    go_ret
    exact ⟨by rw [HE.out]; rfl, k0⟩
  | true =>
    rw [h1] at hVo
    by_cases h4 : 4 ≤ v % 8
    · have e4 : decide (4 ≤ v % 8) = true := by simpa using h4
      have hL5 := HL.out _ 5 k0 (by omega)
      cases h5 : leadsR zs v 5 with
      | true =>
        have HE : Hid (blockV zs v = true) := by simp [Hid, blockV, h1, h4, h5]
        rw [h5] at hL5
        clear h1 h5
        go_enter Tryz.func48, Tryz.ntmps48
        go_wp2_with (first | (go_at_call 87; refine (hVo _).mono ?_; rintro e wx ⟨rfl, rfl⟩) | (go_at_call 76; refine (hKd _).mono ?_; rintro e wx ⟨rfl, rfl⟩))
        refine hL5.mono ?_
        rintro e w1 ⟨rfl, hk1⟩
        go_wp2_with fail
        go_ret
        exact ⟨by rw [HE.out]; rfl, k0.trans hk1⟩
      | false =>
        obtain ⟨r, hr⟩ : ∃ r, leadsR zs v 3 = r := ⟨_, rfl⟩
        have HE : Hid (blockV zs v = r) := by simp [Hid, blockV, h1, h4, h5, hr]
        rw [h5] at hL5
        clear h1 h5
        go_enter Tryz.func48, Tryz.ntmps48
        go_wp2_with (first | (go_at_call 87; refine (hVo _).mono ?_; rintro e wx ⟨rfl, rfl⟩) | (go_at_call 76; refine (hKd _).mono ?_; rintro e wx ⟨rfl, rfl⟩))
        refine hL5.mono ?_
        rintro e w1 ⟨rfl, hk1⟩
        have c1 := (b0.kept hk1).cell 0
        have hL3 := HL.out _ 3 (k0.trans hk1) (by omega)
        rw [hr] at hL3
        clear hL5 hr c0
        go_wp2_with fail
        refine hL3.mono ?_
        rintro e w2 ⟨rfl, hk2⟩
        go_wp2_with fail
        go_ret
        exact ⟨by rw [HE.out]; rfl, (k0.trans hk1).trans hk2⟩
    · have e4 : decide (4 ≤ v % 8) = false := by simpa using h4
      have HE : Hid (blockV zs v = false) := by simp [Hid, blockV, h4]
      clear h1
      go_enter Tryz.func48, Tryz.ntmps48
      go_wp2_with (first | (go_at_call 87; refine (hVo _).mono ?_; rintro e wx ⟨rfl, rfl⟩) | (go_at_call 76; refine (hKd _).mono ?_; rintro e wx ⟨rfl, rfl⟩))
      go_ret
      exact ⟨by rw [HE.out]; rfl, k0⟩
end Go.Proofs.YtaeeoehmocelhaaGreatDoor
namespace Go.Proofs.YtaeeoehmocelhaaGreatDoor
open Go.RowKit
attribute [local go_sem] Plain.and7

theorem block_lead (zs : List Int) (v : Int) : blockV zs v = leadV zs v := by
  unfold blockV leadV
  rw [val11, val6]
  by_cases h4 : 4 ≤ v % 8
  · have hv : ¬ v = 0 := by omega
    rcases (show v % 8 = 4 ∨ v % 8 = 5 ∨ v % 8 = 6 ∨ v % 8 = 7 by omega) with h | h | h | h
    all_goals (simp only [nextR, leadsR, wantK, h, hv, decide_false, Bool.false_or]; cases vOk v <;> simp)
  · simp [h4]
theorem lead_tk {zs : List Int} {a : Int} (h : 1 ≤ kindAt zs a) : ∃ x ∈ tkL (blocks zs), ((x.1.at' : Nat) : Int) = a ∧ slabOk zs = true := by
  unfold kindAt atB at h
  by_cases hok : slabOk zs = true
  · rw [if_pos hok] at h
    cases hf : (blocks zs).find? (fun b => decide ((b.1.at' : Int) = a)) with
    | none => rw [hf] at h; simp at h
    | some b =>
      rw [hf] at h
      simp only at h
      refine ⟨b, List.mem_filter.2 ⟨List.mem_of_find?_eq_some hf, ?_⟩, by simpa using List.find?_some hf, hok⟩
      simp
      omega
  · rw [if_neg hok] at h
    simp at h
theorem movdV_bd {zs : List Int} {v : Int} (hv : -9223372036854775808 ≤ v ∧ v ≤ 9223372036854775807) : -9223372036854775808 ≤ movdV zs v ∧ movdV zs v ≤ 9223372036854775807 := by
  unfold movdV
  split
  · rename_i h
    obtain ⟨h1, h2⟩ := lead_kind h
    obtain ⟨x, hx, e, hok⟩ := lead_tk h2
    have h3 := x.2
    exact movV_in hok hv (fun _ => by omega)
  · exact hv
set_option maxHeartbeats 2000000 in
theorem place_ok (w : World) (lo : Option Addr) (n lc g tc e a : Nat) (tz : List Int) (hR : Row w g tz) (ha : a < tz.length) :
    Calls Tryz.prog 42 #[fwV lo n lc (.slice (some ⟨g, 0, none⟩) tz.length tc) e, .int .i64 (a : Nat)] w fun e w' => e = .returned (.int .i64 (hz tz a)) ∧ Kept w w' := by
  have k0 : Kept w (w.alloc (.cells #[.slice lo n lc, .slice (some ⟨g, 0, none⟩) tz.length tc, .int .i64 (e : Nat)] 43)) := Kept.alloc (Below.refl _ _) _
  have b0 := Cells.new w 43 #[.slice lo n lc, .slice (some ⟨g, 0, none⟩) tz.length tc, .int .i64 (e : Nat)]
  have c1 := b0.cell 1
  have r1 := (hR.kept k0).cell ha
  have q1 : ((a : Nat) : Int) < (tz.length : Int) := by omega
  have lg := hR.lt
  clear hR
  go_enter Tryz.func42, Tryz.ntmps42
  go_wp2
  go_ret
  exact ⟨rfl, k0⟩
set_option maxHeartbeats 8000000 in
set_option maxRecDepth 100000 in
theorem moved_ok (w : World) (lo : Option Addr) (lc g tc e : Nat) (zs : List Int) (v : Int) (hLy : Ints w lo (lyt zs)) (hR : Row w g (toL zs (tkL (blocks zs)))) (hv : -9223372036854775808 ≤ v ∧ v ≤ 9223372036854775807) :
    Calls Tryz.prog 33 #[fwV lo zs.length lc (.slice (some ⟨g, 0, none⟩) zs.length tc) e, .int .i64 v] w fun e w' => e = .returned (.int .i64 (movdV zs v)) ∧ Kept w w' := by
  have k0 : Kept w (w.alloc (.cells #[.slice lo zs.length lc, .slice (some ⟨g, 0, none⟩) zs.length tc, .int .i64 (e : Nat)] 43)) := Kept.alloc (Below.refl _ _) _
  have b0 := Cells.new w 43 #[.slice lo zs.length lc, .slice (some ⟨g, 0, none⟩) zs.length tc, .int .i64 (e : Nat)]
  have c0 := b0.cell 0
  cases hy : leadV zs v with
  | false =>
    have HE : Hid (movdV zs v = v) := by simp [Hid, movdV, hy]
    have hC := leadsTo_no _ lo lc zs v (hLy.kept k0) hv.1 hv.2 hy
    clear hy hLy hR
    go_enter Tryz.func33, Tryz.ntmps33
    go_wp2_with (go_at_call 71; refine hC.mono ?_; rintro e w1 ⟨rfl, rfl⟩)
    go_ret
    exact ⟨by rw [HE.out]; rfl, k0⟩
  | true =>
    obtain ⟨h4, hk⟩ := lead_kind hy
    obtain ⟨x, hx, ex, hok⟩ := lead_tk hk
    have hlen := slabOk_len hok
    have hx2 := x.2
    obtain ⟨a, ha⟩ : ∃ a, x.1.at' = a := ⟨_, rfl⟩
    have hto := toL_at hx
    have hml := movT_le (a := a) hok (by omega)
    have hM : (movT zs a : Int) < 2000 := by
      obtain ⟨s, r, es⟩ := List.append_of_mem hx
      have hp : s ++ [x] <+: tkL (blocks zs) := ⟨r, by rw [es]; simp⟩
      have h1 := (movT_tk hp).1
      have h2 := szs_le hp
      rw [szsB_snoc] at h2
      rw [ha] at h1
      omega
    rw [ha] at hto ex
    have HE : Hid (movdV zs v = vRef (v % 8) ((movT zs a : Nat) : Int)) := by
      rw [Hid, vRef_yes ⟨h4, by omega, by omega, by omega⟩, movdV, if_pos hy, movV, if_neg (by omega)]
      rw [show (v / 8).toNat = a by omega]
    have hC := leadsTo_yes _ lo lc zs v (hLy.kept k0) hv.1 hv.2 hy
    rw [← ex] at hC
    have hP : ∀ u : World, Kept (w.alloc (.cells #[.slice lo zs.length lc, .slice (some ⟨g, 0, none⟩) zs.length tc, .int .i64 (e : Nat)] 43)) u → Calls Tryz.prog 42 #[fwV lo zs.length lc (.slice (some ⟨g, 0, none⟩) zs.length tc) e, .int .i64 (a : Nat)] u fun e w' => e = .returned (.int .i64 ((movT zs a : Nat) : Int)) ∧ Kept u w' := fun u hu => by
      have := place_ok u lo zs.length lc g tc e a _ ((hR.kept k0).kept hu) (by rw [toL_len]; omega)
      rw [hto, toL_len] at this
      exact this
    obtain ⟨W1, hW1⟩ : ∃ W1, w.alloc (.cells #[.slice lo zs.length lc, .slice (some ⟨g, 0, none⟩) zs.length tc, .int .i64 (e : Nat)] 43) = W1 := ⟨_, rfl⟩
    rw [hW1] at hP hC k0 b0 c0
    have kd1 : Kept W1 W1.drew := (Below.refl _ W1).drew
    have HP : Hid (∀ u : World, Kept W1.drew u → Calls Tryz.prog 42 #[fwV lo zs.length lc (.slice (some ⟨g, 0, none⟩) zs.length tc) e, .int .i64 (a : Nat)] u fun e w' => e = .returned (.int .i64 ((movT zs a : Nat) : Int)) ∧ Kept u w') := fun u hu => hP u (kd1.trans hu)
    have HK : Hid (∀ u : World, Kept W1.drew u → Calls Tryz.prog 73 #[.int .i64 v] u fun e w' => e = .returned (.int .i64 (v % 8)) ∧ Kept u w') := fun u _ => (impl_Kind_ok v u).mono (fun e w' h => ⟨h.1, by rw [← h.2]; exact Below.refl _ _⟩)
    have HF : Hid (∀ u : World, Kept W1.drew u → Calls Tryz.prog 72 #[.int .i64 (v % 8), .int .i64 ((movT zs a : Nat) : Int)] u fun e w' => e = .returned (.int .i64 (vRef (v % 8) ((movT zs a : Nat) : Int))) ∧ Kept u w') := fun u _ => (impl_RefOf_ok _ _ u).mono (fun e w' h => ⟨h.1, by rw [← h.2]; exact Below.refl _ _⟩)
    have HB : Hid (∀ u, Kept W1.drew u → u.cell? ⟨w.heap.size, 0, none⟩ = some (.slice lo zs.length lc) ∧ u.cell? ⟨w.heap.size, 1, none⟩ = some (.slice (some ⟨g, 0, none⟩) zs.length tc) ∧ u.cell? ⟨w.heap.size, 2, none⟩ = some (.int .i64 (e : Nat))) := fun u hu => by
      have := b0.kept (kd1.trans hu)
      exact ⟨this.cell 0, this.cell 1, this.cell 2⟩
    clear hLy hR hy hk hx hto ex ha hP
    go_enter Tryz.func33, Tryz.ntmps33
    go_wp2_with fail
    refine hC.mono ?_
    rintro e1 w1 ⟨rfl, rfl⟩
    clear hW1 hC b0
    go_wp2_with fail
    refine wp_region_seqL (by kernel_rfl) (by kernel_rfl) ?_
    repeat (first
      | (refine SeqL.pure ?_ (by rfl) ?_ ?_; rotate_left; (focus (intro u hu; obtain ⟨y0, y1, y2⟩ := HB.out u hu; go_simp; first | done | exact rfl)); simp only [Act.put, List.setIfInBounds_toArray, List.set_cons_zero, List.set_cons_succ])
      | (refine SeqL.call _ _ _ (by rfl) ?_ HK.out ?_; (focus (intro u; go_simp; done)); simp only [Act.put, List.setIfInBounds_toArray, List.set_cons_zero, List.set_cons_succ])
      | (refine SeqL.call _ _ _ (by rfl) ?_ HP.out ?_; (focus (intro u; go_simp; done)); simp only [Act.put, List.setIfInBounds_toArray, List.set_cons_zero, List.set_cons_succ])
      | (refine SeqL.call _ _ _ (by rfl) ?_ HF.out ?_; (focus (intro u; go_simp; done)); simp only [Act.put, List.setIfInBounds_toArray, List.set_cons_zero, List.set_cons_succ]))
    refine SeqL.nil ?_
    intro u hu
    have k2 := k0.trans (kd1.trans hu)
    clear HB HK HP HF
    go_wp2
    go_ret
    exact ⟨by rw [HE.out]; rfl, k2⟩
theorem leadV_nil (v : Int) : leadV [] v = false := by
  cases h : leadV [] v with
  | false => rfl
  | true =>
    obtain ⟨x, _, _⟩ := lead_tk (lead_kind h).2
    have := x.2
    simp at this
    omega
set_option maxHeartbeats 2000000 in
theorem moved_zero (w : World) (v : Int) (hv : -9223372036854775808 ≤ v ∧ v ≤ 9223372036854775807) :
    Calls Tryz.prog 33 #[fwV none 0 0 (.slice none 0 0) 0, .int .i64 v] w fun e w' => e = .returned (.int .i64 v) ∧ Kept w w' := by
  have k0 : Kept w (w.alloc (.cells #[.slice none 0 0, .slice none 0 0, .int .i64 0] 43)) := Kept.alloc (Below.refl _ _) _
  have c0 := (Cells.new w 43 #[.slice none 0 0, .slice none 0 0, .int .i64 0]).cell 0
  have hC : ∀ u, Calls Tryz.prog 71 #[.slice none 0 0, .int .i64 v] u fun e w' => e = .returned (.tuple #[.int .i64 0, .bool false]) ∧ u = w' := fun u => leadsTo_no u none 0 [] v ⟨by simp [lyt], .inl (by simp [lyt])⟩ hv.1 hv.2 (leadV_nil v)
  go_enter Tryz.func33, Tryz.ntmps33
  go_wp2_with (go_at_call 71; refine (hC _).mono ?_; rintro e w1 ⟨rfl, rfl⟩)
  go_ret
  exact ⟨rfl, k0⟩
set_option maxHeartbeats 4000000 in
theorem impl_Moved_ok (w : World) (ao : Option Addr) (cap : Nat) (zs : List Int) (v : Int) (hI : Ints w ao zs) (hl : zs.length ≤ 1048576) (hv : -9223372036854775808 ≤ v ∧ v ≤ 9223372036854775807) :
    Calls Tryz.prog 13 #[.agg #[.slice ao zs.length cap], .int .i64 v] w fun e w' => e = .returned (.int .i64 (movedC zs v)) ∧ Kept w w' := by
  have k0 : Kept w (w.alloc (.cells #[.slice ao zs.length cap] 26)) := Kept.alloc (Below.refl _ _) _
  have hF := forwardOf_ok _ ao cap zs (hI.kept k0) hl
  cases hh : heapR zs with
  | false =>
    have HE : Hid (movedC zs v = v) := by simp [Hid, movedC, hh]
    have hF' := hF.mono (R' := fun e w' => e = .returned (.tuple #[fwV none 0 0 (.slice none 0 0) 0, .bool false]) ∧ Kept (w.alloc (.cells #[.slice ao zs.length cap] 26)) w') (fun e w' h => ⟨h.1 hh, h.2.2⟩)
    clear hh hF hI
    go_enter Tryz.func13, Tryz.ntmps13
    go_wp2_with fail
    refine hF'.mono ?_
    rintro e w1 ⟨rfl, hk1⟩
    have x1 := Cells.new w1 43 #[.slice none 0 0, .slice none 0 0, .int .i64 0]
    have c0 := x1.cell 0
    have c1 := x1.cell 1
    have c2 := x1.cell 2
    have ka : Kept w1 (w1.alloc (.cells #[.slice none 0 0, .slice none 0 0, .int .i64 0] 43)) := Kept.alloc (Below.refl _ _) _
    go_wp2_with (go_at_call 33; refine (moved_zero _ v hv).mono ?_; rintro e w2 ⟨rfl, hk2⟩)
    go_ret
    exact ⟨by rw [HE.out]; rfl, ((k0.trans hk1).trans ka).trans hk2⟩
  | true =>
    have HE : Hid (movedC zs v = movdV zs v) := by simp [Hid, movedC, hh]
    have hF' := hF.mono (R' := fun e w' => ∃ lo lc g, e = .returned (.tuple #[fwV lo zs.length lc (.slice (some ⟨g, 0, none⟩) zs.length zs.length) (szsB (tkL (blocks zs))), .bool true]) ∧ Ints w' lo (lyt zs) ∧ Row w' g (toL zs (tkL (blocks zs))) ∧ Kept (w.alloc (.cells #[.slice ao zs.length cap] 26)) w') (fun e w' h => by obtain ⟨lo, lc, g, h1, h2, h3⟩ := h.2.1 hh; exact ⟨lo, lc, g, h1, h2, h3, h.2.2⟩)
    clear hh hF hI
    go_enter Tryz.func13, Tryz.ntmps13
    go_wp2_with fail
    refine hF'.mono ?_
    rintro e w1 ⟨lo, lc, g, rfl, hLy, hR, hk1⟩
    have x1 := Cells.new w1 43 #[.slice lo zs.length lc, .slice (some ⟨g, 0, none⟩) zs.length zs.length, .int .i64 (szsB (tkL (blocks zs)) : Nat)]
    have c0 := x1.cell 0
    have c1 := x1.cell 1
    have c2 := x1.cell 2
    have ka : Kept w1 (w1.alloc (.cells #[.slice lo zs.length lc, .slice (some ⟨g, 0, none⟩) zs.length zs.length, .int .i64 (szsB (tkL (blocks zs)) : Nat)] 43)) := Kept.alloc (Below.refl _ _) _
    have hM := moved_ok _ lo lc g zs.length (szsB (tkL (blocks zs))) zs v (hLy.kept ka) (hR.kept ka) hv
    clear hLy hR
    go_wp2_with (go_at_call 33; refine hM.mono ?_; rintro e w2 ⟨rfl, hk2⟩)
    go_ret
    exact ⟨by rw [HE.out]; rfl, ((k0.trans hk1).trans ka).trans hk2⟩
set_option maxHeartbeats 4000000 in
theorem spec_Moved_ok (w : World) (ao : Option Addr) (cap : Nat) (zs : List Int) (v : Int) (hI : Ints w ao zs) (hl : zs.length ≤ 1048576) (hv : -9223372036854775808 ≤ v ∧ v ≤ 9223372036854775807) :
    Calls Tryz.prog 14 #[.agg #[.slice ao zs.length cap], .int .i64 v] w fun e w' => e = .returned (.int .i64 (movedC zs v)) ∧ Kept w w' := by
  have k0 : Kept w (w.alloc (.cells #[.slice ao zs.length cap] 26)) := Kept.alloc (Below.refl _ _) _
  have b0 := Cells.new w 26 #[.slice ao zs.length cap]
  have hH := spec_HeapOk_ok _ ao cap zs (hI.kept k0) hl
  cases hh : heapR zs with
  | false =>
    have HE : Hid (movedC zs v = v) := by simp [Hid, movedC, hh]
    rw [hh] at hH
    clear hh hI
    go_enter Tryz.func14, Tryz.ntmps14
    go_wp2_with (go_at_call 44; refine hH.mono ?_; rintro e w1 ⟨rfl, hk1⟩)
    go_ret
    exact ⟨by rw [HE.out]; rfl, k0.trans hk1⟩
  | true =>
    have hok := heapR_slab hh
    rw [hh] at hH
    have HB : Hid _ := fun (u : World) (hu : Kept w u) => l8Block_ok u ao cap zs v (hI.kept hu) hl hok hv
    rw [block_lead] at HB
    cases hy : leadV zs v with
    | false =>
      have HE : Hid (movedC zs v = v) := by simp [Hid, movedC, hh, movdV, hy]
      rw [hy] at HB
      clear hh hI hy hok
      go_enter Tryz.func14, Tryz.ntmps14
      go_wp2_with (first | (go_at_call 44; refine hH.mono ?_; rintro e w1 ⟨rfl, hk1⟩; have c1 := (b0.kept hk1).cell 0) | (go_at_call 48; refine (HB.out _ (k0.trans hk1)).mono ?_; rintro e w2 ⟨rfl, hk2⟩))
      go_ret
      exact ⟨by rw [HE.out]; rfl, (k0.trans hk1).trans hk2⟩
    | true =>
      have HE : Hid (movedC zs v = movV zs v) := by simp [Hid, movedC, hh, movdV, hy]
      obtain ⟨x, _, ex, _⟩ := lead_tk (lead_kind hy).2
      have hx := x.2
      rw [hy] at HB
      have HM : Hid _ := fun (u : World) (hu : Kept w u) => l10Moved_ok u ao cap zs v (hI.kept hu) hok (fun _ => ⟨by omega, by omega⟩)
      clear hh hI hy hok hx ex
      go_enter Tryz.func14, Tryz.ntmps14
      go_wp2_with (first | (go_at_call 44; refine hH.mono ?_; rintro e w1 ⟨rfl, hk1⟩; have c1 := (b0.kept hk1).cell 0) | (go_at_call 48; refine (HB.out _ (k0.trans hk1)).mono ?_; rintro e w2 ⟨rfl, hk2⟩; have c2 := ((b0.kept hk1).kept hk2).cell 0) | (go_at_call 40; refine (HM.out _ ((k0.trans hk1).trans hk2)).mono ?_; rintro e w3 ⟨rfl, hk3⟩))
      go_ret
      exact ⟨by rw [HE.out]; rfl, ((k0.trans hk1).trans hk2).trans hk3⟩
end Go.Proofs.YtaeeoehmocelhaaGreatDoor
namespace Go.Proofs.YtaeeoehmocelhaaGreatDoor
open Go.RowKit
attribute [local go_sem] Plain.and7

theorem Keeps.on2 {c : Nat} {w a b : World} {row : Option Nat} (h : Keeps c w a) (hg : a.grownBy b row) (hr : ∀ k, row = some k → k = c ∨ w.heap.size ≤ k) : Keeps c w b :=
  ⟨hg.os.trans h.os, hg.tape.trans h.tape, hg.output.trans h.output, Nat.le_trans h.size hg.size, fun k hk hc => (hg.block k (Nat.lt_of_lt_of_le hk h.size) (fun e => by have := hr k e.symm; omega)).trans (h.block k hk hc)⟩
/-- What Forward has told behind so many blocks. -/
def fwF (zs : List Int) (k : Nat) : List Int := (tkL ((blocks zs).take k)).map (fun b => ((movT zs b.1.at' : Nat) : Int))
theorem tk_next {zs : List Int} {k : Nat} (hk : k < (blocks zs).length) : (blocks zs).take (k + 1) = (blocks zs).take k ++ [(blocks zs)[k]] := List.take_succ_eq_append_getElem hk
theorem fwF_next {zs : List Int} {k : Nat} (hk : k < (blocks zs).length) : fwF zs (k + 1) = fwF zs k ++ (if (blocks zs)[k].1.kind = 0 then [] else [((szsB (tkL ((blocks zs).take k)) : Nat) : Int)]) ∧ szsB (tkL ((blocks zs).take (k + 1))) = szsB (tkL ((blocks zs).take k)) + (if (blocks zs)[k].1.kind = 0 then 0 else (blocks zs)[k].1.size) := by
  have hm : movT zs (blocks zs)[k].1.at' = szsB (tkL ((blocks zs).take k)) := movT_blks (r := (blocks zs).drop (k + 1)) (by
    rw [← List.drop_eq_getElem_cons hk, List.take_append_drop])
  unfold fwF
  rw [tk_next hk, tkL_app, List.map_append, szsB_app]
  by_cases h : (blocks zs)[k].1.kind = 0
  · rw [tkL_no h, if_pos h, if_pos h]
    exact ⟨by simp, by simp [szsB]⟩
  · rw [tkL_yes h, if_neg h, if_neg h]
    exact ⟨by simp [hm], by simp [szsB]⟩
theorem szs_take {zs : List Int} (k : Nat) : szsB (tkL ((blocks zs).take k)) ≤ zs.length := szs_le ⟨tkL ((blocks zs).drop k), by rw [← tkL_app, List.take_append_drop]⟩
theorem fwF_len (zs : List Int) (k : Nat) : (fwF zs k).length ≤ k := by
  unfold fwF tkL
  rw [List.length_map]
  have h1 := List.length_filter_le (fun b : BkOf zs.length => !decide (b.1.kind = 0)) ((blocks zs).take k)
  have h2 := List.length_take_le k (blocks zs)
  omega
set_option maxHeartbeats 16000000 in
set_option maxRecDepth 100000 in
theorem spec_Forward_ok (w : World) (ao : Option Addr) (cap : Nat) (zs : List Int) (hI : Ints w ao zs) (hl : zs.length ≤ 1048576) :
    Calls Tryz.prog 11 #[.agg #[.slice ao zs.length cap]] w fun e w' => ∃ v, e = .returned v ∧ OwnL w' w.heap.size v (fwdL zs) ∧ Kept w w' := by
  obtain ⟨i0, hi, hz0, hz1, hz2⟩ := info_parts infoI
  have hL : zs.length * 8 ≤ 140737488351232 := by omega
  have b0 := (Cells.new w 26 #[.slice ao zs.length cap]).alloc (.cells #[] 3)
  have k0 : Kept w ((w.alloc (.cells #[.slice ao zs.length cap] 26)).alloc (.cells #[] 3)) := (Kept.alloc (Below.refl _ _) _).alloc _
  have o0 : OwnL ((w.alloc (.cells #[.slice ao zs.length cap] 26)).alloc (.cells #[] 3)) w.heap.size (.slice (some ⟨w.heap.size + 1, 0, none⟩) 0 0) [] := by
    have := World.ownsRow_made (base := w.heap.size) (e := 3) (size := 1) (w.alloc (.cells #[.slice ao zs.length cap] 26)) #[] 0 (by simp) (by unfold maxLen; omega) (by simp)
    exact ⟨by simp, by simpa using this⟩
  have hB := spec_Blocks_ok _ ao cap zs (hI.kept k0) hL
  have HH : Hid _ := fun (u : World) (hu : Kept w u) => spec_HeapOk_ok u ao cap zs (hI.kept hu) hl
  have hc0 := b0.cell 0
  cases hh : heapR zs with
  | false =>
    have HE : Hid (fwdL zs = []) := by simp [Hid, fwdL, hh]
    rw [hh] at HH
    obtain ⟨pl, hpl⟩ : ∃ pl, places zs = pl := ⟨_, rfl⟩
    rw [hpl] at hB
    clear hh hpl hI
    go_enter Tryz.func11, Tryz.ntmps11
    go_wp2_with fail
    refine hB.mono ?_
    rintro e w1 ⟨v, rfl, ho, hk1⟩
    obtain ⟨la, lc, rfl, _⟩ := ho.ints
    have b1 := b0.kept hk1
    have c1 := b1.cell 0
    have k1 := k0.trans hk1
    have o1 := o0.kept (row := none) hk1.grown (fun _ e => by cases e)
    clear ho hB o0 hc0
    go_wp2_with fail
    go_loopw [3, 6] (fun v i wr => wr = w1 ∧ v = .slice (some ⟨w.heap.size + 1, 0, none⟩) 0 0 ∧ i = .int .i64 0) (fun _ _ _ => 0)
    case atStart => exact ⟨by first | rfl | trivial, rfl, rfl⟩
    case round =>
      obtain ⟨rfl, rfl, rfl⟩ := hrel
      by_cases hp : 0 < pl.length
      · have hp' : (0 : Int) < (pl.length : Int) := by omega
        go_wp2_with (go_at_call 44; refine (HH.out _ k1).mono ?_; rintro e w2 ⟨rfl, hk2⟩)
        go_ret
        refine ⟨_, rfl, ?_, k1.trans hk2⟩
        rw [HE.out]
        exact o1.kept (row := none) hk2.grown (fun _ e => by cases e)
      · have hp' : ¬ (0 : Int) < (pl.length : Int) := by omega
        go_wp2
        go_ret
        refine ⟨_, rfl, ?_, k1⟩
        rw [HE.out]
        exact o1
  | true =>
    have hok := heapR_slab hh
    have HE : Hid (fwdL zs = fwF zs (blocks zs).length) := by simp [Hid, fwdL, hh, fwF]
    rw [hh] at HH
    have hP : places zs = atsOf (blocks zs) := by simp [places, hok, atsOf]
    rw [hP] at hB
    have hal : (atsOf (blocks zs)).length = (blocks zs).length := by simp [atsOf]
    have hcount := blocks_count zs
    have hlen := slabOk_len hok
    have HAL : Hid _ := hal
    have HI : Hid (∀ u, Kept w u → Ints u ao zs) := fun u hu => hI.kept hu
    clear hh hP hI hok hal
    go_enter Tryz.func11, Tryz.ntmps11
    go_wp2_with fail
    refine hB.mono ?_
    rintro e w2 ⟨v, rfl, ho, hk1⟩
    obtain ⟨la, lc, rfl, _⟩ := ho.ints
    rw [HAL.out]
    have b2 := b0.kept hk1
    have k2 := k0.trans hk1
    have o2 := o0.kept (row := none) hk1.grown (fun _ e => by cases e)
    have hs2 := hk1.size
    simp only [World.size_alloc] at hs2 ho
    have HP : Hid (OwnL w2 (w.heap.size + 1 + 1) (.slice la (atsOf (blocks zs)).length lc) (atsOf (blocks zs))) := ho
    have HO2 : Hid _ := o2
    have HK2 : Hid (Kept w w2) := k2
    clear hB o0 o2 hk1 hc0 k0 b0 k2 ho
    go_wp2_with fail
    go_loopw [3, 4, 6] (fun ov tv iv wr => ∃ (k : Nat), iv = .int .i64 k ∧ k ≤ (blocks zs).length ∧ tv = .int .i64 (szsB (tkL ((blocks zs).take k)) : Nat) ∧ Hid (OwnL wr w.heap.size ov (fwF zs k)) ∧ Hid (∀ j, ov.ownBlock = some j → j = w.heap.size + 1 ∨ w2.heap.size ≤ j) ∧ Hid (Keeps (w.heap.size + 1) w2 wr)) (fun _ _ i _ => (blocks zs).length - (intOf i).toNat)
    case atStart => exact ⟨0, rfl, Nat.zero_le _, by simp [tkL, szsB], by rw [show fwF zs 0 = [] from by simp [fwF, tkL]]; exact HO2.out, fun j e => by simp [Value.ownBlock] at e; omega, Keeps.refl _ _⟩
    case round =>
      obtain ⟨k, rfl, hk, rfl, HO, HA, HK⟩ := hrel
      clear HO2
      have KW : Kept w wr := Below.trans HK2.out (HK.out.below (by omega) HK2.out.size)
      have y2 := b2.keeps HK.out (by omega)
      have cy := y2.cell 0
      by_cases hlt : k < (blocks zs).length
      · have hlt' : (k : Int) < ((blocks zs).length : Int) := by omega
        have hH := HH.out wr KW
        go_wp2_with (go_at_call 44; refine hH.mono ?_; rintro e w3 ⟨rfl, hk3⟩)
        have hm := blks_mem zs 0 _ (List.getElem_mem (l := blocks zs) hlt)
        have hfn := fwF_next hlt
        have hpj : hz (atsOf (blocks zs)) k = (((blocks zs)[k]).1.at' : Nat) := by simp [hz, atsOf, hlt]
        obtain ⟨a0, ha0⟩ : ∃ a0, ((blocks zs)[k]).1.at' = a0 := ⟨_, rfl⟩
        rw [hm.2.1, hm.2.2, ha0] at hfn
        rw [ha0] at hm hpj
        obtain ⟨hgd, _, _⟩ := hm
        have hgl := hgd.lt
        have hszI := hgd.szI
        have hkdI := kdI zs a0
        have hle := hgd.le
        have kd3 : Kept w3 w3.drew := (Below.refl _ w3).drew
        have HB : Hid (∀ u, Keeps (w.heap.size + 1) w2 u → u.cell? ⟨w.heap.size, 0, none⟩ = some (.slice ao zs.length cap) ∧ (∃ pb po, la = some ⟨pb, po, none⟩ ∧ u.cell? ⟨pb, po + k, none⟩ = some (.int .i64 (a0 : Nat))) ∧ ∃ bb off, ao = some ⟨bb, off, none⟩ ∧ u.cell? ⟨bb, off + a0, none⟩ = some (.int .i64 (hz zs a0))) := fun u hu => by
          have hPA := HP.out.turned hu (by omega)
          obtain ⟨_, _, ePA, hPI⟩ := hPA.ints
          cases ePA
          obtain ⟨pb, po, e1, hpc⟩ := hPI.at (k := k) (by rw [HAL.out]; exact hlt)
          obtain ⟨bb, off, e2, hc⟩ := (HI.out u (Below.trans HK2.out (hu.below (by omega) HK2.out.size))).at hgl
          have h1 := hpc k (by rw [HAL.out]; exact hlt)
          rw [hpj] at h1
          exact ⟨(b2.keeps hu (by omega)).cell 0, ⟨pb, po, e1, h1⟩, bb, off, e2, hc _ hgl⟩
        obtain ⟨_, ⟨pb, po, rfl, _⟩, bb, off, rfl, _⟩ := HB.out wr HK.out
        have HC : Hid (∀ u, Keeps (w.heap.size + 1) w2 u → u.cell? ⟨w.heap.size, 0, none⟩ = some (.slice (some ⟨bb, off, none⟩) zs.length cap) ∧ u.cell? ⟨pb, po + k, none⟩ = some (.int .i64 (a0 : Nat)) ∧ u.cell? ⟨bb, off + a0, none⟩ = some (.int .i64 (hz zs a0))) := fun u hu => by
          obtain ⟨h1, ⟨_, _, e1, h2⟩, _, _, e2, h3⟩ := HB.out u hu
          cases e1
          cases e2
          exact ⟨h1, h2, h3⟩
        have HKn : Hid (∀ u : World, Kept w3.drew u → Calls Tryz.prog 37 #[.int .i64 (hz zs a0)] u fun e w' => e = .returned (.int .i64 (hz zs a0 % 8)) ∧ Kept u w') := fun u _ => (l2Kind_ok _ u).mono (fun e w' h => ⟨h.1, by rw [← h.2]; exact Below.refl _ _⟩)
        have hj0 : (0 : Int) ≤ (k : Int) := by omega
        have hgl' : (a0 : Int) < (zs.length : Int) := by omega
        have ha00 : (0 : Int) ≤ (a0 : Int) := by omega
        have HF : Hid _ := hfn
        have HSz : Hid _ := hszI
        have HKd : Hid _ := hkdI
        have hst := szs_take (zs := zs) k
        have hfl := fwF_len zs k
        clear HB hfn hszI hkdI hpj hgd ha0 cy y2 hH
        refine wp_region_seqL (by kernel_rfl) (by kernel_rfl) ?_
        repeat (first
          | (refine SeqL.pure ?_ (by rfl) ?_ ?_; rotate_left; (focus (intro u hu; obtain ⟨z0, z1, z2⟩ := HC.out u (HK.out.trans (Kept.keeps (hk3.trans (kd3.trans hu)) _)); go_simp; first | done | exact rfl)); simp only [Act.put, List.setIfInBounds_toArray, List.set_cons_zero, List.set_cons_succ])
          | (refine SeqL.call _ _ _ (by rfl) ?_ HKn.out ?_; (focus (intro u; go_simp; done)); simp only [Act.put, List.setIfInBounds_toArray, List.set_cons_zero, List.set_cons_succ]))
        refine SeqL.nil ?_
        intro w4 hk4
        have k4 : Kept wr w4 := hk3.trans (kd3.trans hk4)
        clear HKn hk3 hk4 kd3
        by_cases hz8 : hz zs a0 % 8 = 0
        · have hd : (hz zs a0 % 8 != 0) = false := by simp [hz8]
          have hkd : kd zs a0 = 0 := by have := HKd.out; omega
          rw [if_pos hkd, if_pos hkd, List.append_nil, Nat.add_zero] at HF
          have HN1 : Hid (fwF zs (k + 1) = fwF zs k) := HF.out.1
          have HN2 : Hid (szsB (tkL ((blocks zs).take (k + 1))) = szsB (tkL ((blocks zs).take k))) := HF.out.2
          clear hz8 hkd HF
          go_wp2
          go_roundw
          case rel => exact ⟨k + 1, by go_num, by omega, by rw [HN2.out], by rw [HN1.out]; exact HO.out.kept (row := none) k4.grown (fun _ e => by cases e), HA.out, HK.out.trans (k4.keeps _)⟩
          case measure => simp [intOf]; omega
        · have hd : (hz zs a0 % 8 != 0) = true := by simpa using hz8
          have hkd : ¬ kd zs a0 = 0 := by have := HKd.out; omega
          rw [if_neg hkd, if_neg hkd] at HF
          have HN1 : Hid (fwF zs (k + 1) = fwF zs k ++ [((szsB (tkL ((blocks zs).take k)) : Nat) : Int)]) := HF.out.1
          have HN2 : Hid (szsB (tkL ((blocks zs).take (k + 1))) = szsB (tkL ((blocks zs).take k)) + sz zs a0) := HF.out.2
          have hst' := szs_take (zs := zs) (k + 1)
          rw [HN2.out] at hst'
          obtain ⟨tt, htt⟩ : ∃ tt, szsB (tkL ((blocks zs).take k)) = tt := ⟨_, rfl⟩
          rw [htt] at HN1 HN2 hst hst' ⊢
          have O4 : Hid _ := HO.out.kept (row := none) k4.grown (fun _ e => by cases e)
          have hws := (KW.trans k4).size
          clear hz8 hkd HF htt
          go_wp2_with (at_builtin; refine wpList_append_lies _ rfl _ _ 24 rfl w.heap.size 3 i0 (.int .i64 0) 1 8 Tryz.underlying24 hi hz0 hz1 hz2 rfl (by decide) _ _ _ rfl (O4.out.2.alloc _) ⟨w4.heap.size, 0, none⟩ 1 1 [.int .i64 (tt : Nat)] rfl rfl (cell_one_new _ _ _) (by simp [Value.oneCell']) (by omega) (by unfold maxLen; omega) (by omega) (by simp; omega) (w4.heap.size + 1) (by simp) ?_; intro gg cg w5 hown hgrow hat hlt5)
          have K5 : Keeps (w.heap.size + 1) w2 w5 := ((HK.out.trans (k4.keeps _)).alloc _).on2 hgrow (fun j e => HA.out j e)
          have HA5 : Hid (∀ j, (Value.slice (some ⟨gg, 0, none⟩) ((fwF zs k).length + 1) cg).ownBlock = some j → j = w.heap.size + 1 ∨ w2.heap.size ≤ j) := fun j e => by
            simp only [Value.ownBlock, Option.some.injEq] at e
            subst e
            rcases hat with h | h
            · exact HA.out _ h
            · have h1 := HK.out.size
              have h2 := k4.size
              omega
          have HO5 : Hid (OwnL w5 w.heap.size (.slice (some ⟨gg, 0, none⟩) ((fwF zs k).length + 1) cg) (fwF zs (k + 1))) := by
            rw [Hid, HN1.out]
            refine ⟨fun z hz => ?_, by simpa using hown⟩
            rcases List.mem_append.1 hz with h | h
            · exact HO.out.1 z h
            · rw [List.mem_singleton.1 h]; omega
          have HK5 : Hid _ := K5
          have HSn : Hid (∀ u : World, Kept w5.drew u → Calls Tryz.prog 36 #[.int .i64 (hz zs a0)] u fun e w' => e = .returned (.int .i64 (sz zs a0 : Nat)) ∧ Kept u w') := fun u _ => (l2Size_ok _ u).mono (fun e w' h => ⟨by rw [h.1, HSz.out], by rw [← h.2]; exact Below.refl _ _⟩)
          have kd5 : Kept w5 w5.drew := (Below.refl _ w5).drew
          have hwr : IntKind.i64.wrap (((tt : Nat) : Int) + ((sz zs a0 : Nat) : Int)) = ((tt : Nat) : Int) + ((sz zs a0 : Nat) : Int) := IntWalk.i64_in _ ⟨by omega, by omega⟩
          clear hown hgrow hat K5 O4
          refine wp_region_seqL (by kernel_rfl) (by kernel_rfl) ?_
          repeat (first
            | (refine SeqL.pure ?_ (by rfl) ?_ ?_; rotate_left; (focus (intro u hu; obtain ⟨z0, z1, z2⟩ := HC.out u (HK5.out.trans (Kept.keeps (kd5.trans hu) _)); go_simp; first | done | exact rfl)); simp only [Act.put, List.setIfInBounds_toArray, List.set_cons_zero, List.set_cons_succ])
            | (refine SeqL.call _ _ _ (by rfl) ?_ HSn.out ?_; (focus (intro u; go_simp; done)); simp only [Act.put, List.setIfInBounds_toArray, List.set_cons_zero, List.set_cons_succ]))
          refine SeqL.nil ?_
          intro w6 hk6
          have k6 : Kept w5 w6 := kd5.trans hk6
          clear HSn hk6 kd5 HC
          go_wp2
          go_roundw
          case rel => exact ⟨k + 1, by go_num, by omega, by rw [HN2.out]; simp, HO5.out.kept (row := none) k6.grown (fun _ e => by cases e), HA5.out, HK5.out.trans (k6.keeps _)⟩
          case measure => simp [intOf]; omega
      · obtain rfl : k = (blocks zs).length := by omega
        have hlt' : ¬ ((blocks zs).length : Int) < ((blocks zs).length : Int) := by omega
        clear cy y2
        go_wp2
        go_ret
        exact ⟨_, rfl, by rw [HE.out]; exact HO.out, KW⟩
end Go.Proofs.YtaeeoehmocelhaaGreatDoor
namespace Go.Proofs.YtaeeoehmocelhaaGreatDoor
open Go.RowKit Go.Shelf
attribute [local go_sem] Oper.semAt_some

set_option maxHeartbeats 4000000 in
set_option maxRecDepth 100000 in
theorem each_place (w : World) (ro : Option Addr) (rc : Nat) (rs : List Int) (rv : Value) (f : Int → Int) (hR : Ints w ro rs) (hrl : rs.length ≤ 1048576) (hf : ∀ v ∈ rs, -9223372036854775808 ≤ f v ∧ f v ≤ 9223372036854775807)
    (hF : ∀ (u : World), Kept w u → ∀ v ∈ rs, Calls Tryz.prog 42 #[rv, .int .i64 v] u fun e w' => e = .returned (.int .i64 (f v)) ∧ Kept u w') :
    Calls Tryz.prog 32 #[.slice ro rs.length rc, .func (.func 42) #[rv] #[]] w fun e w' => ∃ v, e = .returned v ∧ OwnL w' w.heap.size v (rs.map f) ∧ Kept w w' := by
  obtain ⟨i0, hi, hz0, hz1, hz2⟩ := info_parts infoI
  have HF : Hid _ := hF
  have Hf : Hid _ := hf
  clear hF hf
  go_enter Tryz.func32, Tryz.ntmps32
  go_wp2_with fail
  go_loopw [5, 10] (fun tv iv wr => ∃ (k : Nat), iv = .int .i64 k ∧ k ≤ rs.length ∧ Hid (OwnL wr w.heap.size tv ((rs.take k).map f)) ∧ Hid (Kept w wr)) (fun _ i _ => rs.length - (intOf i).toNat)
  case atStart => exact ⟨0, rfl, Nat.zero_le _, ⟨by simp, ⟨by simp, .inl ⟨rfl, by simp⟩⟩⟩, Below.refl _ _⟩
  case round =>
    obtain ⟨k, rfl, hk, HO, HK⟩ := hrel
    by_cases hlt : k < rs.length
    · have hlt' : (k : Int) < (rs.length : Int) := by omega
      have hmem : hz rs k ∈ rs := by
        unfold hz
        rw [List.getElem?_eq_getElem hlt]
        simp
      have HN : Hid ((rs.take (k + 1)).map f = (rs.take k).map f ++ [f (hz rs k)]) := by
        rw [Hid, List.take_succ_eq_append_getElem hlt, List.map_append]
        simp [hz, List.getElem?_eq_getElem hlt]
      obtain ⟨bb, off, rfl, hc⟩ := (hR.kept HK.out).at (k := k) hlt
      have hck := hc k hlt
      have hCl := HF.out wr HK.out _ hmem
      have hfb := Hf.out _ hmem
      have hln : ((rs.take k).map f).length = k := by simp; omega
      have hlx : ((rs.take k).map f).length ≤ 1048576 := by omega
      have hws := HK.out.size
      have HLn : Hid _ := hln
      clear hc hmem hln
      go_wp2_with (first | (go_at_call 42; refine hCl.mono ?_; rintro e w3 ⟨rfl, hk3⟩; have O3 := HO.out.kept (row := none) hk3.grown (fun _ e => by cases e); have hs3 := hk3.size) | (at_builtin; refine wpList_append_own _ rfl _ _ 24 rfl w.heap.size 3 i0 (.int .i64 0) 1 8 Tryz.underlying24 hi hz0 hz1 hz2 rfl (by decide) _ _ _ rfl (O3.2.alloc _) ⟨w3.heap.size, 0, none⟩ 1 1 [.int .i64 (f (hz rs k))] rfl rfl (cell_one_new _ _ _) (by simp [Value.oneCell']) (by unfold maxLen; omega) (by omega) (by simp; omega) ?_; intro v' w4 hown hgrow _))
      have k4 : Kept w w4 := (((HK.out.trans hk3).alloc (.cells #[.int .i64 (f (hz rs k))] 3)).grownRow hgrow (fun j ej => (O3.2.lt j ej).1))
      have HO4 : Hid (OwnL w4 w.heap.size v' ((rs.take (k + 1)).map f)) := by
        rw [Hid, HN.out]
        refine ⟨fun z hz' => ?_, by simpa using hown⟩
        rcases List.mem_append.1 hz' with h | h
        · exact HO.out.1 z h
        · rw [List.mem_singleton.1 h]; exact hfb
      clear hown hgrow O3 HO
      go_roundw
      case rel => exact ⟨k + 1, by go_num, by omega, HO4.out, k4⟩
      case measure => simp [intOf]; omega
    · obtain rfl : k = rs.length := by omega
      have hlt' : ¬ (rs.length : Int) < (rs.length : Int) := by omega
      go_wp2
      go_ret
      exact ⟨_, rfl, by have := HO.out; rwa [List.take_length] at this, HK.out⟩
set_option maxHeartbeats 4000000 in
set_option maxRecDepth 100000 in
theorem each_moved (w : World) (ro : Option Addr) (rc : Nat) (rs : List Int) (rv : Value) (f : Int → Int) (hR : Ints w ro rs) (hrl : rs.length ≤ 1048576) (hf : ∀ v ∈ rs, -9223372036854775808 ≤ f v ∧ f v ≤ 9223372036854775807)
    (hF : ∀ (u : World), Kept w u → ∀ v ∈ rs, Calls Tryz.prog 33 #[rv, .int .i64 v] u fun e w' => e = .returned (.int .i64 (f v)) ∧ Kept u w') :
    Calls Tryz.prog 32 #[.slice ro rs.length rc, .func (.func 33) #[rv] #[]] w fun e w' => ∃ v, e = .returned v ∧ OwnL w' w.heap.size v (rs.map f) ∧ Kept w w' := by
  obtain ⟨i0, hi, hz0, hz1, hz2⟩ := info_parts infoI
  have HF : Hid _ := hF
  have Hf : Hid _ := hf
  clear hF hf
  go_enter Tryz.func32, Tryz.ntmps32
  go_wp2_with fail
  go_loopw [5, 10] (fun tv iv wr => ∃ (k : Nat), iv = .int .i64 k ∧ k ≤ rs.length ∧ Hid (OwnL wr w.heap.size tv ((rs.take k).map f)) ∧ Hid (Kept w wr)) (fun _ i _ => rs.length - (intOf i).toNat)
  case atStart => exact ⟨0, rfl, Nat.zero_le _, ⟨by simp, ⟨by simp, .inl ⟨rfl, by simp⟩⟩⟩, Below.refl _ _⟩
  case round =>
    obtain ⟨k, rfl, hk, HO, HK⟩ := hrel
    by_cases hlt : k < rs.length
    · have hlt' : (k : Int) < (rs.length : Int) := by omega
      have hmem : hz rs k ∈ rs := by
        unfold hz
        rw [List.getElem?_eq_getElem hlt]
        simp
      have HN : Hid ((rs.take (k + 1)).map f = (rs.take k).map f ++ [f (hz rs k)]) := by
        rw [Hid, List.take_succ_eq_append_getElem hlt, List.map_append]
        simp [hz, List.getElem?_eq_getElem hlt]
      obtain ⟨bb, off, rfl, hc⟩ := (hR.kept HK.out).at (k := k) hlt
      have hck := hc k hlt
      have hCl := HF.out wr HK.out _ hmem
      have hfb := Hf.out _ hmem
      have hln : ((rs.take k).map f).length = k := by simp; omega
      have hlx : ((rs.take k).map f).length ≤ 1048576 := by omega
      have hws := HK.out.size
      have HLn : Hid _ := hln
      clear hc hmem hln
      go_wp2_with (first | (go_at_call 33; refine hCl.mono ?_; rintro e w3 ⟨rfl, hk3⟩; have O3 := HO.out.kept (row := none) hk3.grown (fun _ e => by cases e); have hs3 := hk3.size) | (at_builtin; refine wpList_append_own _ rfl _ _ 24 rfl w.heap.size 3 i0 (.int .i64 0) 1 8 Tryz.underlying24 hi hz0 hz1 hz2 rfl (by decide) _ _ _ rfl (O3.2.alloc _) ⟨w3.heap.size, 0, none⟩ 1 1 [.int .i64 (f (hz rs k))] rfl rfl (cell_one_new _ _ _) (by simp [Value.oneCell']) (by unfold maxLen; omega) (by omega) (by simp; omega) ?_; intro v' w4 hown hgrow _))
      have k4 : Kept w w4 := (((HK.out.trans hk3).alloc (.cells #[.int .i64 (f (hz rs k))] 3)).grownRow hgrow (fun j ej => (O3.2.lt j ej).1))
      have HO4 : Hid (OwnL w4 w.heap.size v' ((rs.take (k + 1)).map f)) := by
        rw [Hid, HN.out]
        refine ⟨fun z hz' => ?_, by simpa using hown⟩
        rcases List.mem_append.1 hz' with h | h
        · exact HO.out.1 z h
        · rw [List.mem_singleton.1 h]; exact hfb
      clear hown hgrow O3 HO
      go_roundw
      case rel => exact ⟨k + 1, by go_num, by omega, HO4.out, k4⟩
      case measure => simp [intOf]; omega
    · obtain rfl : k = rs.length := by omega
      have hlt' : ¬ (rs.length : Int) < (rs.length : Int) := by omega
      go_wp2
      go_ret
      exact ⟨_, rfl, by have := HO.out; rwa [List.take_length] at this, HK.out⟩
theorem ats_bd {L : Nat} (l : List (BkOf L)) (hL : L ≤ 1048576) : ∀ z ∈ atsOf l, -9223372036854775808 ≤ z ∧ z ≤ 9223372036854775807 := by
  intro z hz
  obtain ⟨b, _, rfl⟩ := List.mem_map.1 hz
  have := b.2
  omega
set_option maxHeartbeats 8000000 in
set_option maxRecDepth 100000 in
theorem impl_Forward_ok (w : World) (ao : Option Addr) (cap : Nat) (zs : List Int) (hI : Ints w ao zs) (hl : zs.length ≤ 1048576) :
    Calls Tryz.prog 10 #[.agg #[.slice ao zs.length cap]] w fun e w' => ∃ v, e = .returned v ∧ OwnL w' w.heap.size v (fwdL zs) ∧ Kept w w' := by
  have hL : zs.length * 8 ≤ 140737488351232 := by omega
  obtain ⟨i0, hi, hz0, hz1, hz2⟩ := info_parts infoI
  have b0 := Cells.new w 26 #[.slice ao zs.length cap]
  have k0 : Kept w (w.alloc (.cells #[.slice ao zs.length cap] 26)) := Kept.alloc (Below.refl _ _) _
  have hF := forwardOf_ok _ ao cap zs (hI.kept k0) hl
  cases hh : heapR zs with
  | false =>
    have HE : Hid (fwdL zs = []) := by simp [Hid, fwdL, hh]
    have hF' := hF.mono (R' := fun e w' => e = .returned (.tuple #[fwV none 0 0 (.slice none 0 0) 0, .bool false]) ∧ Kept (w.alloc (.cells #[.slice ao zs.length cap] 26)) w') (fun e w' h => ⟨h.1 hh, h.2.2⟩)
    clear hh hF hI
    go_enter Tryz.func10, Tryz.ntmps10
    go_wp2_with (go_at_call 29; refine hF'.mono ?_; rintro e w1 ⟨rfl, hk1⟩)
    go_ret
    exact ⟨_, rfl, by rw [HE.out]; exact ⟨by simp, ⟨by simp, .inl ⟨rfl, rfl⟩⟩⟩, (k0.trans hk1).alloc _⟩
  | true =>
    have hok := heapR_slab hh
    have HE : Hid (fwdL zs = (atsOf (tkL (blocks zs))).map (fun a => hz (toL zs (tkL (blocks zs))) a.toNat)) := by
      simp only [Hid, fwdL, hh, if_true, atsOf, List.map_map]
      refine List.map_congr_left (fun b hb => ?_)
      simp only [Function.comp, Int.toNat_natCast]
      rw [toL_at hb]
    have hF' := hF.mono (R' := fun e w' => ∃ lo lc g, e = .returned (.tuple #[fwV lo zs.length lc (.slice (some ⟨g, 0, none⟩) zs.length zs.length) (szsB (tkL (blocks zs))), .bool true]) ∧ Ints w' lo (lyt zs) ∧ Row w' g (toL zs (tkL (blocks zs))) ∧ Kept (w.alloc (.cells #[.slice ao zs.length cap] 26)) w') (fun e w' h => by obtain ⟨lo, lc, g, h1, h2, h3⟩ := h.2.1 hh; exact ⟨lo, lc, g, h1, h2, h3, h.2.2⟩)
    have hcnt : (tkL (blocks zs)).length ≤ zs.length := by
      have h1 := List.length_filter_le (fun b : BkOf zs.length => !decide (b.1.kind = 0)) (blocks zs)
      have h2 := blocks_count zs
      have h3 : (tkL (blocks zs)).length ≤ (blocks zs).length := h1
      omega
    have hlen := slabOk_len hok
    clear hh hF hok
    refine (callsIn_wide (n := 9)).1 ?_
    refine callsIn_of_wp_marks Tryz.func10 rfl trivial ?_ rfl
    simp only [Tryz.ntmps10, List.size_toArray, List.length_cons, List.length_nil, Nat.reduceAdd, Nat.reduceSub, Array.replicate_succ, Array.replicate_zero, List.push_toArray, List.append_toArray, List.nil_append, List.cons_append]
    refine wpIn_wide.2 ?_
    go_wp2_with fail
    refine hF'.mono ?_
    rintro e w1 ⟨lo, lc, g, rfl, hLy, hR, hk1⟩
    obtain ⟨en, hen⟩ : ∃ en, szsB (tkL (blocks zs)) = en := ⟨_, rfl⟩
    simp only [hen]
    have x1 := ((b0.kept hk1).alloc (.cells #[.slice lo zs.length lc, .slice (some ⟨g, 0, none⟩) zs.length zs.length, .int .i64 (en : Nat)] 43)).alloc (.cells #[.slice none 0 0] 24)
    have cx := x1.cell 0
    have lx := (b0.kept hk1).lt
    go_wp2_with (go_at_call 41; refine (takenOf_ok _ _ _ _).mono ?_; rintro e w5 ⟨rfl, rfl⟩)
    have xf := ((Cells.new w1 43 #[.slice lo zs.length lc, .slice (some ⟨g, 0, none⟩) zs.length zs.length, .int .i64 (en : Nat)]).alloc (.cells #[.slice none 0 0] 24)).alloc (.cells #[.slice ao zs.length cap] 24)
    have xp := (Cells.new (w1.alloc (.cells #[.slice lo zs.length lc, .slice (some ⟨g, 0, none⟩) zs.length zs.length, .int .i64 (en : Nat)] 43)) 24 #[.slice none 0 0]).alloc (.cells #[.slice ao zs.length cap] 24)
    have bB := Cells.new ((w1.alloc (.cells #[.slice lo zs.length lc, .slice (some ⟨g, 0, none⟩) zs.length zs.length, .int .i64 (en : Nat)] 43)).alloc (.cells #[.slice none 0 0] 24)) 24 #[.slice ao zs.length cap]
    have ka : Kept w1 (((w1.alloc (.cells #[.slice lo zs.length lc, .slice (some ⟨g, 0, none⟩) zs.length zs.length, .int .i64 (en : Nat)] 43)).alloc (.cells #[.slice none 0 0] 24)).alloc (.cells #[.slice ao zs.length cap] 24)) := ((Kept.alloc (Below.refl _ _) _).alloc _).alloc _
    have hsz : (((w1.alloc (.cells #[.slice lo zs.length lc, .slice (some ⟨g, 0, none⟩) zs.length zs.length, .int .i64 (en : Nat)] 43)).alloc (.cells #[.slice none 0 0] 24)).alloc (.cells #[.slice ao zs.length cap] 24)).heap.size = w1.heap.size + 3 := by simp
    simp only [World.size_alloc] at bB xp
    have hLy2 := hLy.kept ka
    have hR2 := hR.kept ka
    have hgl := hR.lt
    have hll : ∀ a, lyt zs ≠ [] → lo = some a → a.block < w1.heap.size := fun a h e => hLy.lt h e
    have k2 := (k0.trans hk1).trans ka
    have hs1 := (k0.trans hk1).size
    obtain ⟨B, hB⟩ : ∃ B, w1.heap.size = B := ⟨_, rfl⟩
    obtain ⟨W0, hW0⟩ : ∃ W0, ((w1.alloc (.cells #[.slice lo zs.length lc, .slice (some ⟨g, 0, none⟩) zs.length zs.length, .int .i64 (en : Nat)] 43)).alloc (.cells #[.slice none 0 0] 24)).alloc (.cells #[.slice ao zs.length cap] 24) = W0 := ⟨_, rfl⟩
    simp only [hB] at xf xp bB hsz hgl hll lx hs1 ⊢
    rw [hW0] at xf xp bB hsz hLy2 hR2 k2 ⊢
    clear hW0 hB hLy hR b0 k0 hk1 ka x1 cx hF'
    refine (wpIn_wide (n := 9)).1 ?_
    refine range_tells (X := fun k => k = B + 1) (nI := W0.heap.size) (l0 := tkL (blocks zs)) (n := 9) (by omega) rfl (enters_of Tryz.func79 (by kernel_rfl) rfl) (by simp) (by simp) (by decide)
      (takenOf_tells (9 - 1) (by omega) (B + 1 + 1) (B + 2) W0.heap.size W0.heap.size _ ao cap zs hL (fun a h e => ⟨by have := hI.lt h e; omega, by have := hI.lt h e; omega⟩) (by intro k h; omega) W0 (by omega) (Nat.le_refl _) bB (hI.kept k2))
      (fun pre W => (∃ v, Boxed W (B + 1) 24 v ∧ W.ownsRow W0.heap.size 3 1 v (atsOf pre).length ((atsOf pre).map (Value.int .i64)) ∧ True) ∧ (Below w.heap.size w W ∧ KeepX (fun k => k = B + 1) W0.heap.size W0 W))
      ?oi ⟨⟨.slice none 0 0, xp, by simpa [atsOf] using World.ownsRow_nil _ _ _ _, trivial⟩, k2, KeepX.of (Below.refl _ _)⟩ ?body ?done
    case oi => exact OwnFrom.and (Own.from (holdsRow_own W0.heap.size (B + 1) 24 3 1 (fun pre => (atsOf pre).length) (fun pre => (atsOf pre).map (Value.int .i64)) (fun _ _ => True)) _) (OwnFrom.and (ownFrom_below (Nat.le_refl _) (by omega)) (KeepX.own (Nat.le_refl _)))
    case body =>
      rintro l pre x W Bx hBx bX ⟨⟨v, hv, hrow, _⟩, hB1, hK1⟩ hpre
      have hx := x.2
      have c0 := bX.cell 0
      have lX := bX.lt
      have e1 := hv.cell
      have f1 := hv.frozen
      have l1 := hv.lt
      have hal : (atsOf pre).length ≤ 2000 := by
        rw [atsOf_len]
        have := hpre.length_le
        simp at this
        omega
      simp only [List.setIfInBounds_toArray, List.set_cons_succ, List.set_cons_zero]
      gi_wp2_with (gi_at_builtin; refine wpListIn_append_own _ rfl _ _ 24 rfl W0.heap.size 3 i0 (.int .i64 0) 1 8 Tryz.underlying24 hi hz0 hz1 hz2 rfl (by decide) _ _ _ rfl (hrow.alloc _) ⟨W.heap.size, 0, none⟩ 1 1 [.int .i64 (x.1.at' : Nat)] rfl rfl (cell_one_new _ _ _) (by simp [Value.oneCell']) (by unfold maxLen; omega) (by omega) (by simp; omega) ?_; intro v' w1' hown' hgrow _; obtain ⟨g', cap', rfl⟩ := ownsRow_succ hown'; obtain ⟨hv1, hv2, hr2, hk2, hb2, hx2⟩ := append_box (nw := w.heap.size) hv (by decide) hrow (by omega) (by omega) (by omega) hown' hgrow; have hc1 := hv1.cell; have hf1 := hv1.frozen)
      rw [hsz] at hx2 hK1
      exact ⟨hk2.from _, hx2, ⟨_, hv2, by rw [hsz] at hr2; simpa [atsOf_snoc] using hr2⟩, hB1.trans hb2, hK1.t hx2⟩
    case done =>
      rintro D W hD ⟨⟨v, hv, hrow, _⟩, hB1, hK1⟩ hK
      have hO : OwnL W W0.heap.size v (atsOf (tkL (blocks zs))) := ⟨atsOf_bd hL _, hrow⟩
      obtain ⟨la, lc2, rfl, hPI⟩ := hO.ints
      have yf := xf.keptX hK1 (by omega) (by omega)
      have e1 := hv.cell
      have f0 := yf.cell 0
      have f1 := yf.cell 1
      have f2 := yf.cell 2
      have rW : Row W g (toL zs (tkL (blocks zs))) := by
        obtain ⟨q1, cur, q2, q3⟩ := hR2
        exact ⟨q1, cur, hK1.2 _ _ q2 rfl (by omega) (fun h => by omega), q3⟩
      have hEa := each_place W la lc2 (atsOf (tkL (blocks zs))) (fwV lo zs.length lc (.slice (some ⟨g, 0, none⟩) zs.length zs.length) en) (fun a => hz (toL zs (tkL (blocks zs))) a.toNat) hPI (by rw [atsOf_len]; omega) (fun v hv => by
          obtain ⟨b, hb, rfl⟩ := List.mem_map.1 hv
          simp only [Int.toNat_natCast]
          exact rW.ints.bd _) (fun u hu v hv => by
          obtain ⟨b, hb, rfl⟩ := List.mem_map.1 hv
          have hb2 := b.2
          have := place_ok u lo zs.length lc g zs.length en b.1.at' _ (rW.kept hu) (by rw [toL_len]; omega)
          rw [toL_len] at this
          simpa only [Int.toNat_natCast] using this)
      clear hO hrow hPI rW hv
      go_wp2_with (go_at_call 32; refine hEa.mono ?_; rintro e w5 ⟨v5, rfl, o5, hk5⟩)
      have hK5 := (hk5.block D (Array.getElem?_eq_some_iff.1 hK).1).trans hK
      refine ⟨by simp, .inl ⟨_, _, rfl, run_takeDeferred hK5, ?_⟩⟩
      refine ⟨_, results_tmp rfl _ _ _, v5, rfl, ?_, (hB1.trans (hk5.mono hB1.size)).trans (belowK_b (w := w) (Nat.le_refl _) _ D _ _ (by omega) hK5 rfl rfl)⟩
      rw [HE.out]
      exact ⟨o5.1, ownsRow_base (ownsRow_putObj o5.2 _ hK5 rfl) (by have := hB1.size; omega)⟩
end Go.Proofs.YtaeeoehmocelhaaGreatDoor
