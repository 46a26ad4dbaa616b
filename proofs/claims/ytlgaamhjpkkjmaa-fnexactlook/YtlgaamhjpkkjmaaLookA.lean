/-
  What Look tells (facts on lists), and the contracts of chapter 5's models l5Look and Look.
-/
import Derived.Test.YtlgaamhjpkkjmaaOwnA
import Derived.Deep.RegionHeld3
namespace Go.Proofs.Ytlgaamhjpkkjmaa
open Go.RowKit

/-- What an object has itself of a name. -/
def hasO (zs : List Int) (name v : Int) : Option Int := if 0 ≤ (cellF zs name zs.length (hz zs (plc v + 2)) (-1)).1 then some (hz zs ((cellF zs name zs.length (hz zs (plc v + 2)) (-1)).1.toNat + 2)) else none
def lookF (zs : List Int) (name : Int) : Nat → Int → Option Int
  | 0, _ => none
  | n + 1, v => if v % 8 = 5 then (match hasO zs name v with | some x => some x | none => lookF zs name n (hz zs (plc v + 1))) else none
theorem lookF_hit {zs : List Int} {name v x : Int} (n : Nat) (h5 : v % 8 = 5) (h : hasO zs name v = some x) : lookF zs name (n + 1) v = some x := by simp [lookF, h5, h]
theorem lookF_on {zs : List Int} {name v : Int} (n : Nat) (h5 : v % 8 = 5) (h : hasO zs name v = none) : lookF zs name (n + 1) v = lookF zs name n (hz zs (plc v + 1)) := by simp [lookF, h5, h]
theorem lookF_no {zs : List Int} {name v : Int} (n : Nat) (h5 : v % 8 ≠ 5) : lookF zs name n v = none := by cases n <;> simp [lookF, h5]
def pairV : Option Int → Value
  | some x => .tuple #[.int .i64 x, .bool true]
  | none => .tuple #[.int .i64 0, .bool false]
def lookV (zs : List Int) (obj name : Int) : Value := if askR zs obj name = true then pairV (lookF zs name zs.length obj) else .tuple #[.int .i64 0, .bool false]
theorem lookV_tuple (zs : List Int) (obj name : Int) : ∃ x b, lookV zs obj name = .tuple #[.int .i64 x, .bool b] := by
  unfold lookV
  split
  · cases lookF zs name zs.length obj <;> exact ⟨_, _, rfl⟩
  · exact ⟨_, _, rfl⟩
/-- From v on the objects vs are prototypes one of the other, up to the value v'. -/
def Line (zs : List Int) : Int → List Int → Int → Prop
  | v, [], v' => v' = v
  | v, x :: xs, v' => x = v ∧ v % 8 = 5 ∧ Line zs (hz zs (plc v + 1)) xs v'
theorem Line.snoc {zs : List Int} {v' : Int} (h5 : v' % 8 = 5) : ∀ {vs : List Int} {v : Int}, Line zs v vs v' → Line zs v (vs ++ [v']) (hz zs (plc v' + 1))
  | [], v, h => by
    have e : v' = v := h
    subst e
    exact ⟨rfl, h5, rfl⟩
  | x :: xs, v, h => ⟨h.1, h.2.1, Line.snoc h5 h.2.2⟩
theorem Line.miss {zs : List Int} {name v' : Int} (n : Nat) : ∀ {vs : List Int} {v : Int}, Line zs v vs v' → (∀ x ∈ vs, hasO zs name x = none) → lookF zs name (vs.length + n) v = lookF zs name n v'
  | [], v, h, _ => by
    have e : v' = v := h
    subst e
    simp
  | x :: xs, v, h, hn => by
    obtain ⟨rfl, h5, h2⟩ := h
    rw [show (x :: xs).length + n = (xs.length + n) + 1 by simp; omega, lookF_on _ h5 (hn x (by simp))]
    exact Line.miss n h2 (fun y hy => hn y (by simp [hy]))
theorem Line.next {zs : List Int} {v' q : Int} : ∀ {vs : List Int} {v : Int}, Line zs v vs v' → q ∈ vs → hz zs (plc q + 1) = v' ∨ hz zs (plc q + 1) ∈ vs
  | [], v, h, hq => by simp at hq
  | [x], v, h, hq => by
    have e : q = x := by simpa using hq
    subst e
    obtain ⟨rfl, _, h2⟩ := h
    exact .inl h2.symm
  | x :: y :: vs, v, h, hq => by
    obtain ⟨rfl, _, h2⟩ := h
    rcases List.mem_cons.1 hq with rfl | hq
    · exact .inr (by rw [← h2.1]; simp)
    · rcases Line.next h2 hq with h1 | h1
      · exact .inl h1
      · exact .inr (List.mem_cons_of_mem _ h1)
theorem Line.kind {zs : List Int} {v' : Int} : ∀ {vs : List Int} {v : Int}, Line zs v vs v' → ∀ x ∈ vs, x % 8 = 5
  | [], v, h, x, hx => by simp at hx
  | y :: ys, v, h, x, hx => by
    obtain ⟨rfl, h5, h2⟩ := h
    rcases List.mem_cons.1 hx with rfl | hx
    · exact h5
    · exact Line.kind h2 x hx
theorem Line.circle {zs : List Int} {name v v' : Int} {vs : List Int} (h : Line zs v vs v') (hm : v' ∈ vs) (hn : ∀ x ∈ vs, hasO zs name x = none) : ∀ (n : Nat) (u : Int), u ∈ vs → lookF zs name n u = none
  | 0, _, _ => rfl
  | n + 1, u, hu => by
    rw [lookF_on n (h.kind u hu) (hn u hu)]
    rcases h.next hu with e | e
    · rw [e]; exact Line.circle h hm hn n v' hm
    · exact Line.circle h hm hn n _ e
theorem line_len {zs vs : List Int} (hd : vs.Nodup) (h : ∀ x ∈ vs, ∃ p : Nat, x = 8 * (p : Int) + 5 ∧ p < zs.length) : vs.length ≤ zs.length := by
  have h1 : (vs.map plc).Nodup := by
    refine List.Pairwise.map plc ?_ (List.Pairwise.and_mem.1 hd)
    rintro x y ⟨hx, hy, hne⟩ e
    obtain ⟨p, rfl, _⟩ := h x hx
    obtain ⟨q, rfl, _⟩ := h y hy
    have e1 : plc (8 * (p : Int) + 5) = p := plc_is (by omega)
    have e2 : plc (8 * (q : Int) + 5) = q := plc_is (by omega)
    rw [e1, e2] at e
    exact hne (by rw [e])
  have h2 := nodup_le zs.length (vs.map plc) h1 (fun p hp => by
    obtain ⟨x, hx, rfl⟩ := List.mem_map.1 hp
    obtain ⟨q, rfl, hq⟩ := h x hx
    rw [plc_is (n := q) (by omega)]
    exact hq)
  simpa using h2

set_option maxHeartbeats 8000000 in
set_option maxRecDepth 100000 in
theorem l5Look_ok (w : World) (ao : Option Addr) (cap : Nat) (zs : List Int) (obj name : Int) (hI : Ints w ao zs) (hl : zs.length ≤ 1048576) (hh : heapR zs = true) (h5 : obj % 8 = 5) (hv : leadsR zs obj 5 = true) :
    Calls Try.prog 58 #[.agg #[.slice ao zs.length cap], .int .i64 obj, .int .i64 name] w fun e w' => e = .returned (pairV (lookF zs name zs.length obj)) ∧ Kept w w' := by
  have b0 := Cells.new w 27 #[.slice ao zs.length cap]
  have k0 : Kept w (w.alloc (.cells #[.slice ao zs.length cap] 27)) := Kept.alloc (Below.refl _ _) _
  have HH : Hid _ := hh
  have HI : Hid _ := hI
  obtain ⟨W, hW⟩ : ∃ W, w.alloc (.cells #[.slice ao zs.length cap] 27) = W := ⟨_, rfl⟩
  obtain ⟨R, hR⟩ : ∃ R, lookF zs name zs.length obj = R := ⟨_, rfl⟩
  have HS : Hid ((obj = 1 ∨ (obj % 8 = 5 ∧ leadsR zs obj 5 = true)) ∧ lookF zs name zs.length obj = R) := ⟨.inr ⟨h5, hv⟩, hR⟩
  rw [hR]
  clear hh hI h5 hv hR
  go_enter Try.func58, Try.ntmps58
  go_wp2_with fail
  simp only [hW] at b0 k0 ⊢
  clear hW
  go_loopw [1, 8] (fun o i wr => ∃ (k : Nat) (v : Int), i = .int .i64 k ∧ o = .int .i64 v ∧ k ≤ zs.length ∧ (v = 1 ∨ (v % 8 = 5 ∧ leadsR zs v 5 = true)) ∧ lookF zs name (zs.length - k) v = R ∧ Kept W wr) (fun _ i _ => zs.length - (intOf i).toNat)
  case atStart => exact ⟨0, obj, rfl, rfl, Nat.zero_le _, HS.out.1, by simpa using HS.out.2, Below.refl _ _⟩
  case round =>
    obtain ⟨k, v, rfl, rfl, hk, hvo, hlk, hK⟩ := hrel
    have HK : Hid _ := hK
    have HL : Hid _ := hlk
    have bS := b0.kept hK
    have cS := bS.cell 0
    clear hlk HS
    rcases hvo with rfl | ⟨h5, hv⟩
    · have HE : Hid (none = R) := by rw [Hid, ← HL.out, lookF_no _ (by decide)]
      have hd : ((1 : Int) % 8 == 5) = false := by decide
      clear hK
      go_wp2_with (go_at_call 30; refine (spec_Kind_ok _ _).mono ?_; rintro e wx ⟨rfl, rfl⟩)
      refine bodyPost_ret (v := .tuple #[.int .i64 0, .bool false]) (by simp [results, Try.results58, go_sem]) rfl ⟨by rw [← HE.out]; rfl, k0.trans HK.out⟩
    · have hd : (v % 8 == 5) = true := by simpa using h5
      by_cases hlt : k < zs.length
      · have q1 : (k : Int) < (zs.length : Int) := by omega
        obtain ⟨a, s, ha, hle, hs, _, hpr, hnx⟩ := obj_facts HH.out h5 hv
        have hpl := plc_is ha
        have hCl := fun (u : World) (hu : Kept wr u) => l5Cell_ok u ao cap zs v name (Ints.kept HI.out ((k0.trans HK.out).trans hu)) hl HH.out h5 hv
        have hF := (cellF_facts HH.out name zs.length (hz zs (plc v + 2)) (-1) (by rw [hpl]; exact hnx) (.inl rfl)).1
        have hO : hasO zs name v = if 0 ≤ (cellF zs name zs.length (hz zs (plc v + 2)) (-1)).1 then some (hz zs ((cellF zs name zs.length (hz zs (plc v + 2)) (-1)).1.toNat + 2)) else none := rfl
        obtain ⟨x, hx⟩ : ∃ x, (cellF zs name zs.length (hz zs (plc v + 2)) (-1)).1 = x := ⟨_, rfl⟩
        obtain ⟨y, hy⟩ : ∃ y, (cellF zs name zs.length (hz zs (plc v + 2)) (-1)).2 = y := ⟨_, rfl⟩
        rw [hx] at hF hO
        rw [hx, hy] at hCl
        have HCl : Hid _ := hCl
        obtain ⟨n, hn⟩ : ∃ n, zs.length - k = n + 1 := ⟨zs.length - k - 1, by omega⟩
        have hlk2 := HL.out
        rw [hn] at hlk2
        have HN : Hid (spec_Num_ok = spec_Num_ok) := rfl
        have hNm : ∀ u : World, Calls Try.prog 34 #[.int .i64 v] u fun e w' => e = .returned (.int .i64 (a : Int)) ∧ u = w' := fun u => by have := spec_Num_ok v u; rw [ha] at this; exact this
        clear hx hy hCl HL hnx
        rcases hF with rfl | ⟨q, rfl, hq⟩
        · rw [lookF_on n h5 (by rw [hO]; simp), hpl] at hlk2
          have HR2 : Hid _ := hlk2
          have hpo : hz zs (a + 1) = 1 ∨ (hz zs (a + 1) % 8 = 5 ∧ leadsR zs (hz zs (a + 1)) 5 = true) := by
            rcases hpr with h | ⟨h, h'⟩
            · exact .inl h
            · exact .inr ⟨h, by rw [leads_any (by omega) 5 0]; exact h'⟩
          have HPo : Hid _ := hpo
          obtain ⟨bb, off, rfl, hc⟩ := Ints.at HI.out (k := a + 1) (by omega)
          have ca := hc (a + 1) (by omega)
          have hbl : bb < w.heap.size := World.block_lt_of_cell? _ _ ca
          have p1 : (a : Int) + 1 < (zs.length : Int) := by omega
          have z1 : (0 : Int) ≤ (a : Int) + 1 := by omega
          have t1 : ((a : Int) + 1).toNat = a + 1 := by omega
          have wr1 : IntKind.i64.wrap ((a : Int) + 1) = (a : Int) + 1 := by rw [IntWalk.i64_left, IntWalk.wrap64_in _ (by omega)]
          clear hlk2 hpo hc hpr hO ha hK
          go_wp2_with (first | (go_at_call 30; refine (spec_Kind_ok _ _).mono ?_; rintro e wx ⟨rfl, rfl⟩) | (go_at_call 53; refine (HCl.out _ (Below.refl _ _)).mono ?_; rintro e w2 ⟨rfl, hk2⟩))
          have c2 := (bS.kept hk2).cell 0
          have d2 := (((k0.trans HK.out).trans hk2).cell (p := ⟨bb, off + (a + 1), none⟩) hbl).trans ca
          clear cS
          go_region_held3 (fun w' => w'.cell? ⟨w.heap.size, 0, none⟩ = some (.slice (some ⟨bb, off, none⟩) zs.length cap) ∧ w'.cell? ⟨bb, off + (a + 1), none⟩ = some (.int .i64 (hz zs (a + 1)))) (go_keep) ((go_at_call 34; refine (hNm _).mono ?_; rintro e wx ⟨rfl, rfl⟩))
          go_wp2_with fail
          go_roundw
          case rel => exact ⟨k + 1, hz zs (a + 1), by go_num, rfl, by omega, HPo.out, by rw [show zs.length - (k + 1) = n by omega]; exact HR2.out, (Kept.trans HK.out hk2).drew⟩
          case measure => simp [intOf]; omega
        · rw [lookF_hit (x := hz zs (q + 2)) n h5 (by rw [hO]; simp)] at hlk2
          have HR2 : Hid _ := hlk2
          obtain ⟨bb, off, rfl, hc⟩ := Ints.at HI.out (k := q + 2) (by omega)
          have cq := hc (q + 2) (by omega)
          have hbl : bb < w.heap.size := World.block_lt_of_cell? _ _ cq
          have p2 : (q : Int) + 2 < (zs.length : Int) := by omega
          have t2 : ((q : Int) + 2).toNat = q + 2 := by omega
          have n0 : (0 : Int) ≤ (q : Int) := by omega
          clear hlk2 hc hpr hO ha hK
          go_wp2_with (first | (go_at_call 30; refine (spec_Kind_ok _ _).mono ?_; rintro e wx ⟨rfl, rfl⟩) | (go_at_call 53; refine (HCl.out _ (Below.refl _ _)).mono ?_; rintro e w2 ⟨rfl, hk2⟩; have c2 := (bS.kept hk2).cell 0; have d2 := (((k0.trans HK.out).trans hk2).cell (p := ⟨bb, off + (q + 2), none⟩) hbl).trans cq))
          refine bodyPost_ret (v := .tuple #[.int .i64 (hz zs (q + 2)), .bool true]) (by simp [results, Try.results58, go_sem]) rfl ⟨by rw [← HR2.out]; rfl, (k0.trans HK.out).trans hk2⟩
      · obtain rfl : k = zs.length := by omega
        have HE : Hid (none = R) := by rw [Hid, ← HL.out, Nat.sub_self]; rfl
        clear hK
        go_wp2_with (go_at_call 30; refine (spec_Kind_ok _ _).mono ?_; rintro e wx ⟨rfl, rfl⟩)
        refine bodyPost_ret (v := .tuple #[.int .i64 0, .bool false]) (by simp [results, Try.results58, go_sem]) rfl ⟨by rw [← HE.out]; rfl, k0.trans HK.out⟩
end Go.Proofs.Ytlgaamhjpkkjmaa
