/-
  The contracts of the program's small functions on cells: cellAt, whether one is among others, the first one with a name.
-/
import Derived.Test.YtnamdleebijcbaaCelP
import Derived.Test.YtnamdleebijcbaaHelpL
import Derived.Deep.RegionWith
namespace Go.Proofs.Ytnamdleebijcbaa
open Go.RowKit
attribute [local go_sem] Plain.and7

/-- A cell as the program has it. -/
abbrev celC (zs : List Int) (p : Nat) : Array Value := #[.int .i64 (p : Int), .int .i64 (hz zs (p + 1)), .int .i64 (hz zs (p + 2)), .int .i64 (hz zs (p + 3))]
abbrev celG (zs : List Int) (p : Nat) : Value := .agg (celC zs p)
def celL (zs : List Int) (ps : List Nat) : List Value := ps.flatMap (fun p => (celC zs p).toList)
theorem celL_len (zs : List Int) (ps : List Nat) : (celL zs ps).length = ps.length * 4 := by
  induction ps with
  | nil => rfl
  | cons p ps ih =>
    have : celL zs (p :: ps) = (celC zs p).toList ++ celL zs ps := rfl
    rw [this, List.length_append, ih]
    simp
    omega
theorem celL_snoc (zs : List Int) (ps : List Nat) (p : Nat) : celL zs (ps ++ [p]) = celL zs ps ++ (celC zs p).toList := by simp [celL]
theorem celL_at (zs : List Int) : ∀ (ps : List Nat) (i p r : Nat), ps[i]? = some p → r < 4 → (celL zs ps)[i * 4 + r]? = (celC zs p)[r]?
  | [], i, p, r, h, _ => by simp at h
  | q :: ps, 0, p, r, h, hr => by
    have e : q = p := by simpa using h
    subst e
    have : celL zs (q :: ps) = (celC zs q).toList ++ celL zs ps := rfl
    rw [this, List.getElem?_append_left (by simp; omega)]
    simp
  | q :: ps, i + 1, p, r, h, hr => by
    have : celL zs (q :: ps) = (celC zs q).toList ++ celL zs ps := rfl
    rw [this, List.getElem?_append_right (by simp; omega)]
    rw [show (i + 1) * 4 + r - (celC zs q).toList.length = i * 4 + r by simp; omega]
    exact celL_at zs ps i p r (by simpa using h) hr
/-- The cells ps lie one behind the other at ao. -/
def CelsAt (W : World) (ao : Option Addr) (zs : List Int) (ps : List Nat) : Prop :=
  ∀ i p, ps[i]? = some p → ∃ b off, ao = some ⟨b, off, none⟩ ∧ ∀ r, r < 4 → W.cell? ⟨b, off + i * 4 + r, none⟩ = (celC zs p)[r]?
theorem CelsAt.kept {W W' : World} {ao : Option Addr} {zs : List Int} {ps : List Nat} (h : CelsAt W ao zs ps) (hk : Kept W W') : CelsAt W' ao zs ps := by
  intro i p hp
  obtain ⟨b, off, e, hc⟩ := h i p hp
  refine ⟨b, off, e, fun r hr => ?_⟩
  have h1 := hc r hr
  rw [← h1]
  refine hk.cell (p := ⟨b, off + i * 4 + r, none⟩) ?_
  obtain ⟨v, hv⟩ : ∃ v, (celC zs p)[r]? = some v := ⟨_, Array.getElem?_eq_getElem (by simpa using hr)⟩
  rw [hv] at h1
  exact World.block_lt_of_cell? _ _ h1
def OwnC (W : World) (base : Nat) (v : Value) (zs : List Int) (ps : List Nat) : Prop := W.ownsRow base 54 4 v ps.length (celL zs ps)
theorem OwnC.at {W : World} {base : Nat} {v : Value} {zs : List Int} {ps : List Nat} (h : OwnC W base v zs ps) : ∃ ao cap, v = .slice ao ps.length cap ∧ ps.length ≤ cap ∧ CelsAt W ao zs ps := by
  have h' := h
  rcases h.2 with ⟨rfl, hn⟩ | ⟨g, cap, cur, rfl, hb, hg, h1, _⟩
  · exact ⟨none, 0, by rw [hn], by omega, fun i p hp => by rw [List.length_eq_zero_iff.1 hn] at hp; simp at hp⟩
  · refine ⟨_, cap, rfl, h1, fun i p hp => ⟨g, 0, rfl, fun r hr => ?_⟩⟩
    have e := celL_at zs ps i p r hp hr
    obtain ⟨u, hu⟩ : ∃ u, (celC zs p)[r]? = some u := ⟨_, Array.getElem?_eq_getElem (by simpa using hr)⟩
    rw [hu] at e ⊢
    have h3 := h'.cells (g := g) rfl _ u e
    rw [show (⟨g, 0, none⟩ : Addr).add (i * 4 + r) = ⟨g, 0 + i * 4 + r, none⟩ by unfold Addr.add; split <;> simp_all] at h3
    exact h3
theorem infoC : (Try.prog.info? 54).map (fun i => (i.zero, i.size, i.bytes)) = some (some (.agg #[.int .i64 0, .int .i64 0, .int .i64 0, .int .i64 0]), 4, 32) := by kernel_rfl

set_option maxHeartbeats 4000000 in
set_option maxRecDepth 100000 in
theorem cellAt_ok (w : World) (ao : Option Addr) (cap : Nat) (zs : List Int) (a : Nat) (hI : Ints w ao zs) (hl : zs.length ≤ 1048576) (ha : a + 4 ≤ zs.length) :
    Calls Try.prog 75 #[.slice ao zs.length cap, .int .i64 (a : Int)] w fun e w' => e = .returned (celG zs a) ∧ Kept w w' := by
  obtain ⟨bb, off, rfl, hc⟩ := hI.at (k := 0) (by omega)
  have c1 := hc (a + 1) (by omega)
  have c2 := hc (a + 2) (by omega)
  have c3 := hc (a + 3) (by omega)
  have hbl : bb < w.heap.size := World.block_lt_of_cell? _ _ c1
  have p1 : (a : Int) + 1 < (zs.length : Int) := by omega
  have p2 : (a : Int) + 2 < (zs.length : Int) := by omega
  have p3 : (a : Int) + 3 < (zs.length : Int) := by omega
  have t1 : ((a : Int) + 1).toNat = a + 1 := by omega
  have t2 : ((a : Int) + 2).toNat = a + 2 := by omega
  have t3 : ((a : Int) + 3).toNat = a + 3 := by omega
  have w1 : IntKind.i64.wrap ((a : Int) + 1) = (a : Int) + 1 := by rw [IntWalk.i64_left, IntWalk.wrap64_in _ (by omega)]
  have w2 : IntKind.i64.wrap ((a : Int) + 2) = (a : Int) + 2 := by rw [IntWalk.i64_left, IntWalk.wrap64_in _ (by omega)]
  have w3 : IntKind.i64.wrap ((a : Int) + 3) = (a : Int) + 3 := by rw [IntWalk.i64_left, IntWalk.wrap64_in _ (by omega)]
  clear hc hI
  go_enter Try.func75, Try.ntmps75
  go_wp2_with fail
  go_region
  all_goals (
    go_wp2_with fail
    refine bodyPost_ret (v := celG zs a) (by simp [results, Try.results75, go_sem]) rfl ⟨rfl, ?_⟩
    repeat first | exact Below.refl _ _ | refine Kept.alloc ?_ _ | refine Kept.set ?_ (by simp) _ | refine Below.drew ?_)
set_option maxHeartbeats 4000000 in
set_option maxRecDepth 100000 in
theorem cellIndex_ok (w : World) (ao : Option Addr) (cap : Nat) (zs : List Int) (ps : List Nat) (p : Nat) (hR : CelsAt w ao zs ps) (hl : ps.length ≤ 1048576) :
    Calls Try.prog 86 #[.slice ao ps.length cap, celG zs p] w fun e w' => ∃ r : Int, e = .returned (.int .i64 r) ∧ (0 ≤ r ↔ p ∈ ps) ∧ Kept w w' := by
  have b0 := Cells.new w 54 (celC zs p)
  have k0 : Kept w (w.alloc (.cells (celC zs p) 54)) := Kept.alloc (Below.refl _ _) _
  obtain ⟨W, hW⟩ : ∃ W, w.alloc (.cells (celC zs p) 54) = W := ⟨_, rfl⟩
  go_enter Try.func86, Try.ntmps86
  go_wp2_with fail
  simp only [hW] at b0 k0 ⊢
  clear hW
  have HR : Hid _ := hR.kept k0
  have HB : Hid _ := b0
  have HK : Hid _ := k0
  clear hR b0 k0
  go_loopw [8] (fun i wr => ∃ k : Nat, i = .int .i64 k ∧ k ≤ ps.length ∧ (∀ j q, j < k → ps[j]? = some q → q ≠ p) ∧ Kept W wr) (fun i _ => ps.length - (intOf i).toNat)
  case atStart => exact ⟨0, rfl, Nat.zero_le _, fun j q h => absurd h (by omega), Below.refl _ _⟩
  case round =>
    obtain ⟨k, rfl, hk, hno, hK⟩ := hrel
    have HN : Hid _ := hno
    have HK1 : Hid _ := hK
    clear hno
    by_cases hlt : k < ps.length
    · obtain ⟨q, hq⟩ : ∃ q, ps[k]? = some q := ⟨_, List.getElem?_eq_getElem hlt⟩
      obtain ⟨b, off, rfl, hc⟩ := HR.out k q hq
      have hbl : b < W.heap.size := World.block_lt_of_cell? _ _ (hc 0 (by omega))
      have hcr : ∀ r, r < 4 → wr.cell? ⟨b, off + k * 4 + r, none⟩ = (celC zs q)[r]? := fun r hr => (hK.cell (p := ⟨b, off + k * 4 + r, none⟩) hbl).trans (hc r hr)
      have c0 := hcr 0 (by omega)
      have c1 := hcr 1 (by omega)
      have c2 := hcr 2 (by omega)
      have c3 := hcr 3 (by omega)
      have bb := Cells.kept HB.out hK
      have d0 := bb.cell 0
      have d1 := bb.cell 1
      have d2 := bb.cell 2
      have d3 := bb.cell 3
      simp only [Nat.add_zero] at c0
      have q1 : (k : Int) < (ps.length : Int) := by omega
      clear hc hcr bb hK
      by_cases he : q = p
      · subst he
        have HM : Hid (q ∈ ps) := List.mem_of_getElem? hq
        clear hq
        go_wp2_with fail
        go_region
        all_goals (
          go_wp2_with fail
          go_ret
          exact ⟨_, rfl, ⟨fun _ => HM.out, fun _ => by omega⟩, Kept.trans HK.out (Kept.trans HK1.out (Below.refl _ wr).drew)⟩)
      · have e1 : ((p : Int) == (q : Int)) = false := by simp; omega
        have HQ : Hid _ := hq
        clear hq
        go_wp2_with fail
        go_region
        all_goals (
          go_wp2_with fail
          go_roundw
          case rel => exact ⟨k + 1, by go_num, by omega, fun j q' hj hq' => by
            rcases Nat.lt_succ_iff_lt_or_eq.1 hj with h | h
            · exact HN.out j q' h hq'
            · rw [h, HQ.out] at hq'; cases hq'; exact he, Kept.trans HK1.out (Below.refl _ wr).drew⟩
          case measure => simp [intOf]; omega)
    · obtain rfl : k = ps.length := by omega
      clear hK
      go_wp2
      go_ret
      refine ⟨_, rfl, ⟨fun h => absurd h (by omega), fun h => ?_⟩, Kept.trans HK.out HK1.out⟩
      obtain ⟨j, hj, e⟩ := List.getElem_of_mem h
      exact absurd e (HN.out j _ hj (List.getElem?_eq_getElem hj))
set_option maxHeartbeats 4000000 in
set_option maxRecDepth 100000 in
theorem cellContains_ok (w : World) (ao : Option Addr) (cap : Nat) (zs : List Int) (ps : List Nat) (p : Nat) (hR : CelsAt w ao zs ps) (hl : ps.length ≤ 1048576) :
    Calls Try.prog 76 #[.slice ao ps.length cap, celG zs p] w fun e w' => e = .returned (.bool (decide (p ∈ ps))) ∧ Kept w w' := by
  have k0 : Kept w (w.alloc (.cells (celC zs p) 54)) := Kept.alloc (Below.refl _ _) _
  have hC := cellIndex_ok _ ao cap zs ps p (hR.kept k0) hl
  go_enter Try.func76, Try.ntmps76
  go_wp2_with fail
  refine hC.mono ?_
  rintro e w1 ⟨r, rfl, hr, hk1⟩
  have hd : decide (0 ≤ r) = decide (p ∈ ps) := by simp [hr]
  clear hr hC
  go_wp2_with fail
  go_ret
  exact ⟨rfl, k0.trans hk1⟩
end Go.Proofs.Ytnamdleebijcbaa
