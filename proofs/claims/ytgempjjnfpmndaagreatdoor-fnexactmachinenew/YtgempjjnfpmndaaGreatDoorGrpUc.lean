/-
  Right units, the program's side: operand.bounds, operand.fits, stepOk (chapter 15).
  Right units, the program's side: stepOk (chapter 15).
  Right units, the program's side: textsOk, codeOk, UnitOk (chapter 15).
  Right units, the program's side: UnitOk (chapter 15).
-/
import Derived.BigQuiet
import Derived.Test.YtgempjjnfpmndaaGreatDoorUntP
namespace Go.Proofs.YtgempjjnfpmndaaGreatDoor
open Go.RowKit
set_option linter.unusedSimpArgs false
set_option linter.unusedVariables false
set_option maxHeartbeats 4000000 in
set_option maxRecDepth 100000 in
theorem bounds_1 (w : World) (ca ta xa : Option Addr) (cc tc xc nc nt ns : Nat) (n v : Int) (hnc : nc ≤ 1048576) (hnt : nt ≤ 1048576) (hns : ns ≤ 1048576) :
    Calls Tryz.prog 198 #[.int .i64 1, .agg #[.slice ca nc cc, .slice ta nt tc], .agg #[.int .i64 n, .int .i64 v, .slice xa ns xc]] w fun e w' => e = .returned (.tuple #[.int .i64 (-2147483648), .int .i64 2147483647]) ∧ Kept w w' := by
  have k0 : Kept w ((w.alloc (.cells #[.slice ca nc cc, .slice ta nt tc] 38)).alloc (.cells #[.int .i64 n, .int .i64 v, .slice xa ns xc] 91)) := (Kept.alloc (Below.refl _ _) _).alloc _
  go_enter Tryz.func198, Tryz.ntmps198
  go_wp2_with fail
  refine bodyPost_ret (v := .tuple #[.int .i64 (-2147483648), .int .i64 2147483647]) (by simp [results, Tryz.results198, go_sem]) rfl ⟨rfl, k0⟩
set_option maxHeartbeats 4000000 in
set_option maxRecDepth 100000 in
theorem bounds_2 (w : World) (ca ta xa : Option Addr) (cc tc xc nc nt ns : Nat) (n v : Int) (hnc : nc ≤ 1048576) (hnt : nt ≤ 1048576) (hns : ns ≤ 1048576) :
    Calls Tryz.prog 198 #[.int .i64 2, .agg #[.slice ca nc cc, .slice ta nt tc], .agg #[.int .i64 n, .int .i64 v, .slice xa ns xc]] w fun e w' => e = .returned (.tuple #[.int .i64 0, .int .i64 ((nt : Int) - 1)]) ∧ Kept w w' := by
  have k0 : Kept w ((w.alloc (.cells #[.slice ca nc cc, .slice ta nt tc] 38)).alloc (.cells #[.int .i64 n, .int .i64 v, .slice xa ns xc] 91)) := (Kept.alloc (Below.refl _ _) _).alloc _
  go_enter Tryz.func198, Tryz.ntmps198
  go_wp2_with fail
  go_region
  all_goals (
    go_wp2_with fail
    refine bodyPost_ret (v := .tuple #[.int .i64 0, .int .i64 ((nt : Int) - 1)]) (by simp [results, Tryz.results198, go_sem]) rfl ⟨rfl, k0.drew⟩)
set_option maxHeartbeats 4000000 in
set_option maxRecDepth 100000 in
theorem bounds_3 (w : World) (ca ta xa : Option Addr) (cc tc xc nc nt ns : Nat) (n v : Int) (hnc : nc ≤ 1048576) (hnt : nt ≤ 1048576) (hns : ns ≤ 1048576) :
    Calls Tryz.prog 198 #[.int .i64 3, .agg #[.slice ca nc cc, .slice ta nt tc], .agg #[.int .i64 n, .int .i64 v, .slice xa ns xc]] w fun e w' => e = .returned (.tuple #[.int .i64 0, .int .i64 40]) ∧ Kept w w' := by
  have k0 : Kept w ((w.alloc (.cells #[.slice ca nc cc, .slice ta nt tc] 38)).alloc (.cells #[.int .i64 n, .int .i64 v, .slice xa ns xc] 91)) := (Kept.alloc (Below.refl _ _) _).alloc _
  go_enter Tryz.func198, Tryz.ntmps198
  go_wp2_with fail
  refine bodyPost_ret (v := .tuple #[.int .i64 0, .int .i64 40]) (by simp [results, Tryz.results198, go_sem]) rfl ⟨rfl, k0⟩
set_option maxHeartbeats 4000000 in
set_option maxRecDepth 100000 in
theorem bounds_4 (w : World) (ca ta xa : Option Addr) (cc tc xc nc nt ns : Nat) (n v : Int) (hnc : nc ≤ 1048576) (hnt : nt ≤ 1048576) (hns : ns ≤ 1048576) :
    Calls Tryz.prog 198 #[.int .i64 4, .agg #[.slice ca nc cc, .slice ta nt tc], .agg #[.int .i64 n, .int .i64 v, .slice xa ns xc]] w fun e w' => e = .returned (.tuple #[.int .i64 0, .int .i64 11]) ∧ Kept w w' := by
  have k0 : Kept w ((w.alloc (.cells #[.slice ca nc cc, .slice ta nt tc] 38)).alloc (.cells #[.int .i64 n, .int .i64 v, .slice xa ns xc] 91)) := (Kept.alloc (Below.refl _ _) _).alloc _
  go_enter Tryz.func198, Tryz.ntmps198
  go_wp2_with fail
  refine bodyPost_ret (v := .tuple #[.int .i64 0, .int .i64 11]) (by simp [results, Tryz.results198, go_sem]) rfl ⟨rfl, k0⟩
set_option maxHeartbeats 4000000 in
set_option maxRecDepth 100000 in
theorem bounds_5 (w : World) (ca ta xa : Option Addr) (cc tc xc nc nt ns : Nat) (n v : Int) (hnc : nc ≤ 1048576) (hnt : nt ≤ 1048576) (hns : ns ≤ 1048576) :
    Calls Tryz.prog 198 #[.int .i64 5, .agg #[.slice ca nc cc, .slice ta nt tc], .agg #[.int .i64 n, .int .i64 v, .slice xa ns xc]] w fun e w' => e = .returned (.tuple #[.int .i64 0, .int .i64 200]) ∧ Kept w w' := by
  have k0 : Kept w ((w.alloc (.cells #[.slice ca nc cc, .slice ta nt tc] 38)).alloc (.cells #[.int .i64 n, .int .i64 v, .slice xa ns xc] 91)) := (Kept.alloc (Below.refl _ _) _).alloc _
  go_enter Tryz.func198, Tryz.ntmps198
  go_wp2_with fail
  refine bodyPost_ret (v := .tuple #[.int .i64 0, .int .i64 200]) (by simp [results, Tryz.results198, go_sem]) rfl ⟨rfl, k0⟩
set_option maxHeartbeats 4000000 in
set_option maxRecDepth 100000 in
theorem bounds_6 (w : World) (ca ta xa : Option Addr) (cc tc xc nc nt ns : Nat) (n v : Int) (hnc : nc ≤ 1048576) (hnt : nt ≤ 1048576) (hns : ns ≤ 1048576) :
    Calls Tryz.prog 198 #[.int .i64 6, .agg #[.slice ca nc cc, .slice ta nt tc], .agg #[.int .i64 n, .int .i64 v, .slice xa ns xc]] w fun e w' => e = .returned (.tuple #[.int .i64 0, .int .i64 ((ns : Int) - 1)]) ∧ Kept w w' := by
  have k0 : Kept w ((w.alloc (.cells #[.slice ca nc cc, .slice ta nt tc] 38)).alloc (.cells #[.int .i64 n, .int .i64 v, .slice xa ns xc] 91)) := (Kept.alloc (Below.refl _ _) _).alloc _
  go_enter Tryz.func198, Tryz.ntmps198
  go_wp2_with fail
  go_region
  all_goals (
    go_wp2_with fail
    refine bodyPost_ret (v := .tuple #[.int .i64 0, .int .i64 ((ns : Int) - 1)]) (by simp [results, Tryz.results198, go_sem]) rfl ⟨rfl, k0.drew⟩)
set_option maxHeartbeats 4000000 in
set_option maxRecDepth 100000 in
theorem bounds_7 (w : World) (ca ta xa : Option Addr) (cc tc xc nc nt ns : Nat) (n v : Int) (hnc : nc ≤ 1048576) (hnt : nt ≤ 1048576) (hns : ns ≤ 1048576) :
    Calls Tryz.prog 198 #[.int .i64 7, .agg #[.slice ca nc cc, .slice ta nt tc], .agg #[.int .i64 n, .int .i64 v, .slice xa ns xc]] w fun e w' => e = .returned (.tuple #[.int .i64 0, .int .i64 ((nc : Int) - 1)]) ∧ Kept w w' := by
  have k0 : Kept w ((w.alloc (.cells #[.slice ca nc cc, .slice ta nt tc] 38)).alloc (.cells #[.int .i64 n, .int .i64 v, .slice xa ns xc] 91)) := (Kept.alloc (Below.refl _ _) _).alloc _
  go_enter Tryz.func198, Tryz.ntmps198
  go_wp2_with fail
  go_region
  all_goals (
    go_wp2_with fail
    refine bodyPost_ret (v := .tuple #[.int .i64 0, .int .i64 ((nc : Int) - 1)]) (by simp [results, Tryz.results198, go_sem]) rfl ⟨rfl, k0.drew⟩)
set_option maxHeartbeats 4000000 in
set_option maxRecDepth 100000 in
theorem bounds_0 (w : World) (ca ta xa : Option Addr) (cc tc xc nc nt ns : Nat) (n v : Int) (hnc : nc ≤ 1048576) (hnt : nt ≤ 1048576) (hns : ns ≤ 1048576) (k : Int) (h1 : (k == 1) = false) (h2 : (k == 2) = false) (h3 : (k == 3) = false) (h4 : (k == 4) = false) (h5 : (k == 5) = false) (h6 : (k == 6) = false) (h7 : (k == 7) = false) :
    Calls Tryz.prog 198 #[.int .i64 k, .agg #[.slice ca nc cc, .slice ta nt tc], .agg #[.int .i64 n, .int .i64 v, .slice xa ns xc]] w fun e w' => e = .returned (.tuple #[.int .i64 0, .int .i64 0]) ∧ Kept w w' := by
  have k0 : Kept w ((w.alloc (.cells #[.slice ca nc cc, .slice ta nt tc] 38)).alloc (.cells #[.int .i64 n, .int .i64 v, .slice xa ns xc] 91)) := (Kept.alloc (Below.refl _ _) _).alloc _
  go_enter Tryz.func198, Tryz.ntmps198
  go_wp2_with fail
  refine bodyPost_ret (v := .tuple #[.int .i64 0, .int .i64 0]) (by simp [results, Tryz.results198, go_sem]) rfl ⟨rfl, k0⟩
theorem bounds_ok (w : World) (ca ta xa : Option Addr) (cc tc xc nc nt ns : Nat) (n v : Int) (hnc : nc ≤ 1048576) (hnt : nt ≤ 1048576) (hns : ns ≤ 1048576) (k : Int) :
    Calls Tryz.prog 198 #[.int .i64 k, .agg #[.slice ca nc cc, .slice ta nt tc], .agg #[.int .i64 n, .int .i64 v, .slice xa ns xc]] w fun e w' => e = .returned (.tuple #[.int .i64 (bndR k nt nc ns).1, .int .i64 (bndR k nt nc ns).2]) ∧ Kept w w' := by
  by_cases h1 : k = 1
  · subst h1
    exact bounds_1 w ca ta xa cc tc xc nc nt ns n v hnc hnt hns
  by_cases h2 : k = 2
  · subst h2
    exact bounds_2 w ca ta xa cc tc xc nc nt ns n v hnc hnt hns
  by_cases h3 : k = 3
  · subst h3
    exact bounds_3 w ca ta xa cc tc xc nc nt ns n v hnc hnt hns
  by_cases h4 : k = 4
  · subst h4
    exact bounds_4 w ca ta xa cc tc xc nc nt ns n v hnc hnt hns
  by_cases h5 : k = 5
  · subst h5
    exact bounds_5 w ca ta xa cc tc xc nc nt ns n v hnc hnt hns
  by_cases h6 : k = 6
  · subst h6
    exact bounds_6 w ca ta xa cc tc xc nc nt ns n v hnc hnt hns
  by_cases h7 : k = 7
  · subst h7
    exact bounds_7 w ca ta xa cc tc xc nc nt ns n v hnc hnt hns
  have e : bndR k nt nc ns = (0, 0) := by simp only [bndR, if_neg h1, if_neg h2, if_neg h3, if_neg h4, if_neg h5, if_neg h6, if_neg h7]
  rw [e]
  exact bounds_0 w ca ta xa cc tc xc nc nt ns n v hnc hnt hns k (by simpa using h1) (by simpa using h2) (by simpa using h3) (by simpa using h4) (by simpa using h5) (by simpa using h6) (by simpa using h7)
set_option maxHeartbeats 4000000 in
set_option maxRecDepth 100000 in
theorem fits_ok (w : World) (ca ta xa : Option Addr) (cc tc xc nc nt ns : Nat) (n v : Int) (hnc : nc ≤ 1048576) (hnt : nt ≤ 1048576) (hns : ns ≤ 1048576) (k m : Int) :
    Calls Tryz.prog 180 #[.int .i64 k, .int .i64 m, .agg #[.slice ca nc cc, .slice ta nt tc], .agg #[.int .i64 n, .int .i64 v, .slice xa ns xc]] w fun e w' => e = .returned (.bool (fitR k m nt nc ns)) ∧ Kept w w' := by
  have k0 : Kept w ((w.alloc (.cells #[.slice ca nc cc, .slice ta nt tc] 38)).alloc (.cells #[.int .i64 n, .int .i64 v, .slice xa ns xc] 91)) := (Kept.alloc (Below.refl _ _) _).alloc _
  have hC := bounds_ok ((w.alloc (.cells #[.slice ca nc cc, .slice ta nt tc] 38)).alloc (.cells #[.int .i64 n, .int .i64 v, .slice xa ns xc] 91)) ca ta xa cc tc xc nc nt ns n v hnc hnt hns k
  have HF : Hid (fitR k m nt nc ns = decide ((bndR k nt nc ns).1 ≤ m ∧ m ≤ (bndR k nt nc ns).2)) := rfl
  obtain ⟨⟨lo, hi⟩, hb⟩ : ∃ b, bndR k nt nc ns = b := ⟨_, rfl⟩
  rw [hb] at hC HF
  simp only at hC HF
  clear hb hnc hnt hns
  by_cases h1 : lo ≤ m
  · have HE : Hid (fitR k m nt nc ns = decide (m ≤ hi)) := by rw [Hid, HF.out]; simp [h1]
    go_enter Tryz.func180, Tryz.ntmps180
    go_wp2_with (go_at_call 198; refine hC.mono ?_; rintro e w1 ⟨rfl, hk1⟩)
    go_ret
    exact ⟨by rw [HE.out]; rfl, Kept.trans k0 hk1⟩
  · have HE : Hid (fitR k m nt nc ns = false) := by rw [Hid, HF.out]; exact decide_eq_false (fun h => h1 h.1)
    go_enter Tryz.func180, Tryz.ntmps180
    go_wp2_with (go_at_call 198; refine hC.mono ?_; rintro e w1 ⟨rfl, hk1⟩)
    go_ret
    exact ⟨by rw [HE.out]; rfl, Kept.trans k0 hk1⟩
end Go.Proofs.YtgempjjnfpmndaaGreatDoor
namespace Go.Proofs.YtgempjjnfpmndaaGreatDoor
open Go.RowKit
set_option linter.unusedSimpArgs false
set_option linter.unusedVariables false
theorem opTab_name : ∀ e ∈ opTab.drop 1, e.1.size ≠ 0 := by decide
theorem formR_name {o : Int} (h : 1 ≤ o ∧ o ≤ 25) : (formR o).1.size ≠ 0 := by
  obtain ⟨k, rfl⟩ : ∃ k : Nat, o = (k + 1 : Nat) := ⟨o.toNat - 1, by omega⟩
  obtain ⟨e, he⟩ : ∃ e, opTab[k + 1]? = some e := ⟨_, List.getElem?_eq_getElem (by rw [opTab_len]; omega)⟩
  rw [formR_at he]
  exact opTab_name e (List.mem_of_getElem? (i := k) (by rw [List.getElem?_drop, Nat.add_comm]; exact he))
theorem formR_none {o : Int} (h : ¬ (1 ≤ o ∧ o ≤ 25)) : formR o = (⟨#[]⟩, 0, 0) := by
  by_cases h0 : o = 0
  · subst h0; decide
  · exact formR_no (by omega)
set_option maxHeartbeats 8000000 in
set_option maxRecDepth 100000 in
theorem stepOk_ok (w : World) (ca ta xa : Option Addr) (cc tc xc nc nt ns : Nat) (n v : Int) (hnc : nc ≤ 1048576) (hnt : nt ≤ 1048576) (hns : ns ≤ 1048576) (o a b : Int) (hF : Forms w) :
    Calls Tryz.prog 144 #[.agg #[.int .i64 o, .int .i64 a, .int .i64 b], .agg #[.slice ca nc cc, .slice ta nt tc], .agg #[.int .i64 n, .int .i64 v, .slice xa ns xc]] w fun e w' => e = .returned (.bool (stpR (o, a, b) nt nc ns)) ∧ Kept w w' := by
  have k0 : Kept w (((w.alloc (.cells #[.int .i64 o, .int .i64 a, .int .i64 b] 131)).alloc (.cells #[.slice ca nc cc, .slice ta nt tc] 38)).alloc (.cells #[.int .i64 n, .int .i64 v, .slice xa ns xc] 91)) := ((Kept.alloc (Below.refl _ _) _).alloc _).alloc _
  have y0 := ((Cells.new w 131 #[.int .i64 o, .int .i64 a, .int .i64 b]).alloc (.cells #[.slice ca nc cc, .slice ta nt tc] 38)).alloc (.cells #[.int .i64 n, .int .i64 v, .slice xa ns xc] 91)
  have y1 := (Cells.new (w.alloc (.cells #[.int .i64 o, .int .i64 a, .int .i64 b] 131)) 38 #[.slice ca nc cc, .slice ta nt tc]).alloc (.cells #[.int .i64 n, .int .i64 v, .slice xa ns xc] 91)
  have y2 := Cells.new ((w.alloc (.cells #[.int .i64 o, .int .i64 a, .int .i64 b] 131)).alloc (.cells #[.slice ca nc cc, .slice ta nt tc] 38)) 91 #[.int .i64 n, .int .i64 v, .slice xa ns xc]
  simp only [World.size_alloc] at y0 y1 y2
  have hC := formOf_ok (((w.alloc (.cells #[.int .i64 o, .int .i64 a, .int .i64 b] 131)).alloc (.cells #[.slice ca nc cc, .slice ta nt tc] 38)).alloc (.cells #[.int .i64 n, .int .i64 v, .slice xa ns xc] 91)) o (hF.kept k0)
  have HS : Hid (stpR (o, a, b) nt nc ns = (decide (1 ≤ o ∧ o ≤ 25) && (fitR (formR o).2.1 a nt nc ns && fitR (formR o).2.2 b nt nc ns))) := rfl
  by_cases ho : 1 ≤ o ∧ o ≤ 25
  · have hnm := formR_name ho
    rw [decide_eq_true ho, Bool.true_and] at HS
    obtain ⟨⟨nm, x, y⟩, hf⟩ : ∃ f, formR o = f := ⟨_, rfl⟩
    rw [hf] at hC HS hnm
    simp only at HS hnm
    have hn1 : ¬ nm.toList = [] := by
      rw [ByteArray.toList_eq]
      intro h
      exact hnm (by show nm.data.size = 0; rw [← Array.length_toList, h]; rfl)
    have HE : Hid ((!nm.toList.isEmpty) = true) := by
      rw [Hid]
      cases hh : nm.toList with
      | nil => exact absurd hh hn1
      | cons c r => rfl
    have HX : Hid (∀ u, Calls Tryz.prog 180 #[.int .i64 x, .int .i64 a, .agg #[.slice ca nc cc, .slice ta nt tc], .agg #[.int .i64 n, .int .i64 v, .slice xa ns xc]] u fun e w' => e = .returned (.bool (fitR x a nt nc ns)) ∧ Kept u w') := fun u => fits_ok u ca ta xa cc tc xc nc nt ns n v hnc hnt hns x a
    have HY : Hid (∀ u, Calls Tryz.prog 180 #[.int .i64 y, .int .i64 b, .agg #[.slice ca nc cc, .slice ta nt tc], .agg #[.int .i64 n, .int .i64 v, .slice xa ns xc]] u fun e w' => e = .returned (.bool (fitR y b nt nc ns)) ∧ Kept u w') := fun u => fits_ok u ca ta xa cc tc xc nc nt ns n v hnc hnt hns y b
    clear hnm hf ho hF hnc hnt hns
    by_cases h1 : fitR x a nt nc ns = true
    · rw [h1] at HX HS
      rw [Bool.true_and] at HS
      obtain ⟨q, hq⟩ : ∃ q, fitR y b nt nc ns = q := ⟨_, rfl⟩
      rw [hq] at HY HS
      clear h1 hq
      go_enter Tryz.func144, Tryz.ntmps144
      go_wp2_with (first
        | (have _tk := hk2; go_at_call 180; refine (HY.out _).mono ?_; rintro e w3 ⟨rfl, hk3⟩)
        | (have _tk := kA; go_at_call 180; refine (HX.out _).mono ?_; rintro e w2 ⟨rfl, hk2⟩; have z0 := (m0.alloc (.cells #[.string nm, .int .i64 x, .int .i64 y] 197)).kept hk2; have z1 := (m1.alloc (.cells #[.string nm, .int .i64 x, .int .i64 y] 197)).kept hk2; have z2 := (m2.alloc (.cells #[.string nm, .int .i64 x, .int .i64 y] 197)).kept hk2; have zf := (Cells.new w1 197 #[.string nm, .int .i64 x, .int .i64 y]).kept hk2; have t2 := z0.cell 2; have u0 := z1.cell 0; have u1 := z1.cell 1; have v0 := z2.cell 0; have v1 := z2.cell 1; have v2 := z2.cell 2; have f2 := zf.cell 2)
        | (go_at_call 179; refine hC.mono ?_; simp only [formV]; rintro e w1 ⟨rfl, hk1⟩; have m0 := y0.kept hk1; have m1 := y1.kept hk1; have m2 := y2.kept hk1; have s0 := m0.cell 0; have s1 := m0.cell 1; have s2 := m0.cell 2; have u0 := m1.cell 0; have u1 := m1.cell 1; have v0 := m2.cell 0; have v1 := m2.cell 1; have v2 := m2.cell 2; have ml0 := m0.lt; have ml1 := m1.lt; have ml2 := m2.lt; have kA := Kept.alloc (Kept.trans k0 hk1) (.cells #[.string nm, .int .i64 x, .int .i64 y] 197)))
      go_ret
      exact ⟨by show Ending.returned (Value.bool (!nm.toList.isEmpty && q)) = _; rw [HE.out, Bool.true_and, HS.out], Kept.trans (Kept.trans kA hk2) hk3⟩
    · have h1' : fitR x a nt nc ns = false := by simpa using h1
      rw [h1'] at HX HS
      rw [Bool.false_and] at HS
      clear h1 h1'
      go_enter Tryz.func144, Tryz.ntmps144
      go_wp2_with (first
        | (have _tk := kA; go_at_call 180; refine (HX.out _).mono ?_; rintro e w2 ⟨rfl, hk2⟩)
        | (go_at_call 179; refine hC.mono ?_; simp only [formV]; rintro e w1 ⟨rfl, hk1⟩; have m0 := y0.kept hk1; have m1 := y1.kept hk1; have m2 := y2.kept hk1; have s0 := m0.cell 0; have s1 := m0.cell 1; have s2 := m0.cell 2; have u0 := m1.cell 0; have u1 := m1.cell 1; have v0 := m2.cell 0; have v1 := m2.cell 1; have v2 := m2.cell 2; have ml0 := m0.lt; have ml1 := m1.lt; have ml2 := m2.lt; have kA := Kept.alloc (Kept.trans k0 hk1) (.cells #[.string nm, .int .i64 x, .int .i64 y] 197)))
      go_ret
      exact ⟨by rw [HS.out]; rfl, Kept.trans kA hk2⟩
  · rw [decide_eq_false ho, Bool.false_and] at HS
    rw [formR_none ho] at hC
    clear ho hF hnc hnt hns
    go_enter Tryz.func144, Tryz.ntmps144
    go_wp2_with (go_at_call 179; refine hC.mono ?_; simp only [formV]; rintro e w1 ⟨rfl, hk1⟩)
    go_ret
    exact ⟨by rw [HS.out]; rfl, Kept.alloc (Kept.trans k0 hk1) _⟩
end Go.Proofs.YtgempjjnfpmndaaGreatDoor
namespace Go.Proofs.YtgempjjnfpmndaaGreatDoor
open Go.RowKit
set_option linter.unusedSimpArgs false
set_option linter.unusedVariables false
set_option maxHeartbeats 8000000 in
set_option maxRecDepth 100000 in
theorem textsOk_ok (w : World) (ta : Option Addr) (tc : Nat) (ts : List ByteArray) (hA : StA w ta ts) (hl : ts.length ≤ 1048576) :
    Calls Tryz.prog 101 #[.slice ta ts.length tc] w fun e w' => e = .returned (.bool (textsR ts)) ∧ w' = w := by
  have HA : Hid _ := hA
  clear hA
  by_cases h2 : ts.length ≤ 200
  · have hd : ¬ (200 : Int) < (ts.length : Int) := by omega
    have HT : Hid (textsR ts = ts.all (fun t => decide (t.size ≤ 30))) := by rw [Hid, textsR, decide_eq_true h2, Bool.true_and]
    go_enter Tryz.func101, Tryz.ntmps101
    go_wp2_with fail
    go_loopw [10] (fun i wr => ∃ k : Nat, i = .int .i64 k ∧ k ≤ ts.length ∧ Hid (∀ (j : Nat) t, j < k → ts[j]? = some t → t.size ≤ 30) ∧ HidW wr w) (fun i _ => ts.length - (intOf i).toNat)
    case atStart => exact ⟨0, rfl, Nat.zero_le _, fun j t hj => by omega, ⟨rfl⟩⟩
    case round =>
      obtain ⟨k, rfl, hk, HM, HQ⟩ := hrel
      obtain rfl := HQ.out
      by_cases hlt : k < ts.length
      · obtain ⟨t, ht⟩ : ∃ t, ts[k]? = some t := ⟨_, List.getElem?_eq_getElem hlt⟩
        obtain ⟨b, off, rfl, hc⟩ := HA.out k t ht
        have q1 : (k : Int) < (ts.length : Int) := by omega
        by_cases h3 : t.size ≤ 30
        · have h3' : ¬ (30 : Int) < (t.size : Int) := by omega
          have HM2 : Hid (∀ (j : Nat) t, j < k + 1 → ts[j]? = some t → t.size ≤ 30) := by
            intro j u hj hu
            by_cases hjk : j = k
            · subst hjk
              rw [ht] at hu
              injection hu with hu
              rw [← hu]
              exact h3
            · exact HM.out j u (by omega) hu
          clear ht h3
          go_wp2_with fail
          go_roundw
          case rel => exact ⟨k + 1, by go_num, by omega, HM2.out, ⟨rfl⟩⟩
          case measure => simp [intOf]; omega
        · have h3' : (30 : Int) < (t.size : Int) := by omega
          have HE : Hid (textsR ts = false) := by rw [Hid, HT.out]; exact all_no ht (by simp; omega)
          clear ht h3
          go_wp2_with fail
          go_ret
          exact ⟨by rw [HE.out]; rfl, rfl⟩
      · have q1 : ¬ (k : Int) < (ts.length : Int) := by omega
        have HE : Hid (textsR ts = true) := by
          rw [Hid, HT.out]
          exact all_yes (fun j t hj ht => decide_eq_true (HM.out j t (by omega) ht))
        go_wp2_with fail
        go_ret
        exact ⟨by rw [HE.out]; rfl, rfl⟩
  · have hd : (200 : Int) < (ts.length : Int) := by omega
    have HE : Hid (textsR ts = false) := by rw [Hid, textsR, decide_eq_false h2, Bool.false_and]
    go_enter Tryz.func101, Tryz.ntmps101
    go_wp2_with fail
    go_ret
    exact ⟨by rw [HE.out]; rfl, rfl⟩
set_option maxHeartbeats 8000000 in
set_option maxRecDepth 100000 in
theorem codeOk_ok (w : World) (ca ta xa : Option Addr) (cc tc xc nc nt : Nat) (c : Cod) (hnc : nc ≤ 1048576) (hnt : nt ≤ 1048576) (hS : StpsA w xa c.ss) (hF : Forms w) :
    Calls Tryz.prog 102 #[.agg #[.int .i64 c.n, .int .i64 c.v, .slice xa c.ss.length xc], .agg #[.slice ca nc cc, .slice ta nt tc]] w fun e w' => e = .returned (.bool (codR c nt nc)) ∧ Kept w w' := by
  have k0 : Kept w ((w.alloc (.cells #[.int .i64 c.n, .int .i64 c.v, .slice xa c.ss.length xc] 91)).alloc (.cells #[.slice ca nc cc, .slice ta nt tc] 38)) := (Kept.alloc (Below.refl _ _) _).alloc _
  have y0 := (Cells.new w 91 #[.int .i64 c.n, .int .i64 c.v, .slice xa c.ss.length xc]).alloc (.cells #[.slice ca nc cc, .slice ta nt tc] 38)
  have y1 := Cells.new (w.alloc (.cells #[.int .i64 c.n, .int .i64 c.v, .slice xa c.ss.length xc] 91)) 38 #[.slice ca nc cc, .slice ta nt tc]
  simp only [World.size_alloc] at y0 y1
  obtain ⟨n, v, ss⟩ := c
  simp only at k0 y0 y1 hS ⊢
  have HC : Hid (codR ⟨n, v, ss⟩ nt nc = (headR ⟨n, v, ss⟩ && (ss.all (fun s => stpR s nt nc ss.length) && lastR ⟨n, v, ss⟩))) := rfl
  by_cases hh : headR ⟨n, v, ss⟩ = true
  · rw [hh, Bool.true_and] at HC
    obtain ⟨h1, h2, h3, h4, h5⟩ : 0 ≤ n ∧ n ≤ v ∧ v ≤ 12 ∧ 1 ≤ ss.length ∧ ss.length ≤ 2000 := of_decide_eq_true hh
    have d1 : ¬ n < 0 := by omega
    have d2 : ¬ v < n := by omega
    have d3 : ¬ (12 : Int) < v := by omega
    have d4 : ¬ (ss.length : Int) < 1 := by omega
    have d5 : ¬ (2000 : Int) < (ss.length : Int) := by omega
    have HS : Hid (StpsA w xa ss) := hS
    have HF : Hid (Forms w) := hF
    have HK0 : Hid _ := k0
    have HY0 : Hid _ := y0
    have HY1 : Hid _ := y1
    have HST : Hid (∀ u o a b, Forms u → Calls Tryz.prog 144 #[.agg #[.int .i64 o, .int .i64 a, .int .i64 b], .agg #[.slice ca nc cc, .slice ta nt tc], .agg #[.int .i64 n, .int .i64 v, .slice xa ss.length xc]] u fun e w' => e = .returned (.bool (stpR (o, a, b) nt nc ss.length)) ∧ Kept u w') := fun u o a b hf => stepOk_ok u ca ta xa cc tc xc nc nt ss.length n v hnc hnt (by omega) o a b hf
    clear hS hF k0 y0 y1 hh h1 h2 h3 hnc hnt
    go_enter Tryz.func102, Tryz.ntmps102
    go_wp2_with fail
    go_loopw [35] (fun i wr => ∃ k : Nat, i = .int .i64 k ∧ k ≤ ss.length ∧ Hid (∀ (j : Nat) s, j < k → ss[j]? = some s → stpR s nt nc ss.length = true) ∧ Hid (Kept ((w.alloc (.cells #[.int .i64 n, .int .i64 v, .slice xa ss.length xc] 91)).alloc (.cells #[.slice ca nc cc, .slice ta nt tc] 38)) wr)) (fun i _ => ss.length - (intOf i).toNat)
    case atStart => exact ⟨0, rfl, Nat.zero_le _, fun j t hj => by omega, Below.refl _ _⟩
    case round =>
      obtain ⟨k, rfl, hk, HM, HQ⟩ := hrel
      have kw := Kept.trans HK0.out HQ.out
      have m0 := Cells.kept HY0.out HQ.out
      have m1 := Cells.kept HY1.out HQ.out
      by_cases hlt : k < ss.length
      · obtain ⟨s, hs⟩ : ∃ s, ss[k]? = some s := ⟨_, List.getElem?_eq_getElem hlt⟩
        obtain ⟨b, off, rfl, g0, g1, g2⟩ := (StpsA.kept HS.out kw) k s hs
        obtain ⟨o, a, b'⟩ := s
        have q1 : (k : Int) < (ss.length : Int) := by omega
        have ka : Kept wr (wr.alloc (.cells #[.int .i64 o, .int .i64 a, .int .i64 b'] 131)) := Kept.alloc (Below.refl _ _) _
        have n0 := m0.alloc (.cells #[.int .i64 o, .int .i64 a, .int .i64 b'] 131)
        have n1 := m1.alloc (.cells #[.int .i64 o, .int .i64 a, .int .i64 b'] 131)
        have c0 := n0.cell 0; have c1 := n0.cell 1; have c2 := n0.cell 2; have e0 := n1.cell 0; have e1 := n1.cell 1
        have hC := HST.out (wr.alloc (.cells #[.int .i64 o, .int .i64 a, .int .i64 b'] 131)) o a b' (Forms.kept HF.out (Kept.trans kw ka))
        have HKW : Hid _ := Kept.trans HQ.out ka
        by_cases h6 : stpR (o, a, b') nt nc ss.length = true
        · rw [h6] at hC
          have HM2 : Hid (∀ (j : Nat) s, j < k + 1 → ss[j]? = some s → stpR s nt nc ss.length = true) := by
            intro j u hj hu
            by_cases hjk : j = k
            · subst hjk
              rw [hs] at hu
              injection hu with hu
              rw [← hu]
              exact h6
            · exact HM.out j u (by omega) hu
          clear hs h6 kw m0 m1 ka n0 n1
          go_wp2_with (go_at_call 144; refine hC.mono ?_; rintro e w1 ⟨rfl, hk1⟩)
          go_roundw
          case rel => exact ⟨k + 1, by go_num, by omega, HM2.out, Kept.trans HKW.out hk1⟩
          case measure => simp [intOf]; omega
        · have h6' : stpR (o, a, b') nt nc ss.length = false := by simpa using h6
          rw [h6'] at hC
          have HE : Hid (codR ⟨n, v, ss⟩ nt nc = false) := by rw [Hid, HC.out, all_no hs h6', Bool.false_and]
          clear hs h6 h6' kw m0 m1 ka n0 n1
          go_wp2_with (go_at_call 144; refine hC.mono ?_; rintro e w1 ⟨rfl, hk1⟩)
          go_ret
          exact ⟨by rw [HE.out]; rfl, Kept.trans HK0.out (Kept.trans HKW.out hk1)⟩
      · have q1 : ¬ (k : Int) < (ss.length : Int) := by omega
        have hall : ss.all (fun s => stpR s nt nc ss.length) = true := all_yes (fun j t hj ht => HM.out j t (by omega) ht)
        obtain ⟨s, hs⟩ : ∃ s, ss[ss.length - 1]? = some s := ⟨_, List.getElem?_eq_getElem (by omega)⟩
        have HE : Hid (codR ⟨n, v, ss⟩ nt nc = decide (s.1 = 13)) := by rw [Hid, HC.out, hall, Bool.true_and, lastR]; simp only [hs]
        obtain ⟨b, off, rfl, g0, g1, g2⟩ := (StpsA.kept HS.out kw) _ s hs
        obtain ⟨o, a, b'⟩ := s
        have c0 := m0.cell 0; have c1 := m0.cell 1; have c2 := m0.cell 2
        have p0 : (0 : Int) ≤ (ss.length : Int) - 1 := by omega
        have p1 : (ss.length : Int) - 1 < (ss.length : Int) := by omega
        have p2 : ((ss.length : Int) - 1).toNat = ss.length - 1 := by omega
        have HKW : Hid _ := kw
        clear hs hall kw m0 m1
        go_wp2_with fail
        go_ret
        exact ⟨by rw [HE.out]; rfl, HKW.out⟩
  · have hh' : headR ⟨n, v, ss⟩ = false := by simpa using hh
    have HE : Hid (codR ⟨n, v, ss⟩ nt nc = false) := by rw [Hid, HC.out, hh', Bool.false_and]
    have hn : ¬ (0 ≤ n ∧ n ≤ v ∧ v ≤ 12 ∧ 1 ≤ ss.length ∧ ss.length ≤ 2000) := of_decide_eq_false hh'
    have hlen : ss.length ≤ 9223372036854775807 ∨ 9223372036854775807 < ss.length := by omega
    have HK0 : Hid _ := k0
    clear hS hF y0 y1 hh hh' HC
    by_cases d1 : n < 0
    · clear hn
      go_enter Tryz.func102, Tryz.ntmps102
      go_wp2_with fail
      go_ret
      exact ⟨by rw [HE.out]; rfl, HK0.out⟩
    · by_cases d2 : v < n
      · clear hn
        go_enter Tryz.func102, Tryz.ntmps102
        go_wp2_with fail
        go_ret
        exact ⟨by rw [HE.out]; rfl, HK0.out⟩
      · by_cases d3 : (12 : Int) < v
        · clear hn
          go_enter Tryz.func102, Tryz.ntmps102
          go_wp2_with fail
          go_ret
          exact ⟨by rw [HE.out]; rfl, HK0.out⟩
        · by_cases d4 : (ss.length : Int) < 1
          · clear hn
            go_enter Tryz.func102, Tryz.ntmps102
            go_wp2_with fail
            go_ret
            exact ⟨by rw [HE.out]; rfl, HK0.out⟩
          · have d5 : (2000 : Int) < (ss.length : Int) := by omega
            clear hn
            go_enter Tryz.func102, Tryz.ntmps102
            go_wp2_with fail
            go_ret
            exact ⟨by rw [HE.out]; rfl, HK0.out⟩
end Go.Proofs.YtgempjjnfpmndaaGreatDoor
namespace Go.Proofs.YtgempjjnfpmndaaGreatDoor
open Go.RowKit
set_option linter.unusedSimpArgs false
set_option linter.unusedVariables false
set_option maxHeartbeats 8000000 in
set_option maxRecDepth 100000 in
theorem impl_UnitOk_ok (w : World) (ca ta : Option Addr) (cc tc : Nat) (cs : List Cod) (ts : List ByteArray) (hA : CodsA w ca cs) (hB : StA w ta ts) (hl : cs.length ≤ 1048576) (ht : ts.length ≤ 1048576) (hF : Forms w) :
    Calls Tryz.prog 54 #[.agg #[.slice ca cs.length cc, .slice ta ts.length tc]] w fun e w' => e = .returned (.bool (unitR cs ts)) ∧ Kept w w' := by
  have k0 : Kept w (w.alloc (.cells #[.slice ca cs.length cc, .slice ta ts.length tc] 38)) := Kept.alloc (Below.refl _ _) _
  have y0 := Cells.new w 38 #[.slice ca cs.length cc, .slice ta ts.length tc]
  have hT := textsOk_ok (w.alloc (.cells #[.slice ca cs.length cc, .slice ta ts.length tc] 38)) ta tc ts (hB.kept k0) ht
  have HC : Hid (unitR cs ts = (decide (1 ≤ cs.length ∧ cs.length ≤ 40) && (textsR ts && cs.all (fun c => codR c ts.length cs.length)))) := rfl
  by_cases hh : 1 ≤ cs.length ∧ cs.length ≤ 40
  · rw [decide_eq_true hh, Bool.true_and] at HC
    have d1 : ¬ (cs.length : Int) < 1 := by omega
    have d2 : ¬ (40 : Int) < (cs.length : Int) := by omega
    by_cases h2 : textsR ts = true
    · rw [h2] at hT HC
      rw [Bool.true_and] at HC
      have HA : Hid (CodsA w ca cs) := hA
      have HF : Hid (Forms w) := hF
      have HK0 : Hid _ := k0
      have HY0 : Hid _ := y0
      have HST : Hid (∀ u (c : Cod) xa xc, StpsA u xa c.ss → Forms u → Calls Tryz.prog 102 #[.agg #[.int .i64 c.n, .int .i64 c.v, .slice xa c.ss.length xc], .agg #[.slice ca cs.length cc, .slice ta ts.length tc]] u fun e w' => e = .returned (.bool (codR c ts.length cs.length)) ∧ Kept u w') := fun u c xa xc hs hf => codeOk_ok u ca ta xa cc tc xc cs.length ts.length c hl ht hs hf
      clear hA hF hB k0 y0 hh ht hl h2
      go_enter Tryz.func54, Tryz.ntmps54
      go_wp2_with (go_at_call 101; refine hT.mono ?_; rintro e wx ⟨rfl, rfl⟩)
      go_loopw [24] (fun i wr => ∃ k : Nat, i = .int .i64 k ∧ k ≤ cs.length ∧ Hid (∀ (j : Nat) c, j < k → cs[j]? = some c → codR c ts.length cs.length = true) ∧ Hid (Kept (w.alloc (.cells #[.slice ca cs.length cc, .slice ta ts.length tc] 38)) wr)) (fun i _ => cs.length - (intOf i).toNat)
      case atStart => exact ⟨0, rfl, Nat.zero_le _, fun j t hj => by omega, Below.refl _ _⟩
      case round =>
        obtain ⟨k, rfl, hk, HM, HQ⟩ := hrel
        have kw := Kept.trans HK0.out HQ.out
        have m0 := Cells.kept HY0.out HQ.out
        by_cases hlt : k < cs.length
        · obtain ⟨s, hs⟩ : ∃ s, cs[k]? = some s := ⟨_, List.getElem?_eq_getElem hlt⟩
          obtain ⟨b, off, xa, xc, rfl, g0, g1, g2, hX⟩ := (CodsA.kept HA.out kw) k s hs
          have q1 : (k : Int) < (cs.length : Int) := by omega
          have ka : Kept wr (wr.alloc (.cells #[.int .i64 s.n, .int .i64 s.v, .slice xa s.ss.length xc] 91)) := Kept.alloc (Below.refl _ _) _
          have n0 := m0.alloc (.cells #[.int .i64 s.n, .int .i64 s.v, .slice xa s.ss.length xc] 91)
          have c0 := n0.cell 0; have c1 := n0.cell 1
          have hC := HST.out (wr.alloc (.cells #[.int .i64 s.n, .int .i64 s.v, .slice xa s.ss.length xc] 91)) s xa xc (hX.kept ka) (Forms.kept HF.out (Kept.trans kw ka))
          have HKW : Hid _ := Kept.trans HQ.out ka
          by_cases h6 : codR s ts.length cs.length = true
          · rw [h6] at hC
            have HM2 : Hid (∀ (j : Nat) c, j < k + 1 → cs[j]? = some c → codR c ts.length cs.length = true) := by
              intro j u hj hu
              by_cases hjk : j = k
              · subst hjk
                rw [hs] at hu
                injection hu with hu
                rw [← hu]
                exact h6
              · exact HM.out j u (by omega) hu
            clear hs h6 kw m0 ka n0 hX
            go_wp2_with (go_at_call 102; refine hC.mono ?_; rintro e w1 ⟨rfl, hk1⟩)
            go_roundw
            case rel => exact ⟨k + 1, by go_num, by omega, HM2.out, Kept.trans HKW.out hk1⟩
            case measure => simp [intOf]; omega
          · have h6' : codR s ts.length cs.length = false := by simpa using h6
            rw [h6'] at hC
            have HE : Hid (unitR cs ts = false) := by rw [Hid, HC.out, all_no hs h6']
            clear hs h6 h6' kw m0 ka n0 hX
            go_wp2_with (go_at_call 102; refine hC.mono ?_; rintro e w1 ⟨rfl, hk1⟩)
            go_ret
            exact ⟨by rw [HE.out]; rfl, Kept.trans HK0.out (Kept.trans HKW.out hk1)⟩
        · have q1 : ¬ (k : Int) < (cs.length : Int) := by omega
          have HE : Hid (unitR cs ts = true) := by rw [Hid, HC.out]; exact all_yes (fun j t hj ht => HM.out j t (by omega) ht)
          have HKW : Hid _ := kw
          clear kw m0
          go_wp2_with fail
          go_ret
          exact ⟨by rw [HE.out]; rfl, HKW.out⟩
    · have h2' : textsR ts = false := by simpa using h2
      rw [h2'] at hT HC
      rw [Bool.false_and] at HC
      clear hA hF hB y0 hh ht hl h2 h2'
      go_enter Tryz.func54, Tryz.ntmps54
      go_wp2_with (go_at_call 101; refine hT.mono ?_; rintro e wx ⟨rfl, rfl⟩)
      go_ret
      exact ⟨by rw [HC.out]; rfl, k0⟩
  · rw [decide_eq_false hh, Bool.false_and] at HC
    clear hA hF hB y0 hT ht
    by_cases d1 : (cs.length : Int) < 1
    · go_enter Tryz.func54, Tryz.ntmps54
      go_wp2_with fail
      go_ret
      exact ⟨by rw [HC.out]; rfl, k0⟩
    · have d2 : (40 : Int) < (cs.length : Int) := by omega
      clear hh
      go_enter Tryz.func54, Tryz.ntmps54
      go_wp2_with fail
      go_ret
      exact ⟨by rw [HC.out]; rfl, k0⟩
end Go.Proofs.YtgempjjnfpmndaaGreatDoor
