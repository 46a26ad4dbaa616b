/-
  Right units, the program's side: stepOk (chapter 15).
-/
import Derived.Test.YtjagnmajnlcahaaDoorUntC
namespace Go.Proofs.YtjagnmajnlcahaaDoor
open Go.RowKit
set_option linter.unusedSimpArgs false
set_option linter.unusedVariables false
theorem opTab_name : ∀ e ∈ opTab.drop 1, e.1.size ≠ 0 := by decide
theorem formR_name {o : Int} (h : 1 ≤ o ∧ o ≤ 25) : (formR o).1.size ≠ 0 := by
  obtain ⟨k, rfl⟩ : ∃ k : Nat, o = (k + 1 : Nat) := ⟨o.toNat - 1, by omega⟩
  obtain ⟨e, he⟩ : ∃ e, opTab[k + 1]? = some e := ⟨_, List.getElem?_eq_getElem (by rw [opTab_len]; omega)⟩
  rw [formR_at he]
  exact opTab_name e (List.mem_of_getElem? (i := k) (by rw [List.getElem?_drop, Nat.add_comm]; exact he))
theorem formR_none {o : Int} (h : ¬ (1 ≤ o ∧ o ≤ 25)) : formR o = (⟨#[]⟩, 0, 0) := by
  by_cases h0 : o = 0
  · subst h0; decide
  · exact formR_no (by omega)
set_option maxHeartbeats 8000000 in
set_option maxRecDepth 100000 in
theorem stepOk_ok (w : World) (ca ta xa : Option Addr) (cc tc xc nc nt ns : Nat) (n v : Int) (hnc : nc ≤ 1048576) (hnt : nt ≤ 1048576) (hns : ns ≤ 1048576) (o a b : Int) (hF : Forms w) :
    Calls Tryd.prog 29 #[.agg #[.int .i64 o, .int .i64 a, .int .i64 b], .agg #[.slice ca nc cc, .slice ta nt tc], .agg #[.int .i64 n, .int .i64 v, .slice xa ns xc]] w fun e w' => e = .returned (.bool (stpR (o, a, b) nt nc ns)) ∧ Kept w w' := by
  have k0 : Kept w (((w.alloc (.cells #[.int .i64 o, .int .i64 a, .int .i64 b] 37)).alloc (.cells #[.slice ca nc cc, .slice ta nt tc] 30)).alloc (.cells #[.int .i64 n, .int .i64 v, .slice xa ns xc] 45)) := ((Kept.alloc (Below.refl _ _) _).alloc _).alloc _
  have y0 := ((Cells.new w 37 #[.int .i64 o, .int .i64 a, .int .i64 b]).alloc (.cells #[.slice ca nc cc, .slice ta nt tc] 30)).alloc (.cells #[.int .i64 n, .int .i64 v, .slice xa ns xc] 45)
  have y1 := (Cells.new (w.alloc (.cells #[.int .i64 o, .int .i64 a, .int .i64 b] 37)) 30 #[.slice ca nc cc, .slice ta nt tc]).alloc (.cells #[.int .i64 n, .int .i64 v, .slice xa ns xc] 45)
  have y2 := Cells.new ((w.alloc (.cells #[.int .i64 o, .int .i64 a, .int .i64 b] 37)).alloc (.cells #[.slice ca nc cc, .slice ta nt tc] 30)) 45 #[.int .i64 n, .int .i64 v, .slice xa ns xc]
  simp only [World.size_alloc] at y0 y1 y2
  have hC := formOf_ok (((w.alloc (.cells #[.int .i64 o, .int .i64 a, .int .i64 b] 37)).alloc (.cells #[.slice ca nc cc, .slice ta nt tc] 30)).alloc (.cells #[.int .i64 n, .int .i64 v, .slice xa ns xc] 45)) o (hF.kept k0)
  have HS : Hid (stpR (o, a, b) nt nc ns = (decide (1 ≤ o ∧ o ≤ 25) && (fitR (formR o).2.1 a nt nc ns && fitR (formR o).2.2 b nt nc ns))) := rfl
  by_cases ho : 1 ≤ o ∧ o ≤ 25
  · have hnm := formR_name ho
    rw [decide_eq_true ho, Bool.true_and] at HS
    obtain ⟨⟨nm, x, y⟩, hf⟩ : ∃ f, formR o = f := ⟨_, rfl⟩
    rw [hf] at hC HS hnm
    simp only at HS hnm
    have hn1 : ¬ nm.toList = [] := by
      rw [ByteArray.toList_eq]
      intro h
      exact hnm (by show nm.data.size = 0; rw [← Array.length_toList, h]; rfl)
    have HE : Hid ((!nm.toList.isEmpty) = true) := by
      rw [Hid]
      cases hh : nm.toList with
      | nil => exact absurd hh hn1
      | cons c r => rfl
    have HX : Hid (∀ u, Calls Tryd.prog 34 #[.int .i64 x, .int .i64 a, .agg #[.slice ca nc cc, .slice ta nt tc], .agg #[.int .i64 n, .int .i64 v, .slice xa ns xc]] u fun e w' => e = .returned (.bool (fitR x a nt nc ns)) ∧ Kept u w') := fun u => fits_ok u ca ta xa cc tc xc nc nt ns n v hnc hnt hns x a
    have HY : Hid (∀ u, Calls Tryd.prog 34 #[.int .i64 y, .int .i64 b, .agg #[.slice ca nc cc, .slice ta nt tc], .agg #[.int .i64 n, .int .i64 v, .slice xa ns xc]] u fun e w' => e = .returned (.bool (fitR y b nt nc ns)) ∧ Kept u w') := fun u => fits_ok u ca ta xa cc tc xc nc nt ns n v hnc hnt hns y b
    clear hnm hf ho hF hnc hnt hns
    by_cases h1 : fitR x a nt nc ns = true
    · rw [h1] at HX HS
      rw [Bool.true_and] at HS
      obtain ⟨q, hq⟩ : ∃ q, fitR y b nt nc ns = q := ⟨_, rfl⟩
      rw [hq] at HY HS
      clear h1 hq
      go_enter Tryd.func29, Tryd.ntmps29
      go_wp2_with (first
        | (have _tk := hk2; go_at_call 34; refine (HY.out _).mono ?_; rintro e w3 ⟨rfl, hk3⟩)
        | (have _tk := kA; go_at_call 34; refine (HX.out _).mono ?_; rintro e w2 ⟨rfl, hk2⟩; have z0 := (m0.alloc (.cells #[.string nm, .int .i64 x, .int .i64 y] 57)).kept hk2; have z1 := (m1.alloc (.cells #[.string nm, .int .i64 x, .int .i64 y] 57)).kept hk2; have z2 := (m2.alloc (.cells #[.string nm, .int .i64 x, .int .i64 y] 57)).kept hk2; have zf := (Cells.new w1 57 #[.string nm, .int .i64 x, .int .i64 y]).kept hk2; have t2 := z0.cell 2; have u0 := z1.cell 0; have u1 := z1.cell 1; have v0 := z2.cell 0; have v1 := z2.cell 1; have v2 := z2.cell 2; have f2 := zf.cell 2)
        | (go_at_call 25; refine hC.mono ?_; simp only [formV]; rintro e w1 ⟨rfl, hk1⟩; have m0 := y0.kept hk1; have m1 := y1.kept hk1; have m2 := y2.kept hk1; have s0 := m0.cell 0; have s1 := m0.cell 1; have s2 := m0.cell 2; have u0 := m1.cell 0; have u1 := m1.cell 1; have v0 := m2.cell 0; have v1 := m2.cell 1; have v2 := m2.cell 2; have ml0 := m0.lt; have ml1 := m1.lt; have ml2 := m2.lt; have kA := Kept.alloc (Kept.trans k0 hk1) (.cells #[.string nm, .int .i64 x, .int .i64 y] 57)))
      go_ret
      exact ⟨by show Ending.returned (Value.bool (!nm.toList.isEmpty && q)) = _; rw [HE.out, Bool.true_and, HS.out], Kept.trans (Kept.trans kA hk2) hk3⟩
    · have h1' : fitR x a nt nc ns = false := by simpa using h1
      rw [h1'] at HX HS
      rw [Bool.false_and] at HS
      clear h1 h1'
      go_enter Tryd.func29, Tryd.ntmps29
      go_wp2_with (first
        | (have _tk := kA; go_at_call 34; refine (HX.out _).mono ?_; rintro e w2 ⟨rfl, hk2⟩)
        | (go_at_call 25; refine hC.mono ?_; simp only [formV]; rintro e w1 ⟨rfl, hk1⟩; have m0 := y0.kept hk1; have m1 := y1.kept hk1; have m2 := y2.kept hk1; have s0 := m0.cell 0; have s1 := m0.cell 1; have s2 := m0.cell 2; have u0 := m1.cell 0; have u1 := m1.cell 1; have v0 := m2.cell 0; have v1 := m2.cell 1; have v2 := m2.cell 2; have ml0 := m0.lt; have ml1 := m1.lt; have ml2 := m2.lt; have kA := Kept.alloc (Kept.trans k0 hk1) (.cells #[.string nm, .int .i64 x, .int .i64 y] 57)))
      go_ret
      exact ⟨by rw [HS.out]; rfl, Kept.trans kA hk2⟩
  · rw [decide_eq_false ho, Bool.false_and] at HS
    rw [formR_none ho] at hC
    clear ho hF hnc hnt hns
    go_enter Tryd.func29, Tryd.ntmps29
    go_wp2_with (go_at_call 25; refine hC.mono ?_; simp only [formV]; rintro e w1 ⟨rfl, hk1⟩)
    go_ret
    exact ⟨by rw [HS.out]; rfl, Kept.alloc (Kept.trans k0 hk1) _⟩
end Go.Proofs.YtjagnmajnlcahaaDoor
