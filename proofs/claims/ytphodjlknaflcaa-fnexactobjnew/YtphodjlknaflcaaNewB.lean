/-
  The contract of the program's ObjNew as it stands at 54ec384 (by takeFilled), and that it answers as its model.
-/
import Derived.Test.YtphodjlknaflcaaFilA
import Derived.Test.YtphodjlknaflcaaTkfA
import Derived.Test.YtphodjlknaflcaaObjN
namespace Go.Proofs.Ytphodjlknaflcaa
open Go.RowKit
attribute [local go_sem] Plain.and7

theorem new_is {zs : List Int} {p : Int} : (protoR p && rootsR zs [p]) = (heapR zs && valR zs 5 p) := by
  rw [val5, roots1]
  unfold protoR
  by_cases h4 : p % 8 = 5
  · have h1 : ¬ p = 1 := by omega
    rw [leads_any (v := p) (by omega) 5 0]
    simp [h4, h1]
  · by_cases h1 : p = 1
    · subst h1
      have : leadsR zs 1 5 = true := by simp [leadsR, vOk_is1]
      simp [this]
    · simp [h4, h1]
theorem hz_taken {zs : List Int} {b : BkOf zs.length} {k j : Nat} (h3 : 3 ≤ b.1.size) (h1 : 1 ≤ j) (h2 : j < 3) : hz (takeL zs b.1 k 3) (b.1.at' + j) = 0 := by
  have hle := b.2.2.1
  unfold takeL
  split
  · rw [hz_layL (by simp; omega) (by omega), if_neg (by omega), if_pos (by omega)]
  · rw [hz_layL (by omega) (by omega), if_neg (by omega), if_pos (by omega)]
theorem set_same {zs : List Int} {j : Nat} (hj : j < zs.length) (h : hz zs j = 0) : zs.set j 0 = zs := by
  apply List.ext_getElem (by simp)
  intro i h1 h2
  rw [List.getElem_set]
  split
  · rename_i e
    subst e
    have : zs[j]?.getD 0 = 0 := h
    rw [List.getElem?_eq_getElem hj] at this
    simpa using this.symm
  · rfl
theorem new_sets {zs : List Int} {b : BkOf zs.length} {p : Int} (h3 : 3 ≤ b.1.size) : sets (takeL zs b.1 2 3) (b.1.at' + 1) [p, 0] = (takeL zs b.1 2 3).set (b.1.at' + 1) p := by
  have hle := b.2.2.1
  have hl := takeL_length zs b.1 2 3
  show ((takeL zs b.1 2 3).set (b.1.at' + 1) p).set (b.1.at' + 1 + 1) 0 = _
  refine set_same (by simp; omega) ?_
  rw [hz_set (by omega), if_neg (by omega)]
  have := hz_taken (zs := zs) (b := b) (k := 2) (j := 2) h3 (by omega) (by omega)
  exact this
set_option maxHeartbeats 8000000 in
set_option maxRecDepth 100000 in
theorem impl_ObjNew_ok (w : World) (ao : Option Addr) (cap : Nat) (zs : List Int) (p : Int) (hI : Ints w ao zs) (hl : zs.length ≤ 1048576) (hp : -9223372036854775808 ≤ p ∧ p ≤ 9223372036854775807) :
    Calls Try.prog 7 #[.agg #[.slice ao zs.length cap], .int .i64 p] w fun e w' => ∃ v, e = .returned (.tuple #[.agg #[v], .int .i64 (objNewC zs p).2.1, .bool (objNewC zs p).2.2]) ∧ OwnR w' w.heap.size v (objNewC zs p).1 ∧ Kept w w' := by
  have b0 := (Cells.new w 26 #[.slice ao zs.length cap]).alloc (.cells #[.slice none 0 0] 26)
  have b1 := Cells.new (w.alloc (.cells #[.slice ao zs.length cap] 26)) 26 #[.slice none 0 0]
  have k0 : Kept w ((w.alloc (.cells #[.slice ao zs.length cap] 26)).alloc (.cells #[.slice none 0 0] 26)) := (Kept.alloc (Below.refl _ _) _).alloc _
  simp only [World.size_alloc] at b1
  have hLo := heapLayout_ok _ ao cap zs (hI.kept k0) hl
  cases hh : heapR zs with
  | false =>
    have HC : Hid (objNewC zs p = ([], 0, false)) := by simp [Hid, objNewC, new_is, zeroL, hh]
    have hLo' := hLo.mono (R' := fun e w' => e = .returned (.tuple #[.slice none 0 0, .bool false]) ∧ Kept ((w.alloc (.cells #[.slice ao zs.length cap] 26)).alloc (.cells #[.slice none 0 0] 26)) w') (fun e w' h => ⟨h.1 hh, h.2.2⟩)
    clear hh hI hLo
    go_enter Try.func7, Try.ntmps7
    go_wp2_with (go_at_call 18; refine hLo'.mono ?_; rintro e w1 ⟨rfl, hk1⟩; have x1 := b1.kept hk1; have d1 := x1.cell 0; have f1 := x1.frozen 0)
    have q := (x1.set1 (.slice none 0 0)).cell 0
    refine bodyPost_ret (v := .tuple #[.agg #[.slice none 0 0], .int .i64 0, .bool false]) (by simp [results, Try.results7, go_sem, q]) rfl ⟨_, by rw [HC.out], by rw [HC.out]; exact .inl ⟨rfl, rfl⟩, (k0.trans hk1).set (by simp) _⟩
  | true =>
    have hLo' := hLo.mono (R' := fun e w' => ∃ lo lc, e = .returned (.tuple #[.slice lo zs.length lc, .bool true]) ∧ Ints w' lo (lyt zs) ∧ Kept ((w.alloc (.cells #[.slice ao zs.length cap] 26)).alloc (.cells #[.slice none 0 0] 26)) w') (fun e w' h => by obtain ⟨lo, lc, h1, h2⟩ := h.2.1 hh; exact ⟨lo, lc, h1, h2, h.2.2⟩)
    have HV : Hid _ := fun (u : World) (lo : Option Addr) (lc : Nat) (hu : Ints u lo (lyt zs)) => valueOk_ok u lo lc zs 5 p hu hp.1 hp.2
    have HCp : Hid _ := fun (u : World) (hu : Kept w u) => copySlab_ok u ao cap zs (hI.kept hu) hl
    clear hLo
    cases hv5 : valR zs 5 p with
    | false =>
      have HC : Hid (objNewC zs p = (zs, 0, false)) := by simp [Hid, objNewC, new_is, zeroL, hh, hv5]
      rw [hv5] at HV
      clear hI hh hv5
      go_enter Try.func7, Try.ntmps7
      go_wp2_with (first | (go_at_call 18; refine hLo'.mono ?_; rintro e w1 ⟨lo, lc, rfl, hLy, hk1⟩; have x0 := (b0.kept hk1).cell 0; have HLy : Hid _ := hLy; clear hLy) | (go_at_call 19; refine (HV.out _ lo lc HLy.out).mono ?_; rintro e wx ⟨rfl, rfl⟩) | (go_at_call 20; refine (HCp.out _ (k0.trans hk1)).mono ?_; rintro e w2 ⟨g2, c2, rfl, hg2, hc2, hR2, hk2⟩; have x1 := (b1.kept hk1).kept hk2; have d1 := x1.cell 0; have f1 := x1.frozen 0; have l1 := x1.lt))
      have hs1 := hk1.size
      simp only [World.size_alloc] at hs1
      have q := (x1.set1 (.slice (some ⟨g2, 0, none⟩) zs.length c2)).cell 0
      refine bodyPost_ret (v := .tuple #[.agg #[.slice (some ⟨g2, 0, none⟩) zs.length c2], .int .i64 0, .bool false]) (by simp [results, Try.results7, go_sem, q]) rfl ⟨_, by rw [HC.out], by rw [HC.out]; exact .inr ⟨g2, c2, rfl, by omega, hc2, hR2.other (by intro h; simp at h <;> omega) _⟩, ((k0.trans hk1).trans hk2).set (by simp) _⟩
    | true =>
      have hok := heapR_slab hh
      have e0 : objNewC zs p = objC zs p := by simp [objNewC, new_is, hh, hv5]
      rw [hv5] at HV
      cases hff : ffB zs 3 with
      | none =>
        have HC : Hid (objNewC zs p = (zs, 0, false)) := by rw [Hid, e0]; simp [objC, hff]
        have HT : Hid _ := fun (u : World) (hu : Kept w u) (so : Option Addr) (sl sc : Nat) => takeFilled_no u ao so cap sl sc zs 2 3 (hI.kept hu) hl hok (.inr hff)
        clear hI hh hv5 hff e0 hok HCp
        go_enter Try.func7, Try.ntmps7
        go_wp2_with (first | (go_at_call 18; refine hLo'.mono ?_; rintro e w1 ⟨lo, lc, rfl, hLy, hk1⟩; have x0 := (b0.kept hk1).cell 0; have HLy : Hid _ := hLy; clear hLy) | (go_at_call 19; refine (HV.out _ lo lc HLy.out).mono ?_; rintro e wx ⟨rfl, rfl⟩))
        refine (HT.out _ ((k0.trans hk1).alloc _) _ _ _).mono ?_
        rintro e w2 ⟨v2, rfl, o2, hk2⟩
        obtain ⟨la2, lc2, rfl, _⟩ := o2.ints
        have kL : Kept w1 (w1.alloc (.cells #[.int .i64 p, .int .i64 0] 3)) := Kept.alloc (Below.refl _ _) _
        have x1 := ((b1.kept hk1).kept kL).kept hk2
        have ka : Kept w2 (w2.alloc (.cells #[.slice la2 zs.length lc2] 26)) := Kept.alloc (Below.refl _ _) _
        have y1 := x1.kept ka
        have d1 := y1.cell 0
        have f1 := y1.frozen 0
        have dx := x1.cell 0
        have fx := x1.frozen 0
        have l1 := x1.lt
        have hs1 := hk1.size
        simp only [World.size_alloc] at hs1
        go_wp2_with fail
        have q := ((x1.set1 (.slice la2 zs.length lc2)).alloc (.cells #[.slice la2 zs.length lc2] 26)).cell 0
        refine bodyPost_ret (v := .tuple #[.agg #[.slice la2 zs.length lc2], .int .i64 0, .bool false]) (by simp [results, Try.results7, go_sem, q]) rfl ⟨_, by rw [HC.out], ?_, Kept.alloc ((((k0.trans hk1).trans kL).trans hk2).set (by simp) _) _⟩
        rw [HC.out]
        rcases o2 with ⟨h1, h2⟩ | ⟨g3, c3, h1, h2, h3, h4⟩
        · exact .inl ⟨h1, h2⟩
        · simp only [World.size_alloc] at h2
          exact .inr ⟨g3, c3, h1, by omega, h3, (h4.other (p := ⟨w.heap.size + 1, 0, none⟩) (by intro h; simp at h <;> omega) _).kept (Kept.alloc (Below.refl _ _) _)⟩
      | some b =>
        have hfr : freeP 3 b = true := List.find?_some hff
        have hble := b.2.2.1
        have hbs : 3 ≤ b.1.size := by simp [freeP] at hfr; omega
        have hlen : zs.length ≤ 2000 := (slabOk_iff.1 hok).1
        have hns := new_sets (p := p) hbs
        have hT := fun (u : World) (so : Option Addr) (sc : Nat) (hu : Kept w u) (hS : Ints u so [p, 0]) => takeFilled_yes u ao so cap sc zs [p, 0] 2 3 b (hI.kept hu) hS (by simp) (by simp) hl hok (by omega) (by omega) (by omega) hff
        rw [hns] at hT
        simp only [List.length_cons, List.length_nil, Nat.zero_add, Nat.reduceAdd] at hT
        have e1 : objNewC zs p = ((takeL zs b.1 2 3).set (b.1.at' + 1) p, 8 * ((b.1.at' : Nat) : Int) + 5, true) := by rw [e0]; simp [objC, hff]
        have hyl := takeL_length zs b.1 2 3
        obtain ⟨a, ha⟩ : ∃ a : Nat, b.1.at' = a := ⟨_, rfl⟩
        obtain ⟨ys, hys⟩ : ∃ ys, (takeL zs b.1 2 3).set (a + 1) p = ys := ⟨_, rfl⟩
        have hyl : ys.length = zs.length := by rw [← hys, List.length_set]; exact hyl
        rw [ha] at hT e1 hble
        rw [hys] at hT e1
        have HC : Hid (objNewC zs p = (ys, 8 * (a : Int) + 5, true)) := e1
        have HT : Hid _ := hT
        have ha2 : a < 2000 := by omega
        have hpos : 0 < ys.length := by omega
        clear hI hh hv5 hff e0 e1 hok HCp hfr hbs hT hns ha hys hble hyl
        go_enter Try.func7, Try.ntmps7
        go_wp2_with (first | (go_at_call 18; refine hLo'.mono ?_; rintro e w1 ⟨lo, lc, rfl, hLy, hk1⟩; have x0 := (b0.kept hk1).cell 0; have HLy : Hid _ := hLy; clear hLy) | (go_at_call 19; refine (HV.out _ lo lc HLy.out).mono ?_; rintro e wx ⟨rfl, rfl⟩))
        have hsv := lits_ints w1 [p, 0] #[.int .i64 p, .int .i64 0] rfl (by simp only [List.mem_cons, List.not_mem_nil, or_false]; rintro z (rfl | rfl); exact hp; omega)
        refine (HT.out _ _ _ ((k0.trans hk1).alloc _) hsv).mono ?_
        rintro e w3 ⟨v3, rfl, o3, hk3⟩
        rcases o3 with ⟨h1, h2⟩ | ⟨g3, c3, rfl, hg3, hc3, hR3⟩
        · rw [h2] at hpos; simp at hpos
        have hs1 := hk1.size
        simp only [World.size_alloc] at hs1 hg3
        have kL : Kept w1 (w1.alloc (.cells #[.int .i64 p, .int .i64 0] 3)) := Kept.alloc (Below.refl _ _) _
        have x1 := ((b1.kept hk1).kept kL).kept hk3
        have ka : Kept w3 (w3.alloc (.cells #[.slice (some ⟨g3, 0, none⟩) ys.length c3] 26)) := Kept.alloc (Below.refl _ _) _
        have y1 := x1.kept ka
        have d1 := y1.cell 0
        have f1 := y1.frozen 0
        have dx := x1.cell 0
        have fx := x1.frozen 0
        have l1 := x1.lt
        clear x0
        go_wp2_with fail
        go_region_with (go_at_call 22; refine (impl_RefOf_ok _ _ _).mono ?_; rintro e wx ⟨rfl, rfl⟩)
        all_goals go_wp2_with fail
        all_goals (
          have q := (((x1.set1 (.slice (some ⟨g3, 0, none⟩) ys.length c3)).alloc (.cells #[.slice (some ⟨g3, 0, none⟩) ys.length c3] 26)).kept (Below.refl _ _).drew).cell 0
          refine bodyPost_ret (v := .tuple #[.agg #[.slice (some ⟨g3, 0, none⟩) ys.length c3], .int .i64 (vRef 5 (a : Int)), .bool true]) (by simp [results, Try.results7, go_sem, q]) rfl ⟨_, by rw [HC.out, vRef_yes (by omega)], by rw [HC.out]; exact .inr ⟨g3, c3, rfl, by omega, hc3, ((hR3.other (p := ⟨w.heap.size + 1, 0, none⟩) (by intro h; simp at h <;> omega) _).kept (Kept.alloc (Below.refl _ _) _)).kept (Below.refl _ _).drew⟩, ?_⟩
          exact Kept.trans (Kept.alloc ((((k0.trans hk1).trans kL).trans hk3).set (p := ⟨w.heap.size + 1, 0, none⟩) (by simp) _) _) (Below.refl _ _).drew)
theorem ObjNew_both (zs : List Int) (p : Int) (hl : zs.length ≤ 1048576) (hp : -9223372036854775808 ≤ p ∧ p ≤ 9223372036854775807) : ∃ (rs : List Int) (at' : Int) (ok : Bool), rs.length ≤ 1048576 ∧
    (∀ (w : World) (ao : Option Addr) (cap : Nat), Ints w ao zs → Calls Try.prog 7 #[.agg #[.slice ao zs.length cap], .int .i64 p] w fun e w' => ∃ v, e = .returned (.tuple #[.agg #[v], .int .i64 at', .bool ok]) ∧ OwnR w' w.heap.size v rs ∧ Kept w w') ∧
    (∀ (w : World) (ao : Option Addr) (cap : Nat), Ints w ao zs → Calls Try.prog 5 #[.agg #[.slice ao zs.length cap], .int .i64 p] w fun e w' => ∃ v, e = .returned (.tuple #[.agg #[v], .int .i64 at', .bool ok]) ∧ OwnR w' w.heap.size v rs ∧ Kept w w') :=
  ⟨(objNewC zs p).1, (objNewC zs p).2.1, (objNewC zs p).2.2, by have := objNewC_len zs p; omega, fun w ao cap hI => impl_ObjNew_ok w ao cap zs p hI hl hp, fun w ao cap hI => (spec_ObjNew_ok w ao cap zs p hI hl hp).mono (fun _ _ ⟨v, h1, h2, h3, _⟩ => ⟨v, h1, h2, h3⟩)⟩
end Go.Proofs.Ytphodjlknaflcaa
