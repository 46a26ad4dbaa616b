/-
  The contracts of the program's ScopeNew and FunNew as they stand at 54ec384 (by takeFilled), and that they answer as their models.
-/
import Derived.Test.YtgempjjnfpmndaaGreatDoorZFilA
import Derived.Test.YtgempjjnfpmndaaGreatDoorZTkfA
import Derived.Test.YtgempjjnfpmndaaGreatDoorZScoA
namespace Go.Proofs.YtgempjjnfpmndaaGreatDoor
open Go.RowKit
attribute [local go_sem] Plain.and7

theorem sco_is {zs : List Int} {up : Int} : ((decide (up = 0) || decide (up % 8 = 7)) && rootsR zs [up]) = (heapR zs && valR zs 9 up) := by
  rw [val9, roots1]
  unfold nextR
  by_cases h0 : up = 0
  · subst h0
    have : leadsR zs 0 5 = true := by simp [leadsR, vOk_is0]
    simp [this]
  · by_cases h7 : up % 8 = 7 <;> simp [h0, h7]
theorem fun_is {zs : List Int} {code scope : Int} : (decide (0 ≤ code ∧ code ≤ 99) && isR zs [scope] 7) = (heapR zs && (wordR zs 4 code && valR zs 8 scope)) := by
  unfold isR
  rw [val8, roots1, show hz [scope] 0 = scope from rfl, show wordR zs 4 code = decide (0 ≤ code ∧ code ≤ 99) by simp [wordR]]
  cases decide (0 ≤ code ∧ code ≤ 99) <;> cases decide (scope % 8 = 7) <;> cases heapR zs <;> simp
set_option maxHeartbeats 8000000 in
set_option maxRecDepth 100000 in
theorem impl_ScopeNew_ok (w : World) (ao : Option Addr) (cap : Nat) (zs : List Int) (p n : Int) (hI : Ints w ao zs) (hl : zs.length ≤ 1048576) (hp : -9223372036854775808 ≤ p ∧ p ≤ 9223372036854775807) (hn : -9223372036854775808 ≤ n ∧ n ≤ 9223372036854775807) :
    Calls Tryz.prog 55 #[.agg #[.slice ao zs.length cap], .int .i64 p, .int .i64 n] w fun e w' => ∃ v, e = .returned (.tuple #[.agg #[v], .int .i64 (scopeNewC zs p n).2.1, .bool (scopeNewC zs p n).2.2]) ∧ OwnR w' w.heap.size v (scopeNewC zs p n).1 ∧ Kept w w' := by
  have b0 := (Cells.new w 39 #[.slice ao zs.length cap]).alloc (.cells #[.slice none 0 0] 39)
  have b1 := Cells.new (w.alloc (.cells #[.slice ao zs.length cap] 39)) 39 #[.slice none 0 0]
  have k0 : Kept w ((w.alloc (.cells #[.slice ao zs.length cap] 39)).alloc (.cells #[.slice none 0 0] 39)) := (Kept.alloc (Below.refl _ _) _).alloc _
  simp only [World.size_alloc] at b1
  have hLo := heapLayout_ok _ ao cap zs (hI.kept k0) hl
  cases hh : heapR zs with
  | false =>
    have HC : Hid (scopeNewC zs p n = ([], 0, false)) := by simp [Hid, scopeNewC, sco_is, zeroL, hh]
    have hLo' := hLo.mono (R' := fun e w' => e = .returned (.tuple #[.slice none 0 0, .bool false]) ∧ Kept ((w.alloc (.cells #[.slice ao zs.length cap] 39)).alloc (.cells #[.slice none 0 0] 39)) w') (fun e w' h => ⟨h.1 hh, h.2.2⟩)
    clear hh hI hLo
    go_enter Tryz.func55, Tryz.ntmps55
    go_wp2_with (go_at_call 103; refine hLo'.mono ?_; rintro e w1 ⟨rfl, hk1⟩; have x1 := b1.kept hk1; have d1 := x1.cell 0; have f1 := x1.frozen 0)
    have q := (x1.set1 (.slice none 0 0)).cell 0
    refine bodyPost_ret (v := .tuple #[.agg #[.slice none 0 0], .int .i64 0, .bool false]) (by simp [results, Tryz.results55, go_sem, q]) rfl ⟨_, by rw [HC.out], by rw [HC.out]; exact .inl ⟨rfl, rfl⟩, (k0.trans hk1).set (by simp) _⟩
  | true =>
    have hLo' := hLo.mono (R' := fun e w' => ∃ lo lc, e = .returned (.tuple #[.slice lo zs.length lc, .bool true]) ∧ Ints w' lo (lyt zs) ∧ Kept ((w.alloc (.cells #[.slice ao zs.length cap] 39)).alloc (.cells #[.slice none 0 0] 39)) w') (fun e w' h => by obtain ⟨lo, lc, h1, h2⟩ := h.2.1 hh; exact ⟨lo, lc, h1, h2, h.2.2⟩)
    have HV : Hid _ := fun (u : World) (lo : Option Addr) (lc : Nat) (hu : Ints u lo (lyt zs)) => valueOk_ok u lo lc zs 9 p hu hp.1 hp.2
    have HCp : Hid _ := fun (u : World) (hu : Kept w u) => copySlab_ok u ao cap zs (hI.kept hu) hl
    clear hLo
    cases hv5 : valR zs 9 p with
    | false =>
      have HC : Hid (scopeNewC zs p n = (zs, 0, false)) := by simp [Hid, scopeNewC, sco_is, zeroL, hh, hv5]
      rw [hv5] at HV
      clear hI hh hv5
      go_enter Tryz.func55, Tryz.ntmps55
      go_wp2_with (first | (go_at_call 103; refine hLo'.mono ?_; rintro e w1 ⟨lo, lc, rfl, hLy, hk1⟩; have x0 := (b0.kept hk1).cell 0; have HLy : Hid _ := hLy; clear hLy) | (go_at_call 104; refine (HV.out _ lo lc HLy.out).mono ?_; rintro e wx ⟨rfl, rfl⟩) | (go_at_call 105; refine (HCp.out _ (k0.trans hk1)).mono ?_; rintro e w2 ⟨g2, c2, rfl, hg2, hc2, hR2, hk2⟩; have x1 := (b1.kept hk1).kept hk2; have d1 := x1.cell 0; have f1 := x1.frozen 0; have l1 := x1.lt))
      have hs1 := hk1.size
      simp only [World.size_alloc] at hs1
      have q := (x1.set1 (.slice (some ⟨g2, 0, none⟩) zs.length c2)).cell 0
      refine bodyPost_ret (v := .tuple #[.agg #[.slice (some ⟨g2, 0, none⟩) zs.length c2], .int .i64 0, .bool false]) (by simp [results, Tryz.results55, go_sem, q]) rfl ⟨_, by rw [HC.out], by rw [HC.out]; exact .inr ⟨g2, c2, rfl, by omega, hc2, hR2.other (by intro h; simp at h <;> omega) _⟩, ((k0.trans hk1).trans hk2).set (by simp) _⟩
    | true =>
      rcases (show n < 0 ∨ 12 < n ∨ (0 ≤ n ∧ n ≤ 12) by omega) with h0 | h12 | hin
      · have hr : ¬ (0 ≤ n ∧ n ≤ 12) := by omega
        have HC : Hid (scopeNewC zs p n = (zs, 0, false)) := by simp [Hid, scopeNewC, sco_is, zeroL, hh, hv5, hr]
        rw [hv5] at HV
        clear hI hh hv5 hr
        go_enter Tryz.func55, Tryz.ntmps55
        go_wp2_with (first | (go_at_call 103; refine hLo'.mono ?_; rintro e w1 ⟨lo, lc, rfl, hLy, hk1⟩; have x0 := (b0.kept hk1).cell 0; have HLy : Hid _ := hLy; clear hLy) | (go_at_call 104; refine (HV.out _ lo lc HLy.out).mono ?_; rintro e wx ⟨rfl, rfl⟩) | (go_at_call 105; refine (HCp.out _ (k0.trans hk1)).mono ?_; rintro e w2 ⟨g2, c2, rfl, hg2, hc2, hR2, hk2⟩; have x1 := (b1.kept hk1).kept hk2; have d1 := x1.cell 0; have f1 := x1.frozen 0; have l1 := x1.lt))
        have hs1 := hk1.size
        simp only [World.size_alloc] at hs1
        have q := (x1.set1 (.slice (some ⟨g2, 0, none⟩) zs.length c2)).cell 0
        refine bodyPost_ret (v := .tuple #[.agg #[.slice (some ⟨g2, 0, none⟩) zs.length c2], .int .i64 0, .bool false]) (by simp [results, Tryz.results55, go_sem, q]) rfl ⟨_, by rw [HC.out], by rw [HC.out]; exact .inr ⟨g2, c2, rfl, by omega, hc2, hR2.other (by intro h; simp at h <;> omega) _⟩, ((k0.trans hk1).trans hk2).set (by simp) _⟩
      · have hr : ¬ (0 ≤ n ∧ n ≤ 12) := by omega
        have h00 : 0 ≤ n := by omega
        have HC : Hid (scopeNewC zs p n = (zs, 0, false)) := by simp [Hid, scopeNewC, sco_is, zeroL, hh, hv5, hr]
        rw [hv5] at HV
        clear hI hh hv5 hr
        go_enter Tryz.func55, Tryz.ntmps55
        go_wp2_with (first | (go_at_call 103; refine hLo'.mono ?_; rintro e w1 ⟨lo, lc, rfl, hLy, hk1⟩; have x0 := (b0.kept hk1).cell 0; have HLy : Hid _ := hLy; clear hLy) | (go_at_call 104; refine (HV.out _ lo lc HLy.out).mono ?_; rintro e wx ⟨rfl, rfl⟩) | (go_at_call 105; refine (HCp.out _ (k0.trans hk1)).mono ?_; rintro e w2 ⟨g2, c2, rfl, hg2, hc2, hR2, hk2⟩; have x1 := (b1.kept hk1).kept hk2; have d1 := x1.cell 0; have f1 := x1.frozen 0; have l1 := x1.lt))
        have hs1 := hk1.size
        simp only [World.size_alloc] at hs1
        have q := (x1.set1 (.slice (some ⟨g2, 0, none⟩) zs.length c2)).cell 0
        refine bodyPost_ret (v := .tuple #[.agg #[.slice (some ⟨g2, 0, none⟩) zs.length c2], .int .i64 0, .bool false]) (by simp [results, Tryz.results55, go_sem, q]) rfl ⟨_, by rw [HC.out], by rw [HC.out]; exact .inr ⟨g2, c2, rfl, by omega, hc2, hR2.other (by intro h; simp at h <;> omega) _⟩, ((k0.trans hk1).trans hk2).set (by simp) _⟩
      · obtain ⟨m, rfl⟩ := Int.eq_ofNat_of_zero_le hin.1
        have hm : m ≤ 12 := by omega
        have hr : (0 ≤ (m : Int) ∧ (m : Int) ≤ 12) := hin
        have hm0 : 0 ≤ (m : Int) := hin.1
        have hm1 : (m : Int) ≤ 12 := hin.2
        clear hin
        have hok := heapR_slab hh
        have e0 : scopeNewC zs p (m : Int) = scoC zs p m := by simp [scopeNewC, sco_is, hh, hv5, hr]
        rw [hv5] at HV
        cases hff : ffB zs ((m : Int) + 2) with
        | none =>
          have HC : Hid (scopeNewC zs p (m : Int) = (zs, 0, false)) := by rw [Hid, e0]; simp [scoC, hff]
          have HT : Hid _ := fun (u : World) (hu : Kept w u) (so : Option Addr) (sl sc : Nat) => takeFilled_no u ao so cap sl sc zs 5 (2 + (m : Int)) (hI.kept hu) hl hok (.inr (by rw [Int.add_comm]; exact hff))
          clear hI hh hv5 hff e0 hok hr HCp
          go_enter Tryz.func55, Tryz.ntmps55
          go_wp2_with (first | (go_at_call 103; refine hLo'.mono ?_; rintro e w1 ⟨lo, lc, rfl, hLy, hk1⟩; have x0 := (b0.kept hk1).cell 0; have HLy : Hid _ := hLy; clear hLy) | (go_at_call 104; refine (HV.out _ lo lc HLy.out).mono ?_; rintro e wx ⟨rfl, rfl⟩))
          refine (HT.out _ ((k0.trans hk1).alloc _) _ _ _).mono ?_
          rintro e w2 ⟨v2, rfl, o2, hk2⟩
          obtain ⟨la2, lc2, rfl, _⟩ := o2.ints
          have kL : Kept w1 (w1.alloc (.cells #[.int .i64 p] 3)) := Kept.alloc (Below.refl _ _) _
          have x1 := ((b1.kept hk1).kept kL).kept hk2
          have ka : Kept w2 (w2.alloc (.cells #[.slice la2 zs.length lc2] 39)) := Kept.alloc (Below.refl _ _) _
          have y1 := x1.kept ka
          have d1 := y1.cell 0
          have f1 := y1.frozen 0
          have dx := x1.cell 0
          have fx := x1.frozen 0
          have l1 := x1.lt
          have hs1 := hk1.size
          simp only [World.size_alloc] at hs1
          go_wp2_with fail
          have q := ((x1.set1 (.slice la2 zs.length lc2)).alloc (.cells #[.slice la2 zs.length lc2] 39)).cell 0
          refine bodyPost_ret (v := .tuple #[.agg #[.slice la2 zs.length lc2], .int .i64 0, .bool false]) (by simp [results, Tryz.results55, go_sem, q]) rfl ⟨_, by rw [HC.out], ?_, Kept.alloc ((((k0.trans hk1).trans kL).trans hk2).set (by simp) _) _⟩
          rw [HC.out]
          rcases o2 with ⟨h1, h2⟩ | ⟨g3, c3, h1, h2, h3, h4⟩
          · exact .inl ⟨h1, h2⟩
          · simp only [World.size_alloc] at h2
            exact .inr ⟨g3, c3, h1, by omega, h3, (h4.other (p := ⟨w.heap.size + 1, 0, none⟩) (by intro h; simp at h <;> omega) _).kept (Kept.alloc (Below.refl _ _) _)⟩
        | some b =>
          have hfr : freeP ((m : Int) + 2) b = true := List.find?_some hff
          have hble := b.2.2.1
          have hbs : m + 2 ≤ b.1.size := by simp [freeP] at hfr; omega
          have hlen : zs.length ≤ 2000 := (slabOk_iff.1 hok).1
          have hns : sets (takeL zs b.1 5 (m + 2)) (b.1.at' + 1) [p] = (takeL zs b.1 5 (m + 2)).set (b.1.at' + 1) p := rfl
          have hT := fun (u : World) (so : Option Addr) (sc : Nat) (hu : Kept w u) (hS : Ints u so [p]) => takeFilled_yes u ao so cap sc zs [p] 5 (m + 2) b (hI.kept hu) hS (by simp) (by simp) hl hok (by omega) (by omega) (by omega) (by rw [show (((m + 2 : Nat)) : Int) = (m : Int) + 2 by omega]; exact hff)
          rw [show (((m + 2 : Nat)) : Int) = 2 + (m : Int) by omega, hns] at hT
          simp only [List.length_cons, List.length_nil, Nat.zero_add] at hT
          have e1 : scopeNewC zs p (m : Int) = ((takeL zs b.1 5 (m + 2)).set (b.1.at' + 1) p, 8 * ((b.1.at' : Nat) : Int) + 7, true) := by rw [e0]; simp [scoC, hff]
          have hyl := takeL_length zs b.1 5 (m + 2)
          obtain ⟨a, ha⟩ : ∃ a : Nat, b.1.at' = a := ⟨_, rfl⟩
          obtain ⟨ys, hys⟩ : ∃ ys, (takeL zs b.1 5 (m + 2)).set (a + 1) p = ys := ⟨_, rfl⟩
          have hyl : ys.length = zs.length := by rw [← hys, List.length_set]; exact hyl
          rw [ha] at hT e1 hble
          rw [hys] at hT e1
          have HC : Hid (scopeNewC zs p (m : Int) = (ys, 8 * (a : Int) + 7, true)) := e1
          have HT : Hid _ := hT
          have ha2 : a < 2000 := by omega
          have hpos : 0 < ys.length := by omega
          clear hI hh hv5 hff e0 e1 hok hr HCp hfr hbs hT hns ha hys hble hyl
          go_enter Tryz.func55, Tryz.ntmps55
          go_wp2_with (first | (go_at_call 103; refine hLo'.mono ?_; rintro e w1 ⟨lo, lc, rfl, hLy, hk1⟩; have x0 := (b0.kept hk1).cell 0; have HLy : Hid _ := hLy; clear hLy) | (go_at_call 104; refine (HV.out _ lo lc HLy.out).mono ?_; rintro e wx ⟨rfl, rfl⟩))
          have hsv := lits_ints w1 [p] #[.int .i64 p] rfl (by simp only [List.mem_cons, List.not_mem_nil, or_false]; rintro z rfl; exact hp)
          refine (HT.out _ _ _ ((k0.trans hk1).alloc _) hsv).mono ?_
          rintro e w3 ⟨v3, rfl, o3, hk3⟩
          rcases o3 with ⟨h1, h2⟩ | ⟨g3, c3, rfl, hg3, hc3, hR3⟩
          · rw [h2] at hpos; simp at hpos
          have hs1 := hk1.size
          simp only [World.size_alloc] at hs1 hg3
          have kL : Kept w1 (w1.alloc (.cells #[.int .i64 p] 3)) := Kept.alloc (Below.refl _ _) _
          have x1 := ((b1.kept hk1).kept kL).kept hk3
          have ka : Kept w3 (w3.alloc (.cells #[.slice (some ⟨g3, 0, none⟩) ys.length c3] 39)) := Kept.alloc (Below.refl _ _) _
          have y1 := x1.kept ka
          have d1 := y1.cell 0
          have f1 := y1.frozen 0
          have dx := x1.cell 0
          have fx := x1.frozen 0
          have l1 := x1.lt
          clear x0
          go_wp2_with fail
          go_region_with (go_at_call 107; refine (impl_RefOf_ok _ _ _).mono ?_; rintro e wx ⟨rfl, rfl⟩)
          all_goals go_wp2_with fail
          all_goals (
            have q := (((x1.set1 (.slice (some ⟨g3, 0, none⟩) ys.length c3)).alloc (.cells #[.slice (some ⟨g3, 0, none⟩) ys.length c3] 39)).kept (Below.refl _ _).drew).cell 0
            refine bodyPost_ret (v := .tuple #[.agg #[.slice (some ⟨g3, 0, none⟩) ys.length c3], .int .i64 (vRef 7 (a : Int)), .bool true]) (by simp [results, Tryz.results55, go_sem, q]) rfl ⟨_, by rw [HC.out, vRef_yes (by omega)], by rw [HC.out]; exact .inr ⟨g3, c3, rfl, by omega, hc3, ((hR3.other (p := ⟨w.heap.size + 1, 0, none⟩) (by intro h; simp at h <;> omega) _).kept (Kept.alloc (Below.refl _ _) _)).kept (Below.refl _ _).drew⟩, ?_⟩
            exact Kept.trans (Kept.alloc ((((k0.trans hk1).trans kL).trans hk3).set (p := ⟨w.heap.size + 1, 0, none⟩) (by simp) _) _) (Below.refl _ _).drew)
end Go.Proofs.YtgempjjnfpmndaaGreatDoor
