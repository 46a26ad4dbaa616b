/-
  The contracts of ProtoSet, the program's and the model's.
-/
import Derived.Test.YtlgaamhjpkkjmaaOwnA
import Derived.Test.YtlgaamhjpkkjmaaObjN
import Derived.Deep.RegionWith
namespace Go.Proofs.Ytlgaamhjpkkjmaa
open Go.RowKit
attribute [local go_sem] Plain.and7

def proSetR (zs : List Int) (obj proto : Int) : Bool := heapR zs && isOb zs obj && valR zs 5 proto
def proSetC (zs : List Int) (obj proto : Int) : List Int × Bool := if proSetR zs obj proto = true then (zs.set (plc obj + 1) proto, true) else (zeroL zs, false)
theorem proSetC_len (zs : List Int) (obj proto : Int) : (proSetC zs obj proto).1.length = zs.length ∨ (proSetC zs obj proto).1.length = 0 := by
  unfold proSetC
  split
  · simp
  · exact zeroL_len zs
theorem proSet_is {zs : List Int} {obj proto : Int} : proSetR zs obj proto = (protoR proto && isR zs [obj, proto] 5) := by
  unfold proSetR isR isOb protoR
  rw [val5, roots2, show hz [obj, proto] 0 = obj from rfl]
  by_cases h5 : obj % 8 = 5
  · by_cases h4 : proto % 8 = 5
    · have h1 : ¬ proto = 1 := by omega
      rw [leads_any (v := obj) (by omega) 5 0, leads_any (v := proto) (by omega) 5 0]
      simp [h5, h4, h1, Bool.and_assoc]
    · by_cases h1 : proto = 1
      · subst h1
        rw [leads_any (v := obj) (by omega) 5 0]
        have : leadsR zs 1 5 = true := by simp [leadsR, vOk_is1]
        simp [h5, this]
      · simp [h4, h1]
  · simp [h5]
set_option maxHeartbeats 8000000 in
set_option maxRecDepth 100000 in
theorem impl_ProtoSet_ok (w : World) (ao : Option Addr) (cap : Nat) (zs : List Int) (obj proto : Int) (hI : Ints w ao zs) (hl : zs.length ≤ 1048576) (ho : -9223372036854775808 ≤ obj ∧ obj ≤ 9223372036854775807) (hp : -9223372036854775808 ≤ proto ∧ proto ≤ 9223372036854775807) :
    Calls Try.prog 21 #[.agg #[.slice ao zs.length cap], .int .i64 obj, .int .i64 proto] w fun e w' => ∃ v, e = .returned (.tuple #[.agg #[v], .bool (proSetC zs obj proto).2]) ∧ OwnR w' w.heap.size v (proSetC zs obj proto).1 ∧ Kept w w' := by
  have b0 := (Cells.new w 27 #[.slice ao zs.length cap]).alloc (.cells #[.slice none 0 0] 27)
  have b1 := Cells.new (w.alloc (.cells #[.slice ao zs.length cap] 27)) 27 #[.slice none 0 0]
  have k0 : Kept w ((w.alloc (.cells #[.slice ao zs.length cap] 27)).alloc (.cells #[.slice none 0 0] 27)) := (Kept.alloc (Below.refl _ _) _).alloc _
  simp only [World.size_alloc] at b1
  have hLo := heapLayout_ok _ ao cap zs (hI.kept k0) hl
  cases hh : heapR zs with
  | false =>
    have HC : Hid (proSetC zs obj proto = ([], false)) := by simp [Hid, proSetC, proSetR, zeroL, hh]
    have hLo' := hLo.mono (R' := fun e w' => e = .returned (.tuple #[.slice none 0 0, .bool false]) ∧ Kept ((w.alloc (.cells #[.slice ao zs.length cap] 27)).alloc (.cells #[.slice none 0 0] 27)) w') (fun e w' h => ⟨h.1 hh, h.2.2⟩)
    clear hh hI hLo
    go_enter Try.func21, Try.ntmps21
    go_wp2_with (go_at_call 36; refine hLo'.mono ?_; rintro e w1 ⟨rfl, hk1⟩; have x1 := b1.kept hk1; have d1 := x1.cell 0; have f1 := x1.frozen 0)
    have q := (x1.set1 (.slice none 0 0)).cell 0
    refine bodyPost_ret (v := .tuple #[.agg #[.slice none 0 0], .bool false]) (by simp [results, Try.results21, go_sem, q]) rfl ⟨_, by rw [HC.out], by rw [HC.out]; exact .inl ⟨rfl, rfl⟩, (k0.trans hk1).set (by simp) _⟩
  | true =>
    have hLo' := hLo.mono (R' := fun e w' => ∃ lo lc, e = .returned (.tuple #[.slice lo zs.length lc, .bool true]) ∧ Ints w' lo (lyt zs) ∧ Kept ((w.alloc (.cells #[.slice ao zs.length cap] 27)).alloc (.cells #[.slice none 0 0] 27)) w') (fun e w' h => by obtain ⟨lo, lc, h1, h2⟩ := h.2.1 hh; exact ⟨lo, lc, h1, h2, h.2.2⟩)
    have HOb : Hid _ := fun (u : World) (lo : Option Addr) (lc : Nat) (hu : Ints u lo (lyt zs)) => isObject_ok u lo lc zs obj hu ho.1 ho.2
    have HV : Hid _ := fun (u : World) (lo : Option Addr) (lc : Nat) (hu : Ints u lo (lyt zs)) => valueOk_ok u lo lc zs 5 proto hu hp.1 hp.2
    have HCp : Hid _ := fun (u : World) (hu : Kept w u) => copySlab_ok u ao cap zs (hI.kept hu) hl
    have hez : zeroL zs = zs := by simp [zeroL, hh]
    clear hLo
    cases hob : isOb zs obj with
    | false =>
      have HC : Hid (proSetC zs obj proto = (zs, false)) := by simp [Hid, proSetC, proSetR, hez, hob]
      rw [hob] at HOb
      clear hob hI hh HV
      go_enter Try.func21, Try.ntmps21
      go_wp2_with (first | (go_at_call 36; refine hLo'.mono ?_; rintro e w1 ⟨lo, lc, rfl, hLy, hk1⟩; have x0 := (b0.kept hk1).cell 0; have HLy : Hid _ := hLy; clear hLy) | (go_at_call 46; refine (HCp.out _ (k0.trans hk1)).mono ?_; rintro e w2 ⟨g2, c2, rfl, hg2, hc2, hR2, hk2⟩; have x1 := (b1.kept hk1).kept hk2; have ka : Kept w2 (w2.alloc (.cells #[.slice (some ⟨g2, 0, none⟩) zs.length c2] 27)) := Kept.alloc (Below.refl _ _) _; have y1 := x1.kept ka; have d1 := y1.cell 0; have f1 := y1.frozen 0; have l1 := x1.lt) | (go_at_call 57; refine (HOb.out _ lo lc ((Ints.kept HLy.out hk2).kept ka)).mono ?_; rintro e wx ⟨rfl, rfl⟩))
      have hs1 := hk1.size
      simp only [World.size_alloc] at hs1
      have q := ((x1.set1 (.slice (some ⟨g2, 0, none⟩) zs.length c2)).alloc (.cells #[.slice (some ⟨g2, 0, none⟩) zs.length c2] 27)).cell 0
      refine bodyPost_ret (v := .tuple #[.agg #[.slice (some ⟨g2, 0, none⟩) zs.length c2], .bool false]) (by simp [results, Try.results21, go_sem, q]) rfl ⟨_, by rw [HC.out], by rw [HC.out]; exact .inr ⟨g2, c2, rfl, by omega, hc2, (hR2.other (p := ⟨w.heap.size + 1, 0, none⟩) (by intro h; simp at h <;> omega) _).kept (Kept.alloc (Below.refl _ _) _)⟩, Kept.alloc (((k0.trans hk1).trans hk2).set (by simp) _) _⟩
    | true =>
      rw [hob] at HOb
      cases hv5 : valR zs 5 proto with
      | false =>
        have HC : Hid (proSetC zs obj proto = (zs, false)) := by simp [Hid, proSetC, proSetR, hez, hv5]
        rw [hv5] at HV
        clear hob hI hh hv5
        go_enter Try.func21, Try.ntmps21
        go_wp2_with (first | (go_at_call 36; refine hLo'.mono ?_; rintro e w1 ⟨lo, lc, rfl, hLy, hk1⟩; have x0 := (b0.kept hk1).cell 0; have HLy : Hid _ := hLy; clear hLy) | (go_at_call 46; refine (HCp.out _ (k0.trans hk1)).mono ?_; rintro e w2 ⟨g2, c2, rfl, hg2, hc2, hR2, hk2⟩; have x1 := (b1.kept hk1).kept hk2; have ka : Kept w2 (w2.alloc (.cells #[.slice (some ⟨g2, 0, none⟩) zs.length c2] 27)) := Kept.alloc (Below.refl _ _) _; have y1 := x1.kept ka; have d1 := y1.cell 0; have f1 := y1.frozen 0; have l1 := x1.lt) | (go_at_call 57; refine (HOb.out _ lo lc ((Ints.kept HLy.out hk2).kept ka)).mono ?_; rintro e wx ⟨rfl, rfl⟩) | (go_at_call 37; refine (HV.out _ lo lc ((Ints.kept HLy.out hk2).kept ka)).mono ?_; rintro e wx ⟨rfl, rfl⟩))
        have hs1 := hk1.size
        simp only [World.size_alloc] at hs1
        have q := ((x1.set1 (.slice (some ⟨g2, 0, none⟩) zs.length c2)).alloc (.cells #[.slice (some ⟨g2, 0, none⟩) zs.length c2] 27)).cell 0
        refine bodyPost_ret (v := .tuple #[.agg #[.slice (some ⟨g2, 0, none⟩) zs.length c2], .bool false]) (by simp [results, Try.results21, go_sem, q]) rfl ⟨_, by rw [HC.out], by rw [HC.out]; exact .inr ⟨g2, c2, rfl, by omega, hc2, (hR2.other (p := ⟨w.heap.size + 1, 0, none⟩) (by intro h; simp at h <;> omega) _).kept (Kept.alloc (Below.refl _ _) _)⟩, Kept.alloc (((k0.trans hk1).trans hk2).set (by simp) _) _⟩
      | true =>
        obtain ⟨h5, hv⟩ := isOb_facts hob
        obtain ⟨a, s, ha, hle, hs, _, _, hnx⟩ := obj_facts hh h5 hv
        have HC : Hid (proSetC zs obj proto = (zs.set (a + 1) proto, true)) := by simp [Hid, proSetC, proSetR, hh, hob, hv5, plc_is ha]
        rw [hv5] at HV
        have hNm := fun (u : World) => impl_Num_ok obj u ho.1 ho.2
        rw [ha] at hNm
        have p1 : (a : Int) + 1 < (zs.length : Int) := by omega
        have t1 : ((a : Int) + 1).toNat = a + 1 := by omega
        have wr1 : IntKind.i64.wrap ((a : Int) + 1) = (a : Int) + 1 := by rw [IntWalk.i64_left, IntWalk.wrap64_in _ (by omega)]
        clear hob hI hh hv5 h5 hv ha hnx
        go_enter Try.func21, Try.ntmps21
        go_wp2_with (first | (go_at_call 36; refine hLo'.mono ?_; rintro e w1 ⟨lo, lc, rfl, hLy, hk1⟩; have x0 := (b0.kept hk1).cell 0; have HLy : Hid _ := hLy; clear hLy) | (go_at_call 46; refine (HCp.out _ (k0.trans hk1)).mono ?_; rintro e w2 ⟨g2, c2, rfl, hg2, hc2, hR2, hk2⟩; have x1 := (b1.kept hk1).kept hk2; have ka : Kept w2 (w2.alloc (.cells #[.slice (some ⟨g2, 0, none⟩) zs.length c2] 27)) := Kept.alloc (Below.refl _ _) _) | (go_at_call 57; refine (HOb.out _ lo lc ((Ints.kept HLy.out hk2).kept ka)).mono ?_; rintro e wx ⟨rfl, rfl⟩) | (go_at_call 37; refine (HV.out _ lo lc ((Ints.kept HLy.out hk2).kept ka)).mono ?_; rintro e wx ⟨rfl, rfl⟩))
        have hs1 := hk1.size
        have hs2 := hk2.size
        simp only [World.size_alloc] at hs1
        have lg := hR2.lt
        have xz := Cells.new w2 27 #[.slice (some ⟨g2, 0, none⟩) zs.length c2]
        obtain ⟨W3, hW3⟩ : ∃ W3, w2.alloc (.cells #[.slice (some ⟨g2, 0, none⟩) zs.length c2] 27) = W3 := ⟨_, rfl⟩
        rw [hW3] at ka xz
        simp only [hW3]
        have kd : Kept w2 W3.drew := ka.drew
        have xd := xz.kept (Below.refl _ W3).drew
        have yd := x1.kept kd
        have Rd := hR2.kept kd
        have KK : Kept w W3 := ((k0.trans hk1).trans hk2).trans ka
        have y3 := x1.kept ka
        have R3 := hR2.kept ka
        obtain ⟨BZ, hBZ⟩ : ∃ BZ, w2.heap.size = BZ := ⟨_, rfl⟩
        have lx := x1.lt
        rw [hBZ] at xd xz lg lx hs2
        simp only [hBZ]
        clear hBZ hW3 ka kd hR2 x1 x0 b0 b1 k0 hLo' hk1 hk2 HCp HV HOb
        have cz := xd.cell 0
        have cg := Rd.cell (j := a + 1) (by omega)
        have fg := Rd.frozen (a + 1)
        go_region_with (go_at_call 39; refine (hNm _).mono ?_; rintro e wx ⟨rfl, rfl⟩)
        all_goals (
          have R4 := (R3.set (k := a + 1) (v := proto) (by omega) hp).kept (Below.refl _ _).drew
          have x4 := (xz.other (p := ⟨g2, a + 1, none⟩) (by simp; omega) (.int .i64 proto)).kept (Below.refl _ _).drew
          have y4 := (y3.other (p := ⟨g2, a + 1, none⟩) (by simp; omega) (.int .i64 proto)).kept (Below.refl _ _).drew
          have K4 := (KK.set (p := ⟨g2, a + 1, none⟩) (by simp; omega) (.int .i64 proto)).drew
          obtain ⟨W5, hW5⟩ : ∃ W5, (W3.setCell ⟨g2, a + 1, none⟩ (.int .i64 proto)).drew = W5 := ⟨_, rfl⟩
          rw [hW5] at R4 x4 y4 K4
          simp only [hW5]
          clear hW5
          have q4 := x4.cell 0
          have e4 := y4.cell 0
          have f4 := y4.frozen 0
          clear cz cg fg Rd xd yd KK xz y3 R3
          go_wp2_with fail
          have q := (y4.set1 (.slice (some ⟨g2, 0, none⟩) zs.length c2)).cell 0
          refine bodyPost_ret (v := .tuple #[.agg #[.slice (some ⟨g2, 0, none⟩) zs.length c2], .bool true]) (by simp [results, Try.results21, go_sem, q]) rfl ⟨_, by rw [HC.out], by rw [HC.out]; exact .inr ⟨g2, c2, by simp, by omega, by simpa using hc2, R4.other (by intro h; simp at h <;> omega) _⟩, Kept.set K4 (by simp) _⟩)
set_option maxHeartbeats 8000000 in
set_option maxRecDepth 100000 in
theorem spec_ProtoSet_ok (w : World) (ao : Option Addr) (cap : Nat) (zs : List Int) (obj proto : Int) (hI : Ints w ao zs) (hl : zs.length ≤ 1048576) (ho : -9223372036854775808 ≤ obj ∧ obj ≤ 9223372036854775807) (hp : -9223372036854775808 ≤ proto ∧ proto ≤ 9223372036854775807) :
    Calls Try.prog 20 #[.agg #[.slice ao zs.length cap], .int .i64 obj, .int .i64 proto] w fun e w' => ∃ v, e = .returned (.tuple #[.agg #[v], .bool (proSetC zs obj proto).2]) ∧ OwnR w' w.heap.size v (proSetC zs obj proto).1 ∧ Kept w w' := by
  have b0 := (Cells.new w 27 #[.slice ao zs.length cap]).alloc (.cells #[.slice none 0 0] 27)
  have b1 := Cells.new (w.alloc (.cells #[.slice ao zs.length cap] 27)) 27 #[.slice none 0 0]
  have k0 : Kept w ((w.alloc (.cells #[.slice ao zs.length cap] 27)).alloc (.cells #[.slice none 0 0] 27)) := (Kept.alloc (Below.refl _ _) _).alloc _
  simp only [World.size_alloc] at b1
  have hP := fun (u : World) => l5ProtoOk_ok proto u
  have HZ : Hid _ := fun (u : World) (hu : Kept w u) => l5Zero_ok u ao cap zs (hI.kept hu) hl
  have c0 := b0.cell 0
  cases hpr : protoR proto with
  | false =>
    have HC : Hid (proSetC zs obj proto = (zeroL zs, false)) := by simp [Hid, proSetC, proSet_is, hpr]
    rw [hpr] at hP
    clear hpr hI
    go_enter Try.func20, Try.ntmps20
    go_wp2_with (first | (go_at_call 41; refine (hP _).mono ?_; rintro e wx ⟨rfl, rfl⟩) | (go_at_call 43; refine (HZ.out _ k0).mono ?_; rintro e w2 ⟨v2, rfl, o2, hk2, fv2⟩; obtain ⟨la2, lc2, rfl, _⟩ := o2.ints; have x1 := b1.kept hk2; have d1 := x1.cell 0; have f1 := x1.frozen 0; have l1 := x1.lt))
    have q := (x1.set1 (.slice la2 (zeroL zs).length lc2)).cell 0
    refine bodyPost_ret (v := .tuple #[.agg #[.slice la2 (zeroL zs).length lc2], .bool false]) (by simp [results, Try.results20, go_sem, q]) rfl ?_
    rw [HC.out]
    refine ⟨_, rfl, ?_, (k0.trans hk2).set (by simp) _⟩
    rcases o2 with ⟨h1, h2⟩ | ⟨g3, c3, h1, h2, h3, h4⟩
    · exact .inl ⟨h1, h2⟩
    · simp only [World.size_alloc] at h2
      exact .inr ⟨g3, c3, h1, by omega, h3, h4.other (by intro h; simp at h <;> omega) _⟩
  | true =>
    rw [hpr] at hP
    have hR := l5Is_at _ ao cap zs [obj, proto] 2 5 #[.int .i64 obj, .int .i64 proto] rfl rfl (by simp only [List.mem_cons, List.not_mem_nil, or_false]; rintro z (rfl | rfl); exact ho; exact hp) (by omega) (by omega) (hI.kept k0) hl
    simp only [World.size_alloc] at hR
    cases hr : isR zs [obj, proto] 5 with
    | false =>
      have HC : Hid (proSetC zs obj proto = (zeroL zs, false)) := by simp [Hid, proSetC, proSet_is, hr]
      rw [hr] at hR
      clear hpr hr hI
      go_enter Try.func20, Try.ntmps20
      go_wp2_with (first | (go_at_call 41; refine (hP _).mono ?_; rintro e wx ⟨rfl, rfl⟩) | (go_at_call 52; refine hR.mono ?_; rintro e w1 ⟨rfl, hk1⟩; have d0 := (b0.kept hk1).cell 0) | (go_at_call 43; refine (HZ.out _ (k0.trans hk1)).mono ?_; rintro e w2 ⟨v2, rfl, o2, hk2, fv2⟩; obtain ⟨la2, lc2, rfl, _⟩ := o2.ints; have x1 := (b1.kept hk1).kept hk2; have d1 := x1.cell 0; have f1 := x1.frozen 0; have l1 := x1.lt))
      have hs1 := hk1.size
      simp only [World.size_alloc] at hs1
      have q := (x1.set1 (.slice la2 (zeroL zs).length lc2)).cell 0
      refine bodyPost_ret (v := .tuple #[.agg #[.slice la2 (zeroL zs).length lc2], .bool false]) (by simp [results, Try.results20, go_sem, q]) rfl ?_
      rw [HC.out]
      refine ⟨_, rfl, ?_, ((k0.trans hk1).trans hk2).set (by simp) _⟩
      rcases o2 with ⟨h1, h2⟩ | ⟨g3, c3, h1, h2, h3, h4⟩
      · exact .inl ⟨h1, h2⟩
      · exact .inr ⟨g3, c3, h1, by omega, h3, h4.other (by intro h; simp at h <;> omega) _⟩
    | true =>
      rw [hr] at hR
      have hps : proSetR zs obj proto = true := by rw [proSet_is, hpr, hr]; rfl
      obtain ⟨hh, h5, hle5⟩ := isR_facts hr
      have hv := hle5 0 (by simp)
      have h5' : obj % 8 = 5 := h5
      obtain ⟨a, s, ha, hle, hs, _, _, hnx⟩ := obj_facts hh h5' hv
      have HC : Hid (proSetC zs obj proto = (zs.set (a + 1) proto, true)) := by simp [Hid, proSetC, hps, plc_is ha]
      have HCp : Hid _ := fun (u : World) (hu : Kept w u) => l2Copy_ok u ao cap zs (hI.kept hu) hl
      have hNm := fun (u : World) => spec_Num_ok obj u
      rw [ha] at hNm
      have p1 : (a : Int) + 1 < (zs.length : Int) := by omega
      have t1 : ((a : Int) + 1).toNat = a + 1 := by omega
      have wr1 : IntKind.i64.wrap ((a : Int) + 1) = (a : Int) + 1 := by rw [IntWalk.i64_left, IntWalk.wrap64_in _ (by omega)]
      clear hpr hr hI hh hle5 hv h5 h5' ha hnx hps HZ
      go_enter Try.func20, Try.ntmps20
      go_wp2_with (first | (go_at_call 41; refine (hP _).mono ?_; rintro e wx ⟨rfl, rfl⟩) | (go_at_call 52; refine hR.mono ?_; rintro e w1 ⟨rfl, hk1⟩; have d0 := (b0.kept hk1).cell 0) | (go_at_call 45; refine (HCp.out _ (k0.trans hk1)).mono ?_; rintro e w2 ⟨g2, c2, rfl, hg2, hc2, hR2, hk2, _⟩; have x1 := (b1.kept hk1).kept hk2; have ka : Kept w2 (w2.alloc (.cells #[.slice (some ⟨g2, 0, none⟩) zs.length c2] 27)) := Kept.alloc (Below.refl _ _) _))
      have hs1 := hk1.size
      have hs2 := hk2.size
      simp only [World.size_alloc] at hs1
      have lg := hR2.lt
      have xz := Cells.new w2 27 #[.slice (some ⟨g2, 0, none⟩) zs.length c2]
      obtain ⟨W3, hW3⟩ : ∃ W3, w2.alloc (.cells #[.slice (some ⟨g2, 0, none⟩) zs.length c2] 27) = W3 := ⟨_, rfl⟩
      rw [hW3] at ka xz
      simp only [hW3]
      have kd : Kept w2 W3.drew := ka.drew
      have xd := xz.kept (Below.refl _ W3).drew
      have yd := x1.kept kd
      have Rd := hR2.kept kd
      have KK : Kept w W3 := ((k0.trans hk1).trans hk2).trans ka
      have y3 := x1.kept ka
      have R3 := hR2.kept ka
      obtain ⟨BZ, hBZ⟩ : ∃ BZ, w2.heap.size = BZ := ⟨_, rfl⟩
      have lx := x1.lt
      rw [hBZ] at xd xz lg lx hs2
      simp only [hBZ]
      clear hBZ hW3 ka kd hR2 x1 b0 b1 k0 hk1 hk2 HCp c0 d0 hR hP
      have cz := xd.cell 0
      have cg := Rd.cell (j := a + 1) (by omega)
      have fg := Rd.frozen (a + 1)
      go_region_with (go_at_call 34; refine (hNm _).mono ?_; rintro e wx ⟨rfl, rfl⟩)
      all_goals (
        have R4 := (R3.set (k := a + 1) (v := proto) (by omega) hp).kept (Below.refl _ _).drew
        have x4 := (xz.other (p := ⟨g2, a + 1, none⟩) (by simp; omega) (.int .i64 proto)).kept (Below.refl _ _).drew
        have y4 := (y3.other (p := ⟨g2, a + 1, none⟩) (by simp; omega) (.int .i64 proto)).kept (Below.refl _ _).drew
        have K4 := (KK.set (p := ⟨g2, a + 1, none⟩) (by simp; omega) (.int .i64 proto)).drew
        obtain ⟨W5, hW5⟩ : ∃ W5, (W3.setCell ⟨g2, a + 1, none⟩ (.int .i64 proto)).drew = W5 := ⟨_, rfl⟩
        rw [hW5] at R4 x4 y4 K4
        simp only [hW5]
        clear hW5
        have q4 := x4.cell 0
        have e4 := y4.cell 0
        have f4 := y4.frozen 0
        clear cz cg fg Rd xd yd KK xz y3 R3
        go_wp2_with fail
        have q := (y4.set1 (.slice (some ⟨g2, 0, none⟩) zs.length c2)).cell 0
        refine bodyPost_ret (v := .tuple #[.agg #[.slice (some ⟨g2, 0, none⟩) zs.length c2], .bool true]) (by simp [results, Try.results20, go_sem, q]) rfl ⟨_, by rw [HC.out], by rw [HC.out]; exact .inr ⟨g2, c2, by simp, by omega, by simpa using hc2, R4.other (by intro h; simp at h <;> omega) _⟩, Kept.set K4 (by simp) _⟩)
theorem ProtoSet_both (zs : List Int) (obj proto : Int) (hl : zs.length ≤ 1048576) (ho : -9223372036854775808 ≤ obj ∧ obj ≤ 9223372036854775807) (hp : -9223372036854775808 ≤ proto ∧ proto ≤ 9223372036854775807) : ∃ (rs : List Int) (ok : Bool), rs.length ≤ 1048576 ∧
    (∀ (w : World) (ao : Option Addr) (cap : Nat), Ints w ao zs → Calls Try.prog 21 #[.agg #[.slice ao zs.length cap], .int .i64 obj, .int .i64 proto] w fun e w' => ∃ v, e = .returned (.tuple #[.agg #[v], .bool ok]) ∧ OwnR w' w.heap.size v rs ∧ Kept w w') ∧
    (∀ (w : World) (ao : Option Addr) (cap : Nat), Ints w ao zs → Calls Try.prog 20 #[.agg #[.slice ao zs.length cap], .int .i64 obj, .int .i64 proto] w fun e w' => ∃ v, e = .returned (.tuple #[.agg #[v], .bool ok]) ∧ OwnR w' w.heap.size v rs ∧ Kept w w') :=
  ⟨(proSetC zs obj proto).1, (proSetC zs obj proto).2, by have := proSetC_len zs obj proto; omega, fun w ao cap hI => impl_ProtoSet_ok w ao cap zs obj proto hI hl ho hp, fun w ao cap hI => spec_ProtoSet_ok w ao cap zs obj proto hI hl ho hp⟩
end Go.Proofs.Ytlgaamhjpkkjmaa
