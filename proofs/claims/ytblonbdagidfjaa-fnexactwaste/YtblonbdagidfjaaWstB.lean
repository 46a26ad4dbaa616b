/-
  The contract of spec.Waste.
-/
import Derived.Test.YtblonbdagidfjaaWstP
import Derived.Test.YtblonbdagidfjaaRchA
import Derived.Test.YtblonbdagidfjaaSlabR
import Derived.BigQuiet
namespace Go.Proofs.Ytblonbdagidfjaa
open Go.RowKit
attribute [local go_sem] Plain.and7

theorem ats_at {zs : List Int} {j : Nat} (h : j < (blocks zs).length) : hz (atsOf (blocks zs)) j = (((blocks zs)[j]).1.at' : Nat) := by
  simp [hz, atsOf, h]
theorem ats_len (zs : List Int) : (atsOf (blocks zs)).length = (blocks zs).length := by simp [atsOf]
set_option maxRecDepth 100000 in
set_option maxHeartbeats 8000000 in
theorem spec_Waste_ok (w : World) (ao ro : Option Addr) (cap rc : Nat) (zs rs : List Int) (hI : Ints w ao zs) (hl : zs.length ≤ 1048576) (hR : Ints w ro rs) (hrl : rs.length ≤ 1048576) :
    Calls Try.prog 21 #[.agg #[.slice ao zs.length cap], .slice ro rs.length rc] w fun e w' => e = .returned (.int .i64 (wasteR zs rs : Nat)) ∧ Kept w w' := by
  have hL : zs.length * 8 ≤ 140737488351232 := by omega
  have b0 := Cells.new w 27 #[.slice ao zs.length cap]
  have k0 : Kept w (w.alloc (.cells #[.slice ao zs.length cap] 27)) := Kept.alloc (Below.refl _ _) _
  have hRo := spec_RootsOk_ok _ ao ro cap rc zs rs (hI.kept k0) hl (hR.kept k0) hrl
  cases hr : rootsR zs rs with
  | false =>
    have HR : Hid (wasteR zs rs = 0) := by simp [Hid, wasteR, hr]
    rw [hr] at hRo
    clear hr hI hR
    go_enter Try.func21, Try.ntmps21
    go_wp2_with (go_at_call 24; refine hRo.mono ?_; rintro e w1 ⟨rfl, hk1⟩)
    go_ret
    exact ⟨by rw [HR.out]; rfl, k0.trans hk1⟩
  | true =>
    have HR : Hid (wasteR zs rs = wstOf (ordL zs rs) (blocks zs)) := by simp [Hid, wasteR, hr]
    have hok := rootsR_ok hr
    have hlen := slabOk_len hok
    have hcount := blocks_count zs
    have hal := ats_len zs
    rw [hr] at hRo
    have hol := (ordL_met hr).len
    have HOr : Hid _ := fun (u : World) (hu : Kept w u) => l7Order_ok u ao ro cap rc zs rs (hI.kept hu) hl (hR.kept hu) hrl hr
    have HBl : Hid _ := fun (u : World) (hu : Kept w u) => l2Blocks_ok u ao cap zs (hI.kept hu) hL hok
    obtain ⟨out, hout⟩ : ∃ out, ordL zs rs = out := ⟨_, rfl⟩
    rw [hout] at HOr HR hol
    have HL : Hid _ := hal
    clear hr hout hok hR
    go_enter Try.func21, Try.ntmps21
    go_wp2_with (first | (go_at_call 24; refine hRo.mono ?_; rintro e w1 ⟨rfl, hk1⟩; have c1 := (b0.kept hk1).cell 0) | (go_at_call 26; refine (HOr.out _ (k0.trans hk1)).mono ?_; rintro e w2 ⟨v2, rfl, hO2, hk2⟩; obtain ⟨oa, oc, rfl, hI2⟩ := hO2.ints; have c2 := ((b0.kept hk1).kept hk2).cell 0) | (go_at_call 33; refine (HBl.out _ ((k0.trans hk1).trans hk2)).mono ?_; rintro e w3 ⟨v3, rfl, hO3, hk3⟩; obtain ⟨pa, pc, rfl, hP⟩ := hO3.ints; rw [HL.out]))
    have k3 := ((k0.trans hk1).trans hk2).trans hk3
    have b3 := ((b0.kept hk1).kept hk2).kept hk3
    have hO := hI2.kept hk3
    clear b0 k0 hRo hk1 hk2 hk3 c1 c2 HOr HBl hO2 hO3 hI2
    go_loopw [5, 8] (fun s i wr => ∃ j : Nat, j ≤ (blocks zs).length ∧ i = .int .i64 j ∧ s = .int .i64 (wstOf out ((blocks zs).take j) : Nat) ∧ Kept w3 wr) (fun _ i _ => (blocks zs).length - (intOf i).toNat)
    case atStart => exact ⟨0, Nat.zero_le _, rfl, by simp [wstOf], Below.refl _ _⟩
    case round =>
      obtain ⟨j, hj, rfl, rfl, hKj⟩ := hrel
      by_cases hlt : j < (blocks zs).length
      · have hpj := ats_at hlt
        have hm := blks_mem zs 0 _ (List.getElem_mem (l := blocks zs) hlt)
        have hbd := wstOf_bd (zs := zs) (by omega) out j
        obtain ⟨pb, po, rfl, hpc⟩ := (hP.kept hKj).at (k := j) (by rw [HL.out]; exact hlt)
        have hpck := hpc j (by rw [HL.out]; exact hlt)
        rw [hpj] at hpck
        have hgl := hm.1.lt
        obtain ⟨bb, off, rfl, hc⟩ := ((hI.kept k3).kept hKj).at hgl
        have hck := hc _ hgl
        have cb := (b3.kept hKj).cell 0
        have hszI := hm.1.szI
        have hkdI := kdI zs ((blocks zs)[j]).1.at'
        have hle := hm.1.le
        have HT : Hid _ := wstOf_take hlt
        have hs := hm.2.1
        have hq := hm.2.2
        have hlt' : (j : Int) < ((blocks zs).length : Int) := by omega
        have hgl' : (((blocks zs)[j].1.at' : Nat) : Int) < (zs.length : Int) := by omega
        have HY : Hid (((blocks zs)[j]).1.kind ≠ 0 → ((((blocks zs)[j]).1.at' : Nat) : Int) ∉ out → wstOf out ((blocks zs).take (j + 1)) = wstOf out ((blocks zs).take j) + ((blocks zs)[j]).1.size) := fun h1 h2 => by rw [HT.out]; exact wstOf_yes h1 h2
        have HNo : Hid (¬ (((blocks zs)[j]).1.kind ≠ 0 ∧ ((((blocks zs)[j]).1.at' : Nat) : Int) ∉ out) → wstOf out ((blocks zs).take (j + 1)) = wstOf out ((blocks zs).take j)) := fun h => by rw [HT.out]; exact wstOf_no h
        obtain ⟨a0, ha0⟩ : ∃ a0, ((blocks zs)[j]).1.at' = a0 := ⟨_, rfl⟩
        rw [hs, hq, ha0] at HY
        rw [hq, ha0] at HNo
        rw [ha0] at hck hgl hgl' hszI hkdI hle hpck
        have HS : Hid ((sz zs a0 : Int) = hz zs a0 / 8) := hszI
        have HQ : Hid ((kd zs a0 : Int) = hz zs a0 % 8) := hkdI
        have hsb : hz zs a0 / 8 ≤ 2000 := by omega
        have hsb' : 0 ≤ hz zs a0 / 8 := by omega
        have hOj := hO.kept hKj
        clear hc hpc hm hs hq ha0 hpj hszI hkdI HT
        by_cases hz8 : hz zs a0 % 8 = 0
        · have hd : (hz zs a0 % 8 != 0) = false := by simp [hz8]
          have HN : Hid (wstOf out ((blocks zs).take (j + 1)) = wstOf out ((blocks zs).take j)) := HNo.out (fun h => h.1 (by have := HQ.out; omega))
          clear hz8
          go_wp2_with fail
          go_quiet (first | (go_at_call 34; refine Calls.quiet_of_same ((l2Kind_ok _ _).mono (fun e w' h => ⟨h.1, h.2.symm⟩))))
          go_wp2
          go_roundw
          case rel => exact ⟨j + 1, by omega, by go_num, by rw [HN.out], kept_drewN hKj _⟩
          case measure => simp [intOf]; omega
        · have hd : (hz zs a0 % 8 != 0) = true := by simpa using hz8
          have HZ : Hid (¬ hz zs a0 % 8 = 0) := hz8
          clear hz8
          have hIn := fun (u : World) (hu : Ints u oa out) => l7In_ok u oa oc out ((a0 : Nat) : Int) hu (by omega)
          by_cases hin : ((a0 : Nat) : Int) ∈ out
          · have HN : Hid (wstOf out ((blocks zs).take (j + 1)) = wstOf out ((blocks zs).take j)) := HNo.out (fun h => h.2 hin)
            simp only [decide_eq_true hin] at hIn
            clear hin
            go_wp2_with fail
            go_quiet (first | (go_at_call 34; refine Calls.quiet_of_same ((l2Kind_ok _ _).mono (fun e w' h => ⟨h.1, h.2.symm⟩))) | (go_at_call 35; refine Calls.quiet_of_same ((hIn _ (hOj.kept (kept_drewN (Below.refl _ _) _))).mono (fun e w' h => ⟨h.1, h.2.symm⟩))))
            go_wp2
            go_roundw
            case rel => exact ⟨j + 1, by omega, by go_num, by rw [HN.out], kept_drewN hKj _⟩
            case measure => simp [intOf]; omega
          · have HN : Hid (wstOf out ((blocks zs).take (j + 1)) = wstOf out ((blocks zs).take j) + sz zs a0) := HY.out (by have := HQ.out; have := HZ.out; omega) hin
            simp only [decide_eq_false hin] at hIn
            clear hin
            go_wp2_with fail
            go_quiet (first | (go_at_call 34; refine Calls.quiet_of_same ((l2Kind_ok _ _).mono (fun e w' h => ⟨h.1, h.2.symm⟩))) | (go_at_call 35; refine Calls.quiet_of_same ((hIn _ (hOj.kept (kept_drewN (Below.refl _ _) _))).mono (fun e w' h => ⟨h.1, h.2.symm⟩))))
            go_wp2_with fail
            have hck2 : (wr.drewN nq).cell? ⟨bb, off + a0, none⟩ = _ := hck
            have hpck2 : (wr.drewN nq).cell? ⟨pb, po + j, none⟩ = _ := hpck
            have cb2 : (wr.drewN nq).cell? ⟨w.heap.size, 0, none⟩ = _ := cb
            have hK2 : Kept w3 (wr.drewN nq) := kept_drewN hKj nq
            clear hck hpck cb hKj hOj hIn
            generalize wr.drewN nq = W1 at hck2 hpck2 cb2 hK2 ⊢
            go_quiet (first | (go_at_call 36; refine Calls.quiet_of_same ((l2Size_ok _ _).mono (fun e w' h => ⟨h.1, h.2.symm⟩))))
            go_wp2
            go_roundw
            case rel => exact ⟨j + 1, by omega, by go_num, by rw [HN.out, ← HS.out]; go_num, kept_drewN hK2 _⟩
            case measure => simp [intOf]; omega
      · obtain rfl : j = (blocks zs).length := by omega
        clear hP hI
        go_wp2
        go_ret
        exact ⟨by rw [HR.out]; simp, k3.trans hKj⟩
end Go.Proofs.Ytblonbdagidfjaa
