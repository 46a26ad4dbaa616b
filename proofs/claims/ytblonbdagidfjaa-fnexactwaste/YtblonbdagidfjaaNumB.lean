/-
  The contract of metFrom (chapter 7's program): all blocks that are reached, each with its number.
-/
import Derived.Test.YtblonbdagidfjaaNumA
import Derived.Test.YtblonbdagidfjaaAppB
import Derived.Deep.LoopGhost
namespace Go.Proofs.Ytblonbdagidfjaa
open Go.RowKit Go.Maps
attribute [local go_sem] Plain.and7

theorem OwnL.lies {W : World} {base : Nat} {v : Value} {l : List Int} (h : OwnL W base v l) : Lies W v (l.map (Value.int .i64)) := by
  obtain ⟨hl, h2⟩ := h.2
  simp only [List.length_map, Nat.mul_one] at hl
  rcases h2 with ⟨rfl, h0⟩ | ⟨g, cap, cur, rfl, hb, hgg, rest⟩
  · refine .inl ⟨rfl, ?_⟩
    rw [List.eq_nil_of_length_eq_zero h0]
    rfl
  · refine .inr ⟨⟨g, 0, none⟩, cap, by rw [List.length_map], ?_⟩
    exact h.2.cells rfl
theorem ints_one (l : List Int) : ∀ u ∈ l.map (Value.int .i64), u.oneCell' = true := by
  intro u hu
  obtain ⟨z, _, rfl⟩ := List.mem_map.1 hu
  rfl
set_option maxHeartbeats 8000000 in
set_option maxRecDepth 100000 in
theorem metFrom_ok (w : World) (ao ro : Option Addr) (cap rc : Nat) (zs rs : List Int) (hI : Ints w ao zs) (hl : zs.length ≤ 1048576) (hR : Ints w ro rs) (hrl : rs.length ≤ 1048576) (hr : rootsR zs rs = true) :
    Calls Try.prog 28 #[.slice ao zs.length cap, .slice ro rs.length rc] w fun e w' => ∃ b, e = .returned (.map (some b)) ∧ w.heap.size ≤ b ∧ NumMap w' b (ordL zs rs) ∧ Kept w w' := by
  obtain ⟨i0, hi, hz0, hz1, hz2⟩ := info_parts infoI
  have hmm := @run_makeMap Try.prog
  have hh : heapR zs = true := by
    unfold rootsR at hr
    simp only [Bool.and_eq_true] at hr
    exact hr.1
  have k0 : Kept w (w.alloc (.map #[] 0)) := Kept.alloc (Below.refl _ _) _
  have m0 : NumMap (w.alloc (.map #[] 0)) w.heap.size [] := ⟨0, _, World.ownsMap_made _ _ _ _, NumIs.empty, Nat.le_refl _⟩
  have M0 : Met zs [] := ⟨List.nodup_nil, by simp⟩
  have hMe := meet_ok _ w.heap.size ro rc zs [] rs hl m0 M0 (hR.kept k0) hrl (leadsP_roots hr)
  have M1 : Met zs (meetL [] rs) := M0.meet (leads_roots hr)
  have HH : Hid _ := hh
  have HI : Hid (Ints w ao zs) := hI
  clear hr hh hR hI m0 M0
  go_enter Try.func28, Try.ntmps28
  go_wp2_with (go_at_call 45; refine hMe.mono ?_; rintro e w1 ⟨v1, rfl, hO1, hN1, hg1⟩)
  have k1 : Kept w w1 := Below.grown k0 hg1 (by simp) (fun j ej => by cases ej; exact Nat.le_refl _)
  have hs1 : w.heap.size + 1 ≤ w1.heap.size := by have := hg1.size; simp at this; omega
  have o1 : OwnAt w1 (w.heap.size + 1) 3 v1 (((meetL [] rs).drop 0).map (Value.int .i64)) := by
    have := OwnAt.of hO1.2
    have e : newsB [] rs = (meetL [] rs).drop 0 := by simp [newsB]
    rw [e] at this
    simpa using this
  clear hMe hmm k0 hO1 hg1
  go_loopg [6, 7] (zs.length + 1) (fun n v f wr => ∃ (k : Nat) (out : List Int), n + k = zs.length + 1 ∧ ordL zs rs = ordF zs n k out ∧ Met zs out ∧ k ≤ out.length ∧ OwnAt wr (w.heap.size + 1) 3 v ((out.drop k).map (Value.int .i64)) ∧ NumMap wr w.heap.size out ∧ Kept w wr ∧ w.heap.size + 1 ≤ wr.heap.size)
  case atStart => exact ⟨0, meetL [] rs, by omega, rfl, M1, Nat.zero_le _, o1, hN1, k1, hs1⟩
  case round =>
    obtain ⟨k, out, hnk, hord, hM, hk, hO, hN, hK, hsz⟩ := hrel
    clear M1 o1 hN1 k1
    have hml := hM.len
    by_cases hlt : k < out.length
    · have hda : out.drop k = hz out k :: out.drop (k + 1) := by
        rw [List.drop_eq_getElem_cons hlt]
        unfold hz
        rw [List.getElem?_eq_getElem hlt]
        rfl
      obtain ⟨a, ha⟩ : ∃ a, hz out k = a := ⟨_, rfl⟩
      have hka : 1 ≤ kindAt zs a := by rw [← ha]; exact hM.2 _ (hz_mem hlt)
      rw [ha] at hda
      have hsome : out[k]? = some a := by rw [← ha]; unfold hz; rw [List.getElem?_eq_getElem hlt]; rfl
      obtain ⟨n', rfl⟩ : ∃ n', gk = n' + 1 := ⟨gk - 1, by omega⟩
      have Hord : Hid (ordL zs rs = ordF zs n' (k + 1) (meetL out (slotV zs a))) := by rw [Hid, hord, ordF_on hsome]
      have hls := leads_slots HH.out hka
      have HM2 : Hid (Met zs (meetL out (slotV zs a))) := hM.meet hls.1
      have hsl : (slotV zs a).length ≤ zs.length := by rw [slotV_len]; exact hls.2.1
      have HD : Hid (out.drop (k + 1) ++ newsB out (slotV zs a) = (meetL out (slotV zs a)).drop (k + 1)) := by rw [Hid, meetL_new out (slotV zs a), List.drop_append_of_le_length hlt]
      rw [hda, List.map_cons] at hO
      have hlr : (out.drop (k + 1)).length ≤ 1048576 := by rw [List.length_drop]; omega
      obtain ⟨rest, hrest⟩ : ∃ rest, out.drop (k + 1) = rest := ⟨_, rfl⟩
      rw [hrest] at hO HD hlr
      rcases (id hO) with ⟨_, h⟩ | ⟨g, off, cp, cur, rfl, hbg, hgg, h1, h2, h3, ht⟩
      · cases h
      simp only [List.length_cons, List.length_map] at hO ⊢
      have hnl : (newsB out (slotV zs a)).length ≤ 1048576 := by
        have := congrArg List.length (meetL_new out (slotV zs a))
        rw [List.length_append] at this
        have := HM2.out.len
        omega
      have c0 : wr.cell? ⟨g, off, none⟩ = some (.int .i64 a) := by
        have := OwnAt.cell (xs := Value.int .i64 a :: rest.map (Value.int .i64)) (by simpa using hO) 0 (.int .i64 a) rfl
        simpa using this
      have hgw := (Array.getElem?_eq_some_iff.1 hgg).1
      have HVA : Hid _ := fun (u : World) (hu : Kept w u) => valuesAt_ok u ao cap zs a (Ints.kept HI.out hu) hl HH.out hka
      have HME : Hid _ := fun (u : World) (va : Option Addr) (vc : Nat) (hu : NumMap u w.heap.size out) (hv : Ints u va (slotV zs a)) => meet_ok u w.heap.size va vc zs out (slotV zs a) hl hu hM hv (by omega) (leadsP_slots HH.out hka)
      have HK : Hid (Kept w wr) := hK
      have HN : Hid (NumMap wr w.heap.size out) := hN
      have HO : Hid (OwnAt wr (w.heap.size + 1) 3 (.slice (some ⟨g, off, none⟩) (rest.length + 1) cp) (.int .i64 a :: rest.map (Value.int .i64))) := hO
      have HCP : Hid (rest.length + 1 ≤ cp ∧ cp ≤ maxLen) := ⟨by simpa using h1, h2⟩
      clear hda ha hka hsome hord hls hrest hK hN hO hM h1 h2 h3 ht hgg
      have z1 : (0 : Int) < (rest.length : Int) + 1 := by omega
      have hcp1 : rest.length + 1 ≤ cp := HCP.out.1
      have hcp2 : cp ≤ 9223372036854775807 := by have := HCP.out.2; unfold maxLen at this; omega
      by_cases hc1 : cp = 1
      · obtain rfl : rest = [] := List.eq_nil_of_length_eq_zero (by omega)
        subst hc1
        simp only [List.length_nil, Nat.zero_add, List.map_nil] at HO ⊢
        go_wp2_with (first | (go_at_call 46; refine (HVA.out _ HK.out).mono ?_; rintro e w2 ⟨v2, rfl, hO2, hk2⟩; obtain ⟨sa, sc, rfl, hI2⟩ := hO2.ints; have hN2 := HN.out.kept hk2.grown (by simp)) | (go_at_call 45; refine (HME.out _ sa sc hN2 hI2).mono ?_; rintro e w3 ⟨v3, rfl, hO3, hN3, hg3⟩; have HO3 : Hid (OwnL w3 w2.heap.size v3 (newsB out (slotV zs a))) := hO3; have hT := OwnAt.tail0 ((HO.out.kept hk2.grown (fun k e => by simp)).kept hg3 (fun k e e' => by injection e' with e'; have := (HO.out.lt k e).1; omega)); have hs3 : w.heap.size + 1 ≤ w3.heap.size := Nat.le_trans hsz (Nat.le_trans hk2.size hg3.size); clear hO3) | (at_builtin; refine wpList_append_at rfl _ _ 22 rfl (w.heap.size + 1) 3 i0 (.int .i64 0) 8 Try.underlying22 hi hz0 hz1 hz2 rfl _ _ rfl hT _ _ rfl (OwnL.lies HO3.out) (ints_one _) (by simp only [List.length_map, List.length_nil]; unfold maxLen; omega) (by simp only [List.length_map, List.length_nil]; omega) hs3 ?_; intro v' w4 hO5 hg4))
        have hrow4 : ∀ j, (Value.slice (some ⟨g, off, none⟩) 0 0).ownBlock = some j → w.heap.size + 1 ≤ j := fun j ej => (hT.lt j ej).1
        have K2 : Kept w w2 := Kept.trans HK.out hk2
        have K3 : Kept w w3 := Below.grown K2 hg3 K2.size (fun j ej => by cases ej; exact Nat.le_refl _)
        have K4 : Kept w w4 := Below.grown K3 hg4 K3.size (fun j ej => by have := hrow4 j ej; omega)
        have hN4 : NumMap w4 w.heap.size (meetL out (slotV zs a)) := hN3.kept hg4 (fun ej => by have := hrow4 w.heap.size ej.symm; omega)
        go_roundg n'
        case measure => omega
        case rel =>
          refine ⟨k + 1, meetL out (slotV zs a), by omega, Hord.out, HM2.out, ?_, ?_, hN4, K4, Nat.le_trans hs3 hg4.size⟩
          · have := meetL_len (slotV zs a) out
            omega
          · rw [← HD.out, List.nil_append]
            exact hO5
      · go_wp2_with (first | (go_at_call 46; refine (HVA.out _ HK.out).mono ?_; rintro e w2 ⟨v2, rfl, hO2, hk2⟩; obtain ⟨sa, sc, rfl, hI2⟩ := hO2.ints; have hN2 := HN.out.kept hk2.grown (by simp)) | (go_at_call 45; refine (HME.out _ sa sc hN2 hI2).mono ?_; rintro e w3 ⟨v3, rfl, hO3, hN3, hg3⟩; have HO3 : Hid (OwnL w3 w2.heap.size v3 (newsB out (slotV zs a))) := hO3; have hT : OwnAt w3 (w.heap.size + 1) 3 (.slice (some ⟨g, off + 1, none⟩) rest.length (cp - 1)) (rest.map (Value.int .i64)) := (by have hq := OwnAt.tail (xs := rest.map (Value.int .i64)) (by rw [List.length_map]; exact (HO.out.kept hk2.grown (fun k e => by simp)).kept hg3 (fun k e e' => by injection e' with e'; have := (HO.out.lt k e).1; omega)); rw [List.length_map] at hq; exact hq); have hs3 : w.heap.size + 1 ≤ w3.heap.size := Nat.le_trans hsz (Nat.le_trans hk2.size hg3.size); clear hO3) | (at_builtin; refine wpList_append_at rfl _ _ 22 rfl (w.heap.size + 1) 3 i0 (.int .i64 0) 8 Try.underlying22 hi hz0 hz1 hz2 rfl _ _ rfl hT _ _ rfl (OwnL.lies HO3.out) (ints_one _) (by simp only [List.length_map]; unfold maxLen; omega) (by simp only [List.length_map]; omega) hs3 ?_; intro v' w4 hO5 hg4))
        have hrow4 : ∀ j, (Value.slice (some ⟨g, off + 1, none⟩) rest.length (cp - 1)).ownBlock = some j → w.heap.size + 1 ≤ j := fun j ej => (hT.lt j ej).1
        have K2 : Kept w w2 := Kept.trans HK.out hk2
        have K3 : Kept w w3 := Below.grown K2 hg3 K2.size (fun j ej => by cases ej; exact Nat.le_refl _)
        have K4 : Kept w w4 := Below.grown K3 hg4 K3.size (fun j ej => by have := hrow4 j ej; omega)
        have hN4 : NumMap w4 w.heap.size (meetL out (slotV zs a)) := hN3.kept hg4 (fun ej => by have := hrow4 w.heap.size ej.symm; omega)
        go_roundg n'
        case measure => omega
        case rel =>
          refine ⟨k + 1, meetL out (slotV zs a), by omega, Hord.out, HM2.out, ?_, ?_, hN4, K4, Nat.le_trans hs3 hg4.size⟩
          · have := meetL_len (slotV zs a) out
            omega
          · rw [← HD.out, List.map_append]
            exact hO5
    · obtain rfl : k = out.length := by omega
      have HE : Hid (ordL zs rs = out) := by rw [Hid, hord, ordF_end (Nat.le_refl _)]
      have HN : Hid (NumMap wr w.heap.size out) := hN
      have HK : Hid (Kept w wr) := hK
      rw [List.drop_length, List.map_nil] at hO
      clear hord hN hK
      rcases hO with ⟨rfl, _⟩ | ⟨g, off, cp, cur, rfl, _⟩
      · go_wp2
        go_ret
        exact ⟨_, rfl, Nat.le_refl _, by rw [HE.out]; exact HN.out, HK.out⟩
      · simp only [List.length_nil]
        go_wp2
        go_ret
        exact ⟨_, rfl, Nat.le_refl _, by rw [HE.out]; exact HN.out, HK.out⟩
end Go.Proofs.Ytblonbdagidfjaa
