/-
  The contracts of chapter 10's place and moved, of impl.Moved and its model.
-/
import Derived.Test.YthloammkgogceaaFwdA
import Derived.Test.YthloammkgogceaaMrkG
import Derived.Test.YthloammkgogceaaSldA
namespace Go.Proofs.Ythloammkgogceaa
open Go.RowKit
attribute [local go_sem] Plain.and7

theorem block_lead (zs : List Int) (v : Int) : blockV zs v = leadV zs v := by
  unfold blockV leadV
  rw [val11, val6]
  by_cases h4 : 4 ≤ v % 8
  · have hv : ¬ v = 0 := by omega
    rcases (show v % 8 = 4 ∨ v % 8 = 5 ∨ v % 8 = 6 ∨ v % 8 = 7 by omega) with h | h | h | h
    all_goals (simp only [nextR, leadsR, wantK, h, hv, decide_false, Bool.false_or]; cases vOk v <;> simp)
  · simp [h4]
theorem lead_tk {zs : List Int} {a : Int} (h : 1 ≤ kindAt zs a) : ∃ x ∈ tkL (blocks zs), ((x.1.at' : Nat) : Int) = a ∧ slabOk zs = true := by
  unfold kindAt atB at h
  by_cases hok : slabOk zs = true
  · rw [if_pos hok] at h
    cases hf : (blocks zs).find? (fun b => decide ((b.1.at' : Int) = a)) with
    | none => rw [hf] at h; simp at h
    | some b =>
      rw [hf] at h
      simp only at h
      refine ⟨b, List.mem_filter.2 ⟨List.mem_of_find?_eq_some hf, ?_⟩, by simpa using List.find?_some hf, hok⟩
      simp
      omega
  · rw [if_neg hok] at h
    simp at h
theorem movdV_bd {zs : List Int} {v : Int} (hv : -9223372036854775808 ≤ v ∧ v ≤ 9223372036854775807) : -9223372036854775808 ≤ movdV zs v ∧ movdV zs v ≤ 9223372036854775807 := by
  unfold movdV
  split
  · rename_i h
    obtain ⟨h1, h2⟩ := lead_kind h
    obtain ⟨x, hx, e, hok⟩ := lead_tk h2
    have h3 := x.2
    exact movV_in hok hv (fun _ => by omega)
  · exact hv
set_option maxHeartbeats 2000000 in
theorem place_ok (w : World) (lo : Option Addr) (n lc g tc e a : Nat) (tz : List Int) (hR : Row w g tz) (ha : a < tz.length) :
    Calls Try.prog 35 #[fwV lo n lc (.slice (some ⟨g, 0, none⟩) tz.length tc) e, .int .i64 (a : Nat)] w fun e w' => e = .returned (.int .i64 (hz tz a)) ∧ Kept w w' := by
  have k0 : Kept w (w.alloc (.cells #[.slice lo n lc, .slice (some ⟨g, 0, none⟩) tz.length tc, .int .i64 (e : Nat)] 48)) := Kept.alloc (Below.refl _ _) _
  have b0 := Cells.new w 48 #[.slice lo n lc, .slice (some ⟨g, 0, none⟩) tz.length tc, .int .i64 (e : Nat)]
  have c1 := b0.cell 1
  have r1 := (hR.kept k0).cell ha
  have q1 : ((a : Nat) : Int) < (tz.length : Int) := by omega
  have lg := hR.lt
  clear hR
  go_enter Try.func35, Try.ntmps35
  go_wp2
  go_ret
  exact ⟨rfl, k0⟩
set_option maxHeartbeats 8000000 in
set_option maxRecDepth 100000 in
theorem moved_ok (w : World) (lo : Option Addr) (lc g tc e : Nat) (zs : List Int) (v : Int) (hLy : Ints w lo (lyt zs)) (hR : Row w g (toL zs (tkL (blocks zs)))) (hv : -9223372036854775808 ≤ v ∧ v ≤ 9223372036854775807) :
    Calls Try.prog 38 #[fwV lo zs.length lc (.slice (some ⟨g, 0, none⟩) zs.length tc) e, .int .i64 v] w fun e w' => e = .returned (.int .i64 (movdV zs v)) ∧ Kept w w' := by
  have k0 : Kept w (w.alloc (.cells #[.slice lo zs.length lc, .slice (some ⟨g, 0, none⟩) zs.length tc, .int .i64 (e : Nat)] 48)) := Kept.alloc (Below.refl _ _) _
  have b0 := Cells.new w 48 #[.slice lo zs.length lc, .slice (some ⟨g, 0, none⟩) zs.length tc, .int .i64 (e : Nat)]
  have c0 := b0.cell 0
  cases hy : leadV zs v with
  | false =>
    have HE : Hid (movdV zs v = v) := by simp [Hid, movdV, hy]
    have hC := leadsTo_no _ lo lc zs v (hLy.kept k0) hv.1 hv.2 hy
    clear hy hLy hR
    go_enter Try.func38, Try.ntmps38
    go_wp2_with (go_at_call 57; refine hC.mono ?_; rintro e w1 ⟨rfl, rfl⟩)
    go_ret
    exact ⟨by rw [HE.out]; rfl, k0⟩
  | true =>
    obtain ⟨h4, hk⟩ := lead_kind hy
    obtain ⟨x, hx, ex, hok⟩ := lead_tk hk
    have hlen := slabOk_len hok
    have hx2 := x.2
    obtain ⟨a, ha⟩ : ∃ a, x.1.at' = a := ⟨_, rfl⟩
    have hto := toL_at hx
    have hml := movT_le (a := a) hok (by omega)
    have hM : (movT zs a : Int) < 2000 := by
      obtain ⟨s, r, es⟩ := List.append_of_mem hx
      have hp : s ++ [x] <+: tkL (blocks zs) := ⟨r, by rw [es]; simp⟩
      have h1 := (movT_tk hp).1
      have h2 := szs_le hp
      rw [szsB_snoc] at h2
      rw [ha] at h1
      omega
    rw [ha] at hto ex
    have HE : Hid (movdV zs v = vRef (v % 8) ((movT zs a : Nat) : Int)) := by
      rw [Hid, vRef_yes ⟨h4, by omega, by omega, by omega⟩, movdV, if_pos hy, movV, if_neg (by omega)]
      rw [show (v / 8).toNat = a by omega]
    have hC := leadsTo_yes _ lo lc zs v (hLy.kept k0) hv.1 hv.2 hy
    rw [← ex] at hC
    have hP : ∀ u : World, Kept (w.alloc (.cells #[.slice lo zs.length lc, .slice (some ⟨g, 0, none⟩) zs.length tc, .int .i64 (e : Nat)] 48)) u → Calls Try.prog 35 #[fwV lo zs.length lc (.slice (some ⟨g, 0, none⟩) zs.length tc) e, .int .i64 (a : Nat)] u fun e w' => e = .returned (.int .i64 ((movT zs a : Nat) : Int)) ∧ Kept u w' := fun u hu => by
      have := place_ok u lo zs.length lc g tc e a _ ((hR.kept k0).kept hu) (by rw [toL_len]; omega)
      rw [hto, toL_len] at this
      exact this
    obtain ⟨W1, hW1⟩ : ∃ W1, w.alloc (.cells #[.slice lo zs.length lc, .slice (some ⟨g, 0, none⟩) zs.length tc, .int .i64 (e : Nat)] 48) = W1 := ⟨_, rfl⟩
    rw [hW1] at hP hC k0 b0 c0
    have kd1 : Kept W1 W1.drew := (Below.refl _ W1).drew
    have HP : Hid (∀ u : World, Kept W1.drew u → Calls Try.prog 35 #[fwV lo zs.length lc (.slice (some ⟨g, 0, none⟩) zs.length tc) e, .int .i64 (a : Nat)] u fun e w' => e = .returned (.int .i64 ((movT zs a : Nat) : Int)) ∧ Kept u w') := fun u hu => hP u (kd1.trans hu)
    have HK : Hid (∀ u : World, Kept W1.drew u → Calls Try.prog 59 #[.int .i64 v] u fun e w' => e = .returned (.int .i64 (v % 8)) ∧ Kept u w') := fun u _ => (impl_Kind_ok v u).mono (fun e w' h => ⟨h.1, by rw [← h.2]; exact Below.refl _ _⟩)
    have HF : Hid (∀ u : World, Kept W1.drew u → Calls Try.prog 58 #[.int .i64 (v % 8), .int .i64 ((movT zs a : Nat) : Int)] u fun e w' => e = .returned (.int .i64 (vRef (v % 8) ((movT zs a : Nat) : Int))) ∧ Kept u w') := fun u _ => (impl_RefOf_ok _ _ u).mono (fun e w' h => ⟨h.1, by rw [← h.2]; exact Below.refl _ _⟩)
    have HB : Hid (∀ u, Kept W1.drew u → u.cell? ⟨w.heap.size, 0, none⟩ = some (.slice lo zs.length lc) ∧ u.cell? ⟨w.heap.size, 1, none⟩ = some (.slice (some ⟨g, 0, none⟩) zs.length tc) ∧ u.cell? ⟨w.heap.size, 2, none⟩ = some (.int .i64 (e : Nat))) := fun u hu => by
      have := b0.kept (kd1.trans hu)
      exact ⟨this.cell 0, this.cell 1, this.cell 2⟩
    clear hLy hR hy hk hx hto ex ha hP
    go_enter Try.func38, Try.ntmps38
    go_wp2_with fail
    refine hC.mono ?_
    rintro e1 w1 ⟨rfl, rfl⟩
    clear hW1 hC b0
    go_wp2_with fail
    refine wp_region_seqL (by kernel_rfl) (by kernel_rfl) ?_
    repeat (first
      | (refine SeqL.pure ?_ (by rfl) ?_ ?_; rotate_left; (focus (intro u hu; obtain ⟨y0, y1, y2⟩ := HB.out u hu; go_simp; first | done | exact rfl)); simp only [Act.put, List.setIfInBounds_toArray, List.set_cons_zero, List.set_cons_succ])
      | (refine SeqL.call _ _ _ (by rfl) ?_ HK.out ?_; (focus (intro u; go_simp; done)); simp only [Act.put, List.setIfInBounds_toArray, List.set_cons_zero, List.set_cons_succ])
      | (refine SeqL.call _ _ _ (by rfl) ?_ HP.out ?_; (focus (intro u; go_simp; done)); simp only [Act.put, List.setIfInBounds_toArray, List.set_cons_zero, List.set_cons_succ])
      | (refine SeqL.call _ _ _ (by rfl) ?_ HF.out ?_; (focus (intro u; go_simp; done)); simp only [Act.put, List.setIfInBounds_toArray, List.set_cons_zero, List.set_cons_succ]))
    refine SeqL.nil ?_
    intro u hu
    have k2 := k0.trans (kd1.trans hu)
    clear HB HK HP HF
    go_wp2
    go_ret
    exact ⟨by rw [HE.out]; rfl, k2⟩
theorem leadV_nil (v : Int) : leadV [] v = false := by
  cases h : leadV [] v with
  | false => rfl
  | true =>
    obtain ⟨x, _, _⟩ := lead_tk (lead_kind h).2
    have := x.2
    simp at this
    omega
set_option maxHeartbeats 2000000 in
theorem moved_zero (w : World) (v : Int) (hv : -9223372036854775808 ≤ v ∧ v ≤ 9223372036854775807) :
    Calls Try.prog 38 #[fwV none 0 0 (.slice none 0 0) 0, .int .i64 v] w fun e w' => e = .returned (.int .i64 v) ∧ Kept w w' := by
  have k0 : Kept w (w.alloc (.cells #[.slice none 0 0, .slice none 0 0, .int .i64 0] 48)) := Kept.alloc (Below.refl _ _) _
  have c0 := (Cells.new w 48 #[.slice none 0 0, .slice none 0 0, .int .i64 0]).cell 0
  have hC : ∀ u, Calls Try.prog 57 #[.slice none 0 0, .int .i64 v] u fun e w' => e = .returned (.tuple #[.int .i64 0, .bool false]) ∧ u = w' := fun u => leadsTo_no u none 0 [] v ⟨by simp [lyt], .inl (by simp [lyt])⟩ hv.1 hv.2 (leadV_nil v)
  go_enter Try.func38, Try.ntmps38
  go_wp2_with (go_at_call 57; refine (hC _).mono ?_; rintro e w1 ⟨rfl, rfl⟩)
  go_ret
  exact ⟨rfl, k0⟩
set_option maxHeartbeats 4000000 in
theorem impl_Moved_ok (w : World) (ao : Option Addr) (cap : Nat) (zs : List Int) (v : Int) (hI : Ints w ao zs) (hl : zs.length ≤ 1048576) (hv : -9223372036854775808 ≤ v ∧ v ≤ 9223372036854775807) :
    Calls Try.prog 20 #[.agg #[.slice ao zs.length cap], .int .i64 v] w fun e w' => e = .returned (.int .i64 (movedC zs v)) ∧ Kept w w' := by
  have k0 : Kept w (w.alloc (.cells #[.slice ao zs.length cap] 27)) := Kept.alloc (Below.refl _ _) _
  have hF := forwardOf_ok _ ao cap zs (hI.kept k0) hl
  cases hh : heapR zs with
  | false =>
    have HE : Hid (movedC zs v = v) := by simp [Hid, movedC, hh]
    have hF' := hF.mono (R' := fun e w' => e = .returned (.tuple #[fwV none 0 0 (.slice none 0 0) 0, .bool false]) ∧ Kept (w.alloc (.cells #[.slice ao zs.length cap] 27)) w') (fun e w' h => ⟨h.1 hh, h.2.2⟩)
    clear hh hF hI
    go_enter Try.func20, Try.ntmps20
    go_wp2_with fail
    refine hF'.mono ?_
    rintro e w1 ⟨rfl, hk1⟩
    have x1 := Cells.new w1 48 #[.slice none 0 0, .slice none 0 0, .int .i64 0]
    have c0 := x1.cell 0
    have c1 := x1.cell 1
    have c2 := x1.cell 2
    have ka : Kept w1 (w1.alloc (.cells #[.slice none 0 0, .slice none 0 0, .int .i64 0] 48)) := Kept.alloc (Below.refl _ _) _
    go_wp2_with (go_at_call 38; refine (moved_zero _ v hv).mono ?_; rintro e w2 ⟨rfl, hk2⟩)
    go_ret
    exact ⟨by rw [HE.out]; rfl, ((k0.trans hk1).trans ka).trans hk2⟩
  | true =>
    have HE : Hid (movedC zs v = movdV zs v) := by simp [Hid, movedC, hh]
    have hF' := hF.mono (R' := fun e w' => ∃ lo lc g, e = .returned (.tuple #[fwV lo zs.length lc (.slice (some ⟨g, 0, none⟩) zs.length zs.length) (szsB (tkL (blocks zs))), .bool true]) ∧ Ints w' lo (lyt zs) ∧ Row w' g (toL zs (tkL (blocks zs))) ∧ Kept (w.alloc (.cells #[.slice ao zs.length cap] 27)) w') (fun e w' h => by obtain ⟨lo, lc, g, h1, h2, h3⟩ := h.2.1 hh; exact ⟨lo, lc, g, h1, h2, h3, h.2.2⟩)
    clear hh hF hI
    go_enter Try.func20, Try.ntmps20
    go_wp2_with fail
    refine hF'.mono ?_
    rintro e w1 ⟨lo, lc, g, rfl, hLy, hR, hk1⟩
    have x1 := Cells.new w1 48 #[.slice lo zs.length lc, .slice (some ⟨g, 0, none⟩) zs.length zs.length, .int .i64 (szsB (tkL (blocks zs)) : Nat)]
    have c0 := x1.cell 0
    have c1 := x1.cell 1
    have c2 := x1.cell 2
    have ka : Kept w1 (w1.alloc (.cells #[.slice lo zs.length lc, .slice (some ⟨g, 0, none⟩) zs.length zs.length, .int .i64 (szsB (tkL (blocks zs)) : Nat)] 48)) := Kept.alloc (Below.refl _ _) _
    have hM := moved_ok _ lo lc g zs.length (szsB (tkL (blocks zs))) zs v (hLy.kept ka) (hR.kept ka) hv
    clear hLy hR
    go_wp2_with (go_at_call 38; refine hM.mono ?_; rintro e w2 ⟨rfl, hk2⟩)
    go_ret
    exact ⟨by rw [HE.out]; rfl, ((k0.trans hk1).trans ka).trans hk2⟩
set_option maxHeartbeats 4000000 in
theorem spec_Moved_ok (w : World) (ao : Option Addr) (cap : Nat) (zs : List Int) (v : Int) (hI : Ints w ao zs) (hl : zs.length ≤ 1048576) (hv : -9223372036854775808 ≤ v ∧ v ≤ 9223372036854775807) :
    Calls Try.prog 19 #[.agg #[.slice ao zs.length cap], .int .i64 v] w fun e w' => e = .returned (.int .i64 (movedC zs v)) ∧ Kept w w' := by
  have k0 : Kept w (w.alloc (.cells #[.slice ao zs.length cap] 27)) := Kept.alloc (Below.refl _ _) _
  have b0 := Cells.new w 27 #[.slice ao zs.length cap]
  have hH := spec_HeapOk_ok _ ao cap zs (hI.kept k0) hl
  cases hh : heapR zs with
  | false =>
    have HE : Hid (movedC zs v = v) := by simp [Hid, movedC, hh]
    rw [hh] at hH
    clear hh hI
    go_enter Try.func19, Try.ntmps19
    go_wp2_with (go_at_call 25; refine hH.mono ?_; rintro e w1 ⟨rfl, hk1⟩)
    go_ret
    exact ⟨by rw [HE.out]; rfl, k0.trans hk1⟩
  | true =>
    have hok := heapR_slab hh
    rw [hh] at hH
    have HB : Hid _ := fun (u : World) (hu : Kept w u) => l8Block_ok u ao cap zs v (hI.kept hu) hl hok hv
    rw [block_lead] at HB
    cases hy : leadV zs v with
    | false =>
      have HE : Hid (movedC zs v = v) := by simp [Hid, movedC, hh, movdV, hy]
      rw [hy] at HB
      clear hh hI hy hok
      go_enter Try.func19, Try.ntmps19
      go_wp2_with (first | (go_at_call 25; refine hH.mono ?_; rintro e w1 ⟨rfl, hk1⟩; have c1 := (b0.kept hk1).cell 0) | (go_at_call 36; refine (HB.out _ (k0.trans hk1)).mono ?_; rintro e w2 ⟨rfl, hk2⟩))
      go_ret
      exact ⟨by rw [HE.out]; rfl, (k0.trans hk1).trans hk2⟩
    | true =>
      have HE : Hid (movedC zs v = movV zs v) := by simp [Hid, movedC, hh, movdV, hy]
      obtain ⟨x, _, ex, _⟩ := lead_tk (lead_kind hy).2
      have hx := x.2
      rw [hy] at HB
      have HM : Hid _ := fun (u : World) (hu : Kept w u) => l10Moved_ok u ao cap zs v (hI.kept hu) hok (fun _ => ⟨by omega, by omega⟩)
      clear hh hI hy hok hx ex
      go_enter Try.func19, Try.ntmps19
      go_wp2_with (first | (go_at_call 25; refine hH.mono ?_; rintro e w1 ⟨rfl, hk1⟩; have c1 := (b0.kept hk1).cell 0) | (go_at_call 36; refine (HB.out _ (k0.trans hk1)).mono ?_; rintro e w2 ⟨rfl, hk2⟩; have c2 := ((b0.kept hk1).kept hk2).cell 0) | (go_at_call 37; refine (HM.out _ ((k0.trans hk1).trans hk2)).mono ?_; rintro e w3 ⟨rfl, hk3⟩))
      go_ret
      exact ⟨by rw [HE.out]; rfl, ((k0.trans hk1).trans hk2).trans hk3⟩
end Go.Proofs.Ythloammkgogceaa
