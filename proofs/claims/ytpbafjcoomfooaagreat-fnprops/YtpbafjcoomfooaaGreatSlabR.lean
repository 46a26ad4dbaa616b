/-
  The contracts of chapter 2's models that tell a list: l2Blocks, Blocks, and Room.
-/
import Derived.Test.YtpbafjcoomfooaaGreatSlabS
import Derived.Test.YtpbafjcoomfooaaGreatSlabW
namespace Go.Proofs.YtpbafjcoomfooaaGreat
open Go.RowKit
attribute [local go_sem] Plain.and7

set_option maxHeartbeats 2000000 in
theorem l2Blocks_ok (w : World) (ao : Option Addr) (cap : Nat) (zs : List Int) (hI : Ints w ao zs) (hL : zs.length * 8 ≤ 140737488351232) (hok : slabOk zs = true) :
    Calls Tryz.prog 122 #[.agg #[.slice ao zs.length cap]] w fun e w' => ∃ v, e = .returned v ∧ OwnL w' w.heap.size v (atsOf (blocks zs)) ∧ Kept w w' := by
  have HO : Hid (slabOk zs = true) := hok
  clear hok
  obtain ⟨i0, hi, hz0, hz1, hz2⟩ := info_parts infoI
  have b0 := (Cells.new w 26 #[.slice ao zs.length cap]).alloc (.cells #[] 3)
  have k0 : Kept w ((w.alloc (.cells #[.slice ao zs.length cap] 26)).alloc (.cells #[] 3)) := (Kept.alloc (Below.refl _ _) _).alloc _
  have o0 : ((w.alloc (.cells #[.slice ao zs.length cap] 26)).alloc (.cells #[] 3)).ownsRow (w.heap.size + 1) 3 1 (.slice (some ⟨w.heap.size + 1, 0, none⟩) 0 0) 0 [] := by
    have := World.ownsRow_made (base := w.heap.size + 1) (e := 3) (size := 1) (w.alloc (.cells #[.slice ao zs.length cap] 26)) #[] 0 (by simp) (by unfold maxLen; omega) (by simp)
    simpa using this
  go_enter Tryz.func122, Tryz.ntmps122
  go_wp2
  go_loopw [3, 4] (fun v i wr => ∃ (k : Nat) (pre : List (BkOf zs.length)), i = .int .i64 k ∧ k ≤ zs.length ∧ At zs k ∧ pre ++ blks zs k = blocks zs ∧ wr.ownsRow (w.heap.size + 1) 3 1 v (atsOf pre).length ((atsOf pre).map (Value.int .i64)) ∧ Cells wr w.heap.size 26 #[.slice ao zs.length cap] ∧ Kept w wr ∧ w.heap.size + 1 ≤ wr.heap.size)
    (fun _ i _ => zs.length - (intOf i).toNat)
  case atStart => exact ⟨0, [], rfl, Nat.zero_le _, At.zero zs, rfl, o0, b0, k0, by simp⟩
  case round =>
    obtain ⟨k, pre, rfl, hk, hat, hpre, hrow, hb, hK, hsz⟩ := hrel
    clear b0 k0 o0
    by_cases hlt : k < zs.length
    · have hg := hat.good HO.out hlt
      have HX : Hid (At zs (k + sz zs k)) := hat.next hg
      obtain ⟨x, HP, HA⟩ : ∃ x : BkOf zs.length, Hid ((pre ++ [x]) ++ blks zs (k + sz zs k) = blocks zs) ∧ Hid (atsOf (pre ++ [x]) = atsOf pre ++ [(k : Int)]) := by
        refine ⟨⟨⟨k, sz zs k, kd zs k⟩, hg.sz2, hg.le, hg.kd5⟩, ?_, atsOf_snoc _ _⟩
        show _ = _
        rw [← hpre, blks_yes hg]; simp
      have HS : Hid ((sz zs k : Int) = hz zs k / 8) := hg.szI
      have hle := hg.le
      have hs2 := hg.sz2
      have g2 := hg.2.2.1
      have g3 := hg.2.2.2
      have hal : (atsOf pre).length ≤ zs.length := by
        have := blocks_count zs; rw [← hpre, List.length_append] at this; rw [atsOf_len]; omega
      obtain ⟨bb, off, e, hc⟩ := (hI.kept hK).at hlt
      have hck := hc k hlt
      have hbl : bb < w.heap.size := by
        have := hI.lt (a := ⟨bb, off, none⟩) (by intro h; rw [h] at hlt; simp at hlt) e
        exact this
      subst e
      have HI : Hid (Ints w (some ⟨bb, off, none⟩) zs) := hI
      have HK : Hid (Kept w wr) := hK
      have cb := hb.cell 0
      clear hc hI hg hat hpre hK
      go_wp2_with (first | (at_builtin; refine wpList_append_own _ rfl _ _ 24 rfl (w.heap.size + 1) 3 i0 (.int .i64 0) 1 8 Tryz.underlying24 hi hz0 hz1 hz2 rfl (by decide) _ _ _ rfl (hrow.alloc _) ⟨wr.heap.size, 0, none⟩ 1 1 [.int .i64 (k : Nat)] rfl rfl (cell_one_new _ _ _) (by simp [Value.oneCell']) (by unfold maxLen; omega) (by omega) (by simp; omega) ?_; intro v' w1 hown' hgrow _; have kk : Below (w.heap.size + 1) wr w1 := ((Below.refl _ wr).alloc hsz _).grown hgrow (by simp; omega) (fun j ej => (hrow.lt j ej).1); have cb1 := (kk.cell (p := ⟨w.heap.size, 0, none⟩) (by simp)).trans cb; have hck1 := (kk.cell (p := ⟨bb, off + k, none⟩) (by simp; omega)).trans hck) | (go_at_call 95; refine (l2Size_ok _ _).mono ?_; rintro e wx ⟨rfl, rfl⟩))
      go_roundw
      case rel => exact ⟨k + sz zs k, _, by rw [← HS.out]; go_num, hle, HX.out, HP.out, by rw [HA.out]; simpa using hown', (kk.block w.heap.size (by omega)).trans hb, Below.trans HK.out (kk.mono (by omega)), Nat.le_trans hsz kk.size⟩
      case measure => simp [intOf]; have := HS.out; omega
    · obtain rfl : k = zs.length := by omega
      have HP : Hid (pre = blocks zs) := by
        show _ = _
        rw [← hpre, blks_no (fun h => hlt h.lt)]; simp
      have HK : Hid (Kept w wr) := hK
      have cb := hb.cell 0
      clear hpre hat hK
      go_wp2
      go_ret
      refine ⟨_, rfl, ?_, HK.out⟩
      rw [← HP.out]
      exact ⟨atsOf_bd hL _, ownsRow_base hrow (by omega)⟩
set_option maxHeartbeats 1000000 in
theorem spec_Blocks_ok (w : World) (ao : Option Addr) (cap : Nat) (zs : List Int) (hI : Ints w ao zs) (hL : zs.length * 8 ≤ 140737488351232) :
    Calls Tryz.prog 84 #[.agg #[.slice ao zs.length cap]] w fun e w' => ∃ v, e = .returned v ∧ OwnL w' w.heap.size v (places zs) ∧ Kept w w' := by
  have b0 := Cells.new w 26 #[.slice ao zs.length cap]
  have k0 : Kept w (w.alloc (.cells #[.slice ao zs.length cap] 26)) := Kept.alloc (Below.refl _ _) _
  have hS := spec_SlabOk_ok _ ao cap zs (hI.kept k0) hL
  cases hok : slabOk zs with
  | false =>
    rw [hok] at hS
    have HP : Hid (places zs = []) := by simp [Hid, places, hok]
    clear hI hok
    go_enter Tryz.func84, Tryz.ntmps84
    go_wp2_with (go_at_call 86; refine hS.mono ?_; rintro e w1 ⟨rfl, hk1⟩)
    go_ret
    refine ⟨_, rfl, ?_, (k0.trans hk1).alloc _⟩
    rw [HP.out]
    have s1 : w.heap.size ≤ w1.heap.size := (k0.trans hk1).size
    exact ⟨by simp, by simpa using World.ownsRow_made (base := w.heap.size) (e := 3) (size := 1) w1 #[] 0 s1 (by unfold maxLen; omega) (by simp)⟩
  | true =>
    rw [hok] at hS
    have hB := fun (w1 : World) (hI1 : Ints w1 ao zs) => l2Blocks_ok w1 ao cap zs hI1 hL hok
    have HP : Hid (places zs = atsOf (blocks zs)) := by simp [Hid, places, hok, atsOf]
    clear hok
    go_enter Tryz.func84, Tryz.ntmps84
    go_wp2_with (first | (go_at_call 86; refine hS.mono ?_; rintro e w1 ⟨rfl, hk1⟩; have c1 := (b0.kept hk1).cell 0) | (go_at_call 122; refine (hB _ ((hI.kept k0).kept hk1)).mono ?_; rintro e w2 ⟨v, rfl, ho, hk2⟩))
    go_ret
    exact ⟨_, rfl, by rw [HP.out]; exact ⟨ho.1, ownsRow_base ho.2 (k0.trans hk1).size⟩, (k0.trans hk1).trans hk2⟩
theorem places_len {zs : List Int} (hok : slabOk zs = true) : (places zs).length = (blocks zs).length := by simp [places, hok]
end Go.Proofs.YtpbafjcoomfooaaGreat
