/-
  The contracts of chapter 2's models that tell a list: l2Blocks, Blocks, and Room.
-/
import Derived.Test.YtaclgpkcdbikhaaSlabS
import Derived.Test.YtaclgpkcdbikhaaSlabW
namespace Go.Proofs.Ytaclgpkcdbikhaa
open Go.RowKit
attribute [local go_sem] Plain.and7

set_option maxHeartbeats 2000000 in
theorem l2Blocks_ok (w : World) (ao : Option Addr) (cap : Nat) (zs : List Int) (hI : Ints w ao zs) (hL : zs.length * 8 ≤ 140737488351232) (hok : slabOk zs = true) :
    Calls Try.prog 52 #[.agg #[.slice ao zs.length cap]] w fun e w' => ∃ v, e = .returned v ∧ OwnL w' w.heap.size v (atsOf (blocks zs)) ∧ Kept w w' := by
  have HO : Hid (slabOk zs = true) := hok
  clear hok
  obtain ⟨i0, hi, hz0, hz1, hz2⟩ := info_parts infoI
  have b0 := (Cells.new w 26 #[.slice ao zs.length cap]).alloc (.cells #[] 3)
  have k0 : Kept w ((w.alloc (.cells #[.slice ao zs.length cap] 26)).alloc (.cells #[] 3)) := (Kept.alloc (Below.refl _ _) _).alloc _
  have o0 : ((w.alloc (.cells #[.slice ao zs.length cap] 26)).alloc (.cells #[] 3)).ownsRow (w.heap.size + 1) 3 1 (.slice (some ⟨w.heap.size + 1, 0, none⟩) 0 0) 0 [] := by
    have := World.ownsRow_made (base := w.heap.size + 1) (e := 3) (size := 1) (w.alloc (.cells #[.slice ao zs.length cap] 26)) #[] 0 (by simp) (by unfold maxLen; omega) (by simp)
    simpa using this
  go_enter Try.func52, Try.ntmps52
  go_wp2
  go_loopw [3, 4] (fun v i wr => ∃ (k : Nat) (pre : List (BkOf zs.length)), i = .int .i64 k ∧ k ≤ zs.length ∧ At zs k ∧ pre ++ blks zs k = blocks zs ∧ wr.ownsRow (w.heap.size + 1) 3 1 v (atsOf pre).length ((atsOf pre).map (Value.int .i64)) ∧ Cells wr w.heap.size 26 #[.slice ao zs.length cap] ∧ Kept w wr ∧ w.heap.size + 1 ≤ wr.heap.size)
    (fun _ i _ => zs.length - (intOf i).toNat)
  case atStart => exact ⟨0, [], rfl, Nat.zero_le _, At.zero zs, rfl, o0, b0, k0, by simp⟩
  case round =>
    obtain ⟨k, pre, rfl, hk, hat, hpre, hrow, hb, hK, hsz⟩ := hrel
    clear b0 k0 o0
    by_cases hlt : k < zs.length
    · have hg := hat.good HO.out hlt
      have HX : Hid (At zs (k + sz zs k)) := hat.next hg
      obtain ⟨x, HP, HA⟩ : ∃ x : BkOf zs.length, Hid ((pre ++ [x]) ++ blks zs (k + sz zs k) = blocks zs) ∧ Hid (atsOf (pre ++ [x]) = atsOf pre ++ [(k : Int)]) := by
        refine ⟨⟨⟨k, sz zs k, kd zs k⟩, hg.sz2, hg.le, hg.kd5⟩, ?_, atsOf_snoc _ _⟩
        show _ = _
        rw [← hpre, blks_yes hg]; simp
      have HS : Hid ((sz zs k : Int) = hz zs k / 8) := hg.szI
      have hle := hg.le
      have hs2 := hg.sz2
      have g2 := hg.2.2.1
      have g3 := hg.2.2.2
      have hal : (atsOf pre).length ≤ zs.length := by
        have := blocks_count zs; rw [← hpre, List.length_append] at this; rw [atsOf_len]; omega
      obtain ⟨bb, off, e, hc⟩ := (hI.kept hK).at hlt
      have hck := hc k hlt
      have hbl : bb < w.heap.size := by
        have := hI.lt (a := ⟨bb, off, none⟩) (by intro h; rw [h] at hlt; simp at hlt) e
        exact this
      subst e
      have HI : Hid (Ints w (some ⟨bb, off, none⟩) zs) := hI
      have HK : Hid (Kept w wr) := hK
      have cb := hb.cell 0
      clear hc hI hg hat hpre hK
      go_wp2_with (first | (at_builtin; refine wpList_append_own _ rfl _ _ 24 rfl (w.heap.size + 1) 3 i0 (.int .i64 0) 1 8 Try.underlying24 hi hz0 hz1 hz2 rfl (by decide) _ _ _ rfl (hrow.alloc _) ⟨wr.heap.size, 0, none⟩ 1 1 [.int .i64 (k : Nat)] rfl rfl (cell_one_new _ _ _) (by simp [Value.oneCell']) (by unfold maxLen; omega) (by omega) (by simp; omega) ?_; intro v' w1 hown' hgrow _; have kk : Below (w.heap.size + 1) wr w1 := ((Below.refl _ wr).alloc hsz _).grown hgrow (by simp; omega) (fun j ej => (hrow.lt j ej).1); have cb1 := (kk.cell (p := ⟨w.heap.size, 0, none⟩) (by simp)).trans cb; have hck1 := (kk.cell (p := ⟨bb, off + k, none⟩) (by simp; omega)).trans hck) | (go_at_call 44; refine (l2Size_ok _ _).mono ?_; rintro e wx ⟨rfl, rfl⟩))
      go_roundw
      case rel => exact ⟨k + sz zs k, _, by rw [← HS.out]; go_num, hle, HX.out, HP.out, by rw [HA.out]; simpa using hown', (kk.block w.heap.size (by omega)).trans hb, Below.trans HK.out (kk.mono (by omega)), Nat.le_trans hsz kk.size⟩
      case measure => simp [intOf]; have := HS.out; omega
    · obtain rfl : k = zs.length := by omega
      have HP : Hid (pre = blocks zs) := by
        show _ = _
        rw [← hpre, blks_no (fun h => hlt h.lt)]; simp
      have HK : Hid (Kept w wr) := hK
      have cb := hb.cell 0
      clear hpre hat hK
      go_wp2
      go_ret
      refine ⟨_, rfl, ?_, HK.out⟩
      rw [← HP.out]
      exact ⟨atsOf_bd hL _, ownsRow_base hrow (by omega)⟩
set_option maxHeartbeats 1000000 in
theorem spec_Blocks_ok (w : World) (ao : Option Addr) (cap : Nat) (zs : List Int) (hI : Ints w ao zs) (hL : zs.length * 8 ≤ 140737488351232) :
    Calls Try.prog 20 #[.agg #[.slice ao zs.length cap]] w fun e w' => ∃ v, e = .returned v ∧ OwnL w' w.heap.size v (places zs) ∧ Kept w w' := by
  have b0 := Cells.new w 26 #[.slice ao zs.length cap]
  have k0 : Kept w (w.alloc (.cells #[.slice ao zs.length cap] 26)) := Kept.alloc (Below.refl _ _) _
  have hS := spec_SlabOk_ok _ ao cap zs (hI.kept k0) hL
  cases hok : slabOk zs with
  | false =>
    rw [hok] at hS
    have HP : Hid (places zs = []) := by simp [Hid, places, hok]
    clear hI hok
    go_enter Try.func20, Try.ntmps20
    go_wp2_with (go_at_call 12; refine hS.mono ?_; rintro e w1 ⟨rfl, hk1⟩)
    go_ret
    refine ⟨_, rfl, ?_, (k0.trans hk1).alloc _⟩
    rw [HP.out]
    have s1 : w.heap.size ≤ w1.heap.size := (k0.trans hk1).size
    exact ⟨by simp, by simpa using World.ownsRow_made (base := w.heap.size) (e := 3) (size := 1) w1 #[] 0 s1 (by unfold maxLen; omega) (by simp)⟩
  | true =>
    rw [hok] at hS
    have hB := fun (w1 : World) (hI1 : Ints w1 ao zs) => l2Blocks_ok w1 ao cap zs hI1 hL hok
    have HP : Hid (places zs = atsOf (blocks zs)) := by simp [Hid, places, hok, atsOf]
    clear hok
    go_enter Try.func20, Try.ntmps20
    go_wp2_with (first | (go_at_call 12; refine hS.mono ?_; rintro e w1 ⟨rfl, hk1⟩; have c1 := (b0.kept hk1).cell 0) | (go_at_call 52; refine (hB _ ((hI.kept k0).kept hk1)).mono ?_; rintro e w2 ⟨v, rfl, ho, hk2⟩))
    go_ret
    exact ⟨_, rfl, by rw [HP.out]; exact ⟨ho.1, ownsRow_base ho.2 (k0.trans hk1).size⟩, (k0.trans hk1).trans hk2⟩
theorem places_len {zs : List Int} (hok : slabOk zs = true) : (places zs).length = (blocks zs).length := by simp [places, hok]
/-- The room of the first j blocks. -/
theorem roomOf_take {zs : List Int} {j : Nat} (h : j < (blocks zs).length) : roomOf ((blocks zs).take (j + 1)) = roomOf ((blocks zs).take j) + (if ((blocks zs)[j]).1.kind = 0 then ((blocks zs)[j]).1.size else 0) := by
  rw [List.take_add_one, List.getElem?_eq_getElem h, roomOf_append]
  simp [roomOf]
theorem places_at {zs : List Int} (hok : slabOk zs = true) {j : Nat} (h : j < (blocks zs).length) : hz (places zs) j = (((blocks zs)[j]).1.at' : Nat) := by
  simp [hz, places, hok, h]
set_option maxHeartbeats 2000000 in
theorem spec_Room_ok (w : World) (ao : Option Addr) (cap : Nat) (zs : List Int) (hI : Ints w ao zs) (hL : zs.length * 8 ≤ 140737488351232) :
    Calls Try.prog 21 #[.agg #[.slice ao zs.length cap]] w fun e w' => e = .returned (.int .i64 (room zs : Nat)) ∧ Kept w w' := by
  have b0 := Cells.new w 26 #[.slice ao zs.length cap]
  have k0 : Kept w (w.alloc (.cells #[.slice ao zs.length cap] 26)) := Kept.alloc (Below.refl _ _) _
  go_enter Try.func21, Try.ntmps21
  go_wp2_with fail
  refine (spec_Blocks_ok _ ao cap zs (hI.kept k0) hL).mono ?_
  rintro e w1 ⟨v, rfl, ho, hk1⟩
  have b1 := b0.kept hk1
  have k1 := k0.trans hk1
  clear b0 k0 hk1
  obtain ⟨la, lc, rfl, hP⟩ := ho.ints
  clear ho
  cases hok : slabOk zs with
  | false =>
    have hp0 : (places zs).length = 0 := by simp [places, hok]
    have HR : Hid (room zs = 0) := by simp [Hid, room, hok]
    rw [hp0]
    clear hok hP hI
    go_wp2
    go_loopw [3, 5] (fun s i wr => s = .int .i64 0 ∧ i = .int .i64 0 ∧ wr = w1) (fun _ _ _ => 0)
    case atStart => exact ⟨rfl, rfl, rfl⟩
    case round =>
      obtain ⟨rfl, rfl, rfl⟩ := hrel
      go_wp2
      go_ret
      exact ⟨by rw [HR.out]; rfl, k1⟩
  | true =>
    have HO : Hid (slabOk zs = true) := hok
    have hplen := places_len hok
    have hcount := blocks_count zs
    have HR : Hid (room zs = roomOf (blocks zs)) := by simp [Hid, room, hok]
    have hlen := slabOk_len hok
    rw [hplen]
    clear hok
    go_wp2
    go_loopw [3, 5] (fun s i wr => ∃ j : Nat, j ≤ (blocks zs).length ∧ i = .int .i64 j ∧ s = .int .i64 (roomOf ((blocks zs).take j) : Nat) ∧ Kept w1 wr) (fun _ i _ => (blocks zs).length - (intOf i).toNat)
    case atStart => exact ⟨0, Nat.zero_le _, rfl, by simp [roomOf], Below.refl _ _⟩
    case round =>
      obtain ⟨j, hj, rfl, rfl, hKj⟩ := hrel
      by_cases hlt : j < (blocks zs).length
      · have hpj := places_at HO.out hlt
        have hm := blks_mem zs 0 _ (List.getElem_mem (l := blocks zs) hlt)
        obtain ⟨pb, po, rfl, hpc⟩ := (hP.kept hKj).at (k := j) (by rw [hplen]; exact hlt)
        have hpck := hpc j (by rw [hplen]; exact hlt)
        rw [hpj] at hpck
        have hgl := hm.1.lt
        obtain ⟨bb, off, rfl, hc⟩ := ((hI.kept k1).kept hKj).at hgl
        have hck := hc _ hgl
        have cb := (b1.kept hKj).cell 0
        have hr0 : roomOf ((blocks zs).take j) ≤ zs.length := roomOf_pre (List.take_prefix _ _)
        have hszI := hm.1.szI
        have hkdI := kdI zs ((blocks zs)[j]).1.at'
        have hle := hm.1.le
        have HT : Hid _ := roomOf_take hlt
        have hs := hm.2.1
        have hq := hm.2.2
        have hlt' : (j : Int) < ((blocks zs).length : Int) := by omega
        have hgl' : (((blocks zs)[j].1.at' : Nat) : Int) < (zs.length : Int) := by omega
        obtain ⟨a0, ha0⟩ : ∃ a0, ((blocks zs)[j]).1.at' = a0 := ⟨_, rfl⟩
        rw [hs, hq, ha0] at HT
        rw [ha0] at hck hgl hgl' hszI hkdI hle hpck
        have HS : Hid ((sz zs a0 : Int) = hz zs a0 / 8) := hszI
        have HQ : Hid ((kd zs a0 : Int) = hz zs a0 % 8) := hkdI
        have hsb : hz zs a0 / 8 ≤ 2000 := by omega
        have hsb' : 0 ≤ hz zs a0 / 8 := by omega
        clear hc hpc hm hs hq ha0 hpj hI hP hszI hkdI
        by_cases hz8 : hz zs a0 % 8 = 0
        · have hd : (hz zs a0 % 8 == 0) = true := by simp [hz8]
          have HZ : Hid (hz zs a0 % 8 = 0) := hz8
          clear hz8
          go_wp2_with fail
          go_quiet (first | (go_at_call 45; refine Calls.quiet_of_same ((l2Kind_ok _ _).mono (fun e w' h => ⟨h.1, h.2.symm⟩))))
          go_wp2_with fail
          have hck2 : (wr.drewN nq).cell? ⟨bb, off + a0, none⟩ = _ := hck
          have hpck2 : (wr.drewN nq).cell? ⟨pb, po + j, none⟩ = _ := hpck
          have cb2 : (wr.drewN nq).cell? ⟨w.heap.size, 0, none⟩ = _ := cb
          have hK2 : Kept w1 (wr.drewN nq) := kept_drewN hKj nq
          clear hck hpck cb hKj
          generalize wr.drewN nq = W1 at hck2 hpck2 cb2 hK2 ⊢
          go_quiet (first | (go_at_call 44; refine Calls.quiet_of_same ((l2Size_ok _ _).mono (fun e w' h => ⟨h.1, h.2.symm⟩))))
          go_wp2
          go_roundw
          case rel => exact ⟨j + 1, by omega, by go_num, by rw [HT.out, ← HS.out]; have := HQ.out; have := HZ.out; rw [if_pos (by omega)]; go_num, kept_drewN hK2 _⟩
          case measure => simp [intOf]; omega
        · have hd : (hz zs a0 % 8 == 0) = false := by simpa using hz8
          have HZ : Hid (¬ hz zs a0 % 8 = 0) := hz8
          clear hz8
          go_wp2_with fail
          go_quiet (first | (go_at_call 45; refine Calls.quiet_of_same ((l2Kind_ok _ _).mono (fun e w' h => ⟨h.1, h.2.symm⟩))))
          go_wp2
          go_roundw
          case rel => exact ⟨j + 1, by omega, by go_num, by rw [HT.out]; have := HQ.out; have := HZ.out; rw [if_neg (by omega)]; rfl, kept_drewN hKj _⟩
          case measure => simp [intOf]; omega
      · obtain rfl : j = (blocks zs).length := by omega
        clear hP hI
        go_wp2
        go_ret
        exact ⟨by rw [HR.out]; simp, k1.trans hKj⟩
end Go.Proofs.Ytaclgpkcdbikhaa
