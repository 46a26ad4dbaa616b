/-
  The contract of the program's (layout).blockOk: each word of a block is right in its role.
-/
import Derived.Test.YtpbafjcoomfooaaGreatShapeD
import Derived.Deep.RegionHeld3
import Derived.Deep.CutRange
namespace Go.Proofs.YtpbafjcoomfooaaGreat
open Go.RowKit
attribute [local go_sem] Plain.and7 mFree mText mObj mCell mFun mScope

/-- The words of a block up to word k are right. -/
def wordsR (zs : List Int) (a q : Nat) (k : Nat) : Bool := (List.range k).all (fun i => i == 0 || wordR zs (roleOf q (hz zs (a + 1)) (i : Nat)) (hz zs (a + i)))
theorem wordsR_one (zs : List Int) (a q : Nat) : wordsR zs a q 1 = true := by simp [wordsR]
theorem wordsR_succ {zs : List Int} {a q k : Nat} (h : 1 ≤ k) : wordsR zs a q (k + 1) = (wordsR zs a q k && wordR zs (roleOf q (hz zs (a + 1)) (k : Nat)) (hz zs (a + k))) := by
  simp only [wordsR, List.range_succ, List.all_append, List.all_cons, List.all_nil, Bool.and_true]
  rw [show (k == 0) = false by simp; omega, Bool.false_or]
theorem wordsR_false {zs : List Int} {a q k n : Nat} (hk : k ≤ n) (h : wordsR zs a q k = false) : wordsR zs a q n = false := by
  cases hn : wordsR zs a q n with
  | false => rfl
  | true =>
    exfalso
    have : wordsR zs a q k = true := by
      unfold wordsR at hn ⊢
      rw [List.all_eq_true] at hn ⊢
      exact fun i hi => hn i (List.mem_range.2 (Nat.lt_of_lt_of_le (List.mem_range.1 hi) hk))
    rw [this] at h
    cases h
/-- The block is as its kind asks. -/
def blkR (zs : List Int) (a s q : Nat) : Bool := sizeR q (hz zs (a + 1)) s && wordsR zs a q s
theorem roleOf_nn {q : Nat} (hq : q ≤ 5) (n i : Int) : 0 ≤ roleOf q n i := by
  rcases (show q = 0 ∨ q = 1 ∨ q = 2 ∨ q = 3 ∨ q = 4 ∨ q = 5 by omega) with rfl | rfl | rfl | rfl | rfl | rfl
  all_goals (simp only [roleOf]; repeat' split)
  all_goals omega

set_option maxHeartbeats 8000000 in
set_option maxRecDepth 100000 in
theorem blockOk_ok (w : World) (lo ao : Option Addr) (lc cap : Nat) (zs : List Int) (a s q : Nat) (hLy : Ints w lo (lyt zs)) (hI : Ints w ao zs) (hl : zs.length ≤ 1048576) (hle : a + s ≤ zs.length) (hs : 2 ≤ s) (hq : q ≤ 5) :
    Calls Tryz.prog 99 #[.slice lo zs.length lc, .slice ao zs.length cap, bkV a s q] w fun e w' => e = .returned (.bool (blkR zs a s q)) ∧ Kept w w' := by
  have k0 : Kept w (w.alloc (.cells (bkC a s q) 111)) := Kept.alloc (Below.refl _ _) _
  have b0 := Cells.new w 111 (bkC a s q)
  obtain ⟨n, hn⟩ : ∃ n, hz zs (a + 1) = n := ⟨_, rfl⟩
  have hSh := shapeOf_ok _ ao cap zs a s q (hI.kept k0) hl hle hs hq
  rw [hn] at hSh
  go_enter Tryz.func99, Tryz.ntmps99
  go_wp2_with fail
  refine hSh.mono ?_
  rintro e w1 ⟨rfl, hk1⟩
  have c1 := (b0.kept hk1).cell 1
  cases hz : sizeR q n s with
  | false =>
    have HR : Hid (blkR zs a s q = false) := by simp [Hid, blkR, hn, hz]
    have hSz := sizeOk_ok w1 q n s hq (by omega) (by omega)
    rw [hz] at hSz
    clear hz hSh
    go_wp2_with (go_at_call 141; refine hSz.mono ?_; rintro e w2 ⟨rfl, hk2⟩)
    go_ret
    exact ⟨by rw [HR.out]; rfl, (k0.trans hk1).trans hk2⟩
  | true =>
    have HR : Hid (blkR zs a s q = wordsR zs a q s) := by simp [Hid, blkR, hn, hz]
    have hSz := sizeOk_ok w1 q n s hq (by omega) (by omega)
    rw [hz] at hSz
    clear hz hSh
    go_wp2_with fail
    refine hSz.mono ?_
    rintro e w2 ⟨rfl, hk2⟩
    have b2 := (b0.kept hk1).kept hk2
    have k2 := (k0.trans hk1).trans hk2
    have hLn := b2.lt
    clear c1 hSz b0 k0 hk1 hk2
    obtain ⟨bb, off, rfl, hc⟩ := hI.at (k := 0) (by omega)
    have hwd : ∀ k, k < s → w.cell? ⟨bb, off + (a + k), none⟩ = some (.int .i64 (hz zs (a + k))) := fun k hk => hc (a + k) (by omega)
    have hbb : bb < w.heap.size := World.block_lt_of_cell? _ _ (hwd 0 (by omega))
    have hbd := fun k => hI.bd (a + k)
    have HRN : Hid (∀ k : Nat, wordsR zs a q (k + 1) = (if k = 0 then true else (wordsR zs a q k && wordR zs (roleOf q n (k : Nat)) (hz zs (a + k))))) := by
      intro k
      by_cases h : k = 0
      · subst h; rw [if_pos rfl]; exact wordsR_one _ _ _
      · rw [if_neg h, wordsR_succ (by omega), hn]
    clear hc hI
    rcases (show q = 0 ∨ q = 1 ∨ q = 2 ∨ q = 3 ∨ q = 4 ∨ q = 5 by omega) with h | h | h | h | h | h
    · have hsh : shV q n = .iface 150 (.agg #[]) := by rw [h]; rfl
      rw [hsh]
      have HQ : Hid (q = 0) := h
      clear h hsh
      go_wp2_with fail
      go_loopw [8] (fun i wr => ∃ (k : Nat), i = .int .i64 k ∧ 1 ≤ k ∧ k ≤ s ∧ wordsR zs a q k = true ∧ Cells wr w.heap.size 111 (bkC a s q) ∧ Kept w wr) (fun i _ => s - (intOf i).toNat)
      case atStart => exact ⟨1, rfl, Nat.le_refl _, by omega, wordsR_one _ _ _, b2, k2⟩
      case round =>
        obtain ⟨k, rfl, hk1, hks, hok, hb, hK⟩ := hrel
        clear b2 k2
        have HO : Hid (wordsR zs a q k = true) := hok
        have HK : Hid (Kept w wr) := hK
        clear hok
        have cb1 := hb.cell 1
        by_cases hlt : k < s
        · obtain ⟨wd, hwdE⟩ : ∃ wd, wordR zs (roleOf 0 n (k : Nat)) (hz zs (a + k)) = wd := ⟨_, rfl⟩
          have HN : Hid (wordsR zs a q (k + 1) = wd) := by
            show _ = _
            rw [HRN.out k, if_neg (by omega), HO.out, HQ.out, hwdE, Bool.true_and]
          go_wp2_with fail
          go_cut [35] from 23 to 35 (fun t wx => t = .bool (!wd) ∧ Kept wr wx)
          case first =>
            have hbd1 := (hbd k).1
            have hbd2 := (hbd k).2
            have kd : Kept wr wr.drew := (Below.refl _ wr).drew
            have hcw : wr.drew.cell? ⟨bb, off + ((a : Int) + (k : Int)).toNat, none⟩ = some (.int .i64 (hz zs (a + k))) := by
              rw [show ((a : Int) + (k : Int)).toNat = a + k by omega]
              exact ((hK.trans kd).cell (p := ⟨bb, off + (a + k), none⟩) hbb).trans (hwd k hlt)
            have hb0 : wr.drew.cell? ⟨w.heap.size, 0, none⟩ = some (.int .i64 a) := (hb.kept kd).cell 0
            have hix : (a : Int) + (k : Int) < (zs.length : Int) := by omega
            have hix0 : (0 : Int) ≤ (a : Int) + (k : Int) := by omega
            have hixw : IntKind.i64.wrap ((a : Int) + (k : Int)) = (a : Int) + (k : Int) := IntWalk.i64_in _ ⟨by omega, by omega⟩
            have hLd := hLy.kept (hK.trans kd)
            have hW := fun (W : World) (hI : Ints W lo (lyt zs)) => wordOk_ok W lo lc zs (roleOf 0 n (k : Nat)) (hz zs (a + k)) hI hbd1 hbd2 (roleOf_nn (by omega) _ _)
            rw [hwdE] at hW
            clear hwdE hbd HN HRN
            go_region_held3 (fun w' => w'.cell? ⟨w.heap.size, 0, none⟩ = some (.int .i64 a) ∧ w'.cell? ⟨bb, off + ((a : Int) + (k : Int)).toNat, none⟩ = some (.int .i64 (hz zs (a + k)))) (first | (refine ⟨?_, ?_⟩ <;> assumption) | go_keep) (first | (go_at_call 182; refine (freeRole_ok n _ _).mono ?_; rintro e w4 ⟨rfl, hk4⟩; have hcw4 := (hk4.cell (p := ⟨bb, off + ((a : Int) + (k : Int)).toNat, none⟩) (World.block_lt_of_cell? _ _ hcw)).trans hcw; have hb4 := (hk4.cell (p := ⟨w.heap.size, 0, none⟩) (World.block_lt_of_cell? _ _ hb0)).trans hb0) | (go_at_call 142; refine (hW _ (hLd.kept hk4)).mono ?_; rintro e w5 ⟨rfl, rfl⟩))
            all_goals (
              go_wp2_with fail
              go_meet
              exact ⟨rfl, kd.trans hk4⟩)
          case rest =>
          obtain ⟨rfl, hKc⟩ := hcut
          have hbc := hb.kept hKc
          have hkc := hK.trans hKc
          clear hb hK cb1 hwdE
          cases wd with
          | true =>
            go_wp2_with fail
            go_roundw
            case rel => exact ⟨k + 1, by go_num, by omega, by omega, HN.out, hbc, hkc⟩
            case measure => simp [intOf]; omega
          | false =>
            go_wp2
            go_ret
            exact ⟨by rw [HR.out, wordsR_false (show k + 1 ≤ s by omega) HN.out]; rfl, hkc⟩
        · obtain rfl : s = k := by omega
          go_wp2
          go_ret
          exact ⟨by rw [HR.out, HO.out]; rfl, HK.out⟩
    · have hsh : shV q n = .iface 144 (.agg #[.int .i64 n]) := by rw [h]; rfl
      rw [hsh]
      have HQ : Hid (q = 1) := h
      clear h hsh
      go_wp2_with fail
      go_loopw [8] (fun i wr => ∃ (k : Nat), i = .int .i64 k ∧ 1 ≤ k ∧ k ≤ s ∧ wordsR zs a q k = true ∧ Cells wr w.heap.size 111 (bkC a s q) ∧ Kept w wr) (fun i _ => s - (intOf i).toNat)
      case atStart => exact ⟨1, rfl, Nat.le_refl _, by omega, wordsR_one _ _ _, b2, k2⟩
      case round =>
        obtain ⟨k, rfl, hk1, hks, hok, hb, hK⟩ := hrel
        clear b2 k2
        have HO : Hid (wordsR zs a q k = true) := hok
        have HK : Hid (Kept w wr) := hK
        clear hok
        have cb1 := hb.cell 1
        by_cases hlt : k < s
        · obtain ⟨wd, hwdE⟩ : ∃ wd, wordR zs (roleOf 1 n (k : Nat)) (hz zs (a + k)) = wd := ⟨_, rfl⟩
          have HN : Hid (wordsR zs a q (k + 1) = wd) := by
            show _ = _
            rw [HRN.out k, if_neg (by omega), HO.out, HQ.out, hwdE, Bool.true_and]
          go_wp2_with fail
          go_cut [35] from 23 to 35 (fun t wx => t = .bool (!wd) ∧ Kept wr wx)
          case first =>
            have hbd1 := (hbd k).1
            have hbd2 := (hbd k).2
            have kd : Kept wr wr.drew := (Below.refl _ wr).drew
            have hcw : wr.drew.cell? ⟨bb, off + ((a : Int) + (k : Int)).toNat, none⟩ = some (.int .i64 (hz zs (a + k))) := by
              rw [show ((a : Int) + (k : Int)).toNat = a + k by omega]
              exact ((hK.trans kd).cell (p := ⟨bb, off + (a + k), none⟩) hbb).trans (hwd k hlt)
            have hb0 : wr.drew.cell? ⟨w.heap.size, 0, none⟩ = some (.int .i64 a) := (hb.kept kd).cell 0
            have hix : (a : Int) + (k : Int) < (zs.length : Int) := by omega
            have hix0 : (0 : Int) ≤ (a : Int) + (k : Int) := by omega
            have hixw : IntKind.i64.wrap ((a : Int) + (k : Int)) = (a : Int) + (k : Int) := IntWalk.i64_in _ ⟨by omega, by omega⟩
            have hLd := hLy.kept (hK.trans kd)
            have hW := fun (W : World) (hI : Ints W lo (lyt zs)) => wordOk_ok W lo lc zs (roleOf 1 n (k : Nat)) (hz zs (a + k)) hI hbd1 hbd2 (roleOf_nn (by omega) _ _)
            rw [hwdE] at hW
            clear hwdE hbd HN HRN
            go_region_held3 (fun w' => w'.cell? ⟨w.heap.size, 0, none⟩ = some (.int .i64 a) ∧ w'.cell? ⟨bb, off + ((a : Int) + (k : Int)).toNat, none⟩ = some (.int .i64 (hz zs (a + k)))) (first | (refine ⟨?_, ?_⟩ <;> assumption) | go_keep) (first | (go_at_call 177; refine (textRole_ok n _ _ (by omega) (by omega)).mono ?_; rintro e w4 ⟨rfl, hk4⟩; have hcw4 := (hk4.cell (p := ⟨bb, off + ((a : Int) + (k : Int)).toNat, none⟩) (World.block_lt_of_cell? _ _ hcw)).trans hcw; have hb4 := (hk4.cell (p := ⟨w.heap.size, 0, none⟩) (World.block_lt_of_cell? _ _ hb0)).trans hb0) | (go_at_call 142; refine (hW _ (hLd.kept hk4)).mono ?_; rintro e w5 ⟨rfl, rfl⟩))
            all_goals (
              go_wp2_with fail
              go_meet
              exact ⟨rfl, kd.trans hk4⟩)
          case rest =>
          obtain ⟨rfl, hKc⟩ := hcut
          have hbc := hb.kept hKc
          have hkc := hK.trans hKc
          clear hb hK cb1 hwdE
          cases wd with
          | true =>
            go_wp2_with fail
            go_roundw
            case rel => exact ⟨k + 1, by go_num, by omega, by omega, HN.out, hbc, hkc⟩
            case measure => simp [intOf]; omega
          | false =>
            go_wp2
            go_ret
            exact ⟨by rw [HR.out, wordsR_false (show k + 1 ≤ s by omega) HN.out]; rfl, hkc⟩
        · obtain rfl : s = k := by omega
          go_wp2
          go_ret
          exact ⟨by rw [HR.out, HO.out]; rfl, HK.out⟩
    · have hsh : shV q n = .iface 146 (.agg #[]) := by rw [h]; rfl
      rw [hsh]
      have HQ : Hid (q = 2) := h
      clear h hsh
      go_wp2_with fail
      go_loopw [8] (fun i wr => ∃ (k : Nat), i = .int .i64 k ∧ 1 ≤ k ∧ k ≤ s ∧ wordsR zs a q k = true ∧ Cells wr w.heap.size 111 (bkC a s q) ∧ Kept w wr) (fun i _ => s - (intOf i).toNat)
      case atStart => exact ⟨1, rfl, Nat.le_refl _, by omega, wordsR_one _ _ _, b2, k2⟩
      case round =>
        obtain ⟨k, rfl, hk1, hks, hok, hb, hK⟩ := hrel
        clear b2 k2
        have HO : Hid (wordsR zs a q k = true) := hok
        have HK : Hid (Kept w wr) := hK
        clear hok
        have cb1 := hb.cell 1
        by_cases hlt : k < s
        · obtain ⟨wd, hwdE⟩ : ∃ wd, wordR zs (roleOf 2 n (k : Nat)) (hz zs (a + k)) = wd := ⟨_, rfl⟩
          have HN : Hid (wordsR zs a q (k + 1) = wd) := by
            show _ = _
            rw [HRN.out k, if_neg (by omega), HO.out, HQ.out, hwdE, Bool.true_and]
          go_wp2_with fail
          go_cut [35] from 23 to 35 (fun t wx => t = .bool (!wd) ∧ Kept wr wx)
          case first =>
            have hbd1 := (hbd k).1
            have hbd2 := (hbd k).2
            have kd : Kept wr wr.drew := (Below.refl _ wr).drew
            have hcw : wr.drew.cell? ⟨bb, off + ((a : Int) + (k : Int)).toNat, none⟩ = some (.int .i64 (hz zs (a + k))) := by
              rw [show ((a : Int) + (k : Int)).toNat = a + k by omega]
              exact ((hK.trans kd).cell (p := ⟨bb, off + (a + k), none⟩) hbb).trans (hwd k hlt)
            have hb0 : wr.drew.cell? ⟨w.heap.size, 0, none⟩ = some (.int .i64 a) := (hb.kept kd).cell 0
            have hix : (a : Int) + (k : Int) < (zs.length : Int) := by omega
            have hix0 : (0 : Int) ≤ (a : Int) + (k : Int) := by omega
            have hixw : IntKind.i64.wrap ((a : Int) + (k : Int)) = (a : Int) + (k : Int) := IntWalk.i64_in _ ⟨by omega, by omega⟩
            have hLd := hLy.kept (hK.trans kd)
            have hW := fun (W : World) (hI : Ints W lo (lyt zs)) => wordOk_ok W lo lc zs (roleOf 2 n (k : Nat)) (hz zs (a + k)) hI hbd1 hbd2 (roleOf_nn (by omega) _ _)
            rw [hwdE] at hW
            clear hwdE hbd HN HRN
            go_region_held3 (fun w' => w'.cell? ⟨w.heap.size, 0, none⟩ = some (.int .i64 a) ∧ w'.cell? ⟨bb, off + ((a : Int) + (k : Int)).toNat, none⟩ = some (.int .i64 (hz zs (a + k)))) (first | (refine ⟨?_, ?_⟩ <;> assumption) | go_keep) (first | (go_at_call 178; refine (objRole_ok n _ _).mono ?_; rintro e w4 ⟨rfl, hk4⟩; have hcw4 := (hk4.cell (p := ⟨bb, off + ((a : Int) + (k : Int)).toNat, none⟩) (World.block_lt_of_cell? _ _ hcw)).trans hcw; have hb4 := (hk4.cell (p := ⟨w.heap.size, 0, none⟩) (World.block_lt_of_cell? _ _ hb0)).trans hb0) | (go_at_call 142; refine (hW _ (hLd.kept hk4)).mono ?_; rintro e w5 ⟨rfl, rfl⟩))
            all_goals (
              go_wp2_with fail
              go_meet
              exact ⟨rfl, kd.trans hk4⟩)
          case rest =>
          obtain ⟨rfl, hKc⟩ := hcut
          have hbc := hb.kept hKc
          have hkc := hK.trans hKc
          clear hb hK cb1 hwdE
          cases wd with
          | true =>
            go_wp2_with fail
            go_roundw
            case rel => exact ⟨k + 1, by go_num, by omega, by omega, HN.out, hbc, hkc⟩
            case measure => simp [intOf]; omega
          | false =>
            go_wp2
            go_ret
            exact ⟨by rw [HR.out, wordsR_false (show k + 1 ≤ s by omega) HN.out]; rfl, hkc⟩
        · obtain rfl : s = k := by omega
          go_wp2
          go_ret
          exact ⟨by rw [HR.out, HO.out]; rfl, HK.out⟩
    · have hsh : shV q n = .iface 147 (.agg #[]) := by rw [h]; rfl
      rw [hsh]
      have HQ : Hid (q = 3) := h
      clear h hsh
      go_wp2_with fail
      go_loopw [8] (fun i wr => ∃ (k : Nat), i = .int .i64 k ∧ 1 ≤ k ∧ k ≤ s ∧ wordsR zs a q k = true ∧ Cells wr w.heap.size 111 (bkC a s q) ∧ Kept w wr) (fun i _ => s - (intOf i).toNat)
      case atStart => exact ⟨1, rfl, Nat.le_refl _, by omega, wordsR_one _ _ _, b2, k2⟩
      case round =>
        obtain ⟨k, rfl, hk1, hks, hok, hb, hK⟩ := hrel
        clear b2 k2
        have HO : Hid (wordsR zs a q k = true) := hok
        have HK : Hid (Kept w wr) := hK
        clear hok
        have cb1 := hb.cell 1
        by_cases hlt : k < s
        · obtain ⟨wd, hwdE⟩ : ∃ wd, wordR zs (roleOf 3 n (k : Nat)) (hz zs (a + k)) = wd := ⟨_, rfl⟩
          have HN : Hid (wordsR zs a q (k + 1) = wd) := by
            show _ = _
            rw [HRN.out k, if_neg (by omega), HO.out, HQ.out, hwdE, Bool.true_and]
          go_wp2_with fail
          go_cut [35] from 23 to 35 (fun t wx => t = .bool (!wd) ∧ Kept wr wx)
          case first =>
            have hbd1 := (hbd k).1
            have hbd2 := (hbd k).2
            have kd : Kept wr wr.drew := (Below.refl _ wr).drew
            have hcw : wr.drew.cell? ⟨bb, off + ((a : Int) + (k : Int)).toNat, none⟩ = some (.int .i64 (hz zs (a + k))) := by
              rw [show ((a : Int) + (k : Int)).toNat = a + k by omega]
              exact ((hK.trans kd).cell (p := ⟨bb, off + (a + k), none⟩) hbb).trans (hwd k hlt)
            have hb0 : wr.drew.cell? ⟨w.heap.size, 0, none⟩ = some (.int .i64 a) := (hb.kept kd).cell 0
            have hix : (a : Int) + (k : Int) < (zs.length : Int) := by omega
            have hix0 : (0 : Int) ≤ (a : Int) + (k : Int) := by omega
            have hixw : IntKind.i64.wrap ((a : Int) + (k : Int)) = (a : Int) + (k : Int) := IntWalk.i64_in _ ⟨by omega, by omega⟩
            have hLd := hLy.kept (hK.trans kd)
            have hW := fun (W : World) (hI : Ints W lo (lyt zs)) => wordOk_ok W lo lc zs (roleOf 3 n (k : Nat)) (hz zs (a + k)) hI hbd1 hbd2 (roleOf_nn (by omega) _ _)
            rw [hwdE] at hW
            clear hwdE hbd HN HRN
            go_region_held3 (fun w' => w'.cell? ⟨w.heap.size, 0, none⟩ = some (.int .i64 a) ∧ w'.cell? ⟨bb, off + ((a : Int) + (k : Int)).toNat, none⟩ = some (.int .i64 (hz zs (a + k)))) (first | (refine ⟨?_, ?_⟩ <;> assumption) | go_keep) (first | (go_at_call 179; refine (cellRole_ok n _ _).mono ?_; rintro e w4 ⟨rfl, hk4⟩; have hcw4 := (hk4.cell (p := ⟨bb, off + ((a : Int) + (k : Int)).toNat, none⟩) (World.block_lt_of_cell? _ _ hcw)).trans hcw; have hb4 := (hk4.cell (p := ⟨w.heap.size, 0, none⟩) (World.block_lt_of_cell? _ _ hb0)).trans hb0) | (go_at_call 142; refine (hW _ (hLd.kept hk4)).mono ?_; rintro e w5 ⟨rfl, rfl⟩))
            all_goals (
              go_wp2_with fail
              go_meet
              exact ⟨rfl, kd.trans hk4⟩)
          case rest =>
          obtain ⟨rfl, hKc⟩ := hcut
          have hbc := hb.kept hKc
          have hkc := hK.trans hKc
          clear hb hK cb1 hwdE
          cases wd with
          | true =>
            go_wp2_with fail
            go_roundw
            case rel => exact ⟨k + 1, by go_num, by omega, by omega, HN.out, hbc, hkc⟩
            case measure => simp [intOf]; omega
          | false =>
            go_wp2
            go_ret
            exact ⟨by rw [HR.out, wordsR_false (show k + 1 ≤ s by omega) HN.out]; rfl, hkc⟩
        · obtain rfl : s = k := by omega
          go_wp2
          go_ret
          exact ⟨by rw [HR.out, HO.out]; rfl, HK.out⟩
    · have hsh : shV q n = .iface 148 (.agg #[]) := by rw [h]; rfl
      rw [hsh]
      have HQ : Hid (q = 4) := h
      clear h hsh
      go_wp2_with fail
      go_loopw [8] (fun i wr => ∃ (k : Nat), i = .int .i64 k ∧ 1 ≤ k ∧ k ≤ s ∧ wordsR zs a q k = true ∧ Cells wr w.heap.size 111 (bkC a s q) ∧ Kept w wr) (fun i _ => s - (intOf i).toNat)
      case atStart => exact ⟨1, rfl, Nat.le_refl _, by omega, wordsR_one _ _ _, b2, k2⟩
      case round =>
        obtain ⟨k, rfl, hk1, hks, hok, hb, hK⟩ := hrel
        clear b2 k2
        have HO : Hid (wordsR zs a q k = true) := hok
        have HK : Hid (Kept w wr) := hK
        clear hok
        have cb1 := hb.cell 1
        by_cases hlt : k < s
        · obtain ⟨wd, hwdE⟩ : ∃ wd, wordR zs (roleOf 4 n (k : Nat)) (hz zs (a + k)) = wd := ⟨_, rfl⟩
          have HN : Hid (wordsR zs a q (k + 1) = wd) := by
            show _ = _
            rw [HRN.out k, if_neg (by omega), HO.out, HQ.out, hwdE, Bool.true_and]
          go_wp2_with fail
          go_cut [35] from 23 to 35 (fun t wx => t = .bool (!wd) ∧ Kept wr wx)
          case first =>
            have hbd1 := (hbd k).1
            have hbd2 := (hbd k).2
            have kd : Kept wr wr.drew := (Below.refl _ wr).drew
            have hcw : wr.drew.cell? ⟨bb, off + ((a : Int) + (k : Int)).toNat, none⟩ = some (.int .i64 (hz zs (a + k))) := by
              rw [show ((a : Int) + (k : Int)).toNat = a + k by omega]
              exact ((hK.trans kd).cell (p := ⟨bb, off + (a + k), none⟩) hbb).trans (hwd k hlt)
            have hb0 : wr.drew.cell? ⟨w.heap.size, 0, none⟩ = some (.int .i64 a) := (hb.kept kd).cell 0
            have hix : (a : Int) + (k : Int) < (zs.length : Int) := by omega
            have hix0 : (0 : Int) ≤ (a : Int) + (k : Int) := by omega
            have hixw : IntKind.i64.wrap ((a : Int) + (k : Int)) = (a : Int) + (k : Int) := IntWalk.i64_in _ ⟨by omega, by omega⟩
            have hLd := hLy.kept (hK.trans kd)
            have hW := fun (W : World) (hI : Ints W lo (lyt zs)) => wordOk_ok W lo lc zs (roleOf 4 n (k : Nat)) (hz zs (a + k)) hI hbd1 hbd2 (roleOf_nn (by omega) _ _)
            rw [hwdE] at hW
            clear hwdE hbd HN HRN
            go_region_held3 (fun w' => w'.cell? ⟨w.heap.size, 0, none⟩ = some (.int .i64 a) ∧ w'.cell? ⟨bb, off + ((a : Int) + (k : Int)).toNat, none⟩ = some (.int .i64 (hz zs (a + k)))) (first | (refine ⟨?_, ?_⟩ <;> assumption) | go_keep) (first | (go_at_call 180; refine (funRole_ok n _ _).mono ?_; rintro e w4 ⟨rfl, hk4⟩; have hcw4 := (hk4.cell (p := ⟨bb, off + ((a : Int) + (k : Int)).toNat, none⟩) (World.block_lt_of_cell? _ _ hcw)).trans hcw; have hb4 := (hk4.cell (p := ⟨w.heap.size, 0, none⟩) (World.block_lt_of_cell? _ _ hb0)).trans hb0) | (go_at_call 142; refine (hW _ (hLd.kept hk4)).mono ?_; rintro e w5 ⟨rfl, rfl⟩))
            all_goals (
              go_wp2_with fail
              go_meet
              exact ⟨rfl, kd.trans hk4⟩)
          case rest =>
          obtain ⟨rfl, hKc⟩ := hcut
          have hbc := hb.kept hKc
          have hkc := hK.trans hKc
          clear hb hK cb1 hwdE
          cases wd with
          | true =>
            go_wp2_with fail
            go_roundw
            case rel => exact ⟨k + 1, by go_num, by omega, by omega, HN.out, hbc, hkc⟩
            case measure => simp [intOf]; omega
          | false =>
            go_wp2
            go_ret
            exact ⟨by rw [HR.out, wordsR_false (show k + 1 ≤ s by omega) HN.out]; rfl, hkc⟩
        · obtain rfl : s = k := by omega
          go_wp2
          go_ret
          exact ⟨by rw [HR.out, HO.out]; rfl, HK.out⟩
    · have hsh : shV q n = .iface 149 (.agg #[]) := by rw [h]; rfl
      rw [hsh]
      have HQ : Hid (q = 5) := h
      clear h hsh
      go_wp2_with fail
      go_loopw [8] (fun i wr => ∃ (k : Nat), i = .int .i64 k ∧ 1 ≤ k ∧ k ≤ s ∧ wordsR zs a q k = true ∧ Cells wr w.heap.size 111 (bkC a s q) ∧ Kept w wr) (fun i _ => s - (intOf i).toNat)
      case atStart => exact ⟨1, rfl, Nat.le_refl _, by omega, wordsR_one _ _ _, b2, k2⟩
      case round =>
        obtain ⟨k, rfl, hk1, hks, hok, hb, hK⟩ := hrel
        clear b2 k2
        have HO : Hid (wordsR zs a q k = true) := hok
        have HK : Hid (Kept w wr) := hK
        clear hok
        have cb1 := hb.cell 1
        by_cases hlt : k < s
        · obtain ⟨wd, hwdE⟩ : ∃ wd, wordR zs (roleOf 5 n (k : Nat)) (hz zs (a + k)) = wd := ⟨_, rfl⟩
          have HN : Hid (wordsR zs a q (k + 1) = wd) := by
            show _ = _
            rw [HRN.out k, if_neg (by omega), HO.out, HQ.out, hwdE, Bool.true_and]
          go_wp2_with fail
          go_cut [35] from 23 to 35 (fun t wx => t = .bool (!wd) ∧ Kept wr wx)
          case first =>
            have hbd1 := (hbd k).1
            have hbd2 := (hbd k).2
            have kd : Kept wr wr.drew := (Below.refl _ wr).drew
            have hcw : wr.drew.cell? ⟨bb, off + ((a : Int) + (k : Int)).toNat, none⟩ = some (.int .i64 (hz zs (a + k))) := by
              rw [show ((a : Int) + (k : Int)).toNat = a + k by omega]
              exact ((hK.trans kd).cell (p := ⟨bb, off + (a + k), none⟩) hbb).trans (hwd k hlt)
            have hb0 : wr.drew.cell? ⟨w.heap.size, 0, none⟩ = some (.int .i64 a) := (hb.kept kd).cell 0
            have hix : (a : Int) + (k : Int) < (zs.length : Int) := by omega
            have hix0 : (0 : Int) ≤ (a : Int) + (k : Int) := by omega
            have hixw : IntKind.i64.wrap ((a : Int) + (k : Int)) = (a : Int) + (k : Int) := IntWalk.i64_in _ ⟨by omega, by omega⟩
            have hLd := hLy.kept (hK.trans kd)
            have hW := fun (W : World) (hI : Ints W lo (lyt zs)) => wordOk_ok W lo lc zs (roleOf 5 n (k : Nat)) (hz zs (a + k)) hI hbd1 hbd2 (roleOf_nn (by omega) _ _)
            rw [hwdE] at hW
            clear hwdE hbd HN HRN
            go_region_held3 (fun w' => w'.cell? ⟨w.heap.size, 0, none⟩ = some (.int .i64 a) ∧ w'.cell? ⟨bb, off + ((a : Int) + (k : Int)).toNat, none⟩ = some (.int .i64 (hz zs (a + k)))) (first | (refine ⟨?_, ?_⟩ <;> assumption) | go_keep) (first | (go_at_call 181; refine (scopeRole_ok n _ _).mono ?_; rintro e w4 ⟨rfl, hk4⟩; have hcw4 := (hk4.cell (p := ⟨bb, off + ((a : Int) + (k : Int)).toNat, none⟩) (World.block_lt_of_cell? _ _ hcw)).trans hcw; have hb4 := (hk4.cell (p := ⟨w.heap.size, 0, none⟩) (World.block_lt_of_cell? _ _ hb0)).trans hb0) | (go_at_call 142; refine (hW _ (hLd.kept hk4)).mono ?_; rintro e w5 ⟨rfl, rfl⟩))
            all_goals (
              go_wp2_with fail
              go_meet
              exact ⟨rfl, kd.trans hk4⟩)
          case rest =>
          obtain ⟨rfl, hKc⟩ := hcut
          have hbc := hb.kept hKc
          have hkc := hK.trans hKc
          clear hb hK cb1 hwdE
          cases wd with
          | true =>
            go_wp2_with fail
            go_roundw
            case rel => exact ⟨k + 1, by go_num, by omega, by omega, HN.out, hbc, hkc⟩
            case measure => simp [intOf]; omega
          | false =>
            go_wp2
            go_ret
            exact ⟨by rw [HR.out, wordsR_false (show k + 1 ≤ s by omega) HN.out]; rfl, hkc⟩
        · obtain rfl : s = k := by omega
          go_wp2
          go_ret
          exact ⟨by rw [HR.out, HO.out]; rfl, HK.out⟩
end Go.Proofs.YtpbafjcoomfooaaGreat
