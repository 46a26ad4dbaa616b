/-
  Whether a block is a text that is right (chapter 3, the code from 54ec384 on): blockOk with no layout, textOk.
-/
import Derived.Test.YthkhlmbhickdbaaShapeE
namespace Go.Proofs.Ythkhlmbhickdbaa
open Go.RowKit
set_option linter.unusedVariables false
attribute [local go_sem] Plain.and7 mFree mText mObj mCell mFun mScope
theorem textRole_low (n i : Int) : roleOf 1 n i ≤ 4 := by
  simp only [roleOf]
  repeat' split
  all_goals omega
set_option maxHeartbeats 4000000 in
set_option maxRecDepth 100000 in
theorem wordOk_low (w : World) (lo : Option Addr) (ln lc : Nat) (zs : List Int) (r v : Int) (h0 : -9223372036854775808 ≤ v) (h1 : v ≤ 9223372036854775807) (hr : 0 ≤ r) (h5 : r ≤ 4) :
    Calls Try.prog 109 #[.slice lo ln lc, .int .i64 r, .int .i64 v] w fun e w' => e = .returned (.bool (wordR zs r v)) ∧ w = w' := by
  rcases (show r = 0 ∨ r = 1 ∨ r = 2 ∨ r = 3 ∨ r = 4 by omega) with rfl | rfl | rfl | rfl | rfl
  · go_enter Try.func109, Try.ntmps109
    go_wp2
    go_ret
    exact ⟨rfl, rfl⟩
  · go_enter Try.func109, Try.ntmps109
    go_wp2
    go_ret
    exact ⟨rfl, rfl⟩
  · go_enter Try.func109, Try.ntmps109
    go_wp2
    go_ret
    exact ⟨rfl, rfl⟩
  · by_cases hv : 0 ≤ v
    · have HR : Hid (wordR zs 3 v = decide (v ≤ 255)) := by simp [Hid, wordR, hv]
      go_enter Try.func109, Try.ntmps109
      go_wp2
      go_ret
      exact ⟨by rw [HR.out]; rfl, rfl⟩
    · have HR : Hid (wordR zs 3 v = false) := by simp [Hid, wordR, hv]
      go_enter Try.func109, Try.ntmps109
      go_wp2
      go_ret
      exact ⟨by rw [HR.out]; rfl, rfl⟩
  · by_cases hv : 0 ≤ v
    · have HR : Hid (wordR zs 4 v = decide (v ≤ 99)) := by simp [Hid, wordR, hv]
      go_enter Try.func109, Try.ntmps109
      go_wp2
      go_ret
      exact ⟨by rw [HR.out]; rfl, rfl⟩
    · have HR : Hid (wordR zs 4 v = false) := by simp [Hid, wordR, hv]
      go_enter Try.func109, Try.ntmps109
      go_wp2
      go_ret
      exact ⟨by rw [HR.out]; rfl, rfl⟩
set_option maxHeartbeats 8000000 in
set_option maxRecDepth 100000 in
theorem blockOk_nil (w : World) (ao : Option Addr) (cap : Nat) (zs : List Int) (a s q : Nat) (hI : Ints w ao zs) (hl : zs.length ≤ 1048576) (hle : a + s ≤ zs.length) (hs : 2 ≤ s) (h : q = 1) :
    Calls Try.prog 76 #[.slice none 0 0, .slice ao zs.length cap, bkV a s q] w fun e w' => e = .returned (.bool (blkR zs a s q)) ∧ Kept w w' := by
  have hq : q ≤ 5 := by omega
  have HQ0 : Hid (q = 1) := h
  clear h
  have k0 : Kept w (w.alloc (.cells (bkC a s q) 96)) := Kept.alloc (Below.refl _ _) _
  have b0 := Cells.new w 96 (bkC a s q)
  obtain ⟨n, hn⟩ : ∃ n, hz zs (a + 1) = n := ⟨_, rfl⟩
  have hSh := shapeOf_ok _ ao cap zs a s q (hI.kept k0) hl hle hs hq
  rw [hn] at hSh
  go_enter Try.func76, Try.ntmps76
  go_wp2_with fail
  refine hSh.mono ?_
  rintro e w1 ⟨rfl, hk1⟩
  have c1 := (b0.kept hk1).cell 1
  cases hz : sizeR q n s with
  | false =>
    have HR : Hid (blkR zs a s q = false) := by simp [Hid, blkR, hn, hz]
    have hSz := sizeOk_ok w1 q n s hq (by omega) (by omega)
    rw [hz] at hSz
    clear hz hSh
    go_wp2_with (go_at_call 108; refine hSz.mono ?_; rintro e w2 ⟨rfl, hk2⟩)
    go_ret
    exact ⟨by rw [HR.out]; rfl, (k0.trans hk1).trans hk2⟩
  | true =>
    have HR : Hid (blkR zs a s q = wordsR zs a q s) := by simp [Hid, blkR, hn, hz]
    have hSz := sizeOk_ok w1 q n s hq (by omega) (by omega)
    rw [hz] at hSz
    clear hz hSh
    go_wp2_with fail
    refine hSz.mono ?_
    rintro e w2 ⟨rfl, hk2⟩
    have b2 := (b0.kept hk1).kept hk2
    have k2 := (k0.trans hk1).trans hk2
    have hLn := b2.lt
    clear c1 hSz b0 k0 hk1 hk2
    obtain ⟨bb, off, rfl, hc⟩ := hI.at (k := 0) (by omega)
    have hwd : ∀ k, k < s → w.cell? ⟨bb, off + (a + k), none⟩ = some (.int .i64 (hz zs (a + k))) := fun k hk => hc (a + k) (by omega)
    have hbb : bb < w.heap.size := World.block_lt_of_cell? _ _ (hwd 0 (by omega))
    have hbd := fun k => hI.bd (a + k)
    have HRN : Hid (∀ k : Nat, wordsR zs a q (k + 1) = (if k = 0 then true else (wordsR zs a q k && wordR zs (roleOf q n (k : Nat)) (hz zs (a + k))))) := by
      intro k
      by_cases h : k = 0
      · subst h; rw [if_pos rfl]; exact wordsR_one _ _ _
      · rw [if_neg h, wordsR_succ (by omega), hn]
    clear hc hI
    have h := HQ0.out
    have hsh : shV q n = .iface 120 (.agg #[.int .i64 n]) := by rw [h]; rfl
    rw [hsh]
    have HQ : Hid (q = 1) := h
    clear h hsh
    go_wp2_with fail
    go_loopw [8] (fun i wr => ∃ (k : Nat), i = .int .i64 k ∧ 1 ≤ k ∧ k ≤ s ∧ wordsR zs a q k = true ∧ Cells wr w.heap.size 96 (bkC a s q) ∧ Kept w wr) (fun i _ => s - (intOf i).toNat)
    case atStart => exact ⟨1, rfl, Nat.le_refl _, by omega, wordsR_one _ _ _, b2, k2⟩
    case round =>
      obtain ⟨k, rfl, hk1, hks, hok, hb, hK⟩ := hrel
      clear b2 k2
      have HO : Hid (wordsR zs a q k = true) := hok
      have HK : Hid (Kept w wr) := hK
      clear hok
      have cb1 := hb.cell 1
      by_cases hlt : k < s
      · obtain ⟨wd, hwdE⟩ : ∃ wd, wordR zs (roleOf 1 n (k : Nat)) (hz zs (a + k)) = wd := ⟨_, rfl⟩
        have HN : Hid (wordsR zs a q (k + 1) = wd) := by
          show _ = _
          rw [HRN.out k, if_neg (by omega), HO.out, HQ.out, hwdE, Bool.true_and]
        go_wp2_with fail
        go_cut [35] from 23 to 35 (fun t wx => t = .bool (!wd) ∧ Kept wr wx)
        case first =>
          have hbd1 := (hbd k).1
          have hbd2 := (hbd k).2
          have kd : Kept wr wr.drew := (Below.refl _ wr).drew
          have hcw : wr.drew.cell? ⟨bb, off + ((a : Int) + (k : Int)).toNat, none⟩ = some (.int .i64 (hz zs (a + k))) := by
            rw [show ((a : Int) + (k : Int)).toNat = a + k by omega]
            exact ((hK.trans kd).cell (p := ⟨bb, off + (a + k), none⟩) hbb).trans (hwd k hlt)
          have hb0 : wr.drew.cell? ⟨w.heap.size, 0, none⟩ = some (.int .i64 a) := (hb.kept kd).cell 0
          have hix : (a : Int) + (k : Int) < (zs.length : Int) := by omega
          have hix0 : (0 : Int) ≤ (a : Int) + (k : Int) := by omega
          have hixw : IntKind.i64.wrap ((a : Int) + (k : Int)) = (a : Int) + (k : Int) := IntWalk.i64_in _ ⟨by omega, by omega⟩
          have hW := fun (W : World) => wordOk_low W none 0 0 zs (roleOf 1 n (k : Nat)) (hz zs (a + k)) hbd1 hbd2 (roleOf_nn (by omega) _ _) (textRole_low _ _)
          rw [hwdE] at hW
          clear hwdE hbd HN HRN
          go_region_held3 (fun w' => w'.cell? ⟨w.heap.size, 0, none⟩ = some (.int .i64 a) ∧ w'.cell? ⟨bb, off + ((a : Int) + (k : Int)).toNat, none⟩ = some (.int .i64 (hz zs (a + k)))) (first | (refine ⟨?_, ?_⟩ <;> assumption) | go_keep) (first | (go_at_call 136; refine (textRole_ok n _ _ (by omega) (by omega)).mono ?_; rintro e w4 ⟨rfl, hk4⟩; have hcw4 := (hk4.cell (p := ⟨bb, off + ((a : Int) + (k : Int)).toNat, none⟩) (World.block_lt_of_cell? _ _ hcw)).trans hcw; have hb4 := (hk4.cell (p := ⟨w.heap.size, 0, none⟩) (World.block_lt_of_cell? _ _ hb0)).trans hb0) | (go_at_call 109; refine (hW _).mono ?_; rintro e w5 ⟨rfl, rfl⟩))
          all_goals (
            go_wp2_with fail
            go_meet
            exact ⟨rfl, kd.trans hk4⟩)
        case rest =>
        obtain ⟨rfl, hKc⟩ := hcut
        have hbc := hb.kept hKc
        have hkc := hK.trans hKc
        clear hb hK cb1 hwdE
        cases wd with
        | true =>
          go_wp2_with fail
          go_roundw
          case rel => exact ⟨k + 1, by go_num, by omega, by omega, HN.out, hbc, hkc⟩
          case measure => simp [intOf]; omega
        | false =>
          go_wp2
          go_ret
          exact ⟨by rw [HR.out, wordsR_false (show k + 1 ≤ s by omega) HN.out]; rfl, hkc⟩
      · obtain rfl : s = k := by omega
        go_wp2
        go_ret
        exact ⟨by rw [HR.out, HO.out]; rfl, HK.out⟩
/-- A block is a text that is right. -/
def okB (zs : List Int) (a s q : Nat) : Bool := decide (q = 1) && blkR zs a s 1
set_option maxHeartbeats 4000000 in
set_option maxRecDepth 100000 in
theorem textOk_ok (w : World) (ao : Option Addr) (cap : Nat) (zs : List Int) (a s q : Nat) (hI : Ints w ao zs) (hl : zs.length ≤ 1048576) (hle : a + s ≤ zs.length) (hs : 2 ≤ s) :
    Calls Try.prog 94 #[.slice ao zs.length cap, bkV a s q] w fun e w' => e = .returned (.bool (okB zs a s q)) ∧ Kept w w' := by
  have k0 : Kept w (w.alloc (.cells (bkC a s q) 96)) := Kept.alloc (Below.refl _ _) _
  have b0 := Cells.new w 96 (bkC a s q)
  have c2 := b0.cell 2
  have c1 := b0.cell 1
  have c0 := b0.cell 0
  by_cases h : q = 1
  · have hB := blockOk_nil (w.alloc (.cells (bkC a s q) 96)) ao cap zs a s q (hI.kept k0) hl hle hs h
    have HE : Hid (okB zs a s q = blkR zs a s q) := by rw [Hid, okB, h]; simp
    obtain ⟨D, hD⟩ : ∃ D, blkR zs a s q = D := ⟨_, rfl⟩
    rw [hD] at hB HE
    subst h
    clear hI hD
    go_enter Try.func94, Try.ntmps94
    go_wp2_with (go_at_call 76; refine hB.mono ?_; rintro e w1 ⟨rfl, hk1⟩)
    go_ret
    exact ⟨by rw [HE.out]; rfl, k0.trans hk1⟩
  · have HE : Hid (okB zs a s q = false) := by rw [Hid, okB]; simp [h]
    have h1 : ((q : Nat) : Int) ≠ 1 := by omega
    have h2 : (((q : Nat) : Int) == 1) = false := by simp; omega
    clear hI
    go_enter Try.func94, Try.ntmps94
    go_wp2_with fail
    go_ret
    exact ⟨by rw [HE.out]; rfl, k0⟩
end Go.Proofs.Ythkhlmbhickdbaa
