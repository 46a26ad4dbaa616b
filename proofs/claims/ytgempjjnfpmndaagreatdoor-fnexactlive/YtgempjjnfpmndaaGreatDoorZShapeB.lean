/-
  The contracts of Slots, the program's and its model's: the places of the words of a block that are values.
-/
import Derived.Test.YtgempjjnfpmndaaGreatDoorZShapeA
import Derived.Test.YtgempjjnfpmndaaGreatDoorZSlabR
namespace Go.Proofs.YtgempjjnfpmndaaGreatDoor
open Go.RowKit
attribute [local go_sem] Plain.and7 mFree mText mObj mCell mFun mScope

theorem _root_.Go.World.ownsRow.kept4 {W W' : World} {base : Nat} {e : TypeId} {size : Nat} {v : Value} {n : Nat} {xs : List Value} (h : W.ownsRow base e size v n xs) (hk : Kept W W') : W'.ownsRow base e size v n xs := by
  obtain ⟨h1, h2⟩ := h
  refine ⟨h1, ?_⟩
  rcases h2 with h2 | ⟨g, cap, cur, e1, hb, hc, h3⟩
  · exact .inl h2
  · exact .inr ⟨g, cap, cur, e1, hb, (hk.block g (Array.getElem?_eq_some_iff.1 hc).1).trans hc, h3⟩
/-- So many places from one on. -/
def someL (a n : Nat) : List Int := (List.range n).map (fun i => ((a + i : Nat) : Int))
theorem someL_len (a n : Nat) : (someL a n).length = n := by simp [someL]
theorem someL_snoc (a n : Nat) : someL a (n + 1) = someL a n ++ [((a + n : Nat) : Int)] := by simp [someL, List.range_succ]
theorem someL_bd {a n : Nat} (h : a + n ≤ 9223372036854775807) : ∀ z ∈ someL a n, -9223372036854775808 ≤ z ∧ z ≤ 9223372036854775807 := by
  intro z hz
  obtain ⟨i, hi, rfl⟩ := List.mem_map.1 hz
  have := List.mem_range.1 hi
  omega
/-- Where the values of a block begin, and how many there are at most. -/
def slOff (kind : Nat) : Nat := if kind = 4 then 2 else 1
def slMany (kind : Nat) : Nat := match kind with | 2 => 2 | 3 => 3 | 4 => 1 | 5 => 4194304 | _ => 0
/-- The values among the words of a block up to word k. -/
def slL (a kind k : Nat) : List Int := someL (a + slOff kind) (min (slMany kind) (k - slOff kind))
theorem slL_yes {a kind k : Nat} (h1 : slOff kind ≤ k) (h2 : k < slOff kind + slMany kind) : slL a kind (k + 1) = slL a kind k ++ [((a : Int) + (k : Int))] := by
  unfold slL
  rw [show min (slMany kind) (k + 1 - slOff kind) = min (slMany kind) (k - slOff kind) + 1 by omega, someL_snoc, show a + slOff kind + min (slMany kind) (k - slOff kind) = a + k by omega]
  simp
theorem slL_no {a kind k : Nat} (h : ¬ (slOff kind ≤ k ∧ k < slOff kind + slMany kind)) : slL a kind (k + 1) = slL a kind k := by
  unfold slL
  rw [show min (slMany kind) (k + 1 - slOff kind) = min (slMany kind) (k - slOff kind) by omega]
theorem slL_one (a kind : Nat) : slL a kind 1 = [] := by
  unfold slL slOff
  split <;> simp [someL]
theorem slL_len (a kind k : Nat) : (slL a kind k).length ≤ k := by rw [slL, someL_len]; omega
theorem slL_bd {a kind k : Nat} (h : a + k ≤ 2097152) : ∀ z ∈ slL a kind k, -9223372036854775808 ≤ z ∧ z ≤ 9223372036854775807 :=
  someL_bd (by have : slOff kind ≤ 2 := by unfold slOff; split <;> omega
               omega)
theorem role_value {kind : Nat} (hq : kind ≤ 5) (n : Int) {k : Nat} (h1 : 1 ≤ k) (h2 : k ≤ 1048576) : (decide (5 ≤ roleOf kind n (k : Int))) = decide (slOff kind ≤ k ∧ k < slOff kind + slMany kind) := by
  rcases (show kind = 0 ∨ kind = 1 ∨ kind = 2 ∨ kind = 3 ∨ kind = 4 ∨ kind = 5 by omega) with rfl | rfl | rfl | rfl | rfl | rfl
  all_goals (
    simp only [roleOf, slOff, slMany]
    rw [Bool.eq_iff_iff]
    simp only [decide_eq_true_eq]
    repeat' split
    all_goals first | omega | (simp; omega) | simp_all)
/-- What Slots tells. -/
def slotsL (zs : List Int) (a : Int) : List Int := match atB zs a with | some b => slL b.1.at' b.1.kind b.1.size | none => []

set_option maxHeartbeats 2000000 in
theorem l3Some_ok (w : World) (fr : Nat) (many most : Int) (n : Nat) (hn : (n : Int) = max 0 (min many most)) (hb : fr + n ≤ 2097152) :
    Calls Tryz.prog 122 #[.int .i64 fr, .int .i64 many, .int .i64 most] w fun e w' => ∃ v, e = .returned v ∧ OwnL w' w.heap.size v (someL fr n) ∧ Kept w w' := by
  obtain ⟨i0, hi, hz0, hz1, hz2⟩ := info_parts infoI
  have HN : Hid ((n : Int) = max 0 (min many most)) := hn
  have k0 : Kept w (w.alloc (.cells #[] 3)) := Kept.alloc (Below.refl _ _) _
  have o0 : (w.alloc (.cells #[] 3)).ownsRow w.heap.size 3 1 (.slice (some ⟨w.heap.size, 0, none⟩) 0 0) 0 [] := by
    have := World.ownsRow_made (base := w.heap.size) (e := 3) (size := 1) w #[] 0 (by simp) (by unfold maxLen; omega) (by simp)
    simpa using this
  clear hn
  go_enter Tryz.func122, Tryz.ntmps122
  go_wp2
  go_loopw [7, 8] (fun v i wr => ∃ (k : Nat), i = .int .i64 k ∧ k ≤ n ∧ wr.ownsRow w.heap.size 3 1 v (someL fr k).length ((someL fr k).map (Value.int .i64)) ∧ Kept w wr ∧ w.heap.size ≤ wr.heap.size)
    (fun _ i _ => n - (intOf i).toNat)
  case atStart => exact ⟨0, rfl, Nat.zero_le _, o0, k0, by simp⟩
  case round =>
    obtain ⟨k, rfl, hk, hrow, hK, hsz⟩ := hrel
    clear o0 k0
    have hln := someL_len fr k
    by_cases hlt : k < n
    · have h1 : (k : Int) < many := by have := HN.out; omega
      have h2 : (k : Int) < most := by have := HN.out; omega
      have HK : Hid (Kept w wr) := hK
      clear hK
      go_wp2_with (first | (at_builtin; refine wpList_append_own _ rfl _ _ 26 rfl w.heap.size 3 i0 (.int .i64 0) 1 8 Tryz.underlying26 hi hz0 hz1 hz2 rfl (by decide) _ _ _ rfl (hrow.alloc _) ⟨wr.heap.size, 0, none⟩ 1 1 [.int .i64 ((fr : Int) + (k : Int))] rfl rfl (cell_one_new _ _ _) (by simp [Value.oneCell']) (by unfold maxLen; omega) (by omega) (by simp; omega) ?_; intro v' w1 hown' hgrow _; have kk : Below w.heap.size wr w1 := ((Below.refl _ wr).alloc hsz _).grown hgrow (by simp; omega) (fun j ej => (hrow.lt j ej).1)))
      go_roundw
      case rel => exact ⟨k + 1, by go_num, by omega, by rw [someL_snoc]; simpa using hown', Below.trans HK.out (kk.mono (by omega)), Nat.le_trans hsz kk.size⟩
      case measure => simp [intOf]; omega
    · obtain rfl : n = k := by omega
      have hd : ¬ ((n : Int) < many ∧ (n : Int) < most) := by have := HN.out; omega
      have HK : Hid (Kept w wr) := hK
      clear hK
      rcases (show ¬ (n : Int) < many ∨ ((n : Int) < many ∧ ¬ (n : Int) < most) by omega) with h | ⟨h, h'⟩
      all_goals (
        clear hd
        go_wp2
        go_ret
        exact ⟨_, rfl, ⟨someL_bd (by omega), hrow⟩, HK.out⟩)
set_option maxHeartbeats 4000000 in
set_option maxRecDepth 100000 in
theorem slotsOf_ok (w : World) (ao : Option Addr) (cap : Nat) (zs : List Int) (at' s q : Nat) (hI : Ints w ao zs) (hl : zs.length ≤ 1048576) (hle : at' + s ≤ zs.length) (hs2 : 2 ≤ s) (hq : q ≤ 5) :
    Calls Tryz.prog 133 #[.slice ao zs.length cap, bkV at' s q] w fun e w' => ∃ v, e = .returned v ∧ OwnL w' w.heap.size v (slL at' q s) ∧ Kept w w' := by
  obtain ⟨i0, hi, hz0, hz1, hz2⟩ := info_parts infoI
  have k0 : Kept w (w.alloc (.cells (bkC at' s q) 74)) := Kept.alloc (Below.refl _ _) _
  have x0 := Cells.new w 74 (bkC at' s q)
  have hSh := shapeOf_ok _ ao cap zs at' s q (hI.kept k0) hl hle hs2 hq
  clear hI
  go_enter Tryz.func133, Tryz.ntmps133
  go_wp2_with fail
  refine hSh.mono ?_
  rintro e w3 ⟨rfl, hk3⟩
  have x5a := x0.kept hk3
  have k3 := k0.trans hk3
  obtain ⟨n0, hn0⟩ : ∃ n0, hz zs (at' + 1) = n0 := ⟨_, rfl⟩
  rw [hn0]
  have hs1 := k3.size
  have hs3 : w.heap.size < w3.heap.size := x5a.lt
  clear hn0 hk3 k0 x0 hSh
  rcases (show q = 0 ∨ q = 1 ∨ q = 2 ∨ q = 3 ∨ q = 4 ∨ q = 5 by omega) with h | h | h | h | h | h
  · have hsh : shV q n0 = .iface 210 (.agg #[]) := by rw [h]; rfl
    rw [hsh]
    have HQ : Hid (q = 0) := h
    clear h hsh
    go_wp2_with fail
    go_loopw [5, 7] (fun v i wr => ∃ (k : Nat), i = .int .i64 k ∧ 1 ≤ k ∧ k ≤ s ∧ wr.ownsRow w3.heap.size 3 1 v (slL at' q k).length ((slL at' q k).map (Value.int .i64)) ∧ Cells wr w.heap.size 74 (bkC at' s q) ∧ Kept w wr ∧ w3.heap.size ≤ wr.heap.size)
      (fun _ i _ => s - (intOf i).toNat)
    case atStart => exact ⟨1, rfl, Nat.le_refl _, by omega, by rw [slL_one]; exact ⟨by simp, .inl ⟨rfl, rfl⟩⟩, x5a, k3, Nat.le_refl _⟩
    case round =>
      obtain ⟨k, rfl, hk1, hks, hrow, hb, hK, hsz⟩ := hrel
      clear x5a k3
      have hln := slL_len at' q k
      have cb := hb.cell 1
      have lb := hb.lt
      have HK : Hid (Kept w wr) := hK
      clear hK
      by_cases hlt : k < s
      · have hrv := role_value hq n0 hk1 (by omega)
        by_cases hv : slOff q ≤ k ∧ k < slOff q + slMany q
        · have hdec : decide (5 ≤ roleOf 0 n0 (k : Int)) = true := by rw [← HQ.out, hrv]; simpa using hv
          have HL : Hid (slL at' q (k + 1) = slL at' q k ++ [((at' : Int) + (k : Int))]) := slL_yes hv.1 hv.2
          clear hrv hv
          go_wp2_with (first | (go_at_call 225; refine (freeRole_ok n0 _ _).mono ?_; rintro e w4 ⟨rfl, hk4⟩; have hK4 := HK.out.trans hk4; have hb4 := hb.kept hk4; have cb4 := hb4.cell 1; have ca4 := hb4.cell 0; have lb4 := hb4.lt; have hrow4 := hrow.kept4 hk4; have hsz4 := Nat.le_trans hsz hk4.size) | (go_at_call 164; refine (isValue_ok _ _).mono ?_; rintro e wx ⟨rfl, rfl⟩) | (at_builtin; refine wpList_append_own _ rfl _ _ 26 rfl w3.heap.size 3 i0 (.int .i64 0) 1 8 Tryz.underlying26 hi hz0 hz1 hz2 rfl (by decide) _ _ _ rfl (hrow4.alloc _) ⟨w4.heap.size, 0, none⟩ 1 1 [.int .i64 ((at' : Int) + (k : Int))] rfl rfl (cell_one_new _ _ _) (by simp [Value.oneCell']) (by unfold maxLen; omega) (by omega) (by simp; omega) ?_; intro v' w5 hown' hgrow _; have kk : Below w3.heap.size w4 w5 := ((Below.refl _ w4).alloc hsz4 _).grown hgrow (by simp; omega) (fun j ej => (hrow4.lt j ej).1)))
          go_roundw
          case rel => exact ⟨k + 1, by go_num, by omega, by omega, by rw [HL.out]; simpa using hown', (kk.block w.heap.size (by omega)).trans hb4, Below.trans hK4 (kk.mono (by omega)), Nat.le_trans hsz4 kk.size⟩
          case measure => simp [intOf]; omega
        · have hdec : decide (5 ≤ roleOf 0 n0 (k : Int)) = false := by rw [← HQ.out, hrv]; simpa using hv
          have HL : Hid (slL at' q (k + 1) = slL at' q k) := slL_no hv
          clear hrv hv
          go_wp2_with (first | (go_at_call 225; refine (freeRole_ok n0 _ _).mono ?_; rintro e w4 ⟨rfl, hk4⟩; have hK4 := HK.out.trans hk4; have hb4 := hb.kept hk4; have cb4 := hb4.cell 1; have ca4 := hb4.cell 0; have lb4 := hb4.lt; have hrow4 := hrow.kept4 hk4; have hsz4 := Nat.le_trans hsz hk4.size) | (go_at_call 164; refine (isValue_ok _ _).mono ?_; rintro e wx ⟨rfl, rfl⟩))
          go_roundw
          case rel => exact ⟨k + 1, by go_num, by omega, by omega, by rw [HL.out]; exact hrow4, hb4, hK4, hsz4⟩
          case measure => simp [intOf]; omega
      · obtain rfl : s = k := by omega
        go_wp2
        go_ret
        exact ⟨_, rfl, ⟨slL_bd (by omega), ownsRow_base hrow (by omega)⟩, HK.out⟩
  · have hsh : shV q n0 = .iface 204 (.agg #[.int .i64 n0]) := by rw [h]; rfl
    rw [hsh]
    have HQ : Hid (q = 1) := h
    clear h hsh
    go_wp2_with fail
    go_loopw [5, 7] (fun v i wr => ∃ (k : Nat), i = .int .i64 k ∧ 1 ≤ k ∧ k ≤ s ∧ wr.ownsRow w3.heap.size 3 1 v (slL at' q k).length ((slL at' q k).map (Value.int .i64)) ∧ Cells wr w.heap.size 74 (bkC at' s q) ∧ Kept w wr ∧ w3.heap.size ≤ wr.heap.size)
      (fun _ i _ => s - (intOf i).toNat)
    case atStart => exact ⟨1, rfl, Nat.le_refl _, by omega, by rw [slL_one]; exact ⟨by simp, .inl ⟨rfl, rfl⟩⟩, x5a, k3, Nat.le_refl _⟩
    case round =>
      obtain ⟨k, rfl, hk1, hks, hrow, hb, hK, hsz⟩ := hrel
      clear x5a k3
      have hln := slL_len at' q k
      have cb := hb.cell 1
      have lb := hb.lt
      have HK : Hid (Kept w wr) := hK
      clear hK
      by_cases hlt : k < s
      · have hrv := role_value hq n0 hk1 (by omega)
        by_cases hv : slOff q ≤ k ∧ k < slOff q + slMany q
        · have hdec : decide (5 ≤ roleOf 1 n0 (k : Int)) = true := by rw [← HQ.out, hrv]; simpa using hv
          have HL : Hid (slL at' q (k + 1) = slL at' q k ++ [((at' : Int) + (k : Int))]) := slL_yes hv.1 hv.2
          clear hrv hv
          go_wp2_with (first | (go_at_call 220; refine (textRole_ok n0 _ _ (by omega) (by omega)).mono ?_; rintro e w4 ⟨rfl, hk4⟩; have hK4 := HK.out.trans hk4; have hb4 := hb.kept hk4; have cb4 := hb4.cell 1; have ca4 := hb4.cell 0; have lb4 := hb4.lt; have hrow4 := hrow.kept4 hk4; have hsz4 := Nat.le_trans hsz hk4.size) | (go_at_call 164; refine (isValue_ok _ _).mono ?_; rintro e wx ⟨rfl, rfl⟩) | (at_builtin; refine wpList_append_own _ rfl _ _ 26 rfl w3.heap.size 3 i0 (.int .i64 0) 1 8 Tryz.underlying26 hi hz0 hz1 hz2 rfl (by decide) _ _ _ rfl (hrow4.alloc _) ⟨w4.heap.size, 0, none⟩ 1 1 [.int .i64 ((at' : Int) + (k : Int))] rfl rfl (cell_one_new _ _ _) (by simp [Value.oneCell']) (by unfold maxLen; omega) (by omega) (by simp; omega) ?_; intro v' w5 hown' hgrow _; have kk : Below w3.heap.size w4 w5 := ((Below.refl _ w4).alloc hsz4 _).grown hgrow (by simp; omega) (fun j ej => (hrow4.lt j ej).1)))
          go_roundw
          case rel => exact ⟨k + 1, by go_num, by omega, by omega, by rw [HL.out]; simpa using hown', (kk.block w.heap.size (by omega)).trans hb4, Below.trans hK4 (kk.mono (by omega)), Nat.le_trans hsz4 kk.size⟩
          case measure => simp [intOf]; omega
        · have hdec : decide (5 ≤ roleOf 1 n0 (k : Int)) = false := by rw [← HQ.out, hrv]; simpa using hv
          have HL : Hid (slL at' q (k + 1) = slL at' q k) := slL_no hv
          clear hrv hv
          go_wp2_with (first | (go_at_call 220; refine (textRole_ok n0 _ _ (by omega) (by omega)).mono ?_; rintro e w4 ⟨rfl, hk4⟩; have hK4 := HK.out.trans hk4; have hb4 := hb.kept hk4; have cb4 := hb4.cell 1; have ca4 := hb4.cell 0; have lb4 := hb4.lt; have hrow4 := hrow.kept4 hk4; have hsz4 := Nat.le_trans hsz hk4.size) | (go_at_call 164; refine (isValue_ok _ _).mono ?_; rintro e wx ⟨rfl, rfl⟩))
          go_roundw
          case rel => exact ⟨k + 1, by go_num, by omega, by omega, by rw [HL.out]; exact hrow4, hb4, hK4, hsz4⟩
          case measure => simp [intOf]; omega
      · obtain rfl : s = k := by omega
        go_wp2
        go_ret
        exact ⟨_, rfl, ⟨slL_bd (by omega), ownsRow_base hrow (by omega)⟩, HK.out⟩
  · have hsh : shV q n0 = .iface 206 (.agg #[]) := by rw [h]; rfl
    rw [hsh]
    have HQ : Hid (q = 2) := h
    clear h hsh
    go_wp2_with fail
    go_loopw [5, 7] (fun v i wr => ∃ (k : Nat), i = .int .i64 k ∧ 1 ≤ k ∧ k ≤ s ∧ wr.ownsRow w3.heap.size 3 1 v (slL at' q k).length ((slL at' q k).map (Value.int .i64)) ∧ Cells wr w.heap.size 74 (bkC at' s q) ∧ Kept w wr ∧ w3.heap.size ≤ wr.heap.size)
      (fun _ i _ => s - (intOf i).toNat)
    case atStart => exact ⟨1, rfl, Nat.le_refl _, by omega, by rw [slL_one]; exact ⟨by simp, .inl ⟨rfl, rfl⟩⟩, x5a, k3, Nat.le_refl _⟩
    case round =>
      obtain ⟨k, rfl, hk1, hks, hrow, hb, hK, hsz⟩ := hrel
      clear x5a k3
      have hln := slL_len at' q k
      have cb := hb.cell 1
      have lb := hb.lt
      have HK : Hid (Kept w wr) := hK
      clear hK
      by_cases hlt : k < s
      · have hrv := role_value hq n0 hk1 (by omega)
        by_cases hv : slOff q ≤ k ∧ k < slOff q + slMany q
        · have hdec : decide (5 ≤ roleOf 2 n0 (k : Int)) = true := by rw [← HQ.out, hrv]; simpa using hv
          have HL : Hid (slL at' q (k + 1) = slL at' q k ++ [((at' : Int) + (k : Int))]) := slL_yes hv.1 hv.2
          clear hrv hv
          go_wp2_with (first | (go_at_call 221; refine (objRole_ok n0 _ _).mono ?_; rintro e w4 ⟨rfl, hk4⟩; have hK4 := HK.out.trans hk4; have hb4 := hb.kept hk4; have cb4 := hb4.cell 1; have ca4 := hb4.cell 0; have lb4 := hb4.lt; have hrow4 := hrow.kept4 hk4; have hsz4 := Nat.le_trans hsz hk4.size) | (go_at_call 164; refine (isValue_ok _ _).mono ?_; rintro e wx ⟨rfl, rfl⟩) | (at_builtin; refine wpList_append_own _ rfl _ _ 26 rfl w3.heap.size 3 i0 (.int .i64 0) 1 8 Tryz.underlying26 hi hz0 hz1 hz2 rfl (by decide) _ _ _ rfl (hrow4.alloc _) ⟨w4.heap.size, 0, none⟩ 1 1 [.int .i64 ((at' : Int) + (k : Int))] rfl rfl (cell_one_new _ _ _) (by simp [Value.oneCell']) (by unfold maxLen; omega) (by omega) (by simp; omega) ?_; intro v' w5 hown' hgrow _; have kk : Below w3.heap.size w4 w5 := ((Below.refl _ w4).alloc hsz4 _).grown hgrow (by simp; omega) (fun j ej => (hrow4.lt j ej).1)))
          go_roundw
          case rel => exact ⟨k + 1, by go_num, by omega, by omega, by rw [HL.out]; simpa using hown', (kk.block w.heap.size (by omega)).trans hb4, Below.trans hK4 (kk.mono (by omega)), Nat.le_trans hsz4 kk.size⟩
          case measure => simp [intOf]; omega
        · have hdec : decide (5 ≤ roleOf 2 n0 (k : Int)) = false := by rw [← HQ.out, hrv]; simpa using hv
          have HL : Hid (slL at' q (k + 1) = slL at' q k) := slL_no hv
          clear hrv hv
          go_wp2_with (first | (go_at_call 221; refine (objRole_ok n0 _ _).mono ?_; rintro e w4 ⟨rfl, hk4⟩; have hK4 := HK.out.trans hk4; have hb4 := hb.kept hk4; have cb4 := hb4.cell 1; have ca4 := hb4.cell 0; have lb4 := hb4.lt; have hrow4 := hrow.kept4 hk4; have hsz4 := Nat.le_trans hsz hk4.size) | (go_at_call 164; refine (isValue_ok _ _).mono ?_; rintro e wx ⟨rfl, rfl⟩))
          go_roundw
          case rel => exact ⟨k + 1, by go_num, by omega, by omega, by rw [HL.out]; exact hrow4, hb4, hK4, hsz4⟩
          case measure => simp [intOf]; omega
      · obtain rfl : s = k := by omega
        go_wp2
        go_ret
        exact ⟨_, rfl, ⟨slL_bd (by omega), ownsRow_base hrow (by omega)⟩, HK.out⟩
  · have hsh : shV q n0 = .iface 207 (.agg #[]) := by rw [h]; rfl
    rw [hsh]
    have HQ : Hid (q = 3) := h
    clear h hsh
    go_wp2_with fail
    go_loopw [5, 7] (fun v i wr => ∃ (k : Nat), i = .int .i64 k ∧ 1 ≤ k ∧ k ≤ s ∧ wr.ownsRow w3.heap.size 3 1 v (slL at' q k).length ((slL at' q k).map (Value.int .i64)) ∧ Cells wr w.heap.size 74 (bkC at' s q) ∧ Kept w wr ∧ w3.heap.size ≤ wr.heap.size)
      (fun _ i _ => s - (intOf i).toNat)
    case atStart => exact ⟨1, rfl, Nat.le_refl _, by omega, by rw [slL_one]; exact ⟨by simp, .inl ⟨rfl, rfl⟩⟩, x5a, k3, Nat.le_refl _⟩
    case round =>
      obtain ⟨k, rfl, hk1, hks, hrow, hb, hK, hsz⟩ := hrel
      clear x5a k3
      have hln := slL_len at' q k
      have cb := hb.cell 1
      have lb := hb.lt
      have HK : Hid (Kept w wr) := hK
      clear hK
      by_cases hlt : k < s
      · have hrv := role_value hq n0 hk1 (by omega)
        by_cases hv : slOff q ≤ k ∧ k < slOff q + slMany q
        · have hdec : decide (5 ≤ roleOf 3 n0 (k : Int)) = true := by rw [← HQ.out, hrv]; simpa using hv
          have HL : Hid (slL at' q (k + 1) = slL at' q k ++ [((at' : Int) + (k : Int))]) := slL_yes hv.1 hv.2
          clear hrv hv
          go_wp2_with (first | (go_at_call 222; refine (cellRole_ok n0 _ _).mono ?_; rintro e w4 ⟨rfl, hk4⟩; have hK4 := HK.out.trans hk4; have hb4 := hb.kept hk4; have cb4 := hb4.cell 1; have ca4 := hb4.cell 0; have lb4 := hb4.lt; have hrow4 := hrow.kept4 hk4; have hsz4 := Nat.le_trans hsz hk4.size) | (go_at_call 164; refine (isValue_ok _ _).mono ?_; rintro e wx ⟨rfl, rfl⟩) | (at_builtin; refine wpList_append_own _ rfl _ _ 26 rfl w3.heap.size 3 i0 (.int .i64 0) 1 8 Tryz.underlying26 hi hz0 hz1 hz2 rfl (by decide) _ _ _ rfl (hrow4.alloc _) ⟨w4.heap.size, 0, none⟩ 1 1 [.int .i64 ((at' : Int) + (k : Int))] rfl rfl (cell_one_new _ _ _) (by simp [Value.oneCell']) (by unfold maxLen; omega) (by omega) (by simp; omega) ?_; intro v' w5 hown' hgrow _; have kk : Below w3.heap.size w4 w5 := ((Below.refl _ w4).alloc hsz4 _).grown hgrow (by simp; omega) (fun j ej => (hrow4.lt j ej).1)))
          go_roundw
          case rel => exact ⟨k + 1, by go_num, by omega, by omega, by rw [HL.out]; simpa using hown', (kk.block w.heap.size (by omega)).trans hb4, Below.trans hK4 (kk.mono (by omega)), Nat.le_trans hsz4 kk.size⟩
          case measure => simp [intOf]; omega
        · have hdec : decide (5 ≤ roleOf 3 n0 (k : Int)) = false := by rw [← HQ.out, hrv]; simpa using hv
          have HL : Hid (slL at' q (k + 1) = slL at' q k) := slL_no hv
          clear hrv hv
          go_wp2_with (first | (go_at_call 222; refine (cellRole_ok n0 _ _).mono ?_; rintro e w4 ⟨rfl, hk4⟩; have hK4 := HK.out.trans hk4; have hb4 := hb.kept hk4; have cb4 := hb4.cell 1; have ca4 := hb4.cell 0; have lb4 := hb4.lt; have hrow4 := hrow.kept4 hk4; have hsz4 := Nat.le_trans hsz hk4.size) | (go_at_call 164; refine (isValue_ok _ _).mono ?_; rintro e wx ⟨rfl, rfl⟩))
          go_roundw
          case rel => exact ⟨k + 1, by go_num, by omega, by omega, by rw [HL.out]; exact hrow4, hb4, hK4, hsz4⟩
          case measure => simp [intOf]; omega
      · obtain rfl : s = k := by omega
        go_wp2
        go_ret
        exact ⟨_, rfl, ⟨slL_bd (by omega), ownsRow_base hrow (by omega)⟩, HK.out⟩
  · have hsh : shV q n0 = .iface 208 (.agg #[]) := by rw [h]; rfl
    rw [hsh]
    have HQ : Hid (q = 4) := h
    clear h hsh
    go_wp2_with fail
    go_loopw [5, 7] (fun v i wr => ∃ (k : Nat), i = .int .i64 k ∧ 1 ≤ k ∧ k ≤ s ∧ wr.ownsRow w3.heap.size 3 1 v (slL at' q k).length ((slL at' q k).map (Value.int .i64)) ∧ Cells wr w.heap.size 74 (bkC at' s q) ∧ Kept w wr ∧ w3.heap.size ≤ wr.heap.size)
      (fun _ i _ => s - (intOf i).toNat)
    case atStart => exact ⟨1, rfl, Nat.le_refl _, by omega, by rw [slL_one]; exact ⟨by simp, .inl ⟨rfl, rfl⟩⟩, x5a, k3, Nat.le_refl _⟩
    case round =>
      obtain ⟨k, rfl, hk1, hks, hrow, hb, hK, hsz⟩ := hrel
      clear x5a k3
      have hln := slL_len at' q k
      have cb := hb.cell 1
      have lb := hb.lt
      have HK : Hid (Kept w wr) := hK
      clear hK
      by_cases hlt : k < s
      · have hrv := role_value hq n0 hk1 (by omega)
        by_cases hv : slOff q ≤ k ∧ k < slOff q + slMany q
        · have hdec : decide (5 ≤ roleOf 4 n0 (k : Int)) = true := by rw [← HQ.out, hrv]; simpa using hv
          have HL : Hid (slL at' q (k + 1) = slL at' q k ++ [((at' : Int) + (k : Int))]) := slL_yes hv.1 hv.2
          clear hrv hv
          go_wp2_with (first | (go_at_call 223; refine (funRole_ok n0 _ _).mono ?_; rintro e w4 ⟨rfl, hk4⟩; have hK4 := HK.out.trans hk4; have hb4 := hb.kept hk4; have cb4 := hb4.cell 1; have ca4 := hb4.cell 0; have lb4 := hb4.lt; have hrow4 := hrow.kept4 hk4; have hsz4 := Nat.le_trans hsz hk4.size) | (go_at_call 164; refine (isValue_ok _ _).mono ?_; rintro e wx ⟨rfl, rfl⟩) | (at_builtin; refine wpList_append_own _ rfl _ _ 26 rfl w3.heap.size 3 i0 (.int .i64 0) 1 8 Tryz.underlying26 hi hz0 hz1 hz2 rfl (by decide) _ _ _ rfl (hrow4.alloc _) ⟨w4.heap.size, 0, none⟩ 1 1 [.int .i64 ((at' : Int) + (k : Int))] rfl rfl (cell_one_new _ _ _) (by simp [Value.oneCell']) (by unfold maxLen; omega) (by omega) (by simp; omega) ?_; intro v' w5 hown' hgrow _; have kk : Below w3.heap.size w4 w5 := ((Below.refl _ w4).alloc hsz4 _).grown hgrow (by simp; omega) (fun j ej => (hrow4.lt j ej).1)))
          go_roundw
          case rel => exact ⟨k + 1, by go_num, by omega, by omega, by rw [HL.out]; simpa using hown', (kk.block w.heap.size (by omega)).trans hb4, Below.trans hK4 (kk.mono (by omega)), Nat.le_trans hsz4 kk.size⟩
          case measure => simp [intOf]; omega
        · have hdec : decide (5 ≤ roleOf 4 n0 (k : Int)) = false := by rw [← HQ.out, hrv]; simpa using hv
          have HL : Hid (slL at' q (k + 1) = slL at' q k) := slL_no hv
          clear hrv hv
          go_wp2_with (first | (go_at_call 223; refine (funRole_ok n0 _ _).mono ?_; rintro e w4 ⟨rfl, hk4⟩; have hK4 := HK.out.trans hk4; have hb4 := hb.kept hk4; have cb4 := hb4.cell 1; have ca4 := hb4.cell 0; have lb4 := hb4.lt; have hrow4 := hrow.kept4 hk4; have hsz4 := Nat.le_trans hsz hk4.size) | (go_at_call 164; refine (isValue_ok _ _).mono ?_; rintro e wx ⟨rfl, rfl⟩))
          go_roundw
          case rel => exact ⟨k + 1, by go_num, by omega, by omega, by rw [HL.out]; exact hrow4, hb4, hK4, hsz4⟩
          case measure => simp [intOf]; omega
      · obtain rfl : s = k := by omega
        go_wp2
        go_ret
        exact ⟨_, rfl, ⟨slL_bd (by omega), ownsRow_base hrow (by omega)⟩, HK.out⟩
  · have hsh : shV q n0 = .iface 209 (.agg #[]) := by rw [h]; rfl
    rw [hsh]
    have HQ : Hid (q = 5) := h
    clear h hsh
    go_wp2_with fail
    go_loopw [5, 7] (fun v i wr => ∃ (k : Nat), i = .int .i64 k ∧ 1 ≤ k ∧ k ≤ s ∧ wr.ownsRow w3.heap.size 3 1 v (slL at' q k).length ((slL at' q k).map (Value.int .i64)) ∧ Cells wr w.heap.size 74 (bkC at' s q) ∧ Kept w wr ∧ w3.heap.size ≤ wr.heap.size)
      (fun _ i _ => s - (intOf i).toNat)
    case atStart => exact ⟨1, rfl, Nat.le_refl _, by omega, by rw [slL_one]; exact ⟨by simp, .inl ⟨rfl, rfl⟩⟩, x5a, k3, Nat.le_refl _⟩
    case round =>
      obtain ⟨k, rfl, hk1, hks, hrow, hb, hK, hsz⟩ := hrel
      clear x5a k3
      have hln := slL_len at' q k
      have cb := hb.cell 1
      have lb := hb.lt
      have HK : Hid (Kept w wr) := hK
      clear hK
      by_cases hlt : k < s
      · have hrv := role_value hq n0 hk1 (by omega)
        by_cases hv : slOff q ≤ k ∧ k < slOff q + slMany q
        · have hdec : decide (5 ≤ roleOf 5 n0 (k : Int)) = true := by rw [← HQ.out, hrv]; simpa using hv
          have HL : Hid (slL at' q (k + 1) = slL at' q k ++ [((at' : Int) + (k : Int))]) := slL_yes hv.1 hv.2
          clear hrv hv
          go_wp2_with (first | (go_at_call 224; refine (scopeRole_ok n0 _ _).mono ?_; rintro e w4 ⟨rfl, hk4⟩; have hK4 := HK.out.trans hk4; have hb4 := hb.kept hk4; have cb4 := hb4.cell 1; have ca4 := hb4.cell 0; have lb4 := hb4.lt; have hrow4 := hrow.kept4 hk4; have hsz4 := Nat.le_trans hsz hk4.size) | (go_at_call 164; refine (isValue_ok _ _).mono ?_; rintro e wx ⟨rfl, rfl⟩) | (at_builtin; refine wpList_append_own _ rfl _ _ 26 rfl w3.heap.size 3 i0 (.int .i64 0) 1 8 Tryz.underlying26 hi hz0 hz1 hz2 rfl (by decide) _ _ _ rfl (hrow4.alloc _) ⟨w4.heap.size, 0, none⟩ 1 1 [.int .i64 ((at' : Int) + (k : Int))] rfl rfl (cell_one_new _ _ _) (by simp [Value.oneCell']) (by unfold maxLen; omega) (by omega) (by simp; omega) ?_; intro v' w5 hown' hgrow _; have kk : Below w3.heap.size w4 w5 := ((Below.refl _ w4).alloc hsz4 _).grown hgrow (by simp; omega) (fun j ej => (hrow4.lt j ej).1)))
          go_roundw
          case rel => exact ⟨k + 1, by go_num, by omega, by omega, by rw [HL.out]; simpa using hown', (kk.block w.heap.size (by omega)).trans hb4, Below.trans hK4 (kk.mono (by omega)), Nat.le_trans hsz4 kk.size⟩
          case measure => simp [intOf]; omega
        · have hdec : decide (5 ≤ roleOf 5 n0 (k : Int)) = false := by rw [← HQ.out, hrv]; simpa using hv
          have HL : Hid (slL at' q (k + 1) = slL at' q k) := slL_no hv
          clear hrv hv
          go_wp2_with (first | (go_at_call 224; refine (scopeRole_ok n0 _ _).mono ?_; rintro e w4 ⟨rfl, hk4⟩; have hK4 := HK.out.trans hk4; have hb4 := hb.kept hk4; have cb4 := hb4.cell 1; have ca4 := hb4.cell 0; have lb4 := hb4.lt; have hrow4 := hrow.kept4 hk4; have hsz4 := Nat.le_trans hsz hk4.size) | (go_at_call 164; refine (isValue_ok _ _).mono ?_; rintro e wx ⟨rfl, rfl⟩))
          go_roundw
          case rel => exact ⟨k + 1, by go_num, by omega, by omega, by rw [HL.out]; exact hrow4, hb4, hK4, hsz4⟩
          case measure => simp [intOf]; omega
      · obtain rfl : s = k := by omega
        go_wp2
        go_ret
        exact ⟨_, rfl, ⟨slL_bd (by omega), ownsRow_base hrow (by omega)⟩, HK.out⟩
set_option maxHeartbeats 4000000 in
set_option maxRecDepth 100000 in
theorem l3Slots_ok (w : World) (ao : Option Addr) (cap : Nat) (zs : List Int) (a : Nat) (hI : Ints w ao zs) (hl : zs.length ≤ 1048576) (hg : Good zs a) :
    Calls Tryz.prog 77 #[.agg #[.slice ao zs.length cap], .int .i64 a] w fun e w' => ∃ v, e = .returned v ∧ OwnL w' w.heap.size v (slL a (kd zs a) (sz zs a)) ∧ Kept w w' := by
  have b0 := Cells.new w 39 #[.slice ao zs.length cap]
  have k0 : Kept w (w.alloc (.cells #[.slice ao zs.length cap] 39)) := Kept.alloc (Below.refl _ _) _
  have hlt := hg.lt
  obtain ⟨b, off, rfl, hc⟩ := hI.at hlt
  have hck := hc a hlt
  have hbl : b < w.heap.size := World.block_lt_of_cell? _ _ hck
  have hs := hg.szI
  have hq := kdI zs a
  have hle := hg.le
  have hs2 := hg.sz2
  have hk5 := hg.kd5
  have hltI : (a : Int) < (zs.length : Int) := by omega
  obtain ⟨s, hsE⟩ : ∃ s, sz zs a = s := ⟨_, rfl⟩
  obtain ⟨q, hqE⟩ : ∃ q, kd zs a = q := ⟨_, rfl⟩
  rw [hsE] at hs hle hs2
  rw [hqE] at hq hk5
  have HR : Hid (slL a (kd zs a) (sz zs a) = slL a q s) := by show _ = _; rw [hsE, hqE]
  have hz8 : hz zs a / 8 = (s : Int) := hs.symm
  have hz9 : hz zs a % 8 = (q : Int) := hq.symm
  clear hc hI hg hsE hqE hs hq
  rcases (show (q = 0 ∨ q = 1) ∨ q = 2 ∨ q = 3 ∨ q = 4 ∨ q = 5 by omega) with h | h | h | h | h
  · have HS : Hid (slL a q s = []) := by show _ = _; rcases h with rfl | rfl <;> simp [slL, slMany, someL]
    have hz9' : hz zs a % 8 ≤ 1 := by omega
    have hz90 : 0 ≤ hz zs a % 8 := by omega
    have e2 : (hz zs a % 8 == 2) = false := by simp; omega
    have e3 : (hz zs a % 8 == 3) = false := by simp; omega
    have e4 : (hz zs a % 8 == 4) = false := by simp; omega
    have e5 : (hz zs a % 8 == 5) = false := by simp; omega
    clear h hz9
    go_enter Tryz.func77, Tryz.ntmps77
    go_wp2_with (first | (go_at_call 29; refine (l2Size_ok _ _).mono ?_; rintro e wx ⟨rfl, rfl⟩) | (go_at_call 121; refine (l2Kind_ok _ _).mono ?_; rintro e wx ⟨rfl, rfl⟩))
    go_ret
    refine ⟨_, rfl, ?_, (k0.alloc _)⟩
    rw [HR.out, HS.out]
    exact ⟨by simp, by simpa using World.ownsRow_made (base := w.heap.size) (e := 3) (size := 1) (w.alloc (.cells #[.slice (some ⟨b, off, none⟩) zs.length cap] 39)) #[] 0 (by simp) (by unfold maxLen; omega) (by simp)⟩
  · have HS : Hid (slL a q s = someL (a + 1) (min 2 (s - 1))) := by show _ = _; rw [h]; simp only [slL, slOff, slMany]; rfl
    have e9 : hz zs a % 8 = 2 := by omega
    clear h hz9
    go_enter Tryz.func77, Tryz.ntmps77
    go_wp2_with (first | (go_at_call 29; refine (l2Size_ok _ _).mono ?_; rintro e wx ⟨rfl, rfl⟩) | (go_at_call 121; refine (l2Kind_ok _ _).mono ?_; rintro e wx ⟨rfl, rfl⟩) | (go_at_call 122; refine (l3Some_ok _ (a + 1) _ _ (min 2 (s - 1)) (by omega) (by omega)).mono ?_; rintro e w2 ⟨v2, rfl, o2, hk2⟩))
    go_ret
    exact ⟨_, rfl, by rw [HR.out, HS.out]; exact ⟨o2.1, ownsRow_base o2.2 (by simp)⟩, k0.trans hk2⟩
  · have HS : Hid (slL a q s = someL (a + 1) (min 3 (s - 1))) := by show _ = _; rw [h]; simp only [slL, slOff, slMany]; rfl
    have e9 : hz zs a % 8 = 3 := by omega
    clear h hz9
    go_enter Tryz.func77, Tryz.ntmps77
    go_wp2_with (first | (go_at_call 29; refine (l2Size_ok _ _).mono ?_; rintro e wx ⟨rfl, rfl⟩) | (go_at_call 121; refine (l2Kind_ok _ _).mono ?_; rintro e wx ⟨rfl, rfl⟩) | (go_at_call 122; refine (l3Some_ok _ (a + 1) _ _ (min 3 (s - 1)) (by omega) (by omega)).mono ?_; rintro e w2 ⟨v2, rfl, o2, hk2⟩))
    go_ret
    exact ⟨_, rfl, by rw [HR.out, HS.out]; exact ⟨o2.1, ownsRow_base o2.2 (by simp)⟩, k0.trans hk2⟩
  · have HS : Hid (slL a q s = someL (a + 2) (min 1 (s - 2))) := by show _ = _; rw [h]; simp only [slL, slOff, slMany]; rfl
    have e9 : hz zs a % 8 = 4 := by omega
    clear h hz9
    go_enter Tryz.func77, Tryz.ntmps77
    go_wp2_with (first | (go_at_call 29; refine (l2Size_ok _ _).mono ?_; rintro e wx ⟨rfl, rfl⟩) | (go_at_call 121; refine (l2Kind_ok _ _).mono ?_; rintro e wx ⟨rfl, rfl⟩) | (go_at_call 122; refine (l3Some_ok _ (a + 2) _ _ (min 1 (s - 2)) (by omega) (by omega)).mono ?_; rintro e w2 ⟨v2, rfl, o2, hk2⟩))
    go_ret
    exact ⟨_, rfl, by rw [HR.out, HS.out]; exact ⟨o2.1, ownsRow_base o2.2 (by simp)⟩, k0.trans hk2⟩
  · have HS : Hid (slL a q s = someL (a + 1) (s - 1)) := by show _ = _; rw [h]; show someL (a + 1) (min 4194304 (s - 1)) = _; rw [Nat.min_eq_right (by omega)]
    have e9 : hz zs a % 8 = 5 := by omega
    clear h hz9
    go_enter Tryz.func77, Tryz.ntmps77
    go_wp2_with (first | (go_at_call 29; refine (l2Size_ok _ _).mono ?_; rintro e wx ⟨rfl, rfl⟩) | (go_at_call 121; refine (l2Kind_ok _ _).mono ?_; rintro e wx ⟨rfl, rfl⟩) | (go_at_call 122; refine (l3Some_ok _ (a + 1) _ _ (s - 1) (by omega) (by omega)).mono ?_; rintro e w2 ⟨v2, rfl, o2, hk2⟩))
    go_ret
    exact ⟨_, rfl, by rw [HR.out, HS.out]; exact ⟨o2.1, ownsRow_base o2.2 (by simp)⟩, k0.trans hk2⟩
end Go.Proofs.YtgempjjnfpmndaaGreatDoor
