/-
  Whether the lines of an Outcome are the first ones of another's: spec.Begins, impl.Begins, spec.Alike, impl.Alike exactly.
-/
import Derived.Test.YtcaoglghkeikoaaLinB
import Derived.Deep.RegionWith
import Derived.Deep.CutRange
namespace Go.Proofs.Ytcaoglghkeikoaa
open Go.RowKit
set_option linter.unusedSimpArgs false
set_option linter.unusedVariables false
/-- The texts ts are the first ones of us. -/
def begB : List ByteArray → List ByteArray → Bool
  | [], _ => true
  | _ :: _, [] => false
  | t :: ts, u :: us => (t.toList == u.toList) && begB ts us
theorem begB_true : ∀ {ts us : List ByteArray}, ts.length ≤ us.length → (∀ (j : Nat) t u, j < ts.length → ts[j]? = some t → us[j]? = some u → (t.toList == u.toList) = true) → begB ts us = true
  | [], _, _, _ => rfl
  | t :: ts, [], h, _ => by simp at h
  | t :: ts, u :: us, h, hh => by
    rw [begB, hh 0 t u (by simp) rfl rfl, begB_true (ts := ts) (us := us) (by simpa using h) (fun j x y hj hx hy => hh (j + 1) x y (by simpa using hj) (by simpa using hx) (by simpa using hy))]
    rfl
theorem begB_len : ∀ {ts us : List ByteArray}, us.length < ts.length → begB ts us = false
  | [], us, h => by simp at h
  | t :: ts, [], _ => rfl
  | t :: ts, u :: us, h => by
    rw [begB, begB_len (ts := ts) (us := us) (by simpa using h)]
    simp
theorem begB_at : ∀ {ts us : List ByteArray} {k : Nat} {t u : ByteArray}, ts[k]? = some t → us[k]? = some u → (t.toList == u.toList) = false → begB ts us = false
  | [], us, k, t, u, h, _, _ => by simp at h
  | x :: ts, [], k, t, u, _, h, _ => by simp at h
  | x :: ts, y :: us, 0, t, u, h, h', e => by
    simp at h h'
    subst h h'
    rw [begB, e]
    rfl
  | x :: ts, y :: us, k + 1, t, u, h, h', e => by
    rw [begB, begB_at (ts := ts) (us := us) (k := k) (by simpa using h) (by simpa using h') e]
    simp
theorem begB_take {ts us : List ByteArray} (h : ts.length ≤ us.length) : begB ts (us.take ts.length) = begB ts us := by
  by_cases e : ∀ (j : Nat) t u, j < ts.length → ts[j]? = some t → us[j]? = some u → (t.toList == u.toList) = true
  · rw [begB_true h e]
    exact begB_true (by simp; omega) (fun j t u hj ht hu => e j t u hj ht (by rw [List.getElem?_take_of_lt hj] at hu; exact hu))
  · simp only [Classical.not_forall] at e
    obtain ⟨j, t, u, hj, ht, hu, hne⟩ := e
    have hne' : (t.toList == u.toList) = false := by simpa using hne
    rw [begB_at ht hu hne']
    exact begB_at ht (by rw [List.getElem?_take_of_lt hj]; exact hu) hne'
theorem StA.take {W : World} {ao : Option Addr} {ts : List ByteArray} (h : StA W ao ts) (n : Nat) : StA W ao (ts.take n) := by
  intro j t ht
  by_cases hj : j < n
  · exact h j t (by rw [List.getElem?_take_of_lt hj] at ht; exact ht)
  · rw [List.getElem?_take_eq_none (by omega)] at ht
    cases ht
/-- The codes are the same, and so are the lines. -/
def alikeB (c d : Int) (ts us : List ByteArray) : Bool := decide (c = d) && (begB ts us && decide (ts.length = us.length))
set_option maxHeartbeats 8000000 in
set_option maxRecDepth 100000 in
theorem equalS_ok (w : World) (ao bo : Option Addr) (n m ca cb : Nat) (ts us : List ByteArray) (hn : ts.length = n) (hm : us.length = m) (hA : StA w ao ts) (hB : StA w bo us) (hl : n ≤ 1048576) (hl' : m ≤ 1048576) :
    Calls Try.prog 14 #[.slice ao n ca, .slice bo m cb] w fun e w' => e = .returned (.bool (decide (n = m) && begB ts us)) ∧ Kept w w' := by
  subst hn hm
  by_cases hne : ts.length = us.length
  rotate_left
  · have q : ((ts.length : Int) != (us.length : Int)) = true := by simp; omega
    rw [show (decide (ts.length = us.length) && begB ts us) = false by simp [hne]]
    clear hA hB
    go_enter Try.func14, Try.ntmps14
    go_wp2_with fail
    go_ret
    exact ⟨rfl, Below.refl _ w⟩
  rw [show (decide (ts.length = us.length) && begB ts us) = begB ts us by simp [hne]]
  have q : ((ts.length : Int) != (us.length : Int)) = false := by simp; omega
  have HA : Hid _ := hA
  have HB : Hid _ := hB
  obtain ⟨L, hL⟩ : ∃ L, ts.length = L := ⟨_, rfl⟩
  have hM : us.length = L := hne.symm.trans hL
  rw [hL] at q ⊢
  rw [hM] at q ⊢
  clear hA hB hne
  go_enter Try.func14, Try.ntmps14
  go_wp2_with fail
  go_loopw [13] (fun i wr => ∃ k : Nat, i = .int .i64 k ∧ k ≤ L ∧ Hid (∀ (j : Nat) t u, j < k → ts[j]? = some t → us[j]? = some u → (t.toList == u.toList) = true) ∧ Kept w wr) (fun i _ => L - (intOf i).toNat)
  case atStart => exact ⟨0, rfl, Nat.zero_le _, fun j t u hj => by omega, Below.refl _ _⟩
  case round =>
    obtain ⟨k, rfl, hk, HM, hK⟩ := hrel
    have HK : Hid _ := hK
    by_cases hlt : k < L
    · obtain ⟨t, ht⟩ : ∃ t, ts[k]? = some t := ⟨_, List.getElem?_eq_getElem (by omega)⟩
      obtain ⟨u, hu⟩ : ∃ u, us[k]? = some u := ⟨_, List.getElem?_eq_getElem (by omega)⟩
      obtain ⟨b, off, rfl, hc⟩ := (StA.kept HA.out hK) k t ht
      obtain ⟨b', off', rfl, hc'⟩ := (StA.kept HB.out hK) k u hu
      have q1 : (k : Int) < (L : Int) := by omega
      have q0 : (0 : Int) ≤ (k : Int) := by omega
      have HT : Hid _ := ht
      have HU : Hid _ := hu
      cases hn6 : (t.toList == u.toList)
      · have HN : Hid _ := hn6
        clear ht hu hK
        go_wp2_with fail
        go_region
        all_goals (
          go_wp2_with fail
          go_ret
          exact ⟨by rw [begB_at HT.out HU.out HN.out]; rfl, Below.drew HK.out⟩)
      · have HN : Hid _ := hn6
        clear ht hu hK
        go_wp2_with fail
        go_region
        all_goals (
          go_wp2_with fail
          go_roundw
          case rel => exact ⟨k + 1, by go_num, by omega, fun j x y hj hx hy => by
            by_cases hjk : j < k
            · exact HM.out j x y hjk hx hy
            · obtain rfl : j = k := by omega
              rw [HT.out] at hx
              rw [HU.out] at hy
              cases hx
              cases hy
              exact HN.out, Below.drew HK.out⟩
          case measure => simp [intOf]; omega)
    · obtain rfl : k = L := by omega
      have q1 : ¬ (k : Int) < (k : Int) := by omega
      clear hK
      go_wp2_with fail
      go_ret
      exact ⟨by rw [begB_true (ts := ts) (us := us) (by omega) (fun j t u hj => HM.out j t u (by omega))]; rfl, HK.out⟩
set_option maxHeartbeats 8000000 in
set_option maxRecDepth 100000 in
theorem spec_Begins_ok (w : World) (c d : Int) (ao bo : Option Addr) (ca cb : Nat) (ts us : List ByteArray) (hA : StA w ao ts) (hB : StA w bo us) (hl : ts.length ≤ 1048576) (hl' : us.length ≤ 1048576) :
    Calls Try.prog 6 #[.agg #[.int .i64 c, .slice ao ts.length ca], .agg #[.int .i64 d, .slice bo us.length cb]] w fun e w' => e = .returned (.bool (begB ts us)) ∧ Kept w w' := by
  obtain ⟨WX, hWX⟩ : ∃ x, (w.alloc (.cells #[.int .i64 c, .slice ao ts.length ca] 27)).alloc (.cells #[.int .i64 d, .slice bo us.length cb] 27) = x := ⟨_, rfl⟩
  have k0 : Kept w WX := hWX ▸ (Kept.alloc (Below.refl _ w) _).alloc _
  have B0 : Cells WX w.heap.size 27 #[.int .i64 c, .slice ao ts.length ca] := hWX ▸ (Cells.new w 27 #[.int .i64 c, .slice ao ts.length ca]).alloc _
  have B1 : Cells WX (w.heap.size + 1) 27 #[.int .i64 d, .slice bo us.length cb] := by
    have := Cells.new (w.alloc (.cells #[.int .i64 c, .slice ao ts.length ca] 27)) 27 #[.int .i64 d, .slice bo us.length cb]
    simp only [World.size_alloc] at this
    exact hWX ▸ this
  have HB : Hid (∀ v, Kept WX v → v.cell? ⟨w.heap.size, 1, none⟩ = some (.slice ao ts.length ca) ∧ v.cell? ⟨w.heap.size + 1, 1, none⟩ = some (.slice bo us.length cb)) := fun v hv => ⟨(B0.kept hv).cell 1, (B1.kept hv).cell 1⟩
  have HA : Hid (StA WX ao ts) := hA.kept k0
  have HU : Hid (StA WX bo us) := hB.kept k0
  have HK0 : Hid _ := k0
  obtain ⟨L, hL⟩ : ∃ L, ts.length = L := ⟨_, rfl⟩
  obtain ⟨M, hM⟩ : ∃ M, us.length = M := ⟨_, rfl⟩
  rw [hL, hM] at HB
  rw [hL] at hWX hl ⊢
  rw [hM] at hWX hl' ⊢
  clear hA hB k0 B0 B1
  go_enter Try.func6, Try.ntmps6
  go_upto_region 1 with (fail)
  try simp only [hWX]
  go_wp2_with fail
  go_loopw [5] (fun i wr => ∃ k : Nat, i = .int .i64 k ∧ k ≤ L ∧ k ≤ M ∧ Hid (∀ (j : Nat) t u, j < k → ts[j]? = some t → us[j]? = some u → (t.toList == u.toList) = true) ∧ Kept WX wr) (fun i _ => L - (intOf i).toNat)
  case atStart => exact ⟨0, rfl, Nat.zero_le _, Nat.zero_le _, fun j t u hj => by omega, Below.refl _ _⟩
  case round =>
    obtain ⟨k, rfl, hk, hk', HM, hK⟩ := hrel
    obtain ⟨c1, c2⟩ := HB.out _ hK
    have HK : Hid _ := hK
    clear hWX
    by_cases hlt : k < L
    · have q1 : decide ((k : Int) < (L : Int)) = true := decide_eq_true (by omega)
      by_cases hlt' : k < M
      · have q2 : decide ((k : Int) < (M : Int)) = true := decide_eq_true (by omega)
        obtain ⟨t, ht⟩ : ∃ t, ts[k]? = some t := ⟨_, List.getElem?_eq_getElem (by omega)⟩
        obtain ⟨u, hu⟩ : ∃ u, us[k]? = some u := ⟨_, List.getElem?_eq_getElem (by omega)⟩
        obtain ⟨b, off, rfl, hc⟩ := (StA.kept HA.out hK) k t ht
        obtain ⟨b', off', rfl, hc'⟩ := (StA.kept HU.out hK) k u hu
        have q3 : (k : Int) < (L : Int) := by omega
        have q4 : (k : Int) < (M : Int) := by omega
        have q0 : (0 : Int) ≤ (k : Int) := by omega
        have HT : Hid _ := ht
        have HX : Hid _ := hu
        cases hn6 : (t.toList == u.toList)
        · have HN : Hid _ := hn6
          clear ht hu hK
          go_wp2_with fail
          go_region
          all_goals (
            go_wp2_with fail
            go_ret
            exact ⟨by rw [begB_at HT.out HX.out HN.out]; rfl, Kept.trans HK0.out (Below.drew HK.out)⟩)
        · have HN : Hid _ := hn6
          clear ht hu hK
          go_wp2_with fail
          go_region
          all_goals (
            go_wp2_with fail
            go_roundw
            case rel => exact ⟨k + 1, by go_num, by omega, by omega, fun j x y hj hx hy => by
              by_cases hjk : j < k
              · exact HM.out j x y hjk hx hy
              · obtain rfl : j = k := by omega
                rw [HT.out] at hx
                rw [HX.out] at hy
                cases hx
                cases hy
                exact HN.out, Below.drew HK.out⟩
            case measure => simp [intOf]; omega)
      · obtain rfl : k = M := by omega
        have q2 : decide ((k : Int) < (k : Int)) = false := decide_eq_false (by omega)
        have q5 : decide ((L : Int) ≤ (k : Int)) = false := decide_eq_false (by omega)
        clear hK
        go_wp2_with fail
        go_ret
        exact ⟨by rw [begB_len (ts := ts) (us := us) (by omega)]; exact congrArg (fun b => Ending.returned (.bool b)) (decide_eq_false (by omega)), Kept.trans HK0.out HK.out⟩
    · obtain rfl : k = L := by omega
      have q1 : decide ((k : Int) < (k : Int)) = false := decide_eq_false (by omega)
      have q5 : decide ((k : Int) ≤ (M : Int)) = true := decide_eq_true (by omega)
      clear hK
      go_wp2_with fail
      go_ret
      exact ⟨by rw [begB_true (ts := ts) (us := us) (by omega) (fun j t u hj => HM.out j t u (by omega))]; rfl, Kept.trans HK0.out HK.out⟩
set_option maxHeartbeats 8000000 in
set_option maxRecDepth 100000 in
theorem impl_Begins_ok (w : World) (c d : Int) (ao : Option Addr) (g ca : Nat) (ts us : List ByteArray) (hA : StA w ao ts) (hB : StA w (some ⟨g, 0, none⟩) us) (hl : ts.length ≤ 1048576) (hl' : us.length ≤ 1048576) :
    Calls Try.prog 8 #[.agg #[.int .i64 c, .slice ao ts.length ca], .agg #[.int .i64 d, .slice (some ⟨g, 0, none⟩) us.length us.length]] w fun e w' => e = .returned (.bool (begB ts us)) ∧ Kept w w' := by
  obtain ⟨WX, hWX⟩ : ∃ x, (w.alloc (.cells #[.int .i64 c, .slice ao ts.length ca] 27)).alloc (.cells #[.int .i64 d, .slice (some ⟨g, 0, none⟩) us.length us.length] 27) = x := ⟨_, rfl⟩
  have k0 : Kept w WX := hWX ▸ (Kept.alloc (Below.refl _ w) _).alloc _
  have B0 : Cells WX w.heap.size 27 #[.int .i64 c, .slice ao ts.length ca] := hWX ▸ (Cells.new w 27 #[.int .i64 c, .slice ao ts.length ca]).alloc _
  have B1 : Cells WX (w.heap.size + 1) 27 #[.int .i64 d, .slice (some ⟨g, 0, none⟩) us.length us.length] := by
    have := Cells.new (w.alloc (.cells #[.int .i64 c, .slice ao ts.length ca] 27)) 27 #[.int .i64 d, .slice (some ⟨g, 0, none⟩) us.length us.length]
    simp only [World.size_alloc] at this
    exact hWX ▸ this
  have kd : Kept w WX.drew := k0.drew
  have hE : ts.length ≤ us.length → Calls Try.prog 14 #[.slice ao ts.length ca, .slice (some ⟨g, 0, none⟩) ts.length us.length] WX.drew fun e w' => e = .returned (.bool (begB ts us)) ∧ Kept WX.drew w' := fun h => by
    have := equalS_ok WX.drew ao (some ⟨g, 0, none⟩) ts.length ts.length ca us.length ts (us.take ts.length) rfl (by simp; omega) (hA.kept kd) ((hB.kept kd).take _) hl hl
    rw [show (decide (ts.length = ts.length) && begB ts (us.take ts.length)) = begB ts us by rw [begB_take h]; simp] at this
    exact this
  have HA : Hid _ := B0
  have HU : Hid _ := B1
  have a1 := B0.cell 1
  have b1 := B1.cell 1
  have a1d := (B0.kept (Below.refl _ WX).drew).cell 1
  have b1d := (B1.kept (Below.refl _ WX).drew).cell 1
  have HK0 : Hid _ := kd
  obtain ⟨R, hR⟩ : ∃ R, begB ts us = R := ⟨_, rfl⟩
  have hF : us.length < ts.length → R = false := fun h => hR ▸ begB_len h
  rw [hR] at hE ⊢
  obtain ⟨L, hL⟩ : ∃ L, ts.length = L := ⟨_, rfl⟩
  obtain ⟨M, hM⟩ : ∃ M, us.length = M := ⟨_, rfl⟩
  rw [hL] at hWX hl hE hF a1 a1d ⊢
  rw [hM] at hWX hl' hE hF b1 b1d ⊢
  clear hA hB k0 B0 B1 kd hL hM hR
  by_cases hle : L ≤ M
  · have hC := hE hle
    have q1 : decide ((L : Int) ≤ (M : Int)) = true := decide_eq_true (by omega)
    have q2 : (0 : Int) ≤ (L : Int) := by omega
    have q3 : (L : Int) ≤ (M : Int) := by omega
    clear hE hF
    go_enter Try.func8, Try.ntmps8
    go_upto_region 1 with (fail)
    try simp only [hWX]
    clear hWX
    go_wp2_with fail
    go_region_with (go_at_call 14; refine hC.mono ?_; rintro e w1 ⟨rfl, hK1⟩)
    all_goals (
      go_wp2_with fail
      go_ret
      exact ⟨rfl, Kept.trans HK0.out hK1⟩)
  · have hR := hF (by omega)
    subst hR
    have q1 : decide ((L : Int) ≤ (M : Int)) = false := decide_eq_false (by omega)
    have q4 : decide (L ≤ M) = false := decide_eq_false (by omega)
    clear hE hF
    go_enter Try.func8, Try.ntmps8
    go_upto_region 1 with (fail)
    try simp only [hWX]
    clear hWX
    go_wp2_with fail
    go_quiet (fail)
    go_wp2_with fail
    go_ret
    exact ⟨rfl, ⟨HK0.out.os, HK0.out.tape, HK0.out.output, HK0.out.size, HK0.out.block⟩⟩
set_option maxHeartbeats 8000000 in
set_option maxRecDepth 100000 in
theorem spec_Alike_ok (w : World) (c d : Int) (ao bo : Option Addr) (ca cb : Nat) (ts us : List ByteArray) (hA : StA w ao ts) (hB : StA w bo us) (hl : ts.length ≤ 1048576) (hl' : us.length ≤ 1048576) :
    Calls Try.prog 10 #[.agg #[.int .i64 c, .slice ao ts.length ca], .agg #[.int .i64 d, .slice bo us.length cb]] w fun e w' => e = .returned (.bool (alikeB c d ts us)) ∧ Kept w w' := by
  obtain ⟨WX, hWX⟩ : ∃ x, (w.alloc (.cells #[.int .i64 c, .slice ao ts.length ca] 27)).alloc (.cells #[.int .i64 d, .slice bo us.length cb] 27) = x := ⟨_, rfl⟩
  have k0 : Kept w WX := hWX ▸ (Kept.alloc (Below.refl _ w) _).alloc _
  have B0 : Cells WX w.heap.size 27 #[.int .i64 c, .slice ao ts.length ca] := hWX ▸ (Cells.new w 27 #[.int .i64 c, .slice ao ts.length ca]).alloc _
  have B1 : Cells WX (w.heap.size + 1) 27 #[.int .i64 d, .slice bo us.length cb] := by
    have := Cells.new (w.alloc (.cells #[.int .i64 c, .slice ao ts.length ca] 27)) 27 #[.int .i64 d, .slice bo us.length cb]
    simp only [World.size_alloc] at this
    exact hWX ▸ this
  have HB : Hid (∀ v, Kept WX v → (v.cell? ⟨w.heap.size, 0, none⟩ = some (.int .i64 c) ∧ v.cell? ⟨w.heap.size, 1, none⟩ = some (.slice ao ts.length ca)) ∧ v.cell? ⟨w.heap.size + 1, 0, none⟩ = some (.int .i64 d) ∧ v.cell? ⟨w.heap.size + 1, 1, none⟩ = some (.slice bo us.length cb)) := fun v hv => ⟨⟨(B0.kept hv).cell 0, (B0.kept hv).cell 1⟩, (B1.kept hv).cell 0, (B1.kept hv).cell 1⟩
  have HK0 : Hid _ := k0
  have hC := spec_Begins_ok WX c d ao bo ca cb ts us (hA.kept k0) (hB.kept k0) hl hl'
  unfold alikeB
  obtain ⟨B, hBB⟩ : ∃ B, begB ts us = B := ⟨_, rfl⟩
  rw [hBB] at hC ⊢
  obtain ⟨L, hL⟩ : ∃ L, ts.length = L := ⟨_, rfl⟩
  obtain ⟨M, hM⟩ : ∃ M, us.length = M := ⟨_, rfl⟩
  rw [hL, hM] at HB hC ⊢
  rw [hL, hM] at hWX
  obtain ⟨⟨c0, c1⟩, d0, d1⟩ := HB.out _ (Below.refl _ _)
  clear hA hB k0 B0 B1 hL hM hBB
  by_cases hcd : c = d
  rotate_left
  · have q : (c == d) = false := by simpa using hcd
    rw [show (decide (c = d) && (B && decide (L = M))) = false by simp [hcd]]
    go_enter Try.func10, Try.ntmps10
    go_upto_region 1 with (fail)
    try simp only [hWX]
    clear hWX
    go_wp2_with fail
    go_ret
    exact ⟨rfl, HK0.out⟩
  subst hcd
  have q : (c == c) = true := by simp
  cases B
  · rw [show (decide (c = c) && (false && decide (L = M))) = false by simp]
    go_enter Try.func10, Try.ntmps10
    go_upto_region 1 with (fail)
    try simp only [hWX]
    clear hWX
    go_wp2_with (go_at_call 6; refine hC.mono ?_; rintro e w1 ⟨rfl, hK1⟩; obtain ⟨⟨c0, c1⟩, d0, d1⟩ := HB.out _ hK1)
    go_ret
    exact ⟨rfl, Kept.trans HK0.out hK1⟩
  · rw [show (decide (c = c) && (true && decide (L = M))) = decide (L = M) by simp]
    by_cases hLM : L = M
    · subst hLM
      have q2 : ((L : Int) == (L : Int)) = true := by simp
      go_enter Try.func10, Try.ntmps10
      go_upto_region 1 with (fail)
      try simp only [hWX]
      clear hWX
      go_wp2_with (go_at_call 6; refine hC.mono ?_; rintro e w1 ⟨rfl, hK1⟩; obtain ⟨⟨c0, c1⟩, d0, d1⟩ := HB.out _ hK1)
      go_ret
      exact ⟨by simp [go_sem], Kept.trans HK0.out hK1⟩
    · have q2 : ((L : Int) == (M : Int)) = false := by simp; omega
      rw [show decide (L = M) = false by simp [hLM]]
      go_enter Try.func10, Try.ntmps10
      go_upto_region 1 with (fail)
      try simp only [hWX]
      clear hWX
      go_wp2_with (go_at_call 6; refine hC.mono ?_; rintro e w1 ⟨rfl, hK1⟩; obtain ⟨⟨c0, c1⟩, d0, d1⟩ := HB.out _ hK1)
      go_ret
      exact ⟨by simp [go_sem, hLM], Kept.trans HK0.out hK1⟩
set_option maxHeartbeats 8000000 in
set_option maxRecDepth 100000 in
theorem impl_Alike_ok (w : World) (c d : Int) (ao bo : Option Addr) (ca cb : Nat) (ts us : List ByteArray) (hA : StA w ao ts) (hB : StA w bo us) (hl : ts.length ≤ 1048576) (hl' : us.length ≤ 1048576) :
    Calls Try.prog 11 #[.agg #[.int .i64 c, .slice ao ts.length ca], .agg #[.int .i64 d, .slice bo us.length cb]] w fun e w' => e = .returned (.bool (alikeB c d ts us)) ∧ Kept w w' := by
  obtain ⟨WX, hWX⟩ : ∃ x, (w.alloc (.cells #[.int .i64 c, .slice ao ts.length ca] 27)).alloc (.cells #[.int .i64 d, .slice bo us.length cb] 27) = x := ⟨_, rfl⟩
  have k0 : Kept w WX := hWX ▸ (Kept.alloc (Below.refl _ w) _).alloc _
  have B0 : Cells WX w.heap.size 27 #[.int .i64 c, .slice ao ts.length ca] := hWX ▸ (Cells.new w 27 #[.int .i64 c, .slice ao ts.length ca]).alloc _
  have B1 : Cells WX (w.heap.size + 1) 27 #[.int .i64 d, .slice bo us.length cb] := by
    have := Cells.new (w.alloc (.cells #[.int .i64 c, .slice ao ts.length ca] 27)) 27 #[.int .i64 d, .slice bo us.length cb]
    simp only [World.size_alloc] at this
    exact hWX ▸ this
  have HB : Hid (∀ v, Kept WX v → (v.cell? ⟨w.heap.size, 0, none⟩ = some (.int .i64 c) ∧ v.cell? ⟨w.heap.size, 1, none⟩ = some (.slice ao ts.length ca)) ∧ v.cell? ⟨w.heap.size + 1, 0, none⟩ = some (.int .i64 d) ∧ v.cell? ⟨w.heap.size + 1, 1, none⟩ = some (.slice bo us.length cb)) := fun v hv => ⟨⟨(B0.kept hv).cell 0, (B0.kept hv).cell 1⟩, (B1.kept hv).cell 0, (B1.kept hv).cell 1⟩
  have HK0 : Hid _ := k0
  have hC := equalS_ok WX ao bo ts.length us.length ca cb ts us rfl rfl (hA.kept k0) (hB.kept k0) hl hl'
  obtain ⟨B, hBB⟩ : ∃ B, (decide (ts.length = us.length) && begB ts us) = B := ⟨_, rfl⟩
  rw [show alikeB c d ts us = (decide (c = d) && B) by rw [← hBB, alikeB, Bool.and_comm (begB ts us)]]
  rw [hBB] at hC
  obtain ⟨L, hL⟩ : ∃ L, ts.length = L := ⟨_, rfl⟩
  obtain ⟨M, hM⟩ : ∃ M, us.length = M := ⟨_, rfl⟩
  rw [hL, hM] at HB hC ⊢
  rw [hL, hM] at hWX
  obtain ⟨⟨c0, c1⟩, d0, d1⟩ := HB.out _ (Below.refl _ _)
  clear hA hB k0 B0 B1 hL hM hBB
  by_cases hcd : c = d
  rotate_left
  · have q : (c == d) = false := by simpa using hcd
    rw [show (decide (c = d) && B) = false by simp [hcd]]
    go_enter Try.func11, Try.ntmps11
    go_upto_region 1 with (fail)
    try simp only [hWX]
    clear hWX
    go_wp2_with fail
    go_ret
    exact ⟨rfl, HK0.out⟩
  subst hcd
  have q : (c == c) = true := by simp
  rw [show (decide (c = c) && B) = B by simp]
  go_enter Try.func11, Try.ntmps11
  go_upto_region 1 with (fail)
  try simp only [hWX]
  clear hWX
  go_wp2_with (go_at_call 14; refine hC.mono ?_; rintro e w1 ⟨rfl, hK1⟩)
  go_ret
  exact ⟨rfl, Kept.trans HK0.out hK1⟩
end Go.Proofs.Ytcaoglghkeikoaa
