/-
  The contracts of FunOf, the program's and its model's.
-/
import Derived.Test.YtoemneijeepphaaFilA
import Derived.Test.YtoemneijeepphaaHelpL
namespace Go.Proofs.Ytoemneijeepphaa
open Go.RowKit
attribute [local go_sem] Plain.and7

/-- A function of the heap. -/
def isFn (zs : List Int) (v : Int) : Bool := decide (v % 8 = 6) && leadsR zs v 0
theorem isFn_is {zs : List Int} {v : Int} : isR zs [v] 6 = (heapR zs && isFn zs v) := by
  unfold isR isFn
  rw [roots1, show hz [v] 0 = v from rfl]
  by_cases h : v % 8 = 6
  · rw [leads_any (v := v) (by omega) 5 0]; simp [h]
  · simp [h]
theorem fun_facts {zs : List Int} {v : Int} (hh : heapR zs = true) (h : isFn zs v = true) : ∃ n : Nat, v / 8 = n ∧ n + 3 ≤ zs.length := by
  unfold isFn at h
  simp only [Bool.and_eq_true, decide_eq_true_eq] at h
  have hk := leads_kind h.2 (by omega)
  rw [h.1] at hk
  obtain ⟨n, s, e, h1, h2, h3, _, h4⟩ := kind_block (k := 4) hh (by rw [hk]; simp [wantK])
  rw [blk_fun] at h4
  unfold funR at h4
  simp only [Bool.and_eq_true, decide_eq_true_eq] at h4
  exact ⟨n, e, by omega⟩
/-- What FunOf answers. -/
def funOfV (zs : List Int) (v : Int) : Value :=
  if (heapR zs && isFn zs v) = true then .tuple #[.int .i64 (hz zs ((v / 8).toNat + 1)), .int .i64 (hz zs ((v / 8).toNat + 2)), .bool true] else .tuple #[.int .i64 (-1), .int .i64 0, .bool false]
theorem funOfV_tuple (zs : List Int) (v : Int) : ∃ x y b, funOfV zs v = .tuple #[.int .i64 x, .int .i64 y, .bool b] := by
  unfold funOfV
  split
  · exact ⟨_, _, _, rfl⟩
  · exact ⟨_, _, _, rfl⟩
set_option maxHeartbeats 4000000 in
set_option maxRecDepth 100000 in
theorem isFun_ok (w : World) (lo : Option Addr) (lc : Nat) (zs : List Int) (v : Int) (hI : Ints w lo (lyt zs)) (h0 : -9223372036854775808 ≤ v) (h1 : v ≤ 9223372036854775807) :
    Calls Try.prog 38 #[.slice lo zs.length lc, .int .i64 v] w fun e w' => e = .returned (.bool (isFn zs v)) ∧ w = w' := by
  have hV := valueOk_ok w lo lc zs 10 v hI h0 h1
  clear hI
  by_cases h5 : v % 8 = 6
  · have e1 : isFn zs v = valR zs 10 v := by
      unfold isFn
      rw [val10]
      simp [plainR, h5]
    rw [e1]
    obtain ⟨r, hr⟩ : ∃ r, valR zs 10 v = r := ⟨_, rfl⟩
    rw [hr] at hV ⊢
    have hd : (v % 8 == 6) = true := by simpa using h5
    clear hr e1
    go_enter Try.func38, Try.ntmps38
    go_wp2_with (first | (go_at_call 62; refine (impl_Kind_ok _ _).mono ?_; rintro e wx ⟨rfl, rfl⟩) | (go_at_call 26; refine hV.mono ?_; rintro e wx ⟨rfl, rfl⟩))
    go_ret
    exact ⟨rfl, rfl⟩
  · have HE : Hid (isFn zs v = false) := by simp [Hid, isFn, h5]
    have hd : (v % 8 == 6) = false := by simpa using h5
    clear hV
    go_enter Try.func38, Try.ntmps38
    go_wp2_with (first | (go_at_call 62; refine (impl_Kind_ok _ _).mono ?_; rintro e wx ⟨rfl, rfl⟩))
    go_ret
    exact ⟨by rw [HE.out]; rfl, rfl⟩
set_option maxHeartbeats 4000000 in
set_option maxRecDepth 100000 in
theorem impl_FunOf_ok (w : World) (ao : Option Addr) (cap : Nat) (zs : List Int) (v : Int) (hI : Ints w ao zs) (hl : zs.length ≤ 1048576) (hv : -9223372036854775808 ≤ v ∧ v ≤ 9223372036854775807) :
    Calls Try.prog 16 #[.agg #[.slice ao zs.length cap], .int .i64 v] w fun e w' => e = .returned (funOfV zs v) ∧ Kept w w' := by
  have b0 := Cells.new w 26 #[.slice ao zs.length cap]
  have k0 : Kept w (w.alloc (.cells #[.slice ao zs.length cap] 26)) := Kept.alloc (Below.refl _ _) _
  have c0' := b0.cell 0
  have hLo := heapLayout_ok _ ao cap zs (hI.kept k0) hl
  cases hh : heapR zs with
  | false =>
    have HR : Hid (funOfV zs v = .tuple #[.int .i64 (-1), .int .i64 0, .bool false]) := by simp [Hid, funOfV, hh]
    have hLo' := hLo.mono (R' := fun e w' => e = .returned (.tuple #[.slice none 0 0, .bool false]) ∧ Kept (w.alloc (.cells #[.slice ao zs.length cap] 26)) w') (fun e w' h => ⟨h.1 hh, h.2.2⟩)
    clear hh hI hLo
    go_enter Try.func16, Try.ntmps16
    go_wp2_with (go_at_call 25; refine hLo'.mono ?_; rintro e w1 ⟨rfl, hk1⟩)
    refine bodyPost_ret (v := .tuple #[.int .i64 (-1), .int .i64 0, .bool false]) (by simp [results, Try.results16, go_sem]) rfl ⟨by rw [HR.out], k0.trans hk1⟩
  | true =>
    have hLo' := hLo.mono (R' := fun e w' => ∃ lo lc, e = .returned (.tuple #[.slice lo zs.length lc, .bool true]) ∧ Ints w' lo (lyt zs) ∧ Kept (w.alloc (.cells #[.slice ao zs.length cap] 26)) w') (fun e w' h => by obtain ⟨lo, lc, h1, h2⟩ := h.2.1 hh; exact ⟨lo, lc, h1, h2, h.2.2⟩)
    have hF := fun (u : World) (lo : Option Addr) (lc : Nat) (hu : Ints u lo (lyt zs)) => isFun_ok u lo lc zs v hu hv.1 hv.2
    clear hLo
    cases hf : isFn zs v with
    | false =>
      have HR : Hid (funOfV zs v = .tuple #[.int .i64 (-1), .int .i64 0, .bool false]) := by simp [Hid, funOfV, hf]
      rw [hf] at hF
      clear hh hI hf
      go_enter Try.func16, Try.ntmps16
      go_wp2_with (first | (go_at_call 25; refine hLo'.mono ?_; rintro e w1 ⟨lo, lc, rfl, hLy, hk1⟩; have hO1 := hF w1 lo lc hLy; clear hLy) | (go_at_call 38; refine hO1.mono ?_; rintro e wx ⟨rfl, rfl⟩))
      refine bodyPost_ret (v := .tuple #[.int .i64 (-1), .int .i64 0, .bool false]) (by simp [results, Try.results16, go_sem]) rfl ⟨by rw [HR.out], k0.trans hk1⟩
    | true =>
      obtain ⟨n, hn, hle⟩ := fun_facts hh hf
      have HR : Hid (funOfV zs v = .tuple #[.int .i64 (hz zs (n + 1)), .int .i64 (hz zs (n + 2)), .bool true]) := by simp [Hid, funOfV, hh, hf, hn]
      rw [hf] at hF
      have hN := fun (u : World) => impl_Num_ok v u hv.1 hv.2
      rw [hn] at hN
      obtain ⟨bb, off, rfl, hc⟩ := hI.at (k := n + 1) (by omega)
      have cq1 := hc (n + 1) (by omega)
      have cq2 := hc (n + 2) (by omega)
      have hbl : bb < w.heap.size := World.block_lt_of_cell? _ _ cq1
      have p1 : (n : Int) + 1 < (zs.length : Int) := by omega
      have p2 : (n : Int) + 2 < (zs.length : Int) := by omega
      have t1 : ((n : Int) + 1).toNat = n + 1 := by omega
      have t2 : ((n : Int) + 2).toNat = n + 2 := by omega
      have y1 : IntKind.i64.wrap ((n : Int) + 1) = (n : Int) + 1 := by rw [IntWalk.i64_left, IntWalk.wrap64_in _ (by omega)]
      have y2 : IntKind.i64.wrap ((n : Int) + 2) = (n : Int) + 2 := by rw [IntWalk.i64_left, IntWalk.wrap64_in _ (by omega)]
      clear hh hI hf hc hn
      go_enter Try.func16, Try.ntmps16
      go_wp2_with (first | (go_at_call 25; refine hLo'.mono ?_; rintro e w1 ⟨lo, lc, rfl, hLy, hk1⟩; have hO1 := hF w1 lo lc hLy; have c1 := (b0.kept hk1).cell 0; have d1 := ((k0.trans hk1).cell (p := ⟨bb, off + (n + 1), none⟩) hbl).trans cq1; have d2 := ((k0.trans hk1).cell (p := ⟨bb, off + (n + 2), none⟩) hbl).trans cq2; clear hLy) | (go_at_call 38; refine hO1.mono ?_; rintro e wx ⟨rfl, rfl⟩) | (go_at_call 39; refine (hN _).mono ?_; rintro e wx ⟨rfl, rfl⟩))
      go_quiet (fail)
      all_goals go_wp2_with fail
      all_goals refine bodyPost_ret (v := .tuple #[.int .i64 (hz zs (n + 1)), .int .i64 (hz zs (n + 2)), .bool true]) (by simp [results, Try.results16, go_sem]) rfl ⟨by rw [HR.out], kept_drewN (k0.trans hk1) _⟩
set_option maxHeartbeats 4000000 in
set_option maxRecDepth 100000 in
theorem spec_FunOf_ok (w : World) (ao : Option Addr) (cap : Nat) (zs : List Int) (v : Int) (hI : Ints w ao zs) (hl : zs.length ≤ 1048576) (hv : -9223372036854775808 ≤ v ∧ v ≤ 9223372036854775807) :
    Calls Try.prog 15 #[.agg #[.slice ao zs.length cap], .int .i64 v] w fun e w' => e = .returned (funOfV zs v) ∧ Kept w w' := by
  have b0 := Cells.new w 26 #[.slice ao zs.length cap]
  have k0 : Kept w (w.alloc (.cells #[.slice ao zs.length cap] 26)) := Kept.alloc (Below.refl _ _) _
  have c0' := b0.cell 0
  have hL := l5Is_at _ ao cap zs [v] 1 6 #[.int .i64 v] rfl rfl (by simp only [List.mem_cons, List.not_mem_nil, or_false]; rintro z rfl; exact hv) (by omega) (by omega) (hI.kept k0) hl
  simp only [World.size_alloc] at hL
  cases hr : isR zs [v] 6 with
  | false =>
    have HR : Hid (funOfV zs v = .tuple #[.int .i64 (-1), .int .i64 0, .bool false]) := by simp [Hid, funOfV, ← isFn_is, hr]
    rw [hr] at hL
    clear hr hI
    go_enter Try.func15, Try.ntmps15
    go_wp2_with (go_at_call 34; refine hL.mono ?_; rintro e w1 ⟨rfl, hk1⟩)
    refine bodyPost_ret (v := .tuple #[.int .i64 (-1), .int .i64 0, .bool false]) (by simp [results, Try.results15, go_sem]) rfl ⟨by rw [HR.out], k0.trans hk1⟩
  | true =>
    have hx := hr
    rw [isFn_is] at hx
    simp only [Bool.and_eq_true] at hx
    obtain ⟨n, hn, hle⟩ := fun_facts hx.1 hx.2
    have HR : Hid (funOfV zs v = .tuple #[.int .i64 (hz zs (n + 1)), .int .i64 (hz zs (n + 2)), .bool true]) := by simp [Hid, funOfV, hx.1, hx.2, hn]
    rw [hr] at hL
    have hN := fun (u : World) => spec_Num_ok v u
    rw [hn] at hN
    obtain ⟨bb, off, rfl, hc⟩ := hI.at (k := n + 1) (by omega)
    have cq1 := hc (n + 1) (by omega)
    have cq2 := hc (n + 2) (by omega)
    have hbl : bb < w.heap.size := World.block_lt_of_cell? _ _ cq1
    have p1 : (n : Int) + 1 < (zs.length : Int) := by omega
    have p2 : (n : Int) + 2 < (zs.length : Int) := by omega
    have t1 : ((n : Int) + 1).toNat = n + 1 := by omega
    have t2 : ((n : Int) + 2).toNat = n + 2 := by omega
    have y1 : IntKind.i64.wrap ((n : Int) + 1) = (n : Int) + 1 := by rw [IntWalk.i64_left, IntWalk.wrap64_in _ (by omega)]
    have y2 : IntKind.i64.wrap ((n : Int) + 2) = (n : Int) + 2 := by rw [IntWalk.i64_left, IntWalk.wrap64_in _ (by omega)]
    clear hr hx hI hc hn
    go_enter Try.func15, Try.ntmps15
    go_wp2_with (first | (go_at_call 34; refine hL.mono ?_; rintro e w1 ⟨rfl, hk1⟩; have c1 := (b0.kept hk1).cell 0; have d1 := ((k0.trans hk1).cell (p := ⟨bb, off + (n + 1), none⟩) hbl).trans cq1; have d2 := ((k0.trans hk1).cell (p := ⟨bb, off + (n + 2), none⟩) hbl).trans cq2) | (go_at_call 37; refine (hN _).mono ?_; rintro e wx ⟨rfl, rfl⟩))
    go_quiet (first | (go_at_call 37; refine Calls.quiet_of_same ((hN _).mono (fun _ _ h => ⟨h.1, h.2.symm⟩))))
    all_goals go_wp2_with fail
    all_goals refine bodyPost_ret (v := .tuple #[.int .i64 (hz zs (n + 1)), .int .i64 (hz zs (n + 2)), .bool true]) (by simp [results, Try.results15, go_sem]) rfl ⟨by rw [HR.out], kept_drewN (k0.trans hk1) _⟩
end Go.Proofs.Ytoemneijeepphaa
