/-
  What the laws lay as marks into rows of one's own, weakly told: how great the number is, and that nothing else is turned (chapter 17).
-/
import Derived.Test.YtgempjjnfpmndaaTrP
import Derived.Test.YtgempjjnfpmndaaMtxA
import Derived.Test.YtgempjjnfpmndaaUntP
import Derived.Deep.CutRange
namespace Go.Proofs.Ytgempjjnfpmndaa
open Go.RowKit
set_option linter.unusedSimpArgs false
set_option linter.unusedVariables false

set_option maxHeartbeats 8000000 in
set_option maxRecDepth 100000 in
theorem markIntS_w (w : World) (lo hi g cap n k : Nat) (hg : lo ≤ g ∧ g < hi) (hR : WrI w g 3 n) (hn : n ≤ 1048576) (hk1 : 1 ≤ k) (hk : k ≤ 90000000) :
    Calls Try.prog 36 #[.slice (some ⟨g, 0, none⟩) n cap, .int .i64 (k : Int)] w fun e w' => e = .returned (.int .i64 ((n : Int) + (k : Int))) ∧ Tr lo hi w w' := by
  have HR : Hid _ := hR
  clear hR
  go_enter Try.func36, Try.ntmps36
  go_wp2_with fail
  go_loopw [1, 5] (fun mv iv wr => ∃ j : Nat, iv = .int .i64 j ∧ mv = .int .i64 (((j : Nat) : Int) + (k : Int)) ∧ j ≤ n ∧ Hid (Tr lo hi w wr)) (fun _ i _ => n - (intOf i).toNat)
  case atStart => exact ⟨0, rfl, by simp, Nat.zero_le _, Tr.refl _ _ _⟩
  case round =>
    obtain ⟨j, rfl, rfl, hj, HT⟩ := hrel
    by_cases hlt : j < n
    · have hlt' : (j : Int) < (n : Int) := by omega
      have HW : Hid (WrI wr g 3 n) := WrI.tr HR.out HT.out
      obtain ⟨v0, c0, n0, f0⟩ := WrI.at' HW.out (i := j) hlt
      go_wp2_with fail
      go_roundw
      case rel => exact ⟨j + 1, by go_num, by go_num, by omega, Tr.set HT.out hg c0 n0 (noSl_int _ _)⟩
      case measure => simp [intOf]; omega
    · obtain rfl : j = n := by omega
      go_wp2_with fail
      go_ret
      exact ⟨rfl, HT.out⟩
set_option maxHeartbeats 8000000 in
set_option maxRecDepth 100000 in
theorem markStringS_w (w : World) (lo hi g cap n k : Nat) (hg : lo ≤ g ∧ g < hi) (hR : WrI w g 9 n) (hn : n ≤ 1048576) (hk1 : 1 ≤ k) (hk : k ≤ 90000000) :
    Calls Try.prog 37 #[.slice (some ⟨g, 0, none⟩) n cap, .int .i64 (k : Int)] w fun e w' => e = .returned (.int .i64 ((n : Int) + (k : Int))) ∧ Tr lo hi w w' := by
  have HR : Hid _ := hR
  clear hR
  go_enter Try.func37, Try.ntmps37
  go_wp2_with fail
  go_loopw [1, 5] (fun mv iv wr => ∃ j : Nat, iv = .int .i64 j ∧ mv = .int .i64 (((j : Nat) : Int) + (k : Int)) ∧ j ≤ n ∧ Hid (Tr lo hi w wr)) (fun _ i _ => n - (intOf i).toNat)
  case atStart => exact ⟨0, rfl, by simp, Nat.zero_le _, Tr.refl _ _ _⟩
  case round =>
    obtain ⟨j, rfl, rfl, hj, HT⟩ := hrel
    by_cases hlt : j < n
    · have hlt' : (j : Int) < (n : Int) := by omega
      have HW : Hid (WrI wr g 9 n) := WrI.tr HR.out HT.out
      obtain ⟨v0, c0, n0, f0⟩ := WrI.at' HW.out (i := j) hlt
      have hM := markTextN_ok wr (j + k) (by omega) (by omega)
      rw [Int.natCast_add] at hM
      go_wp2_with (go_at_call 45; refine hM.mono ?_; rintro e w1 ⟨rfl, hk1⟩; obtain ⟨v1, c1, n1, f1⟩ := WrI.at' (WrI.tr HW.out (Tr.of (lo := lo) (hi := hi) hk1)) (i := j) hlt)
      go_roundw
      case rel => exact ⟨j + 1, by go_num, by go_num, by omega, Tr.set (HT.out.trans (Tr.of hk1)) hg c1 n1 (noSl_str _)⟩
      case measure => simp [intOf]; omega
    · obtain rfl : j = n := by omega
      go_wp2_with fail
      go_ret
      exact ⟨rfl, HT.out⟩
set_option maxHeartbeats 8000000 in
set_option maxRecDepth 100000 in
theorem markStepS_w (w : World) (lo hi g cap n k : Nat) (hg : lo ≤ g ∧ g < hi) (hR : WrI w g 99 (n * 3)) (hn : n ≤ 1048576) (hk1 : 1 ≤ k) (hk : k ≤ 90000000) :
    Calls Try.prog 49 #[.slice (some ⟨g, 0, none⟩) n cap, .int .i64 (k : Int)] w fun e w' => e = .returned (.int .i64 (((n * 3 : Nat) : Int) + (k : Int))) ∧ Tr lo hi w w' := by
  have HR : Hid _ := hR
  clear hR
  go_enter Try.func49, Try.ntmps49
  go_wp2_with fail
  go_loopw [1, 5] (fun mv iv wr => ∃ j : Nat, iv = .int .i64 j ∧ mv = .int .i64 (((j * 3 : Nat) : Int) + (k : Int)) ∧ j ≤ n ∧ Hid (Tr lo hi w wr)) (fun _ i _ => n - (intOf i).toNat)
  case atStart => exact ⟨0, rfl, by simp, Nat.zero_le _, Tr.refl _ _ _⟩
  case round =>
    obtain ⟨j, rfl, rfl, hj, HT⟩ := hrel
    by_cases hlt : j < n
    · have hlt' : (j : Int) < (n : Int) := by omega
      obtain ⟨q, hq⟩ : ∃ q : Nat, j * 3 + k = q := ⟨_, rfl⟩
      have eq0 : ((j * 3 : Nat) : Int) + (k : Int) = (q : Int) := by omega
      rw [eq0]
      have hq2 : q ≤ 99000000 := by omega
      have HQ : Hid (j * 3 + k = q) := hq
      have t0 : Tr lo hi w wr := HT.out
      obtain ⟨v0, c0, n0, f0⟩ := WrI.at' (WrI.tr HR.out t0) (i := j * 3) (by omega)
      have t1 := t0.set hg c0 n0 (noSl_int .i64 (q : Int))
      obtain ⟨v1, c1, n1, f1⟩ := WrI.at' (WrI.tr HR.out t1) (i := j * 3 + 1) (by omega)
      have t2 := t1.set hg c1 n1 (noSl_int .i64 ((q : Int) + 1))
      obtain ⟨v2, c2, n2, f2⟩ := WrI.at' (WrI.tr HR.out t2) (i := j * 3 + 2) (by omega)
      have HT3 : Hid (Tr lo hi w ((((wr.setCell ⟨g, j * 3, none⟩ (.int .i64 (q : Int))).setCell ⟨g, j * 3 + 1, none⟩ (.int .i64 ((q : Int) + 1))).setCell ⟨g, j * 3 + 2, none⟩ (.int .i64 ((q : Int) + 2))))) := t2.set hg c2 n2 (noSl_int .i64 ((q : Int) + 2))
      clear t0 t1 t2 n0 n1 n2 eq0 hq
      go_wp2_with fail
      go_roundw
      case rel => exact ⟨j + 1, by go_num, by have := HQ.out; rw [show (((j + 1) * 3 : Nat) : Int) + (k : Int) = (q : Int) + 3 by omega]; try rfl, by omega, HT3.out⟩
      case measure => simp [intOf]; omega
    · obtain rfl : j = n := by omega
      go_wp2_with fail
      go_ret
      exact ⟨rfl, HT.out⟩
set_option maxHeartbeats 8000000 in
set_option maxRecDepth 100000 in
theorem markFrameS_w (w : World) (lo hi g cap n k : Nat) (hg : lo ≤ g ∧ g < hi) (hR : WrI w g 77 (n * 3)) (hn : n ≤ 1048576) (hk1 : 1 ≤ k) (hk : k ≤ 90000000) :
    Calls Try.prog 35 #[.slice (some ⟨g, 0, none⟩) n cap, .int .i64 (k : Int)] w fun e w' => e = .returned (.int .i64 (((n * 3 : Nat) : Int) + (k : Int))) ∧ Tr lo hi w w' := by
  have HR : Hid _ := hR
  clear hR
  go_enter Try.func35, Try.ntmps35
  go_wp2_with fail
  go_loopw [1, 5] (fun mv iv wr => ∃ j : Nat, iv = .int .i64 j ∧ mv = .int .i64 (((j * 3 : Nat) : Int) + (k : Int)) ∧ j ≤ n ∧ Hid (Tr lo hi w wr)) (fun _ i _ => n - (intOf i).toNat)
  case atStart => exact ⟨0, rfl, by simp, Nat.zero_le _, Tr.refl _ _ _⟩
  case round =>
    obtain ⟨j, rfl, rfl, hj, HT⟩ := hrel
    by_cases hlt : j < n
    · have hlt' : (j : Int) < (n : Int) := by omega
      obtain ⟨q, hq⟩ : ∃ q : Nat, j * 3 + k = q := ⟨_, rfl⟩
      have eq0 : ((j * 3 : Nat) : Int) + (k : Int) = (q : Int) := by omega
      rw [eq0]
      have hq2 : q ≤ 99000000 := by omega
      have HQ : Hid (j * 3 + k = q) := hq
      have t0 : Tr lo hi w wr := HT.out
      obtain ⟨v0, c0, n0, f0⟩ := WrI.at' (WrI.tr HR.out t0) (i := j * 3) (by omega)
      have t1 := t0.set hg c0 n0 (noSl_int .i64 (q : Int))
      obtain ⟨v1, c1, n1, f1⟩ := WrI.at' (WrI.tr HR.out t1) (i := j * 3 + 1) (by omega)
      have t2 := t1.set hg c1 n1 (noSl_int .i64 ((q : Int) + 1))
      obtain ⟨v2, c2, n2, f2⟩ := WrI.at' (WrI.tr HR.out t2) (i := j * 3 + 2) (by omega)
      have HT3 : Hid (Tr lo hi w ((((wr.setCell ⟨g, j * 3, none⟩ (.int .i64 (q : Int))).setCell ⟨g, j * 3 + 1, none⟩ (.int .i64 ((q : Int) + 1))).setCell ⟨g, j * 3 + 2, none⟩ (.int .i64 ((q : Int) + 2))))) := t2.set hg c2 n2 (noSl_int .i64 ((q : Int) + 2))
      clear t0 t1 t2 n0 n1 n2 eq0 hq
      go_wp2_with fail
      go_roundw
      case rel => exact ⟨j + 1, by go_num, by have := HQ.out; rw [show (((j + 1) * 3 : Nat) : Int) + (k : Int) = (q : Int) + 3 by omega]; try rfl, by omega, HT3.out⟩
      case measure => simp [intOf]; omega
    · obtain rfl : j = n := by omega
      go_wp2_with fail
      go_ret
      exact ⟨rfl, HT.out⟩
/-- A row of codes that may be marked, their steps in blocks between two numbers. -/
def CodW (W : World) (lo hi g : Nat) (cs : List Cod) : Prop := (∃ vs, Cells W g 90 vs ∧ vs.size = cs.length * 3 ∧ ∀ j, j < cs.length → ∃ a b, vs[j * 3]? = some a ∧ NoSl a ∧ vs[j * 3 + 1]? = some b ∧ NoSl b) ∧
  ∀ (j : Nat) (c : Cod), cs[j]? = some c → ∃ x, (lo ≤ x ∧ x < hi) ∧ W.cell? ⟨g, j * 3 + 2, none⟩ = some (.slice (some ⟨x, 0, none⟩) c.ss.length c.ss.length) ∧ WrI W x 99 (c.ss.length * 3)
theorem CodW.tr {W W' : World} {lo hi g : Nat} {cs : List Cod} (h : CodW W lo hi g cs) (k : Tr lo hi W W') : CodW W' lo hi g cs := by
  obtain ⟨⟨vs, h1, h2, h3⟩, h4⟩ := h
  obtain ⟨us, k1, k2, k3⟩ := k.shp g _ vs h1
  refine ⟨⟨us, k1, k2.trans h2, fun j hj => ?_⟩, fun j c hc => ?_⟩
  · obtain ⟨a, b, ha, na, hb, nb⟩ := h3 j hj
    obtain ⟨a', ha', ya, _⟩ := k3 _ a ha
    obtain ⟨b', hb', yb, _⟩ := k3 _ b hb
    exact ⟨a', b', ha', ya na, hb', yb nb⟩
  · obtain ⟨x, hx, hs, hw⟩ := h4 j c hc
    rw [h1.cell] at hs
    obtain ⟨v', hv', _, yv⟩ := k3 _ _ hs
    rw [yv (fun hn => hn _ _ _ rfl)] at hv'
    exact ⟨x, hx, by rw [k1.cell]; exact hv', hw.tr k⟩
theorem CodW.at0 {W : World} {lo hi g j : Nat} {cs : List Cod} (h : CodW W lo hi g cs) (hj : j < cs.length) : ∃ v, W.cell? ⟨g, j * 3, none⟩ = some v ∧ NoSl v ∧ W.frozen? ⟨g, j * 3, none⟩ = false := by
  obtain ⟨⟨vs, h1, h2, h3⟩, _⟩ := h
  obtain ⟨a, b, ha, na, _, _⟩ := h3 j hj
  exact ⟨a, by rw [h1.cell]; exact ha, na, h1.frozen _⟩
theorem CodW.at1 {W : World} {lo hi g j : Nat} {cs : List Cod} (h : CodW W lo hi g cs) (hj : j < cs.length) : ∃ v, W.cell? ⟨g, j * 3 + 1, none⟩ = some v ∧ NoSl v ∧ W.frozen? ⟨g, j * 3 + 1, none⟩ = false := by
  obtain ⟨⟨vs, h1, h2, h3⟩, _⟩ := h
  obtain ⟨a, b, _, _, hb, nb⟩ := h3 j hj
  exact ⟨b, by rw [h1.cell]; exact hb, nb, h1.frozen _⟩
def cntC (cs : List Cod) : Nat := cs.length * 2 + sumC cs * 3
theorem cntC_take {cs : List Cod} {j : Nat} {c : Cod} (h : cs[j]? = some c) : cntC (cs.take (j + 1)) = cntC (cs.take j) + 2 + c.ss.length * 3 := by
  have hj := (List.getElem?_eq_some_iff.1 h).1
  have := sumC_take h
  unfold cntC
  rw [this, List.length_take, List.length_take, Nat.min_eq_left (by omega), Nat.min_eq_left (by omega)]
  omega
theorem cntC_le (cs : List Cod) (k : Nat) : cntC (cs.take k) ≤ cntC cs := by
  have := sumC_le cs k
  unfold cntC
  rw [List.length_take]
  omega
set_option maxHeartbeats 8000000 in
set_option maxRecDepth 100000 in
theorem markCodeS_w (w : World) (lo hi g cap : Nat) (cs : List Cod) (k : Nat) (hg : lo ≤ g ∧ g < hi) (hR : CodW w lo hi g cs) (hn : cs.length ≤ 1048576) (hs : sumC cs ≤ 1048576) (hk1 : 1 ≤ k) (hk : k ≤ 80000000) :
    Calls Try.prog 44 #[.slice (some ⟨g, 0, none⟩) cs.length cap, .int .i64 (k : Int)] w fun e w' => e = .returned (.int .i64 ((cntC cs + k : Nat) : Int)) ∧ Tr lo hi w w' := by
  have HR : Hid _ := hR
  have hcn : cntC cs ≤ 5300000 := by unfold cntC; omega
  clear hR
  go_enter Try.func44, Try.ntmps44
  go_wp2_with fail
  go_loopw [1, 5] (fun mv iv wr => ∃ j : Nat, iv = .int .i64 j ∧ mv = .int .i64 ((cntC (cs.take j) + k : Nat) : Int) ∧ j ≤ cs.length ∧ Hid (Tr lo hi w wr)) (fun _ i _ => cs.length - (intOf i).toNat)
  case atStart => exact ⟨0, rfl, by simp [cntC, sumC], Nat.zero_le _, Tr.refl _ _ _⟩
  case round =>
    obtain ⟨j, rfl, rfl, hj, HT⟩ := hrel
    have hle := cntC_le cs j
    obtain ⟨q, hq⟩ : ∃ q : Nat, cntC (cs.take j) + k = q := ⟨_, rfl⟩
    rw [hq]
    have hq2 : q ≤ 86000000 := by omega
    have HQ : Hid (cntC (cs.take j) + k = q) := hq
    by_cases hlt : j < cs.length
    · have hlt' : (j : Int) < (cs.length : Int) := by omega
      obtain ⟨c, hc⟩ : ∃ c, cs[j]? = some c := ⟨_, List.getElem?_eq_getElem hlt⟩
      have hct := cntC_take hc
      have hle2 := cntC_le cs (j + 1)
      have hss : c.ss.length ≤ 1048576 := by have := sumC_mem (List.mem_of_getElem? hc); omega
      have HCt : Hid _ := hct
      have t0 : Tr lo hi w wr := HT.out
      obtain ⟨v0, c0, n0, f0⟩ := CodW.at0 (CodW.tr HR.out t0) (j := j) hlt
      have t1 := t0.set hg c0 n0 (noSl_int .i64 (q : Int))
      obtain ⟨v1, c1, n1, f1⟩ := CodW.at1 (CodW.tr HR.out t1) (j := j) hlt
      have t2 := t1.set hg c1 n1 (noSl_int .i64 ((q : Int) + 1))
      obtain ⟨x, hx, c2, hw⟩ := (CodW.tr HR.out t2).2 j c hc
      have hM := markStepS_w _ lo hi x c.ss.length c.ss.length (q + 2) hx hw hss (by omega) (by omega)
      have eq2 : ((q + 2 : Nat) : Int) = (q : Int) + 2 := by omega
      rw [eq2] at hM
      have HT2 : Hid _ := t2
      clear t0 t1 t2 n0 n1 hq hct hle hle2 hx hw hc eq2
      go_wp2_with (go_at_call 49; refine hM.mono ?_; rintro e w3 ⟨rfl, t3⟩)
      have HT3 : Hid _ := Tr.trans HT2.out t3
      go_roundw
      case rel => exact ⟨j + 1, by go_num, (by have := HQ.out; have := HCt.out; rw [show ((cntC (cs.take (j + 1)) + k : Nat) : Int) = ((c.ss.length * 3 : Nat) : Int) + ((q : Int) + 2) by omega]; first | rfl | simp), by omega, HT3.out⟩
      case measure => simp [intOf]; omega
    · obtain rfl : j = cs.length := by omega
      have HE : Hid (q = cntC cs + k) := by rw [Hid, ← hq, List.take_length]
      go_wp2_with fail
      go_ret
      exact ⟨by rw [← HE.out]; rfl, HT.out⟩
end Go.Proofs.Ytgempjjnfpmndaa
