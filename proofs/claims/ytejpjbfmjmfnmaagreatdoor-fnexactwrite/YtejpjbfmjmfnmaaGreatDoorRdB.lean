/-
  The contracts of chapter 11's readers (readName exactly, the others weakly), and of readToken at a text's first byte, as far as names go.
-/
import Derived.Test.YtejpjbfmjmfnmaaGreatDoorEnvA
namespace Go.Proofs.YtejpjbfmjmfnmaaGreatDoor
open Go.RowKit
set_option linter.unusedSimpArgs false

set_option maxHeartbeats 8000000 in
set_option maxRecDepth 100000 in
theorem readName_ok (w : World) (B : Nat) (t : ByteArray) (a : Nat) (hB : Cells w B 3 #[.int .i64 (a : Nat)]) (ha : a ≤ t.size) (ht : t.size ≤ 1048576) :
    Calls Tryz.prog 115 #[.string t, .pointer (some ⟨B, 0, none⟩)] w fun e w' => e = .returned (.tuple #[.string (t.extract a (runE nameB t a)), .bool (decide (runE nameB t a ≤ a + 12))]) ∧ Keeps B w w' := by
  have hS := span_inName w B t a hB ha ht
  have hle := runE_le (p := nameB) (t := t) a
  have hsz : (t.extract a (runE nameB t a)).size = runE nameB t a - a := by rw [ByteArray.size_extract]; omega
  obtain ⟨X, hX⟩ : ∃ X, t.extract a (runE nameB t a) = X := ⟨_, rfl⟩
  rw [hX] at hS hsz
  rw [hX]
  clear hB
  by_cases hb : runE nameB t a ≤ a + 12
  · have q1 : (X.size : Int) ≤ 12 := by omega
    rw [decide_eq_true hb]
    clear hb hsz hle hX
    go_enter Tryz.func115, Tryz.ntmps115
    go_wp2_with (go_at_call 123; refine hS.mono ?_; rintro e w1 ⟨rfl, hC, hK⟩)
    exact bodyPost_ret (v := .tuple #[.string X, .bool true]) (by simp [results, Tryz.results115, go_sem]) rfl ⟨rfl, hK⟩
  · have q1 : ¬ (X.size : Int) ≤ 12 := by omega
    rw [decide_eq_false hb]
    clear hb hsz hle hX
    go_enter Tryz.func115, Tryz.ntmps115
    go_wp2_with (go_at_call 123; refine hS.mono ?_; rintro e w1 ⟨rfl, hC, hK⟩)
    exact bodyPost_ret (v := .tuple #[.string X, .bool false]) (by simp [results, Tryz.results115, go_sem]; omega) rfl ⟨rfl, hK⟩
set_option maxHeartbeats 8000000 in
set_option maxRecDepth 100000 in
theorem readNum_ok (w0 w : World) (hE : EnvA w0) (h0 : Kept w0 w) (B : Nat) (hB0 : w0.heap.size ≤ B) (t : ByteArray) (a : Nat) (hB : Cells w B 3 #[.int .i64 (a : Nat)]) (ha : a ≤ t.size) (ht : t.size ≤ 1048576) :
    Calls Tryz.prog 117 #[.string t, .pointer (some ⟨B, 0, none⟩)] w fun e w' => ∃ n b, e = .returned (.tuple #[.int .i64 n, .bool b]) ∧ Keeps B w w' := by
  have hS := span_isDigit w B t a hB ha ht
  obtain ⟨X, hX⟩ : ∃ X, t.extract a (runE digB t a) = X := ⟨_, rfl⟩
  have hXs : X.size ≤ 1048576 := by rw [← hX]; exact Nat.le_trans (extract_le _ _ _) ht
  rw [hX] at hS
  have HE : Hid (∀ u, Keeps B w u → EnvA u) := fun u hu => hE.kept (Below.trans h0 (hu.below hB0 h0.size))
  clear hX hB hE h0
  go_enter Tryz.func117, Tryz.ntmps117
  go_upto_region 3 with (first
    | (have _tk := hK; go_at_call 131; refine (Atoi_any X hXs w1 (HE.out _ hK)).mono ?_; rintro e w2 ⟨n, er, rfl, hor, hk2⟩)
    | (go_at_call 123; refine hS.mono ?_; rintro e w1 ⟨rfl, hC, hK⟩))
  have K2 : Keeps B w w2 := hK.trans ⟨hk2.os, hk2.tape, hk2.output, hk2.size, fun k h _ => hk2.block k h⟩
  rcases hor with ⟨rfl, hn1, hn2⟩ | ⟨tp, p, rfl⟩
  · by_cases hm : n ≤ 2147483647
    · have hI := Itoa_any n ⟨hn1, hn2⟩ w2 (HE.out _ K2)
      clear hn1 hn2
      go_wp2_with (go_at_call 100; refine hI.mono ?_; rintro e w3 ⟨s3, rfl, hk3⟩)
      exact bodyPost_ret (v := .tuple #[.int .i64 n, .bool (s3.toList == X.toList)]) (by simp [results, Tryz.results117, go_sem]) rfl ⟨_, _, rfl, K2.trans ⟨hk3.os, hk3.tape, hk3.output, hk3.size, fun k h _ => hk3.block k h⟩⟩
    · have q1 : decide (n ≤ 2147483647) = false := decide_eq_false hm
      clear hn1 hn2 hm
      go_wp2_with fail
      exact bodyPost_ret (v := .tuple #[.int .i64 n, .bool false]) (by simp [results, Tryz.results117, go_sem]) rfl ⟨_, _, rfl, K2⟩
  · go_wp2_with fail
    exact bodyPost_ret (v := .tuple #[.int .i64 n, .bool false]) (by simp [results, Tryz.results117, go_sem]) rfl ⟨_, _, rfl, K2⟩
set_option maxHeartbeats 8000000 in
set_option maxRecDepth 100000 in
theorem readQuoted_ok (w : World) (B : Nat) (t : ByteArray) (hB : Cells w B 3 #[.int .i64 0]) (ha : 0 < t.size) (ht : t.size ≤ 1048576) :
    Calls Tryz.prog 118 #[.string t, .pointer (some ⟨B, 0, none⟩)] w fun e w' => ∃ s b, e = .returned (.tuple #[.string s, .bool b]) ∧ Keeps B w w' := by
  have hC1 : Cells (w.setCell ⟨B, 0, none⟩ (.int .i64 1)) B 3 #[.int .i64 ((1 : Nat) : Int)] := hB.set1 _
  have hS := span_inText _ B t 1 hC1 ha ht
  have hle := runE_le (p := textB) (t := t) 1
  obtain ⟨X, hX⟩ : ∃ X, t.extract 1 (runE textB t 1) = X := ⟨_, rfl⟩
  obtain ⟨k, hk⟩ : ∃ X, runE textB t 1 = X := ⟨_, rfl⟩
  rw [hX, hk] at hS
  rw [hk] at hle
  have K1 : Keeps B w (w.setCell ⟨B, 0, none⟩ (.int .i64 1)) := (Keeps.refl _ _).setCell _ _
  have c0 := hB.cell 0; have f0 := hB.frozen 0; have l0 := hB.lt
  simp at c0
  clear hX hk hB hC1
  have q5 : (k : Int) + 1 ≤ 9223372036854775807 := by omega
  by_cases hlt : k < t.size
  · have q1 : (k : Int) < (t.size : Int) := by omega
    cases hq : ((t[k].toNat : Int) == 34) with
    | false =>
      have q2 : ((t[k].toNat : Int) == 34) = false := hq
      clear hq hle
      go_enter Tryz.func118, Tryz.ntmps118
      go_wp2_with (go_at_call 123; refine hS.mono ?_; rintro e w1 ⟨rfl, hC, hK⟩; have c1 := hC.cell 0; have f1 := hC.frozen 0; have l1 := hC.lt; simp at c1)
      exact bodyPost_ret (v := .tuple #[.string X, .bool false]) (by simp [results, Tryz.results118, go_sem]) rfl ⟨_, _, rfl, (K1.trans hK).setCell _ _⟩
    | true =>
      have q2 : ((t[k].toNat : Int) == 34) = true := hq
      clear hq hle
      by_cases h30 : X.size ≤ 30
      · have q6 : (X.size : Int) ≤ 30 := by omega
        go_enter Tryz.func118, Tryz.ntmps118
        go_wp2_with (go_at_call 123; refine hS.mono ?_; rintro e w1 ⟨rfl, hC, hK⟩; have c1 := hC.cell 0; have f1 := hC.frozen 0; have l1 := hC.lt; simp at c1)
        exact bodyPost_ret (v := .tuple #[.string X, .bool true]) (by simp [results, Tryz.results118, go_sem]) rfl ⟨_, _, rfl, (K1.trans hK).setCell _ _⟩
      · have q6 : ¬ (X.size : Int) ≤ 30 := by omega
        go_enter Tryz.func118, Tryz.ntmps118
        go_wp2_with (go_at_call 123; refine hS.mono ?_; rintro e w1 ⟨rfl, hC, hK⟩; have c1 := hC.cell 0; have f1 := hC.frozen 0; have l1 := hC.lt; simp at c1)
        exact bodyPost_ret (v := .tuple #[.string X, .bool false]) (by simp [results, Tryz.results118, go_sem]; omega) rfl ⟨_, _, rfl, (K1.trans hK).setCell _ _⟩
  · have q1 : ¬ (k : Int) < (t.size : Int) := by omega
    clear hle
    go_enter Tryz.func118, Tryz.ntmps118
    go_wp2_with (go_at_call 123; refine hS.mono ?_; rintro e w1 ⟨rfl, hC, hK⟩; have c1 := hC.cell 0; have f1 := hC.frozen 0; have l1 := hC.lt; simp at c1)
    exact bodyPost_ret (v := .tuple #[.string X, .bool false]) (by simp [results, Tryz.results118, go_sem]) rfl ⟨_, _, rfl, (K1.trans hK).setCell _ _⟩
set_option maxHeartbeats 8000000 in
set_option maxRecDepth 100000 in
theorem readSign_ok (w : World) (B : Nat) (t : ByteArray) (hB : Cells w B 3 #[.int .i64 0]) (ha : 0 < t.size) (ht : t.size ≤ 1048576) :
    Calls Tryz.prog 119 #[.string t, .pointer (some ⟨B, 0, none⟩)] w fun e w' => ∃ s b, e = .returned (.tuple #[.string s, .bool b]) ∧ Keeps B w w' := by
  have c0 := hB.cell 0; have f0 := hB.frozen 0; have l0 := hB.lt
  simp at c0
  obtain ⟨c, hc⟩ : ∃ c : UInt8, t.extract 0 1 = ⟨#[c]⟩ := by
    have hs : (t.extract 0 1).size = 1 := by rw [ByteArray.size_extract]; omega
    cases hX : t.extract 0 1 with
    | mk arr =>
      cases arr with
      | mk l =>
        rw [hX] at hs
        match l, hs with
        | [], hs => exact absurd hs (by decide)
        | [c], _ => exact ⟨c, rfl⟩
        | a :: b :: r, hs => simp [ByteArray.size] at hs
  have hcc : (⟨#[c]⟩ : ByteArray).extract 0 1 = ⟨#[c]⟩ := by apply ByteArray.ext; simp [ByteArray.data_extract]
  have hcs : (⟨#[c]⟩ : ByteArray).size = 1 := rfl
  have q1 : (1 : Int) ≤ (t.size : Int) := by omega
  obtain ⟨b, hb⟩ : ∃ b, Lib.hasPrefix t.data.toList (ByteArray.mk #[61, 61]).data.toList = b := ⟨_, rfl⟩
  have hP := fun u => lib_strings_HasPrefix t ⟨#[61, 61]⟩ u
  simp only [hb] at hP
  have HS1 := fun u => lib_strings_Contains_one ⟨#[40, 41, 123, 125, 44, 59, 58, 46, 61, 43, 45, 42, 60, 33]⟩ c u
  have HS2 := fun u => lib_strings_Contains_one ⟨#[40, 41, 123, 125, 44, 59, 58, 46, 61, 43, 45, 42, 60, 33]⟩ 61 u
  obtain ⟨d, hd⟩ : ∃ d, decide (0 ≤ Lib.indexByte (ByteArray.mk #[40, 41, 123, 125, 44, 59, 58, 46, 61, 43, 45, 42, 60, 33]).data.toList c) = d := ⟨_, rfl⟩
  obtain ⟨d2, hd2⟩ : ∃ d, decide (0 ≤ Lib.indexByte (ByteArray.mk #[40, 41, 123, 125, 44, 59, 58, 46, 61, 43, 45, 42, 60, 33]).data.toList 61) = d := ⟨_, rfl⟩
  simp only [hd] at HS1
  simp only [hd2] at HS2
  clear hb hd hd2
  go_enter Tryz.func119, Tryz.ntmps119
  go_wp2_with fail
  go_quiet (fail)
  have KD : Keeps B w (w.drewN nq) := (Keeps.refl _ _).drewN nq
  have hBd : Cells (w.drewN nq) B 3 #[.int .i64 0] := hB
  generalize w.drewN nq = w1 at KD hBd ⊢
  clear c0 f0 l0 hB
  have c0 := hBd.cell 0; have f0 := hBd.frozen 0; have l0 := hBd.lt
  simp at c0
  have hcc2 : (⟨#[61, 61]⟩ : ByteArray).extract 0 1 = ⟨#[61]⟩ := by decide
  cases b
  · go_wp2_with (first | (go_at_call 132; refine (hP _).mono ?_; rintro e wx ⟨rfl, rfl⟩) | (go_at_call 133; refine (HS1 _).mono ?_; rintro e wx ⟨rfl, rfl⟩))
    exact bodyPost_ret (v := .tuple #[.string ⟨#[c]⟩, .bool d]) (by simp [results, Tryz.results119, go_sem]) rfl ⟨_, _, rfl, KD.setCell _ _⟩
  · go_wp2_with (first | (go_at_call 132; refine (hP _).mono ?_; rintro e wx ⟨rfl, rfl⟩) | (go_at_call 133; refine (HS2 _).mono ?_; rintro e wx ⟨rfl, rfl⟩))
    exact bodyPost_ret (v := .tuple #[.string ⟨#[61, 61]⟩, .bool d2]) (by simp [results, Tryz.results119, go_sem]) rfl ⟨_, _, rfl, KD.setCell _ _⟩
end Go.Proofs.YtejpjbfmjmfnmaaGreatDoor
