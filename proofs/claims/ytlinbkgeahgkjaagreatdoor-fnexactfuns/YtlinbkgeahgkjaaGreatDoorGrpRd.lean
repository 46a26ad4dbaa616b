/-
  The contracts of chapter 11's readers (readName exactly, the others weakly), and of readToken at a text's first byte, as far as names go.
  The contract of chapter 11's readToken at a text's first byte, as far as names go.
  The contracts of chapters 11 and 13's words and names: wordsOf, isWord, isName, isProperty, isQuotable, areNames.
-/
import Derived.Test.YtlinbkgeahgkjaaGreatDoorZEnvA
import Derived.Test.YtlinbkgeahgkjaaGreatDoorZSpnP
namespace Go.Proofs.YtlinbkgeahgkjaaGreatDoor
open Go.RowKit
set_option linter.unusedSimpArgs false

set_option maxHeartbeats 8000000 in
set_option maxRecDepth 100000 in
theorem readName_ok (w : World) (B : Nat) (t : ByteArray) (a : Nat) (hB : Cells w B 3 #[.int .i64 (a : Nat)]) (ha : a ≤ t.size) (ht : t.size ≤ 1048576) :
    Calls Tryz.prog 108 #[.string t, .pointer (some ⟨B, 0, none⟩)] w fun e w' => e = .returned (.tuple #[.string (t.extract a (runE nameB t a)), .bool (decide (runE nameB t a ≤ a + 12))]) ∧ Keeps B w w' := by
  have hS := span_inName w B t a hB ha ht
  have hle := runE_le (p := nameB) (t := t) a
  have hsz : (t.extract a (runE nameB t a)).size = runE nameB t a - a := by rw [ByteArray.size_extract]; omega
  obtain ⟨X, hX⟩ : ∃ X, t.extract a (runE nameB t a) = X := ⟨_, rfl⟩
  rw [hX] at hS hsz
  rw [hX]
  clear hB
  by_cases hb : runE nameB t a ≤ a + 12
  · have q1 : (X.size : Int) ≤ 12 := by omega
    rw [decide_eq_true hb]
    clear hb hsz hle hX
    go_enter Tryz.func108, Tryz.ntmps108
    go_wp2_with (go_at_call 116; refine hS.mono ?_; rintro e w1 ⟨rfl, hC, hK⟩)
    exact bodyPost_ret (v := .tuple #[.string X, .bool true]) (by simp [results, Tryz.results108, go_sem]) rfl ⟨rfl, hK⟩
  · have q1 : ¬ (X.size : Int) ≤ 12 := by omega
    rw [decide_eq_false hb]
    clear hb hsz hle hX
    go_enter Tryz.func108, Tryz.ntmps108
    go_wp2_with (go_at_call 116; refine hS.mono ?_; rintro e w1 ⟨rfl, hC, hK⟩)
    exact bodyPost_ret (v := .tuple #[.string X, .bool false]) (by simp [results, Tryz.results108, go_sem]; omega) rfl ⟨rfl, hK⟩
set_option maxHeartbeats 8000000 in
set_option maxRecDepth 100000 in
theorem readNum_ok (w0 w : World) (hE : EnvA w0) (h0 : Kept w0 w) (B : Nat) (hB0 : w0.heap.size ≤ B) (t : ByteArray) (a : Nat) (hB : Cells w B 3 #[.int .i64 (a : Nat)]) (ha : a ≤ t.size) (ht : t.size ≤ 1048576) :
    Calls Tryz.prog 110 #[.string t, .pointer (some ⟨B, 0, none⟩)] w fun e w' => ∃ n b, e = .returned (.tuple #[.int .i64 n, .bool b]) ∧ Keeps B w w' := by
  have hS := span_isDigit w B t a hB ha ht
  obtain ⟨X, hX⟩ : ∃ X, t.extract a (runE digB t a) = X := ⟨_, rfl⟩
  have hXs : X.size ≤ 1048576 := by rw [← hX]; exact Nat.le_trans (extract_le _ _ _) ht
  rw [hX] at hS
  have HE : Hid (∀ u, Keeps B w u → EnvA u) := fun u hu => hE.kept (Below.trans h0 (hu.below hB0 h0.size))
  clear hX hB hE h0
  go_enter Tryz.func110, Tryz.ntmps110
  go_upto_region 3 with (first
    | (have _tk := hK; go_at_call 126; refine (Atoi_any X hXs w1 (HE.out _ hK)).mono ?_; rintro e w2 ⟨n, er, rfl, hor, hk2⟩)
    | (go_at_call 116; refine hS.mono ?_; rintro e w1 ⟨rfl, hC, hK⟩))
  have K2 : Keeps B w w2 := hK.trans ⟨hk2.os, hk2.tape, hk2.output, hk2.size, fun k h _ => hk2.block k h⟩
  rcases hor with ⟨rfl, hn1, hn2⟩ | ⟨tp, p, rfl⟩
  · by_cases hm : n ≤ 2147483647
    · have hI := Itoa_any n ⟨hn1, hn2⟩ w2 (HE.out _ K2)
      clear hn1 hn2
      go_wp2_with (go_at_call 95; refine hI.mono ?_; rintro e w3 ⟨s3, rfl, hk3⟩)
      exact bodyPost_ret (v := .tuple #[.int .i64 n, .bool (s3.toList == X.toList)]) (by simp [results, Tryz.results110, go_sem]) rfl ⟨_, _, rfl, K2.trans ⟨hk3.os, hk3.tape, hk3.output, hk3.size, fun k h _ => hk3.block k h⟩⟩
    · have q1 : decide (n ≤ 2147483647) = false := decide_eq_false hm
      clear hn1 hn2 hm
      go_wp2_with fail
      exact bodyPost_ret (v := .tuple #[.int .i64 n, .bool false]) (by simp [results, Tryz.results110, go_sem]) rfl ⟨_, _, rfl, K2⟩
  · go_wp2_with fail
    exact bodyPost_ret (v := .tuple #[.int .i64 n, .bool false]) (by simp [results, Tryz.results110, go_sem]) rfl ⟨_, _, rfl, K2⟩
set_option maxHeartbeats 8000000 in
set_option maxRecDepth 100000 in
theorem readQuoted_ok (w : World) (B : Nat) (t : ByteArray) (hB : Cells w B 3 #[.int .i64 0]) (ha : 0 < t.size) (ht : t.size ≤ 1048576) :
    Calls Tryz.prog 111 #[.string t, .pointer (some ⟨B, 0, none⟩)] w fun e w' => ∃ s b, e = .returned (.tuple #[.string s, .bool b]) ∧ Keeps B w w' := by
  have hC1 : Cells (w.setCell ⟨B, 0, none⟩ (.int .i64 1)) B 3 #[.int .i64 ((1 : Nat) : Int)] := hB.set1 _
  have hS := span_inText _ B t 1 hC1 ha ht
  have hle := runE_le (p := textB) (t := t) 1
  obtain ⟨X, hX⟩ : ∃ X, t.extract 1 (runE textB t 1) = X := ⟨_, rfl⟩
  obtain ⟨k, hk⟩ : ∃ X, runE textB t 1 = X := ⟨_, rfl⟩
  rw [hX, hk] at hS
  rw [hk] at hle
  have K1 : Keeps B w (w.setCell ⟨B, 0, none⟩ (.int .i64 1)) := (Keeps.refl _ _).setCell _ _
  have c0 := hB.cell 0; have f0 := hB.frozen 0; have l0 := hB.lt
  simp at c0
  clear hX hk hB hC1
  have q5 : (k : Int) + 1 ≤ 9223372036854775807 := by omega
  by_cases hlt : k < t.size
  · have q1 : (k : Int) < (t.size : Int) := by omega
    cases hq : ((t[k].toNat : Int) == 34) with
    | false =>
      have q2 : ((t[k].toNat : Int) == 34) = false := hq
      clear hq hle
      go_enter Tryz.func111, Tryz.ntmps111
      go_wp2_with (go_at_call 116; refine hS.mono ?_; rintro e w1 ⟨rfl, hC, hK⟩; have c1 := hC.cell 0; have f1 := hC.frozen 0; have l1 := hC.lt; simp at c1)
      exact bodyPost_ret (v := .tuple #[.string X, .bool false]) (by simp [results, Tryz.results111, go_sem]) rfl ⟨_, _, rfl, (K1.trans hK).setCell _ _⟩
    | true =>
      have q2 : ((t[k].toNat : Int) == 34) = true := hq
      clear hq hle
      by_cases h30 : X.size ≤ 30
      · have q6 : (X.size : Int) ≤ 30 := by omega
        go_enter Tryz.func111, Tryz.ntmps111
        go_wp2_with (go_at_call 116; refine hS.mono ?_; rintro e w1 ⟨rfl, hC, hK⟩; have c1 := hC.cell 0; have f1 := hC.frozen 0; have l1 := hC.lt; simp at c1)
        exact bodyPost_ret (v := .tuple #[.string X, .bool true]) (by simp [results, Tryz.results111, go_sem]) rfl ⟨_, _, rfl, (K1.trans hK).setCell _ _⟩
      · have q6 : ¬ (X.size : Int) ≤ 30 := by omega
        go_enter Tryz.func111, Tryz.ntmps111
        go_wp2_with (go_at_call 116; refine hS.mono ?_; rintro e w1 ⟨rfl, hC, hK⟩; have c1 := hC.cell 0; have f1 := hC.frozen 0; have l1 := hC.lt; simp at c1)
        exact bodyPost_ret (v := .tuple #[.string X, .bool false]) (by simp [results, Tryz.results111, go_sem]; omega) rfl ⟨_, _, rfl, (K1.trans hK).setCell _ _⟩
  · have q1 : ¬ (k : Int) < (t.size : Int) := by omega
    clear hle
    go_enter Tryz.func111, Tryz.ntmps111
    go_wp2_with (go_at_call 116; refine hS.mono ?_; rintro e w1 ⟨rfl, hC, hK⟩; have c1 := hC.cell 0; have f1 := hC.frozen 0; have l1 := hC.lt; simp at c1)
    exact bodyPost_ret (v := .tuple #[.string X, .bool false]) (by simp [results, Tryz.results111, go_sem]) rfl ⟨_, _, rfl, (K1.trans hK).setCell _ _⟩
set_option maxHeartbeats 8000000 in
set_option maxRecDepth 100000 in
theorem readSign_ok (w : World) (B : Nat) (t : ByteArray) (hB : Cells w B 3 #[.int .i64 0]) (ha : 0 < t.size) (ht : t.size ≤ 1048576) :
    Calls Tryz.prog 112 #[.string t, .pointer (some ⟨B, 0, none⟩)] w fun e w' => ∃ s b, e = .returned (.tuple #[.string s, .bool b]) ∧ Keeps B w w' := by
  have c0 := hB.cell 0; have f0 := hB.frozen 0; have l0 := hB.lt
  simp at c0
  obtain ⟨c, hc⟩ : ∃ c : UInt8, t.extract 0 1 = ⟨#[c]⟩ := by
    have hs : (t.extract 0 1).size = 1 := by rw [ByteArray.size_extract]; omega
    cases hX : t.extract 0 1 with
    | mk arr =>
      cases arr with
      | mk l =>
        rw [hX] at hs
        match l, hs with
        | [], hs => exact absurd hs (by decide)
        | [c], _ => exact ⟨c, rfl⟩
        | a :: b :: r, hs => simp [ByteArray.size] at hs
  have hcc : (⟨#[c]⟩ : ByteArray).extract 0 1 = ⟨#[c]⟩ := by apply ByteArray.ext; simp [ByteArray.data_extract]
  have hcs : (⟨#[c]⟩ : ByteArray).size = 1 := rfl
  have q1 : (1 : Int) ≤ (t.size : Int) := by omega
  obtain ⟨b, hb⟩ : ∃ b, Lib.hasPrefix t.data.toList (ByteArray.mk #[61, 61]).data.toList = b := ⟨_, rfl⟩
  have hP := fun u => lib_strings_HasPrefix t ⟨#[61, 61]⟩ u
  simp only [hb] at hP
  have HS1 := fun u => lib_strings_Contains_one ⟨#[40, 41, 123, 125, 44, 59, 58, 46, 61, 43, 45, 42, 60, 33]⟩ c u
  have HS2 := fun u => lib_strings_Contains_one ⟨#[40, 41, 123, 125, 44, 59, 58, 46, 61, 43, 45, 42, 60, 33]⟩ 61 u
  obtain ⟨d, hd⟩ : ∃ d, decide (0 ≤ Lib.indexByte (ByteArray.mk #[40, 41, 123, 125, 44, 59, 58, 46, 61, 43, 45, 42, 60, 33]).data.toList c) = d := ⟨_, rfl⟩
  obtain ⟨d2, hd2⟩ : ∃ d, decide (0 ≤ Lib.indexByte (ByteArray.mk #[40, 41, 123, 125, 44, 59, 58, 46, 61, 43, 45, 42, 60, 33]).data.toList 61) = d := ⟨_, rfl⟩
  simp only [hd] at HS1
  simp only [hd2] at HS2
  clear hb hd hd2
  go_enter Tryz.func112, Tryz.ntmps112
  go_wp2_with fail
  go_quiet (fail)
  have KD : Keeps B w (w.drewN nq) := (Keeps.refl _ _).drewN nq
  have hBd : Cells (w.drewN nq) B 3 #[.int .i64 0] := hB
  generalize w.drewN nq = w1 at KD hBd ⊢
  clear c0 f0 l0 hB
  have c0 := hBd.cell 0; have f0 := hBd.frozen 0; have l0 := hBd.lt
  simp at c0
  have hcc2 : (⟨#[61, 61]⟩ : ByteArray).extract 0 1 = ⟨#[61]⟩ := by decide
  cases b
  · go_wp2_with (first | (go_at_call 127; refine (hP _).mono ?_; rintro e wx ⟨rfl, rfl⟩) | (go_at_call 128; refine (HS1 _).mono ?_; rintro e wx ⟨rfl, rfl⟩))
    exact bodyPost_ret (v := .tuple #[.string ⟨#[c]⟩, .bool d]) (by simp [results, Tryz.results112, go_sem]) rfl ⟨_, _, rfl, KD.setCell _ _⟩
  · go_wp2_with (first | (go_at_call 127; refine (hP _).mono ?_; rintro e wx ⟨rfl, rfl⟩) | (go_at_call 128; refine (HS2 _).mono ?_; rintro e wx ⟨rfl, rfl⟩))
    exact bodyPost_ret (v := .tuple #[.string ⟨#[61, 61]⟩, .bool d2]) (by simp [results, Tryz.results112, go_sem]) rfl ⟨_, _, rfl, KD.setCell _ _⟩
end Go.Proofs.YtlinbkgeahgkjaaGreatDoor
namespace Go.Proofs.YtlinbkgeahgkjaaGreatDoor
open Go.RowKit
set_option linter.unusedSimpArgs false

theorem Keeps.putB {c : Nat} {w W : World} (h : Keeps c w W) {p : Addr} (hp : w.heap.size ≤ p.block) (v : Value) : Keeps c w (W.setCell p v) :=
  ⟨h.os, h.tape, h.output, by simpa [World.setCell] using h.size, fun k hk hc => (Below.heap_setCell _ _ _ _ (by omega)).trans (h.block k hk hc)⟩
/-- What readToken tells of a text's first token, as far as names go. -/
def RdTok (t : ByteArray) (v : Value) : Prop := ∃ k s n p ok, v = .tuple #[tokV k s n p, .bool ok] ∧ ((ok = true ∧ k = 1 ∧ s = t) ↔ nmB t = true)
theorem RdTok.none {t s : ByteArray} {k n p : Int} {ok : Bool} (h : nmB t = false) (hk : k ≠ 1) : RdTok t (.tuple #[tokV k s n p, .bool ok]) := ⟨_, _, _, _, _, rfl, by
  rw [h]
  exact ⟨fun h' => absurd h'.2.1 hk, fun h' => by cases h'⟩⟩
theorem RdTok.name {t : ByteArray} (h0 : 0 < t.size) (h : letB (byteN t 0) = true) : RdTok t (.tuple #[tokV 1 (t.extract 0 (runE nameB t 0)) 0 0, .bool (decide (runE nameB t 0 ≤ 0 + 12))]) := by
  refine ⟨_, _, _, _, _, rfl, ?_⟩
  have hle := runE_le (p := nameB) (t := t) 0
  rw [nmB_iff]
  constructor
  · rintro ⟨h1, _, h2⟩
    have hs : (t.extract 0 (runE nameB t 0)).size = t.size := by rw [h2]
    rw [ByteArray.size_extract] at hs
    simp at h1
    exact ⟨h0, h, by omega, by omega⟩
  · rintro ⟨_, _, h3, h4⟩
    refine ⟨by simp; omega, rfl, ?_⟩
    rw [h3, extract_all]
set_option maxHeartbeats 8000000 in
set_option maxRecDepth 100000 in
theorem readToken_ok (w0 w : World) (hE : EnvA w0) (h0 : Kept w0 w) (B : Nat) (hB0 : w0.heap.size ≤ B) (t : ByteArray) (hB : Cells w B 3 #[.int .i64 0]) (ht : t.size ≤ 1048576) :
    Calls Tryz.prog 93 #[.string t, .pointer (some ⟨B, 0, none⟩)] w fun e w' => ∃ v, e = .returned v ∧ RdTok t v ∧ Keeps B w w' := by
  have hBl := hB.lt
  have r0 := Cells.new w 91 #[.int .i64 0, .string ⟨#[]⟩, .int .i64 0, .int .i64 0]
  have k0 : Kept w (w.alloc (.cells #[.int .i64 0, .string ⟨#[]⟩, .int .i64 0, .int .i64 0] 91)) := Kept.alloc (Below.refl _ _) _
  have KA : Keeps B w (w.alloc (.cells #[.int .i64 0, .string ⟨#[]⟩, .int .i64 0, .int .i64 0] 91)) := (Keeps.refl _ _).alloc _
  have k1 : ∀ k : Int, Kept w (w.alloc (.cells #[.int .i64 k, .string ⟨#[]⟩, .int .i64 0, .int .i64 0] 91)) := fun k => Kept.alloc (Below.refl _ _) _
  have K1 : ∀ k : Int, Keeps B w (w.alloc (.cells #[.int .i64 k, .string ⟨#[]⟩, .int .i64 0, .int .i64 0] 91)) := fun k => (Keeps.refl _ _).alloc _
  have hB1 := hB.kept k0
  have c0 := hB1.cell 0; have f0 := hB1.frozen 0
  simp at c0
  have hne : B ≠ w.heap.size := by omega
  have hne2 : w.heap.size ≠ B := by omega
  have d0 := r0.cell 0; have d1 := r0.cell 1; have d2 := r0.cell 2; have d3 := r0.cell 3; have g0 := r0.frozen 0; have g1 := r0.frozen 1; have g2 := r0.frozen 2; have g3 := r0.frozen 3; have lr := r0.lt
  simp at d0 d1 d2 d3
  by_cases hz : t.size = 0
  · have HN : Hid (RdTok t (.tuple #[tokV 0 ⟨#[]⟩ 0 0, .bool true])) := RdTok.none (by cases hn : nmB t with | false => rfl | true => have := (nmB_iff.1 hn).1; omega) (by decide)
    have q2 : ((0 : Int) == (t.size : Int)) = true := by rw [hz]; rfl
    clear hz
    go_enter Tryz.func93, Tryz.ntmps93
    go_wp2_with fail
    have z0 := r0.cell 0; have z1 := r0.cell 1; have z2 := r0.cell 2; have z3 := r0.cell 3
    exact bodyPost_ret (v := .tuple #[.agg #[.int .i64 0, .string ⟨#[]⟩, .int .i64 0, .int .i64 0], .bool true]) (by simp [results, Tryz.results93, go_sem, z0, z1, z2, z3]) rfl ⟨_, rfl, HN.out, KA⟩
  · have hpos : 0 < t.size := by omega
    have q2 : ((0 : Int) == (t.size : Int)) = false := by simp; omega
    have q3 : (0 : Int) < (t.size : Int) := by omega
    have hL := isLetter_ok (t[0].toNat : Int)
    have hD := isDigit_ok (t[0].toNat : Int)
    by_cases hl : letB (byteN t 0) = true
    · rw [show letB (t[0].toNat : Int) = true by rw [byteN_get t 0 hpos]; exact hl] at hL
      have HN : Hid _ := RdTok.name hpos hl
      have hR := readName_ok _ B t 0 (hB.kept (k1 1)) (Nat.zero_le _) ht
      obtain ⟨X, hX⟩ : ∃ X, t.extract 0 (runE nameB t 0) = X := ⟨_, rfl⟩
      obtain ⟨o, ho⟩ : ∃ X, decide (runE nameB t 0 ≤ 0 + 12) = X := ⟨_, rfl⟩
      rw [hX, ho] at HN hR
      clear hl hX ho hz
      go_enter Tryz.func93, Tryz.ntmps93
      go_wp2_with (first
        | (go_at_call 107; refine (hL _).mono ?_; rintro e wx ⟨rfl, rfl⟩)
        | (go_at_call 108; refine (hR).mono ?_; rintro e w2 ⟨rfl, hK2⟩; have r2 := Cells.keepsB (Cells.new w 91 #[.int .i64 1, .string ⟨#[]⟩, .int .i64 0, .int .i64 0]) hK2 hne2; have d0 := r2.cell 0; have d1 := r2.cell 1; have d2 := r2.cell 2; have d3 := r2.cell 3; have g0 := r2.frozen 0; have g1 := r2.frozen 1; have g2 := r2.frozen 2; have g3 := r2.frozen 3; have lr := r2.lt; simp at d0 d1 d2 d3))
      have z := ((((r2.set 1 (.string X)).set 0 (.int .i64 1)).set 1 (.string X)).set 2 (.int .i64 0)).set 3 (.int .i64 0)
      have z0 := z.cell 0; have z1 := z.cell 1; have z2 := z.cell 2; have z3 := z.cell 3
      exact bodyPost_ret (v := .tuple #[.agg #[.int .i64 1, .string X, .int .i64 0, .int .i64 0], .bool o]) (by simp [results, Tryz.results93, go_sem, z0, z1, z2, z3]) rfl ⟨_, rfl, HN.out, (((((((K1 1).trans hK2).putB (Nat.le_refl _) _).putB (Nat.le_refl _) _).putB (Nat.le_refl _) _).putB (Nat.le_refl _) _).putB (Nat.le_refl _) _)⟩
    · rw [show letB (t[0].toNat : Int) = false by rw [byteN_get t 0 hpos]; simpa using hl] at hL
      have hnn : nmB t = false := by
        cases hn : nmB t with
        | false => rfl
        | true => exact absurd (nmB_iff.1 hn).2.1 hl
      by_cases hd : digB (byteN t 0) = true
      · rw [show digB (t[0].toNat : Int) = true by rw [byteN_get t 0 hpos]; exact hd] at hD
        have hR := readNum_ok w0 _ hE (Kept.trans h0 (k1 2)) B hB0 t 0 (hB.kept (k1 2)) (Nat.zero_le _) ht
        clear hl hd hz
        go_enter Tryz.func93, Tryz.ntmps93
        go_wp2_with (first
          | (go_at_call 107; refine (hL _).mono ?_; rintro e wx ⟨rfl, rfl⟩)
          | (go_at_call 109; refine (hD _).mono ?_; rintro e wx ⟨rfl, rfl⟩)
          | (go_at_call 110; refine (hR).mono ?_; rintro e w2 ⟨n2, o2, rfl, hK2⟩; have r2 := Cells.keepsB (Cells.new w 91 #[.int .i64 2, .string ⟨#[]⟩, .int .i64 0, .int .i64 0]) hK2 hne2; have d0 := r2.cell 0; have d1 := r2.cell 1; have d2 := r2.cell 2; have d3 := r2.cell 3; have g0 := r2.frozen 0; have g1 := r2.frozen 1; have g2 := r2.frozen 2; have g3 := r2.frozen 3; have lr := r2.lt; simp at d0 d1 d2 d3))
        have z := ((((r2.set 2 (.int .i64 n2)).set 0 (.int .i64 2)).set 1 (.string ⟨#[]⟩)).set 2 (.int .i64 n2)).set 3 (.int .i64 0)
        have z0 := z.cell 0; have z1 := z.cell 1; have z2 := z.cell 2; have z3 := z.cell 3
        exact bodyPost_ret (v := .tuple #[.agg #[.int .i64 2, .string ⟨#[]⟩, .int .i64 n2, .int .i64 0], .bool o2]) (by simp [results, Tryz.results93, go_sem, z0, z1, z2, z3]) rfl ⟨_, rfl, RdTok.none hnn (by decide), (((((((K1 2).trans hK2).putB (Nat.le_refl _) _).putB (Nat.le_refl _) _).putB (Nat.le_refl _) _).putB (Nat.le_refl _) _).putB (Nat.le_refl _) _)⟩
      · rw [show digB (t[0].toNat : Int) = false by rw [byteN_get t 0 hpos]; simpa using hd] at hD
        cases hq : ((t[0].toNat : Int) == 34) with
        | true =>
          have q4 : ((t[0].toNat : Int) == 34) = true := hq
          have hR := readQuoted_ok _ B t (hB.kept (k1 3)) hpos ht
          clear hl hd hz hq
          go_enter Tryz.func93, Tryz.ntmps93
          go_wp2_with (first
            | (go_at_call 107; refine (hL _).mono ?_; rintro e wx ⟨rfl, rfl⟩)
            | (go_at_call 109; refine (hD _).mono ?_; rintro e wx ⟨rfl, rfl⟩)
            | (go_at_call 111; refine (hR).mono ?_; rintro e w2 ⟨s2, o2, rfl, hK2⟩; have r2 := Cells.keepsB (Cells.new w 91 #[.int .i64 3, .string ⟨#[]⟩, .int .i64 0, .int .i64 0]) hK2 hne2; have d0 := r2.cell 0; have d1 := r2.cell 1; have d2 := r2.cell 2; have d3 := r2.cell 3; have g0 := r2.frozen 0; have g1 := r2.frozen 1; have g2 := r2.frozen 2; have g3 := r2.frozen 3; have lr := r2.lt; simp at d0 d1 d2 d3))
          have z := ((((r2.set 1 (.string s2)).set 0 (.int .i64 3)).set 1 (.string s2)).set 2 (.int .i64 0)).set 3 (.int .i64 0)
          have z0 := z.cell 0; have z1 := z.cell 1; have z2 := z.cell 2; have z3 := z.cell 3
          exact bodyPost_ret (v := .tuple #[.agg #[.int .i64 3, .string s2, .int .i64 0, .int .i64 0], .bool o2]) (by simp [results, Tryz.results93, go_sem, z0, z1, z2, z3]) rfl ⟨_, rfl, RdTok.none hnn (by decide), (((((((K1 3).trans hK2).putB (Nat.le_refl _) _).putB (Nat.le_refl _) _).putB (Nat.le_refl _) _).putB (Nat.le_refl _) _).putB (Nat.le_refl _) _)⟩
        | false =>
          have q4 : ((t[0].toNat : Int) == 34) = false := hq
          have hR := readSign_ok _ B t (hB.kept (k1 4)) hpos ht
          clear hl hd hz hq
          go_enter Tryz.func93, Tryz.ntmps93
          go_wp2_with (first
            | (go_at_call 107; refine (hL _).mono ?_; rintro e wx ⟨rfl, rfl⟩)
            | (go_at_call 109; refine (hD _).mono ?_; rintro e wx ⟨rfl, rfl⟩)
            | (go_at_call 112; refine (hR).mono ?_; rintro e w2 ⟨s2, o2, rfl, hK2⟩; have r2 := Cells.keepsB (Cells.new w 91 #[.int .i64 4, .string ⟨#[]⟩, .int .i64 0, .int .i64 0]) hK2 hne2; have d0 := r2.cell 0; have d1 := r2.cell 1; have d2 := r2.cell 2; have d3 := r2.cell 3; have g0 := r2.frozen 0; have g1 := r2.frozen 1; have g2 := r2.frozen 2; have g3 := r2.frozen 3; have lr := r2.lt; simp at d0 d1 d2 d3))
          have z := ((((r2.set 1 (.string s2)).set 0 (.int .i64 4)).set 1 (.string s2)).set 2 (.int .i64 0)).set 3 (.int .i64 0)
          have z0 := z.cell 0; have z1 := z.cell 1; have z2 := z.cell 2; have z3 := z.cell 3
          exact bodyPost_ret (v := .tuple #[.agg #[.int .i64 4, .string s2, .int .i64 0, .int .i64 0], .bool o2]) (by simp [results, Tryz.results93, go_sem, z0, z1, z2, z3]) rfl ⟨_, rfl, RdTok.none hnn (by decide), (((((((K1 4).trans hK2).putB (Nat.le_refl _) _).putB (Nat.le_refl _) _).putB (Nat.le_refl _) _).putB (Nat.le_refl _) _).putB (Nat.le_refl _) _)⟩
end Go.Proofs.YtlinbkgeahgkjaaGreatDoor
namespace Go.Proofs.YtlinbkgeahgkjaaGreatDoor
open Go.RowKit
set_option linter.unusedSimpArgs false

def wordText : ByteArray := { data := #[108, 101, 116, 32, 105, 102, 32, 101, 108, 115, 101, 32, 119, 104, 105, 108, 101, 32, 114, 101, 116, 117, 114, 110, 32, 112, 114, 105, 110, 116, 32, 102, 117, 110, 99, 116, 105, 111, 110, 32, 116, 114, 117, 101, 32, 102, 97, 108, 115, 101, 32, 110, 117, 108, 108, 32, 117, 110, 100, 101, 102, 105, 110, 101, 100, 32, 112, 114, 111, 116, 111] }
theorem fields_words : Lib.fields wordText.data.toList = wordsL.map (·.data.toList) := by decide +kernel
theorem ascii_words : wordText.data.toList.all (fun b => decide (b.toNat < 128)) = true := by decide +kernel
theorem fields_cells : ((Lib.fields wordText.data.toList).map fun l => Value.string ⟨l.toArray⟩).toArray = (wordsL.map Value.string).toArray := by
  rw [fields_words, List.map_map]
  rfl
theorem contains_words (s : ByteArray) : Lib.containsS wordsL s = isW s := by
  rw [Bool.eq_iff_iff, Lib.containsS_iff, isW, List.any_eq_true]
  constructor
  · intro h; exact ⟨s, h, by simp⟩
  · rintro ⟨x, hx, h⟩
    rw [decide_eq_true_eq] at h
    rw [h]; exact hx
theorem wordsOf_ok (w : World) (hE : EnvA w) :
    Calls Tryz.prog 114 #[] w fun e w' => e = .returned (.slice (some ⟨w.heap.size, 0, none⟩) 12 12) ∧ w' = w.alloc (.cells (wordsL.map Value.string).toArray 9) := by
  have hF := lib_strings_Fields_laid wordText w (by decide) (fun j b hj => by have := List.all_eq_true.1 ascii_words b (List.mem_of_getElem? hj); simpa using this) hE.asc
  rw [fields_cells, fields_words] at hF
  rw [show (wordsL.map (fun x : ByteArray => x.data.toList)).length = 12 from rfl] at hF
  go_enter Tryz.func114, Tryz.ntmps114
  go_wp2_with (go_at_call 130; refine hF.mono ?_; rintro e w1 ⟨rfl, rfl⟩)
  go_ret
  exact ⟨rfl, rfl⟩
theorem isWord_ok (w : World) (hE : EnvA w) (s : ByteArray) :
    Calls Tryz.prog 94 #[.string s] w fun e w' => e = .returned (.bool (isW s)) ∧ Kept w w' := by
  have hW := wordsOf_ok w hE
  have z := Cells.new w 9 (wordsL.map Value.string).toArray
  have hC := lib_slices_Contains_string w.heap.size 0 12 12 wordsL s (w.alloc (.cells (wordsL.map Value.string).toArray 9)) (by decide) (by decide) (fun j hj => by
    rw [Nat.zero_add, z.cell j]
    simp [List.getElem?_eq_getElem hj])
  rw [show wordsL.take 12 = wordsL from rfl, contains_words] at hC
  clear z
  go_enter Tryz.func94, Tryz.ntmps94
  go_wp2_with (first
    | (go_at_call 114; refine hW.mono ?_; rintro e w1 ⟨rfl, rfl⟩)
    | (go_at_call 113; refine hC.mono ?_; rintro e w1 ⟨rfl, rfl⟩))
  go_ret
  exact ⟨rfl, Kept.alloc (Below.refl _ _) _⟩
theorem nameR_false (s : ByteArray) : nameR s false = (nmB s && !isW s) := by simp [nameR]
set_option maxHeartbeats 8000000 in
set_option maxRecDepth 100000 in
theorem isName_ok (w : World) (hE : EnvA w) (s : ByteArray) (hs : s.size ≤ 1048576) :
    Calls Tryz.prog 69 #[.string s] w fun e w' => e = .returned (.bool (nameR s false)) ∧ Kept w w' := by
  have k0 : Kept w (w.alloc (.cells #[.int .i64 0] 3)) := Kept.alloc (Below.refl _ _) _
  have hR := readToken_ok w _ hE k0 w.heap.size (Nat.le_refl _) s (Cells.new w 3 #[.int .i64 0]) hs
  rw [nameR_false]
  go_enter Tryz.func69, Tryz.ntmps69
  go_upto_region 3 with (go_at_call 93; refine hR.mono ?_; rintro e w1 ⟨v, rfl, ⟨k, s2, n, p, ok, rfl, hiff⟩, hK⟩)
  have K1 : Kept w w1 := Below.trans k0 (hK.below (Nat.le_refl _) k0.size)
  have ka : Kept w1 (w1.alloc (.cells #[.int .i64 k, .string s2, .int .i64 n, .int .i64 p] 91)) := Kept.alloc (Below.refl _ _) _
  have x := Cells.new w1 91 #[.int .i64 k, .string s2, .int .i64 n, .int .i64 p]
  have hW := isWord_ok _ (hE.kept (K1.trans ka)) s
  have e0 := x.cell 0; have e1 := x.cell 1
  simp at e0 e1
  clear hR hK hE
  cases ok with
  | false =>
    have HN : Hid ((nmB s && !isW s) = false) := by
      have : nmB s = false := by
        cases h : nmB s with
        | false => rfl
        | true => exact absurd (hiff.2 h).1 (by decide)
      simp [Hid, this]
    clear hiff
    go_wp2_with fail
    go_ret
    exact ⟨by rw [HN.out]; rfl, K1.trans ka⟩
  | true =>
    by_cases hk : k = 1
    · subst hk
      by_cases hs2 : s2 = s
      · subst hs2
        have HN : Hid ((nmB s2 && !isW s2) = !isW s2) := by rw [Hid, hiff.1 ⟨rfl, rfl, rfl⟩]; rfl
        obtain ⟨b, hb⟩ : ∃ b, isW s2 = b := ⟨_, rfl⟩
        rw [hb] at hW
        rw [hb] at HN
        have HB : Hid _ := hb
        clear hiff hb
        go_wp2_with (go_at_call 94; refine hW.mono ?_; rintro e w2 ⟨rfl, hk2⟩)
        go_ret
        exact ⟨by rw [HB.out, HN.out]; rfl, (K1.trans ka).trans hk2⟩
      · have HN : Hid ((nmB s && !isW s) = false) := by
          have : nmB s = false := by
            cases h : nmB s with
            | false => rfl
            | true => exact absurd (hiff.2 h).2.2 hs2
          simp [Hid, this]
        have q2 : (s2.toList == s.toList) = false := by rw [bytes_same]; simpa using hs2
        clear hiff hs2
        go_wp2_with fail
        go_ret
        exact ⟨by rw [HN.out]; rfl, K1.trans ka⟩
    · have HN : Hid ((nmB s && !isW s) = false) := by
        have : nmB s = false := by
          cases h : nmB s with
          | false => rfl
          | true => exact absurd (hiff.2 h).2.1 hk
        simp [Hid, this]
      have q2 : (k == 1) = false := by simpa using hk
      clear hiff hk
      go_wp2_with fail
      go_ret
      exact ⟨by rw [HN.out]; rfl, K1.trans ka⟩
theorem isProperty_ok (w : World) (hE : EnvA w) (s : ByteArray) (hs : s.size ≤ 1048576) :
    Calls Tryz.prog 70 #[.string s] w fun e w' => e = .returned (.bool (nameR s true)) ∧ Kept w w' := by
  have hN := isName_ok w hE s hs
  have e5 : protoS.toList = [112, 114, 111, 116, 111] := by rw [ByteArray.toList_eq]; rfl
  by_cases h : s = protoS
  · have HN : Hid (nameR s true = true) := by rw [Hid, h]; decide +kernel
    have q : (s.toList == [112, 114, 111, 116, 111]) = true := by rw [← e5, bytes_same]; simpa using h
    clear h e5
    go_enter Tryz.func70, Tryz.ntmps70
    go_wp2_with fail
    go_ret
    exact ⟨by rw [HN.out]; rfl, Below.refl _ _⟩
  · have HN : Hid (nameR s true = nameR s false) := by simp [Hid, nameR, h]
    have q : (s.toList == [112, 114, 111, 116, 111]) = false := by rw [← e5, bytes_same]; simpa using h
    clear h e5
    go_enter Tryz.func70, Tryz.ntmps70
    go_wp2_with (go_at_call 69; refine hN.mono ?_; rintro e w1 ⟨rfl, hk1⟩)
    go_ret
    exact ⟨by rw [HN.out]; rfl, hk1⟩
theorem isQuotable_ok (w : World) (s : ByteArray) (hs : s.size ≤ 1048576) :
    Calls Tryz.prog 96 #[.string s] w fun e w' => e = .returned (.bool (textR s)) ∧ Kept w w' := by
  have k0 : Kept w (w.alloc (.cells #[.int .i64 0] 3)) := Kept.alloc (Below.refl _ _) _
  have hS := span_inText _ w.heap.size s 0 (Cells.new w 3 #[.int .i64 ((0 : Nat) : Int)]) (Nat.zero_le _) hs
  have hle := runE_le (p := textB) (t := s) 0
  by_cases h : runE textB s 0 = s.size
  · rw [h, extract_all] at hS
    by_cases h30 : s.size ≤ 30
    · have HT : Hid (textR s = true) := by simp [Hid, textR, h, h30]
      have q1 : (s.size : Int) ≤ 30 := by omega
      clear h h30 hle
      go_enter Tryz.func96, Tryz.ntmps96
      go_wp2_with (go_at_call 116; refine hS.mono ?_; rintro e w1 ⟨rfl, _, hK⟩)
      go_ret
      exact ⟨by rw [HT.out]; rfl, Below.trans k0 (hK.below (Nat.le_refl _) k0.size)⟩
    · have HT : Hid (textR s = false) := by simp [Hid, textR, h30]
      have q1 : decide ((s.size : Int) ≤ 30) = false := by simp; omega
      clear h h30 hle
      go_enter Tryz.func96, Tryz.ntmps96
      go_wp2_with (go_at_call 116; refine hS.mono ?_; rintro e w1 ⟨rfl, _, hK⟩)
      go_ret
      exact ⟨by rw [HT.out]; rfl, Below.trans k0 (hK.below (Nat.le_refl _) k0.size)⟩
  · have HT : Hid (textR s = false) := by simp [Hid, textR, h]
    have q2 : ((s.extract 0 (runE textB s 0)).toList == s.toList) = false := by
      rw [bytes_same]
      apply decide_eq_false
      intro e
      have hz : (s.extract 0 (runE textB s 0)).size = s.size := by rw [e]
      rw [ByteArray.size_extract] at hz
      omega
    obtain ⟨X, hX⟩ : ∃ X, s.extract 0 (runE textB s 0) = X := ⟨_, rfl⟩
    rw [hX] at hS q2
    clear h hle hX
    go_enter Tryz.func96, Tryz.ntmps96
    go_wp2_with (go_at_call 116; refine hS.mono ?_; rintro e w1 ⟨rfl, _, hK⟩)
    go_ret
    exact ⟨by rw [HT.out]; rfl, Below.trans k0 (hK.below (Nat.le_refl _) k0.size)⟩
theorem parts_small {s : ByteArray} : ∀ d, s.size < d → ∀ x ∈ partsL s, x.size ≤ s.size := by
  intro d
  induction d generalizing s with
  | zero => intro h; omega
  | succ d ih =>
    intro hd x hx
    rcases Lib.index_spec s.data.toList blankS.data.toList with ⟨h, _⟩ | ⟨i, h, _⟩
    · rw [parts_none h] at hx
      simp at hx
      rw [hx]; exact Nat.le_refl _
    · have hr := Lib.index_room s.data.toList blankS.data.toList (by rw [h]; omega)
      rw [h] at hr
      have hr2 : i + 1 ≤ s.size := by
        have : (blankS.data.toList.length : Int) = 1 := by decide
        have e : (s.data.toList.length : Int) = s.size := by rw [Array.length_toList]; rfl
        omega
      rw [parts_hit h, List.mem_cons] at hx
      rcases hx with rfl | hx
      · exact extract_le _ _ _
      · have h1 := ih (by rw [ByteArray.size_extract]; omega) x hx
        rw [ByteArray.size_extract] at h1
        omega
set_option maxHeartbeats 8000000 in
set_option maxRecDepth 100000 in
theorem areNames_ok (w : World) (hE : EnvA w) (s : ByteArray) (hs : s.size ≤ 1048576) :
    Calls Tryz.prog 100 #[.string s] w fun e w' => e = .returned (.bool (namesR s)) ∧ Kept w w' := by
  by_cases h0 : s.size = 0
  · obtain rfl : s = ⟨#[]⟩ := by
      apply ByteArray.ext
      exact Array.eq_empty_of_size_eq_zero h0
    go_enter Tryz.func100, Tryz.ntmps100
    go_wp2_with fail
    go_ret
    exact ⟨rfl, Below.refl _ _⟩
  · have HE : s.toList.isEmpty = false := by
      rw [ByteArray.toList_eq]
      cases h : s.data.toList with
      | nil => exact absurd (by rw [ByteArray.size, ← Array.length_toList, h]; rfl) h0
      | cons a l => rfl
    obtain ⟨m, hm⟩ := hE.mx
    have hS := lib_strings_Split s blankS m w (by omega) hm (by decide)
    rw [← parts_count s _ (Nat.lt_succ_self _), show Lib.splitB blankS 0 (Lib.countB s blankS) s = partsL s from rfl] at hS
    have HR : Hid (namesR s = (partsL s).all (fun x => nameR x false)) := namesR_parts h0
    have HSm : Hid (∀ x ∈ partsL s, x.size ≤ s.size) := parts_small _ (Nat.lt_succ_self _)
    have hpl : (partsL s).length ≤ 1048578 := by
      have h1 := Lib.count_le s.data.toList blankS.data.toList
      rw [parts_count s _ (Nat.lt_succ_self _)]
      have e : s.data.toList.length = s.size := by rw [Array.length_toList]; rfl
      unfold Lib.countB
      omega
    obtain ⟨L, hL⟩ : ∃ L, partsL s = L := ⟨_, rfl⟩
    rw [hL] at hS HR HSm hpl
    have z := Cells.new w 9 (L.map Value.string).toArray
    have k0 : Kept w (w.alloc (.cells (L.map Value.string).toArray 9)) := Kept.alloc (Below.refl _ _) _
    have HEk : Hid (EnvA w) := hE
    clear hL h0 hm hE
    go_enter Tryz.func100, Tryz.ntmps100
    go_wp2_with (go_at_call 66; refine hS.mono ?_; rintro e w1 ⟨rfl, rfl⟩)
    obtain ⟨W, hW⟩ : ∃ W, w.alloc (.cells (L.map Value.string).toArray 9) = W := ⟨_, rfl⟩
    rw [hW] at z k0
    simp only [hW]
    clear hW hS
    go_loopw [10] (fun iv wr => ∃ (k : Nat), iv = .int .i64 k ∧ k ≤ L.length ∧ Hid ((L.take k).all (fun x => nameR x false) = true) ∧ Hid (Kept W wr)) (fun i _ => L.length - (intOf i).toNat)
    case atStart => exact ⟨0, rfl, Nat.zero_le _, by simp [Hid], Below.refl _ _⟩
    case round =>
      obtain ⟨k, rfl, hk, hP, hK⟩ := hrel
      by_cases hlt : k < L.length
      · have r2 : (k : Int) < (L.length : Int) := by omega
        obtain ⟨x, hx⟩ : ∃ x, L[k]? = some x := ⟨L[k], List.getElem?_eq_getElem hlt⟩
        have hc : wr.cell? ⟨w.heap.size, k, none⟩ = some (.string x) := by
          rw [(z.kept hK.out).cell k]
          simp [hx]
        have hxs : x.size ≤ 1048576 := Nat.le_trans (HSm.out x (List.mem_of_getElem? hx)) hs
        have hN := isName_ok wr (HEk.out.kept (k0.trans hK.out)) x hxs
        have HX : Hid _ := hx
        have q5 : (k : Int) + 1 ≤ 9223372036854775807 := by omega
        cases hb : nameR x false with
        | false =>
          rw [hb] at hN
          have HF : Hid (namesR s = false) := by
            rw [Hid, HR.out, List.all_eq_false]
            exact ⟨x, List.mem_of_getElem? hx, by simp [hb]⟩
          clear hx hb
          go_wp2_with (go_at_call 69; refine hN.mono ?_; rintro e w2 ⟨rfl, hk2⟩)
          go_ret
          exact ⟨by rw [HF.out]; rfl, (k0.trans hK.out).trans hk2⟩
        | true =>
          rw [hb] at hN
          have HA : Hid ((L.take (k + 1)).all (fun x => nameR x false) = true) := by
            rw [Hid, List.take_add_one, hx, List.all_append, hP.out]
            simp [hb]
          clear hx hb
          go_wp2_with (go_at_call 69; refine hN.mono ?_; rintro e w2 ⟨rfl, hk2⟩)
          exact ⟨⟨k + 1, by go_num, by omega, HA.out, hK.out.trans hk2⟩, by simp [intOf]; omega⟩
      · have r2 : ¬ (k : Int) < (L.length : Int) := by omega
        have HF : Hid (namesR s = true) := by
          have h := hP.out
          rw [List.take_of_length_le (by omega)] at h
          rw [Hid, HR.out]; exact h
        go_wp2_with fail
        go_ret
        exact ⟨by rw [HF.out]; rfl, k0.trans hK.out⟩
end Go.Proofs.YtlinbkgeahgkjaaGreatDoor
