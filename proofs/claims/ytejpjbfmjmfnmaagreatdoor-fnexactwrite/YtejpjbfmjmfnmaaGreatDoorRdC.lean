/-
  The contract of chapter 11's readToken at a text's first byte, as far as names go.
-/
import Derived.Test.YtejpjbfmjmfnmaaGreatDoorRdB
namespace Go.Proofs.YtejpjbfmjmfnmaaGreatDoor
open Go.RowKit
set_option linter.unusedSimpArgs false

theorem Keeps.putB {c : Nat} {w W : World} (h : Keeps c w W) {p : Addr} (hp : w.heap.size ≤ p.block) (v : Value) : Keeps c w (W.setCell p v) :=
  ⟨h.os, h.tape, h.output, by simpa [World.setCell] using h.size, fun k hk hc => (Below.heap_setCell _ _ _ _ (by omega)).trans (h.block k hk hc)⟩
/-- What readToken tells of a text's first token, as far as names go. -/
def RdTok (t : ByteArray) (v : Value) : Prop := ∃ k s n p ok, v = .tuple #[tokV k s n p, .bool ok] ∧ ((ok = true ∧ k = 1 ∧ s = t) ↔ nmB t = true)
theorem RdTok.none {t s : ByteArray} {k n p : Int} {ok : Bool} (h : nmB t = false) (hk : k ≠ 1) : RdTok t (.tuple #[tokV k s n p, .bool ok]) := ⟨_, _, _, _, _, rfl, by
  rw [h]
  exact ⟨fun h' => absurd h'.2.1 hk, fun h' => by cases h'⟩⟩
theorem RdTok.name {t : ByteArray} (h0 : 0 < t.size) (h : letB (byteN t 0) = true) : RdTok t (.tuple #[tokV 1 (t.extract 0 (runE nameB t 0)) 0 0, .bool (decide (runE nameB t 0 ≤ 0 + 12))]) := by
  refine ⟨_, _, _, _, _, rfl, ?_⟩
  have hle := runE_le (p := nameB) (t := t) 0
  rw [nmB_iff]
  constructor
  · rintro ⟨h1, _, h2⟩
    have hs : (t.extract 0 (runE nameB t 0)).size = t.size := by rw [h2]
    rw [ByteArray.size_extract] at hs
    simp at h1
    exact ⟨h0, h, by omega, by omega⟩
  · rintro ⟨_, _, h3, h4⟩
    refine ⟨by simp; omega, rfl, ?_⟩
    rw [h3, extract_all]
set_option maxHeartbeats 8000000 in
set_option maxRecDepth 100000 in
theorem readToken_ok (w0 w : World) (hE : EnvA w0) (h0 : Kept w0 w) (B : Nat) (hB0 : w0.heap.size ≤ B) (t : ByteArray) (hB : Cells w B 3 #[.int .i64 0]) (ht : t.size ≤ 1048576) :
    Calls Tryz.prog 98 #[.string t, .pointer (some ⟨B, 0, none⟩)] w fun e w' => ∃ v, e = .returned v ∧ RdTok t v ∧ Keeps B w w' := by
  have hBl := hB.lt
  have r0 := Cells.new w 107 #[.int .i64 0, .string ⟨#[]⟩, .int .i64 0, .int .i64 0]
  have k0 : Kept w (w.alloc (.cells #[.int .i64 0, .string ⟨#[]⟩, .int .i64 0, .int .i64 0] 107)) := Kept.alloc (Below.refl _ _) _
  have KA : Keeps B w (w.alloc (.cells #[.int .i64 0, .string ⟨#[]⟩, .int .i64 0, .int .i64 0] 107)) := (Keeps.refl _ _).alloc _
  have k1 : ∀ k : Int, Kept w (w.alloc (.cells #[.int .i64 k, .string ⟨#[]⟩, .int .i64 0, .int .i64 0] 107)) := fun k => Kept.alloc (Below.refl _ _) _
  have K1 : ∀ k : Int, Keeps B w (w.alloc (.cells #[.int .i64 k, .string ⟨#[]⟩, .int .i64 0, .int .i64 0] 107)) := fun k => (Keeps.refl _ _).alloc _
  have hB1 := hB.kept k0
  have c0 := hB1.cell 0; have f0 := hB1.frozen 0
  simp at c0
  have hne : B ≠ w.heap.size := by omega
  have hne2 : w.heap.size ≠ B := by omega
  have d0 := r0.cell 0; have d1 := r0.cell 1; have d2 := r0.cell 2; have d3 := r0.cell 3; have g0 := r0.frozen 0; have g1 := r0.frozen 1; have g2 := r0.frozen 2; have g3 := r0.frozen 3; have lr := r0.lt
  simp at d0 d1 d2 d3
  by_cases hz : t.size = 0
  · have HN : Hid (RdTok t (.tuple #[tokV 0 ⟨#[]⟩ 0 0, .bool true])) := RdTok.none (by cases hn : nmB t with | false => rfl | true => have := (nmB_iff.1 hn).1; omega) (by decide)
    have q2 : ((0 : Int) == (t.size : Int)) = true := by rw [hz]; rfl
    clear hz
    go_enter Tryz.func98, Tryz.ntmps98
    go_wp2_with fail
    have z0 := r0.cell 0; have z1 := r0.cell 1; have z2 := r0.cell 2; have z3 := r0.cell 3
    exact bodyPost_ret (v := .tuple #[.agg #[.int .i64 0, .string ⟨#[]⟩, .int .i64 0, .int .i64 0], .bool true]) (by simp [results, Tryz.results98, go_sem, z0, z1, z2, z3]) rfl ⟨_, rfl, HN.out, KA⟩
  · have hpos : 0 < t.size := by omega
    have q2 : ((0 : Int) == (t.size : Int)) = false := by simp; omega
    have q3 : (0 : Int) < (t.size : Int) := by omega
    have hL := isLetter_ok (t[0].toNat : Int)
    have hD := isDigit_ok (t[0].toNat : Int)
    by_cases hl : letB (byteN t 0) = true
    · rw [show letB (t[0].toNat : Int) = true by rw [byteN_get t 0 hpos]; exact hl] at hL
      have HN : Hid _ := RdTok.name hpos hl
      have hR := readName_ok _ B t 0 (hB.kept (k1 1)) (Nat.zero_le _) ht
      obtain ⟨X, hX⟩ : ∃ X, t.extract 0 (runE nameB t 0) = X := ⟨_, rfl⟩
      obtain ⟨o, ho⟩ : ∃ X, decide (runE nameB t 0 ≤ 0 + 12) = X := ⟨_, rfl⟩
      rw [hX, ho] at HN hR
      clear hl hX ho hz
      go_enter Tryz.func98, Tryz.ntmps98
      go_wp2_with (first
        | (go_at_call 114; refine (hL _).mono ?_; rintro e wx ⟨rfl, rfl⟩)
        | (go_at_call 115; refine (hR).mono ?_; rintro e w2 ⟨rfl, hK2⟩; have r2 := Cells.keepsB (Cells.new w 107 #[.int .i64 1, .string ⟨#[]⟩, .int .i64 0, .int .i64 0]) hK2 hne2; have d0 := r2.cell 0; have d1 := r2.cell 1; have d2 := r2.cell 2; have d3 := r2.cell 3; have g0 := r2.frozen 0; have g1 := r2.frozen 1; have g2 := r2.frozen 2; have g3 := r2.frozen 3; have lr := r2.lt; simp at d0 d1 d2 d3))
      have z := ((((r2.set 1 (.string X)).set 0 (.int .i64 1)).set 1 (.string X)).set 2 (.int .i64 0)).set 3 (.int .i64 0)
      have z0 := z.cell 0; have z1 := z.cell 1; have z2 := z.cell 2; have z3 := z.cell 3
      exact bodyPost_ret (v := .tuple #[.agg #[.int .i64 1, .string X, .int .i64 0, .int .i64 0], .bool o]) (by simp [results, Tryz.results98, go_sem, z0, z1, z2, z3]) rfl ⟨_, rfl, HN.out, (((((((K1 1).trans hK2).putB (Nat.le_refl _) _).putB (Nat.le_refl _) _).putB (Nat.le_refl _) _).putB (Nat.le_refl _) _).putB (Nat.le_refl _) _)⟩
    · rw [show letB (t[0].toNat : Int) = false by rw [byteN_get t 0 hpos]; simpa using hl] at hL
      have hnn : nmB t = false := by
        cases hn : nmB t with
        | false => rfl
        | true => exact absurd (nmB_iff.1 hn).2.1 hl
      by_cases hd : digB (byteN t 0) = true
      · rw [show digB (t[0].toNat : Int) = true by rw [byteN_get t 0 hpos]; exact hd] at hD
        have hR := readNum_ok w0 _ hE (Kept.trans h0 (k1 2)) B hB0 t 0 (hB.kept (k1 2)) (Nat.zero_le _) ht
        clear hl hd hz
        go_enter Tryz.func98, Tryz.ntmps98
        go_wp2_with (first
          | (go_at_call 114; refine (hL _).mono ?_; rintro e wx ⟨rfl, rfl⟩)
          | (go_at_call 116; refine (hD _).mono ?_; rintro e wx ⟨rfl, rfl⟩)
          | (go_at_call 117; refine (hR).mono ?_; rintro e w2 ⟨n2, o2, rfl, hK2⟩; have r2 := Cells.keepsB (Cells.new w 107 #[.int .i64 2, .string ⟨#[]⟩, .int .i64 0, .int .i64 0]) hK2 hne2; have d0 := r2.cell 0; have d1 := r2.cell 1; have d2 := r2.cell 2; have d3 := r2.cell 3; have g0 := r2.frozen 0; have g1 := r2.frozen 1; have g2 := r2.frozen 2; have g3 := r2.frozen 3; have lr := r2.lt; simp at d0 d1 d2 d3))
        have z := ((((r2.set 2 (.int .i64 n2)).set 0 (.int .i64 2)).set 1 (.string ⟨#[]⟩)).set 2 (.int .i64 n2)).set 3 (.int .i64 0)
        have z0 := z.cell 0; have z1 := z.cell 1; have z2 := z.cell 2; have z3 := z.cell 3
        exact bodyPost_ret (v := .tuple #[.agg #[.int .i64 2, .string ⟨#[]⟩, .int .i64 n2, .int .i64 0], .bool o2]) (by simp [results, Tryz.results98, go_sem, z0, z1, z2, z3]) rfl ⟨_, rfl, RdTok.none hnn (by decide), (((((((K1 2).trans hK2).putB (Nat.le_refl _) _).putB (Nat.le_refl _) _).putB (Nat.le_refl _) _).putB (Nat.le_refl _) _).putB (Nat.le_refl _) _)⟩
      · rw [show digB (t[0].toNat : Int) = false by rw [byteN_get t 0 hpos]; simpa using hd] at hD
        cases hq : ((t[0].toNat : Int) == 34) with
        | true =>
          have q4 : ((t[0].toNat : Int) == 34) = true := hq
          have hR := readQuoted_ok _ B t (hB.kept (k1 3)) hpos ht
          clear hl hd hz hq
          go_enter Tryz.func98, Tryz.ntmps98
          go_wp2_with (first
            | (go_at_call 114; refine (hL _).mono ?_; rintro e wx ⟨rfl, rfl⟩)
            | (go_at_call 116; refine (hD _).mono ?_; rintro e wx ⟨rfl, rfl⟩)
            | (go_at_call 118; refine (hR).mono ?_; rintro e w2 ⟨s2, o2, rfl, hK2⟩; have r2 := Cells.keepsB (Cells.new w 107 #[.int .i64 3, .string ⟨#[]⟩, .int .i64 0, .int .i64 0]) hK2 hne2; have d0 := r2.cell 0; have d1 := r2.cell 1; have d2 := r2.cell 2; have d3 := r2.cell 3; have g0 := r2.frozen 0; have g1 := r2.frozen 1; have g2 := r2.frozen 2; have g3 := r2.frozen 3; have lr := r2.lt; simp at d0 d1 d2 d3))
          have z := ((((r2.set 1 (.string s2)).set 0 (.int .i64 3)).set 1 (.string s2)).set 2 (.int .i64 0)).set 3 (.int .i64 0)
          have z0 := z.cell 0; have z1 := z.cell 1; have z2 := z.cell 2; have z3 := z.cell 3
          exact bodyPost_ret (v := .tuple #[.agg #[.int .i64 3, .string s2, .int .i64 0, .int .i64 0], .bool o2]) (by simp [results, Tryz.results98, go_sem, z0, z1, z2, z3]) rfl ⟨_, rfl, RdTok.none hnn (by decide), (((((((K1 3).trans hK2).putB (Nat.le_refl _) _).putB (Nat.le_refl _) _).putB (Nat.le_refl _) _).putB (Nat.le_refl _) _).putB (Nat.le_refl _) _)⟩
        | false =>
          have q4 : ((t[0].toNat : Int) == 34) = false := hq
          have hR := readSign_ok _ B t (hB.kept (k1 4)) hpos ht
          clear hl hd hz hq
          go_enter Tryz.func98, Tryz.ntmps98
          go_wp2_with (first
            | (go_at_call 114; refine (hL _).mono ?_; rintro e wx ⟨rfl, rfl⟩)
            | (go_at_call 116; refine (hD _).mono ?_; rintro e wx ⟨rfl, rfl⟩)
            | (go_at_call 119; refine (hR).mono ?_; rintro e w2 ⟨s2, o2, rfl, hK2⟩; have r2 := Cells.keepsB (Cells.new w 107 #[.int .i64 4, .string ⟨#[]⟩, .int .i64 0, .int .i64 0]) hK2 hne2; have d0 := r2.cell 0; have d1 := r2.cell 1; have d2 := r2.cell 2; have d3 := r2.cell 3; have g0 := r2.frozen 0; have g1 := r2.frozen 1; have g2 := r2.frozen 2; have g3 := r2.frozen 3; have lr := r2.lt; simp at d0 d1 d2 d3))
          have z := ((((r2.set 1 (.string s2)).set 0 (.int .i64 4)).set 1 (.string s2)).set 2 (.int .i64 0)).set 3 (.int .i64 0)
          have z0 := z.cell 0; have z1 := z.cell 1; have z2 := z.cell 2; have z3 := z.cell 3
          exact bodyPost_ret (v := .tuple #[.agg #[.int .i64 4, .string s2, .int .i64 0, .int .i64 0], .bool o2]) (by simp [results, Tryz.results98, go_sem, z0, z1, z2, z3]) rfl ⟨_, rfl, RdTok.none hnn (by decide), (((((((K1 4).trans hK2).putB (Nat.le_refl _) _).putB (Nat.le_refl _) _).putB (Nat.le_refl _) _).putB (Nat.le_refl _) _).putB (Nat.le_refl _) _)⟩
end Go.Proofs.YtejpjbfmjmfnmaaGreatDoor
