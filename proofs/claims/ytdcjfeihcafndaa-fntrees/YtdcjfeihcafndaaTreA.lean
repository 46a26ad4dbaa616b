/-
  Chapter 12's draws: a program that is picked, and the tree that is parsed of it.
-/
import Derived.Test.YtdcjfeihcafndaaParL
import Derived.Test.YtdcjfeihcafndaaDrawV
namespace Go.Proofs.Ytdcjfeihcafndaa
open Go.RowKit
set_option linter.unusedSimpArgs false
attribute [local go_sem] Plain.and7

theorem l1Pick_any (c : Nat) (a : Option Addr) (len cap : Nat) (z : Nat → Int) (b n M : Nat) (hn0 : 0 < n) (hn : n ≤ 1000) (w : World) (h : Cur w c a len cap z) (hne : b ≠ c) (hcell : ∀ i, i < n → ∃ s, w.cell? ⟨b, i, none⟩ = some (.string s) ∧ s.size ≤ M) :
    Calls Try.prog 18 #[.pointer (some ⟨c, 0, none⟩), .slice (some ⟨b, 0, none⟩) n n] w fun e w' => ∃ x : ByteArray, e = .returned (.string x) ∧ x.size ≤ M ∧ Keeps c w w' ∧ Cur w' c a len cap z := by
  have hbl : b < w.heap.size := by
    obtain ⟨s, hs, _⟩ := hcell 0 hn0
    exact World.block_lt_of_cell? _ _ hs
  have hBe := l1Below_ok c a len cap z n (by omega) w h
  have HC : Hid (∀ i, i < n → ∃ s, w.cell? ⟨b, i, none⟩ = some (.string s) ∧ s.size ≤ M) := hcell
  clear hcell
  go_enter Try.func18, Try.ntmps18
  go_wp2_with fail
  refine hBe.mono ?_
  rintro e w1 ⟨x, rfl, hx0, hx1, hk, hc⟩
  obtain ⟨k, rfl⟩ := Int.eq_ofNat_of_zero_le hx0
  have hx2 : (k : Int) < (n : Int) := hx1 (by omega)
  obtain ⟨s, hs, hM⟩ := HC.out k (by omega)
  have hcw : w1.cell? ⟨b, k, none⟩ = some (.string s) := (hk.cell (p := ⟨b, k, none⟩) hbl hne).trans hs
  clear hx1 hBe
  go_wp2
  go_ret
  exact ⟨s, rfl, hM, hk, hc⟩
set_option maxRecDepth 100000 in
set_option maxHeartbeats 4000000 in
theorem l11Programs_ok (w : World) : Calls Try.prog 29 #[] w fun e w' => e = .returned (.slice (some ⟨w.heap.size, 0, none⟩) 12 12) ∧ (∀ i, i < 12 → ∃ s, w'.cell? ⟨w.heap.size, i, none⟩ = some (.string s) ∧ s.size ≤ 1000) ∧ Kept w w' := by
  go_enter Try.func29, Try.ntmps29
  go_wp2_with fail
  go_ret
  refine ⟨rfl, fun i hi => ?_, Kept.alloc (Below.refl _ _) _⟩
  rw [(Cells.new w _ _).cell i]
  match i, hi with
  | 0, _ => exact ⟨_, rfl, by decide +kernel⟩
  | 1, _ => exact ⟨_, rfl, by decide +kernel⟩
  | 2, _ => exact ⟨_, rfl, by decide +kernel⟩
  | 3, _ => exact ⟨_, rfl, by decide +kernel⟩
  | 4, _ => exact ⟨_, rfl, by decide +kernel⟩
  | 5, _ => exact ⟨_, rfl, by decide +kernel⟩
  | 6, _ => exact ⟨_, rfl, by decide +kernel⟩
  | 7, _ => exact ⟨_, rfl, by decide +kernel⟩
  | 8, _ => exact ⟨_, rfl, by decide +kernel⟩
  | 9, _ => exact ⟨_, rfl, by decide +kernel⟩
  | 10, _ => exact ⟨_, rfl, by decide +kernel⟩
  | 11, _ => exact ⟨_, rfl, by decide +kernel⟩
  | n + 12, h => exact absurd h (by omega)
theorem Cur.keptC {w w' : World} {c : Nat} {a : Option Addr} {len cap : Nat} {z : Nat → Int} (h : Cur w c a len cap z) (hk : Kept w w') : Cur w' c a len cap z := by
  obtain ⟨i, hi, hc1⟩ := h.i
  obtain ⟨g, hc2⟩ := h.h
  have hb := hk.block c h.lt
  exact Cur.next h.src h.lt hk.keeps (kept_cell hk h.b) ⟨i, hi, kept_cell hk hc1⟩ ⟨g, kept_cell hk hc2⟩ (by have := h.f1; simp only [World.frozen?] at this ⊢; rw [hb]; exact this) (by have := h.f2; simp only [World.frozen?] at this ⊢; rw [hb]; exact this)
theorem Cur.same {w w' : World} {c : Nat} {a : Option Addr} {len cap : Nat} {z : Nat → Int} (h : Cur w c a len cap z) (hs : w.heap.size ≤ w'.heap.size) (hb : ∀ k, k ≤ c → w'.heap[k]? = w.heap[k]?) : Cur w' c a len cap z := by
  obtain ⟨i, hi, hc1⟩ := h.i
  obtain ⟨g, hc2⟩ := h.h
  have hbc := hb c (Nat.le_refl _)
  have cl : ∀ {p : Addr} {u : Value}, p.block ≤ c → w.cell? p = some u → w'.cell? p = some u := fun hp hu => (World.cell?_of_block (w := w) (hb _ hp)).trans hu
  refine ⟨Nat.lt_of_lt_of_le h.lt hs, ⟨h.src.1, fun hl => ?_⟩, cl (Nat.le_refl _) h.b, ⟨i, hi, cl (Nat.le_refl _) hc1⟩, ⟨g, cl (Nat.le_refl _) hc2⟩, (by have := h.f1; simp only [World.frozen?] at this ⊢; rw [hbc]; exact this), (by have := h.f2; simp only [World.frozen?] at this ⊢; rw [hbc]; exact this)⟩
  obtain ⟨b, o, e, hlt, hz⟩ := h.src.2 hl
  exact ⟨b, o, e, hlt, fun j hj => ⟨cl (by show b ≤ c; omega) (hz j hj).1, (hz j hj).2⟩⟩
theorem l11DrawSource_ok (c : Nat) (a : Option Addr) (len cap : Nat) (z : Nat → Int) (w : World) (h : Cur w c a len cap z) :
    Calls Try.prog 23 #[.pointer (some ⟨c, 0, none⟩)] w fun e w' => ∃ x : ByteArray, e = .returned (.string x) ∧ x.size ≤ 1000 ∧ Keeps c w w' ∧ Cur w' c a len cap z := by
  have hP := l11Programs_ok w
  have hlt := h.lt
  have HC : Hid (Cur w c a len cap z) := h
  clear h
  go_enter Try.func23, Try.ntmps23
  go_wp2_with (first
    | (have _tk := k1; go_at_call 18; refine (l1Pick_any c a len cap z w.heap.size 12 1000 (by omega) (by omega) w1 (HC.out.keptC k1) (by omega) hcl).mono ?_; rintro e w2 ⟨x, rfl, hx, hk2, hC2⟩)
    | (go_at_call 29; refine hP.mono ?_; rintro e w1 ⟨rfl, hcl, k1⟩))
  go_ret
  exact ⟨x, rfl, hx, k1.keeps.trans hk2, hC2⟩
set_option maxHeartbeats 4000000 in
theorem l12DrawNode_ok (c : Nat) (a : Option Addr) (len cap : Nat) (z : Nat → Int) (w : World) (h : Cur w c a len cap z) :
    Calls Try.prog 16 #[.pointer (some ⟨c, 0, none⟩)] w fun e w' => ∃ t v, e = .returned v ∧ NdS w' (fun b => w.heap.size ≤ b) t v ∧ t.size ≤ 200 ∧ Keeps c w w' ∧ Cur w' c a len cap z := by
  have k0 : Kept w (w.alloc (.cells zeroN 26)) := Kept.alloc (Below.refl _ _) _
  have hS := l11DrawSource_ok c a len cap z _ (h.keptC k0)
  have r0 := Cells.new w 26 zeroN
  have hlt := h.lt
  go_enter Try.func16, Try.ntmps16
  go_upto_region 2 with (first
    | (have _tk := hk1; go_at_call 22; refine (Parse_ok w1 x (by omega)).mono ?_; rintro e w2 ⟨v, p, rfl, hcase, k2⟩; obtain ⟨op, s, n, ao, l, cp, rfl⟩ : ∃ op s n ao l cp, v = .agg #[.int .i64 op, .string s, .int .i64 n, .slice ao l cp] := (by rcases hcase with ⟨_, rfl⟩ | ⟨_, nd, hn, _⟩; exact ⟨_, _, _, _, _, _, rfl⟩; exact hn.four))
    | (go_at_call 23; refine hS.mono ?_; rintro e w1 ⟨x, rfl, hx, hk1, hC1⟩))
  have k3 : Kept w2 (w2.alloc (.cells #[.int .i64 op, .string s, .int .i64 n, .slice ao l cp] 26)) := Kept.alloc (Below.refl _ _) _
  have r2 := ((r0.keeps hk1 (by omega)).kept k2).kept k3
  have b2 := Cells.new w2 26 #[.int .i64 op, .string s, .int .i64 n, .slice ao l cp]
  have d0 := r2.cell 0; have d1 := r2.cell 1; have d2 := r2.cell 2; have d3 := r2.cell 3; have g0 := r2.frozen 0; have g1 := r2.frozen 1; have g2 := r2.frozen 2; have g3 := r2.frozen 3
  have kk : Keeps c w (w2.alloc (.cells #[.int .i64 op, .string s, .int .i64 n, .slice ao l cp] 26)) := ((k0.keeps.trans hk1).trans k2.keeps).trans k3.keeps
  have hsz := hk1.size
  simp only [World.size_alloc] at hsz
  have hCr : Hid (∀ x y z' u, Cur (set4 (w2.alloc (.cells #[.int .i64 op, .string s, .int .i64 n, .slice ao l cp] 26)) w.heap.size x y z' u) c a len cap z) := fun x y z' u => (hC1.keptC (k2.trans k3)).same (by simp [World.setCell]) (fun k hk => ((Stays.refl (fun b => b ≠ w.heap.size) _).set4 (by simp) x y z' u).block k (by omega) (by have := (hC1.keptC (k2.trans k3)).lt; omega))
  rcases hcase with ⟨hp, e⟩ | ⟨rfl, nd, hn, hz1, hz2⟩
  · have q1 : 0 ≤ p := hp
    go_wp2_with fail
    have y := r2.put4 (.int .i64 1) (.string ⟨#[]⟩) (.int .i64 0) (.slice none 0 0)
    have z0 := y.cell 0; have z1 := y.cell 1; have z2 := y.cell 2; have z3 := y.cell 3
    exact bodyPost_ret (v := .agg #[.int .i64 1, .string ⟨#[]⟩, .int .i64 0, .slice none 0 0]) (by simp [results, Try.results16, go_sem, z0, z1, z2, z3]) rfl ⟨.mk 1 ⟨#[]⟩ 0 [], _, rfl, NdS.leaf _ _ 1 0 ⟨#[]⟩ (by decide), by simp [Nd.size, sizesN], kk.set4 (Nat.le_refl _) _ _ _ _, hCr.out _ _ _ _⟩
  · go_wp2_with fail
    have y := r2.put4 (.int .i64 op) (.string s) (.int .i64 n) (.slice ao l cp)
    have z0 := y.cell 0; have z1 := y.cell 1; have z2 := y.cell 2; have z3 := y.cell 3
    refine bodyPost_ret (v := .agg #[.int .i64 op, .string s, .int .i64 n, .slice ao l cp]) (by simp [results, Try.results16, go_sem, z0, z1, z2, z3]) rfl ⟨nd, _, rfl, ?_, hz1, kk.set4 (Nat.le_refl _) _ _ _ _, hCr.out _ _ _ _⟩
    exact NdS.mono (fun b hb _ => by omega) _ _ (NdS.stay (((Stays.kept k3 _)).set4 (S := fun b => w1.heap.size ≤ b) (by omega) _ _ _ _) _ _ hn)
end Go.Proofs.Ytdcjfeihcafndaa
