/-
  What becomes of a tree of one's own when a kid of it is turned.
-/
import Derived.Test.YtdcjfeihcafndaaCpyT
import Derived.Test.YtdcjfeihcafndaaParD
namespace Go.Proofs.Ytdcjfeihcafndaa
open Go.RowKit

/-- The same kids under another head. -/
theorem CpT.re {W : World} {t : Nd} {lo hi : Nat} {op n : Int} {s : ByteArray} {kv : Value} (h : CpT W t lo hi (.agg #[.int .i64 op, .string s, .int .i64 n, kv])) (op' n' : Int) (s' : ByteArray) (hs : s'.size ≤ maxLen) : ∃ t', CpT W t' lo hi (.agg #[.int .i64 op', .string s', .int .i64 n', kv]) ∧ t'.size = t.size := by
  cases h with
  | leaf _ => exact ⟨.mk op' s' n' [], .leaf hs, by simp [Nd.size]⟩
  | node g cap cur bl bh q0 q1 q2 q3 _ hlo hhi hg hc hm hz hb hd hq hk => exact ⟨_, .node g cap cur bl bh q0 q1 q2 q3 hs hlo hhi hg hc hm hz hb hd hq hk, by simp [Nd.size]⟩
theorem sizes_set : ∀ (ks : List Nd) (k : Nat) (t t' : Nd), ks[k]? = some t → sizesN (ks.set k t') + t.size = sizesN ks + t'.size
  | [], k, t, t', h => by simp at h
  | x :: ks, 0, t, t', h => by
    simp at h
    subst h
    simp only [List.set_cons_zero, sizesN]
    omega
  | x :: ks, k + 1, t, t', h => by
    have := sizes_set ks k t t' (by simpa using h)
    simp only [List.set_cons_succ, sizesN]
    omega
/-- One kid of a tree of one's own, and the tree where that kid is turned. -/
theorem CpT.kid {W : World} {op n : Int} {s : ByteArray} {ks : List Nd} {lo hi g l cap : Nat} (h : CpT W (.mk op s n ks) lo hi (.agg #[.int .i64 op, .string s, .int .i64 n, .slice (some ⟨g, 0, none⟩) l cap])) {k : Nat} (hk : k < l) :
    ∃ cur bl bh t1 op1 s1 n1 kv1, ks.length = l ∧ lo ≤ g ∧ g < hi ∧ W.heap[g]? = some (.cells cur 26 (0, 0)) ∧ cur[k * 4]? = some (.int .i64 op1) ∧ cur[k * 4 + 1]? = some (.string s1) ∧ cur[k * 4 + 2]? = some (.int .i64 n1) ∧ cur[k * 4 + 3]? = some kv1 ∧ CpT W t1 bl bh (.agg #[.int .i64 op1, .string s1, .int .i64 n1, kv1]) ∧ lo ≤ bl ∧ bl ≤ bh ∧ bh ≤ hi ∧ (g < bl ∨ bh ≤ g) ∧ t1.size < (Nd.mk op s n ks).size ∧
      ∀ (W' : World) (cur' : Array Value) (p0 p1 p2 p3 : Value) (t1' : Nd), W'.heap[g]? = some (.cells cur' 26 (0, 0)) → (∀ j, j < k * 4 ∨ k * 4 + 4 ≤ j → cur'[j]? = cur[j]?) → cur'[k * 4]? = some p0 → cur'[k * 4 + 1]? = some p1 → cur'[k * 4 + 2]? = some p2 → cur'[k * 4 + 3]? = some p3 →
        (∀ b, lo ≤ b → b < hi → b ≠ g → ¬ (bl ≤ b ∧ b < bh) → W'.heap[b]? = W.heap[b]?) → NdS W' (fun b => lo ≤ b) t1' (.agg #[p0, p1, p2, p3]) → ∃ t', NdS W' (fun b => lo ≤ b) t' (.agg #[.int .i64 op, .string s, .int .i64 n, .slice (some ⟨g, 0, none⟩) l cap]) ∧ t'.size + t1.size = (Nd.mk op s n ks).size + t1'.size := by
  cases h with
  | node g cap cur bl bh q0 q1 q2 q3 hs hlo hgh hg hc hm hz hb hd hq hkk =>
    have hx : ks[k]? = some (ks[k]'hk) := List.getElem?_eq_getElem hk
    have hkt := hkk k _ hx
    obtain ⟨op1, s1, n1, ao, l1, cap1, e⟩ := hkt.four
    simp at e
    obtain ⟨e0, e1, e2, e3⟩ := e
    obtain ⟨f0, f1, f2, f3⟩ := hq k hk
    obtain ⟨b1, b2, b3, b4⟩ := hb k hk
    refine ⟨cur, bl k, bh k, ks[k]'hk, op1, s1, n1, .slice ao l1 cap1, rfl, hlo, hgh, hg, by rw [f0, e0], by rw [f1, e1], by rw [f2, e2], by rw [f3, e3], by rw [e0, e1, e2, e3] at hkt; exact hkt, b1, b2, b3, b4, by have := size_mem hx; simp only [Nd.size]; omega, ?_⟩
    intro W' cur' p0 p1 p2 p3 t1' hg' hsame c0 c1 c2 c3 hrest ht1
    refine ⟨.mk op s n (ks.set k t1'), ?_, ?_⟩
    · rw [NdS]
      refine ⟨_, cap, by rw [List.length_set], ⟨hs, by rw [List.length_set]; omega⟩, .inr ⟨g, 0, rfl, hlo, NdsS.of ⟨_, _, hg'⟩ (fun i t ht => ?_)⟩⟩
      have cell : ∀ j c, cur'[j]? = some c → W'.cell? ⟨g, j, none⟩ = some c := fun j c hc => by simp [World.cell?, hg', hc]
      simp only [Nat.zero_add]
      have hil : i < ks.length := by have := (List.getElem?_eq_some_iff.1 ht).1; simpa using this
      by_cases hik : i = k
      · subst hik
        rw [List.getElem?_set_self hil] at ht
        injection ht with ht
        subst ht
        exact ⟨_, _, _, _, cell _ _ c0, cell _ _ c1, cell _ _ c2, cell _ _ c3, ht1⟩
      · rw [List.getElem?_set_ne (fun e => hik e.symm)] at ht
        obtain ⟨u0, u1, u2, u3⟩ := hq i hil
        obtain ⟨v1, v2, v3, v4⟩ := hb i hil
        refine ⟨_, _, _, _, cell _ _ ((hsame _ (by omega)).trans u0), cell _ _ ((hsame _ (by omega)).trans u1), cell _ _ ((hsame _ (by omega)).trans u2), cell _ _ ((hsame _ (by omega)).trans u3), NdS.mono (fun b hb _ => by omega) _ _ ((hkk i t ht).stay (W' := W') (fun b w1 w2 w3 => hrest b (by omega) (by omega) (by omega) ?_)).toS⟩
        rcases Nat.lt_or_ge i k with hlt | hge
        · have := hd i k hlt hk; omega
        · have := hd k i (by omega) hil; omega
    · have := sizes_set ks k (ks[k]'hk) t1' hx
      simp only [Nd.size]
      omega
/-- The kids' row of a tree of one's own. -/
theorem CpT.row {W : World} {op n : Int} {s : ByteArray} {ks : List Nd} {lo hi : Nat} {kv : Value} (h : CpT W (.mk op s n ks) lo hi (.agg #[.int .i64 op, .string s, .int .i64 n, kv])) : ∃ xs, RowX W (fun b => lo ≤ b ∧ b < hi) kv ks xs := by
  cases h with
  | leaf hs => exact ⟨[], ⟨rfl, .inl ⟨rfl, rfl⟩⟩, fun g hg => by simp [Value.ownBlock] at hg, fun i t ht => by simp at ht⟩
  | node g cap cur bl bh q0 q1 q2 q3 hs hlo hhi hg hc hm hz hb hd hq hk =>
    have hxl : (cur.toList.take (ks.length * 4)).length = ks.length * 4 := by
      have e : cur.toList.length = cap * 4 := by rw [← hz]; simp
      rw [List.length_take, e]
      exact Nat.min_eq_left (Nat.mul_le_mul_right _ hc)
    refine ⟨cur.toList.take (ks.length * 4), ⟨hxl, .inr ⟨g, cap, cur, rfl, Nat.zero_le _, hg, hc, hm, hz, rfl⟩⟩, fun g' e => by simp [Value.ownBlock] at e; omega, fun i t ht => ?_⟩
    have hil := (List.getElem?_eq_some_iff.1 ht).1
    obtain ⟨e0, e1, e2, e3⟩ := hq i hil
    obtain ⟨b1, b2, b3, b4⟩ := hb i hil
    have tk : ∀ j c, j < ks.length * 4 → cur[j]? = some c → (cur.toList.take (ks.length * 4))[j]? = some c := fun j c hj hc => by rw [List.getElem?_take, if_pos hj]; simpa using hc
    exact ⟨_, _, _, _, tk _ _ (by omega) e0, tk _ _ (by omega) e1, tk _ _ (by omega) e2, tk _ _ (by omega) e3, NdS.mono (fun b hb' _ => ⟨⟨by omega, by omega⟩, by simp [Value.ownBlock]; omega⟩) _ _ (hk i t ht).toS⟩
end Go.Proofs.Ytdcjfeihcafndaa
