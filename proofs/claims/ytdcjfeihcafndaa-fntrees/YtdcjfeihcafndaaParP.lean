/-
  Trees that lie in blocks of a set; rows of nodes that are appended to.
-/
import Derived.Test.YtdcjfeihcafndaaNodP
import Derived.Test.YtdcjfeihcafndaaKepP
import Derived.Laws.AppendOwn
namespace Go.Proofs.Ytdcjfeihcafndaa
open Go.RowKit

mutual
/-- The tree t lies as the node v, its rows in blocks of S. -/
def NdS (W : World) (S : Nat → Prop) : Nd → Value → Prop
  | .mk op s n ks, v => ∃ ao cap, v = .agg #[.int .i64 op, .string s, .int .i64 n, .slice ao ks.length cap] ∧ (s.size ≤ maxLen ∧ ks.length ≤ maxLen) ∧ (ks = [] ∨ ∃ b off, ao = some ⟨b, off, none⟩ ∧ S b ∧ NdsS W S b off ks)
def NdsS (W : World) (S : Nat → Prop) (b : Nat) : Nat → List Nd → Prop
  | _, [] => True
  | off, k :: ks => Unfr W b ∧ (∃ c0 c1 c2 c3, W.cell? ⟨b, off, none⟩ = some c0 ∧ W.cell? ⟨b, off + 1, none⟩ = some c1 ∧ W.cell? ⟨b, off + 2, none⟩ = some c2 ∧ W.cell? ⟨b, off + 3, none⟩ = some c3 ∧ NdS W S k (.agg #[c0, c1, c2, c3])) ∧ NdsS W S b (off + 4) ks
end
/-- The blocks of S lie as they lay. -/
structure Stays (S : Nat → Prop) (W W' : World) : Prop where
  size : W.heap.size ≤ W'.heap.size
  block : ∀ b, S b → b < W.heap.size → W'.heap[b]? = W.heap[b]?
theorem Stays.refl (S : Nat → Prop) (W : World) : Stays S W W := ⟨Nat.le_refl _, fun _ _ _ => rfl⟩
theorem Stays.trans {S : Nat → Prop} {A B C : World} (h : Stays S A B) (k : Stays S B C) : Stays S A C := ⟨Nat.le_trans h.size k.size, fun b hb hl => (k.block b hb (Nat.lt_of_lt_of_le hl h.size)).trans (h.block b hb hl)⟩
theorem Stays.mono {S S' : Nat → Prop} {A B : World} (h : Stays S A B) (hs : ∀ b, S' b → S b) : Stays S' A B := ⟨h.size, fun b hb hl => h.block b (hs b hb) hl⟩
theorem Stays.set {S : Nat → Prop} {A B : World} (h : Stays S A B) {X j : Nat} (hX : ¬ S X) (u : Value) : Stays S A (B.setCell ⟨X, j, none⟩ u) := h.trans ⟨by simp [World.setCell], fun b hb _ => Below.heap_setCell _ _ _ _ (by rintro rfl; exact hX hb)⟩
theorem Stays.cell {S : Nat → Prop} {W W' : World} (h : Stays S W W') {p : Addr} {c : Value} (hp : S p.block) (hc : W.cell? p = some c) : W'.cell? p = some c := (World.cell?_of_block (w := W) (h.block p.block hp (World.block_lt_of_cell? _ _ hc))).trans hc
theorem Stays.unfr {S : Nat → Prop} {W W' : World} (h : Stays S W W') {b : Nat} (hb : S b) (hu : Unfr W b) : Unfr W' b := by
  obtain ⟨cur, ty, hu⟩ := hu
  exact ⟨cur, ty, (h.block b hb (Array.getElem?_eq_some_iff.1 hu).1).trans hu⟩
mutual
theorem NdS.stay {W W' : World} {S : Nat → Prop} (hs : Stays S W W') : ∀ (t : Nd) (v : Value), NdS W S t v → NdS W' S t v
  | .mk op s n ks, v, h => by
    rw [NdS] at h ⊢
    obtain ⟨ao, cap, e, hl, h⟩ := h
    refine ⟨ao, cap, e, hl, ?_⟩
    rcases h with h | ⟨b, off, e2, hb, h⟩
    · exact .inl h
    · exact .inr ⟨b, off, e2, hb, NdsS.stay hs b off ks hb h⟩
theorem NdsS.stay {W W' : World} {S : Nat → Prop} (hs : Stays S W W') : ∀ (b off : Nat) (ks : List Nd), S b → NdsS W S b off ks → NdsS W' S b off ks
  | _, _, [], _, _ => by rw [NdsS]; trivial
  | b, off, k :: ks, hb, h => by
    rw [NdsS] at h ⊢
    obtain ⟨hu, ⟨c0, c1, c2, c3, h0, h1, h2, h3, hv⟩, hr⟩ := h
    exact ⟨hs.unfr hb hu, ⟨c0, c1, c2, c3, hs.cell hb h0, hs.cell hb h1, hs.cell hb h2, hs.cell hb h3, NdS.stay hs k _ hv⟩, NdsS.stay hs b (off + 4) ks hb hr⟩
end
mutual
theorem NdS.mono {W : World} {S S' : Nat → Prop} (hs : ∀ b, S b → b < W.heap.size → S' b) : ∀ (t : Nd) (v : Value), NdS W S t v → NdS W S' t v
  | .mk op s n ks, v, h => by
    rw [NdS] at h ⊢
    obtain ⟨ao, cap, e, hl, h⟩ := h
    refine ⟨ao, cap, e, hl, ?_⟩
    rcases h with h | ⟨b, off, e2, hb, h⟩
    · exact .inl h
    · cases ks with
      | nil => exact .inl rfl
      | cons k ks =>
        have hlt : b < W.heap.size := by
          have h2 := h
          rw [NdsS] at h2
          obtain ⟨⟨cur, ty, hu⟩, _⟩ := h2
          exact (Array.getElem?_eq_some_iff.1 hu).1
        exact .inr ⟨b, off, e2, hs b hb hlt, NdsS.mono hs b off (k :: ks) h⟩
theorem NdsS.mono {W : World} {S S' : Nat → Prop} (hs : ∀ b, S b → b < W.heap.size → S' b) : ∀ (b off : Nat) (ks : List Nd), NdsS W S b off ks → NdsS W S' b off ks
  | _, _, [], _ => by rw [NdsS]; trivial
  | b, off, k :: ks, h => by
    rw [NdsS] at h ⊢
    obtain ⟨hu, ⟨c0, c1, c2, c3, h0, h1, h2, h3, hv⟩, hr⟩ := h
    exact ⟨hu, ⟨c0, c1, c2, c3, h0, h1, h2, h3, NdS.mono hs k _ hv⟩, NdsS.mono hs b (off + 4) ks hr⟩
end
mutual
theorem NdS.toV {W : World} {S : Nat → Prop} {base : Nat} (hs : ∀ b, S b → base ≤ b) : ∀ (t : Nd) (v : Value), NdS W S t v → NdV W base t v
  | .mk op s n ks, v, h => by
    rw [NdS] at h
    rw [NdV]
    obtain ⟨ao, cap, e, hl, h⟩ := h
    refine ⟨ao, cap, e, hl, ?_⟩
    rcases h with h | ⟨b, off, e2, hb, h⟩
    · exact .inl h
    · exact .inr ⟨b, off, e2, hs b hb, NdsS.toV hs b off ks h⟩
theorem NdsS.toV {W : World} {S : Nat → Prop} {base : Nat} (hs : ∀ b, S b → base ≤ b) : ∀ (b off : Nat) (ks : List Nd), NdsS W S b off ks → NdsV W base b off ks
  | _, _, [], _ => by rw [NdsV]; trivial
  | b, off, k :: ks, h => by
    rw [NdsS] at h
    rw [NdsV]
    obtain ⟨hu, ⟨c0, c1, c2, c3, h0, h1, h2, h3, hv⟩, hr⟩ := h
    exact ⟨fun _ => hu, ⟨c0, c1, c2, c3, h0, h1, h2, h3, NdS.toV hs k _ hv⟩, NdsS.toV hs b (off + 4) ks hr⟩
end
theorem NdsS.of {W : World} {S : Nat → Prop} {b : Nat} (hu : Unfr W b) : ∀ {ks : List Nd} {off : Nat}, (∀ k t, ks[k]? = some t → ∃ c0 c1 c2 c3, W.cell? ⟨b, off + k * 4, none⟩ = some c0 ∧ W.cell? ⟨b, off + k * 4 + 1, none⟩ = some c1 ∧ W.cell? ⟨b, off + k * 4 + 2, none⟩ = some c2 ∧ W.cell? ⟨b, off + k * 4 + 3, none⟩ = some c3 ∧ NdS W S t (.agg #[c0, c1, c2, c3])) → NdsS W S b off ks
  | [], _, _ => by rw [NdsS]; trivial
  | x :: ks, off, h => by
    rw [NdsS]
    refine ⟨hu, by simpa using h 0 x rfl, NdsS.of hu (fun k t e => ?_)⟩
    have := h (k + 1) t (by simpa using e)
    rw [show off + (k + 1) * 4 = off + 4 + k * 4 by omega] at this
    exact this
theorem NdsS.at {W : World} {S : Nat → Prop} {b : Nat} : ∀ {ks : List Nd} {off k : Nat} {t : Nd}, NdsS W S b off ks → ks[k]? = some t → ∃ c0 c1 c2 c3, W.cell? ⟨b, off + k * 4, none⟩ = some c0 ∧ W.cell? ⟨b, off + k * 4 + 1, none⟩ = some c1 ∧ W.cell? ⟨b, off + k * 4 + 2, none⟩ = some c2 ∧ W.cell? ⟨b, off + k * 4 + 3, none⟩ = some c3 ∧ NdS W S t (.agg #[c0, c1, c2, c3])
  | [], _, k, _, _, e => by simp at e
  | x :: ks, off, 0, t, h, e => by
    rw [NdsS] at h
    simp at e
    subst e
    simpa using h.2.1
  | x :: ks, off, k + 1, t, h, e => by
    rw [NdsS] at h
    have := NdsS.at (k := k) (t := t) h.2.2 (by simpa using e)
    rw [show off + 4 + k * 4 = off + (k + 1) * 4 by omega] at this
    exact this
theorem NdS.four {W : World} {S : Nat → Prop} {t : Nd} {v : Value} (h : NdS W S t v) : ∃ op s n ao l cap, v = .agg #[.int .i64 op, .string s, .int .i64 n, .slice ao l cap] := by
  obtain ⟨op, s, n, ks⟩ := t
  rw [NdS] at h
  obtain ⟨ao, cap, e, _⟩ := h
  exact ⟨_, _, _, _, _, _, e⟩
/-- A leaf. -/
theorem NdS.leaf (W : World) (S : Nat → Prop) (op n : Int) (s : ByteArray) (hs : s.size ≤ maxLen) : NdS W S (.mk op s n []) (.agg #[.int .i64 op, .string s, .int .i64 n, .slice none 0 0]) := by
  rw [NdS]
  exact ⟨none, 0, rfl, ⟨hs, by simp⟩, .inl rfl⟩
/-- A row of nodes of the call's own, in blocks of S, its cells xs. -/
def RowX (W : World) (S : Nat → Prop) (v : Value) (ks : List Nd) (xs : List Value) : Prop := W.ownsRow 0 26 4 v ks.length xs ∧ (∀ g, v.ownBlock = some g → S g) ∧ ∀ i t, ks[i]? = some t → ∃ c0 c1 c2 c3, xs[i * 4]? = some c0 ∧ xs[i * 4 + 1]? = some c1 ∧ xs[i * 4 + 2]? = some c2 ∧ xs[i * 4 + 3]? = some c3 ∧ NdS W (fun b => S b ∧ v.ownBlock ≠ some b) t (.agg #[c0, c1, c2, c3])
def NdRow (W : World) (S : Nat → Prop) (v : Value) (ks : List Nd) : Prop := ∃ xs, W.ownsRow 0 26 4 v ks.length xs ∧ (∀ g, v.ownBlock = some g → S g) ∧ ∀ i t, ks[i]? = some t → ∃ c0 c1 c2 c3, xs[i * 4]? = some c0 ∧ xs[i * 4 + 1]? = some c1 ∧ xs[i * 4 + 2]? = some c2 ∧ xs[i * 4 + 3]? = some c3 ∧ NdS W (fun b => S b ∧ v.ownBlock ≠ some b) t (.agg #[c0, c1, c2, c3])
theorem RowX.row {W : World} {S : Nat → Prop} {v : Value} {ks : List Nd} {xs : List Value} (h : RowX W S v ks xs) : NdRow W S v ks := ⟨xs, h⟩
theorem NdRow.nil (W : World) (S : Nat → Prop) : NdRow W S (.slice none 0 0) [] := ⟨[], ⟨rfl, .inl ⟨rfl, rfl⟩⟩, fun g h => by simp [Value.ownBlock] at h, fun i t h => by simp at h⟩
theorem NdRow.slice {W : World} {S : Nat → Prop} {v : Value} {ks : List Nd} (h : NdRow W S v ks) : ∃ a c, v = .slice a ks.length c := by
  obtain ⟨xs, ⟨_, ⟨rfl, h0⟩ | ⟨g, cap, cur, rfl, _⟩⟩, _⟩ := h
  · exact ⟨none, 0, by rw [h0]⟩
  · exact ⟨_, _, rfl⟩
theorem NdRow.lt {W : World} {S : Nat → Prop} {v : Value} {ks : List Nd} (h : NdRow W S v ks) : ∀ j, v.ownBlock = some j → j < W.heap.size := by
  obtain ⟨xs, ⟨_, ⟨rfl, h0⟩ | ⟨g, cap, cur, rfl, hb, hg, _⟩⟩, _⟩ := h
  · intro j hj; simp [Value.ownBlock] at hj
  · intro j hj
    simp [Value.ownBlock] at hj
    subst hj
    exact (Array.getElem?_eq_some_iff.1 hg).1
/-- What has a row as its kids is a tree. -/
theorem NdRow.node {W : World} {S : Nat → Prop} {v : Value} {ks : List Nd} (h : NdRow W S v ks) (op n : Int) (s : ByteArray) (hs : s.size ≤ maxLen) : NdS W S (.mk op s n ks) (.agg #[.int .i64 op, .string s, .int .i64 n, v]) := by
  rw [NdS]
  obtain ⟨xs, ⟨hl, ⟨rfl, h0⟩ | ⟨g, cap, cur, rfl, hb, hg, h1, h2, h3, h4⟩⟩, hS, hx⟩ := h
  · exact ⟨none, 0, by rw [h0], ⟨hs, by rw [h0]; exact Nat.zero_le _⟩, .inl (List.eq_nil_of_length_eq_zero h0)⟩
  · refine ⟨_, cap, rfl, ⟨hs, by omega⟩, .inr ⟨g, 0, rfl, hS g rfl, NdsS.of ⟨_, _, hg⟩ (fun k t ht => ?_)⟩⟩
    obtain ⟨c0, c1, c2, c3, e0, e1, e2, e3, hv⟩ := hx k t ht
    have cell : ∀ i c, xs[i]? = some c → W.cell? ⟨g, i, none⟩ = some c := fun i c hc => by
      rw [← h4, List.getElem?_take] at hc
      split at hc
      · simp [World.cell?, hg]; simpa using hc
      · cases hc
    simp only [Nat.zero_add]
    exact ⟨c0, c1, c2, c3, cell _ _ e0, cell _ _ e1, cell _ _ e2, cell _ _ e3, NdS.mono (fun b hb _ => hb.1) _ _ hv⟩
theorem RowX.on {W W' : World} {S : Nat → Prop} {v : Value} {ks : List Nd} {xs : List Value} (h : RowX W S v ks xs) (hs : Stays S W W') : RowX W' S v ks xs := by
  obtain ⟨ho, hS, hx⟩ := h
  refine ⟨⟨ho.1, ?_⟩, hS, fun i t ht => ?_⟩
  · rcases ho.2 with h0 | ⟨g, cap, cur, e, hb, hg, rest⟩
    · exact .inl h0
    · exact .inr ⟨g, cap, cur, e, hb, (hs.block g (hS g (by rw [e]; rfl)) (Array.getElem?_eq_some_iff.1 hg).1).trans hg, rest⟩
  · obtain ⟨c0, c1, c2, c3, e0, e1, e2, e3, hv⟩ := hx i t ht
    exact ⟨c0, c1, c2, c3, e0, e1, e2, e3, NdS.stay (hs.mono (fun b hb => hb.1)) _ _ hv⟩
theorem NdRow.on {W W' : World} {S : Nat → Prop} {v : Value} {ks : List Nd} (h : NdRow W S v ks) (hs : Stays S W W') : NdRow W' S v ks := by
  obtain ⟨xs, h⟩ := h
  exact ⟨xs, RowX.on h hs⟩
theorem NdRow.mono {W : World} {S S' : Nat → Prop} {v : Value} {ks : List Nd} (h : NdRow W S v ks) (hs : ∀ b, S b → b < W.heap.size → S' b) : NdRow W S' v ks := by
  have hlt := h.lt
  obtain ⟨xs, ho, hS, hx⟩ := h
  refine ⟨xs, ho, fun g hg => hs g (hS g hg) (hlt g hg), fun i t ht => ?_⟩
  obtain ⟨c0, c1, c2, c3, e0, e1, e2, e3, hv⟩ := hx i t ht
  exact ⟨c0, c1, c2, c3, e0, e1, e2, e3, NdS.mono (fun b hb hl => ⟨hs b hb.1 hl, hb.2⟩) _ _ hv⟩
/-- A node that was appended. -/
theorem NdRow.add {W W' : World} {S : Nat → Prop} {v v' : Value} {ks : List Nd} {t : Nd} {d0 d1 d2 d3 : Value} {xs : List Value} (hx : ∀ i t, ks[i]? = some t → ∃ c0 c1 c2 c3, xs[i * 4]? = some c0 ∧ xs[i * 4 + 1]? = some c1 ∧ xs[i * 4 + 2]? = some c2 ∧ xs[i * 4 + 3]? = some c3 ∧ NdS W (fun b => S b ∧ v.ownBlock ≠ some b) t (.agg #[c0, c1, c2, c3])) (hl : xs.length = ks.length * 4) (hS : ∀ g, v.ownBlock = some g → S g) (hW : S W.heap.size)
    (ht : NdS W (fun b => S b ∧ v.ownBlock ≠ some b) t (.agg #[d0, d1, d2, d3])) (ho : W'.ownsRow 0 26 4 v' (ks.length + 1) (xs ++ [d0, d1, d2, d3])) (hg : W.grownBy W' v.ownBlock) (hv : v.ownBlock = v'.ownBlock ∨ v'.ownBlock = some W.heap.size) : NdRow W' S v' (ks ++ [t]) := by
  have stay : ∀ {t : Nd} {u : Value}, NdS W (fun b => S b ∧ v.ownBlock ≠ some b) t u → NdS W' (fun b => S b ∧ v'.ownBlock ≠ some b) t u := fun {t u} h => by
    have h1 : NdS W (fun b => (S b ∧ v.ownBlock ≠ some b) ∧ b < W.heap.size) t u := NdS.mono (fun b hb hlt => ⟨hb, hlt⟩) _ _ h
    have h2 := NdS.stay (W' := W') ⟨hg.size, fun b hb hlt => hg.block b hlt (fun e => hb.1.2 e.symm)⟩ _ _ h1
    refine NdS.mono (fun b hb _ => ⟨hb.1.1, ?_⟩) _ _ h2
    rcases hv with e | e
    · rw [← e]; exact hb.1.2
    · rw [e]
      intro e2
      injection e2 with e2
      have := hb.2
      omega
  refine ⟨xs ++ [d0, d1, d2, d3], by simpa using ho, fun g hgg => ?_, fun i t' hi => ?_⟩
  · rcases hv with e | e
    · exact hS g (by rw [e]; exact hgg)
    · rw [e] at hgg; injection hgg with hgg; rw [← hgg]; exact hW
  by_cases hlt : i < ks.length
  · rw [List.getElem?_append_left hlt] at hi
    obtain ⟨c0, c1, c2, c3, e0, e1, e2, e3, h⟩ := hx i t' hi
    refine ⟨c0, c1, c2, c3, ?_, ?_, ?_, ?_, stay h⟩
    · rw [List.getElem?_append_left (by omega)]; exact e0
    · rw [List.getElem?_append_left (by omega)]; exact e1
    · rw [List.getElem?_append_left (by omega)]; exact e2
    · rw [List.getElem?_append_left (by omega)]; exact e3
  · have hi2 := (List.getElem?_eq_some_iff.1 hi).1
    simp at hi2
    obtain rfl : i = ks.length := by omega
    rw [List.getElem?_append_right (Nat.le_refl _)] at hi
    simp at hi
    subst hi
    refine ⟨d0, d1, d2, d3, ?_, ?_, ?_, ?_, stay ht⟩
    · rw [List.getElem?_append_right (by omega), show ks.length * 4 - xs.length = 0 by omega]; rfl
    · rw [List.getElem?_append_right (by omega), show ks.length * 4 + 1 - xs.length = 1 by omega]; rfl
    · rw [List.getElem?_append_right (by omega), show ks.length * 4 + 2 - xs.length = 2 by omega]; rfl
    · rw [List.getElem?_append_right (by omega), show ks.length * 4 + 3 - xs.length = 3 by omega]; rfl
/-- A row that is laid at once: of two, of one. -/
theorem NdRow.two {W : World} {S : Nat → Prop} {t1 t2 : Nd} {a0 a1 a2 a3 b0 b1 b2 b3 : Value} (h1 : NdS W S t1 (.agg #[a0, a1, a2, a3])) (h2 : NdS W S t2 (.agg #[b0, b1, b2, b3])) (hg : S W.heap.size) : NdRow (W.alloc (.cells #[a0, a1, a2, a3, b0, b1, b2, b3] 26)) S (.slice (some ⟨W.heap.size, 0, none⟩) 2 2) [t1, t2] := by
  have k1 : Kept W (W.alloc (.cells #[a0, a1, a2, a3, b0, b1, b2, b3] 26)) := Kept.alloc (Below.refl _ _) _
  have go : ∀ {t : Nd} {v : Value}, NdS W S t v → NdS (W.alloc (.cells #[a0, a1, a2, a3, b0, b1, b2, b3] 26)) (fun b => S b ∧ (Value.slice (some ⟨W.heap.size, 0, none⟩) 2 2).ownBlock ≠ some b) t v := fun h => NdS.stay ⟨k1.size, fun b _ hlt => k1.block b hlt⟩ _ _ (NdS.mono (fun b hb hl => ⟨hb, by simp [Value.ownBlock]; omega⟩) _ _ h)
  refine ⟨[a0, a1, a2, a3, b0, b1, b2, b3], ⟨rfl, .inr ⟨W.heap.size, 2, _, rfl, Nat.zero_le _, heap_alloc_new W _, Nat.le_refl _, by unfold maxLen; omega, rfl, rfl⟩⟩, fun g hgg => by simp [Value.ownBlock] at hgg; rw [← hgg]; exact hg, fun i t ht => ?_⟩
  match i, ht with
  | 0, ht => simp at ht; subst ht; exact ⟨_, _, _, _, rfl, rfl, rfl, rfl, go h1⟩
  | 1, ht => simp at ht; subst ht; exact ⟨_, _, _, _, rfl, rfl, rfl, rfl, go h2⟩
  | n + 2, ht => simp at ht
theorem NdRow.one {W : World} {S : Nat → Prop} {t1 : Nd} {a0 a1 a2 a3 : Value} (h1 : NdS W S t1 (.agg #[a0, a1, a2, a3])) (hg : S W.heap.size) : NdRow (W.alloc (.cells #[a0, a1, a2, a3] 26)) S (.slice (some ⟨W.heap.size, 0, none⟩) 1 1) [t1] := by
  have k1 : Kept W (W.alloc (.cells #[a0, a1, a2, a3] 26)) := Kept.alloc (Below.refl _ _) _
  refine ⟨[a0, a1, a2, a3], ⟨rfl, .inr ⟨W.heap.size, 1, _, rfl, Nat.zero_le _, heap_alloc_new W _, Nat.le_refl _, by unfold maxLen; omega, rfl, rfl⟩⟩, fun g hgg => by simp [Value.ownBlock] at hgg; rw [← hgg]; exact hg, fun i t ht => ?_⟩
  match i, ht with
  | 0, ht => simp at ht; subst ht; exact ⟨_, _, _, _, rfl, rfl, rfl, rfl, NdS.stay ⟨k1.size, fun b _ hlt => k1.block b hlt⟩ _ _ (NdS.mono (fun b hb hl => ⟨hb, by simp [Value.ownBlock]; omega⟩) _ _ h1)⟩
  | n + 1, ht => simp at ht
theorem Stays.kept {W W' : World} (hk : Kept W W') (S : Nat → Prop) : Stays S W W' := ⟨hk.size, fun b _ hlt => hk.block b hlt⟩
theorem Stays.keeps {c : Nat} {S : Nat → Prop} {W W' : World} (hk : Keeps c W W') (hb : ¬ S c) : Stays S W W' := ⟨hk.size, fun b h hlt => hk.block b hlt (by rintro rfl; exact hb h)⟩
theorem Keeps.setNew {c : Nat} {a w : World} (h : Keeps c a w) {X j : Nat} (hX : a.heap.size ≤ X) (u : Value) : Keeps c a (w.setCell ⟨X, j, none⟩ u) := ⟨h.os, h.tape, h.output, by simpa [World.setCell] using h.size, fun k hk hc => (Below.heap_setCell _ _ _ _ (by show k ≠ X; omega)).trans (h.block k hk hc)⟩
end Go.Proofs.Ytdcjfeihcafndaa
