/-
  Trees of nodes, and how they lie in memory: a node's four cells, its kids side by side.
-/
import Derived.Test.YtlinbkgeahgkjaaGreatDoorSlabI
namespace Go.Proofs.YtlinbkgeahgkjaaGreatDoor
open Go.RowKit

inductive Nd where
  | mk (op : Int) (s : ByteArray) (n : Int) (kids : List Nd)
mutual
def Nd.size : Nd → Nat
  | .mk _ _ _ ks => 1 + sizesN ks
def sizesN : List Nd → Nat
  | [] => 0
  | k :: ks => k.size + sizesN ks
end
mutual
def Nd.deep : Nd → Nat
  | .mk _ _ _ ks => deepsN ks + 1
def deepsN : List Nd → Nat
  | [] => 0
  | k :: ks => max k.deep (deepsN ks)
end
/-- A block of cells of which none is shared with a string. -/
def Unfr (W : World) (b : Nat) : Prop := ∃ cur ty, W.heap[b]? = some (.cells cur ty (0, 0))
mutual
def NdV (W : World) (base : Nat) : Nd → Value → Prop
  | .mk op s n ks, v => ∃ ao cap, v = .agg #[.int .i64 op, .string s, .int .i64 n, .slice ao ks.length cap] ∧ (s.size ≤ maxLen ∧ ks.length ≤ maxLen) ∧ (ks = [] ∨ ∃ b off, ao = some ⟨b, off, none⟩ ∧ base ≤ b ∧ NdsV W base b off ks)
def NdsV (W : World) (base : Nat) (b : Nat) : Nat → List Nd → Prop
  | _, [] => True
  | off, k :: ks => (1 ≤ base → Unfr W b) ∧ (∃ c0 c1 c2 c3, W.cell? ⟨b, off, none⟩ = some c0 ∧ W.cell? ⟨b, off + 1, none⟩ = some c1 ∧ W.cell? ⟨b, off + 2, none⟩ = some c2 ∧ W.cell? ⟨b, off + 3, none⟩ = some c3 ∧ NdV W base k (.agg #[c0, c1, c2, c3])) ∧ NdsV W base b (off + 4) ks
end
theorem kept_cell {W W' : World} (hk : Kept W W') {p : Addr} {c : Value} (h : W.cell? p = some c) : W'.cell? p = some c := (hk.cell (World.block_lt_of_cell? _ _ h)).trans h
/-- What lies at a base or above stays. -/
structure Turn (base : Nat) (W W' : World) : Prop where
  cell : ∀ p c, base ≤ p.block → W.cell? p = some c → W'.cell? p = some c
  unfr : ∀ b, base ≤ b → Unfr W b → Unfr W' b
theorem Turn.kept {W W' : World} {base : Nat} (hk : Kept W W') : Turn base W W' := ⟨fun _ _ _ h => kept_cell hk h, fun b _ ⟨cur, ty, h⟩ => ⟨cur, ty, (hk.block b (Array.getElem?_eq_some_iff.1 h).1).trans h⟩⟩
theorem Turn.trans {W W' W'' : World} {base : Nat} (h : Turn base W W') (h' : Turn base W' W'') : Turn base W W'' := ⟨fun p c hp hc => h'.cell p c hp (h.cell p c hp hc), fun b hb hu => h'.unfr b hb (h.unfr b hb hu)⟩
theorem Turn.low {W : World} {base b j : Nat} {u : Value} (hb : b < base) : Turn base W (W.setCell ⟨b, j, none⟩ u) := ⟨fun p c hp h => by
  rw [World.cell?_setCell_other _ _ _ _ (by intro e; have := congrArg Addr.block e; simp at this; omega)]
  exact h, fun b' hb' ⟨cur, ty, h⟩ => ⟨cur, ty, (Below.heap_setCell _ _ _ _ (by show b' ≠ b; omega)).trans h⟩⟩
theorem Turn.mono {W W' : World} {base base' : Nat} (h : Turn base W W') (hb : base ≤ base') : Turn base' W W' := ⟨fun p c hp hc => h.cell p c (by omega) hc, fun b hb' hu => h.unfr b (by omega) hu⟩
mutual
theorem NdV.turn {W W' : World} {base : Nat} (hc : Turn base W W') : ∀ (t : Nd) (v : Value), NdV W base t v → NdV W' base t v
  | .mk op s n ks, v, h => by
    rw [NdV] at h ⊢
    obtain ⟨ao, cap, e, hl, h⟩ := h
    refine ⟨ao, cap, e, hl, ?_⟩
    rcases h with h | ⟨b, off, e2, hb, h⟩
    · exact .inl h
    · exact .inr ⟨b, off, e2, hb, NdsV.turn hc b off ks hb h⟩
theorem NdsV.turn {W W' : World} {base : Nat} (hc : Turn base W W') : ∀ (b off : Nat) (ks : List Nd), base ≤ b → NdsV W base b off ks → NdsV W' base b off ks
  | _, _, [], _, _ => by rw [NdsV]; trivial
  | b, off, k :: ks, hb, h => by
    rw [NdsV] at h ⊢
    obtain ⟨hu, ⟨c0, c1, c2, c3, h0, h1, h2, h3, hv⟩, hr⟩ := h
    exact ⟨fun h => hc.unfr b hb (hu h), ⟨c0, c1, c2, c3, hc.cell _ _ hb h0, hc.cell _ _ hb h1, hc.cell _ _ hb h2, hc.cell _ _ hb h3, NdV.turn hc k _ hv⟩, NdsV.turn hc b (off + 4) ks hb hr⟩
end
theorem NdV.kept {W W' : World} {base : Nat} (hk : Kept W W') {t : Nd} {v : Value} (h : NdV W base t v) : NdV W' base t v := NdV.turn (Turn.kept hk) t v h
theorem NdV.low {W : World} {base b j : Nat} {u : Value} (hb : b < base) {t : Nd} {v : Value} (h : NdV W base t v) : NdV (W.setCell ⟨b, j, none⟩ u) base t v := NdV.turn (Turn.low hb) t v h
mutual
theorem NdV.mono {W : World} {base base' : Nat} (hb : base' ≤ base) : ∀ (t : Nd) (v : Value), NdV W base t v → NdV W base' t v
  | .mk op s n ks, v, h => by
    rw [NdV] at h ⊢
    obtain ⟨ao, cap, e, hl, h⟩ := h
    refine ⟨ao, cap, e, hl, ?_⟩
    rcases h with h | ⟨b, off, e2, hb2, h⟩
    · exact .inl h
    · exact .inr ⟨b, off, e2, by omega, NdsV.mono hb b off ks h⟩
theorem NdsV.mono {W : World} {base base' : Nat} (hb : base' ≤ base) : ∀ (b off : Nat) (ks : List Nd), NdsV W base b off ks → NdsV W base' b off ks
  | _, _, [], _ => by rw [NdsV]; trivial
  | b, off, k :: ks, h => by
    rw [NdsV] at h ⊢
    obtain ⟨hu, ⟨c0, c1, c2, c3, h0, h1, h2, h3, hv⟩, hr⟩ := h
    exact ⟨fun h => hu (by omega), ⟨c0, c1, c2, c3, h0, h1, h2, h3, NdV.mono hb k _ hv⟩, NdsV.mono hb b (off + 4) ks hr⟩
end
theorem NdsV.of {W : World} {base b : Nat} (hu : 1 ≤ base → Unfr W b) : ∀ {ks : List Nd} {off : Nat}, (∀ k t, ks[k]? = some t → ∃ c0 c1 c2 c3, W.cell? ⟨b, off + k * 4, none⟩ = some c0 ∧ W.cell? ⟨b, off + k * 4 + 1, none⟩ = some c1 ∧ W.cell? ⟨b, off + k * 4 + 2, none⟩ = some c2 ∧ W.cell? ⟨b, off + k * 4 + 3, none⟩ = some c3 ∧ NdV W base t (.agg #[c0, c1, c2, c3])) → NdsV W base b off ks
  | [], _, _ => by rw [NdsV]; trivial
  | x :: ks, off, h => by
    rw [NdsV]
    refine ⟨hu, by simpa using h 0 x rfl, NdsV.of hu (fun k t e => ?_)⟩
    have := h (k + 1) t (by simpa using e)
    rw [show off + (k + 1) * 4 = off + 4 + k * 4 by omega] at this
    exact this
theorem NdsV.at {W : World} {base b : Nat} : ∀ {ks : List Nd} {off k : Nat} {t : Nd}, NdsV W base b off ks → ks[k]? = some t → ∃ c0 c1 c2 c3, W.cell? ⟨b, off + k * 4, none⟩ = some c0 ∧ W.cell? ⟨b, off + k * 4 + 1, none⟩ = some c1 ∧ W.cell? ⟨b, off + k * 4 + 2, none⟩ = some c2 ∧ W.cell? ⟨b, off + k * 4 + 3, none⟩ = some c3 ∧ NdV W base t (.agg #[c0, c1, c2, c3])
  | [], _, k, _, _, e => by simp at e
  | x :: ks, off, 0, t, h, e => by
    rw [NdsV] at h
    simp at e
    subst e
    simpa using h.2.1
  | x :: ks, off, k + 1, t, h, e => by
    rw [NdsV] at h
    have := NdsV.at (k := k) (t := t) h.2.2 (by simpa using e)
    rw [show off + 4 + k * 4 = off + (k + 1) * 4 by omega] at this
    exact this
theorem NdV.four {W : World} {base : Nat} : ∀ {t : Nd} {v : Value}, NdV W base t v → ∃ op s n ao l cap, v = .agg #[.int .i64 op, .string s, .int .i64 n, .slice ao l cap]
  | .mk op s n ks, v, h => by
    rw [NdV] at h
    obtain ⟨ao, cap, e, _⟩ := h
    exact ⟨_, _, _, _, _, _, e⟩
theorem sizes_take {ks : List Nd} {k : Nat} {t : Nd} (h : ks[k]? = some t) : sizesN (ks.take (k + 1)) = sizesN (ks.take k) + t.size := by
  have h2 : ∀ (l : List Nd) (x : Nd), sizesN (l ++ [x]) = sizesN l + x.size := by
    intro l x
    induction l with
    | nil => simp [sizesN]
    | cons y l ih => simp only [List.cons_append, sizesN, ih]; omega
  rw [List.take_add_one, h]
  exact h2 _ _
theorem sizes_le {ks : List Nd} : ∀ k, sizesN (ks.take k) ≤ sizesN ks := by
  induction ks with
  | nil => intro k; simp
  | cons y l ih =>
    intro k
    cases k with
    | zero => simp [sizesN]
    | succ k => have := ih k; simp only [List.take_succ_cons, sizesN]; omega
theorem size_mem {ks : List Nd} {k : Nat} {t : Nd} (h : ks[k]? = some t) : t.size ≤ sizesN ks := by
  have h1 := sizes_take h
  have h2 := sizes_le (ks := ks) (k + 1)
  omega
mutual
/-- What szNode counts. -/
def Nd.bulk : Nd → Nat
  | .mk _ s _ ks => s.size + (ks.length + bulksN ks)
def bulksN : List Nd → Nat
  | [] => 0
  | k :: ks => k.bulk + bulksN ks
end
theorem bulks_take {ks : List Nd} {k : Nat} {t : Nd} (h : ks[k]? = some t) : bulksN (ks.take (k + 1)) = bulksN (ks.take k) + t.bulk := by
  have h2 : ∀ (l : List Nd) (x : Nd), bulksN (l ++ [x]) = bulksN l + x.bulk := by
    intro l x
    induction l with
    | nil => simp [bulksN]
    | cons y l ih => simp only [List.cons_append, bulksN, ih]; omega
  rw [List.take_add_one, h]
  exact h2 _ _
theorem bulks_le {ks : List Nd} : ∀ k, bulksN (ks.take k) ≤ bulksN ks := by
  induction ks with
  | nil => intro k; simp
  | cons y l ih =>
    intro k
    cases k with
    | zero => simp [bulksN]
    | succ k => have := ih k; simp only [List.take_succ_cons, bulksN]; omega
mutual
theorem Nd.size_le : ∀ t : Nd, t.size ≤ t.bulk + 1
  | .mk _ _ _ ks => by
    have := sizes_bulk ks
    simp only [Nd.size, Nd.bulk]
    omega
theorem sizes_bulk : ∀ ks : List Nd, sizesN ks ≤ ks.length + bulksN ks
  | [] => by simp [sizesN]
  | k :: ks => by
    have h1 := k.size_le
    have h2 := sizes_bulk ks
    simp only [sizesN, bulksN, List.length_cons]
    omega
end
theorem Nd.size_pos : ∀ t : Nd, 1 ≤ t.size
  | .mk _ _ _ _ => by simp [Nd.size]
theorem len_sizes : ∀ ks : List Nd, ks.length ≤ sizesN ks
  | [] => by simp
  | k :: ks => by
    have h1 := k.size_pos
    have h2 := len_sizes ks
    simp only [List.length_cons, sizesN]
    omega
theorem deeps_take {ks : List Nd} {k : Nat} {t : Nd} (h : ks[k]? = some t) : deepsN (ks.take (k + 1)) = max (deepsN (ks.take k)) t.deep := by
  have h2 : ∀ (l : List Nd) (x : Nd), deepsN (l ++ [x]) = max (deepsN l) x.deep := by
    intro l x
    induction l with
    | nil => simp [deepsN]
    | cons y l ih => simp only [List.cons_append, deepsN, ih]; omega
  rw [List.take_add_one, h]
  exact h2 _ _
mutual
theorem Nd.deep_le : ∀ t : Nd, t.deep ≤ t.size
  | .mk _ _ _ ks => by
    have := deeps_le ks
    simp only [Nd.deep, Nd.size]
    omega
theorem deeps_le : ∀ ks : List Nd, deepsN ks ≤ sizesN ks
  | [] => by simp [deepsN]
  | k :: ks => by
    have h1 := k.deep_le
    have h2 := deeps_le ks
    simp only [deepsN, sizesN]
    omega
end
end Go.Proofs.YtlinbkgeahgkjaaGreatDoor
