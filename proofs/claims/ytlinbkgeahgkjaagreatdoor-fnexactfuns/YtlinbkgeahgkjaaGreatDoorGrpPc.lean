/-
  Trees that lie in blocks of a set; rows of nodes that are appended to.
  Trees of one's own: each row an own row, the kids in blocks of their own.
  The contract of chapter 12's model l12Copy: the same tree, in memory of its own (without the texts of the parser).
  Rows of trees of one's own, one laid behind another.
-/
import Derived.Laws.AppendOwn
import Derived.Deep.RegionLaw
import Derived.Deep.RegionHeld3
import Derived.Deep.RegionWith
import Derived.Deep.AppendLies
import Derived.Deep.LoopGhost
import Derived.OwnWalk
import Derived.Maps.AppendAt
import Derived.Test.YtlinbkgeahgkjaaGreatDoorNodP
import Derived.Test.YtlinbkgeahgkjaaGreatDoorKepP
namespace Go.Proofs.YtlinbkgeahgkjaaGreatDoor
open Go.RowKit

mutual
/-- The tree t lies as the node v, its rows in blocks of S. -/
def NdS (W : World) (S : Nat → Prop) : Nd → Value → Prop
  | .mk op s n ks, v => ∃ ao cap, v = .agg #[.int .i64 op, .string s, .int .i64 n, .slice ao ks.length cap] ∧ (s.size ≤ maxLen ∧ ks.length ≤ maxLen) ∧ (ks = [] ∨ ∃ b off, ao = some ⟨b, off, none⟩ ∧ S b ∧ NdsS W S b off ks)
def NdsS (W : World) (S : Nat → Prop) (b : Nat) : Nat → List Nd → Prop
  | _, [] => True
  | off, k :: ks => Unfr W b ∧ (∃ c0 c1 c2 c3, W.cell? ⟨b, off, none⟩ = some c0 ∧ W.cell? ⟨b, off + 1, none⟩ = some c1 ∧ W.cell? ⟨b, off + 2, none⟩ = some c2 ∧ W.cell? ⟨b, off + 3, none⟩ = some c3 ∧ NdS W S k (.agg #[c0, c1, c2, c3])) ∧ NdsS W S b (off + 4) ks
end
/-- The blocks of S lie as they lay. -/
structure Stays (S : Nat → Prop) (W W' : World) : Prop where
  size : W.heap.size ≤ W'.heap.size
  block : ∀ b, S b → b < W.heap.size → W'.heap[b]? = W.heap[b]?
theorem Stays.refl (S : Nat → Prop) (W : World) : Stays S W W := ⟨Nat.le_refl _, fun _ _ _ => rfl⟩
theorem Stays.trans {S : Nat → Prop} {A B C : World} (h : Stays S A B) (k : Stays S B C) : Stays S A C := ⟨Nat.le_trans h.size k.size, fun b hb hl => (k.block b hb (Nat.lt_of_lt_of_le hl h.size)).trans (h.block b hb hl)⟩
theorem Stays.mono {S S' : Nat → Prop} {A B : World} (h : Stays S A B) (hs : ∀ b, S' b → S b) : Stays S' A B := ⟨h.size, fun b hb hl => h.block b (hs b hb) hl⟩
theorem Stays.set {S : Nat → Prop} {A B : World} (h : Stays S A B) {X j : Nat} (hX : ¬ S X) (u : Value) : Stays S A (B.setCell ⟨X, j, none⟩ u) := h.trans ⟨by simp [World.setCell], fun b hb _ => Below.heap_setCell _ _ _ _ (by rintro rfl; exact hX hb)⟩
theorem Stays.cell {S : Nat → Prop} {W W' : World} (h : Stays S W W') {p : Addr} {c : Value} (hp : S p.block) (hc : W.cell? p = some c) : W'.cell? p = some c := (World.cell?_of_block (w := W) (h.block p.block hp (World.block_lt_of_cell? _ _ hc))).trans hc
theorem Stays.unfr {S : Nat → Prop} {W W' : World} (h : Stays S W W') {b : Nat} (hb : S b) (hu : Unfr W b) : Unfr W' b := by
  obtain ⟨cur, ty, hu⟩ := hu
  exact ⟨cur, ty, (h.block b hb (Array.getElem?_eq_some_iff.1 hu).1).trans hu⟩
mutual
theorem NdS.stay {W W' : World} {S : Nat → Prop} (hs : Stays S W W') : ∀ (t : Nd) (v : Value), NdS W S t v → NdS W' S t v
  | .mk op s n ks, v, h => by
    rw [NdS] at h ⊢
    obtain ⟨ao, cap, e, hl, h⟩ := h
    refine ⟨ao, cap, e, hl, ?_⟩
    rcases h with h | ⟨b, off, e2, hb, h⟩
    · exact .inl h
    · exact .inr ⟨b, off, e2, hb, NdsS.stay hs b off ks hb h⟩
theorem NdsS.stay {W W' : World} {S : Nat → Prop} (hs : Stays S W W') : ∀ (b off : Nat) (ks : List Nd), S b → NdsS W S b off ks → NdsS W' S b off ks
  | _, _, [], _, _ => by rw [NdsS]; trivial
  | b, off, k :: ks, hb, h => by
    rw [NdsS] at h ⊢
    obtain ⟨hu, ⟨c0, c1, c2, c3, h0, h1, h2, h3, hv⟩, hr⟩ := h
    exact ⟨hs.unfr hb hu, ⟨c0, c1, c2, c3, hs.cell hb h0, hs.cell hb h1, hs.cell hb h2, hs.cell hb h3, NdS.stay hs k _ hv⟩, NdsS.stay hs b (off + 4) ks hb hr⟩
end
mutual
theorem NdS.mono {W : World} {S S' : Nat → Prop} (hs : ∀ b, S b → b < W.heap.size → S' b) : ∀ (t : Nd) (v : Value), NdS W S t v → NdS W S' t v
  | .mk op s n ks, v, h => by
    rw [NdS] at h ⊢
    obtain ⟨ao, cap, e, hl, h⟩ := h
    refine ⟨ao, cap, e, hl, ?_⟩
    rcases h with h | ⟨b, off, e2, hb, h⟩
    · exact .inl h
    · cases ks with
      | nil => exact .inl rfl
      | cons k ks =>
        have hlt : b < W.heap.size := by
          have h2 := h
          rw [NdsS] at h2
          obtain ⟨⟨cur, ty, hu⟩, _⟩ := h2
          exact (Array.getElem?_eq_some_iff.1 hu).1
        exact .inr ⟨b, off, e2, hs b hb hlt, NdsS.mono hs b off (k :: ks) h⟩
theorem NdsS.mono {W : World} {S S' : Nat → Prop} (hs : ∀ b, S b → b < W.heap.size → S' b) : ∀ (b off : Nat) (ks : List Nd), NdsS W S b off ks → NdsS W S' b off ks
  | _, _, [], _ => by rw [NdsS]; trivial
  | b, off, k :: ks, h => by
    rw [NdsS] at h ⊢
    obtain ⟨hu, ⟨c0, c1, c2, c3, h0, h1, h2, h3, hv⟩, hr⟩ := h
    exact ⟨hu, ⟨c0, c1, c2, c3, h0, h1, h2, h3, NdS.mono hs k _ hv⟩, NdsS.mono hs b (off + 4) ks hr⟩
end
mutual
theorem NdS.toV {W : World} {S : Nat → Prop} {base : Nat} (hs : ∀ b, S b → base ≤ b) : ∀ (t : Nd) (v : Value), NdS W S t v → NdV W base t v
  | .mk op s n ks, v, h => by
    rw [NdS] at h
    rw [NdV]
    obtain ⟨ao, cap, e, hl, h⟩ := h
    refine ⟨ao, cap, e, hl, ?_⟩
    rcases h with h | ⟨b, off, e2, hb, h⟩
    · exact .inl h
    · exact .inr ⟨b, off, e2, hs b hb, NdsS.toV hs b off ks h⟩
theorem NdsS.toV {W : World} {S : Nat → Prop} {base : Nat} (hs : ∀ b, S b → base ≤ b) : ∀ (b off : Nat) (ks : List Nd), NdsS W S b off ks → NdsV W base b off ks
  | _, _, [], _ => by rw [NdsV]; trivial
  | b, off, k :: ks, h => by
    rw [NdsS] at h
    rw [NdsV]
    obtain ⟨hu, ⟨c0, c1, c2, c3, h0, h1, h2, h3, hv⟩, hr⟩ := h
    exact ⟨fun _ => hu, ⟨c0, c1, c2, c3, h0, h1, h2, h3, NdS.toV hs k _ hv⟩, NdsS.toV hs b (off + 4) ks hr⟩
end
theorem NdsS.of {W : World} {S : Nat → Prop} {b : Nat} (hu : Unfr W b) : ∀ {ks : List Nd} {off : Nat}, (∀ k t, ks[k]? = some t → ∃ c0 c1 c2 c3, W.cell? ⟨b, off + k * 4, none⟩ = some c0 ∧ W.cell? ⟨b, off + k * 4 + 1, none⟩ = some c1 ∧ W.cell? ⟨b, off + k * 4 + 2, none⟩ = some c2 ∧ W.cell? ⟨b, off + k * 4 + 3, none⟩ = some c3 ∧ NdS W S t (.agg #[c0, c1, c2, c3])) → NdsS W S b off ks
  | [], _, _ => by rw [NdsS]; trivial
  | x :: ks, off, h => by
    rw [NdsS]
    refine ⟨hu, by simpa using h 0 x rfl, NdsS.of hu (fun k t e => ?_)⟩
    have := h (k + 1) t (by simpa using e)
    rw [show off + (k + 1) * 4 = off + 4 + k * 4 by omega] at this
    exact this
theorem NdsS.at {W : World} {S : Nat → Prop} {b : Nat} : ∀ {ks : List Nd} {off k : Nat} {t : Nd}, NdsS W S b off ks → ks[k]? = some t → ∃ c0 c1 c2 c3, W.cell? ⟨b, off + k * 4, none⟩ = some c0 ∧ W.cell? ⟨b, off + k * 4 + 1, none⟩ = some c1 ∧ W.cell? ⟨b, off + k * 4 + 2, none⟩ = some c2 ∧ W.cell? ⟨b, off + k * 4 + 3, none⟩ = some c3 ∧ NdS W S t (.agg #[c0, c1, c2, c3])
  | [], _, k, _, _, e => by simp at e
  | x :: ks, off, 0, t, h, e => by
    rw [NdsS] at h
    simp at e
    subst e
    simpa using h.2.1
  | x :: ks, off, k + 1, t, h, e => by
    rw [NdsS] at h
    have := NdsS.at (k := k) (t := t) h.2.2 (by simpa using e)
    rw [show off + 4 + k * 4 = off + (k + 1) * 4 by omega] at this
    exact this
theorem NdS.four {W : World} {S : Nat → Prop} {t : Nd} {v : Value} (h : NdS W S t v) : ∃ op s n ao l cap, v = .agg #[.int .i64 op, .string s, .int .i64 n, .slice ao l cap] := by
  obtain ⟨op, s, n, ks⟩ := t
  rw [NdS] at h
  obtain ⟨ao, cap, e, _⟩ := h
  exact ⟨_, _, _, _, _, _, e⟩
/-- A leaf. -/
theorem NdS.leaf (W : World) (S : Nat → Prop) (op n : Int) (s : ByteArray) (hs : s.size ≤ maxLen) : NdS W S (.mk op s n []) (.agg #[.int .i64 op, .string s, .int .i64 n, .slice none 0 0]) := by
  rw [NdS]
  exact ⟨none, 0, rfl, ⟨hs, by simp⟩, .inl rfl⟩
theorem Stays.kept {W W' : World} (hk : Kept W W') (S : Nat → Prop) : Stays S W W' := ⟨hk.size, fun b _ hlt => hk.block b hlt⟩
theorem Stays.keeps {c : Nat} {S : Nat → Prop} {W W' : World} (hk : Keeps c W W') (hb : ¬ S c) : Stays S W W' := ⟨hk.size, fun b h hlt => hk.block b hlt (by rintro rfl; exact hb h)⟩
theorem Keeps.setNew {c : Nat} {a w : World} (h : Keeps c a w) {X j : Nat} (hX : a.heap.size ≤ X) (u : Value) : Keeps c a (w.setCell ⟨X, j, none⟩ u) := ⟨h.os, h.tape, h.output, by simpa [World.setCell] using h.size, fun k hk hc => (Below.heap_setCell _ _ _ _ (by show k ≠ X; omega)).trans (h.block k hk hc)⟩
end Go.Proofs.YtlinbkgeahgkjaaGreatDoor
namespace Go.Proofs.YtlinbkgeahgkjaaGreatDoor
open Go.RowKit

/-- The tree t lies as v, all its rows its own, in blocks from lo to hi; kids share none. -/
inductive CpT (W : World) : Nd → Nat → Nat → Value → Prop
  | leaf {op n : Int} {s : ByteArray} {lo hi : Nat} (hs : s.size ≤ maxLen) : CpT W (.mk op s n []) lo hi (.agg #[.int .i64 op, .string s, .int .i64 n, .slice none 0 0])
  | node {op n : Int} {s : ByteArray} {lo hi : Nat} {ks : List Nd} (g cap : Nat) (cur : Array Value) (bl bh : Nat → Nat) (q0 q1 q2 q3 : Nat → Value) (hs : s.size ≤ maxLen) (hlo : lo ≤ g) (hhi : g < hi) (hg : W.heap[g]? = some (.cells cur 29 (0, 0))) (hc : ks.length ≤ cap) (hm : cap ≤ maxLen) (hz : cur.size = cap * 4)
      (hb : ∀ i, i < ks.length → lo ≤ bl i ∧ bl i ≤ bh i ∧ bh i ≤ hi ∧ (g < bl i ∨ bh i ≤ g)) (hd : ∀ i j, i < j → j < ks.length → bh i ≤ bl j)
      (hq : ∀ i, i < ks.length → cur[i * 4]? = some (q0 i) ∧ cur[i * 4 + 1]? = some (q1 i) ∧ cur[i * 4 + 2]? = some (q2 i) ∧ cur[i * 4 + 3]? = some (q3 i))
      (hk : ∀ i t, ks[i]? = some t → CpT W t (bl i) (bh i) (.agg #[q0 i, q1 i, q2 i, q3 i])) :
      CpT W (.mk op s n ks) lo hi (.agg #[.int .i64 op, .string s, .int .i64 n, .slice (some ⟨g, 0, none⟩) ks.length cap])
theorem CpT.stay {W W' : World} {t : Nd} {lo hi : Nat} {v : Value} (h : CpT W t lo hi v) : (∀ b, lo ≤ b → b < hi → b < W.heap.size → W'.heap[b]? = W.heap[b]?) → CpT W' t lo hi v := by
  induction h with
  | leaf hs => exact fun _ => .leaf hs
  | node g cap cur bl bh q0 q1 q2 q3 hs hlo hhi hg hc hm hz hb hd hq hk ih =>
    intro hw
    refine .node g cap cur bl bh q0 q1 q2 q3 hs hlo hhi ((hw g hlo hhi (Array.getElem?_eq_some_iff.1 hg).1).trans hg) hc hm hz hb hd hq (fun i t ht => ih i t ht (fun b h1 h2 h3 => hw b ?_ ?_ h3))
    · have := hb i (List.getElem?_eq_some_iff.1 ht).1; omega
    · have := hb i (List.getElem?_eq_some_iff.1 ht).1; omega
theorem CpT.mono {W : World} {t : Nd} {lo hi lo' hi' : Nat} {v : Value} (h : CpT W t lo hi v) (hl : lo' ≤ lo) (hh : hi ≤ hi') : CpT W t lo' hi' v := by
  cases h with
  | leaf hs => exact .leaf hs
  | node g cap cur bl bh q0 q1 q2 q3 hs hlo hhi hg hc hm hz hb hd hq hk => exact .node g cap cur bl bh q0 q1 q2 q3 hs (by omega) (by omega) hg hc hm hz (fun i hi => by have := hb i hi; omega) hd hq hk
theorem CpT.toS {W : World} {t : Nd} {lo hi : Nat} {v : Value} (h : CpT W t lo hi v) : NdS W (fun b => lo ≤ b ∧ b < hi) t v := by
  induction h with
  | leaf hs => exact NdS.leaf _ _ _ _ _ hs
  | node g cap cur bl bh q0 q1 q2 q3 hs hlo hhi hg hc hm hz hb hd hq hk ih =>
    rw [NdS]
    refine ⟨_, cap, rfl, ⟨hs, by omega⟩, .inr ⟨g, 0, rfl, ⟨hlo, hhi⟩, NdsS.of ⟨_, _, hg⟩ (fun i t ht => ?_)⟩⟩
    have hi := (List.getElem?_eq_some_iff.1 ht).1
    obtain ⟨e0, e1, e2, e3⟩ := hq i hi
    have cell : ∀ j c, cur[j]? = some c → W.cell? ⟨g, j, none⟩ = some c := fun j c hc => by simp [World.cell?, hg, hc]
    simp only [Nat.zero_add]
    exact ⟨_, _, _, _, cell _ _ e0, cell _ _ e1, cell _ _ e2, cell _ _ e3, NdS.mono (fun b hb' _ => by have := hb i hi; omega) _ _ (ih i t ht)⟩
theorem CpT.four {W : World} {t : Nd} {lo hi : Nat} {v : Value} (h : CpT W t lo hi v) : ∃ op s n ao l cap, v = .agg #[.int .i64 op, .string s, .int .i64 n, .slice ao l cap] := h.toS.four
/-- The cells of the kids' row. -/
theorem CpT.own {W : World} {op n : Int} {s : ByteArray} {ks : List Nd} {lo hi : Nat} {kv : Value} (h : CpT W (.mk op s n ks) lo hi (.agg #[.int .i64 op, .string s, .int .i64 n, kv])) (hlh : lo ≤ hi) : ∃ xs, W.ownsRow 0 29 4 kv ks.length xs ∧ (∀ g, kv.ownBlock = some g → lo ≤ g ∧ g < hi) ∧
    ∀ (W' : World) (v' : Value) (t : Nd) (lo2 hi2 hi' : Nat) (d0 d1 d2 d3 : Value), hi ≤ lo2 → lo2 ≤ hi2 → hi2 ≤ W.heap.size → W'.heap.size ≤ hi' → CpT W t lo2 hi2 (.agg #[d0, d1, d2, d3]) → W'.ownsRow 0 29 4 v' (ks.length + 1) (xs ++ [d0, d1, d2, d3]) → W.grownBy W' kv.ownBlock → (kv.ownBlock = v'.ownBlock ∨ v'.ownBlock = some W.heap.size) → CpT W' (.mk op s n (ks ++ [t])) lo hi' (.agg #[.int .i64 op, .string s, .int .i64 n, v']) := by
  have fin : ∀ (xs : List Value) (bl bh : Nat → Nat) (q0 q1 q2 q3 : Nat → Value) (hs : s.size ≤ maxLen) (hxl : xs.length = ks.length * 4) (hS : ∀ g, kv.ownBlock = some g → lo ≤ g ∧ g < hi)
      (hb : ∀ i, i < ks.length → lo ≤ bl i ∧ bl i ≤ bh i ∧ bh i ≤ hi ∧ (∀ g, kv.ownBlock = some g → (g < bl i ∨ bh i ≤ g))) (hd : ∀ i j, i < j → j < ks.length → bh i ≤ bl j)
      (hq : ∀ i, i < ks.length → xs[i * 4]? = some (q0 i) ∧ xs[i * 4 + 1]? = some (q1 i) ∧ xs[i * 4 + 2]? = some (q2 i) ∧ xs[i * 4 + 3]? = some (q3 i)) (hk : ∀ i t, ks[i]? = some t → CpT W t (bl i) (bh i) (.agg #[q0 i, q1 i, q2 i, q3 i])),
      ∀ (W' : World) (v' : Value) (t : Nd) (lo2 hi2 hi' : Nat) (d0 d1 d2 d3 : Value), lo ≤ hi → hi ≤ lo2 → lo2 ≤ hi2 → hi2 ≤ W.heap.size → W'.heap.size ≤ hi' → CpT W t lo2 hi2 (.agg #[d0, d1, d2, d3]) → W'.ownsRow 0 29 4 v' (ks.length + 1) (xs ++ [d0, d1, d2, d3]) → W.grownBy W' kv.ownBlock → (kv.ownBlock = v'.ownBlock ∨ v'.ownBlock = some W.heap.size) → CpT W' (.mk op s n (ks ++ [t])) lo hi' (.agg #[.int .i64 op, .string s, .int .i64 n, v']) := by
    intro xs bl bh q0 q1 q2 q3 hs hxl hS hb hd hq hk W' v' t lo2 hi2 hi' d0 d1 d2 d3 hlh h1 h2 h3 h4 hkt ho hgr hv
    obtain ⟨hol, ⟨rfl, h0⟩ | ⟨g', cap', cur', rfl, _, hg', hc', hm', hz', ht'⟩⟩ := ho
    · omega
    · have hgsz := hgr.size
      have hg'l : g' < W'.heap.size := (Array.getElem?_eq_some_iff.1 hg').1
      have own' : kv.ownBlock = some g' ∨ g' = W.heap.size := by
        rcases hv with e | e
        · exact .inl e
        · simp [Value.ownBlock] at e; exact .inr e
      have cc : ∀ j c, (xs ++ [d0, d1, d2, d3])[j]? = some c → cur'[j]? = some c := fun j c hj => by
        rw [← ht', List.getElem?_take] at hj
        split at hj
        · simpa using hj
        · cases hj
      have key := CpT.node (W := W') (op := op) (n := n) (s := s) (lo := lo) (hi := hi') (ks := ks ++ [t]) g' cap' cur' (fun i => if i < ks.length then bl i else lo2) (fun i => if i < ks.length then bh i else hi2) (fun i => if i < ks.length then q0 i else d0) (fun i => if i < ks.length then q1 i else d1) (fun i => if i < ks.length then q2 i else d2) (fun i => if i < ks.length then q3 i else d3) hs
        (by rcases own' with e | e
            · exact (hS g' e).1
            · omega) (by omega) hg' (by simpa using hc') hm' hz'
        (fun i hi => by
          by_cases hlt : i < ks.length
          · simp only [hlt, if_true]
            obtain ⟨b1, b2, b3, b4⟩ := hb i hlt
            refine ⟨b1, b2, by omega, ?_⟩
            rcases own' with e | e
            · exact b4 g' e
            · right; omega
          · simp only [hlt, if_false]
            refine ⟨by omega, h2, by omega, ?_⟩
            rcases own' with e | e
            · left; have := (hS g' e).2; omega
            · right; omega)
        (fun i j hij hj => by
          simp at hj
          have hlt : i < ks.length := by omega
          by_cases hltj : j < ks.length
          · simp only [hlt, hltj, if_true]; exact hd i j hij hltj
          · simp only [hlt, hltj, if_true, if_false]; have := hb i hlt; omega)
        (fun i hi => by
          by_cases hlt : i < ks.length
          · simp only [hlt, if_true]
            obtain ⟨e0, e1, e2, e3⟩ := hq i hlt
            exact ⟨cc _ _ (by rw [List.getElem?_append_left (by omega)]; exact e0), cc _ _ (by rw [List.getElem?_append_left (by omega)]; exact e1), cc _ _ (by rw [List.getElem?_append_left (by omega)]; exact e2), cc _ _ (by rw [List.getElem?_append_left (by omega)]; exact e3)⟩
          · simp only [hlt, if_false]
            simp at hi
            obtain rfl : i = ks.length := by omega
            exact ⟨cc _ _ (by rw [List.getElem?_append_right (by omega), show ks.length * 4 - xs.length = 0 by omega]; rfl), cc _ _ (by rw [List.getElem?_append_right (by omega), show ks.length * 4 + 1 - xs.length = 1 by omega]; rfl), cc _ _ (by rw [List.getElem?_append_right (by omega), show ks.length * 4 + 2 - xs.length = 2 by omega]; rfl), cc _ _ (by rw [List.getElem?_append_right (by omega), show ks.length * 4 + 3 - xs.length = 3 by omega]; rfl)⟩)
        (fun i u hu => by
          have hil := (List.getElem?_eq_some_iff.1 hu).1
          by_cases hlt : i < ks.length
          · simp only [hlt, if_true]
            rw [List.getElem?_append_left hlt] at hu
            refine (hk i u hu).stay (fun b b1 b2 b3 => hgr.block b b3 (fun e => ?_))
            have := (hb i hlt).2.2.2 b e.symm
            omega
          · simp only [hlt, if_false]
            simp at hil
            obtain rfl : i = ks.length := by omega
            rw [List.getElem?_append_right (Nat.le_refl _)] at hu
            simp at hu
            subst hu
            refine hkt.stay (fun b b1 b2 b3 => hgr.block b b3 (fun e => ?_))
            have := (hS b e.symm).2
            omega)
      simpa using key
  cases h with
  | leaf hs =>
    refine ⟨[], ⟨rfl, .inl ⟨rfl, rfl⟩⟩, fun g hg => by simp [Value.ownBlock] at hg, fun W' v' t lo2 hi2 hi' d0 d1 d2 d3 h1 h2 h3 h4 hkt ho hgr hv => ?_⟩
    exact fin [] (fun _ => 0) (fun _ => 0) (fun _ => .bool true) (fun _ => .bool true) (fun _ => .bool true) (fun _ => .bool true) hs rfl (fun g hg => by simp [Value.ownBlock] at hg) (fun i hi => by simp at hi) (fun i j _ hj => by simp at hj) (fun i hi => by simp at hi) (fun i t ht => by simp at ht) W' v' t lo2 hi2 hi' d0 d1 d2 d3 hlh h1 h2 h3 h4 hkt ho hgr hv
  | node g cap cur bl bh q0 q1 q2 q3 hs hlo hhi hg hc hm hz hb hd hq hk =>
    have hxl : (cur.toList.take (ks.length * 4)).length = ks.length * 4 := by
      have e : cur.toList.length = cap * 4 := by rw [← hz]; simp
      rw [List.length_take, e]
      exact Nat.min_eq_left (Nat.mul_le_mul_right _ hc)
    refine ⟨cur.toList.take (ks.length * 4), ⟨hxl, .inr ⟨g, cap, cur, rfl, Nat.zero_le _, hg, hc, hm, hz, rfl⟩⟩, fun g' e => by simp [Value.ownBlock] at e; omega, fun W' v' t lo2 hi2 hi' d0 d1 d2 d3 h1 h2 h3 h4 hkt ho hgr hv => ?_⟩
    exact fin _ bl bh q0 q1 q2 q3 hs hxl (fun g' e => by simp [Value.ownBlock] at e; omega) (fun i hi => by
      obtain ⟨b1, b2, b3, b4⟩ := hb i hi
      exact ⟨b1, b2, b3, fun g' e => by simp [Value.ownBlock] at e; rw [← e]; exact b4⟩) hd (fun i hi => by
      obtain ⟨e0, e1, e2, e3⟩ := hq i hi
      have tk : ∀ j c, j < ks.length * 4 → cur[j]? = some c → (cur.toList.take (ks.length * 4))[j]? = some c := fun j c hj hc => by rw [List.getElem?_take, if_pos hj]; simpa using hc
      exact ⟨tk _ _ (by omega) e0, tk _ _ (by omega) e1, tk _ _ (by omega) e2, tk _ _ (by omega) e3⟩) hk W' v' t lo2 hi2 hi' d0 d1 d2 d3 (by omega) h1 h2 h3 h4 hkt ho hgr hv
end Go.Proofs.YtlinbkgeahgkjaaGreatDoor
namespace Go.Proofs.YtlinbkgeahgkjaaGreatDoor
open Go.RowKit
set_option linter.unusedSimpArgs false
attribute [local go_sem] Plain.and7

theorem step_callV {P : Program} {ops : Array Oper} {o : Oper} {a : Act} {w : World} {K : Act → World → Prop} {Q : Exit → Act → World → Prop} {E : Prop} {f : FuncId} {args : Array Value} {R : Ending → World → Prop}
    (hg : o.guard = none) (hr : (execOp a.eval o).run P w = .ok (.enter f args) w) (hc : Calls P f args w R) (h : ∀ e w', R e w' → ∃ v, e = .returned v ∧ K (a.put o.dst v) w') :
    if Region.wanted o (yielded ops a.tmps) = true then Oper.wp P o a w K Q else E := by
  have hw : Region.wanted o (yielded ops a.tmps) = true := by simp [Region.wanted, hg]
  rw [if_pos hw]
  unfold Oper.wp
  rw [hr]
  simp only [Oper.upon]
  refine hc.mono (fun e w' hR => ?_)
  obtain ⟨v, rfl, hk⟩ := h e w' hR
  exact hk
theorem news_ofV (w : World) (t : TypeId) (cs : Array Value) : ∀ j u, cs.toList[j]? = some u → (w.alloc (.cells cs t)).cell? ((⟨w.heap.size, 0, none⟩ : Addr).add j) = some u := by
  intro j u h
  rw [Addr.add_lit, Nat.zero_add, (Cells.new w t cs).cell j]
  simpa using h
theorem infoNv : (Tryz.prog.info? 29).map (fun i => (i.zero, i.size, i.bytes)) = some (some (.agg #[.int .i64 0, .string ⟨#[]⟩, .int .i64 0, .slice none 0 0]), 4, 56) := by kernel_rfl
abbrev zeroV : Array Value := #[.int .i64 0, .string ⟨#[]⟩, .int .i64 0, .slice none 0 0]
/-- Within l12Copy: the boxes of the argument, of the result, of what is built. -/
structure LocV (w wr : World) (op n : Int) (s : ByteArray) (ao : Option Addr) (l cap : Nat) (kv : Value) (ks : List Nd) : Prop where
  kept : Kept w wr
  arg : Cells wr w.heap.size 29 #[.int .i64 op, .string s, .int .i64 n, .slice ao l cap]
  res : Cells wr (w.heap.size + 1) 29 zeroV
  box : Cells wr (w.heap.size + 2) 29 #[.int .i64 op, .string s, .int .i64 n, kv]
  tree : CpT wr (.mk op s n ks) (w.heap.size + 3) wr.heap.size (.agg #[.int .i64 op, .string s, .int .i64 n, kv])
theorem LocV.kp {w wr wr' : World} {op n : Int} {s : ByteArray} {ao : Option Addr} {l cap : Nat} {kv : Value} {ks : List Nd} (h : LocV w wr op n s ao l cap kv ks) (hk : Kept wr wr') : LocV w wr' op n s ao l cap kv ks :=
  ⟨h.kept.trans hk, h.arg.kept hk, h.res.kept hk, h.box.kept hk, (h.tree.stay (fun b _ _ h3 => hk.block b h3)).mono (Nat.le_refl _) hk.size⟩
def CpVk (t : Nd) : Prop := ∀ (w : World) (base : Nat) (v : Value), NdV w base t v → t.size ≤ 1048576 →
    Calls Tryz.prog 15 #[v] w fun e w' => ∃ v', e = .returned v' ∧ CpT w' t w.heap.size w'.heap.size v' ∧ Kept w w'
set_option maxHeartbeats 16000000 in
set_option maxRecDepth 100000 in
theorem l12CopyV_ok : ∀ (m : Nat) (t : Nd), t.size ≤ m → CpVk t := by
  intro m
  induction m with
  | zero =>
    intro t ht
    have := t.size_pos
    omega
  | succ m ih =>
    intro t ht w base v hv hbk
    obtain ⟨op, s, n, ks⟩ := t
    rw [NdV] at hv
    obtain ⟨ao, cap, rfl, hml, hks⟩ := hv
    simp only [Nd.size] at ht hbk
    obtain ⟨i0, hi, hz0, hz1, hz2⟩ := info_parts infoNv
    have HIH : Hid (∀ (t : Nd), t.size ≤ m → CpVk t) := ih
    have HKS : Hid (ks = [] ∨ ∃ b off, ao = some ⟨b, off, none⟩ ∧ base ≤ b ∧ NdsV w base b off ks) := hks
    have hs := hml.1
    clear ih hks
    have L0 : LocV w (((w.alloc (.cells #[.int .i64 op, .string s, .int .i64 n, .slice ao ks.length cap] 29)).alloc (.cells zeroV 29)).alloc (.cells #[.int .i64 op, .string s, .int .i64 n, .slice none 0 0] 29)) op n s ao ks.length cap (.slice none 0 0) [] := by
      have y1 := (Cells.new (w.alloc (.cells #[.int .i64 op, .string s, .int .i64 n, .slice ao ks.length cap] 29)) 29 zeroV).alloc (.cells #[.int .i64 op, .string s, .int .i64 n, .slice none 0 0] 29)
      have y2 := Cells.new ((w.alloc (.cells #[.int .i64 op, .string s, .int .i64 n, .slice ao ks.length cap] 29)).alloc (.cells zeroV 29)) 29 #[.int .i64 op, .string s, .int .i64 n, .slice none 0 0]
      simp only [World.size_alloc] at y1 y2
      exact ⟨((Kept.alloc (Below.refl _ _) _).alloc _).alloc _, ((Cells.new w _ _).alloc _).alloc _, y1, y2, .leaf hs⟩
    have HL0 : Hid _ := L0
    clear L0
    go_enter Tryz.func15, Tryz.ntmps15
    go_wp2_with fail
    go_loopw [4] (fun iv wr => ∃ (k : Nat) (va : Option Addr) (vc : Nat), iv = .int .i64 k ∧ k ≤ ks.length ∧ Hid (LocV w wr op n s ao ks.length cap (.slice va (ks.take k).length vc) (ks.take k))) (fun i _ => ks.length - (intOf i).toNat)
    case atStart => exact ⟨0, none, 0, rfl, Nat.zero_le _, HL0.out⟩
    case round =>
      obtain ⟨k, va, vc, rfl, hkl, hL⟩ := hrel
      clear HL0
      have hLo := hL.out
      have a3 := hLo.arg.cell 3
      simp at a3
      by_cases hlt : k < ks.length
      · obtain ⟨x, hx⟩ : ∃ x, ks[k]? = some x := ⟨ks[k], List.getElem?_eq_getElem hlt⟩
        have q1 : (k : Int) < (ks.length : Int) := by omega
        have hll := len_sizes ks
        have q2 : (k : Int) + 1 ≤ 9223372036854775807 := by omega
        obtain ⟨b, off, rfl, hbb, hn⟩ : ∃ b off, ao = some ⟨b, off, none⟩ ∧ base ≤ b ∧ NdsV w base b off ks := by
          rcases HKS.out with h | h
          · rw [h] at hlt; simp at hlt
          · exact h
        have kd : Kept w wr.drew := Below.drew hLo.kept
        obtain ⟨d0, d1, d2, d3, m0, m1, m2, m3, hvx⟩ := (NdsV.turn (Turn.kept kd) _ _ _ hbb hn).at hx
        obtain ⟨opx, sx, nx, aox, lx, cpx, ex⟩ := hvx.four
        simp at ex
        obtain ⟨rfl, rfl, rfl, rfl⟩ := ex
        have hsz := size_mem hx
        have hC := HIH.out x (by omega) wr.drew base _ hvx (by omega)
        have HLd : Hid (LocV w wr.drew op n s (some ⟨b, off, none⟩) ks.length cap (.slice va (ks.take k).length vc) (ks.take k)) := hLo.kp (Below.drew (Below.refl _ _))
        have HX : Hid (ks[k]? = some x) := hx
        have hlk : (ks.take k).length ≤ 1048576 := by rw [List.length_take]; omega
        have hle0 : w.heap.size + 3 ≤ wr.drew.heap.size := HLd.out.box.lt
        obtain ⟨pl, hpl⟩ : ∃ pl, (ks.take k).length = pl := ⟨_, rfl⟩
        have HPL : Hid ((ks.take k).length = pl) := hpl
        rw [hpl] at hlk HLd
        have D3 := HLd.out.box.cell 3
        have A3 := HLd.out.arg.cell 3
        simp at D3 A3
        clear hpl hvx hn hx hL hLo HKS
        go_wp2_with fail
        go_region_law (first
          | (refine step_callV (by rfl) (by go_simp; done) hC ?_; rintro e wx ⟨vx, rfl, htx, hkx⟩; obtain ⟨op5, s5, n5, ao5, l5, cp5, rfl⟩ := htx.four; refine ⟨_, rfl, ?_⟩; have Lx := HLd.out.kp hkx; have Dx := Lx.box.cell 3; have La := Lx.kp (Kept.alloc (Below.refl _ wx) (.cells #[.int .i64 op5, .string s5, .int .i64 n5, .slice ao5 l5 cp5] 29)); have Da := La.box.cell 3; have kk := hkx.trans (Kept.alloc (Below.refl _ wx) (.cells #[.int .i64 op5, .string s5, .int .i64 n5, .slice ao5 l5 cp5] 29)); obtain ⟨xs, hownx, hS0, happ⟩ := (HLd.out.tree.stay (fun b _ _ h3 => kk.block b h3)).own hle0; rw [HPL.out] at hownx happ)
          | (refine step_append_lies _ (by rfl) _ _ _ (by rfl) 0 29 i0 _ 4 56 Tryz.underlying26 hi hz0 hz1 hz2 rfl (by omega) (.slice va pl vc) pl xs (by rfl) hownx ⟨wx.heap.size, 0, none⟩ 1 1 [.int .i64 op5, .string s5, .int .i64 n5, .slice ao5 l5 cp5] (by rfl) (by rfl) (news_ofV _ _ _) (by simp [Value.oneCell']) (by omega) (by unfold maxLen; omega) (by omega) (by omega) (wx.heap.size + 1) (by simp) ?_; intro gq cg w9 hown1 hgrow hat hlt9; have b9 : Cells w9 (w.heap.size + 2) 29 #[.int .i64 op, .string s, .int .i64 n, .slice va pl vc] := (hgrow.block _ La.box.lt (fun e => by have := (hS0 _ e.symm).1; omega)).trans La.box; have dd := b9.cell 3; have ff := b9.frozen 3; have l9 := b9.lt))
        all_goals (
          go_wp2_with fail
          have hkz := hkx.size
          have key := happ w9 (.slice (some ⟨gq, 0, none⟩) (pl + 1) cg) x wr.drew.heap.size wx.heap.size w9.heap.size _ _ _ _ (Nat.le_refl _) hkz (by simp) (Nat.le_refl _) (htx.stay (fun b _ _ h3 => (Kept.alloc (Below.refl _ wx) _ : Kept wx _).block b h3)) hown1 hgrow (hat.elim .inl (fun h => .inr (by rw [h]; simp [Value.ownBlock])))
          have etk : ks.take (k + 1) = ks.take k ++ [x] := by rw [List.take_add_one, HX.out]; rfl
          have hne : ∀ j, (Value.slice va pl vc).ownBlock = some j → w.heap.size + 3 ≤ j := fun j e => (hS0 j e).1
          refine ⟨⟨k + 1, some ⟨gq, 0, none⟩, cg, by go_num, by omega, ?_⟩, by simp [intOf]; omega⟩
          rw [etk, List.length_append, HPL.out]
          refine ⟨Kept.set (Below.grown La.kept hgrow La.kept.size (fun j e => by have := hne j e; omega)) (by simp; omega) _, ?_, ?_, ?_, ?_⟩
          · exact Cells.other ((hgrow.block _ La.arg.lt (fun e => by have := hne _ e.symm; omega)).trans La.arg) (by show w.heap.size ≠ w.heap.size + 1 + 1; omega) _
          · exact Cells.other ((hgrow.block _ La.res.lt (fun e => by have := hne _ e.symm; omega)).trans La.res) (by show w.heap.size + 1 ≠ w.heap.size + 1 + 1; omega) _
          · have := b9.set 3 (.slice (some ⟨gq, 0, none⟩) (pl + 1) cg)
            simpa using this
          · refine (key.stay (fun b b1 b2 b3 => ?_)).mono (Nat.le_refl _) (by simp [World.setCell])
            exact Below.heap_setCell _ _ _ _ (by show b ≠ w.heap.size + 1 + 1; omega))
      · have q1 : ¬ (k : Int) < (ks.length : Int) := by omega
        obtain rfl : k = ks.length := by omega
        rw [List.take_length] at hLo
        have bx := hLo.box; have c0 := bx.cell 0; have c1 := bx.cell 1; have c2 := bx.cell 2; have c3 := bx.cell 3
        have rx := hLo.res; have e0 := rx.cell 0; have e1 := rx.cell 1; have e2 := rx.cell 2; have e3 := rx.cell 3; have g0 := rx.frozen 0; have g1 := rx.frozen 1; have g2 := rx.frozen 2; have g3 := rx.frozen 3
        have HLz : Hid (LocV w wr op n s ao ks.length cap (.slice va ks.length vc) ks) := hLo
        clear hL hLo
        go_wp2_with fail
        have hLo := HLz.out
        have y := hLo.res.set 0 (.int .i64 op) |>.set 1 (.string s) |>.set 2 (.int .i64 n) |>.set 3 (.slice va ks.length vc)
        have z0 := y.cell 0; have z1 := y.cell 1; have z2 := y.cell 2; have z3 := y.cell 3
        refine bodyPost_ret (v := .agg #[.int .i64 op, .string s, .int .i64 n, .slice va ks.length vc]) (by simp [results, Tryz.results15, go_sem, z0, z1, z2, z3]) rfl ⟨_, rfl, ?_, (((hLo.kept.set (by simp) _).set (by simp) _).set (by simp) _).set (by simp) _⟩
        refine (hLo.tree.stay (fun b b1 b2 b3 => ?_)).mono (by omega) (by simp [World.setCell])
        exact (((((Stays.refl (fun b => b ≠ w.heap.size + 1) wr).set (by simp) _).set (by simp) _).set (by simp) _).set (by simp) _).block b (by omega) b3
end Go.Proofs.YtlinbkgeahgkjaaGreatDoor
namespace Go.Proofs.YtlinbkgeahgkjaaGreatDoor
open Go.RowKit

/-- The trees ks, each in blocks of its own from lo to hi, in order; their cells xs; none of them lies in the block own. -/
def CpR (W : World) (ks : List Nd) (lo hi : Nat) (xs : List Value) (own : Option Nat) : Prop :=
  xs.length = ks.length * 4 ∧ ∃ bl bh : Nat → Nat, (∀ i, i < ks.length → lo ≤ bl i ∧ bl i ≤ bh i ∧ bh i ≤ hi ∧ ∀ g, own = some g → g < bl i ∨ bh i ≤ g) ∧ (∀ i j, i < j → j < ks.length → bh i ≤ bl j) ∧
    ∀ i t, ks[i]? = some t → ∃ c0 c1 c2 c3, xs[i * 4]? = some c0 ∧ xs[i * 4 + 1]? = some c1 ∧ xs[i * 4 + 2]? = some c2 ∧ xs[i * 4 + 3]? = some c3 ∧ CpT W t (bl i) (bh i) (.agg #[c0, c1, c2, c3])
theorem CpR.nil (W : World) (lo hi : Nat) (own : Option Nat) : CpR W [] lo hi [] own := ⟨rfl, fun _ => 0, fun _ => 0, fun i h => by simp at h, fun i j _ h => by simp at h, fun i t h => by simp at h⟩
theorem CpR.stay {W W' : World} {ks : List Nd} {lo hi : Nat} {xs : List Value} {own : Option Nat} (h : CpR W ks lo hi xs own) (hw : ∀ b, lo ≤ b → b < hi → own ≠ some b → b < W.heap.size → W'.heap[b]? = W.heap[b]?) : CpR W' ks lo hi xs own := by
  obtain ⟨h1, bl, bh, hb, hd, hk⟩ := h
  refine ⟨h1, bl, bh, hb, hd, fun i t ht => ?_⟩
  obtain ⟨c0, c1, c2, c3, e0, e1, e2, e3, hc⟩ := hk i t ht
  obtain ⟨b1, b2, b3, b4⟩ := hb i (List.getElem?_eq_some_iff.1 ht).1
  exact ⟨c0, c1, c2, c3, e0, e1, e2, e3, hc.stay (fun b x1 x2 x3 => hw b (by omega) (by omega) (fun e => by have := b4 b e; omega) x3)⟩
theorem CpR.mono {W : World} {ks : List Nd} {lo hi lo' hi' : Nat} {xs : List Value} {own : Option Nat} (h : CpR W ks lo hi xs own) (h1 : lo' ≤ lo) (h2 : hi ≤ hi') : CpR W ks lo' hi' xs own := by
  obtain ⟨e, bl, bh, hb, hd, hk⟩ := h
  exact ⟨e, bl, bh, fun i hi => by have := hb i hi; exact ⟨by omega, by omega, by omega, this.2.2.2⟩, hd, hk⟩
theorem CpR.owner {W : World} {ks : List Nd} {lo hi : Nat} {xs : List Value} {own own' : Option Nat} (h : CpR W ks lo hi xs own) (ho : ∀ g, own' = some g → own = some g ∨ hi ≤ g) : CpR W ks lo hi xs own' := by
  obtain ⟨e, bl, bh, hb, hd, hk⟩ := h
  refine ⟨e, bl, bh, fun i hi => ?_, hd, hk⟩
  obtain ⟨b1, b2, b3, b4⟩ := hb i hi
  refine ⟨b1, b2, b3, fun g hg => ?_⟩
  rcases ho g hg with h | h
  · exact b4 g h
  · right; omega
theorem CpR.cat {W : World} {ks ts : List Nd} {lo hi lo2 hi2 : Nat} {xs ys : List Value} {own own2 : Option Nat} (h : CpR W ks lo hi xs own) (h2 : CpR W ts lo2 hi2 ys own2) (hlo : lo ≤ hi) (h12 : hi ≤ lo2) (h22 : lo2 ≤ hi2) (ho : ∀ g, own = some g → g < hi) : CpR W (ks ++ ts) lo hi2 (xs ++ ys) own := by
  obtain ⟨e, bl, bh, hb, hd, hk⟩ := h
  obtain ⟨e2, bl2, bh2, hb2, hd2, hk2⟩ := h2
  refine ⟨by rw [List.length_append, List.length_append, e, e2]; omega, fun i => if i < ks.length then bl i else bl2 (i - ks.length), fun i => if i < ks.length then bh i else bh2 (i - ks.length), fun i hi => ?_, fun i j hij hj => ?_, fun i t ht => ?_⟩
  · rw [List.length_append] at hi
    by_cases hlt : i < ks.length
    · simp only [hlt, if_true]
      obtain ⟨b1, b2, b3, b4⟩ := hb i hlt
      exact ⟨b1, b2, by omega, b4⟩
    · simp only [hlt, if_false]
      obtain ⟨b1, b2, b3, b4⟩ := hb2 (i - ks.length) (by omega)
      exact ⟨by omega, b2, b3, fun g hg => by have := ho g hg; left; omega⟩
  · rw [List.length_append] at hj
    by_cases hlt : j < ks.length
    · simp only [hlt, show i < ks.length by omega, if_true]
      exact hd i j hij hlt
    · by_cases hli : i < ks.length
      · simp only [hlt, hli, if_true, if_false]
        have := hb i hli
        have := hb2 (j - ks.length) (by omega)
        omega
      · simp only [hlt, hli, if_false]
        exact hd2 _ _ (by omega) (by omega)
  · by_cases hlt : i < ks.length
    · rw [List.getElem?_append_left hlt] at ht
      obtain ⟨c0, c1, c2, c3, e0, e1, e2, e3, hc⟩ := hk i t ht
      simp only [hlt, if_true]
      exact ⟨c0, c1, c2, c3, by rw [List.getElem?_append_left (by omega)]; exact e0, by rw [List.getElem?_append_left (by omega)]; exact e1, by rw [List.getElem?_append_left (by omega)]; exact e2, by rw [List.getElem?_append_left (by omega)]; exact e3, hc⟩
    · rw [List.getElem?_append_right (by omega)] at ht
      obtain ⟨c0, c1, c2, c3, e0, e1, e2, e3, hc⟩ := hk2 (i - ks.length) t ht
      simp only [hlt, if_false]
      have q : ∀ r, i * 4 + r - xs.length = (i - ks.length) * 4 + r := fun r => by omega
      exact ⟨c0, c1, c2, c3, by rw [List.getElem?_append_right (by omega)]; have := q 0; simp only [Nat.add_zero] at this; rw [this]; exact e0, by rw [List.getElem?_append_right (by omega), q]; exact e1, by rw [List.getElem?_append_right (by omega), q]; exact e2, by rw [List.getElem?_append_right (by omega), q]; exact e3, hc⟩
theorem CpR.oneCell {W : World} {ks : List Nd} {lo hi : Nat} {xs : List Value} {own : Option Nat} (h : CpR W ks lo hi xs own) : ∀ u ∈ xs, u.oneCell' = true := by
  obtain ⟨e, bl, bh, hb, hd, hk⟩ := h
  intro u hu
  obtain ⟨j, hj⟩ := List.getElem?_of_mem hu
  have hjl := (List.getElem?_eq_some_iff.1 hj).1
  obtain ⟨t, ht⟩ : ∃ t, ks[j / 4]? = some t := ⟨_, List.getElem?_eq_getElem (by omega)⟩
  obtain ⟨c0, c1, c2, c3, e0, e1, e2, e3, hc⟩ := hk _ _ ht
  obtain ⟨op, s, n, ao, l, cap, ev⟩ := hc.four
  simp at ev
  obtain ⟨rfl, rfl, rfl, rfl⟩ := ev
  rcases (show j = j / 4 * 4 ∨ j = j / 4 * 4 + 1 ∨ j = j / 4 * 4 + 2 ∨ j = j / 4 * 4 + 3 by omega) with h | h | h | h <;> rw [h] at hj
  · rw [e0] at hj; injection hj with hj; rw [← hj]; rfl
  · rw [e1] at hj; injection hj with hj; rw [← hj]; rfl
  · rw [e2] at hj; injection hj with hj; rw [← hj]; rfl
  · rw [e3] at hj; injection hj with hj; rw [← hj]; rfl
/-- A row of one's own whose trees are one's own. -/
def FunR (W : World) (lo hi : Nat) (v : Value) (ks : List Nd) : Prop := ∃ xs, W.ownsRow 0 29 4 v ks.length xs ∧ (∀ g, v.ownBlock = some g → lo ≤ g ∧ g < hi) ∧ CpR W ks lo hi xs v.ownBlock
theorem FunR.nil (W : World) (lo hi : Nat) : FunR W lo hi (.slice none 0 0) [] := ⟨[], ⟨rfl, .inl ⟨rfl, rfl⟩⟩, fun g h => by simp [Value.ownBlock] at h, CpR.nil _ _ _ _⟩
theorem FunR.empty (W : World) (lo : Nat) (hlo : lo ≤ W.heap.size) : FunR (W.alloc (.cells #[] 29)) lo (W.heap.size + 1) (.slice (some ⟨W.heap.size, 0, none⟩) 0 0) [] :=
  ⟨[], ⟨rfl, .inr ⟨W.heap.size, 0, #[], rfl, Nat.zero_le _, heap_alloc_new W _, Nat.le_refl _, by unfold maxLen; omega, rfl, rfl⟩⟩, fun g h => by simp [Value.ownBlock] at h; omega, CpR.nil _ _ _ _⟩
theorem FunR.one {W : World} {t : Nd} {lo hi lo' : Nat} {c0 c1 c2 c3 : Value} (h : CpT W t lo hi (.agg #[c0, c1, c2, c3])) (hl : lo' ≤ lo) (hlh : lo ≤ hi) (hh : hi ≤ W.heap.size) : FunR (W.alloc (.cells #[c0, c1, c2, c3] 29)) lo' (W.heap.size + 1) (.slice (some ⟨W.heap.size, 0, none⟩) 1 1) [t] := by
  refine ⟨[c0, c1, c2, c3], ⟨rfl, .inr ⟨W.heap.size, 1, #[c0, c1, c2, c3], rfl, Nat.zero_le _, heap_alloc_new W _, Nat.le_refl _, by unfold maxLen; omega, rfl, rfl⟩⟩, fun g hg => by simp [Value.ownBlock] at hg; omega, rfl, fun _ => lo, fun _ => hi, fun i _ => ⟨hl, hlh, (by show hi ≤ _; omega), fun g hg => (by simp [Value.ownBlock] at hg; right; show hi ≤ g; omega)⟩, fun i j hij hj => by simp at hj; omega, fun i t' ht => ?_⟩
  match i, ht with
  | 0, ht =>
    simp at ht
    subst ht
    exact ⟨c0, c1, c2, c3, rfl, rfl, rfl, rfl, h.stay (fun b _ _ h3 => (Kept.alloc (Below.refl _ W) (.cells #[c0, c1, c2, c3] 29) : Kept W _).block b h3)⟩
  | i + 1, ht => simp at ht
theorem FunR.slice {W : World} {lo hi : Nat} {v : Value} {ks : List Nd} (h : FunR W lo hi v ks) : ∃ ao c, v = .slice ao ks.length c := by
  obtain ⟨xs, ⟨_, ⟨rfl, h0⟩ | ⟨g, cap, cur, rfl, _⟩⟩, _⟩ := h
  · exact ⟨none, 0, by rw [h0]⟩
  · exact ⟨_, _, rfl⟩
theorem FunR.kept {W W' : World} {lo hi : Nat} {v : Value} {ks : List Nd} (h : FunR W lo hi v ks) (hk : Kept W W') : FunR W' lo hi v ks := by
  obtain ⟨xs, ho, hb, hc⟩ := h
  refine ⟨xs, World.ownsRow.kept ho hk.grown (by cases e : v.ownBlock <;> simp), hb, hc.stay (fun b _ _ _ h => hk.block b h)⟩
theorem FunR.mono {W : World} {lo hi lo' hi' : Nat} {v : Value} {ks : List Nd} (h : FunR W lo hi v ks) (h1 : lo' ≤ lo) (h2 : hi ≤ hi') : FunR W lo' hi' v ks := by
  obtain ⟨xs, ho, hb, hc⟩ := h
  exact ⟨xs, ho, fun g hg => by have := hb g hg; omega, hc.mono h1 h2⟩
/-- append(v, v2...) -/
theorem FunR.app {W : World} {lo hi lo2 hi2 g2 m c : Nat} {v : Value} {ks ts : List Nd} (h : FunR W lo hi v ks) (h2 : FunR W lo2 hi2 (.slice (some ⟨g2, 0, none⟩) m c) ts) (hlo : lo ≤ hi) (h12 : hi ≤ lo2) (h22 : lo2 ≤ hi2) (hz : hi2 ≤ W.heap.size) (hl : ks.length + ts.length ≤ 1000000) (ty : TypeId) :
    ∃ v' W', (Builtin.append_ #[26, 26] ty #[v, .slice (some ⟨g2, 0, none⟩) m c]).run Tryz.prog W = .ok v' W' ∧ FunR W' lo W'.heap.size v' (ks ++ ts) ∧ W.grownBy W' v.ownBlock ∧ (v ≠ .slice none 0 0 → v' ≠ .slice none 0 0) := by
  obtain ⟨i0, hi0, hz0, hz1, hz2⟩ := info_parts infoNv
  obtain ⟨xs, ho, hb, hc⟩ := h
  obtain ⟨ys, ho2, hb2, hc2⟩ := h2
  have em : m = ts.length := by
    obtain ⟨_, ⟨e, h0⟩ | ⟨g, cap, cur, e, _⟩⟩ := ho2
    · cases e
    · injection e
  subst em
  obtain ⟨v', W', hr, ho3, hg3, hnil, hv'⟩ := run_append_own_at (P := Tryz.prog) W 0 26 ty 29 i0 _ 4 56 Tryz.underlying26 hi0 hz0 hz1 hz2 rfl (by decide) _ _ _ ho ⟨g2, 0, none⟩ ts.length c ys (by rw [hc2.1]) (fun j u hu => World.ownsRow.cells ho2 (g := g2) rfl j u hu) hc2.oneCell (by unfold maxLen; omega) (by omega) (Nat.zero_le _)
  refine ⟨v', W', hr, ⟨xs ++ ys, by rw [List.length_append]; exact ho3, fun g hg => ?_, ?_⟩, hg3, fun hv h => hv (hnil.1 h).1⟩
  · have hlt : g < W'.heap.size := by
      obtain ⟨_, ⟨e, h0⟩ | ⟨g', cap, cur, e, _, hgg, _⟩⟩ := ho3
      · rw [e] at hg; simp [Value.ownBlock] at hg
      · rw [e] at hg
        simp [Value.ownBlock] at hg
        subst hg
        exact (Array.getElem?_eq_some_iff.1 hgg).1
    rcases hv' with e | e
    · rw [e] at hg
      have := hb g hg
      omega
    · rw [e] at hg
      injection hg with hg
      omega
  · have hcat := (hc.cat hc2 hlo h12 h22 (fun g hg => (hb g hg).2)).stay (W' := W') (fun b _ _ hne hlt => hg3.block b hlt (fun e => hne e.symm))
    refine (hcat.owner (own' := v'.ownBlock) (fun g hg => ?_)).mono (Nat.le_refl _) (Nat.le_trans hz hg3.size)
    rcases hv' with e | e
    · left; rw [← e]; exact hg
    · right
      rw [e] at hg
      injection hg with hg
      omega
theorem FunR.toV {W : World} {lo hi : Nat} {v : Value} {ks : List Nd} (h : FunR W lo hi v ks) : ∃ ao c, v = .slice ao ks.length c ∧ ks.length ≤ maxLen ∧ (ks = [] ∨ ∃ b off, ao = some ⟨b, off, none⟩ ∧ lo ≤ b ∧ NdsV W lo b off ks) := by
  obtain ⟨xs, ⟨hl, ⟨rfl, h0⟩ | ⟨g, cap, cur, rfl, _, hg, h1, h2, h3, h4⟩⟩, hb, hc⟩ := h
  · exact ⟨none, 0, by rw [h0], by omega, .inl (List.length_eq_zero_iff.1 h0)⟩
  · refine ⟨_, cap, rfl, by omega, .inr ⟨g, 0, rfl, (hb g rfl).1, NdsV.of (fun _ => ⟨cur, _, hg⟩) (fun k t e => ?_)⟩⟩
    obtain ⟨_, bl, bh, hbb, hd, hk⟩ := hc
    obtain ⟨c0, c1, c2, c3, e0, e1, e2, e3, hv⟩ := hk k t e
    have cell : ∀ i c, xs[i]? = some c → W.cell? ⟨g, i, none⟩ = some c := fun i c hc => by
      rw [← h4, List.getElem?_take] at hc
      split at hc
      · simp [World.cell?, hg]; simpa using hc
      · cases hc
    simp only [Nat.zero_add]
    have := hbb k (List.getElem?_eq_some_iff.1 e).1
    exact ⟨c0, c1, c2, c3, cell _ _ e0, cell _ _ e1, cell _ _ e2, cell _ _ e3, NdS.toV (fun b hb => by omega) _ _ hv.toS⟩
end Go.Proofs.YtlinbkgeahgkjaaGreatDoor
