/-
  The contracts of what Take and Give begin with: copySlab, firstFree, and the model's copy.
-/
import Derived.Test.YthloammkgogceaaSlabL
import Derived.Test.YthloammkgogceaaSlabS
import Derived.Laws.CopyOwn
import Derived.Laws.AppendOwnNone
namespace Go.Proofs.Ythloammkgogceaa
open Go.RowKit Go.Shelf
attribute [local go_sem] Oper.semAt_some

theorem own_full {W : World} {base n g : Nat} {xs : List Value} (h : W.ownsRow base 3 1 (.slice (some ⟨g, 0, none⟩) n n) n xs) : Cells W g 3 xs.toArray := by
  rcases h.2 with ⟨e, _⟩ | ⟨g', cap, cur, e, _, hc, _, _, hs, ht⟩
  · cases e
  · cases e
    have : cur.toList = xs := by rw [← ht, List.take_of_length_le (by simp; omega)]
    show W.heap[g]? = _
    rw [hc, ← this]
theorem Row.of_cells {W : World} {g : Nat} {zs : List Int} (h : Cells W g 3 (zs.map (Value.int .i64)).toArray) (h0 : ∀ z ∈ zs, -9223372036854775808 ≤ z ∧ z ≤ 9223372036854775807) : Row W g zs :=
  ⟨h0, _, h, by simp, fun j hj => by simp [hz, List.getElem?_eq_getElem hj]⟩

theorem Ints.src {W : World} {ao : Option Addr} {zs : List Int} (h : Ints W ao zs) (hp : 0 < zs.length) : ∃ ad, ao = some ad ∧ ∀ j v, (zs.map (Value.int .i64))[j]? = some v → W.cell? (ad.add j) = some v := by
  obtain ⟨b, off, e, hc⟩ := h.at hp
  refine ⟨_, e, fun j v hj => ?_⟩
  rw [WideShapes.add_plain]
  rw [List.getElem?_map] at hj
  cases hz' : zs[j]? with
  | none => rw [hz'] at hj; cases hj
  | some z =>
    rw [hz'] at hj
    cases hj
    have hj' : j < zs.length := (List.getElem?_eq_some_iff.1 hz').1
    rw [hc j hj']
    simp [hz, hz']
theorem Cells.kept2 {n : Nat} {W W' : World} {B : Nat} {t : TypeId} {cs : Array Value} (h : Cells W B t cs) (hk : Below n W W') (hB : B < n) : Cells W' B t cs := (hk.block B hB).trans h

theorem Ints.srcs {W : World} {ad : Addr} {zs : List Int} (h : Ints W (some ad) zs) : ∀ j v, (zs.map (Value.int .i64))[j]? = some v → W.cell? (ad.add j) = some v := by
  intro j v hj
  by_cases hp : 0 < zs.length
  · obtain ⟨a, e, hs⟩ := h.src hp
    cases e
    exact hs j v hj
  · have : zs = [] := List.eq_nil_of_length_eq_zero (by omega)
    subst this
    simp at hj
theorem own_some {W : World} {base : Nat} {v : Value} {n : Nat} {xs : List Value} (h : W.ownsRow base 3 1 v n xs) (hv : ¬ v = .slice none 0 0) : ∃ g cap, v = .slice (some ⟨g, 0, none⟩) n cap ∧ n ≤ cap := by
  rcases h.2 with ⟨e, _⟩ | ⟨g, cap, cur, rfl, _, _, hn, _⟩
  · exact absurd e hv
  · exact ⟨g, cap, rfl, hn⟩


/-- The block at g has n cells. -/
def Sz (W : World) (g n : Nat) : Prop := ∃ cur, W.heap[g]? = some (.cells cur 3 (0, 0)) ∧ cur.size = n ∧ n ≤ maxLen
theorem Sz.lt {W : World} {g n : Nat} (h : Sz W g n) : g < W.heap.size := by
  obtain ⟨cur, e, _⟩ := h
  exact (Array.getElem?_eq_some_iff.1 e).1
theorem Sz.block {W W' : World} {g n : Nat} (h : Sz W g n) (hb : W'.heap[g]? = W.heap[g]?) : Sz W' g n := by
  obtain ⟨cur, e, hc⟩ := h
  exact ⟨cur, hb.trans e, hc⟩
theorem Sz.kept {W W' : World} {g n : Nat} (h : Sz W g n) (hk : Kept W W') : Sz W' g n := h.block (hk.block g h.lt)
theorem Sz.set {W : World} {g n : Nat} (h : Sz W g n) (b j : Nat) (v : Value) : Sz (W.setCell ⟨b, j, none⟩ v) g n := by
  by_cases e : g = b
  · subst e
    obtain ⟨cur, e, hc⟩ := h
    refine ⟨cur.setIfInBounds j v, Cells.set j v e, by simpa using hc.1, hc.2⟩
  · exact h.block (Below.heap_setCell _ _ _ _ e)
/-- Only the block at g has turned, and it has as many cells as it had; new ones came. -/
def GS (g : Nat) (w w' : World) : Prop := w.grownBy w' (some g) ∧ ∀ n, Sz w g n → Sz w' g n
theorem GS.refl (w : World) (g : Nat) : GS g w w := ⟨World.grownBy.refl _ _, fun _ h => h⟩
theorem GS.trans {g : Nat} {a b c : World} (h : GS g a b) (k : GS g b c) : GS g a c := ⟨grown_trans h.1 k.1, fun n x => k.2 n (h.2 n x)⟩
theorem GS.set {g k : Nat} {a b : World} (h : GS g a b) (v : Value) : GS g a (b.setCell ⟨g, k, none⟩ v) := ⟨grown_set h.1 v, fun n x => (h.2 n x).set _ _ _⟩
theorem GS.any {a b : World} (h : Kept a b) (g : Nat) : GS g a b := ⟨⟨h.os, h.tape, h.output, h.size, fun k hk _ => h.block k hk⟩, fun _ x => x.kept h⟩
theorem GS.setNew {g b j : Nat} {a c : World} (h : GS g a c) (hp : a.heap.size ≤ b) (v : Value) : GS g a (c.setCell ⟨b, j, none⟩ v) :=
  ⟨⟨h.1.os, h.1.tape, h.1.output, by simpa [World.setCell] using h.1.size, fun k hk hr => (Below.heap_setCell _ _ _ _ (by simp; omega)).trans (h.1.block k hk hr)⟩, fun n x => (h.2 n x).set _ _ _⟩
/-- The block of a slice has as many cells as its capacity says. -/
def FullV (W : World) (v : Value) : Prop := ∀ g n c, v = .slice (some ⟨g, 0, none⟩) n c → Sz W g c
theorem FullV.nil {W : World} : FullV W (.slice none 0 0) := fun _ _ _ e => by cases e
theorem FullV.one {W : World} {g n c : Nat} (h : Sz W g c) : FullV W (.slice (some ⟨g, 0, none⟩) n c) := fun _ _ _ e => by cases e; exact h
theorem FullV.kept {W W' : World} {v : Value} (h : FullV W v) (hk : Kept W W') : FullV W' v := fun g n c e => (h g n c e).kept hk
theorem FullV.set {W : World} {v : Value} (h : FullV W v) (b j : Nat) (u : Value) : FullV (W.setCell ⟨b, j, none⟩ u) v := fun g n c e => (h g n c e).set _ _ _
theorem Sz.of_owns {W : World} {base n g c : Nat} {xs : List Value} (h : W.ownsRow base 3 1 (.slice (some ⟨g, 0, none⟩) n c) n xs) : Sz W g c := by
  obtain ⟨_, ⟨e, _⟩ | ⟨g', cap', cur, e, _, hg, _, h2, h3, _⟩⟩ := h
  · cases e
  · cases e
    exact ⟨cur, hg, by omega, h2⟩


/-- The first free block of at least n words. -/
def freeP {L : Nat} (n : Int) (b : BkOf L) : Bool := decide (b.1.kind = 0 ∧ n ≤ (b.1.size : Int))
def ffB (zs : List Int) (n : Int) : Option (BkOf zs.length) := (blocks zs).find? (freeP n)
def ffV {L : Nat} : Option (BkOf L) → Value
  | some b => .tuple #[bkV (b.1.at' : Nat) (b.1.size : Nat) (b.1.kind : Nat), .bool true]
  | none => .tuple #[bkV 0 0 0, .bool false]
theorem ff_hit {zs : List Int} {n : Int} {pre : List (BkOf zs.length)} {x : BkOf zs.length} (hp : pre ++ [x] <+: blocks zs) (hb : ∀ b ∈ pre, freeP n b = false) (hx : freeP n x = true) : ffB zs n = some x := by
  obtain ⟨rest, e⟩ := hp
  unfold ffB
  rw [← e, List.append_assoc, List.find?_append]
  have : pre.find? (freeP n) = none := by
    rw [List.find?_eq_none]
    intro b h; rw [hb b h]; simp
  rw [this]
  simp [hx]
theorem ff_none {zs : List Int} {n : Int} (hb : ∀ b ∈ blocks zs, freeP n b = false) : ffB zs n = none := by
  unfold ffB
  rw [List.find?_eq_none]
  intro b h; rw [hb b h]; simp
end Go.Proofs.Ythloammkgogceaa
