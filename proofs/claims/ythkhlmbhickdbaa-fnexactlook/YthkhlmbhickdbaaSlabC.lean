/-
  The contracts of what Take and Give begin with: copySlab, firstFree, and the model's copy.
-/
import Derived.Test.YthkhlmbhickdbaaSlabL
import Derived.Test.YthkhlmbhickdbaaSlabS
import Derived.Laws.CopyOwn
import Derived.Laws.AppendOwnNone
namespace Go.Proofs.Ythkhlmbhickdbaa
open Go.RowKit Go.Shelf
attribute [local go_sem] Oper.semAt_some

theorem own_full {W : World} {base n g : Nat} {xs : List Value} (h : W.ownsRow base 3 1 (.slice (some ⟨g, 0, none⟩) n n) n xs) : Cells W g 3 xs.toArray := by
  rcases h.2 with ⟨e, _⟩ | ⟨g', cap, cur, e, _, hc, _, _, hs, ht⟩
  · cases e
  · cases e
    have : cur.toList = xs := by rw [← ht, List.take_of_length_le (by simp; omega)]
    show W.heap[g]? = _
    rw [hc, ← this]
theorem Row.of_cells {W : World} {g : Nat} {zs : List Int} (h : Cells W g 3 (zs.map (Value.int .i64)).toArray) (h0 : ∀ z ∈ zs, -9223372036854775808 ≤ z ∧ z ≤ 9223372036854775807) : Row W g zs :=
  ⟨h0, _, h, by simp, fun j hj => by simp [hz, List.getElem?_eq_getElem hj]⟩

theorem Ints.src {W : World} {ao : Option Addr} {zs : List Int} (h : Ints W ao zs) (hp : 0 < zs.length) : ∃ ad, ao = some ad ∧ ∀ j v, (zs.map (Value.int .i64))[j]? = some v → W.cell? (ad.add j) = some v := by
  obtain ⟨b, off, e, hc⟩ := h.at hp
  refine ⟨_, e, fun j v hj => ?_⟩
  rw [WideShapes.add_plain]
  rw [List.getElem?_map] at hj
  cases hz' : zs[j]? with
  | none => rw [hz'] at hj; cases hj
  | some z =>
    rw [hz'] at hj
    cases hj
    have hj' : j < zs.length := (List.getElem?_eq_some_iff.1 hz').1
    rw [hc j hj']
    simp [hz, hz']
theorem Cells.kept2 {n : Nat} {W W' : World} {B : Nat} {t : TypeId} {cs : Array Value} (h : Cells W B t cs) (hk : Below n W W') (hB : B < n) : Cells W' B t cs := (hk.block B hB).trans h

theorem Ints.srcs {W : World} {ad : Addr} {zs : List Int} (h : Ints W (some ad) zs) : ∀ j v, (zs.map (Value.int .i64))[j]? = some v → W.cell? (ad.add j) = some v := by
  intro j v hj
  by_cases hp : 0 < zs.length
  · obtain ⟨a, e, hs⟩ := h.src hp
    cases e
    exact hs j v hj
  · have : zs = [] := List.eq_nil_of_length_eq_zero (by omega)
    subst this
    simp at hj
theorem own_some {W : World} {base : Nat} {v : Value} {n : Nat} {xs : List Value} (h : W.ownsRow base 3 1 v n xs) (hv : ¬ v = .slice none 0 0) : ∃ g cap, v = .slice (some ⟨g, 0, none⟩) n cap ∧ n ≤ cap := by
  rcases h.2 with ⟨e, _⟩ | ⟨g, cap, cur, rfl, _, _, hn, _⟩
  · exact absurd e hv
  · exact ⟨g, cap, rfl, hn⟩

set_option maxHeartbeats 2000000 in
theorem copySlab_ok (w : World) (ao : Option Addr) (cap : Nat) (zs : List Int) (hI : Ints w ao zs) (hl : zs.length ≤ 1048576) :
    Calls Try.prog 30 #[.agg #[.slice ao zs.length cap]] w fun e w' => ∃ g c, e = .returned (.agg #[.slice (some ⟨g, 0, none⟩) zs.length c]) ∧ w.heap.size ≤ g ∧ zs.length ≤ c ∧ Row w' g zs ∧ Kept w w' := by
  obtain ⟨i0, hi, hz0, hz1, hz2⟩ := info_parts infoI
  have hsz : (Try.prog.info? 3).map (·.size) = some 1 := by rw [hi]; simp [hz1]
  have b0 := (Cells.new w 28 #[.slice ao zs.length cap]).alloc (.cells #[.slice none 0 0] 28)
  have b1 := Cells.new (w.alloc (.cells #[.slice ao zs.length cap] 28)) 28 #[.slice none 0 0]
  have k0 : Kept w ((w.alloc (.cells #[.slice ao zs.length cap] 28)).alloc (.cells #[.slice none 0 0] 28)) := (Kept.alloc (Below.refl _ _) _).alloc _
  simp only [World.size_alloc] at b1
  go_enter Try.func30, Try.ntmps30
  go_wp2_with (first | (at_make; refine wpList_make_full _ rfl _ _ 22 rfl (w.heap.size + 2) 3 i0 (.int .i64 0) 1 Try.underlying22 hi hz0 hz1 .i64 .i64 _ _ zs.length rfl rfl rfl rfl (by rw [hz2]; omega) (by unfold maxLen; omega) (by simp) ?_; intro w1 hown hgrow; rw [madeInts] at hown; have hc1 := own_full hown; have hK : Kept ((w.alloc (.cells #[.slice ao zs.length cap] 28)).alloc (.cells #[.slice none 0 0] 28)) w1 := (Below.refl _ _).grown hgrow (Nat.le_refl _) (by simp); simp only [World.size_alloc] at hc1; have d0 := (b0.kept hK).cell 0; clear hown hgrow) | (refine wpList_copy_splice rfl (.tmp 8) (.tmp 10) 22 22 rfl 3 Try.underlying22 hsz _ _ _ _ _ _ rfl rfl (w.heap.size + 1 + 1) 0 ((List.replicate zs.length (0 : Int)).map (Value.int .i64)) 3 hc1 (zs.map (Value.int .i64)) (by rw [List.length_map]; exact (Nat.min_self _).symm) (fun hp => ⟨rfl, (hI.kept (k0.trans hK)).src (by simpa using hp)⟩) (by simp) (by intro v hv; obtain ⟨z, _, rfl⟩ := List.mem_map.1 hv; rfl) (w.heap.size + 1 + 1) w1 (Below.refl _ _) (Nat.le_refl _) ?_; intro w2 hrow hb2; have d1 := ((b1.kept hK).kept2 hb2 (by omega)).cell 0; have f1 := ((b1.kept hK).kept2 hb2 (by omega)).frozen 0))
  have hR2 : Row w2 (w.heap.size + 1 + 1) zs := by
    refine Row.of_cells ?_ hI.1
    have := hrow.out
    simpa [splice, Cells] using this
  have k2 : Kept w w2 := Below.trans (k0.trans hK) (hb2.mono (by omega))
  have q := (((b1.kept hK).kept2 hb2 (by omega)).set1 (.slice (some ⟨w.heap.size + 1 + 1, 0, none⟩) zs.length zs.length)).cell 0
  refine bodyPost_ret (v := .agg #[.slice (some ⟨w.heap.size + 1 + 1, 0, none⟩) zs.length zs.length]) (by simp [results, Try.results30, go_sem, q]) rfl ⟨_, _, rfl, by omega, Nat.le_refl _, hR2.other (by simp) _, k2.set (by simp) _⟩

/-- The block at g has n cells. -/
def Sz (W : World) (g n : Nat) : Prop := ∃ cur, W.heap[g]? = some (.cells cur 3 (0, 0)) ∧ cur.size = n ∧ n ≤ maxLen
theorem Sz.lt {W : World} {g n : Nat} (h : Sz W g n) : g < W.heap.size := by
  obtain ⟨cur, e, _⟩ := h
  exact (Array.getElem?_eq_some_iff.1 e).1
theorem Sz.block {W W' : World} {g n : Nat} (h : Sz W g n) (hb : W'.heap[g]? = W.heap[g]?) : Sz W' g n := by
  obtain ⟨cur, e, hc⟩ := h
  exact ⟨cur, hb.trans e, hc⟩
theorem Sz.kept {W W' : World} {g n : Nat} (h : Sz W g n) (hk : Kept W W') : Sz W' g n := h.block (hk.block g h.lt)
theorem Sz.set {W : World} {g n : Nat} (h : Sz W g n) (b j : Nat) (v : Value) : Sz (W.setCell ⟨b, j, none⟩ v) g n := by
  by_cases e : g = b
  · subst e
    obtain ⟨cur, e, hc⟩ := h
    refine ⟨cur.setIfInBounds j v, Cells.set j v e, by simpa using hc.1, hc.2⟩
  · exact h.block (Below.heap_setCell _ _ _ _ e)
/-- Only the block at g has turned, and it has as many cells as it had; new ones came. -/
def GS (g : Nat) (w w' : World) : Prop := w.grownBy w' (some g) ∧ ∀ n, Sz w g n → Sz w' g n
theorem GS.refl (w : World) (g : Nat) : GS g w w := ⟨World.grownBy.refl _ _, fun _ h => h⟩
theorem GS.trans {g : Nat} {a b c : World} (h : GS g a b) (k : GS g b c) : GS g a c := ⟨grown_trans h.1 k.1, fun n x => k.2 n (h.2 n x)⟩
theorem GS.set {g k : Nat} {a b : World} (h : GS g a b) (v : Value) : GS g a (b.setCell ⟨g, k, none⟩ v) := ⟨grown_set h.1 v, fun n x => (h.2 n x).set _ _ _⟩
theorem GS.any {a b : World} (h : Kept a b) (g : Nat) : GS g a b := ⟨⟨h.os, h.tape, h.output, h.size, fun k hk _ => h.block k hk⟩, fun _ x => x.kept h⟩
theorem GS.setNew {g b j : Nat} {a c : World} (h : GS g a c) (hp : a.heap.size ≤ b) (v : Value) : GS g a (c.setCell ⟨b, j, none⟩ v) :=
  ⟨⟨h.1.os, h.1.tape, h.1.output, by simpa [World.setCell] using h.1.size, fun k hk hr => (Below.heap_setCell _ _ _ _ (by simp; omega)).trans (h.1.block k hk hr)⟩, fun n x => (h.2 n x).set _ _ _⟩
/-- The block of a slice has as many cells as its capacity says. -/
def FullV (W : World) (v : Value) : Prop := ∀ g n c, v = .slice (some ⟨g, 0, none⟩) n c → Sz W g c
theorem FullV.nil {W : World} : FullV W (.slice none 0 0) := fun _ _ _ e => by cases e
theorem FullV.one {W : World} {g n c : Nat} (h : Sz W g c) : FullV W (.slice (some ⟨g, 0, none⟩) n c) := fun _ _ _ e => by cases e; exact h
theorem FullV.kept {W W' : World} {v : Value} (h : FullV W v) (hk : Kept W W') : FullV W' v := fun g n c e => (h g n c e).kept hk
theorem FullV.set {W : World} {v : Value} (h : FullV W v) (b j : Nat) (u : Value) : FullV (W.setCell ⟨b, j, none⟩ u) v := fun g n c e => (h g n c e).set _ _ _
theorem Sz.of_owns {W : World} {base n g c : Nat} {xs : List Value} (h : W.ownsRow base 3 1 (.slice (some ⟨g, 0, none⟩) n c) n xs) : Sz W g c := by
  obtain ⟨_, ⟨e, _⟩ | ⟨g', cap', cur, e, _, hg, _, h2, h3, _⟩⟩ := h
  · cases e
  · cases e
    exact ⟨cur, hg, by omega, h2⟩

set_option maxHeartbeats 2000000 in
theorem l2Copy_ok (w : World) (ao : Option Addr) (cap : Nat) (zs : List Int) (hI : Ints w ao zs) (hl : zs.length ≤ 1048576) :
    Calls Try.prog 29 #[.agg #[.slice ao zs.length cap]] w fun e w' => ∃ g c, e = .returned (.agg #[.slice (some ⟨g, 0, none⟩) zs.length c]) ∧ w.heap.size ≤ g ∧ zs.length ≤ c ∧ Row w' g zs ∧ Kept w w' ∧ Sz w' g c := by
  obtain ⟨i0, hi, hz0, hz1, hz2⟩ := info_parts infoI
  have b1 := (Cells.new (w.alloc (.cells #[.slice ao zs.length cap] 28)) 28 #[.slice none 0 0]).alloc (.cells #[] 3)
  have k0 : Kept w (((w.alloc (.cells #[.slice ao zs.length cap] 28)).alloc (.cells #[.slice none 0 0] 28)).alloc (.cells #[] 3)) := ((Kept.alloc (Below.refl _ _) _).alloc _).alloc _
  have o0 : (((w.alloc (.cells #[.slice ao zs.length cap] 28)).alloc (.cells #[.slice none 0 0] 28)).alloc (.cells #[] 3)).ownsRow (w.heap.size + 2) 3 1 (.slice (some ⟨w.heap.size + 1 + 1, 0, none⟩) 0 0) 0 [] := by
    have := World.ownsRow_made (base := w.heap.size + 2) (e := 3) (size := 1) ((w.alloc (.cells #[.slice ao zs.length cap] 28)).alloc (.cells #[.slice none 0 0] 28)) #[] 0 (by simp) (by unfold maxLen; omega) (by simp)
    simpa using this
  simp only [World.size_alloc] at b1
  cases ao with
  | none =>
    have h0 : zs = [] := by
      rcases hI.2 with h | ⟨b, off, e, _⟩
      · exact h
      · cases e
    subst h0
    go_enter Try.func29, Try.ntmps29
    go_wp2
    refine bodyPost_ret (v := .agg #[.slice (some ⟨w.heap.size + 1 + 1, 0, none⟩) 0 0]) (by simp [results, Try.results29, go_sem]) rfl ⟨w.heap.size + 1 + 1, 0, rfl, by omega, by simp, ?_, ((Kept.alloc (Below.refl _ _) _).alloc _).alloc _, ⟨#[], ?_, rfl, Nat.zero_le _⟩⟩
    · refine Row.of_cells ?_ (by simp)
      have := Cells.new ((w.alloc (.cells #[.slice none 0 cap] 28)).alloc (.cells #[.slice (some ⟨w.heap.size + 1 + 1, 0, none⟩) 0 0] 28)) 3 #[]
      simpa using this
    · have := Cells.new ((w.alloc (.cells #[.slice none 0 cap] 28)).alloc (.cells #[.slice (some ⟨w.heap.size + 1 + 1, 0, none⟩) 0 0] 28)) 3 #[]
      simpa [Cells] using this
  | some ad =>
    go_enter Try.func29, Try.ntmps29
    go_wp2_with (at_builtin; refine wpList_append_own _ rfl _ _ 22 rfl (w.heap.size + 2) 3 i0 (.int .i64 0) 1 8 Try.underlying22 hi hz0 hz1 hz2 rfl (by decide) _ _ _ rfl o0 ad zs.length cap (zs.map (Value.int .i64)) rfl (by simp) ((hI.kept k0).srcs) (by intro v hv; obtain ⟨z, _, rfl⟩ := List.mem_map.1 hv; rfl) (by unfold maxLen; omega) (by omega) (by simp) ?_; intro v' w1 hown' hgrow hnil; have kk : Below (w.heap.size + 1 + 1) _ w1 := (Below.refl _ _).grown hgrow (by simp) (fun j ej => by have := (o0.lt j ej).1; omega); obtain ⟨g', c', rfl, hcc⟩ := own_some hown' (by intro h; have h2 : Value.slice (some ⟨w.heap.size + 1 + 1, 0, none⟩) 0 0 = Value.slice none 0 0 := (hnil.1 h).1; cases h2); have d1 := (b1.kept2 kk (by omega)).cell 0; have f1 := (b1.kept2 kk (by omega)).frozen 0)
    have hR := Row.of_owns (zs := zs) (by simpa using hown') hI.1
    have k1 : Kept w w1 := Below.trans k0 (kk.mono (by omega))
    have q := ((b1.kept2 kk (by omega)).set1 (.slice (some ⟨g', 0, none⟩) zs.length c')).cell 0
    have hg' := hR.2
    refine bodyPost_ret (v := .agg #[.slice (some ⟨g', 0, none⟩) zs.length c']) (by simp [results, Try.results29, go_sem, q]) rfl ⟨g', c', rfl, by omega, by omega, hR.1.other (by intro h; simp at h <;> omega) _, k1.set (by simp) _, (Sz.of_owns (by simpa using hown')).set _ _ _⟩

/-- The first free block of at least n words. -/
def freeP {L : Nat} (n : Int) (b : BkOf L) : Bool := decide (b.1.kind = 0 ∧ n ≤ (b.1.size : Int))
def ffB (zs : List Int) (n : Int) : Option (BkOf zs.length) := (blocks zs).find? (freeP n)
def ffV {L : Nat} : Option (BkOf L) → Value
  | some b => .tuple #[bkV (b.1.at' : Nat) (b.1.size : Nat) (b.1.kind : Nat), .bool true]
  | none => .tuple #[bkV 0 0 0, .bool false]
theorem ff_hit {zs : List Int} {n : Int} {pre : List (BkOf zs.length)} {x : BkOf zs.length} (hp : pre ++ [x] <+: blocks zs) (hb : ∀ b ∈ pre, freeP n b = false) (hx : freeP n x = true) : ffB zs n = some x := by
  obtain ⟨rest, e⟩ := hp
  unfold ffB
  rw [← e, List.append_assoc, List.find?_append]
  have : pre.find? (freeP n) = none := by
    rw [List.find?_eq_none]
    intro b h; rw [hb b h]; simp
  rw [this]
  simp [hx]
theorem ff_none {zs : List Int} {n : Int} (hb : ∀ b ∈ blocks zs, freeP n b = false) : ffB zs n = none := by
  unfold ffB
  rw [List.find?_eq_none]
  intro b h; rw [hb b h]; simp
set_option maxRecDepth 100000 in
set_option maxHeartbeats 2000000 in
theorem firstFree_ok (w : World) (ao : Option Addr) (cap : Nat) (zs : List Int) (n : Int) (hI : Ints w ao zs) (hL : zs.length * 8 ≤ 140737488351232) :
    Calls Try.prog 99 #[.slice ao zs.length cap, .int .i64 n] w fun e w' => e = .returned (ffV (ffB zs n)) ∧ Kept w w' := by
  have b1 := ((Cells.new w 3 #[.int .i64 n]).alloc (.cells (bkC 0 0 0) 96)).alloc (.cells #[.bool false] 4)
  have b2 := (Cells.new (w.alloc (.cells #[.int .i64 n] 3)) 96 (bkC 0 0 0)).alloc (.cells #[.bool false] 4)
  have b3 := Cells.new ((w.alloc (.cells #[.int .i64 n] 3)).alloc (.cells (bkC 0 0 0) 96)) 4 #[.bool false]
  have k1 : Kept w (((w.alloc (.cells #[.int .i64 n] 3)).alloc (.cells (bkC 0 0 0) 96)).alloc (.cells #[.bool false] 4)) := ((Kept.alloc (Below.refl _ _) _).alloc _).alloc _
  simp only [World.size_alloc] at b1 b2 b3
  refine (callsIn_wide (n := 3)).1 ?_
  refine callsIn_of_wp_marks Try.func99 rfl trivial ?_ rfl
  simp only [Try.ntmps99, List.size_toArray, List.length_cons, List.length_nil, Nat.reduceAdd, Nat.reduceSub, Array.replicate_succ, Array.replicate_zero, List.push_toArray, List.append_toArray, List.nil_append, List.cons_append]
  gi_wp2_with (refine ⟨trivial, ?_⟩; gi_at_call 75; refine (callsIn_wide.2 (blocksOf_ok _ _ _ _)).mono ?_; rintro e w2 ⟨rfl, rfl⟩)
  have bB := Cells.new (((w.alloc (.cells #[.int .i64 n] 3)).alloc (.cells (bkC 0 0 0) 96)).alloc (.cells #[.bool false] 4)) 22 #[.slice ao zs.length cap]
  have b1 := b1.alloc (.cells #[.slice ao zs.length cap] 22)
  have b2 := b2.alloc (.cells #[.slice ao zs.length cap] 22)
  have b3 := b3.alloc (.cells #[.slice ao zs.length cap] 22)
  have k1 := k1.alloc (.cells #[.slice ao zs.length cap] 22)
  have hsz : ((((w.alloc (.cells #[.int .i64 n] 3)).alloc (.cells (bkC 0 0 0) 96)).alloc (.cells #[.bool false] 4)).alloc (.cells #[.slice ao zs.length cap] 22)).heap.size = w.heap.size + 4 := by simp
  simp only [World.size_alloc] at bB
  obtain ⟨W0, hW0⟩ : ∃ W0, (((w.alloc (.cells #[.int .i64 n] 3)).alloc (.cells (bkC 0 0 0) 96)).alloc (.cells #[.bool false] 4)).alloc (.cells #[.slice ao zs.length cap] 22) = W0 := ⟨_, rfl⟩
  rw [hW0] at b1 b2 b3 bB k1 hsz ⊢
  clear hW0
  refine range_blocks (X := fun k => k = w.heap.size + 1 ∨ k = w.heap.size + 1 + 1) (nX := w.heap.size + 3) (zs := zs) (ao := ao) (cap := cap) (by omega) rfl (by simp) (by simp) (by decide) hL hI k1 (by intro k h; omega) (by intro k h; omega) (by intro k h; omega) (by omega) bB
    (fun pre W => (∀ b ∈ pre, freeP n b = false) ∧ ((Cells W w.heap.size 3 #[.int .i64 n] ∧ Cells W (w.heap.size + 1) 96 (bkC 0 0 0)) ∧ Cells W (w.heap.size + 1 + 1) 4 #[.bool false]) ∧ Below w.heap.size w W)
    (fun c pre W => (c = .ret ∧ ∃ pre' x, pre = pre' ++ [x] ∧ (∀ b ∈ pre', freeP n b = false) ∧ freeP n x = true ∧ Cells W (w.heap.size + 1) 96 (bkC (x.1.at' : Nat) (x.1.size : Nat) (x.1.kind : Nat)) ∧ Cells W (w.heap.size + 1 + 1) 4 #[.bool true]) ∧ Below w.heap.size w W)
    ?oi ?ox ⟨by simp, ⟨⟨b1, b2⟩, b3⟩, k1⟩ ?body ?done ?stop
  case oi => exact OwnFrom.and (fun _ _ _ _ h _ _ => h) (OwnFrom.and (OwnFrom.and (OwnFrom.and (Own.from (Cells.own _ _ _) _) (Own.from (Cells.own _ _ _) _)) (Own.from (Cells.own _ _ _) _)) (ownFrom_below (Nat.le_refl _) (by omega)))
  case ox =>
    rintro c s Y Z row ⟨h, hB⟩ hg hr
    obtain ⟨e, pre', x, h1, h2, h3, h4, h5⟩ := h
    exact ⟨⟨e, pre', x, h1, h2, h3, Own.from (Cells.own _ _ (fun _ : Unit => _)) W0.heap.size () Y Z row h4 hg hr, Own.from (Cells.own _ _ (fun _ : Unit => _)) W0.heap.size () Y Z row h5 hg hr⟩, ownFrom_below (Nat.le_refl _) (by omega) s Y Z row hB hg hr⟩
  case body =>
    rintro l pre x W Bx hBx bX ⟨hp, ⟨⟨d1, d2⟩, d3⟩, hB1⟩ hlt
    have hx := x.2
    have c0 := bX.cell 0
    have c1 := bX.cell 1
    have c2 := bX.cell 2
    have lX := bX.lt
    have e1 := d1.cell 0
    have l1 := d1.lt
    have e20 := d2.cell 0
    have e21 := d2.cell 1
    have e22 := d2.cell 2
    have f20 := d2.frozen 0
    have f21 := d2.frozen 1
    have f22 := d2.frozen 2
    have l2 := d2.lt
    have e3 := d3.cell 0
    have f3 := d3.frozen 0
    have l3 := d3.lt
    simp only [List.setIfInBounds_toArray, List.set_cons_succ, List.set_cons_zero]
    have kA : Kept W (W.alloc (.cells (bkC (x.1.at' : Nat) (x.1.size : Nat) (x.1.kind : Nat)) 96)) := Kept.alloc (Below.refl _ _) _
    rcases (show (x.1.kind = 0 ∧ n ≤ (x.1.size : Int)) ∨ (x.1.kind = 0 ∧ (x.1.size : Int) < n) ∨ ¬ x.1.kind = 0 by omega) with ⟨h, h'⟩ | ⟨h, h'⟩ | h
    · have hq' : (((x.1.kind : Nat) : Int) == 0) = true := by simp [h]
      have HZ : Hid (x.1.kind = 0) := h
      clear h
      gi_wp2_with (refine ⟨trivial, ?_⟩; gi_at_call 115; refine (CallsIn.inRound l (callsIn_wide.2 (free_ok _ _ _ _))).mono ?_; rintro e w4 ⟨rfl, rfl⟩)
      exact ⟨(((others3 _ _ _).trans (KeepsOthers.setCell _ _ _)).trans (KeepsOthers.alloc _ _)).from _, ⟨rfl, pre, x, rfl, hp, by simp [freeP, HZ.out, h'], ((d2.set3 _ _ _).other (by simp) _).alloc _, ((d3.other3 (by omega) _ _ _).set1 _).alloc _⟩, ((below3 hB1 (by omega) _ _ _).setCell (p := ⟨w.heap.size + 1 + 1, 0, none⟩) (by simp; omega) _).alloc (by have := hB1.size; simpa [World.setCell] using this) _⟩
    · have hq' : (((x.1.kind : Nat) : Int) == 0) = true := by simp [h]
      have HZ : Hid (x.1.kind = 0) := h
      clear h
      gi_wp2_with (refine ⟨trivial, ?_⟩; gi_at_call 115; refine (CallsIn.inRound l (callsIn_wide.2 (free_ok _ _ _ _))).mono ?_; rintro e w4 ⟨rfl, rfl⟩)
      exact ⟨(KeepsOthers.alloc _ _).from _, KeepX.of kA, fun b hb => by rcases List.mem_append.1 hb with hb | hb; exact hp b hb; simp at hb; subst hb; simp [freeP, HZ.out]; omega, ⟨⟨d1.alloc _, d2.alloc _⟩, d3.alloc _⟩, hB1.alloc hB1.size _⟩
    · have hq' : (((x.1.kind : Nat) : Int) == 0) = false := by simpa using h
      gi_wp2_with (refine ⟨trivial, ?_⟩; gi_at_call 115; refine (CallsIn.inRound l (callsIn_wide.2 (free_ok _ _ _ _))).mono ?_; rintro e w4 ⟨rfl, rfl⟩)
      exact ⟨(KeepsOthers.alloc _ _).from _, KeepX.of kA, fun b hb => by rcases List.mem_append.1 hb with hb | hb; exact hp b hb; simp at hb; subst hb; simp [freeP, h], ⟨⟨d1.alloc _, d2.alloc _⟩, d3.alloc _⟩, hB1.alloc hB1.size _⟩
  case done =>
    rintro D W hD ⟨hp, ⟨⟨d1, d2⟩, d3⟩, hB1⟩ hK
    have e20 := d2.cell 0
    have e21 := d2.cell 1
    have e22 := d2.cell 2
    have f20 := d2.frozen 0
    have f21 := d2.frozen 1
    have f22 := d2.frozen 2
    have e3 := d3.cell 0
    have f3 := d3.frozen 0
    gi_wp2
    have hK' := ((others3 (W := W) (B := w.heap.size + 1) (.int .i64 0) (.int .i64 0) (.int .i64 0)).trans (KeepsOthers.setCell _ ⟨w.heap.size + 1 + 1, 0, none⟩ (.bool false))).same D _ hK rfl
    refine ⟨by simp, .inl ⟨_, _, rfl, run_takeDeferred hK', ?_⟩⟩
    have q2 := ((d2.set3 (.int .i64 0) (.int .i64 0) (.int .i64 0)).other (p := ⟨w.heap.size + 1 + 1, 0, none⟩) (by simp) (.bool false)).put hK' rfl (.deferred none)
    have q3 := ((d3.other3 (B' := w.heap.size + 1) (by omega) (.int .i64 0) (.int .i64 0) (.int .i64 0)).set1 (.bool false)).put hK' rfl (.deferred none)
    refine ⟨.tuple #[bkV 0 0 0, .bool false], by simp [results, Try.results99, go_sem, q2.cell 0, q2.cell 1, q2.cell 2, q3.cell 0], by simp [ffV, ff_none hp], ?_⟩
    exact ((below3 hB1 (by omega) _ _ _).setCell (p := ⟨w.heap.size + 1 + 1, 0, none⟩) (by simp; omega) _).trans (belowK_b (w := w) (Nat.le_refl _) _ D _ _ (by omega) hK' rfl rfl)
  case stop =>
    rintro D c pre W hD hpre ⟨h, hB⟩ hK
    obtain ⟨rfl, pre', x, rfl, hp, hx, d2, d3⟩ := h
    gi_wp2
    refine ⟨by simp, .inl ⟨_, _, rfl, run_takeDeferred hK, ?_⟩⟩
    have q2 := d2.put hK rfl (.deferred none)
    have q3 := d3.put hK rfl (.deferred none)
    refine ⟨.tuple #[bkV (x.1.at' : Nat) (x.1.size : Nat) (x.1.kind : Nat), .bool true], by simp [results, Try.results99, go_sem, q2.cell 0, q2.cell 1, q2.cell 2, q3.cell 0], by simp [ffV, ff_hit hpre hp hx], ?_⟩
    exact hB.trans (belowK_b (w := w) (Nat.le_refl _) _ D _ _ (by omega) hK rfl rfl)
end Go.Proofs.Ythkhlmbhickdbaa
