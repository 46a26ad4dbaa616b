/-
  The contract of chapter 12's draw l12DrawBad: a tree in which something may be amiss (genTre.py).
-/
import Derived.Test.YtdcjfeihcafndaaTreA
import Derived.Test.YtdcjfeihcafndaaTreB
import Derived.Test.YtdcjfeihcafndaaCpyU
namespace Go.Proofs.Ytdcjfeihcafndaa
open Go.RowKit
set_option linter.unusedSimpArgs false
attribute [local go_sem] Plain.and7

/-- Within l12DrawBad. -/
structure LocD (w wr : World) (c : Nat) (a : Option Addr) (len cap : Nat) (z : Nat → Int) (X : Nat) (b0 b1 b2 b3 : Value) : Prop where
  keeps : Keeps c w wr
  cur : Cur wr c a len cap z
  res : Cells wr w.heap.size 26 zeroN
  box : Cells wr X 26 #[b0, b1, b2, b3]
  ord : c < w.heap.size ∧ w.heap.size < X
theorem LocD.step {w wr wr' : World} {c : Nat} {a : Option Addr} {len cap : Nat} {z : Nat → Int} {X : Nat} {b0 b1 b2 b3 : Value} (h : LocD w wr c a len cap z X b0 b1 b2 b3) (hk : Keeps c wr wr') (hc : Cur wr' c a len cap z) : LocD w wr' c a len cap z X b0 b1 b2 b3 :=
  ⟨h.keeps.trans hk, hc, h.res.keeps hk (by have := h.ord.1; omega), h.box.keeps hk (by have := h.ord; omega), h.ord⟩
theorem LocD.kept {w wr wr' : World} {c : Nat} {a : Option Addr} {len cap : Nat} {z : Nat → Int} {X : Nat} {b0 b1 b2 b3 : Value} (h : LocD w wr c a len cap z X b0 b1 b2 b3) (hk : Kept wr wr') : LocD w wr' c a len cap z X b0 b1 b2 b3 := h.step hk.keeps (h.cur.keptC hk)
/-- Blocks above the result's box, but that of the tree, may turn. -/
theorem LocD.turn {w wr wr' : World} {c : Nat} {a : Option Addr} {len cap : Nat} {z : Nat → Int} {X : Nat} {b0 b1 b2 b3 b0' b1' b2' b3' : Value} (h : LocD w wr c a len cap z X b0 b1 b2 b3) (ho : wr'.os = wr.os ∧ wr'.tape = wr.tape ∧ wr'.output = wr.output) (hs : wr.heap.size ≤ wr'.heap.size) (hb : ∀ k, k ≤ w.heap.size → wr'.heap[k]? = wr.heap[k]?) (hx : Cells wr' X 26 #[b0', b1', b2', b3']) : LocD w wr' c a len cap z X b0' b1' b2' b3' := by
  have h1 := h.ord
  exact ⟨⟨ho.1.trans h.keeps.os, ho.2.1.trans h.keeps.tape, ho.2.2.trans h.keeps.output, Nat.le_trans h.keeps.size hs, fun k hk hc => (hb k (by omega)).trans (h.keeps.block k hk hc)⟩, h.cur.same hs (fun k hk => hb k (by omega)), (hb _ (Nat.le_refl _)).trans h.res, hx, h1⟩
theorem LocD.ret {w wr : World} {c : Nat} {a : Option Addr} {len cap : Nat} {z : Nat → Int} {X : Nat} {t : Nd} {b0 b1 b2 b3 : Value} (h : LocD w wr c a len cap z X b0 b1 b2 b3) (ht : NdS wr (fun b => w.heap.size + 1 ≤ b) t (.agg #[b0, b1, b2, b3])) : NdS (set4 wr w.heap.size b0 b1 b2 b3) (fun b => w.heap.size ≤ b) t (.agg #[b0, b1, b2, b3]) ∧ Keeps c w (set4 wr w.heap.size b0 b1 b2 b3) ∧ Cur (set4 wr w.heap.size b0 b1 b2 b3) c a len cap z ∧ Cells (set4 wr w.heap.size b0 b1 b2 b3) w.heap.size 26 #[b0, b1, b2, b3] := by
  have h1 := h.ord
  have hs : Stays (fun b => b ≠ w.heap.size) wr (set4 wr w.heap.size b0 b1 b2 b3) := (Stays.refl _ wr).set4 (by simp) _ _ _ _
  exact ⟨NdS.mono (fun b hb _ => by omega) _ _ (NdS.stay (hs.mono (fun b hb => by omega)) _ _ ht), h.keeps.set4 (Nat.le_refl _) _ _ _ _, h.cur.same hs.size (fun k hk => hs.block k (by omega) (by have := h.cur.lt; omega)), h.res.put4 _ _ _ _⟩
theorem CpT.keeps {W W' : World} {t : Nd} {lo hi c : Nat} {v : Value} (h : CpT W t lo hi v) (hk : Keeps c W W') (hc : c < lo) : CpT W' t lo hi v := h.stay (fun b b1 _ b3 => hk.block b b3 (by omega))
/-- The tree where the kid k is turned, told as CpT.kid tells it. -/
def KidUp (W : World) (lo hi g k : Nat) (cur : Array Value) (bl bh : Nat) (T t1 : Nd) (v : Value) : Prop :=
  ∀ (W' : World) (cur' : Array Value) (p0 p1 p2 p3 : Value) (t1' : Nd), W'.heap[g]? = some (.cells cur' 26 (0, 0)) → (∀ j, j < k * 4 ∨ k * 4 + 4 ≤ j → cur'[j]? = cur[j]?) → cur'[k * 4]? = some p0 → cur'[k * 4 + 1]? = some p1 → cur'[k * 4 + 2]? = some p2 → cur'[k * 4 + 3]? = some p3 →
        (∀ b, lo ≤ b → b < hi → b ≠ g → ¬ (bl ≤ b ∧ b < bh) → W'.heap[b]? = W.heap[b]?) → NdS W' (fun b => lo ≤ b) t1' (.agg #[p0, p1, p2, p3]) → ∃ t', NdS W' (fun b => lo ≤ b) t' v ∧ t'.size + t1.size = T.size + t1'.size
/-- The head of the kid k is turned by one store. -/
theorem LocD.kid {w w4 W : World} {c : Nat} {a : Option Addr} {len cap : Nat} {z : Nat → Int} {X g k bl bh : Nat} {T t1 : Nd} {cur : Array Value} {b0 b1 b2 b3 kv1 v : Value} {op1 n1 : Int} {s1 : ByteArray} (L : LocD w W c a len cap z X b0 b1 b2 b3) (h4 : Keeps c w4 W) (hgc : w4.heap[g]? = some (.cells cur 26 (0, 0))) (hX4 : X < w4.heap.size) (hlo : w.heap.size + 1 ≤ g) (hgX : g < X)
    (hbl : w.heap.size + 1 ≤ bl) (hgb : g < bl ∨ bh ≤ g) (hkT : CpT w4 t1 bl bh (.agg #[.int .i64 op1, .string s1, .int .i64 n1, kv1])) (hup : KidUp w4 (w.heap.size + 1) X g k cur bl bh T t1 v) (op' n' : Int) (s' : ByteArray) (hs' : s'.size ≤ maxLen) (j : Nat) (hj : j < 4) (u : Value)
    (e0 : (cur.setIfInBounds (k * 4 + j) u)[k * 4]? = some (.int .i64 op')) (e1 : (cur.setIfInBounds (k * 4 + j) u)[k * 4 + 1]? = some (.string s')) (e2 : (cur.setIfInBounds (k * 4 + j) u)[k * 4 + 2]? = some (.int .i64 n')) (e3 : (cur.setIfInBounds (k * 4 + j) u)[k * 4 + 3]? = some kv1) :
    ∃ t', LocD w (W.setCell ⟨g, k * 4 + j, none⟩ u) c a len cap z X b0 b1 b2 b3 ∧ NdS (W.setCell ⟨g, k * 4 + j, none⟩ u) (fun b => w.heap.size + 1 ≤ b) t' v ∧ t'.size = T.size := by
  have ho := L.ord
  have hcl := L.cur.lt
  have hgW : Cells W g 26 cur := (h4.block g (by omega) (by omega)).trans hgc
  have hgW' := hgW.set (k * 4 + j) u
  obtain ⟨t1', hT1, hz1⟩ := hkT.re op' n' s' hs'
  have hoth : ∀ b, b ≠ g → (W.setCell ⟨g, k * 4 + j, none⟩ u).heap[b]? = W.heap[b]? := fun b hb => Below.heap_setCell _ _ _ _ hb
  have hT2 : CpT (W.setCell ⟨g, k * 4 + j, none⟩ u) t1' bl bh (.agg #[.int .i64 op', .string s', .int .i64 n', kv1]) := hT1.stay (fun b x1 x2 x3 => (hoth b (by omega)).trans (h4.block b x3 (by omega)))
  obtain ⟨t', ht', hz'⟩ := hup _ _ _ _ _ _ t1' hgW' (fun i hi => by rw [Array.getElem?_setIfInBounds_ne (by omega)]) e0 e1 e2 e3 (fun b x1 x2 x3 _ => (hoth b x3).trans (h4.block b (by omega) (by omega))) (NdS.mono (fun b hb _ => by omega) _ _ hT2.toS)
  exact ⟨t', L.turn ⟨rfl, rfl, rfl⟩ (by simp [World.setCell]) (fun q hq => hoth q (by omega)) ((hoth X (by omega)).trans L.box), ht', by omega⟩
theorem RowX.add1 {W W' : World} {lo hi lo' q : Nat} {v v' : Value} {ks : List Nd} {t : Nd} {d0 d1 d2 d3 : Value} {xs : List Value} (hr : RowX W (fun b => lo ≤ b ∧ b < hi) v ks xs) (h1 : lo' ≤ lo) (hq : q < lo ∨ hi ≤ q) (hqW : q < W.heap.size) (hlW : lo' ≤ W.heap.size)
    (ht : NdS W (fun b => (lo' ≤ b ∧ b ≠ q) ∧ v.ownBlock ≠ some b) t (.agg #[d0, d1, d2, d3])) (ho : W'.ownsRow 0 26 4 v' (ks.length + 1) (xs ++ [d0, d1, d2, d3])) (hg : W.grownBy W' v.ownBlock) (hv : v.ownBlock = v'.ownBlock ∨ v'.ownBlock = some W.heap.size) (j : Nat) (u : Value) :
    NdRow (W'.setCell ⟨q, j, none⟩ u) (fun b => lo' ≤ b ∧ b ≠ q) v' (ks ++ [t]) := by
  have hr' := NdRow.add (S := fun b => lo' ≤ b ∧ b ≠ q) (fun i t ht => by
    obtain ⟨c0, c1, c2, c3, e0, e1, e2, e3, hn⟩ := hr.2.2 i t ht
    exact ⟨c0, c1, c2, c3, e0, e1, e2, e3, NdS.mono (fun b hb _ => ⟨⟨by have := hb.1; omega, by have := hb.1; omega⟩, hb.2⟩) _ _ hn⟩) (by have := hr.1.1; omega) (fun g e => by have := hr.2.1 g e; exact ⟨by omega, by omega⟩) ⟨hlW, by omega⟩ ht ho hg hv
  exact hr'.on ((Stays.refl _ _).set (fun h => h.2 rfl) _)
/-- A node is appended to the tree's own row. -/
theorem LocD.app {w W W' : World} {c : Nat} {a : Option Addr} {len cap : Nat} {z : Nat → Int} {X : Nat} {b0 b1 b2 v v' : Value} {ks : List Nd} {xs : List Value} {t : Nd} {d0 d1 d2 d3 : Value} (L : LocD w W c a len cap z X b0 b1 b2 v) (hr : RowX W (fun b => w.heap.size + 1 ≤ b ∧ b < X) v ks xs)
    (ht : NdS W (fun b => (w.heap.size + 1 ≤ b ∧ b ≠ X) ∧ v.ownBlock ≠ some b) t (.agg #[d0, d1, d2, d3])) (ho : W'.ownsRow 0 26 4 v' (ks.length + 1) (xs ++ [d0, d1, d2, d3])) (hg : W.grownBy W' v.ownBlock) (hv : v.ownBlock = v'.ownBlock ∨ v'.ownBlock = some W.heap.size) :
    LocD w (W'.setCell ⟨X, 3, none⟩ v') c a len cap z X b0 b1 b2 v' ∧ NdRow (W'.setCell ⟨X, 3, none⟩ v') (fun b => w.heap.size + 1 ≤ b ∧ b ≠ X) v' (ks ++ [t]) := by
  have h1 := L.ord
  have hXl := L.box.lt
  refine ⟨L.turn ⟨hg.os, hg.tape, hg.output⟩ (by simpa [World.setCell] using hg.size) (fun q hq => (Below.heap_setCell _ _ _ _ (by show q ≠ X; omega)).trans (hg.block q (by omega) (fun e => by have := hr.2.1 q e.symm; omega))) ?_, hr.add1 (Nat.le_refl _) (by omega) hXl (by omega) ht ho hg hv 3 v'⟩
  exact Cells.set 3 v' (show Cells W' X 26 #[b0, b1, b2, v] from (hg.block X hXl (fun e => by have := hr.2.1 X e.symm; omega)).trans L.box)
/-- A row whose last node is written anew. -/
theorem NdRow.relast {W : World} {S : Nat → Prop} {gg cg : Nat} {ks : List Nd} {t : Nd} (h : NdRow W S (.slice (some ⟨gg, 0, none⟩) (ks.length + 1) cg) (ks ++ [t])) (op n : Int) (s : ByteArray) (hs : s.size ≤ maxLen) :
    NdRow ((((W.setCell ⟨gg, ks.length * 4, none⟩ (.int .i64 op)).setCell ⟨gg, ks.length * 4 + 1, none⟩ (.string s)).setCell ⟨gg, ks.length * 4 + 2, none⟩ (.int .i64 n)).setCell ⟨gg, ks.length * 4 + 3, none⟩ (.slice none 0 0)) S (.slice (some ⟨gg, 0, none⟩) (ks.length + 1) cg) (ks ++ [.mk op s n []]) := by
  obtain ⟨xs, ⟨hl, ⟨e, _⟩ | ⟨g, cap, cur, e, hb, hg, h1, h2, h3, h4⟩⟩, hS, hx⟩ := h
  · cases e
  injection e with e _ ec
  injection e with e
  injection e with e
  subst e
  subst ec
  have hst : Stays (fun b => S b ∧ (Value.slice (some ⟨gg, 0, none⟩) (ks.length + 1) cg).ownBlock ≠ some b) W ((((W.setCell ⟨gg, ks.length * 4, none⟩ (.int .i64 op)).setCell ⟨gg, ks.length * 4 + 1, none⟩ (.string s)).setCell ⟨gg, ks.length * 4 + 2, none⟩ (.int .i64 n)).setCell ⟨gg, ks.length * 4 + 3, none⟩ (.slice none 0 0)) :=
    ((((Stays.refl _ W).set (fun h => h.2 rfl) _).set (fun h => h.2 rfl) _).set (fun h => h.2 rfl) _).set (fun h => h.2 rfl) _
  have hc := ((((show Cells W gg 26 cur from hg).set (ks.length * 4) (.int .i64 op)).set (ks.length * 4 + 1) (.string s)).set (ks.length * 4 + 2) (.int .i64 n)).set (ks.length * 4 + 3) (.slice none 0 0)
  obtain ⟨cur', hcur'⟩ : ∃ cur', (((cur.setIfInBounds (ks.length * 4) (.int .i64 op)).setIfInBounds (ks.length * 4 + 1) (.string s)).setIfInBounds (ks.length * 4 + 2) (.int .i64 n)).setIfInBounds (ks.length * 4 + 3) (.slice none 0 0) = cur' := ⟨_, rfl⟩
  rw [hcur'] at hc
  have hsz : cur'.size = cur.size := by rw [← hcur']; simp
  simp only [List.length_append, List.length_cons, List.length_nil, Nat.zero_add] at hl h1 h4
  have hbig : ks.length * 4 + 4 ≤ cur.size := by omega
  have tl : ∀ j c, j < (ks.length + 1) * 4 → cur'[j]? = some c → (cur'.toList.take ((ks.length + 1) * 4))[j]? = some c := fun j c hj hc => by rw [List.getElem?_take, if_pos hj]; simpa using hc
  refine ⟨cur'.toList.take ((ks.length + 1) * 4), ⟨by simp; omega, .inr ⟨gg, cg, cur', by simp, hb, hc, by simp; omega, h2, by omega, by simp⟩⟩, hS, fun i t' ht' => ?_⟩
  by_cases hlt : i < ks.length
  · rw [List.getElem?_append_left hlt] at ht'
    obtain ⟨c0, c1, c2, c3, e0, e1, e2, e3, hv⟩ := hx i t' (by rw [List.getElem?_append_left hlt]; exact ht')
    have bk : ∀ j c, j < ks.length * 4 → xs[j]? = some c → (cur'.toList.take ((ks.length + 1) * 4))[j]? = some c := fun j c hj hc => by
      rw [← h4, List.getElem?_take] at hc
      split at hc
      · refine tl j c (by omega) ?_
        rw [← hcur', Array.getElem?_setIfInBounds_ne (by omega), Array.getElem?_setIfInBounds_ne (by omega), Array.getElem?_setIfInBounds_ne (by omega), Array.getElem?_setIfInBounds_ne (by omega)]
        simpa using hc
      · cases hc
    exact ⟨c0, c1, c2, c3, bk _ _ (by omega) e0, bk _ _ (by omega) e1, bk _ _ (by omega) e2, bk _ _ (by omega) e3, NdS.stay hst _ _ hv⟩
  · have hi2 := (List.getElem?_eq_some_iff.1 ht').1
    simp at hi2
    obtain rfl : i = ks.length := by omega
    rw [List.getElem?_append_right (Nat.le_refl _)] at ht'
    simp at ht'
    subst ht'
    refine ⟨.int .i64 op, .string s, .int .i64 n, .slice none 0 0, tl _ _ (by omega) ?_, tl _ _ (by omega) ?_, tl _ _ (by omega) ?_, tl _ _ (by omega) ?_, NdS.leaf _ _ _ _ _ hs⟩
    · rw [← hcur', Array.getElem?_setIfInBounds_ne (by omega), Array.getElem?_setIfInBounds_ne (by omega), Array.getElem?_setIfInBounds_ne (by omega), Array.getElem?_setIfInBounds_self_of_lt (by omega)]
    · rw [← hcur', Array.getElem?_setIfInBounds_ne (by omega), Array.getElem?_setIfInBounds_ne (by omega), Array.getElem?_setIfInBounds_self_of_lt (by simp; omega)]
    · rw [← hcur', Array.getElem?_setIfInBounds_ne (by omega), Array.getElem?_setIfInBounds_self_of_lt (by simp; omega)]
    · rw [← hcur', Array.getElem?_setIfInBounds_self_of_lt (by simp; omega)]
theorem own_last {W : World} {gg cg m : Nat} {xs : List Value} {d0 d1 d2 d3 : Value} (h : W.ownsRow 0 26 4 (.slice (some ⟨gg, 0, none⟩) (m + 1) cg) (m + 1) (xs ++ [d0, d1, d2, d3])) : ∃ cur, Cells W gg 26 cur ∧ cur[m * 4]? = some d0 ∧ cur[m * 4 + 1]? = some d1 ∧ cur[m * 4 + 2]? = some d2 ∧ cur[m * 4 + 3]? = some d3 := by
  obtain ⟨hl, ⟨e, _⟩ | ⟨g, cap, cur, e, hb, hg, h1, h2, h3, h4⟩⟩ := h
  · cases e
  injection e with e _ ec
  injection e with e
  injection e with e
  subst e
  simp at hl
  have lk : ∀ j, j < (m + 1) * 4 → cur[j]? = (xs ++ [d0, d1, d2, d3])[j]? := fun j hj => by rw [← h4, List.getElem?_take, if_pos hj]; simp
  refine ⟨cur, hg, ?_, ?_, ?_, ?_⟩
  · rw [lk _ (by omega), List.getElem?_append_right (by omega), show m * 4 - xs.length = 0 by omega]; rfl
  · rw [lk _ (by omega), List.getElem?_append_right (by omega), show m * 4 + 1 - xs.length = 1 by omega]; rfl
  · rw [lk _ (by omega), List.getElem?_append_right (by omega), show m * 4 + 2 - xs.length = 2 by omega]; rfl
  · rw [lk _ (by omega), List.getElem?_append_right (by omega), show m * 4 + 3 - xs.length = 3 by omega]; rfl
/-- The kid k has another row. -/
theorem LocD.kidrow {w w4 W : World} {c : Nat} {a : Option Addr} {len cap : Nat} {z : Nat → Int} {X g k bl bh : Nat} {T t1 : Nd} {cur : Array Value} {b0 b1 b2 b3 v v' : Value} {op1 n1 : Int} {s1 : ByteArray} {ks' : List Nd} (L : LocD w w4 c a len cap z X b0 b1 b2 b3) (ho : W.os = w4.os ∧ W.tape = w4.tape ∧ W.output = w4.output) (hs : w4.heap.size ≤ W.heap.size)
    (hb : ∀ q, q ≤ X → q ≠ g → ¬ (bl ≤ q ∧ q < bh) → W.heap[q]? = w4.heap[q]?) (hgW : W.heap[g]? = some (.cells (cur.setIfInBounds (k * 4 + 3) v') 26 (0, 0))) (hr : NdRow W (fun b => w.heap.size + 1 ≤ b ∧ b ≠ g) v' ks') (hlo : w.heap.size + 1 ≤ g) (hgX : g < X) (hbl : w.heap.size + 1 ≤ bl) (hbh : bh ≤ X) (hup : KidUp w4 (w.heap.size + 1) X g k cur bl bh T t1 v) (hs1 : s1.size ≤ maxLen) (hcs : k * 4 + 3 < cur.size)
    (e0 : cur[k * 4]? = some (.int .i64 op1)) (e1 : cur[k * 4 + 1]? = some (.string s1)) (e2 : cur[k * 4 + 2]? = some (.int .i64 n1)) :
    ∃ t', LocD w W c a len cap z X b0 b1 b2 b3 ∧ NdS W (fun b => w.heap.size + 1 ≤ b) t' v ∧ t'.size + t1.size = T.size + (1 + sizesN ks') := by
  have hord := L.ord
  obtain ⟨t', ht', hz'⟩ := hup W _ _ _ _ _ (.mk op1 s1 n1 ks') hgW (fun i hi => by rw [Array.getElem?_setIfInBounds_ne (by omega)]) (by rw [Array.getElem?_setIfInBounds_ne (by omega)]; exact e0) (by rw [Array.getElem?_setIfInBounds_ne (by omega)]; exact e1) (by rw [Array.getElem?_setIfInBounds_ne (by omega)]; exact e2) (by rw [Array.getElem?_setIfInBounds_self_of_lt hcs]) (fun b x1 x2 x3 x4 => hb b (by omega) x3 x4) (NdS.mono (fun b hb _ => hb.1) _ _ (hr.node op1 n1 s1 hs1))
  exact ⟨t', L.turn ho hs (fun q hq => hb q (by omega) (by omega) (by omega)) ((hb X (Nat.le_refl _) (by omega) (by omega)).trans L.box), ht', by simp only [Nd.size] at hz'; omega⟩
set_option maxHeartbeats 16000000 in
set_option maxRecDepth 100000 in
theorem l12DrawBad_ok (c : Nat) (a : Option Addr) (len cap : Nat) (z : Nat → Int) (w : World) (h : Cur w c a len cap z) :
    Calls Try.prog 11 #[.pointer (some ⟨c, 0, none⟩)] w fun e w' => ∃ t v, e = .returned v ∧ NdS w' (fun b => w.heap.size ≤ b) t v ∧ t.size ≤ 210 ∧ Keeps c w w' ∧ Cur w' c a len cap z := by
  obtain ⟨i0, hi, hz0, hz1, hz2⟩ := info_parts infoNk
  have k0 : Kept w (w.alloc (.cells zeroN 26)) := Kept.alloc (Below.refl _ _) _
  have hD := l12DrawNode_ok c a len cap z _ (h.keptC k0)
  have hlt := h.lt
  go_enter Try.func11, Try.ntmps11
  go_upto_region 2 with (first
    | (have _tk := hk1; go_at_call 15; refine (l12Copy_ok _ t (Nat.le_refl _) w1 0 _ (NdS.toV (fun b _ => Nat.zero_le _) _ _ ht1) (by omega)).mono ?_; rintro e w2 ⟨v2, rfl, ht2, k2⟩; obtain ⟨op, s, n, ao, l, cp, rfl⟩ := ht2.four)
    | (go_at_call 16; refine hD.mono ?_; rintro e w1 ⟨t, v1, rfl, ht1, hz, hk1, hC1⟩; obtain ⟨op1, s1, n1, ao1, l1, cp1, rfl⟩ := ht1.four))
  have k3 : Kept w2 (w2.alloc (.cells #[.int .i64 op, .string s, .int .i64 n, .slice ao l cp] 26)) := Kept.alloc (Below.refl _ _) _
  have hs1 := hk1.size
  simp only [World.size_alloc] at hs1
  have hs2 := k2.size
  have L0 : LocD w (w2.alloc (.cells #[.int .i64 op, .string s, .int .i64 n, .slice ao l cp] 26)) c a len cap z w2.heap.size (.int .i64 op) (.string s) (.int .i64 n) (.slice ao l cp) :=
    ⟨((k0.keeps.trans hk1).trans k2.keeps).trans k3.keeps, (hC1.keptC k2).keptC k3, (((Cells.new w _ _).keeps hk1 (by omega)).kept k2).kept k3, Cells.new w2 _ _, by omega, by omega⟩
  have T0 := (ht2.stay (W' := w2.alloc (.cells #[.int .i64 op, .string s, .int .i64 n, .slice ao l cp] 26)) (fun b _ _ b3 => k3.block b b3)).mono hs1 (Nat.le_refl _)
  obtain ⟨X, hX⟩ : ∃ X, w2.heap.size = X := ⟨_, rfl⟩
  obtain ⟨wr, hwr⟩ : ∃ wr, w2.alloc (.cells #[.int .i64 op, .string s, .int .i64 n, .slice ao l cp] 26) = wr := ⟨_, rfl⟩
  rw [hX, hwr] at L0 T0
  simp only [hX, hwr]
  have HL : Hid (LocD w wr c a len cap z X (.int .i64 op) (.string s) (.int .i64 n) (.slice ao l cp)) := L0
  have HT : Hid (CpT wr t (w.heap.size + 1) X (.agg #[.int .i64 op, .string s, .int .i64 n, .slice ao l cp])) := T0
  have LZ := HL.out
  clear T0 L0 ht2 ht1 hk1 k2 k3 hC1 hD hwr hX hs1 hs2 h
  have bx := LZ.box; have c0 := bx.cell 0; have c1 := bx.cell 1; have c2 := bx.cell 2; have c3 := bx.cell 3; have rx := LZ.res; have d0 := rx.cell 0; have d1 := rx.cell 1; have d2 := rx.cell 2; have d3 := rx.cell 3; have g0 := rx.frozen 0; have g1 := rx.frozen 1; have g2 := rx.frozen 2; have g3 := rx.frozen 3
  simp at c0 c1 c2 c3 d0 d1 d2 d3
  by_cases hl0 : l = 0
  · subst hl0
    go_wp2_with fail
    obtain ⟨r1, r2, r3, r4⟩ := LZ.ret (NdS.mono (fun b hb _ => hb.1) _ _ HT.out.toS)
    have z0 := r4.cell 0; have z1 := r4.cell 1; have z2 := r4.cell 2; have z3 := r4.cell 3
    exact bodyPost_ret (v := .agg #[.int .i64 op, .string s, .int .i64 n, .slice ao 0 cp]) (by simp [results, Try.results11, go_sem, z0, z1, z2, z3]) rfl ⟨_, _, rfl, r1, by omega, r2, r3⟩
  · have q1 : ((l : Int) == 0) = false := by simpa using hl0
    have hl200 : l ≤ 1000 := by
      obtain ⟨ot, st, nt, ks⟩ := t
      have ht := HT.out
      cases ht with
      | leaf hs => simp at hl0
      | node g cap cur bl bh q0 q1 q2 q3 hs hlo hgh hg hc hm hz' hb hd hq hkk =>
        have := len_sizes ks
        simp only [Nd.size] at hz
        omega
    clear c0 c1 c2 c3 d0 d1 d2 d3 g0 g1 g2 g3 bx rx LZ
    have C3 := HL.out.box.cell 3
    simp at C3
    go_upto_region 6 with (first
      | (have _tk := L3; go_at_call 17; refine (l1Below_ok c a len cap z 12 (by decide) _ L3.cur).mono ?_; rintro e w4 ⟨y, rfl, hy0, hy1, hk4, hC4⟩; have L4 := L3.step hk4 hC4)
      | (go_at_call 17; refine (l1Below_ok c a len cap z (l : Nat) (by omega) _ HL.out.cur).mono ?_; rintro e w3 ⟨kx, rfl, hx0, hx1, hk3, hC3⟩; have L3 := HL.out.step hk3 hC3))
    have T4 := (HT.out.keeps hk3 (by have := HL.out.ord.1; omega)).keeps hk4 (by have := HL.out.ord.1; omega)
    obtain ⟨k, rfl⟩ := Int.eq_ofNat_of_zero_le hx0
    have hkl : k < l := by have := hx1 (by omega); omega
    have hy2 := hy1 (by decide)
    have HL4 : Hid (LocD w w4 c a len cap z X (.int .i64 op) (.string s) (.int .i64 n) (.slice ao l cp)) := L4
    have HT4 : Hid (CpT w4 t (w.heap.size + 1) X (.agg #[.int .i64 op, .string s, .int .i64 n, .slice ao l cp])) := T4
    have hXs : X < w4.heap.size := L4.box.lt
    have hwX := L4.ord.2
    clear HL HT L3 L4 T4 hk3 hk4 hC3 hC4 hx0 hx1 hy1 C3
    have LZ := HL4.out
    have bx := LZ.box; have c0 := bx.cell 0; have c1 := bx.cell 1; have c2 := bx.cell 2; have c3 := bx.cell 3; have rx := LZ.res; have d0 := rx.cell 0; have d1 := rx.cell 1; have d2 := rx.cell 2; have d3 := rx.cell 3; have g0 := rx.frozen 0; have g1 := rx.frozen 1; have g2 := rx.frozen 2; have g3 := rx.frozen 3
    simp at c0 c1 c2 c3 d0 d1 d2 d3
    have hns : ∃ g ks, ao = some ⟨g, 0, none⟩ ∧ t = .mk op s n ks := by
      have ht := HT4.out
      cases ht with
      | leaf hs => simp at hl0
      | node g cap cur bl bh q0 q1 q2 q3 hs hlo hgh hg hc hm hz' hb hd hq hkk => exact ⟨_, _, rfl, rfl⟩
    obtain ⟨g, ks, rfl, rfl⟩ := hns
    obtain ⟨cur, bl, bh, t1, op1, s1, n1, kv1, hkl2, hlo, hgX, hgc, e0, e1, e2, e3, hkT, hbl, hbb, hbh, hgb, hts, hupd⟩ := HT4.out.kid hkl
    have m0 : w4.cell? ⟨g, k * 4, none⟩ = some (.int .i64 op1) := by simp [World.cell?, hgc, e0]
    have m1 : w4.cell? ⟨g, k * 4 + 1, none⟩ = some (.string s1) := by simp [World.cell?, hgc, e1]
    have m2 : w4.cell? ⟨g, k * 4 + 2, none⟩ = some (.int .i64 n1) := by simp [World.cell?, hgc, e2]
    have m3 : w4.cell? ⟨g, k * 4 + 3, none⟩ = some kv1 := by simp [World.cell?, hgc, e3]
    have mf : ∀ j, w4.frozen? ⟨g, j, none⟩ = false := fun j => by simp [World.frozen?, hgc]
    have f0 := mf (k * 4); have f1 := mf (k * 4 + 1); have f2 := mf (k * 4 + 2); have f3 := mf (k * 4 + 3)
    have hgl : g < w4.heap.size := by omega
    have qk : (k : Int) < (l : Int) := by omega
    have HUP : Hid (KidUp w4 (w.heap.size + 1) X g k cur bl bh (.mk op s n ks) t1 (.agg #[.int .i64 op, .string s, .int .i64 n, .slice (some ⟨g, 0, none⟩) l cp])) := hupd
    have hcs : k * 4 + 3 < cur.size := (Array.getElem?_eq_some_iff.1 e3).1
    have hsm : s.size ≤ maxLen := by
      have ht := HT4.out
      cases ht with
      | node g cap cur bl bh q0 q1 q2 q3 hs hlo hgh hg hc hm hz' hb hd hq hkk => exact hs
    have hsm1 : s1.size ≤ maxLen := by
      have ht := hkT
      cases ht with
      | leaf hs => exact hs
      | node g cap cur bl bh q0 q1 q2 q3 hs hlo hgh hg hc hm hz' hb hd hq hkk => exact hs
    have HKT : Hid (CpT w4 t1 bl bh (.agg #[.int .i64 op1, .string s1, .int .i64 n1, kv1])) := hkT
    have nX : X ≠ w.heap.size := by omega
    have gX : g ≠ X := by omega
    have gW : g ≠ w.heap.size := by omega
    clear hkT
    clear hupd mf
    rcases Decidable.em (y = 4) with hy | hy4
    · have y0 : (y == 0) = false := by simp [hy]
      have y1 : (y == 1) = false := by simp [hy]
      have y2 : (y == 2) = false := by simp [hy]
      have y3 : (y == 3) = false := by simp [hy]
      have y4 : (y == 4) = true := by simp [hy]
      clear hy
      go_wp2_with (go_at_call 17; refine (l1Below_ok c a len cap z 28 (by decide) _ LZ.cur).mono ?_; rintro e w5 ⟨x5, rfl, hx5, _, hk5, hC5⟩; have L5 := LZ.step hk5 hC5; have b5 := L5.box; have v0 := b5.cell 0; have v1 := b5.cell 1; have v2 := b5.cell 2; have v3 := b5.cell 3; have w0 := b5.frozen 0; have r5 := L5.res; have d0 := r5.cell 0; have d1 := r5.cell 1; have d2 := r5.cell 2; have d3 := r5.cell 3; have g0 := r5.frozen 0; have g1 := r5.frozen 1; have g2 := r5.frozen 2; have g3 := r5.frozen 3; simp at v0 v1 v2 v3 d0 d1 d2 d3)
      have L6 : LocD w (w5.setCell ⟨X, 0, none⟩ (.int .i64 x5)) c a len cap z X (.int .i64 x5) (.string s) (.int .i64 n) (.slice (some ⟨g, 0, none⟩) l cp) := L5.turn ⟨rfl, rfl, rfl⟩ (by simp [World.setCell]) (fun q hq => Below.heap_setCell _ _ _ _ (by show q ≠ X; omega)) (L5.box.set 0 _)
      obtain ⟨t6, hT6, hz6⟩ := HT4.out.re x5 n s hsm
      have hT7 : CpT (w5.setCell ⟨X, 0, none⟩ (.int .i64 x5)) t6 (w.heap.size + 1) X _ := hT6.stay (fun b x1 x2 x3 => (Below.heap_setCell _ _ _ _ (by show b ≠ X; omega)).trans (hk5.block b x3 (by omega)))
      obtain ⟨r1, r2, r3, r4⟩ := L6.ret (NdS.mono (fun b hb _ => hb.1) _ _ hT7.toS)
      have z0 := r4.cell 0; have z1 := r4.cell 1; have z2 := r4.cell 2; have z3 := r4.cell 3
      exact bodyPost_ret (v := .agg #[.int .i64 x5, .string s, .int .i64 n, .slice (some ⟨g, 0, none⟩) l cp]) (by simp [results, Try.results11, go_sem, z0, z1, z2, z3]) rfl ⟨_, _, rfl, r1, by omega, r2, r3⟩
    rcases Decidable.em (y = 2) with hy | hy2'
    · have y0 : (y == 0) = false := by simp [hy]
      have y1 : (y == 1) = false := by simp [hy]
      have y2 : (y == 2) = true := by simp [hy]
      clear hy
      go_wp2_with fail
      obtain ⟨t6, L6, hT6, hz6⟩ := LZ.kid (Keeps.refl _ _) hgc hXs hlo hgX hbl hgb HKT.out HUP.out op1 3 s1 hsm1 2 (by omega) (.int .i64 3) (by rw [Array.getElem?_setIfInBounds_ne (by omega)]; exact e0) (by rw [Array.getElem?_setIfInBounds_ne (by omega)]; exact e1) (by rw [Array.getElem?_setIfInBounds_self_of_lt (by omega)]) (by rw [Array.getElem?_setIfInBounds_ne (by omega)]; exact e3)
      obtain ⟨r1, r2, r3, r4⟩ := L6.ret hT6
      have z0 := r4.cell 0; have z1 := r4.cell 1; have z2 := r4.cell 2; have z3 := r4.cell 3
      exact bodyPost_ret (v := .agg #[.int .i64 op, .string s, .int .i64 n, .slice (some ⟨g, 0, none⟩) l cp]) (by simp [results, Try.results11, go_sem, z0, z1, z2, z3]) rfl ⟨_, _, rfl, r1, by omega, r2, r3⟩
    rcases Decidable.em (6 ≤ y) with hy | hy6
    · have y0 : (y == 0) = false := by simp; omega
      have y1 : (y == 1) = false := by simp; omega
      have y2 : (y == 2) = false := by simp; omega
      have y3 : (y == 3) = false := by simp; omega
      have y4 : (y == 4) = false := by simp; omega
      have y5 : (y == 5) = false := by simp; omega
      go_wp2_with fail
      obtain ⟨r1, r2, r3, r4⟩ := LZ.ret (NdS.mono (fun b hb _ => hb.1) _ _ HT4.out.toS)
      have z0 := r4.cell 0; have z1 := r4.cell 1; have z2 := r4.cell 2; have z3 := r4.cell 3
      exact bodyPost_ret (v := .agg #[.int .i64 op, .string s, .int .i64 n, .slice (some ⟨g, 0, none⟩) l cp]) (by simp [results, Try.results11, go_sem, z0, z1, z2, z3]) rfl ⟨_, _, rfl, r1, by omega, r2, r3⟩
    rcases Decidable.em (y = 0) with hy | hy0'
    · have y0 : (y == 0) = true := by simp [hy]
      clear hy
      have LD := LZ.kept (Below.refl _ w4).drew
      have hA := l1Below_ok c a len cap z 30 (by decide) _ LD.cur
      go_upto_region 7 with fail
      go_region_with (go_at_call 17; refine hA.mono ?_; rintro e w5 ⟨x5, rfl, hx5, hx6, hk5, hC5⟩; have hx7 := hx6 (by decide); clear hx6; have L5 := LD.step hk5 hC5; have b5 := L5.box; have v0 := b5.cell 0; have v1 := b5.cell 1; have v2 := b5.cell 2; have v3 := b5.cell 3; have w0 := b5.frozen 0; have r5 := L5.res; have d0 := r5.cell 0; have d1 := r5.cell 1; have d2 := r5.cell 2; have d3 := r5.cell 3; have g0 := r5.frozen 0; have g1 := r5.frozen 1; have g2 := r5.frozen 2; have g3 := r5.frozen 3; simp at v0 v1 v2 v3 d0 d1 d2 d3; have G5 : Cells w5 g 26 cur := Cells.keeps (show Cells w4.drew g 26 cur from hgc) hk5 (by omega); have i0 := (G5.cell (k * 4)).trans e0; have i1 := (G5.cell (k * 4 + 1)).trans e1; have i2 := (G5.cell (k * 4 + 2)).trans e2; have i3 := (G5.cell (k * 4 + 3)).trans e3; have j0 := G5.frozen (k * 4); have j1 := G5.frozen (k * 4 + 1); have hg5 := G5.lt)
      all_goals (
        obtain ⟨t6, L6, hT6, hz6⟩ := L5.kid ((Keeps.refl _ _).drew.trans hk5) hgc hXs hlo hgX hbl hgb HKT.out HUP.out (x5 - 1) n1 s1 hsm1 0 (by omega) (.int .i64 (x5 - 1)) (Array.getElem?_setIfInBounds_self_of_lt (i := k * 4) (by omega)) (by rw [Array.getElem?_setIfInBounds_ne (by omega)]; exact e1) (by rw [Array.getElem?_setIfInBounds_ne (by omega)]; exact e2) (by rw [Array.getElem?_setIfInBounds_ne (by omega)]; exact e3)
        simp only [Nat.add_zero] at L6 hT6
        go_wp2_with fail
        obtain ⟨r1, r2, r3, r4⟩ := L6.ret hT6
        have z0 := r4.cell 0; have z1 := r4.cell 1; have z2 := r4.cell 2; have z3 := r4.cell 3
        exact bodyPost_ret (v := .agg #[.int .i64 op, .string s, .int .i64 n, .slice (some ⟨g, 0, none⟩) l cp]) (by simp [results, Try.results11, go_sem, z0, z1, z2, z3]) rfl ⟨_, _, rfl, r1, by omega, r2, r3⟩)
    rcases Decidable.em (y = 1) with hy | hy1'
    · have y0 : (y == 0) = false := by simp [hy]
      have y1 : (y == 1) = true := by simp [hy]
      clear hy
      have LD := LZ.kept (Below.refl _ w4).drew
      have kA : Kept w4.drew (w4.drew.alloc (.cells #[.string { data := #[] }, .string { data := #[120] }, .string { data := #[108, 101, 116] }, .string { data := #[112, 114, 111, 116, 111] }, .string { data := #[97, 32, 98] }, .string { data := #[49] }] 9)) := Kept.alloc (Below.refl _ _) _
      have LA := LD.kept kA
      have hcl4 := LZ.cur.lt
      have hA := l1Pick_any c a len cap z w4.drew.heap.size 6 5 (by omega) (by omega) _ LA.cur (by show w4.heap.size ≠ c; omega) (fun i hi => by
        rw [(Cells.new w4.drew _ _).cell i]
        match i, hi with
        | 0, _ => exact ⟨_, rfl, by decide +kernel⟩
        | 1, _ => exact ⟨_, rfl, by decide +kernel⟩
        | 2, _ => exact ⟨_, rfl, by decide +kernel⟩
        | 3, _ => exact ⟨_, rfl, by decide +kernel⟩
        | 4, _ => exact ⟨_, rfl, by decide +kernel⟩
        | 5, _ => exact ⟨_, rfl, by decide +kernel⟩
        | n + 6, h => exact absurd h (by omega))
      have u3 : (w4.drew.alloc (.cells #[.string { data := #[] }, .string { data := #[120] }, .string { data := #[108, 101, 116] }, .string { data := #[112, 114, 111, 116, 111] }, .string { data := #[97, 32, 98] }, .string { data := #[49] }] 9)).cell? ⟨X, 3, none⟩ = some (.slice (some ⟨g, 0, none⟩) l cp) := LA.box.cell 3
      go_upto_region 9 with fail
      go_region_with (go_at_call 18; refine hA.mono ?_; rintro e w5 ⟨x5, rfl, hx5, hk5, hC5⟩; have L5 := LA.step hk5 hC5; have b5 := L5.box; have v0 := b5.cell 0; have v1 := b5.cell 1; have v2 := b5.cell 2; have v3 := b5.cell 3; have w0 := b5.frozen 0; have r5 := L5.res; have d0 := r5.cell 0; have d1 := r5.cell 1; have d2 := r5.cell 2; have d3 := r5.cell 3; have g0 := r5.frozen 0; have g1 := r5.frozen 1; have g2 := r5.frozen 2; have g3 := r5.frozen 3; simp at v0 v1 v2 v3 d0 d1 d2 d3; have G5 : Cells w5 g 26 cur := Cells.keeps (Cells.kept (show Cells w4.drew g 26 cur from hgc) kA) hk5 (by omega); have i0 := (G5.cell (k * 4)).trans e0; have i1 := (G5.cell (k * 4 + 1)).trans e1; have i2 := (G5.cell (k * 4 + 2)).trans e2; have i3 := (G5.cell (k * 4 + 3)).trans e3; have j0 := G5.frozen (k * 4); have j1 := G5.frozen (k * 4 + 1); have hg5 := G5.lt)
      all_goals (
        obtain ⟨t6, L6, hT6, hz6⟩ := L5.kid (((Keeps.refl _ _).drew.trans kA.keeps).trans hk5) hgc hXs hlo hgX hbl hgb HKT.out HUP.out op1 n1 x5 (Nat.le_trans hx5 (by decide)) 1 (by omega) (.string x5) (by rw [Array.getElem?_setIfInBounds_ne (by omega)]; exact e0) (by rw [Array.getElem?_setIfInBounds_self_of_lt (by omega)]) (by rw [Array.getElem?_setIfInBounds_ne (by omega)]; exact e2) (by rw [Array.getElem?_setIfInBounds_ne (by omega)]; exact e3)
        go_wp2_with fail
        obtain ⟨r1, r2, r3, r4⟩ := L6.ret hT6
        have z0 := r4.cell 0; have z1 := r4.cell 1; have z2 := r4.cell 2; have z3 := r4.cell 3
        exact bodyPost_ret (v := .agg #[.int .i64 op, .string s, .int .i64 n, .slice (some ⟨g, 0, none⟩) l cp]) (by simp [results, Try.results11, go_sem, z0, z1, z2, z3]) rfl ⟨_, _, rfl, r1, by omega, r2, r3⟩)
    rcases Decidable.em (y = 5) with hy | hy5'
    · have y0 : (y == 0) = false := by simp [hy]
      have y1 : (y == 1) = false := by simp [hy]
      have y2 : (y == 2) = false := by simp [hy]
      have y3 : (y == 3) = false := by simp [hy]
      have y4 : (y == 4) = false := by simp [hy]
      have y5 : (y == 5) = true := by simp [hy]
      clear hy
      have LD := LZ.kept (Below.refl _ w4).drew
      have hA := l1DrawNum_ok c a len cap z _ LD.cur
      have hcl4 := LZ.cur.lt
      obtain ⟨xs, hR4⟩ := HT4.out.row
      have HR4 : Hid (RowX w4 (fun b => w.heap.size + 1 ≤ b ∧ b < X) (.slice (some ⟨g, 0, none⟩) l cp) ks xs) := hR4
      have hll := len_sizes ks
      have hz2' := hz
      simp only [Nd.size] at hz2'
      have D0 := LD.box.cell 3
      simp at D0
      clear hR4
      go_upto_region 20 with fail
      go_region_law (first
        | (refine step_callN (by rfl) (by go_simp; done) hA ?_; rintro e w5 ⟨x5, rfl, hx5, hk5, hC5⟩; refine ⟨_, rfl, ?_⟩; have L5 := LD.step hk5 hC5; have v3 := L5.box.cell 3; simp at v3; have La := (L5.kept (Kept.alloc (Below.refl _ w5) (.cells #[.int .i64 10, .string ⟨#[]⟩, .int .i64 x5, .slice none 0 0] 26))); have Lb := La.kept (Kept.alloc (Below.refl _ _) (.cells #[.int .i64 9, .string ⟨#[]⟩, .int .i64 0, .slice (some ⟨w5.heap.size, 0, none⟩) 1 1] 26)); have v4 := La.box.cell 3; have v5 := Lb.box.cell 3; have HRb : Hid (RowX ((w5.alloc (.cells #[.int .i64 10, .string ⟨#[]⟩, .int .i64 x5, .slice none 0 0] 26)).alloc (.cells #[.int .i64 9, .string ⟨#[]⟩, .int .i64 0, .slice (some ⟨w5.heap.size, 0, none⟩) 1 1] 26)) (fun b => w.heap.size + 1 ≤ b ∧ b < X) (.slice (some ⟨g, 0, none⟩) l cp) ks xs) := (HR4.out.on ((Stays.keeps ((Keeps.refl _ _).drew.trans hk5) (by omega)).trans ((Stays.kept (Kept.alloc (Below.refl _ w5) _) _).trans (Stays.kept (Kept.alloc (Below.refl _ _) _) _)))); have hnw := news_of (w5.alloc (.cells #[.int .i64 10, .string ⟨#[]⟩, .int .i64 x5, .slice none 0 0] 26)) 26 #[.int .i64 9, .string ⟨#[]⟩, .int .i64 0, .slice (some ⟨w5.heap.size, 0, none⟩) 1 1]; simp only [World.size_alloc] at hnw)
        | (refine step_append_lies _ (by rfl) _ _ 24 (by rfl) 0 26 i0 _ 4 56 Try.underlying24 hi hz0 hz1 hz2 rfl (by omega) (.slice (some ⟨g, 0, none⟩) l cp) l xs (by rfl) (hkl2 ▸ HRb.out.1) ⟨w5.heap.size + 1, 0, none⟩ 1 1 [.int .i64 9, .string ⟨#[]⟩, .int .i64 0, .slice (some ⟨w5.heap.size, 0, none⟩) 1 1] (by rfl) (by rfl) hnw (by simp [Value.oneCell']) (by omega) (by unfold maxLen; omega) (by omega) (by omega) (w5.heap.size + 2) (by simp) ?_; intro gg cg w9 hown1 hgrow hat hlt9; have b9 : Cells w9 X 26 #[.int .i64 op, .string s, .int .i64 n, .slice (some ⟨g, 0, none⟩) l cp] := (hgrow.block _ Lb.box.lt (fun e => by have := HRb.out.2.1 _ e.symm; omega)).trans Lb.box; have dd := b9.cell 3; have ff := b9.frozen 3; have l9 := b9.lt))
      all_goals (
        have hXl := L5.box.lt
        have hs5 := hk5.size
        have hgl5 : g < w5.heap.size := by omega
        have hN := NdS.one (W := w5) (S := fun b => (w.heap.size + 1 ≤ b ∧ b ≠ X) ∧ (Value.slice (some ⟨g, 0, none⟩) l cp).ownBlock ≠ some b) (NdS.leaf w5 _ 10 x5 ⟨#[]⟩ (by decide)) ⟨⟨by omega, by omega⟩, by simp [Value.ownBlock]; omega⟩ 9 0 ⟨#[]⟩ (by decide)
        obtain ⟨L9, hr9⟩ := Lb.app HRb.out (NdS.stay (Stays.kept (Kept.alloc (Below.refl _ _) _) _) _ _ hN) (v' := .slice (some ⟨gg, 0, none⟩) (l + 1) cg) (by rw [hkl2]; exact hown1) hgrow (hat.elim .inl (fun h => .inr (by rw [h]; simp [Value.ownBlock])))
        have r9 : Cells w9 w.heap.size 26 zeroN := (hgrow.block _ Lb.res.lt (fun e => by have := HRb.out.2.1 _ e.symm; omega)).trans Lb.res
        have s0 := b9.cell 0; have s1' := b9.cell 1; have s2 := b9.cell 2
        have d0 := r9.cell 0; have d1 := r9.cell 1; have d2 := r9.cell 2; have d3 := r9.cell 3; have g0 := r9.frozen 0; have g1 := r9.frozen 1; have g2 := r9.frozen 2; have g3 := r9.frozen 3
        simp at s0 s1' s2 dd d0 d1 d2 d3
        clear hN Lb La L5 LD
        go_wp2_with fail
        obtain ⟨r1, r2, r3, r4⟩ := L9.ret (NdS.mono (fun b hb _ => hb.1) _ _ (hr9.node op n s hsm))
        have z0 := r4.cell 0; have z1 := r4.cell 1; have z2 := r4.cell 2; have z3 := r4.cell 3
        exact bodyPost_ret (v := .agg #[.int .i64 op, .string s, .int .i64 n, .slice (some ⟨gg, 0, none⟩) (l + 1) cg]) (by simp [results, Try.results11, go_sem, z0, z1, z2, z3]) rfl ⟨_, _, rfl, r1, (by simp only [Nd.size, sizes_app, sizesN]; omega), r2, r3⟩)
    have hy : y = 3 := by omega
    have y0 : (y == 0) = false := by simp [hy]
    have y1 : (y == 1) = false := by simp [hy]
    have y2 : (y == 2) = false := by simp [hy]
    have y3 : (y == 3) = true := by simp [hy]
    clear hy
    have hcl4 := LZ.cur.lt
    obtain ⟨ks1, rfl⟩ : ∃ ks1, t1 = .mk op1 s1 n1 ks1 := by
      have ht := HKT.out
      cases ht with
      | leaf _ => exact ⟨_, rfl⟩
      | node _ _ _ _ _ _ _ _ _ _ _ _ _ _ _ _ _ _ _ _ => exact ⟨_, rfl⟩
    obtain ⟨xs1, hR1⟩ := HKT.out.row
    obtain ⟨ao1', c1', rfl⟩ := hR1.row.slice
    have HR1 : Hid (RowX w4 (fun b => bl ≤ b ∧ b < bh) (.slice ao1' ks1.length c1') ks1 xs1) := hR1
    have hll := len_sizes ks1
    have hz2' := hts
    simp only [Nd.size] at hz2'
    have hz3' := hz
    simp only [Nd.size] at hz3'
    clear hR1
    go_upto_region 13 with fail
    go_region
    · have kB : Kept w4 (w4.alloc (.cells #[.bool false] 4)).drew := (Kept.alloc (Below.refl _ w4) _).drew
      generalize (w4.alloc (.cells #[.bool false] 4)).drew = wB at kB ⊢
      have kN : Kept wB (wB.alloc (.cells #[.int .i64 12, .string ⟨#[]⟩, .int .i64 0, .slice none 0 0] 26)) := Kept.alloc (Below.refl _ _) _
      have LB := LZ.kept kB
      have u3 := LB.box.cell 3; have u5 : (wB.alloc (.cells #[.int .i64 12, .string ⟨#[]⟩, .int .i64 0, .slice none 0 0] 26)).cell? ⟨X, 3, none⟩ = some (.slice (some ⟨g, 0, none⟩) l cp) := (LB.kept kN).box.cell 3
      simp at u3
      have GB : Cells wB g 26 cur := Cells.kept (show Cells w4 g 26 cur from hgc) kB
      have GA := GB.kept kN
      have p3 := (GB.cell (k * 4 + 3)).trans e3; have p5 := (GA.cell (k * 4 + 3)).trans e3
      have p6 := GA.frozen (k * 4 + 3)
      have lB := GB.lt
      have kx : Kept w4 (wB.alloc (.cells #[.int .i64 12, .string ⟨#[]⟩, .int .i64 0, .slice none 0 0] 26)).drew := (kB.trans kN).drew
      have LN := LZ.kept kx
      have GN : Cells (wB.alloc (.cells #[.int .i64 12, .string ⟨#[]⟩, .int .i64 0, .slice none 0 0] 26)).drew g 26 cur := GA
      have HRb : Hid (RowX (wB.alloc (.cells #[.int .i64 12, .string ⟨#[]⟩, .int .i64 0, .slice none 0 0] 26)).drew (fun b => bl ≤ b ∧ b < bh) (.slice ao1' ks1.length c1') ks1 xs1) := HR1.out.on (Stays.kept kx _)
      have hnw : ∀ j u, [Value.int .i64 12, .string ⟨#[]⟩, .int .i64 0, .slice none 0 0][j]? = some u → (wB.alloc (.cells #[.int .i64 12, .string ⟨#[]⟩, .int .i64 0, .slice none 0 0] 26)).drew.cell? ((⟨wB.heap.size, 0, none⟩ : Addr).add j) = some u := news_of wB 26 #[.int .i64 12, .string ⟨#[]⟩, .int .i64 0, .slice none 0 0]
      have hsB := kB.size
      go_upto_region 16 with fail
      go_region_law (refine step_append_lies _ (by rfl) _ _ 24 (by rfl) 0 26 i0 _ 4 56 Try.underlying24 hi hz0 hz1 hz2 rfl (by omega) (.slice ao1' ks1.length c1') ks1.length xs1 (by rfl) HRb.out.1 ⟨wB.heap.size, 0, none⟩ 1 1 [.int .i64 12, .string ⟨#[]⟩, .int .i64 0, .slice none 0 0] (by rfl) (by rfl) hnw (by simp [Value.oneCell']) (by omega) (by unfold maxLen; omega) (by omega) (by omega) (wB.heap.size + 1) (by simp) ?_; intro gg cg w9 hown1 hgrow hat hlt9; have RL9 : Hid (∀ q, some q = (Value.slice ao1' ks1.length c1').ownBlock → bl ≤ q ∧ q < bh) := (fun q e => HRb.out.2.1 _ e.symm); have G9 : Cells w9 g 26 cur := (hgrow.block _ GN.lt (fun e => by have := RL9.out _ e; omega)).trans GN; have p7 := (G9.cell (k * 4 + 3)).trans e3; have p8 := G9.frozen (k * 4 + 3); have l9 := G9.lt; have b9 : Cells w9 X 26 #[.int .i64 op, .string s, .int .i64 n, .slice (some ⟨g, 0, none⟩) l cp] := (hgrow.block _ LN.box.lt (fun e => by have := RL9.out _ e; omega)).trans LN.box; have dd3 := b9.cell 3; have df3 := b9.frozen 3; have lb9 := b9.lt)
      all_goals (
        have r9 : Cells w9 w.heap.size 26 zeroN := (hgrow.block _ LN.res.lt (fun e => by have := RL9.out _ e; omega)).trans LN.res
        have s0 := b9.cell 0; have s1' := b9.cell 1; have s2 := b9.cell 2; have s3 := b9.cell 3
        have d0 := r9.cell 0; have d1 := r9.cell 1; have d2 := r9.cell 2; have d3 := r9.cell 3; have g0 := r9.frozen 0; have g1 := r9.frozen 1; have g2 := r9.frozen 2; have g3 := r9.frozen 3
        simp at s0 s1' s2 s3 d0 d1 d2 d3
        have hav : (Value.slice ao1' ks1.length c1').ownBlock = (Value.slice (some ⟨gg, 0, none⟩) (ks1.length + 1) cg).ownBlock ∨ (Value.slice (some ⟨gg, 0, none⟩) (ks1.length + 1) cg).ownBlock = some wB.heap.size.succ := hat.elim .inl (fun h => .inr (by rw [h]; simp [Value.ownBlock]))
        have hgg : (bl ≤ gg ∧ gg < bh) ∨ gg = wB.heap.size + 1 := hat.elim (fun e => .inl (RL9.out _ e.symm)) .inr
        have hb9 : Hid (∀ q, q ≤ X → ¬ (bl ≤ q ∧ q < bh) → w9.heap[q]? = w4.heap[q]?) := fun q hq hn => (hgrow.block q (by have := kx.size; omega) (fun e => hn (RL9.out _ e))).trans (kx.block q (by omega))
        have hs9 := Nat.le_trans kx.size hgrow.size
        have hS9 : gg ≠ g ∧ gg ≠ X ∧ gg ≠ w.heap.size := by omega
        obtain ⟨ng, nX', nW'⟩ := hS9
        have hr9 := (HRb.out.add1 (lo' := w.heap.size + 1) (q := g) hbl hgb GN.lt (by have := GN.lt; omega) (NdS.leaf _ _ 12 0 ⟨#[]⟩ (by decide)) hown1 hgrow (hav.elim .inl (fun h => .inr (by rw [h]; simp))) (k * 4 + 3) (.slice (some ⟨gg, 0, none⟩) (ks1.length + 1) cg))
        obtain ⟨t6, L6, hT6, hz6⟩ := LZ.kidrow (W := w9.setCell ⟨g, k * 4 + 3, none⟩ (.slice (some ⟨gg, 0, none⟩) (ks1.length + 1) cg)) ⟨hgrow.os.trans kx.os, hgrow.tape.trans kx.tape, hgrow.output.trans kx.output⟩ (by simpa [World.setCell] using hs9) (fun q x1 x2 x3 => (Below.heap_setCell _ _ _ _ x2).trans (hb9.out q x1 x3)) (G9.set _ _) hr9 hlo hgX hbl hbh HUP.out hsm1 hcs e0 e1 e2
        clear LB LN hav hat
        go_wp2_with fail
        obtain ⟨r1, r2, r3, r4⟩ := L6.ret hT6
        have z0 := r4.cell 0; have z1 := r4.cell 1; have z2 := r4.cell 2; have z3 := r4.cell 3
        exact bodyPost_ret (v := .agg #[.int .i64 op, .string s, .int .i64 n, .slice (some ⟨g, 0, none⟩) l cp]) (by simp [results, Try.results11, go_sem, z0, z1, z2, z3]) rfl ⟨_, _, rfl, r1, (by have hq := sizes_app ks1 (.mk 12 ⟨#[]⟩ 0 []); simp only [Nd.size, sizesN] at hz6 hq hz ⊢; omega), r2, r3⟩)
    · have kB : Kept w4 (w4.alloc (.cells #[.bool true] 4)).drew := (Kept.alloc (Below.refl _ w4) _).drew
      generalize (w4.alloc (.cells #[.bool true] 4)).drew = wB at kB ⊢
      have kN : Kept wB (wB.alloc (.cells #[.int .i64 0, .string ⟨#[]⟩, .int .i64 0, .slice none 0 0] 26)) := Kept.alloc (Below.refl _ _) _
      have LB := LZ.kept kB
      have u3 := LB.box.cell 3; have u5 : (wB.alloc (.cells #[.int .i64 0, .string ⟨#[]⟩, .int .i64 0, .slice none 0 0] 26)).cell? ⟨X, 3, none⟩ = some (.slice (some ⟨g, 0, none⟩) l cp) := (LB.kept kN).box.cell 3
      simp at u3
      have GB : Cells wB g 26 cur := Cells.kept (show Cells w4 g 26 cur from hgc) kB
      have GA := GB.kept kN
      have p3 := (GB.cell (k * 4 + 3)).trans e3; have p5 := (GA.cell (k * 4 + 3)).trans e3
      have p6 := GA.frozen (k * 4 + 3)
      have lB := GB.lt
      have kx : Kept w4 (wB.alloc (.cells #[.int .i64 0, .string ⟨#[]⟩, .int .i64 0, .slice none 0 0] 26)) := kB.trans kN
      have LN := LZ.kept kx
      have GN : Cells (wB.alloc (.cells #[.int .i64 0, .string ⟨#[]⟩, .int .i64 0, .slice none 0 0] 26)) g 26 cur := GA
      have HRb : Hid (RowX (wB.alloc (.cells #[.int .i64 0, .string ⟨#[]⟩, .int .i64 0, .slice none 0 0] 26)) (fun b => bl ≤ b ∧ b < bh) (.slice ao1' ks1.length c1') ks1 xs1) := HR1.out.on (Stays.kept kx _)
      have hnw : ∀ j u, [Value.int .i64 0, .string ⟨#[]⟩, .int .i64 0, .slice none 0 0][j]? = some u → (wB.alloc (.cells #[.int .i64 0, .string ⟨#[]⟩, .int .i64 0, .slice none 0 0] 26)).cell? ((⟨wB.heap.size, 0, none⟩ : Addr).add j) = some u := news_of wB 26 #[.int .i64 0, .string ⟨#[]⟩, .int .i64 0, .slice none 0 0]
      have hsB := kB.size
      go_upto_region 21 with (at_builtin; refine wpList_append_lies _ rfl _ _ 24 rfl 0 26 i0 _ 4 56 Try.underlying24 hi hz0 hz1 hz2 rfl (by omega) (.slice ao1' ks1.length c1') ks1.length xs1 rfl HRb.out.1 ⟨wB.heap.size, 0, none⟩ 1 1 [.int .i64 0, .string ⟨#[]⟩, .int .i64 0, .slice none 0 0] rfl rfl hnw (by simp [Value.oneCell']) (by omega) (by unfold maxLen; omega) (by omega) (by omega) (wB.heap.size + 1) (by simp) ?_; intro gg cg w9 hown1 hgrow hat hlt9; have RL9 : Hid (∀ q, some q = (Value.slice ao1' ks1.length c1').ownBlock → bl ≤ q ∧ q < bh) := (fun q e => HRb.out.2.1 _ e.symm); have G9 : Cells w9 g 26 cur := (hgrow.block _ GN.lt (fun e => by have := RL9.out _ e; omega)).trans GN; have p7 := (G9.cell (k * 4 + 3)).trans e3; have p8 := G9.frozen (k * 4 + 3); have l9 := G9.lt; obtain ⟨cur9, C9, o0, o1, o2, o3⟩ := own_last hown1; have t0 := (C9.cell (ks1.length * 4)).trans o0; have t1' := (C9.cell (ks1.length * 4 + 1)).trans o1; have t2 := (C9.cell (ks1.length * 4 + 2)).trans o2; have t3 := (C9.cell (ks1.length * 4 + 3)).trans o3; have t4 := C9.frozen (ks1.length * 4); have t5 := C9.frozen (ks1.length * 4 + 1); have t6' := C9.frozen (ks1.length * 4 + 2); have t7 := C9.frozen (ks1.length * 4 + 3); have qk1 : (ks1.length : Int) < (ks1.length : Int) + 1 := (by omega); have b9 : Cells w9 X 26 #[.int .i64 op, .string s, .int .i64 n, .slice (some ⟨g, 0, none⟩) l cp] := (hgrow.block _ LN.box.lt (fun e => by have := RL9.out _ e; omega)).trans LN.box; have r9 : Cells w9 w.heap.size 26 zeroN := (hgrow.block _ LN.res.lt (fun e => by have := RL9.out _ e; omega)).trans LN.res; have s0 := b9.cell 0; have s1' := b9.cell 1; have s2 := b9.cell 2; have s3 := b9.cell 3; have d0 := r9.cell 0; have d1 := r9.cell 1; have d2 := r9.cell 2; have d3 := r9.cell 3; have g0 := r9.frozen 0; have g1 := r9.frozen 1; have g2 := r9.frozen 2; have g3 := r9.frozen 3; simp at s0 s1' s2 s3 d0 d1 d2 d3; have hgg : (bl ≤ gg ∧ gg < bh) ∨ gg = wB.heap.size + 1 := (hat.elim (fun e => .inl (RL9.out _ e.symm)) .inr); have ng : gg ≠ g := (by omega); have nX' : gg ≠ X := (by omega); have nW' : gg ≠ w.heap.size := (by omega))
      have hav : (Value.slice ao1' ks1.length c1').ownBlock = (Value.slice (some ⟨gg, 0, none⟩) (ks1.length + 1) cg).ownBlock ∨ (Value.slice (some ⟨gg, 0, none⟩) (ks1.length + 1) cg).ownBlock = some wB.heap.size.succ := hat.elim .inl (fun h => .inr (by rw [h]; simp [Value.ownBlock]))
      have hb9 : Hid (∀ q, q ≤ X → ¬ (bl ≤ q ∧ q < bh) → w9.heap[q]? = w4.heap[q]?) := fun q hq hn => (hgrow.block q (by have := kx.size; omega) (fun e => hn (RL9.out _ e))).trans (kx.block q (by omega))
      have hs9 := Nat.le_trans kx.size hgrow.size
      have hr9 := (HRb.out.add1 (lo' := w.heap.size + 1) (q := g) hbl hgb GN.lt (by have := GN.lt; omega) (NdS.leaf _ _ 0 0 ⟨#[]⟩ (by decide)) hown1 hgrow (hav.elim .inl (fun h => .inr (by rw [h]; simp))) (k * 4 + 3) (.slice (some ⟨gg, 0, none⟩) (ks1.length + 1) cg))
      have hr10 := hr9.relast 12 0 ⟨#[]⟩ (by decide)
      obtain ⟨W10, hW10⟩ : ∃ W10, ((((w9.setCell ⟨g, k * 4 + 3, none⟩ (.slice (some ⟨gg, 0, none⟩) (ks1.length + 1) cg)).setCell ⟨gg, ks1.length * 4, none⟩ (.int .i64 12)).setCell ⟨gg, ks1.length * 4 + 1, none⟩ (.string ⟨#[]⟩)).setCell ⟨gg, ks1.length * 4 + 2, none⟩ (.int .i64 0)).setCell ⟨gg, ks1.length * 4 + 3, none⟩ (.slice none 0 0) = W10 := ⟨_, rfl⟩
      rw [hW10] at hr10
      have hWq : ∀ q, q ≠ gg → W10.heap[q]? = (w9.setCell ⟨g, k * 4 + 3, none⟩ (.slice (some ⟨gg, 0, none⟩) (ks1.length + 1) cg)).heap[q]? := fun q ne => by
        rw [← hW10]
        exact (Below.heap_setCell _ _ _ _ ne).trans ((Below.heap_setCell _ _ _ _ ne).trans ((Below.heap_setCell _ _ _ _ ne).trans (Below.heap_setCell _ _ _ _ ne)))
      have hWo : W10.os = w9.os ∧ W10.tape = w9.tape ∧ W10.output = w9.output := by rw [← hW10]; exact ⟨rfl, rfl, rfl⟩
      have hWs : w9.heap.size ≤ W10.heap.size := by rw [← hW10]; simp [World.setCell]
      have hWg : W10.heap[g]? = some (.cells (cur.setIfInBounds (k * 4 + 3) (.slice (some ⟨gg, 0, none⟩) (ks1.length + 1) cg)) 26 (0, 0)) := (hWq g ng.symm).trans (G9.set (k * 4 + 3) _)
      simp only [hW10]
      have hWb : ∀ q, q ≤ X → q ≠ g → ¬ (bl ≤ q ∧ q < bh) → W10.heap[q]? = w4.heap[q]? := fun q x1 x2 x3 => (hWq q (by omega)).trans ((Below.heap_setCell _ _ _ _ x2).trans (hb9.out q x1 x3))
      clear hW10
      obtain ⟨t6, L6, hT6, hz6⟩ := LZ.kidrow (W := W10) (v' := .slice (some ⟨gg, 0, none⟩) (ks1.length + 1) cg) ⟨hWo.1.trans (hgrow.os.trans kx.os), hWo.2.1.trans (hgrow.tape.trans kx.tape), hWo.2.2.trans (hgrow.output.trans kx.output)⟩ (Nat.le_trans hs9 hWs) hWb hWg hr10 hlo hgX hbl hbh HUP.out hsm1 hcs e0 e1 e2
      have bz := L6.box; have rz := L6.res
      have x0 := bz.cell 0; have x1 := bz.cell 1; have x2 := bz.cell 2; have x3 := bz.cell 3; have x4 := rz.cell 0; have x5 := rz.cell 1; have x6 := rz.cell 2; have x7 := rz.cell 3; have x8 := rz.frozen 0; have x9 := rz.frozen 1; have x10 := rz.frozen 2; have x11 := rz.frozen 3
      simp at x0 x1 x2 x3 x4 x5 x6 x7
      clear hWq hWo hWs hWg hWb hr10 hr9 hav hat hgg C9 G9 hown1 hgrow
      go_wp2_with fail
      obtain ⟨r1, r2, r3, r4⟩ := L6.ret hT6
      have z0 := r4.cell 0; have z1 := r4.cell 1; have z2 := r4.cell 2; have z3 := r4.cell 3
      exact bodyPost_ret (v := .agg #[.int .i64 op, .string s, .int .i64 n, .slice (some ⟨g, 0, none⟩) l cp]) (by simp [results, Try.results11, go_sem, z0, z1, z2, z3]) rfl ⟨_, _, rfl, r1, (by have hq := sizes_app ks1 (.mk 12 ⟨#[]⟩ 0 []); simp only [Nd.size, sizesN] at hz6 hq hz ⊢; omega), r2, r3⟩
end Go.Proofs.Ytdcjfeihcafndaa
