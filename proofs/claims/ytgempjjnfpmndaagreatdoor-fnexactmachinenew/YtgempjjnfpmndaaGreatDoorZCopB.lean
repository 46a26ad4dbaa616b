/-
  A copy of a unit, all of it in memory of its own (chapter 17): impl.copyUnit.
-/
import Derived.Deep.RegionWith
import Derived.Deep.RegionHeld3
import Derived.Deep.CutRange
import Derived.Test.YtgempjjnfpmndaaGreatDoorZCopA
import Derived.Test.YtgempjjnfpmndaaGreatDoorGrqMx
import Derived.Test.YtgempjjnfpmndaaGreatDoorZMchV
namespace Go.Proofs.YtgempjjnfpmndaaGreatDoor
open Go.RowKit
set_option linter.unusedSimpArgs false
set_option linter.unusedVariables false
/-- Steps at the head of a block. -/
def StpB (W : World) (x : Nat) (ss : List Stp) : Prop := (∃ cur, Cells W x 131 cur) ∧ ∀ (i : Nat) (s : Stp), ss[i]? = some s → W.cell? ⟨x, i * 3, none⟩ = some (.int .i64 s.1) ∧ W.cell? ⟨x, i * 3 + 1, none⟩ = some (.int .i64 s.2.1) ∧ W.cell? ⟨x, i * 3 + 2, none⟩ = some (.int .i64 s.2.2)
theorem StpB.lt {W : World} {x : Nat} {ss : List Stp} (h : StpB W x ss) : x < W.heap.size := by
  obtain ⟨⟨cur, hc⟩, _⟩ := h
  exact hc.lt
theorem StpB.block {W W' : World} {x : Nat} {ss : List Stp} (h : StpB W x ss) (hb : W'.heap[x]? = W.heap[x]?) : StpB W' x ss := by
  obtain ⟨⟨cur, hc⟩, h2⟩ := h
  refine ⟨⟨cur, hb.trans hc⟩, fun i s hs => ?_⟩
  obtain ⟨a, b, c⟩ := h2 i s hs
  simp only [World.cell?] at a b c ⊢
  rw [hb]
  exact ⟨a, b, c⟩
theorem StpB.kept {W W' : World} {x : Nat} {ss : List Stp} (h : StpB W x ss) (hk : Kept W W') : StpB W' x ss := h.block (hk.block x h.lt)
theorem StpB.stpsA {W : World} {x : Nat} {ss : List Stp} (h : StpB W x ss) : StpsA W (some ⟨x, 0, none⟩) ss := fun j s hs => by
  obtain ⟨a, b, c⟩ := h.2 j s hs
  exact ⟨x, 0, rfl, by rw [Nat.zero_add]; exact a, by rw [Nat.zero_add]; exact b, by rw [Nat.zero_add]; exact c⟩
theorem StpB.wrJ {W : World} {x : Nat} {ss : List Stp} (h : StpB W x ss) : WrJ W x 131 (ss.length * 3) := by
  obtain ⟨⟨cur, hc⟩, h2⟩ := h
  refine ⟨cur, hc, fun i hi => ?_⟩
  obtain ⟨s, hs⟩ : ∃ s, ss[i / 3]? = some s := ⟨_, List.getElem?_eq_getElem (by omega)⟩
  obtain ⟨a, b, c⟩ := h2 _ s hs
  rw [hc.cell] at a b c
  rcases (show i = i / 3 * 3 ∨ i = i / 3 * 3 + 1 ∨ i = i / 3 * 3 + 2 by omega) with e | e | e
  · rw [e]; exact ⟨_, a, noSl_int _ _⟩
  · rw [e]; exact ⟨_, b, noSl_int _ _⟩
  · rw [e]; exact ⟨_, c, noSl_int _ _⟩
/-- A unit in memory of one's own, each row in another block. -/
structure UntX (W : World) (lo g0 g1 : Nat) (xs cp : Nat → Nat) (cs : List Cod) (ts : List ByteArray) : Prop where
  i0 : lo ≤ g0 ∧ g0 < W.heap.size
  i1 : lo ≤ g1 ∧ g1 < W.heap.size
  ix : ∀ j, j < cs.length → lo ≤ xs j ∧ xs j < W.heap.size
  n01 : g0 ≠ g1
  x0 : ∀ j, j < cs.length → xs j ≠ g0
  x1 : ∀ j, j < cs.length → xs j ≠ g1
  inj : ∀ i j, i < cs.length → j < cs.length → xs i = xs j → i = j
  r : ∃ vs, Cells W g0 91 vs
  c : ∀ (j : Nat) (c : Cod), cs[j]? = some c → W.cell? ⟨g0, j * 3, none⟩ = some (.int .i64 c.n) ∧ W.cell? ⟨g0, j * 3 + 1, none⟩ = some (.int .i64 c.v) ∧ W.cell? ⟨g0, j * 3 + 2, none⟩ = some (.slice (some ⟨xs j, 0, none⟩) c.ss.length (cp j)) ∧ StpB W (xs j) c.ss
  t : StA W (some ⟨g1, 0, none⟩) ts
  w : WrJ W g1 9 ts.length
/-- Blocks from lo on lie as they lay. -/
structure Fro (lo : Nat) (W W' : World) : Prop where
  size : W.heap.size ≤ W'.heap.size
  block : ∀ j, lo ≤ j → j < W.heap.size → W'.heap[j]? = W.heap[j]?
theorem Fro.kept {lo : Nat} {W W' : World} (h : Kept W W') : Fro lo W W' := ⟨h.size, fun j _ hj => h.block j hj⟩
theorem Fro.tr {lo hi b : Nat} {W W' : World} (h : Tr lo hi W W') (hb : hi ≤ b) : Fro b W W' := ⟨h.size, fun j h1 h2 => h.block j h2 (by omega)⟩
theorem Fro.trans {lo : Nat} {a b c : World} (h : Fro lo a b) (k : Fro lo b c) : Fro lo a c := ⟨Nat.le_trans h.size k.size, fun j h1 h2 => (k.block j h1 (Nat.lt_of_lt_of_le h2 h.size)).trans (h.block j h1 h2)⟩
theorem Fro.cell {lo : Nat} {W W' : World} (k : Fro lo W W') {g i : Nat} {v : Value} (h : W.cell? ⟨g, i, none⟩ = some v) (hg : lo ≤ g) : W'.cell? ⟨g, i, none⟩ = some v := by
  have h2 := World.block_lt_of_cell? _ _ h
  have h3 := k.block g hg h2
  simp only [World.cell?] at h ⊢
  rw [h3]
  exact h
theorem Cells.fro {lo : Nat} {W W' : World} {B : Nat} {t : TypeId} {cs : Array Value} (h : Cells W B t cs) (k : Fro lo W W') (hB : lo ≤ B) : Cells W' B t cs := (k.block B hB h.lt).trans h
theorem UntX.fro {W W' : World} {lo g0 g1 : Nat} {xs cp : Nat → Nat} {cs : List Cod} {ts : List ByteArray} (h : UntX W lo g0 g1 xs cp cs ts) (k : Fro lo W W') : UntX W' lo g0 g1 xs cp cs ts := by
  have hs := k.size
  refine ⟨⟨h.i0.1, by have := h.i0.2; omega⟩, ⟨h.i1.1, by have := h.i1.2; omega⟩, fun j hj => ⟨(h.ix j hj).1, by have := (h.ix j hj).2; omega⟩, h.n01, h.x0, h.x1, h.inj, ?_, fun j c hc => ?_, fun j t ht => ?_, ?_⟩
  · obtain ⟨vs, hv⟩ := h.r
    exact ⟨vs, hv.fro k h.i0.1⟩
  · obtain ⟨a, b, d, e⟩ := h.c j c hc
    have hx := h.ix j (List.getElem?_eq_some_iff.1 hc).1
    exact ⟨k.cell a h.i0.1, k.cell b h.i0.1, k.cell d h.i0.1, e.block (k.block _ hx.1 hx.2)⟩
  · obtain ⟨b, off, e, hc⟩ := h.t j t ht
    cases e
    exact ⟨_, _, rfl, k.cell hc h.i1.1⟩
  · obtain ⟨vs, h1, h2⟩ := h.w
    exact ⟨vs, h1.fro k h.i1.1, h2⟩
theorem UntX.codsA {W : World} {lo g0 g1 : Nat} {xs cp : Nat → Nat} {cs : List Cod} {ts : List ByteArray} (h : UntX W lo g0 g1 xs cp cs ts) : CodsA W (some ⟨g0, 0, none⟩) cs := fun j c hc => by
  obtain ⟨a, b, d, e⟩ := h.c j c hc
  exact ⟨g0, 0, _, _, rfl, by rw [Nat.zero_add]; exact a, by rw [Nat.zero_add]; exact b, by rw [Nat.zero_add]; exact d, e.stpsA⟩
theorem UntX.mx {W : World} {lo g0 g1 : Nat} {xs cp : Nat → Nat} {cs : List Cod} {ts : List ByteArray} (h : UntX W lo g0 g1 xs cp cs ts) : CodMx W g0 cs xs cp := by
  obtain ⟨vs, hv⟩ := h.r
  refine ⟨⟨vs, hv, fun j hj => ?_⟩, fun j c hc => ?_, h.x0, h.inj⟩
  · obtain ⟨c, hc⟩ : ∃ c, cs[j]? = some c := ⟨_, List.getElem?_eq_getElem hj⟩
    obtain ⟨a, b, _, _⟩ := h.c j c hc
    rw [hv.cell] at a b
    exact ⟨_, _, a, noSl_int _ _, b, noSl_int _ _⟩
  · obtain ⟨_, _, d, e⟩ := h.c j c hc
    exact ⟨d, e.wrJ⟩
/-- A unit on its way: the steps of its first k codes are of one's own, the others lie where they lay. -/
structure UntK (W0 W : World) (lo g0 : Nat) (xs cp : Nat → Nat) (cs : List Cod) (k : Nat) : Prop where
  ix : ∀ j, j < k → lo ≤ xs j ∧ xs j < W.heap.size
  inj : ∀ i j, i < k → j < k → xs i = xs j → i = j
  r : ∃ vs, Cells W g0 91 vs
  c : ∀ (j : Nat) (c : Cod), cs[j]? = some c → W.cell? ⟨g0, j * 3, none⟩ = some (.int .i64 c.n) ∧ W.cell? ⟨g0, j * 3 + 1, none⟩ = some (.int .i64 c.v)
  d : ∀ (j : Nat) (c : Cod), j < k → cs[j]? = some c → W.cell? ⟨g0, j * 3 + 2, none⟩ = some (.slice (some ⟨xs j, 0, none⟩) c.ss.length (cp j)) ∧ StpB W (xs j) c.ss
  o : ∀ (j : Nat) (c : Cod), k ≤ j → cs[j]? = some c → ∃ x, W.cell? ⟨g0, j * 3 + 2, none⟩ = some (.slice (some ⟨x, 0, none⟩) c.ss.length c.ss.length) ∧ RowS W0 x c.ss c.ss.length
theorem UntK.next {W0 W W' : World} {lo g0 : Nat} {xs cp : Nat → Nat} {cs : List Cod} {k g c' : Nat} {c : Cod} (h : UntK W0 W lo g0 xs cp cs k) (hc : cs[k]? = some c) (hk : Kept W W') (hg : W.heap.size ≤ g) (hlo : lo ≤ W.heap.size) (hg0 : g0 < lo) (hS : StpB W' g c.ss) :
    UntK W0 (W'.setCell ⟨g0, k * 3 + 2, none⟩ (.slice (some ⟨g, 0, none⟩) c.ss.length c')) lo g0 (fun j => if j = k then g else xs j) (fun j => if j = k then c' else cp j) cs (k + 1) := by
  obtain ⟨vs, hv⟩ := h.r
  have hv' := hv.kept hk
  have hsz := hk.size
  have hgl := hS.lt
  have hot : ∀ (x : Nat) (ss : List Stp), StpB W' x ss → x ≠ g0 → StpB (W'.setCell ⟨g0, k * 3 + 2, none⟩ (.slice (some ⟨g, 0, none⟩) c.ss.length c')) x ss := fun x ss hx hne => hx.block (Below.heap_setCell _ _ _ _ hne)
  refine ⟨fun j hj => ?_, fun i j hi hj e => ?_, ⟨_, hv'.set _ _⟩, fun j d hd => ?_, fun j d hj hd => ?_, fun j d hj hd => ?_⟩
  · by_cases e : j = k
    · simp only [e, if_true]
      simp
      omega
    · have := h.ix j (by omega)
      simp only [e, if_false]
      simp
      omega
  · by_cases e1 : i = k
    · by_cases e2 : j = k
      · omega
      · simp only [e1, e2, if_true, if_false] at e
        have := (h.ix j (by omega)).2
        omega
    · by_cases e2 : j = k
      · simp only [e1, e2, if_true, if_false] at e
        have := (h.ix i (by omega)).2
        omega
      · simp only [e1, e2, if_false] at e
        exact h.inj i j (by omega) (by omega) e
  · obtain ⟨a, b⟩ := h.c j d hd
    exact ⟨cell_set_ne hv' (cellK hk a) (by omega), cell_set_ne hv' (cellK hk b) (by omega)⟩
  · by_cases e : j = k
    · subst e
      rw [hc] at hd
      cases hd
      simp only [if_true]
      obtain ⟨x, hx, _⟩ := h.o j c (Nat.le_refl _) hc
      exact ⟨cell_set_eq hv' (cellK hk hx), hot _ _ hS (by omega)⟩
    · simp only [e, if_false]
      obtain ⟨a, b⟩ := h.d j d (by omega) hd
      have := (h.ix j (by omega)).1
      exact ⟨cell_set_ne hv' (cellK hk a) (by omega), hot _ _ (b.kept hk) (by omega)⟩
  · obtain ⟨x, a, b⟩ := h.o j d (by omega) hd
    exact ⟨x, cell_set_ne hv' (cellK hk a) (by omega), b⟩
theorem UntK.re {W0 W W' : World} {lo lo' g0 : Nat} {xs cp xs' cp' : Nat → Nat} {cs : List Cod} (h : UntK W0 W lo g0 xs cp cs 0) (hb : W'.heap[g0]? = W.heap[g0]?) : UntK W0 W' lo' g0 xs' cp' cs 0 := by
  have hc : ∀ i v, W.cell? ⟨g0, i, none⟩ = some v → W'.cell? ⟨g0, i, none⟩ = some v := fun i v hv => by
    simp only [World.cell?] at hv ⊢
    rw [hb]
    exact hv
  obtain ⟨vs, hv⟩ := h.r
  refine ⟨fun j hj => by omega, fun i j hi => by omega, ⟨vs, hb.trans hv⟩, fun j c hc' => ?_, fun j c hj => by omega, fun j c hj hc' => ?_⟩
  · obtain ⟨a, b⟩ := h.c j c hc'
    exact ⟨hc _ _ a, hc _ _ b⟩
  · obtain ⟨x, a, b⟩ := h.o j c hj hc'
    exact ⟨x, hc _ _ a, b⟩
attribute [local go_sem] run_eql_strs_nil
set_option maxHeartbeats 8000000 in
set_option maxRecDepth 100000 in
theorem cloneSb_ok (w : World) (ad : Addr) (cap : Nat) (ts : List ByteArray) (hI : StA w (some ad) ts) (hl : ts.length ≤ 1048576) :
    Calls Tryz.prog 109 #[.slice (some ad) ts.length cap] w fun e w' => ∃ g c, e = .returned (slB g ts.length c) ∧ w.heap.size ≤ g ∧ StA w' (some ⟨g, 0, none⟩) ts ∧ WrJ w' g 9 ts.length ∧ Kept w w' := by
  obtain ⟨i0, hi, hz0, hz1, hz2⟩ := info_parts infoStr
  have hrow : (w.alloc (.cells #[] 9)).ownsRow w.heap.size 9 1 (.slice (some ⟨w.heap.size, 0, none⟩) 0 0) 0 [] := ⟨rfl, .inr ⟨w.heap.size, 0, #[], rfl, Nat.le_refl _, heap_alloc_new w _, Nat.le_refl _, by unfold maxLen; omega, rfl, rfl⟩⟩
  have hcell := (hI.kept (Kept.alloc (Below.refl _ w) (.cells #[] 9))).news
  clear hI
  go_enter Tryz.func109, Tryz.ntmps109
  go_wp2_with (at_builtin; refine wpList_append_own _ rfl _ _ 23 rfl w.heap.size 9 i0 (.string ⟨#[]⟩) 1 16 Tryz.underlying23 hi hz0 hz1 hz2 rfl (by decide) _ _ _ rfl hrow ad ts.length cap (ts.map Value.string) rfl (by simp) hcell (by intro u hu; obtain ⟨z, _, rfl⟩ := List.mem_map.1 hu; rfl) (by unfold maxLen; omega) (by omega) (by simp) ?_; intro v' w5 hown' hgrow hnil)
  go_ret
  have hK : Kept w w5 := (Kept.alloc (Below.refl _ w) (.cells #[] 9)).grownRow hgrow (fun j ej => (hrow.lt j ej).1)
  obtain ⟨g, c, cur, rfl, hb, hC, _, _, hcur⟩ := own_cells hown' (fun e => by have := (hnil.1 e).1; cases this)
  have hcell : ∀ (j : Nat) t, ts[j]? = some t → cur[j]? = some (.string t) := fun j t ht => hcur j _ (by rw [List.nil_append, List.getElem?_map, ht]; rfl)
  refine ⟨g, c, by simp, hb, fun j t ht => ⟨g, 0, rfl, by rw [Nat.zero_add, hC.cell]; exact hcell j t ht⟩, ⟨cur, hC, fun i hi' => ?_⟩, hK⟩
  exact ⟨_, hcell i ts[i] (List.getElem?_eq_getElem hi'), noSl_str _⟩
theorem UntX.fin {W0 W : World} {b lo g0 g1 k m : Nat} {xs cp : Nat → Nat} {cs : List Cod} {ts : List ByteArray} (h : UntK W0 W lo g0 xs cp cs k) (hn : cs.length = k) (hm : ts.length = m) (hb : b < W.heap.size) (hg : b + 2 ≤ g0 ∧ g0 < g1 ∧ g1 < lo) (hg' : g0 < lo) (hlo : lo ≤ W.heap.size) (ht : StA W (some ⟨g1, 0, none⟩) ts) (hw : WrJ W g1 9 m) : UntX W (b + 2) g0 g1 xs cp cs ts := by
  subst hn hm
  refine ⟨⟨hg.1, by omega⟩, ⟨by omega, hw.lt⟩, fun j hj => ⟨by have := (h.ix j hj).1; omega, (h.ix j hj).2⟩, by omega, fun j hj => by have := (h.ix j hj).1; omega, fun j hj => by have := (h.ix j hj).1; omega, fun i j hi hj e => h.inj i j hi hj e, h.r, fun j c hc => ?_, ht, hw⟩
  obtain ⟨a, b'⟩ := h.c j c hc
  obtain ⟨d, e⟩ := h.d j c (List.getElem?_eq_some_iff.1 hc).1 hc
  exact ⟨a, b', d, e⟩
theorem UntX.blk {W W' : World} {b g0 g1 : Nat} {xs cp : Nat → Nat} {cs : List Cod} {ts : List ByteArray} (h : UntX W (b + 2) g0 g1 xs cp cs ts) (hq : ∀ x, b + 2 ≤ x → W'.heap[x]? = W.heap[x]?) (hs : W.heap.size ≤ W'.heap.size) : UntX W' b g0 g1 xs cp cs ts := by
  have h2 := h.fro (W' := W') ⟨hs, fun j hj _ => hq j hj⟩
  exact ⟨⟨by have := h2.i0.1; omega, h2.i0.2⟩, ⟨by have := h2.i1.1; omega, h2.i1.2⟩, fun j hj => ⟨by have := (h2.ix j hj).1; omega, (h2.ix j hj).2⟩, h2.n01, h2.x0, h2.x1, h2.inj, h2.r, h2.c, h2.t, h2.w⟩
set_option maxHeartbeats 16000000 in
set_option maxRecDepth 100000 in
theorem copyUnit_ok (w : World) (g h : Nat) (cs : List Cod) (ts : List ByteArray) (hC : CodX w g cs) (hT : StA w (some ⟨h, 0, none⟩) ts) (hl : cs.length ≤ 1048576) (hi : ∀ c ∈ cs, c.ss.length ≤ 1048576) (ht : ts.length ≤ 1048576) :
    Calls Tryz.prog 56 #[.agg #[slB g cs.length cs.length, slB h ts.length ts.length]] w fun e w' => ∃ g0 c0 g1 c1 xs cp, e = .returned (.agg #[slB g0 cs.length c0, slB g1 ts.length c1]) ∧ UntX w' w.heap.size g0 g1 xs cp cs ts ∧ Kept w w' := by
  obtain ⟨W0, hW0⟩ : ∃ W0, (w.alloc (.cells #[slB g cs.length cs.length, slB h ts.length ts.length] 38)).alloc (.cells #[.slice none 0 0, .slice none 0 0] 38) = W0 := ⟨_, rfl⟩
  have k0 : Kept w W0 := hW0 ▸ (Kept.alloc (Below.refl _ _) _).alloc _
  have X0 : Cells W0 w.heap.size 38 #[slB g cs.length cs.length, slB h ts.length ts.length] := hW0 ▸ (Cells.new w 38 #[slB g cs.length cs.length, slB h ts.length ts.length]).alloc _
  have X1 : Cells W0 (w.heap.size + 1) 38 #[.slice none 0 0, .slice none 0 0] := by
    have := Cells.new (w.alloc (.cells #[slB g cs.length cs.length, slB h ts.length ts.length] 38)) 38 #[.slice none 0 0, .slice none 0 0]
    simp only [World.size_alloc] at this
    exact hW0 ▸ this
  have hs0 : W0.heap.size = w.heap.size + 2 := by rw [← hW0]; simp
  have hC0 := CodX.kept hC k0
  have hcl : ∀ u, Kept W0 u → ∀ i, i < cs.length * 3 → ∃ v, u.cell? ((⟨g, 0, none⟩ : Addr).add i) = some v ∧ v.oneCell' = true := fun u hu i hi' => by
    obtain ⟨vs, h1, h2, h3⟩ := CodX.kept hC0 hu
    obtain ⟨c, hc⟩ : ∃ c, cs[i / 3]? = some c := ⟨_, List.getElem?_eq_getElem (by omega)⟩
    obtain ⟨x, _, e0, e1, e2, _⟩ := h3 (i / 3) c (by omega) hc
    rw [Addr.add_lit, Nat.zero_add, h1.cell]
    rcases (show i = i / 3 * 3 ∨ i = i / 3 * 3 + 1 ∨ i = i / 3 * 3 + 2 by omega) with e | e | e
    · rw [e]; exact ⟨_, e0, rfl⟩
    · rw [e]; exact ⟨_, e1, rfl⟩
    · rw [e]; exact ⟨_, e2, rfl⟩
  have HC1 : Hid (∀ u, Kept W0 u → Calls Tryz.prog 108 #[slB g cs.length cs.length] u fun e w' => ∃ g0 c0, e = .returned (slB g0 cs.length c0) ∧ u.heap.size ≤ g0 ∧ g0 < w'.heap.size ∧ (∀ xs cp, UntK w w' w'.heap.size g0 xs cp cs 0) ∧ Kept u w') := fun u hu => by
    refine (cloneCd_ok u ⟨g, 0, none⟩ cs.length cs.length (hcl u hu) hl).mono ?_
    rintro e w' ⟨g0, c0, cur, rfl, hg0, hcur, hce, hk⟩
    refine ⟨g0, c0, rfl, hg0, hcur.lt, fun xs cp => ?_, hk⟩
    obtain ⟨vs, h1, h2, h3⟩ := CodX.kept hC0 hu
    have hvs : ∀ i, i < cs.length * 3 → cur[i]? = vs[i]? := fun i hi' => by
      rw [hce i hi', Addr.add_lit, Nat.zero_add, h1.cell]
    refine ⟨fun j hj => by omega, fun i j hi' => by omega, ⟨cur, hcur⟩, fun j c hc => ?_, fun j c hj => by omega, fun j c _ hc => ?_⟩
    · have hj := (List.getElem?_eq_some_iff.1 hc).1
      obtain ⟨x, _, e0, e1, e2, _⟩ := h3 j c hj hc
      exact ⟨by rw [hcur.cell, hvs _ (by omega)]; exact e0, by rw [hcur.cell, hvs _ (by omega)]; exact e1⟩
    · have hj := (List.getElem?_eq_some_iff.1 hc).1
      obtain ⟨x', _, e0, e1, e2, _⟩ := h3 j c hj hc
      obtain ⟨vs', h1', h2', h3'⟩ := hC
      obtain ⟨x, _, _, _, f2, fs⟩ := h3' j c hj hc
      have hsame : vs = vs' := by
        have a := h1
        have b := h1'.kept (k0.trans hu)
        have := a.symm.trans b
        simpa using this
      subst hsame
      exact ⟨x, by rw [hcur.cell, hvs _ (by omega)]; exact f2, fs⟩
  have HC2 : Hid (∀ u, Kept W0 u → Calls Tryz.prog 109 #[slB h ts.length ts.length] u fun e w' => ∃ g1 c1, e = .returned (slB g1 ts.length c1) ∧ u.heap.size ≤ g1 ∧ StA w' (some ⟨g1, 0, none⟩) ts ∧ WrJ w' g1 9 ts.length ∧ Kept u w') := fun u hu => cloneSb_ok u ⟨h, 0, none⟩ ts.length ts (hT.kept (k0.trans hu)) ht
  have HX : Hid (∀ u, Kept W0 u → Cells u w.heap.size 38 #[slB g cs.length cs.length, slB h ts.length ts.length]) := fun u hu => X0.kept hu
  have HX1 : Hid (∀ u, Kept W0 u → Cells u (w.heap.size + 1) 38 #[.slice none 0 0, .slice none 0 0]) := fun u hu => X1.kept hu
  have HK0 : Hid (Kept w W0) := k0
  have HS0 : Hid (W0.heap.size = w.heap.size + 2) := hs0
  obtain ⟨n, hn⟩ : ∃ n, cs.length = n := ⟨_, rfl⟩
  obtain ⟨m, hm⟩ : ∃ m, ts.length = m := ⟨_, rfl⟩
  rw [hn] at HC1 HX hl
  rw [hm] at HC2 HX ht
  rw [hn, hm] at hW0 ⊢
  have HN : Hid (cs.length = n) := hn
  have HM : Hid (ts.length = m) := hm
  clear hC hT hcl hC0 k0 X0 X1 hs0 hn hm
  go_enter Tryz.func56, Tryz.ntmps56
  go_upto_region 1 with (fail)
  try simp only [hW0]
  clear hW0
  have kd : Kept W0 W0.drew := (Below.refl _ W0).drew
  have a0 := (HX.out _ kd).cell 0
  have a1 := (HX.out _ kd).cell 1
  go_cut [] from 4 to 11 (fun wx => ∃ g0 c0 g1 c1, Hid (Cells wx w.heap.size 38 #[slB g0 n c0, slB g1 m c1]) ∧ Hid (w.heap.size + 2 ≤ g0 ∧ g0 < g1 ∧ g1 < wx.heap.size) ∧ Hid (∀ xs cp, UntK w wx wx.heap.size g0 xs cp cs 0) ∧ Hid (StA wx (some ⟨g1, 0, none⟩) ts ∧ WrJ wx g1 9 m) ∧ Hid (Kept w wx) ∧ Hid (Cells wx (w.heap.size + 1) 38 #[.slice none 0 0, .slice none 0 0]))
  case first =>
    go_region_with (first
      | (have _t := k1; go_at_call 109; refine (HC2.out _ (kd.trans k1)).mono ?_; rintro e w2 ⟨g1, c1, rfl, hg1, S1, R1, k2⟩; have y := HX.out _ ((kd.trans k1).trans k2); have b0 := y.cell 0; have b1 := y.cell 1; have f0 := y.frozen 0; have f1 := y.frozen 1; have yl := y.lt)
      | (go_at_call 108; refine (HC1.out _ kd).mono ?_; rintro e w1 ⟨g0, c0, rfl, hg0, hg0', U0, k1⟩; have y := HX.out _ (kd.trans k1); have b0 := y.cell 0; have b1 := y.cell 1))
    all_goals (
      go_wp2_with fail
      go_meet
      have e0 : w.heap.size + 2 ≤ g0 := by have := HS0.out; have : W0.drew.heap.size = W0.heap.size := rfl; omega
      have e1 : g0 < g1 := by omega
      have e2 : g1 < w2.heap.size := R1.lt
      have z : Cells _ w.heap.size 38 #[slB g0 n c0, slB g1 m c1] := (y.set 0 (slB g0 n c0)).set 1 (slB g1 m c1)
      have q : ∀ x, x ≠ w.heap.size → ((w2.setCell ⟨w.heap.size, 0, none⟩ (slB g0 n c0)).setCell ⟨w.heap.size, 1, none⟩ (slB g1 m c1)).heap[x]? = w2.heap[x]? := fun x hx => (Below.heap_setCell _ _ _ _ hx).trans (Below.heap_setCell _ _ _ _ hx)
      refine ⟨g0, c0, g1, c1, z, ⟨e0, e1, by simpa using e2⟩, fun xs cp => UntK.re (U0 xs cp) ((q g0 (by omega)).trans (k2.block g0 hg0')), ⟨(S1.other (by omega)).other (by omega), ?_⟩, ((Kept.trans HK0.out ((kd.trans k1).trans k2)).set (by simp) _).set (by simp) _, ((HX1.out _ ((kd.trans k1).trans k2)).other (p := ⟨w.heap.size, 0, none⟩) (by simp) _).other (p := ⟨w.heap.size, 1, none⟩) (by simp) _⟩
      obtain ⟨cu, hcu, hcw⟩ := R1
      exact ⟨cu, (q g1 (by omega)).trans hcu, hcw⟩)
  case rest =>
  obtain ⟨g0, c0, g1, c1, HB, HG, HU, HT, HK, HX2⟩ := hcut
  clear a0 a1 kd HC1 HC2 HX HX1
  obtain ⟨LO, hLO⟩ : ∃ x, wc.heap.size = x := ⟨_, rfl⟩
  have b0 := HB.out.cell 0
  rw [hLO] at HG HU
  have HLO : Hid (LO ≤ wc.heap.size) := by rw [Hid, hLO]; exact Nat.le_refl _
  have HG' : Hid (g0 < LO) := by have := HG.out; rw [Hid]; omega
  clear hLO
  go_upto_region 3 with (fail)
  go_wp2_with fail
  go_loopw [15] (fun iv wr => ∃ (k : Nat) (xs cp : Nat → Nat), iv = .int .i64 k ∧ k ≤ n ∧ Hid (UntK w wr LO g0 xs cp cs k) ∧ Hid (Cells wr w.heap.size 38 #[slB g0 n c0, slB g1 m c1]) ∧ Hid (StA wr (some ⟨g1, 0, none⟩) ts ∧ WrJ wr g1 9 m) ∧ Hid (Kept w wr) ∧ Hid (Cells wr (w.heap.size + 1) 38 #[.slice none 0 0, .slice none 0 0]) ∧ Hid (LO ≤ wr.heap.size)) (fun i _ => n - (intOf i).toNat)
  case atStart => exact ⟨0, fun _ => 0, fun _ => 0, rfl, Nat.zero_le _, HU.out _ _, HB, HT, HK, HX2, HLO⟩
  case round =>
    clear b0 HB HT HK HX2 HLO
    obtain ⟨k, xs, cp, rfl, hk, HUk, HB, HT, HK, HX2, HLO⟩ := hrel
    by_cases hlt : k < n
    · obtain ⟨c, hc⟩ : ∃ c, cs[k]? = some c := ⟨_, List.getElem?_eq_getElem (by have := HN.out; omega)⟩
      obtain ⟨x, hx, hR⟩ := HUk.out.o k c (Nat.le_refl _) hc
      have hcl : c.ss.length ≤ 1048576 := hi c (List.mem_of_getElem? hc)
      obtain ⟨L, hL⟩ : ∃ L, c.ss.length = L := ⟨_, rfl⟩
      have HCl : Hid (∀ u, Kept wr u → Calls Tryz.prog 110 #[slB x L L] u fun e w' => ∃ g' c', e = .returned (slB g' L c') ∧ u.heap.size ≤ g' ∧ StpB w' g' c.ss ∧ Kept u w') := fun u hu => by
        obtain ⟨ws, h1, h2, h3⟩ := RowS.on hR (Kept.trans HK.out hu)
        have hI : ∀ i, i < L * 3 → ∃ v, u.cell? ((⟨x, 0, none⟩ : Addr).add i) = some v ∧ v.oneCell' = true := fun i hi' => by
          obtain ⟨s, hs⟩ : ∃ s, c.ss[i / 3]? = some s := ⟨_, List.getElem?_eq_getElem (by omega)⟩
          obtain ⟨e0, e1, e2⟩ := h3 (i / 3) s (by omega) hs
          rw [Addr.add_lit, Nat.zero_add, h1.cell]
          rcases (show i = i / 3 * 3 ∨ i = i / 3 * 3 + 1 ∨ i = i / 3 * 3 + 2 by omega) with e | e | e
          · rw [e]; exact ⟨_, e0, rfl⟩
          · rw [e]; exact ⟨_, e1, rfl⟩
          · rw [e]; exact ⟨_, e2, rfl⟩
        refine (cloneSt_ok u ⟨x, 0, none⟩ L L hI (by omega)).mono ?_
        rintro e w' ⟨g', c', cur, rfl, hg', hcur, hce, hk'⟩
        refine ⟨g', c', rfl, hg', ⟨⟨cur, hcur⟩, fun i s hs => ?_⟩, hk'⟩
        have hil := (List.getElem?_eq_some_iff.1 hs).1
        obtain ⟨e0, e1, e2⟩ := h3 i s hil hs
        refine ⟨?_, ?_, ?_⟩
        · rw [hcur.cell, hce _ (by omega), Addr.add_lit, Nat.zero_add, h1.cell]; exact e0
        · rw [hcur.cell, hce _ (by omega), Addr.add_lit, Nat.zero_add, h1.cell]; exact e1
        · rw [hcur.cell, hce _ (by omega), Addr.add_lit, Nat.zero_add, h1.cell]; exact e2
      obtain ⟨vs0, hv0⟩ := HUk.out.r
      have HP : Hid (∀ u, Kept wr u → (u.cell? ⟨w.heap.size, 0, none⟩ = some (slB g0 n c0) ∧ u.cell? ⟨g0, k * 3 + 2, none⟩ = some (slB x L L)) ∧ u.frozen? ⟨g0, k * 3 + 2, none⟩ = false) := fun u hu => ⟨⟨(HB.out.kept hu).cell 0, by rw [← hL]; exact cellK hu hx⟩, (hv0.kept hu).frozen _⟩
      have kd : Kept wr wr.drew := (Below.refl _ wr).drew
      obtain ⟨⟨p0, p1⟩, p2⟩ := HP.out _ kd
      have q0 : (0 : Int) ≤ (k : Int) := by omega
      have q1 : (k : Int) < (n : Int) := by omega
      have HCc : Hid (cs[k]? = some c) := hc
      have HLc : Hid (c.ss.length = L) := hL
      clear hc hx hR hL hcl hv0
      go_wp2_with fail
      go_region_with (go_at_call 110; refine (HCl.out _ kd).mono ?_; rintro e w2 ⟨g', c', rfl, hg', hS, k2⟩; have kq : Kept wr w2 := kd.trans k2; obtain ⟨⟨r0, r1⟩, f2⟩ := HP.out _ kq)
      all_goals (
        have hN := UntK.next HUk.out HCc.out kq hg' HLO.out HG'.out hS (c' := c')
        rw [HLc.out] at hN
        have HNx : Hid _ := hN
        have HBx : Hid _ := (HB.out.kept kq).other (p := ⟨g0, k * 3 + 2, none⟩) (by have := HG.out; simp; omega) (slB g' L c')
        have HTx : Hid (StA (w2.setCell ⟨g0, k * 3 + 2, none⟩ (slB g' L c')) (some ⟨g1, 0, none⟩) ts ∧ WrJ (w2.setCell ⟨g0, k * 3 + 2, none⟩ (slB g' L c')) g1 9 m) := by
          refine ⟨(HT.out.1.kept kq).other (by have := HG.out; omega), ?_⟩
          obtain ⟨cu, hcu, hcw⟩ := HT.out.2
          exact ⟨cu, (hcu.kept kq).other (p := ⟨g0, k * 3 + 2, none⟩) (by have := HG.out; simp; omega) _, hcw⟩
        have HKx : Hid (Kept w (w2.setCell ⟨g0, k * 3 + 2, none⟩ (slB g' L c'))) := (Kept.trans HK.out kq).set (by have := HG.out; simp; omega) _
        have HX2x : Hid _ := (HX2.out.kept kq).other (p := ⟨g0, k * 3 + 2, none⟩) (by have := HG.out; simp; omega) (slB g' L c')
        have HLx : Hid (LO ≤ (w2.setCell ⟨g0, k * 3 + 2, none⟩ (slB g' L c')).heap.size) := by
          rw [Hid]
          have e1 := HLO.out
          have e2 := kq.size
          simp
          omega
        clear hN hS kq k2 kd p0 p1 p2 f2 r0 r1
        go_wp2_with fail
        go_roundw
        case rel => exact ⟨k + 1, _, _, by go_num, by omega, HNx, HBx, HTx, HKx, HX2x, HLx⟩
        case measure => simp [intOf]; omega)
    · obtain rfl : k = n := by omega
      have b0 := HB.out.cell 0
      have b1 := HB.out.cell 1
      have d0 := HX2.out.cell 0
      have d1 := HX2.out.cell 1
      have f0 := HX2.out.frozen 0
      have f1 := HX2.out.frozen 1
      have q1 : ¬ (k : Int) < (k : Int) := by omega
      have HZ := (HX2.out.set 0 (slB g0 k c0)).set 1 (slB g1 m c1)
      have z0 := HZ.cell 0
      have z1 := HZ.cell 1
      go_wp2_with fail
      refine bodyPost_ret (v := .agg #[slB g0 k c0, slB g1 m c1]) (by simp [results, Tryz.results56, go_sem, z0, z1]) rfl ⟨g0, c0, g1, ⟨c1, rfl⟩, ⟨xs, cp, ?_⟩, ?_⟩
      · exact (UntX.fin HUk.out HN.out HM.out HB.out.lt HG.out HG'.out HLO.out HT.out.1 HT.out.2).blk (fun x hx => (Below.heap_setCell _ _ _ _ (by simp; omega)).trans (Below.heap_setCell _ _ _ _ (by simp; omega))) (by simp)
      · exact (HK.out.set (by simp) _).set (by simp) _
end Go.Proofs.YtgempjjnfpmndaaGreatDoor
