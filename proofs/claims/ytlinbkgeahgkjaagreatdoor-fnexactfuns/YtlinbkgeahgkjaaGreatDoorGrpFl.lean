/-
  Rows of trees of one's own, whatever their empty rows are; the contract of impl.Funs (chapter 14).
  Helpers of the law on Funs: rows of one's own that are of the model's kind; rows compared.
-/
import Derived.Maps.AppendAt
import Derived.Test.YtlinbkgeahgkjaaGreatDoorZCpdA
import Derived.Test.YtlinbkgeahgkjaaGreatDoorGrpFf
import Derived.Test.YtlinbkgeahgkjaaGreatDoorGrpWc
import Derived.Test.YtlinbkgeahgkjaaGreatDoorGrpNm
import Derived.Test.YtlinbkgeahgkjaaGreatDoorGrpNb
import Derived.Test.YtlinbkgeahgkjaaGreatDoorZNodQ
import Derived.Test.YtlinbkgeahgkjaaGreatDoorGrpMr
namespace Go.Proofs.YtlinbkgeahgkjaaGreatDoor
open Go.RowKit
set_option linter.unusedSimpArgs false
set_option linter.unusedVariables false

/-- The trees ks, each in blocks of its own from lo to hi, in order; their cells xs; none of them lies in the block own. -/
def GpR (W : World) (ks : List Nd) (lo hi : Nat) (xs : List Value) (own : Option Nat) : Prop :=
  xs.length = ks.length * 4 ∧ ∃ bl bh : Nat → Nat, (∀ i, i < ks.length → lo ≤ bl i ∧ bl i ≤ bh i ∧ bh i ≤ hi ∧ ∀ g, own = some g → g < bl i ∨ bh i ≤ g) ∧ (∀ i j, i < j → j < ks.length → bh i ≤ bl j) ∧
    ∀ i t, ks[i]? = some t → ∃ c0 c1 c2 c3, xs[i * 4]? = some c0 ∧ xs[i * 4 + 1]? = some c1 ∧ xs[i * 4 + 2]? = some c2 ∧ xs[i * 4 + 3]? = some c3 ∧ CpG W t (bl i) (bh i) (.agg #[c0, c1, c2, c3])
theorem GpR.nil (W : World) (lo hi : Nat) (own : Option Nat) : GpR W [] lo hi [] own := ⟨rfl, fun _ => 0, fun _ => 0, fun i h => by simp at h, fun i j _ h => by simp at h, fun i t h => by simp at h⟩
theorem GpR.stay {W W' : World} {ks : List Nd} {lo hi : Nat} {xs : List Value} {own : Option Nat} (h : GpR W ks lo hi xs own) (hw : ∀ b, lo ≤ b → b < hi → own ≠ some b → b < W.heap.size → W'.heap[b]? = W.heap[b]?) : GpR W' ks lo hi xs own := by
  obtain ⟨h1, bl, bh, hb, hd, hk⟩ := h
  refine ⟨h1, bl, bh, hb, hd, fun i t ht => ?_⟩
  obtain ⟨c0, c1, c2, c3, e0, e1, e2, e3, hc⟩ := hk i t ht
  obtain ⟨b1, b2, b3, b4⟩ := hb i (List.getElem?_eq_some_iff.1 ht).1
  exact ⟨c0, c1, c2, c3, e0, e1, e2, e3, hc.stay (fun b x1 x2 x3 => hw b (by omega) (by omega) (fun e => by have := b4 b e; omega) x3)⟩
theorem GpR.mono {W : World} {ks : List Nd} {lo hi lo' hi' : Nat} {xs : List Value} {own : Option Nat} (h : GpR W ks lo hi xs own) (h1 : lo' ≤ lo) (h2 : hi ≤ hi') : GpR W ks lo' hi' xs own := by
  obtain ⟨e, bl, bh, hb, hd, hk⟩ := h
  exact ⟨e, bl, bh, fun i hi => by have := hb i hi; exact ⟨by omega, by omega, by omega, this.2.2.2⟩, hd, hk⟩
theorem GpR.owner {W : World} {ks : List Nd} {lo hi : Nat} {xs : List Value} {own own' : Option Nat} (h : GpR W ks lo hi xs own) (ho : ∀ g, own' = some g → own = some g ∨ hi ≤ g) : GpR W ks lo hi xs own' := by
  obtain ⟨e, bl, bh, hb, hd, hk⟩ := h
  refine ⟨e, bl, bh, fun i hi => ?_, hd, hk⟩
  obtain ⟨b1, b2, b3, b4⟩ := hb i hi
  refine ⟨b1, b2, b3, fun g hg => ?_⟩
  rcases ho g hg with h | h
  · exact b4 g h
  · right; omega
theorem GpR.cat {W : World} {ks ts : List Nd} {lo hi lo2 hi2 : Nat} {xs ys : List Value} {own own2 : Option Nat} (h : GpR W ks lo hi xs own) (h2 : GpR W ts lo2 hi2 ys own2) (hlo : lo ≤ hi) (h12 : hi ≤ lo2) (h22 : lo2 ≤ hi2) (ho : ∀ g, own = some g → g < hi) : GpR W (ks ++ ts) lo hi2 (xs ++ ys) own := by
  obtain ⟨e, bl, bh, hb, hd, hk⟩ := h
  obtain ⟨e2, bl2, bh2, hb2, hd2, hk2⟩ := h2
  refine ⟨by rw [List.length_append, List.length_append, e, e2]; omega, fun i => if i < ks.length then bl i else bl2 (i - ks.length), fun i => if i < ks.length then bh i else bh2 (i - ks.length), fun i hi => ?_, fun i j hij hj => ?_, fun i t ht => ?_⟩
  · rw [List.length_append] at hi
    by_cases hlt : i < ks.length
    · simp only [hlt, if_true]
      obtain ⟨b1, b2, b3, b4⟩ := hb i hlt
      exact ⟨b1, b2, by omega, b4⟩
    · simp only [hlt, if_false]
      obtain ⟨b1, b2, b3, b4⟩ := hb2 (i - ks.length) (by omega)
      exact ⟨by omega, b2, b3, fun g hg => by have := ho g hg; left; omega⟩
  · rw [List.length_append] at hj
    by_cases hlt : j < ks.length
    · simp only [hlt, show i < ks.length by omega, if_true]
      exact hd i j hij hlt
    · by_cases hli : i < ks.length
      · simp only [hlt, hli, if_true, if_false]
        have := hb i hli
        have := hb2 (j - ks.length) (by omega)
        omega
      · simp only [hlt, hli, if_false]
        exact hd2 _ _ (by omega) (by omega)
  · by_cases hlt : i < ks.length
    · rw [List.getElem?_append_left hlt] at ht
      obtain ⟨c0, c1, c2, c3, e0, e1, e2, e3, hc⟩ := hk i t ht
      simp only [hlt, if_true]
      exact ⟨c0, c1, c2, c3, by rw [List.getElem?_append_left (by omega)]; exact e0, by rw [List.getElem?_append_left (by omega)]; exact e1, by rw [List.getElem?_append_left (by omega)]; exact e2, by rw [List.getElem?_append_left (by omega)]; exact e3, hc⟩
    · rw [List.getElem?_append_right (by omega)] at ht
      obtain ⟨c0, c1, c2, c3, e0, e1, e2, e3, hc⟩ := hk2 (i - ks.length) t ht
      simp only [hlt, if_false]
      have q : ∀ r, i * 4 + r - xs.length = (i - ks.length) * 4 + r := fun r => by omega
      exact ⟨c0, c1, c2, c3, by rw [List.getElem?_append_right (by omega)]; have := q 0; simp only [Nat.add_zero] at this; rw [this]; exact e0, by rw [List.getElem?_append_right (by omega), q]; exact e1, by rw [List.getElem?_append_right (by omega), q]; exact e2, by rw [List.getElem?_append_right (by omega), q]; exact e3, hc⟩
theorem GpR.oneCell {W : World} {ks : List Nd} {lo hi : Nat} {xs : List Value} {own : Option Nat} (h : GpR W ks lo hi xs own) : ∀ u ∈ xs, u.oneCell' = true := by
  obtain ⟨e, bl, bh, hb, hd, hk⟩ := h
  intro u hu
  obtain ⟨j, hj⟩ := List.getElem?_of_mem hu
  have hjl := (List.getElem?_eq_some_iff.1 hj).1
  obtain ⟨t, ht⟩ : ∃ t, ks[j / 4]? = some t := ⟨_, List.getElem?_eq_getElem (by omega)⟩
  obtain ⟨c0, c1, c2, c3, e0, e1, e2, e3, hc⟩ := hk _ _ ht
  obtain ⟨op, s, n, ao, l, cap, ev⟩ := hc.four
  simp at ev
  obtain ⟨rfl, rfl, rfl, rfl⟩ := ev
  rcases (show j = j / 4 * 4 ∨ j = j / 4 * 4 + 1 ∨ j = j / 4 * 4 + 2 ∨ j = j / 4 * 4 + 3 by omega) with h | h | h | h <;> rw [h] at hj
  · rw [e0] at hj; injection hj with hj; rw [← hj]; rfl
  · rw [e1] at hj; injection hj with hj; rw [← hj]; rfl
  · rw [e2] at hj; injection hj with hj; rw [← hj]; rfl
  · rw [e3] at hj; injection hj with hj; rw [← hj]; rfl
/-- A row of one's own whose trees are one's own. -/
def FunO (W : World) (lo hi : Nat) (v : Value) (ks : List Nd) : Prop := ∃ xs, W.ownsRow 0 29 4 v ks.length xs ∧ (∀ g, v.ownBlock = some g → lo ≤ g ∧ g < hi) ∧ GpR W ks lo hi xs v.ownBlock
theorem FunO.nil (W : World) (lo hi : Nat) : FunO W lo hi (.slice none 0 0) [] := ⟨[], ⟨rfl, .inl ⟨rfl, rfl⟩⟩, fun g h => by simp [Value.ownBlock] at h, GpR.nil _ _ _ _⟩
theorem FunO.empty (W : World) (lo : Nat) (hlo : lo ≤ W.heap.size) : FunO (W.alloc (.cells #[] 29)) lo (W.heap.size + 1) (.slice (some ⟨W.heap.size, 0, none⟩) 0 0) [] :=
  ⟨[], ⟨rfl, .inr ⟨W.heap.size, 0, #[], rfl, Nat.zero_le _, heap_alloc_new W _, Nat.le_refl _, by unfold maxLen; omega, rfl, rfl⟩⟩, fun g h => by simp [Value.ownBlock] at h; omega, GpR.nil _ _ _ _⟩
theorem FunO.one {W : World} {t : Nd} {lo hi lo' : Nat} {c0 c1 c2 c3 : Value} (h : CpG W t lo hi (.agg #[c0, c1, c2, c3])) (hl : lo' ≤ lo) (hlh : lo ≤ hi) (hh : hi ≤ W.heap.size) : FunO (W.alloc (.cells #[c0, c1, c2, c3] 29)) lo' (W.heap.size + 1) (.slice (some ⟨W.heap.size, 0, none⟩) 1 1) [t] := by
  refine ⟨[c0, c1, c2, c3], ⟨rfl, .inr ⟨W.heap.size, 1, #[c0, c1, c2, c3], rfl, Nat.zero_le _, heap_alloc_new W _, Nat.le_refl _, by unfold maxLen; omega, rfl, rfl⟩⟩, fun g hg => by simp [Value.ownBlock] at hg; omega, rfl, fun _ => lo, fun _ => hi, fun i _ => ⟨hl, hlh, (by show hi ≤ _; omega), fun g hg => (by simp [Value.ownBlock] at hg; right; show hi ≤ g; omega)⟩, fun i j hij hj => by simp at hj; omega, fun i t' ht => ?_⟩
  match i, ht with
  | 0, ht =>
    simp at ht
    subst ht
    exact ⟨c0, c1, c2, c3, rfl, rfl, rfl, rfl, h.stay (fun b _ _ h3 => (Kept.alloc (Below.refl _ W) (.cells #[c0, c1, c2, c3] 29) : Kept W _).block b h3)⟩
  | i + 1, ht => simp at ht
theorem FunO.slice {W : World} {lo hi : Nat} {v : Value} {ks : List Nd} (h : FunO W lo hi v ks) : ∃ ao c, v = .slice ao ks.length c := by
  obtain ⟨xs, ⟨_, ⟨rfl, h0⟩ | ⟨g, cap, cur, rfl, _⟩⟩, _⟩ := h
  · exact ⟨none, 0, by rw [h0]⟩
  · exact ⟨_, _, rfl⟩
theorem FunO.kept {W W' : World} {lo hi : Nat} {v : Value} {ks : List Nd} (h : FunO W lo hi v ks) (hk : Kept W W') : FunO W' lo hi v ks := by
  obtain ⟨xs, ho, hb, hc⟩ := h
  refine ⟨xs, World.ownsRow.kept ho hk.grown (by cases e : v.ownBlock <;> simp), hb, hc.stay (fun b _ _ _ h => hk.block b h)⟩
theorem FunO.mono {W : World} {lo hi lo' hi' : Nat} {v : Value} {ks : List Nd} (h : FunO W lo hi v ks) (h1 : lo' ≤ lo) (h2 : hi ≤ hi') : FunO W lo' hi' v ks := by
  obtain ⟨xs, ho, hb, hc⟩ := h
  exact ⟨xs, ho, fun g hg => by have := hb g hg; omega, hc.mono h1 h2⟩
/-- append(v, v2...) -/
theorem FunO.app {W : World} {lo hi lo2 hi2 g2 m c : Nat} {v : Value} {ks ts : List Nd} (h : FunO W lo hi v ks) (h2 : FunO W lo2 hi2 (.slice (some ⟨g2, 0, none⟩) m c) ts) (hlo : lo ≤ hi) (h12 : hi ≤ lo2) (h22 : lo2 ≤ hi2) (hz : hi2 ≤ W.heap.size) (hl : ks.length + ts.length ≤ 1000000) (ty : TypeId) :
    ∃ v' W', (Builtin.append_ #[26, 26] ty #[v, .slice (some ⟨g2, 0, none⟩) m c]).run Tryz.prog W = .ok v' W' ∧ FunO W' lo W'.heap.size v' (ks ++ ts) ∧ W.grownBy W' v.ownBlock ∧ (v ≠ .slice none 0 0 → v' ≠ .slice none 0 0) := by
  obtain ⟨i0, hi0, hz0, hz1, hz2⟩ := info_parts infoNc
  obtain ⟨xs, ho, hb, hc⟩ := h
  obtain ⟨ys, ho2, hb2, hc2⟩ := h2
  have em : m = ts.length := by
    obtain ⟨_, ⟨e, h0⟩ | ⟨g, cap, cur, e, _⟩⟩ := ho2
    · cases e
    · injection e
  subst em
  obtain ⟨v', W', hr, ho3, hg3, hnil, hv'⟩ := run_append_own_at (P := Tryz.prog) W 0 26 ty 29 i0 _ 4 56 Tryz.underlying26 hi0 hz0 hz1 hz2 rfl (by decide) _ _ _ ho ⟨g2, 0, none⟩ ts.length c ys (by rw [hc2.1]) (fun j u hu => World.ownsRow.cells ho2 (g := g2) rfl j u hu) hc2.oneCell (by unfold maxLen; omega) (by omega) (Nat.zero_le _)
  refine ⟨v', W', hr, ⟨xs ++ ys, by rw [List.length_append]; exact ho3, fun g hg => ?_, ?_⟩, hg3, fun hv h => hv (hnil.1 h).1⟩
  · have hlt : g < W'.heap.size := by
      obtain ⟨_, ⟨e, h0⟩ | ⟨g', cap, cur, e, _, hgg, _⟩⟩ := ho3
      · rw [e] at hg; simp [Value.ownBlock] at hg
      · rw [e] at hg
        simp [Value.ownBlock] at hg
        subst hg
        exact (Array.getElem?_eq_some_iff.1 hgg).1
    rcases hv' with e | e
    · rw [e] at hg
      have := hb g hg
      omega
    · rw [e] at hg
      injection hg with hg
      omega
  · have hcat := (hc.cat hc2 hlo h12 h22 (fun g hg => (hb g hg).2)).stay (W' := W') (fun b _ _ hne hlt => hg3.block b hlt (fun e => hne e.symm))
    refine (hcat.owner (own' := v'.ownBlock) (fun g hg => ?_)).mono (Nat.le_refl _) (Nat.le_trans hz hg3.size)
    rcases hv' with e | e
    · left; rw [← e]; exact hg
    · right
      rw [e] at hg
      injection hg with hg
      omega
theorem FunO.toG {W : World} {lo hi : Nat} {v : Value} {ks : List Nd} (h : FunO W lo hi v ks) : FunG W lo hi v ks := by
  obtain ⟨xs, ⟨hl, ⟨rfl, h0⟩ | ⟨g, cap, cur, rfl, _, hg, h1, h2, h3, h4⟩⟩, hb, hc⟩ := h
  · have e := List.length_eq_zero_iff.1 h0
    subst e
    exact .leaf none 0 (by decide)
  · obtain ⟨hxl, bl, bh, hbb, hd, hk⟩ := hc
    have cell : ∀ i c, xs[i]? = some c → cur[i]? = some c := fun i c hc => by
      rw [← h4, List.getElem?_take] at hc
      split at hc
      · simpa using hc
      · cases hc
    refine .node g cap cur bl bh (fun i => cur.getD (i * 4) undef) (fun i => cur.getD (i * 4 + 1) undef) (fun i => cur.getD (i * 4 + 2) undef) (fun i => cur.getD (i * 4 + 3) undef) (by decide) (hb g rfl).1 (hb g rfl).2 hg (by omega) (fun i hi => by obtain ⟨b1, b2, b3, b4⟩ := hbb i hi; exact ⟨b1, b2, b3, b4 g rfl⟩) hd (fun i hi => ?_) (fun i t ht => ?_)
    · refine ⟨?_, ?_, ?_, ?_⟩ <;> rw [Array.getD_eq_getD_getElem?, Array.getElem?_eq_getElem (by omega)] <;> rfl
    · obtain ⟨c0, c1, c2, c3, e0, e1, e2, e3, hv⟩ := hk i t ht
      simp only [Array.getD_eq_getD_getElem?, cell _ _ e0, cell _ _ e1, cell _ _ e2, cell _ _ e3, Option.getD_some]
      exact hv
mutual
theorem fun_size : ∀ (t : Nd), ∀ y ∈ funL t, y.size ≤ t.size
  | .mk op s n ks => by
    intro y hy
    simp only [funL, List.mem_append] at hy
    rcases hy with hy | hy
    · split at hy
      · simp at hy; subst hy; exact Nat.le_refl _
      · simp at hy
    · have := funs_size ks y hy; simp only [Nd.size]; omega
theorem funs_size : ∀ (ks : List Nd), ∀ y ∈ funsL ks, y.size ≤ sizesN ks
  | [] => by intro y hy; simp [funsL] at hy
  | k :: ks => by
    intro y hy
    simp only [funsL, List.mem_append] at hy
    simp only [sizesN]
    rcases hy with hy | hy
    · have := fun_size k y hy; omega
    · have := funs_size ks y hy; omega
end
theorem cell_fn {W : World} {B g n c : Nat} {xs : List Value} (h : W.ownsRow B 46 3 (.slice (some ⟨g, 0, none⟩) n c) n xs) {i : Nat} {x : Value} (hx : xs[i]? = some x) : W.cell? ⟨g, i, none⟩ = some x := by
  have := World.ownsRow.cells h (g := g) rfl i x hx
  rw [Addr.add_lit, Nat.zero_add] at this
  exact this
set_option maxHeartbeats 16000000 in
set_option maxRecDepth 100000 in
theorem impl_Funs_ok (t : Nd) (hbk : t.bulk ≤ 1048576) (w : World) (base : Nat) (v : Value) (hv : NdV w base t v) (hb : 1 ≤ base) (hE : EnvA w) :
    Calls Tryz.prog 7 #[v] w fun e w' => ∃ v', e = .returned v' ∧ FunG w' w.heap.size w'.heap.size v' (fnsR t) ∧ Kept w w' := by
  obtain ⟨op, s, n, ks⟩ := t
  have hv0 := hv
  rw [NdV] at hv
  obtain ⟨ao, cap, rfl, -, -⟩ := hv
  have b0 := Cells.new w 29 #[.int .i64 op, .string s, .int .i64 n, .slice ao ks.length cap]
  have k0 : Kept w (w.alloc (.cells #[.int .i64 op, .string s, .int .i64 n, .slice ao ks.length cap] 29)) := Kept.alloc (Below.refl _ _) _
  have hN := impl_NodeOk_ok _ hbk _ (hE.kept k0) base hb _ (hv0.kept k0)
  have c0 := b0.cell 0; have c1 := b0.cell 1; have c2 := b0.cell 2; have c3 := b0.cell 3
  cases hr : nodeR (.mk op s n ks) with
  | false =>
    rw [hr] at hN
    have HR : Hid (fnsR (.mk op s n ks) = []) := by simp [Hid, fnsR, hr]
    clear hr hv0
    go_enter Tryz.func7, Tryz.ntmps7
    go_wp2_with (go_at_call 18; refine hN.mono ?_; rintro e w1 ⟨rfl, hk1⟩)
    go_ret
    exact ⟨_, rfl, by rw [HR.out]; exact .leaf none 0 (by decide), k0.trans hk1⟩
  | true =>
    rw [hr] at hN
    obtain ⟨hop, hsz⟩ := nodeR_facts hr
    have hop1 : op = 1 := hop
    have hfl : funL (.mk op s n ks) = funsL ks := by rw [funL, if_neg (by omega), List.nil_append]
    have HR : Hid (fnsR (.mk op s n ks) = (fnT [] (.mk op s n ks)).map (·.nd)) := by rw [Hid, fnT_nd, fnsR, if_pos hr, hfl]
    have HNs : Hid (∀ y ∈ (fnT [] (.mk op s n ks)).map (·.nd), y.size ≤ 200) := by
      rw [fnT_nd]
      intro y hy
      simp only [List.mem_cons] at hy
      rcases hy with rfl | hy
      · exact hsz
      · have := funs_size ks y hy; simp only [Nd.size] at hsz; omega
    have hAt : NdAt (w.alloc (.cells #[.int .i64 op, .string s, .int .i64 n, .slice ao ks.length cap] 29)) (.mk op s n ks) ⟨w.heap.size, 0, none⟩ := ⟨w.heap.size, 0, rfl, ⟨_, _, b0⟩, _, _, _, _, c0, c1, c2, c3, NdV.mono hb _ _ (hv0.kept k0)⟩
    have HFf : Hid (∀ u, Kept (w.alloc (.cells #[.int .i64 op, .string s, .int .i64 n, .slice ao ks.length cap] 29)) u → Calls Tryz.prog 19 #[.pointer (some ⟨w.heap.size, 0, none⟩), .slice none 0 0] u fun e w' => ∃ v, e = .returned v ∧ FnO (w.alloc (.cells #[.int .i64 op, .string s, .int .i64 n, .slice ao ks.length cap] 29)) w' u.heap.size v (fnT [] (.mk op s n ks)) ∧ Kept u w') := fun u hu =>
      functionsFrom_ok _ _ (Nat.le_refl _) _ u ⟨w.heap.size, 0, none⟩ [] none 0 hAt hu (hE.kept (k0.trans hu)) (.inl rfl) (.inl ⟨rfl, rfl⟩) (Nat.le_refl _) (fun _ => rfl) (by simp only [Nd.size] at hsz ⊢; simp; omega) hbk
    have hlen : 0 < (fnT [] (.mk op s n ks)).length ∧ (fnT [] (.mk op s n ks)).length ≤ 200 := ⟨by simp [fnT], by have := fnT_len [] (.mk op s n ks); omega⟩
    obtain ⟨fs, hfs⟩ : ∃ f, fnT [] (.mk op s n ks) = f := ⟨_, rfl⟩
    rw [hfs] at HR HNs HFf hlen
    have HK0 : Hid _ := k0
    have HLn : Hid _ := hlen
    clear hr hv0 hop hop1 hfl hsz hAt hfs hlen b0 k0
    go_enter Tryz.func7, Tryz.ntmps7
    go_wp2_with (first
      | (go_at_call 18; refine hN.mono ?_; rintro e w1 ⟨rfl, hk1⟩)
      | (go_at_call 19; refine (HFf.out _ hk1).mono ?_; rintro e w2 ⟨v2, rfl, hO2, hk2⟩; obtain ⟨xs, hrow, hXx⟩ := hO2; obtain ⟨g, gc, rfl, hgb, hgl⟩ := World.ownsRow.form hrow HLn.out.1))
    have HRow : Hid _ := And.intro hrow hXx
    obtain ⟨WA, hWA⟩ : ∃ W, w.alloc (.cells #[.int .i64 op, .string s, .int .i64 n, .slice ao ks.length cap] 29) = W := ⟨_, rfl⟩
    have HK12 : Hid (Kept WA w2 ∧ Kept w w2) := by rw [← hWA]; exact ⟨hk1.trans hk2, Kept.trans HK0.out (hk1.trans hk2)⟩
    rw [hWA] at HRow
    try simp only [hWA]
    clear hrow hXx hk1 hk2 hN c0 c1 c2 c3 hgb hgl HFf HK0 hWA
    obtain ⟨L, hL⟩ : ∃ L, fs.length = L := ⟨_, rfl⟩
    rw [hL] at HLn HRow
    try simp only [hL]
    have HL : Hid (fs.length = L) := hL
    clear hL
    go_loopw [3, 11] (fun lv iv wr => ∃ (k : Nat) (va : Option Addr) (vc : Nat), lv = .slice va k vc ∧ iv = .int .i64 k ∧ k ≤ L ∧ Hid (FunO wr w2.heap.size wr.heap.size (.slice va k vc) ((fs.map (·.nd)).take k) ∧ Kept w2 wr)) (fun _ i _ => L - (intOf i).toNat)
    case atStart => exact ⟨0, none, 0, rfl, rfl, Nat.zero_le _, FunO.nil _ _ _, Below.refl _ _⟩
    case round =>
      obtain ⟨k, va, vc, rfl, rfl, hk, hR⟩ := hrel
      by_cases hlt : k < L
      · have q1 : (k : Int) < (L : Int) := by omega
        have q2 : (k : Int) + 1 ≤ 9223372036854775807 := by have := HLn.out.2; omega
        obtain ⟨x, hx⟩ : ∃ x, fs[k]? = some x := ⟨_, List.getElem?_eq_getElem (by rw [HL.out]; exact hlt)⟩
        obtain ⟨hF, hKr⟩ := hR.out
        obtain ⟨c0, c1, c2, x0, x1, x2, ⟨q, rfl, hq⟩, ⟨a1, cc1, rfl, -⟩, ⟨a2, cc2, rfl, -⟩⟩ := HRow.out.2 k x hx
        have hrw := World.ownsRow.kept HRow.out.1 hKr.grown (by cases e : (Value.slice (some (⟨g, 0, none⟩ : Addr)) L gc).ownBlock <;> simp)
        have y0 := cell_fn hrw x0
        have y1 := cell_fn hrw x1
        have y2 := cell_fn hrw x2
        obtain ⟨bq, oq, rfl, -, d0, d1, d2, d3, e0, e1, e2, e3, hvx⟩ := hq
        obtain ⟨op1, s1, n1, ao1, l1, cp1, ev⟩ := hvx.four
        simp at ev
        obtain ⟨rfl, rfl, rfl, rfl⟩ := ev
        have hxs := HNs.out x.nd (List.mem_map.2 ⟨x, List.mem_of_getElem? hx, rfl⟩)
        have HC : Hid (∀ u, Kept WA u → Calls Tryz.prog 20 #[.agg #[.int .i64 op1, .string s1, .int .i64 n1, .slice ao1 l1 cp1]] u fun e w' => ∃ v', e = .returned v' ∧ CpG w' x.nd u.heap.size w'.heap.size v' ∧ Kept u w') := fun u hu => copied_ok _ x.nd (Nat.le_refl _) u 1 _ (hvx.kept hu) (by omega)
        have HTk : Hid ((fs.map (·.nd)).take (k + 1) = (fs.map (·.nd)).take k ++ [x.nd]) := by rw [Hid, List.take_add_one, List.getElem?_map, hx]; rfl
        have kwr := Kept.trans HK12.out.1 hKr
        have z0 := kept_cell kwr e0; have z1 := kept_cell kwr e1; have z2 := kept_cell kwr e2; have z3 := kept_cell kwr e3
        have kA : Kept wr (wr.alloc (.cells #[.pointer (some ⟨bq, oq, none⟩), .slice a1 x.decl.length cc1, .slice a2 x.sc.length cc2] 46)) := Kept.alloc (Below.refl _ _) _
        obtain ⟨x1l, hx1l⟩ : ∃ l, x.decl.length = l := ⟨_, rfl⟩
        obtain ⟨x2l, hx2l⟩ : ∃ l, x.sc.length = l := ⟨_, rfl⟩
        rw [hx1l, hx2l] at kA
        rw [hx1l] at y1
        rw [hx2l] at y2
        have HF : Hid _ := And.intro hF (And.intro hKr kA)
        have hLn2 := HLn.out.2
        have HLe : Hid (((fs.map (·.nd)).take k).length = k) := by rw [Hid, List.length_take, List.length_map, HL.out]; omega
        clear hx hF hrw x0 x1 x2 e0 e1 e2 e3 hvx hxs hx1l hx2l hR
        have bxN := Cells.new wr 46 #[.pointer (some ⟨bq, oq, none⟩), .slice a1 x1l cc1, .slice a2 x2l cc2]
        have z0' := kept_cell kA z0; have z1' := kept_cell kA z1; have z2' := kept_cell kA z2; have z3' := kept_cell kA z3
        have p0' := bxN.cell 0
        have hszA : wr.heap.size ≤ (wr.alloc (.cells #[.pointer (some ⟨bq, oq, none⟩), .slice a1 x1l cc1, .slice a2 x2l cc2] 46)).heap.size := by simp
        have kwA := kwr.trans kA
        go_upto_region 7 with fail
        clear y0 y1 y2 z0 z1 z2 z3 bxN
        obtain ⟨WC, hWC⟩ : ∃ W, wr.alloc (.cells #[.pointer (some ⟨bq, oq, none⟩), .slice a1 x1l cc1, .slice a2 x2l cc2] 46) = W := ⟨_, rfl⟩
        rw [hWC] at kA kwA z0' z1' z2' z3' p0' hszA HF
        simp only [hWC]
        clear hWC
        simp at p0'
        have HKa : Hid _ := And.intro kA (And.intro kwA hszA)
        clear kA kwA hszA kwr hKr
        go_wp2_with (first
          | (have _tk := hr2; at_builtin; refine wpList_runC rfl (exec_appendC rfl rfl rfl hr2) ?_)
          | (go_at_call 20; refine (HC.out _ HKa.out.2.1).mono ?_; rintro e w5 ⟨v5, rfl, hT5, hk5⟩; obtain ⟨op5, s5, n5, ao5, l5, cp5, rfl⟩ := hT5.four; obtain ⟨v6, w6, hr2, hO6, hg6, hn6⟩ := FunO.app ((HF.out.1.kept (HKa.out.1.trans hk5)).kept (Kept.alloc (Below.refl _ w5) (.cells #[.int .i64 op5, .string s5, .int .i64 n5, .slice ao5 l5 cp5] 29))) (FunO.one hT5 (Nat.le_refl _) hk5.size (Nat.le_refl _)) HF.out.2.1.size HKa.out.2.2 (Nat.le_succ_of_le hk5.size) (by simp) (by simp; omega) 26; obtain ⟨va6, vc6, hv6⟩ := hO6.slice; have hln6 := HLe.out; rw [List.length_append, hln6] at hv6; subst hv6))
        have hK6 : Kept w2 w6 := by
          have k5 := (Kept.trans HF.out.2.1 (HKa.out.1.trans hk5)).alloc (.cells #[.int .i64 op5, .string s5, .int .i64 n5, .slice ao5 l5 cp5] 29)
          refine Below.grown k5 hg6 k5.size (fun j e => ?_)
          obtain ⟨_, _, hb6, _⟩ := HF.out.1
          exact (hb6 j e).1
        go_roundw
        case rel => exact ⟨k + 1, va6, vc6, by simp, by go_num, by omega, by rw [HTk.out]; exact ⟨by simpa using hO6, hK6⟩⟩
        case measure => simp [intOf]; omega
      · have q1 : ¬ (k : Int) < (L : Int) := by omega
        obtain rfl : k = L := by omega
        have HFn : Hid (FunG wr w2.heap.size wr.heap.size (.slice va k vc) (fnsR (.mk op s n ks)) ∧ Kept w2 wr) := by
          have := hR.out
          rw [List.take_of_length_le (by rw [List.length_map, HL.out]; exact Nat.le_refl _), ← HR.out] at this
          exact ⟨this.1.toG, this.2⟩
        clear hR
        go_wp2_with fail
        go_ret
        exact ⟨_, rfl, HFn.out.1.mono HK12.out.2.size (Nat.le_refl _), Kept.trans HK12.out.2 HFn.out.2⟩
end Go.Proofs.YtlinbkgeahgkjaaGreatDoor
namespace Go.Proofs.YtlinbkgeahgkjaaGreatDoor
open Go.RowKit

theorem CpT.toG {W : World} {t : Nd} {lo hi : Nat} {v : Value} (h : CpT W t lo hi v) : CpG W t lo hi v := by
  induction h with
  | leaf hs => exact .leaf none 0 hs
  | node g cap cur bl bh q0 q1 q2 q3 hs hlo hhi hg hc hm hz hb hd hq hk ih => exact .node g cap cur bl bh q0 q1 q2 q3 hs hlo hhi hg (by omega) hb hd hq ih
theorem FunR.toG {W : World} {lo hi : Nat} {v : Value} {ks : List Nd} (h : FunR W lo hi v ks) : FunG W lo hi v ks := by
  obtain ⟨xs, ho, hb, hxl, bl, bh, hbb, hd, hk⟩ := h
  exact FunO.toG ⟨xs, ho, hb, hxl, bl, bh, hbb, hd, fun i t ht => by
    obtain ⟨c0, c1, c2, c3, e0, e1, e2, e3, hc⟩ := hk i t ht
    exact ⟨c0, c1, c2, c3, e0, e1, e2, e3, hc.toG⟩⟩
theorem eqRows_ok (u : World) (lo hi lo' hi' : Nat) (va vb : Value) (ks : List Nd) (ha : FunG u lo hi va ks) (hb : FunG u lo' hi' vb ks) :
    Calls Tryz.prog 8 #[va, vb] u fun e w' => e = .returned (.bool true) ∧ Kept u w' := by
  obtain ⟨ao, ac, rfl, hl, h1⟩ := ha.toV (Nat.le_refl _)
  obtain ⟨bo, bc, rfl, _, h2⟩ := hb.toV (Nat.le_refl _)
  exact eqNodeS_of ks (fun x hx => eqNode_ok _ x (Nat.le_refl _)) u lo lo' ao bo ac bc hl h1 h2
theorem sizes_of {ks : List Nd} {B : Nat} (h : ∀ x ∈ ks, x.size ≤ B) : sizesN ks ≤ B * ks.length := by
  induction ks with
  | nil => simp [sizesN]
  | cons x ks ih =>
    have h1 := h x (by simp)
    have h2 := ih (fun y hy => h y (by simp [hy]))
    simp only [sizesN, List.length_cons, Nat.mul_succ]
    omega
theorem fnsR_sizes (t : Nd) : sizesN (fnsR t) ≤ 1000000 ∧ (fnsR t).length ≤ 1000000 := by
  unfold fnsR
  split
  · rename_i hr
    obtain ⟨_, hsz⟩ := nodeR_facts hr
    have h1 := fun_len t
    have h2 : ∀ x ∈ t :: funL t, x.size ≤ 200 := by
      intro x hx
      simp only [List.mem_cons] at hx
      rcases hx with rfl | hx
      · exact hsz
      · have := fun_size t x hx; omega
    have h3 := sizes_of h2
    simp only [List.length_cons] at h3 ⊢
    constructor
    · have : 200 * ((funL t).length + 1) ≤ 200 * 201 := Nat.mul_le_mul_left _ (by omega)
      omega
    · omega
  · simp [sizesN]
end Go.Proofs.YtlinbkgeahgkjaaGreatDoor
