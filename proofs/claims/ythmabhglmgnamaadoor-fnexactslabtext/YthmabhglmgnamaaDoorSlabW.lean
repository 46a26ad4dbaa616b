/-
  The contract of impl.Blocks: the places of the blocks, in a row of its own.
-/
import Derived.Test.YthmabhglmgnamaaDoorSlabV
import Derived.Test.YthmabhglmgnamaaDoorHelpL
import Derived.Test.YthmabhglmgnamaaDoorOwnP
namespace Go.Proofs.YthmabhglmgnamaaDoor
open Go.RowKit Go.Shelf
attribute [local go_sem] Oper.semAt_some

def atsOf {L : Nat} (pre : List (BkOf L)) : List Int := pre.map (fun b => ((b.1.at' : Nat) : Int))
theorem atsOf_snoc {L : Nat} (pre : List (BkOf L)) (x : BkOf L) : atsOf (pre ++ [x]) = atsOf pre ++ [((x.1.at' : Nat) : Int)] := by simp [atsOf]
theorem atsOf_bd {L : Nat} (hL : L * 8 ≤ 140737488351232) (pre : List (BkOf L)) : ∀ z ∈ atsOf pre, -9223372036854775808 ≤ z ∧ z ≤ 9223372036854775807 := by
  intro z hz
  obtain ⟨b, _, rfl⟩ := List.mem_map.1 hz
  have := b.2
  constructor <;> omega
theorem atsOf_len {L : Nat} (pre : List (BkOf L)) : (atsOf pre).length = pre.length := by simp [atsOf]

theorem append_box {W w1 : World} {nw nI B : Nat} {t : TypeId} {v v' : Value} {k m : Nat} {xs ys : List Value} {tmp : Obj}
    (hv : Boxed W B t v) (hte : t ≠ 3) (hrow : W.ownsRow nI 3 1 v k xs) (hn : nw ≤ nI) (hnW : nI ≤ W.heap.size) (hB : nw ≤ B)
    (hown' : w1.ownsRow nI 3 1 v' m ys) (hgrow : (W.alloc tmp).grownBy w1 v.ownBlock) :
    Boxed w1 B t v ∧ Boxed (w1.setCell ⟨B, 0, none⟩ v') B t v' ∧ (w1.setCell ⟨B, 0, none⟩ v').ownsRow nI 3 1 v' m ys ∧ KeepsOthers W (w1.setCell ⟨B, 0, none⟩ v') ∧ Below nw W (w1.setCell ⟨B, 0, none⟩ v') ∧ KeepX (fun k => k = B) nI W (w1.setCell ⟨B, 0, none⟩ v') := by
  obtain ⟨h1, h2, _, h4, h5⟩ := Boxed.appended hv hte (ownsRow_base hrow hn) (by omega) hB (ownsRow_base hown' hn) hgrow
  refine ⟨h1, h2, hown'.kept (grownBy_setCell' w1 B v') (.inr (h1.not_row hte hown').symm), h4, h5, h5.size, fun j o hj _ hx hi => ?_⟩
  rw [Below.heap_setCell _ _ _ _ hx]
  have hjl : j < W.heap.size := (Array.getElem?_eq_some_iff.1 hj).1
  refine (hgrow.block j (by simp; omega) (fun e => hi ?_)).trans ((heap_alloc_old W tmp j hjl).trans hj)
  rcases hrow.2 with ⟨rfl, _⟩ | ⟨g, cap, cur, rfl, hg, hc, _⟩
  · simp [Value.ownBlock] at e
  · obtain rfl : j = g := by simpa [Value.ownBlock] using e
    rw [hj] at hc; cases hc
    exact ⟨hg, cur, (0, 0), rfl⟩

set_option maxRecDepth 100000 in
set_option maxHeartbeats 2000000 in
theorem impl_Blocks_ok (w : World) (ao : Option Addr) (cap : Nat) (zs : List Int) (hI : Ints w ao zs) (hL : zs.length * 8 ≤ 140737488351232) :
    Calls Tryd.prog 35 #[.agg #[.slice ao zs.length cap]] w fun e w' => ∃ v, e = .returned v ∧ OwnL w' w.heap.size v (places zs) ∧ Kept w w' := by
  have b0 := Cells.new w 38 #[.slice ao zs.length cap]
  have k0 : Kept w (w.alloc (.cells #[.slice ao zs.length cap] 38)) := Kept.alloc (Below.refl _ _) _
  cases hok : slabOk zs with
  | false =>
    have HO : Hid (slabOk zs = false) := hok
    clear hok
    go_enter Tryd.func35, Tryd.ntmps35
    go_wp2_with (go_at_call 52; refine (impl_SlabOk_ok _ ao cap zs (hI.kept k0) hL).mono ?_; rintro e w1 ⟨rfl, hk1⟩; rw [HO.out])
    go_ret
    refine ⟨_, rfl, ?_, k0.trans hk1⟩
    have : places zs = [] := by simp [places, HO.out]
    rw [this]
    exact ⟨by simp, World.ownsRow_nil _ _ _ _⟩
  | true =>
    have HO : Hid (slabOk zs = true) := hok
    have hlen := slabOk_len hok
    clear hok
    obtain ⟨i0, hi, hz0, hz1, hz2⟩ := info_parts infoI
    refine (callsIn_wide (n := 3)).1 ?_
    refine callsIn_of_wp_marks Tryd.func35 rfl trivial ?_ rfl
    simp only [Tryd.ntmps35, List.size_toArray, List.length_cons, List.length_nil, Nat.reduceAdd, Nat.reduceSub, Array.replicate_succ, Array.replicate_zero, List.push_toArray, List.append_toArray, List.nil_append, List.cons_append]
    gi_wp2_with (first | (refine ⟨trivial, ?_⟩; gi_at_call 52; refine (callsIn_wide.2 (impl_SlabOk_ok _ ao cap zs (hI.kept k0) hL)).mono ?_; rintro e w1 ⟨rfl, hk1⟩; rw [HO.out]; have l0 := (b0.kept hk1).lt; have c0' := (b0.kept hk1).cell 0) | (refine ⟨trivial, ?_⟩; gi_at_call 53; refine (callsIn_wide.2 (blocksOf_ok _ _ _ _)).mono ?_; rintro e w2 ⟨rfl, rfl⟩))
    have bB := Cells.new (w1.alloc (.cells #[.slice none 0 0] 33)) 33 #[.slice ao zs.length cap]
    have bE := (Cells.new w1 33 #[.slice none 0 0]).alloc (.cells #[.slice ao zs.length cap] 33)
    have k1 := ((k0.trans hk1).alloc (.cells #[.slice none 0 0] 33)).alloc (.cells #[.slice ao zs.length cap] 33)
    have hs1 : w.heap.size + 1 ≤ w1.heap.size := by have := hk1.size; simp at this; omega
    have hsz : ((w1.alloc (.cells #[.slice none 0 0] 33)).alloc (.cells #[.slice ao zs.length cap] 33)).heap.size = w1.heap.size + 2 := by simp
    simp only [World.size_alloc] at bB
    obtain ⟨W0, hW0⟩ : ∃ W0, (w1.alloc (.cells #[.slice none 0 0] 33)).alloc (.cells #[.slice ao zs.length cap] 33) = W0 := ⟨_, rfl⟩
    rw [hW0] at bB bE k1 hsz ⊢
    clear hW0 b0 c0' k0
    refine range_blocks (X := fun k => k = w1.heap.size) (nX := w1.heap.size + 1) (zs := zs) (ao := ao) (cap := cap) (by omega) rfl (by simp) (by simp) (by decide) hL hI k1 (by intro k h; omega) (by intro k h; omega) (by intro k h; omega) (by omega) bB
      (fun pre W => (∃ v, Boxed W w1.heap.size 33 v ∧ W.ownsRow W0.heap.size 3 1 v (atsOf pre).length ((atsOf pre).map (Value.int .i64)) ∧ True) ∧ Below w.heap.size w W)
      (fun _ _ _ => False) ?oi (fun _ _ _ _ _ hs _ _ => hs) ⟨⟨_, bE, by simpa [atsOf] using World.ownsRow_nil _ _ _ _, trivial⟩, k1⟩ ?body ?done ?stop
    case oi => exact OwnFrom.and (Own.from (holdsRow_own W0.heap.size w1.heap.size 33 3 1 (fun pre => (atsOf pre).length) (fun pre => (atsOf pre).map (Value.int .i64)) (fun _ _ => True)) _) (ownFrom_below (Nat.le_refl _) (by omega))
    case body =>
      rintro l pre x W Bx hBx bX ⟨⟨v, hv, hrow, _⟩, hB1⟩ hlt
      have hx := x.2
      have c0 := bX.cell 0
      have c1 := bX.cell 1
      have c2 := bX.cell 2
      have lX := bX.lt
      have e1 := hv.cell
      have f1 := hv.frozen
      have l1 := hv.lt
      have hcount := blocks_count zs
      have hal : (atsOf pre).length ≤ 1000 := by rw [atsOf_len]; omega
      simp only [List.setIfInBounds_toArray, List.set_cons_succ, List.set_cons_zero]
      gi_wp2_with (gi_at_builtin; refine wpListIn_append_own _ rfl _ _ 33 rfl W0.heap.size 3 i0 (.int .i64 0) 1 8 Tryd.underlying33 hi hz0 hz1 hz2 rfl (by decide) _ _ _ rfl (hrow.alloc _) ⟨W.heap.size, 0, none⟩ 1 1 [.int .i64 (x.1.at' : Nat)] rfl rfl (cell_one_new _ _ _) (by simp [Value.oneCell']) (by unfold maxLen; omega) (by omega) (by simp; omega) ?_; intro v' w1' hown' hgrow _; obtain ⟨g', cap', rfl⟩ := ownsRow_succ hown'; obtain ⟨hv1, hv2, hr2, hk2, hb2, hx2⟩ := append_box (nw := w.heap.size) hv (by decide) hrow (by omega) (by omega) (by omega) hown' hgrow; have hc1 := hv1.cell; have hf1 := hv1.frozen)
      exact ⟨hk2.from _, hx2, ⟨_, hv2, by simpa [atsOf_snoc] using hr2, trivial⟩, hB1.trans hb2⟩
    case done =>
      rintro D W hD ⟨⟨v, hv, hrow, _⟩, hB1⟩ hK
      have e1 := hv.cell
      gi_wp2
      refine ⟨by simp, .inl ⟨_, _, rfl, run_takeDeferred hK, ?_⟩⟩
      refine ⟨_, results_tmp rfl _ _ _, v, rfl, ?_, hB1.trans (belowK_b (w := w) (Nat.le_refl _) W D _ _ (by omega) hK rfl rfl)⟩
      have hp : places zs = atsOf (blocks zs) := by simp [places, HO.out, atsOf]
      rw [hp]
      exact ⟨atsOf_bd hL _, ownsRow_base (ownsRow_putObj hrow _ hK rfl) (by omega)⟩
    case stop =>
      rintro D c pre W _ _ h _
      exact h.elim
end Go.Proofs.YthmabhglmgnamaaDoor
