/-
  The contract of impl.Waste.
-/
import Derived.Test.YtblonbdagidfjaaWstP
import Derived.Test.YtblonbdagidfjaaNumB
import Derived.Maps.OwnIn
namespace Go.Proofs.Ytblonbdagidfjaa
open Go.RowKit Go.Shelf Go.Maps
attribute [local go_sem] Oper.semAt_some

theorem NumMap.has {w : World} {b : Nat} {out : List Int} (h : NumMap w b out) : ∃ (n : Nat) (D : DataW Unit), w.ownsMap Try.prog 3 (plainElem Try.prog 3) b n D ∧ ∀ a : Int, Maps.has D (.int .i64 a) = decide (a ∈ out) := by
  obtain ⟨n, D, h1, h2, _⟩ := h
  exact ⟨n, D, h1, fun a => h2.has a⟩
set_option maxRecDepth 100000 in
set_option maxHeartbeats 8000000 in
theorem impl_Waste_ok (w : World) (ao ro : Option Addr) (cap rc : Nat) (zs rs : List Int) (hI : Ints w ao zs) (hl : zs.length ≤ 1048576) (hR : Ints w ro rs) (hrl : rs.length ≤ 1048576) :
    Calls Try.prog 22 #[.agg #[.slice ao zs.length cap], .slice ro rs.length rc] w fun e w' => e = .returned (.int .i64 (wasteR zs rs : Nat)) ∧ Kept w w' := by
  have hL : zs.length * 8 ≤ 140737488351232 := by omega
  have b0 := Cells.new w 27 #[.slice ao zs.length cap]
  have k0 : Kept w (w.alloc (.cells #[.slice ao zs.length cap] 27)) := Kept.alloc (Below.refl _ _) _
  have hRo := impl_RootsOk_ok _ ao ro cap rc zs rs (hI.kept k0) hl (hR.kept k0) hrl
  cases hr : rootsR zs rs with
  | false =>
    have HR : Hid (wasteR zs rs = 0) := by simp [Hid, wasteR, hr]
    rw [hr] at hRo
    clear hr hI hR
    go_enter Try.func22, Try.ntmps22
    go_wp2_with (go_at_call 27; refine hRo.mono ?_; rintro e w1 ⟨rfl, hk1⟩)
    go_ret
    exact ⟨by rw [HR.out]; rfl, k0.trans hk1⟩
  | true =>
    have HR : Hid (wasteR zs rs = wstOf (ordL zs rs) (blocks zs)) := by simp [Hid, wasteR, hr]
    have hlen := slabOk_len (rootsR_ok hr)
    rw [hr] at hRo
    have HMF : Hid _ := fun (u : World) (hu : Kept w u) => metFrom_ok u ao ro cap rc zs rs (hI.kept hu) hl (hR.kept hu) hrl hr
    obtain ⟨out, hout⟩ : ∃ out, ordL zs rs = out := ⟨_, rfl⟩
    rw [hout] at HMF HR
    clear hr hout
    refine (callsIn_wide (n := 3)).1 ?_
    refine callsIn_of_wp_marks Try.func22 rfl trivial ?_ rfl
    simp only [Try.ntmps22, List.size_toArray, List.length_cons, List.length_nil, Nat.reduceAdd, Nat.reduceSub, Array.replicate_succ, Array.replicate_zero, List.push_toArray, List.append_toArray, List.nil_append, List.cons_append]
    gi_wp2_with (first
      | (refine ⟨trivial, ?_⟩; gi_at_call 27; refine (callsIn_wide.2 hRo).mono ?_; rintro e w1 ⟨rfl, hk1⟩; have c1 := (b0.kept hk1).cell 0)
      | (refine ⟨trivial, ?_⟩; gi_at_call 28; refine (callsIn_wide.2 (HMF.out _ (k0.trans hk1))).mono ?_; rintro e w2 ⟨b, rfl, hb, hN, hk2⟩; have c2 := ((b0.kept hk1).kept hk2).cell 0; have c2' := (((b0.kept hk1).kept hk2).alloc (.cells #[.map (some b)] 43)).cell 0; have c2'' := ((((b0.kept hk1).kept hk2).alloc (.cells #[.map (some b)] 43)).alloc (.cells #[.int .i64 0] 3)).cell 0; have l2 := ((b0.kept hk1).kept hk2).lt)
      | (refine ⟨trivial, ?_⟩; gi_at_call 37; refine (callsIn_wide.2 (blocksOf_ok _ _ _ _)).mono ?_; rintro e w3 ⟨rfl, rfl⟩))
    have bN := ((Cells.new w2 43 #[.map (some b)]).alloc (.cells #[.int .i64 0] 3)).alloc (.cells #[.slice ao zs.length cap] 22)
    have bE := (Cells.new (w2.alloc (.cells #[.map (some b)] 43)) 3 #[.int .i64 0]).alloc (.cells #[.slice ao zs.length cap] 22)
    have bB := Cells.new ((w2.alloc (.cells #[.map (some b)] 43)).alloc (.cells #[.int .i64 0] 3)) 22 #[.slice ao zs.length cap]
    have k2 : Kept w2 (((w2.alloc (.cells #[.map (some b)] 43)).alloc (.cells #[.int .i64 0] 3)).alloc (.cells #[.slice ao zs.length cap] 22)) := ((Kept.alloc (Below.refl _ _) _).alloc _).alloc _
    have hsz : (((w2.alloc (.cells #[.map (some b)] 43)).alloc (.cells #[.int .i64 0] 3)).alloc (.cells #[.slice ao zs.length cap] 22)).heap.size = w2.heap.size + 3 := by simp
    simp only [World.size_alloc] at bB bE
    have kw2 := (k0.trans hk1).trans hk2
    have hs2 := kw2.size
    obtain ⟨W0, hW0⟩ : ∃ W0, ((w2.alloc (.cells #[.map (some b)] 43)).alloc (.cells #[.int .i64 0] 3)).alloc (.cells #[.slice ao zs.length cap] 22) = W0 := ⟨_, rfl⟩
    rw [hW0] at bN bE bB k2 hsz ⊢
    have hI2 := hI.kept kw2
    have HK : Hid (Kept w w2) := kw2
    clear hW0 b0 c1 c2 c2' c2'' k0 hRo HMF hI hR kw2 hk1 hk2 l2
    refine range_blocks (X := fun k => k = w2.heap.size + 1) (nX := w2.heap.size + 2) (zs := zs) (ao := ao) (cap := cap) (by omega) rfl (by simp) (by simp) (by decide) hL hI2 k2 (by intro k h; omega) (by intro k h; omega) (by intro k h; omega) (by omega) bB
      (fun pre W => (Cells W (w2.heap.size + 1) 3 #[.int .i64 ((wstOf out pre : Nat) : Int)] ∧ Cells W w2.heap.size 43 #[.map (some b)]) ∧ Below w2.heap.size w2 W)
      (fun _ _ _ => False) ?oi (fun _ _ _ _ _ hs _ _ => hs) ⟨⟨bE, bN⟩, k2⟩ ?body ?done ?stop
    case oi => exact OwnFrom.and (OwnFrom.and (Own.from (Cells.own _ _ (fun pre => #[.int .i64 ((wstOf out pre : Nat) : Int)])) _) (Own.from (Cells.own _ _ _) _)) (ownFrom_below (Nat.le_refl _) (by omega))
    case body =>
      rintro l pre x W Bx hBx bX ⟨⟨d1, d2⟩, hB1⟩ hlt
      have hx := x.2
      have c0 := bX.cell 0
      have c1 := bX.cell 1
      have c2 := bX.cell 2
      have lX := bX.lt
      have e1 := d1.cell 0
      have f1 := d1.frozen 0
      have l1 := d1.lt
      have e2 := d2.cell 0
      have l2 := d2.lt
      have hr0 := wstOf_any out pre
      have hr1 := blocks_count zs
      have hr2 : pre.length * zs.length ≤ 1000 * 2000 := Nat.mul_le_mul (by omega) hlen
      have hr3 : wstOf out pre ≤ 2000000 := by omega
      clear hr0 hr1 hr2
      obtain ⟨n, D, hown, hhas⟩ := (hN.kept (Kept.grown hB1) (fun h => by cases h)).has
      have hh := hhas ((x.1.at' : Nat) : Int)
      clear hhas
      simp only [List.setIfInBounds_toArray, List.set_cons_succ, List.set_cons_zero]
      by_cases hin : ((x.1.at' : Nat) : Int) ∈ out
      · have HN : Hid (wstOf out (pre ++ [x]) = wstOf out pre) := wstOf_no (fun h => h.2 hin)
        rw [decide_eq_true hin] at hh
        clear hin
        gi_wp2_with (first | (gi_at_lookup; refine wpListIn_lookup_own_ok_int _ rfl _ _ 43 rfl 3 3 .i64 lawN Try.underlying43 Try.underlying3 (Try.zeroValue3 _) b n _ rfl hown _ _ rfl (keyOf_int_mk Try.underlying3 (WalkArith.wf_i64 (by omega))) ?_; intro c hat hwc; clear hat; rw [hh]) | (refine ⟨trivial, ?_⟩))
        refine ⟨(KeepsOthers.refl _).from _, KeepX.of (Below.refl _ _), ⟨?_, d2⟩, hB1⟩
        rw [HN.out]
        exact d1
      · rw [decide_eq_false hin] at hh
        by_cases hq : x.1.kind = 0
        · have HN : Hid (wstOf out (pre ++ [x]) = wstOf out pre) := wstOf_no (fun h => h.1 hq)
          have hq' : (((x.1.kind : Nat) : Int) == 0) = true := by simp [hq]
          clear hin hq
          gi_wp2_with (first | (gi_at_lookup; refine wpListIn_lookup_own_ok_int _ rfl _ _ 43 rfl 3 3 .i64 lawN Try.underlying43 Try.underlying3 (Try.zeroValue3 _) b n _ rfl hown _ _ rfl (keyOf_int_mk Try.underlying3 (WalkArith.wf_i64 (by omega))) ?_; intro c hat hwc; clear hat; rw [hh]) | (refine ⟨trivial, ?_⟩; gi_at_call 38; refine (CallsIn.inRound l (callsIn_wide.2 (free_ok _ _ _ _))).mono ?_; rintro e w4 ⟨rfl, rfl⟩))
          refine ⟨(KeepsOthers.alloc _ _).from _, KeepX.of (Kept.alloc (Below.refl _ _) _), ⟨?_, d2.alloc _⟩, hB1.alloc hB1.size _⟩
          rw [HN.out]
          exact d1.alloc _
        · have HN : Hid (((wstOf out (pre ++ [x]) : Nat) : Int) = (wstOf out pre : Nat) + (x.1.size : Nat)) := by rw [Hid, wstOf_yes hq hin]; simp
          have hq' : (((x.1.kind : Nat) : Int) == 0) = false := by simpa using hq
          clear hin hq
          gi_wp2_with (first | (gi_at_lookup; refine wpListIn_lookup_own_ok_int _ rfl _ _ 43 rfl 3 3 .i64 lawN Try.underlying43 Try.underlying3 (Try.zeroValue3 _) b n _ rfl hown _ _ rfl (keyOf_int_mk Try.underlying3 (WalkArith.wf_i64 (by omega))) ?_; intro c hat hwc; clear hat; rw [hh]) | (refine ⟨trivial, ?_⟩; gi_at_call 38; refine (CallsIn.inRound l (callsIn_wide.2 (free_ok _ _ _ _))).mono ?_; rintro e w4 ⟨rfl, rfl⟩))
          refine ⟨((KeepsOthers.setCell _ _ _).trans (KeepsOthers.alloc _ _)).from _, (KeepX.setCell (X := fun k => k = w2.heap.size + 1) (p := ⟨w2.heap.size + 1, 0, none⟩) rfl _).t (KeepX.of (Kept.alloc (Below.refl _ _) _)), ⟨?_, (d2.other (by intro h; simp at h) _).alloc _⟩, (hB1.setCell (p := ⟨w2.heap.size + 1, 0, none⟩) (by simp) _).alloc (by have := hB1.size; simpa [World.setCell] using this) _⟩
          rw [HN.out]
          exact (d1.set1 _).alloc _
    case done =>
      rintro D W hD ⟨⟨d1, d2⟩, hB1⟩ hK
      have e1 := d1.cell 0
      gi_wp2
      refine ⟨by simp, .inl ⟨_, _, rfl, run_takeDeferred hK, ?_⟩⟩
      refine ⟨_, results_tmp rfl _ _ _, ?_, HK.out.trans ((hB1.trans (belowK_b (w := w2) (Nat.le_refl _) W D _ _ (by omega) hK rfl rfl)).mono (by omega))⟩
      simp [HR.out]
    case stop =>
      rintro D c pre W _ _ h _
      exact h.elim
end Go.Proofs.Ytblonbdagidfjaa
