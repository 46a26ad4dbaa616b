/-
  The contracts of the program's heapLayout, HeapOk and RootsOk.
-/
import Derived.Test.YthkhlmbhickdbaaShapeG
import Derived.Test.YthkhlmbhickdbaaShapeN
namespace Go.Proofs.Ythkhlmbhickdbaa
open Go.RowKit Go.Shelf
attribute [local go_sem] Oper.semAt_some

/-- Each of some blocks is as its kind asks. -/
def allB (zs : List Int) (l : List (BkOf zs.length)) : Bool := l.all (fun b => blkR zs b.1.at' b.1.size b.1.kind)
/-- The slab is right, and each block of it. -/
def heapR (zs : List Int) : Bool := slabOk zs && allB zs (blocks zs)
theorem allB_snoc (zs : List Int) (l : List (BkOf zs.length)) (b : BkOf zs.length) : allB zs (l ++ [b]) = (allB zs l && blkR zs b.1.at' b.1.size b.1.kind) := by simp [allB]
theorem allB_pre {zs : List Int} {l m : List (BkOf zs.length)} (h : l <+: m) (hf : allB zs l = false) : allB zs m = false := by
  obtain ⟨r, e⟩ := h
  rw [← e, allB, List.all_append, show l.all (fun b => blkR zs b.1.at' b.1.size b.1.kind) = false from hf, Bool.false_and]

theorem Ints.apart {W : World} {ao : Option Addr} {zs : List Int} (h : Ints W ao zs) {B : Nat} {t : TypeId} {cs : Array Value} (hc : Cells W B t cs) (hn : ∀ (j : Nat) (n : Int), cs[j]? ≠ some (Value.int .i64 n)) : ∀ a, zs ≠ [] → ao = some a → a.block ≠ B := by
  intro a hne e hb
  have hpos : 0 < zs.length := List.length_pos_iff.2 hne
  obtain ⟨b, off, e', hcell⟩ := h.at hpos
  rw [e] at e'
  cases e'
  have hx := hcell 0 hpos
  simp only at hb
  subst hb
  rw [hc.cell (off + 0)] at hx
  exact hn _ _ hx
theorem Kept.others {W W' : World} (h : Kept W W') : KeepsOthers W W' := KeepsOthers.of_grownBy h.grown (fun _ _ e _ => by cases e)
set_option maxRecDepth 100000 in
set_option maxHeartbeats 4000000 in
theorem heapLayout_ok (w : World) (ao : Option Addr) (cap : Nat) (zs : List Int) (hI : Ints w ao zs) (hl : zs.length ≤ 1048576) :
    Calls Try.prog 42 #[.agg #[.slice ao zs.length cap]] w fun e w' => (heapR zs = false → e = .returned (.tuple #[.slice none 0 0, .bool false])) ∧ (heapR zs = true → ∃ lo lc, e = .returned (.tuple #[.slice lo zs.length lc, .bool true]) ∧ Ints w' lo (lyt zs)) ∧ Kept w w' := by
  have hL : zs.length * 8 ≤ 140737488351232 := by omega
  have b0 := ((Cells.new w 28 #[.slice ao zs.length cap]).alloc (.cells #[.slice none 0 0] 53)).alloc (.cells #[.bool false] 4)
  have b1 := (Cells.new (w.alloc (.cells #[.slice ao zs.length cap] 28)) 53 #[.slice none 0 0]).alloc (.cells #[.bool false] 4)
  have b2 := Cells.new ((w.alloc (.cells #[.slice ao zs.length cap] 28)).alloc (.cells #[.slice none 0 0] 53)) 4 #[.bool false]
  simp only [World.size_alloc] at b0 b1 b2
  have k0 : Kept w (((w.alloc (.cells #[.slice ao zs.length cap] 28)).alloc (.cells #[.slice none 0 0] 53)).alloc (.cells #[.bool false] 4)) := ((Kept.alloc (Below.refl _ _) _).alloc _).alloc _
  have hLo := layoutOf_ok _ ao cap zs (hI.kept k0) hl
  have hsz0 : (((w.alloc (.cells #[.slice ao zs.length cap] 28)).alloc (.cells #[.slice none 0 0] 53)).alloc (.cells #[.bool false] 4)).heap.size = w.heap.size + 3 := by simp
  cases hok : slabOk zs with
  | false =>
    have HR : Hid (heapR zs = false) := by simp [Hid, heapR, hok]
    have hLo' := hLo.mono (R' := fun e w' => e = .returned (.tuple #[.slice none 0 0, .bool false]) ∧ Kept (((w.alloc (.cells #[.slice ao zs.length cap] 28)).alloc (.cells #[.slice none 0 0] 53)).alloc (.cells #[.bool false] 4)) w') (fun e w' h => ⟨h.1 hok, h.2.2⟩)
    clear hok hLo hI
    go_enter Try.func42, Try.ntmps42
    go_wp2_with (go_at_call 74; refine hLo'.mono ?_; rintro e w1 ⟨rfl, hk1⟩; have hs1 := hk1.size; rw [hsz0] at hs1; have b1' := b1.kept hk1; have b2' := b2.kept hk1; have c1 := b1'.cell 0; have f1 := b1'.frozen 0; have c2 := b2'.cell 0; have f2 := b2'.frozen 0; have l1 := b1'.lt; have l2 := b2'.lt)
    have q1 := ((b1'.set1 (.slice none 0 0)).other (p := ⟨w.heap.size + 1 + 1, 0, none⟩) (by simp) (.bool false)).alloc (.cells #[.slice none 0 0] 53)
    have q2 := ((b2'.other (p := ⟨w.heap.size + 1, 0, none⟩) (by simp) (.slice none 0 0)).set1 (.bool false)).alloc (.cells #[.slice none 0 0] 53)
    refine bodyPost_ret (v := .tuple #[.slice none 0 0, .bool false]) (by simp [results, Try.results42, go_sem, q1.cell 0, q2.cell 0]) rfl ⟨fun _ => rfl, fun h => absurd (HR.out.symm.trans h) (by simp), ?_⟩
    exact (((k0.trans hk1).set (p := ⟨w.heap.size + 1, 0, none⟩) (by simp) _).set (p := ⟨w.heap.size + 1 + 1, 0, none⟩) (by simp; omega) _).alloc _
  | true =>
    have hLo' := hLo.mono (R' := fun e w' => ∃ lo lc, e = .returned (.tuple #[.slice lo zs.length lc, .bool true]) ∧ Ints w' lo (lyt zs) ∧ Kept (((w.alloc (.cells #[.slice ao zs.length cap] 28)).alloc (.cells #[.slice none 0 0] 53)).alloc (.cells #[.bool false] 4)) w') (fun e w' h => by obtain ⟨lo, lc, h1, h2⟩ := h.2.1 hok; exact ⟨lo, lc, h1, h2, h.2.2⟩)
    have HE : Hid (heapR zs = allB zs (blocks zs)) := by simp [Hid, heapR, hok]
    clear hLo hok
    refine (callsIn_wide (n := 3)).1 ?_
    refine callsIn_of_wp_marks Try.func42 rfl trivial ?_ rfl
    simp only [Try.ntmps42, List.size_toArray, List.length_cons, List.length_nil, Nat.reduceAdd, Nat.reduceSub, Array.replicate_succ, Array.replicate_zero, List.push_toArray, List.append_toArray, List.nil_append, List.cons_append]
    refine wpIn_wide.2 ?_
    go_wp2_with fail
    refine hLo'.mono ?_
    rintro e w1 ⟨lo, lc, rfl, hLy, hk1⟩
    have hs1 := hk1.size
    rw [hsz0] at hs1
    have x0 := b0.kept hk1
    have cx0 := x0.cell 0
    have lx0 := x0.lt
    go_wp2_with (go_at_call 75; refine (blocksOf_ok _ _ _ _).mono ?_; rintro e w5 ⟨rfl, rfl⟩)
    have ka : Kept w1 ((w1.alloc (.cells #[.slice lo zs.length lc] 53)).alloc (.cells #[.slice ao zs.length cap] 22)) := (Kept.alloc (Below.refl _ _) _).alloc _
    have xl := (Cells.new w1 53 #[.slice lo zs.length lc]).alloc (.cells #[.slice ao zs.length cap] 22)
    have bB := Cells.new (w1.alloc (.cells #[.slice lo zs.length lc] 53)) 22 #[.slice ao zs.length cap]
    simp only [World.size_alloc] at bB
    have y0 := x0.kept ka
    have y1 := (b1.kept hk1).kept ka
    have y2 := (b2.kept hk1).kept ka
    have ly := hLy.kept ka
    have ky := (k0.trans hk1).trans ka
    have hsz : ((w1.alloc (.cells #[.slice lo zs.length lc] 53)).alloc (.cells #[.slice ao zs.length cap] 22)).heap.size = w1.heap.size + 2 := by simp
    obtain ⟨W0, hW0⟩ : ∃ W0, (w1.alloc (.cells #[.slice lo zs.length lc] 53)).alloc (.cells #[.slice ao zs.length cap] 22) = W0 := ⟨_, rfl⟩
    rw [hW0] at xl bB y0 y1 y2 ly ky hsz ⊢
    clear hW0 hLo' hLy x0 cx0 lx0 ka b0 b1 b2 k0 hk1 hsz0
    refine (wpIn_wide (n := 3)).1 ?_
    refine range_blocks (X := fun k => k = w.heap.size + 1 ∨ k = w.heap.size + 1 + 1) (nX := w.heap.size + 3) (zs := zs) (ao := ao) (cap := cap) (by omega) rfl (by simp) (by simp) (by decide) hL hI ky (by intro k h; omega) (by intro k h; omega) (by intro k h; omega) (by omega) bB
      (fun pre W => allB zs pre = true ∧ Below W0.heap.size W0 W)
      (fun c pre W => c = .ret ∧ allB zs pre = false ∧ (Cells W (w.heap.size + 1) 53 #[.slice none 0 0] ∧ Cells W (w.heap.size + 1 + 1) 4 #[.bool false]) ∧ Below w.heap.size w W)
      (OwnFrom.and (fun _ _ _ _ h _ _ => h) (ownFrom_below (Nat.le_refl _) (Nat.le_refl _))) ?ox ⟨rfl, Below.refl _ _⟩ ?body ?done ?stop
    case ox =>
      rintro c s Y Z row ⟨h1, h2, ⟨h3, h4⟩, hB⟩ hg hr
      exact ⟨h1, h2, ⟨Own.from (Cells.own _ _ (fun _ : Unit => _)) W0.heap.size () Y Z row h3 hg hr, Own.from (Cells.own _ _ (fun _ : Unit => _)) W0.heap.size () Y Z row h4 hg hr⟩, ownFrom_below (Nat.le_refl _) (by omega) s Y Z row hB hg hr⟩
    case body =>
      rintro l pre x W Bx hBx bX ⟨hp, hB1⟩ hlt
      have hx := x.2
      have c0 := bX.cell 0
      have c1 := bX.cell 1
      have c2 := bX.cell 2
      have d0 := (y0.kept hB1).cell 0
      have dl := (xl.kept hB1).cell 0
      have d1 := y1.kept hB1
      have d2 := y2.kept hB1
      have hBk := fun (u : World) (hu : Kept W u) => blockOk_ok u lo ao lc cap zs x.1.at' x.1.size x.1.kind ((ly.kept hB1).kept hu) ((hI.kept ky).kept (Kept.trans hB1 hu)) hl hx.2.1 hx.1 hx.2.2
      simp only [List.setIfInBounds_toArray, List.set_cons_succ, List.set_cons_zero]
      cases hv : blkR zs x.1.at' x.1.size x.1.kind with
      | true =>
        have HP : Hid (allB zs (pre ++ [x]) = true) := by show _ = _; rw [allB_snoc, hp, hv]; rfl
        rw [hv] at hBk
        clear hv hp
        gi_wp2_with (refine ⟨trivial, ?_⟩; gi_at_call 76; refine (CallsIn.inRound l (callsIn_wide.2 (hBk _ (Below.refl _ _)))).mono ?_; rintro e w4 ⟨rfl, hk4⟩)
        exact ⟨hk4.others.from _, KeepX.of hk4, HP.out, Kept.trans hB1 hk4⟩
      | false =>
        have HP : Hid (allB zs (pre ++ [x]) = false) := by show _ = _; rw [allB_snoc, hv, Bool.and_false]
        rw [hv] at hBk
        clear hv hp
        gi_wp2_with (refine ⟨trivial, ?_⟩; gi_at_call 76; refine (CallsIn.inRound l (callsIn_wide.2 (hBk _ (Below.refl _ _)))).mono ?_; rintro e w4 ⟨rfl, hk4⟩; have e1 := d1.kept hk4; have e2 := d2.kept hk4; have ce1 := e1.cell 0; have fe1 := e1.frozen 0; have ce2 := e2.cell 0; have fe2 := e2.frozen 0)
        refine ⟨((hk4.others.trans (KeepsOthers.setCell _ _ _)).trans (KeepsOthers.setCell _ _ _)).from _, rfl, HP.out, ⟨(e1.set1 _).other (by simp) _, (e2.other (by simp) _).set1 _⟩, (((ky.trans hB1).trans hk4).set (p := ⟨w.heap.size + 1, 0, none⟩) (by simp) _).set (p := ⟨w.heap.size + 1 + 1, 0, none⟩) (by simp; omega) _⟩
    case done =>
      rintro D W hD ⟨hp, hB1⟩ hK
      have d1 := y1.kept hB1
      have d2 := y2.kept hB1
      have dl := (xl.kept hB1).cell 0
      have e1 := d1.cell 0
      have f1 := d1.frozen 0
      have e2 := d2.cell 0
      have f2 := d2.frozen 0
      have HV : Hid (heapR zs = true) := by show _ = _; rw [HE.out]; exact hp
      clear hp
      go_wp2
      have hK' := ((KeepsOthers.setCell W ⟨w.heap.size + 1, 0, none⟩ (.slice lo zs.length lc)).trans (KeepsOthers.setCell _ ⟨w.heap.size + 1 + 1, 0, none⟩ (.bool true))).same D _ hK rfl
      refine ⟨by simp, .inl ⟨_, _, rfl, run_takeDeferred hK', ?_⟩⟩
      have q1 := ((d1.set1 (.slice lo zs.length lc)).other (p := ⟨w.heap.size + 1 + 1, 0, none⟩) (by simp) (.bool true)).put hK' rfl (.deferred none)
      have q2 := ((d2.other (p := ⟨w.heap.size + 1, 0, none⟩) (by simp) (.slice lo zs.length lc)).set1 (.bool true)).put hK' rfl (.deferred none)
      refine ⟨.tuple #[.slice lo zs.length lc, .bool true], by simp [results, Try.results42, go_sem, q1.cell 0, q2.cell 0], fun h => absurd (HV.out.symm.trans h) (by simp), fun _ => ⟨_, _, rfl, ?_⟩, ?_⟩
      · refine (((KeepX.of hB1).t (KeepX.setCell (X := fun k => k = w.heap.size + 1 ∨ k = w.heap.size + 1 + 1) (nI := W0.heap.size) (p := ⟨w.heap.size + 1, 0, none⟩) (.inl rfl) _)).t ((KeepX.setCell (p := ⟨w.heap.size + 1 + 1, 0, none⟩) (.inr rfl) _).t (KeepX.b _ D _ _ hK' rfl))).ints ly (fun a hne e => ⟨?_, ly.lt hne e⟩)
        have n1 := ly.apart y1 (by intro j n; cases j <;> simp) a hne e
        have n2 := ly.apart y2 (by intro j n; cases j <;> simp) a hne e
        omega
      · exact Below.trans (((ky.trans hB1).set (p := ⟨w.heap.size + 1, 0, none⟩) (by simp) _).set (p := ⟨w.heap.size + 1 + 1, 0, none⟩) (by simp; omega) _) (belowK_b (w := w) (Nat.le_refl _) _ D _ _ (by omega) hK' rfl rfl)
    case stop =>
      rintro D c pre W hD hpre ⟨rfl, hp, ⟨d1, d2⟩, hB⟩ hK
      have HV : Hid (heapR zs = false) := by show _ = _; rw [HE.out]; exact allB_pre hpre hp
      clear hp
      gi_wp2
      refine ⟨by simp, .inl ⟨_, _, rfl, run_takeDeferred hK, ?_⟩⟩
      have q1 := d1.put hK rfl (.deferred none)
      have q2 := d2.put hK rfl (.deferred none)
      refine ⟨.tuple #[.slice none 0 0, .bool false], by simp [results, Try.results42, go_sem, q1.cell 0, q2.cell 0], fun _ => rfl, fun h => absurd (HV.out.symm.trans h) (by simp), ?_⟩
      exact hB.trans (belowK_b (w := w) (Nat.le_refl _) _ D _ _ (by omega) hK rfl rfl)
set_option maxHeartbeats 2000000 in
theorem impl_HeapOk_ok (w : World) (ao : Option Addr) (cap : Nat) (zs : List Int) (hI : Ints w ao zs) (hl : zs.length ≤ 1048576) :
    Calls Try.prog 24 #[.agg #[.slice ao zs.length cap]] w fun e w' => e = .returned (.bool (heapR zs)) ∧ Kept w w' := by
  have k0 : Kept w (w.alloc (.cells #[.slice ao zs.length cap] 28)) := Kept.alloc (Below.refl _ _) _
  have hLo := heapLayout_ok _ ao cap zs (hI.kept k0) hl
  clear hI
  cases hh : heapR zs with
  | false =>
    have hLo' := hLo.mono (R' := fun e w' => e = .returned (.tuple #[.slice none 0 0, .bool false]) ∧ Kept (w.alloc (.cells #[.slice ao zs.length cap] 28)) w') (fun e w' h => ⟨h.1 hh, h.2.2⟩)
    clear hh hLo
    go_enter Try.func24, Try.ntmps24
    go_wp2_with (go_at_call 42; refine hLo'.mono ?_; rintro e w1 ⟨rfl, hk1⟩)
    go_ret
    exact ⟨rfl, k0.trans hk1⟩
  | true =>
    have hLo' := hLo.mono (R' := fun e w' => ∃ lo lc, e = .returned (.tuple #[.slice lo zs.length lc, .bool true]) ∧ Kept (w.alloc (.cells #[.slice ao zs.length cap] 28)) w') (fun e w' h => by obtain ⟨lo, lc, h1, h2⟩ := h.2.1 hh; exact ⟨lo, lc, h1, h.2.2⟩)
    clear hh hLo
    go_enter Try.func24, Try.ntmps24
    go_wp2_with (go_at_call 42; refine hLo'.mono ?_; rintro e w1 ⟨lo, lc, rfl, hk1⟩)
    go_ret
    exact ⟨rfl, k0.trans hk1⟩
end Go.Proofs.Ythkhlmbhickdbaa
