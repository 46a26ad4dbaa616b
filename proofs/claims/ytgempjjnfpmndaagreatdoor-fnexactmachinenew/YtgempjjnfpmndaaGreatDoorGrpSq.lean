/-
  The contracts of the program's heapLayout, HeapOk and RootsOk.
  The contracts of chapter 3's models HeapOk and RootsOk, and of the program's RootsOk.
-/
import Derived.Test.YtgempjjnfpmndaaGreatDoorGrpSf
import Derived.Test.YtgempjjnfpmndaaGreatDoorGrpSn
import Derived.Test.YtgempjjnfpmndaaGreatDoorZSlabR
namespace Go.Proofs.YtgempjjnfpmndaaGreatDoor
open Go.RowKit Go.Shelf
attribute [local go_sem] Oper.semAt_some

/-- Each of some blocks is as its kind asks. -/
def allB (zs : List Int) (l : List (BkOf zs.length)) : Bool := l.all (fun b => blkR zs b.1.at' b.1.size b.1.kind)
/-- The slab is right, and each block of it. -/
def heapR (zs : List Int) : Bool := slabOk zs && allB zs (blocks zs)
theorem allB_snoc (zs : List Int) (l : List (BkOf zs.length)) (b : BkOf zs.length) : allB zs (l ++ [b]) = (allB zs l && blkR zs b.1.at' b.1.size b.1.kind) := by simp [allB]
theorem allB_pre {zs : List Int} {l m : List (BkOf zs.length)} (h : l <+: m) (hf : allB zs l = false) : allB zs m = false := by
  obtain ⟨r, e⟩ := h
  rw [← e, allB, List.all_append, show l.all (fun b => blkR zs b.1.at' b.1.size b.1.kind) = false from hf, Bool.false_and]

theorem Ints.apart {W : World} {ao : Option Addr} {zs : List Int} (h : Ints W ao zs) {B : Nat} {t : TypeId} {cs : Array Value} (hc : Cells W B t cs) (hn : ∀ (j : Nat) (n : Int), cs[j]? ≠ some (Value.int .i64 n)) : ∀ a, zs ≠ [] → ao = some a → a.block ≠ B := by
  intro a hne e hb
  have hpos : 0 < zs.length := List.length_pos_iff.2 hne
  obtain ⟨b, off, e', hcell⟩ := h.at hpos
  rw [e] at e'
  cases e'
  have hx := hcell 0 hpos
  simp only at hb
  subst hb
  rw [hc.cell (off + 0)] at hx
  exact hn _ _ hx
theorem Kept.others {W W' : World} (h : Kept W W') : KeepsOthers W W' := KeepsOthers.of_grownBy h.grown (fun _ _ e _ => by cases e)
set_option maxRecDepth 100000 in
set_option maxHeartbeats 4000000 in
theorem heapLayout_ok (w : World) (ao : Option Addr) (cap : Nat) (zs : List Int) (hI : Ints w ao zs) (hl : zs.length ≤ 1048576) :
    Calls Tryz.prog 103 #[.agg #[.slice ao zs.length cap]] w fun e w' => (heapR zs = false → e = .returned (.tuple #[.slice none 0 0, .bool false])) ∧ (heapR zs = true → ∃ lo lc, e = .returned (.tuple #[.slice lo zs.length lc, .bool true]) ∧ Ints w' lo (lyt zs)) ∧ Kept w w' := by
  have hL : zs.length * 8 ≤ 140737488351232 := by omega
  have b0 := ((Cells.new w 39 #[.slice ao zs.length cap]).alloc (.cells #[.slice none 0 0] 117)).alloc (.cells #[.bool false] 4)
  have b1 := (Cells.new (w.alloc (.cells #[.slice ao zs.length cap] 39)) 117 #[.slice none 0 0]).alloc (.cells #[.bool false] 4)
  have b2 := Cells.new ((w.alloc (.cells #[.slice ao zs.length cap] 39)).alloc (.cells #[.slice none 0 0] 117)) 4 #[.bool false]
  simp only [World.size_alloc] at b0 b1 b2
  have k0 : Kept w (((w.alloc (.cells #[.slice ao zs.length cap] 39)).alloc (.cells #[.slice none 0 0] 117)).alloc (.cells #[.bool false] 4)) := ((Kept.alloc (Below.refl _ _) _).alloc _).alloc _
  have hLo := layoutOf_ok _ ao cap zs (hI.kept k0) hl
  have hsz0 : (((w.alloc (.cells #[.slice ao zs.length cap] 39)).alloc (.cells #[.slice none 0 0] 117)).alloc (.cells #[.bool false] 4)).heap.size = w.heap.size + 3 := by simp
  cases hok : slabOk zs with
  | false =>
    have HR : Hid (heapR zs = false) := by simp [Hid, heapR, hok]
    have hLo' := hLo.mono (R' := fun e w' => e = .returned (.tuple #[.slice none 0 0, .bool false]) ∧ Kept (((w.alloc (.cells #[.slice ao zs.length cap] 39)).alloc (.cells #[.slice none 0 0] 117)).alloc (.cells #[.bool false] 4)) w') (fun e w' h => ⟨h.1 hok, h.2.2⟩)
    clear hok hLo hI
    go_enter Tryz.func103, Tryz.ntmps103
    go_wp2_with (go_at_call 136; refine hLo'.mono ?_; rintro e w1 ⟨rfl, hk1⟩; have hs1 := hk1.size; rw [hsz0] at hs1; have b1' := b1.kept hk1; have b2' := b2.kept hk1; have c1 := b1'.cell 0; have f1 := b1'.frozen 0; have c2 := b2'.cell 0; have f2 := b2'.frozen 0; have l1 := b1'.lt; have l2 := b2'.lt)
    have q1 := ((b1'.set1 (.slice none 0 0)).other (p := ⟨w.heap.size + 1 + 1, 0, none⟩) (by simp) (.bool false)).alloc (.cells #[.slice none 0 0] 117)
    have q2 := ((b2'.other (p := ⟨w.heap.size + 1, 0, none⟩) (by simp) (.slice none 0 0)).set1 (.bool false)).alloc (.cells #[.slice none 0 0] 117)
    refine bodyPost_ret (v := .tuple #[.slice none 0 0, .bool false]) (by simp [results, Tryz.results103, go_sem, q1.cell 0, q2.cell 0]) rfl ⟨fun _ => rfl, fun h => absurd (HR.out.symm.trans h) (by simp), ?_⟩
    exact (((k0.trans hk1).set (p := ⟨w.heap.size + 1, 0, none⟩) (by simp) _).set (p := ⟨w.heap.size + 1 + 1, 0, none⟩) (by simp; omega) _).alloc _
  | true =>
    have hLo' := hLo.mono (R' := fun e w' => ∃ lo lc, e = .returned (.tuple #[.slice lo zs.length lc, .bool true]) ∧ Ints w' lo (lyt zs) ∧ Kept (((w.alloc (.cells #[.slice ao zs.length cap] 39)).alloc (.cells #[.slice none 0 0] 117)).alloc (.cells #[.bool false] 4)) w') (fun e w' h => by obtain ⟨lo, lc, h1, h2⟩ := h.2.1 hok; exact ⟨lo, lc, h1, h2, h.2.2⟩)
    have HE : Hid (heapR zs = allB zs (blocks zs)) := by simp [Hid, heapR, hok]
    clear hLo hok
    refine (callsIn_wide (n := 3)).1 ?_
    refine callsIn_of_wp_marks Tryz.func103 rfl trivial ?_ rfl
    simp only [Tryz.ntmps103, List.size_toArray, List.length_cons, List.length_nil, Nat.reduceAdd, Nat.reduceSub, Array.replicate_succ, Array.replicate_zero, List.push_toArray, List.append_toArray, List.nil_append, List.cons_append]
    refine wpIn_wide.2 ?_
    go_wp2_with fail
    refine hLo'.mono ?_
    rintro e w1 ⟨lo, lc, rfl, hLy, hk1⟩
    have hs1 := hk1.size
    rw [hsz0] at hs1
    have x0 := b0.kept hk1
    have cx0 := x0.cell 0
    have lx0 := x0.lt
    go_wp2_with (go_at_call 145; refine (blocksOf_ok _ _ _ _).mono ?_; rintro e w5 ⟨rfl, rfl⟩)
    have ka : Kept w1 ((w1.alloc (.cells #[.slice lo zs.length lc] 117)).alloc (.cells #[.slice ao zs.length cap] 26)) := (Kept.alloc (Below.refl _ _) _).alloc _
    have xl := (Cells.new w1 117 #[.slice lo zs.length lc]).alloc (.cells #[.slice ao zs.length cap] 26)
    have bB := Cells.new (w1.alloc (.cells #[.slice lo zs.length lc] 117)) 26 #[.slice ao zs.length cap]
    simp only [World.size_alloc] at bB
    have y0 := x0.kept ka
    have y1 := (b1.kept hk1).kept ka
    have y2 := (b2.kept hk1).kept ka
    have ly := hLy.kept ka
    have ky := (k0.trans hk1).trans ka
    have hsz : ((w1.alloc (.cells #[.slice lo zs.length lc] 117)).alloc (.cells #[.slice ao zs.length cap] 26)).heap.size = w1.heap.size + 2 := by simp
    obtain ⟨W0, hW0⟩ : ∃ W0, (w1.alloc (.cells #[.slice lo zs.length lc] 117)).alloc (.cells #[.slice ao zs.length cap] 26) = W0 := ⟨_, rfl⟩
    rw [hW0] at xl bB y0 y1 y2 ly ky hsz ⊢
    clear hW0 hLo' hLy x0 cx0 lx0 ka b0 b1 b2 k0 hk1 hsz0
    refine (wpIn_wide (n := 3)).1 ?_
    refine range_blocks (X := fun k => k = w.heap.size + 1 ∨ k = w.heap.size + 1 + 1) (nX := w.heap.size + 3) (zs := zs) (ao := ao) (cap := cap) (by omega) rfl (by simp) (by simp) (by decide) hL hI ky (by intro k h; omega) (by intro k h; omega) (by intro k h; omega) (by omega) bB
      (fun pre W => allB zs pre = true ∧ Below W0.heap.size W0 W)
      (fun c pre W => c = .ret ∧ allB zs pre = false ∧ (Cells W (w.heap.size + 1) 117 #[.slice none 0 0] ∧ Cells W (w.heap.size + 1 + 1) 4 #[.bool false]) ∧ Below w.heap.size w W)
      (OwnFrom.and (fun _ _ _ _ h _ _ => h) (ownFrom_below (Nat.le_refl _) (Nat.le_refl _))) ?ox ⟨rfl, Below.refl _ _⟩ ?body ?done ?stop
    case ox =>
      rintro c s Y Z row ⟨h1, h2, ⟨h3, h4⟩, hB⟩ hg hr
      exact ⟨h1, h2, ⟨Own.from (Cells.own _ _ (fun _ : Unit => _)) W0.heap.size () Y Z row h3 hg hr, Own.from (Cells.own _ _ (fun _ : Unit => _)) W0.heap.size () Y Z row h4 hg hr⟩, ownFrom_below (Nat.le_refl _) (by omega) s Y Z row hB hg hr⟩
    case body =>
      rintro l pre x W Bx hBx bX ⟨hp, hB1⟩ hlt
      have hx := x.2
      have c0 := bX.cell 0
      have c1 := bX.cell 1
      have c2 := bX.cell 2
      have d0 := (y0.kept hB1).cell 0
      have dl := (xl.kept hB1).cell 0
      have d1 := y1.kept hB1
      have d2 := y2.kept hB1
      have hBk := fun (u : World) (hu : Kept W u) => blockOk_ok u lo ao lc cap zs x.1.at' x.1.size x.1.kind ((ly.kept hB1).kept hu) ((hI.kept ky).kept (Kept.trans hB1 hu)) hl hx.2.1 hx.1 hx.2.2
      simp only [List.setIfInBounds_toArray, List.set_cons_succ, List.set_cons_zero]
      cases hv : blkR zs x.1.at' x.1.size x.1.kind with
      | true =>
        have HP : Hid (allB zs (pre ++ [x]) = true) := by show _ = _; rw [allB_snoc, hp, hv]; rfl
        rw [hv] at hBk
        clear hv hp
        gi_wp2_with (refine ⟨trivial, ?_⟩; gi_at_call 146; refine (CallsIn.inRound l (callsIn_wide.2 (hBk _ (Below.refl _ _)))).mono ?_; rintro e w4 ⟨rfl, hk4⟩)
        exact ⟨hk4.others.from _, KeepX.of hk4, HP.out, Kept.trans hB1 hk4⟩
      | false =>
        have HP : Hid (allB zs (pre ++ [x]) = false) := by show _ = _; rw [allB_snoc, hv, Bool.and_false]
        rw [hv] at hBk
        clear hv hp
        gi_wp2_with (refine ⟨trivial, ?_⟩; gi_at_call 146; refine (CallsIn.inRound l (callsIn_wide.2 (hBk _ (Below.refl _ _)))).mono ?_; rintro e w4 ⟨rfl, hk4⟩; have e1 := d1.kept hk4; have e2 := d2.kept hk4; have ce1 := e1.cell 0; have fe1 := e1.frozen 0; have ce2 := e2.cell 0; have fe2 := e2.frozen 0)
        refine ⟨((hk4.others.trans (KeepsOthers.setCell _ _ _)).trans (KeepsOthers.setCell _ _ _)).from _, rfl, HP.out, ⟨(e1.set1 _).other (by simp) _, (e2.other (by simp) _).set1 _⟩, (((ky.trans hB1).trans hk4).set (p := ⟨w.heap.size + 1, 0, none⟩) (by simp) _).set (p := ⟨w.heap.size + 1 + 1, 0, none⟩) (by simp; omega) _⟩
    case done =>
      rintro D W hD ⟨hp, hB1⟩ hK
      have d1 := y1.kept hB1
      have d2 := y2.kept hB1
      have dl := (xl.kept hB1).cell 0
      have e1 := d1.cell 0
      have f1 := d1.frozen 0
      have e2 := d2.cell 0
      have f2 := d2.frozen 0
      have HV : Hid (heapR zs = true) := by show _ = _; rw [HE.out]; exact hp
      clear hp
      go_wp2
      have hK' := ((KeepsOthers.setCell W ⟨w.heap.size + 1, 0, none⟩ (.slice lo zs.length lc)).trans (KeepsOthers.setCell _ ⟨w.heap.size + 1 + 1, 0, none⟩ (.bool true))).same D _ hK rfl
      refine ⟨by simp, .inl ⟨_, _, rfl, run_takeDeferred hK', ?_⟩⟩
      have q1 := ((d1.set1 (.slice lo zs.length lc)).other (p := ⟨w.heap.size + 1 + 1, 0, none⟩) (by simp) (.bool true)).put hK' rfl (.deferred none)
      have q2 := ((d2.other (p := ⟨w.heap.size + 1, 0, none⟩) (by simp) (.slice lo zs.length lc)).set1 (.bool true)).put hK' rfl (.deferred none)
      refine ⟨.tuple #[.slice lo zs.length lc, .bool true], by simp [results, Tryz.results103, go_sem, q1.cell 0, q2.cell 0], fun h => absurd (HV.out.symm.trans h) (by simp), fun _ => ⟨_, _, rfl, ?_⟩, ?_⟩
      · refine (((KeepX.of hB1).t (KeepX.setCell (X := fun k => k = w.heap.size + 1 ∨ k = w.heap.size + 1 + 1) (nI := W0.heap.size) (p := ⟨w.heap.size + 1, 0, none⟩) (.inl rfl) _)).t ((KeepX.setCell (p := ⟨w.heap.size + 1 + 1, 0, none⟩) (.inr rfl) _).t (KeepX.b _ D _ _ hK' rfl))).ints ly (fun a hne e => ⟨?_, ly.lt hne e⟩)
        have n1 := ly.apart y1 (by intro j n; cases j <;> simp) a hne e
        have n2 := ly.apart y2 (by intro j n; cases j <;> simp) a hne e
        omega
      · exact Below.trans (((ky.trans hB1).set (p := ⟨w.heap.size + 1, 0, none⟩) (by simp) _).set (p := ⟨w.heap.size + 1 + 1, 0, none⟩) (by simp; omega) _) (belowK_b (w := w) (Nat.le_refl _) _ D _ _ (by omega) hK' rfl rfl)
    case stop =>
      rintro D c pre W hD hpre ⟨rfl, hp, ⟨d1, d2⟩, hB⟩ hK
      have HV : Hid (heapR zs = false) := by show _ = _; rw [HE.out]; exact allB_pre hpre hp
      clear hp
      gi_wp2
      refine ⟨by simp, .inl ⟨_, _, rfl, run_takeDeferred hK, ?_⟩⟩
      have q1 := d1.put hK rfl (.deferred none)
      have q2 := d2.put hK rfl (.deferred none)
      refine ⟨.tuple #[.slice none 0 0, .bool false], by simp [results, Tryz.results103, go_sem, q1.cell 0, q2.cell 0], fun _ => rfl, fun h => absurd (HV.out.symm.trans h) (by simp), ?_⟩
      exact hB.trans (belowK_b (w := w) (Nat.le_refl _) _ D _ _ (by omega) hK rfl rfl)
set_option maxHeartbeats 2000000 in
theorem impl_HeapOk_ok (w : World) (ao : Option Addr) (cap : Nat) (zs : List Int) (hI : Ints w ao zs) (hl : zs.length ≤ 1048576) :
    Calls Tryz.prog 127 #[.agg #[.slice ao zs.length cap]] w fun e w' => e = .returned (.bool (heapR zs)) ∧ Kept w w' := by
  have k0 : Kept w (w.alloc (.cells #[.slice ao zs.length cap] 39)) := Kept.alloc (Below.refl _ _) _
  have hLo := heapLayout_ok _ ao cap zs (hI.kept k0) hl
  clear hI
  cases hh : heapR zs with
  | false =>
    have hLo' := hLo.mono (R' := fun e w' => e = .returned (.tuple #[.slice none 0 0, .bool false]) ∧ Kept (w.alloc (.cells #[.slice ao zs.length cap] 39)) w') (fun e w' h => ⟨h.1 hh, h.2.2⟩)
    clear hh hLo
    go_enter Tryz.func127, Tryz.ntmps127
    go_wp2_with (go_at_call 103; refine hLo'.mono ?_; rintro e w1 ⟨rfl, hk1⟩)
    go_ret
    exact ⟨rfl, k0.trans hk1⟩
  | true =>
    have hLo' := hLo.mono (R' := fun e w' => ∃ lo lc, e = .returned (.tuple #[.slice lo zs.length lc, .bool true]) ∧ Kept (w.alloc (.cells #[.slice ao zs.length cap] 39)) w') (fun e w' h => by obtain ⟨lo, lc, h1, h2⟩ := h.2.1 hh; exact ⟨lo, lc, h1, h.2.2⟩)
    clear hh hLo
    go_enter Tryz.func127, Tryz.ntmps127
    go_wp2_with (go_at_call 103; refine hLo'.mono ?_; rintro e w1 ⟨lo, lc, rfl, hk1⟩)
    go_ret
    exact ⟨rfl, k0.trans hk1⟩
end Go.Proofs.YtgempjjnfpmndaaGreatDoor
namespace Go.Proofs.YtgempjjnfpmndaaGreatDoor
open Go.RowKit
attribute [local go_sem] Plain.and7

theorem allB_take {zs : List Int} {k : Nat} (hk : k < (blocks zs).length) (h : allB zs ((blocks zs).take k) = true) : allB zs ((blocks zs).take (k + 1)) = blkR zs (blocks zs)[k].1.at' (blocks zs)[k].1.size (blocks zs)[k].1.kind := by
  rw [List.take_succ_eq_append_getElem hk, allB_snoc, h, Bool.true_and]

set_option maxHeartbeats 4000000 in
set_option maxRecDepth 100000 in
theorem spec_HeapOk_ok (w : World) (ao : Option Addr) (cap : Nat) (zs : List Int) (hI : Ints w ao zs) (hl : zs.length ≤ 1048576) :
    Calls Tryz.prog 117 #[.agg #[.slice ao zs.length cap]] w fun e w' => e = .returned (.bool (heapR zs)) ∧ Kept w w' := by
  have hL : zs.length * 8 ≤ 140737488351232 := by omega
  have b0 := Cells.new w 39 #[.slice ao zs.length cap]
  have k0 : Kept w (w.alloc (.cells #[.slice ao zs.length cap] 39)) := Kept.alloc (Below.refl _ _) _
  have hB := spec_Blocks_ok _ ao cap zs (hI.kept k0) hL
  have hS := fun (u : World) (hu : Kept w u) => spec_SlabOk_ok u ao cap zs (hI.kept hu) hL
  cases hok : slabOk zs with
  | false =>
    have HR : Hid (heapR zs = false) := by simp [Hid, heapR, hok]
    have hP : places zs = [] := by simp [places, hok]
    simp only [hok] at hS
    rw [hP] at hB
    clear hok hP hI
    go_enter Tryz.func117, Tryz.ntmps117
    go_wp2_with fail
    refine hB.mono ?_
    rintro e w1 ⟨v, rfl, ho, hk1⟩
    obtain ⟨la, lc, rfl, _⟩ := ho.ints
    have b1 := b0.kept hk1
    have c1 := b1.cell 0
    have k1 := k0.trans hk1
    clear ho hB
    simp only [List.length_nil]
    go_wp2_with fail
    go_loopw [4] (fun i wr => wr = w1 ∧ i = .int .i64 0) (fun _ _ => 0)
    case atStart => exact ⟨by first | rfl | trivial, rfl⟩
    case round =>
      obtain ⟨rfl, rfl⟩ := hrel
      go_wp2_with (go_at_call 115; refine (hS _ k1).mono ?_; rintro e w2 ⟨rfl, hk2⟩)
      go_ret
      exact ⟨by rw [HR.out]; rfl, k1.trans hk2⟩
  | true =>
    have HR : Hid (heapR zs = allB zs (blocks zs)) := by simp [Hid, heapR, hok]
    have hP : places zs = atsOf (blocks zs) := by simp [places, hok, atsOf]
    simp only [hok] at hS
    rw [hP] at hB
    have hlen : (atsOf (blocks zs)).length = (blocks zs).length := atsOf_len _
    have hcount := blocks_count zs
    have hat : ∀ k (hk : k < (blocks zs).length), hz (atsOf (blocks zs)) k = (((blocks zs)[k].1.at' : Nat) : Int) := fun k hk => by simp [hz, atsOf, hk]
    have hSh : ∀ k (hk : k < (blocks zs).length) (u : World), Kept w u → Calls Tryz.prog 158 #[.agg #[.slice ao zs.length cap], .int .i64 (((blocks zs)[k].1.at' : Nat) : Int)] u fun e w' => e = .returned (.bool (blkR zs (blocks zs)[k].1.at' (blocks zs)[k].1.size (blocks zs)[k].1.kind)) ∧ Kept u w' := fun k hk u hu => by
      have hm := blks_mem zs 0 (blocks zs)[k] (List.getElem_mem hk)
      exact l3Shape_ok u ao cap zs _ (hI.kept hu) hl hok hm.1 hm.2.1 hm.2.2
    have HSh : Hid _ := hSh
    have HAt : Hid _ := hat
    have HS : Hid _ := hS
    clear hok hP hI hSh hat hS
    go_enter Tryz.func117, Tryz.ntmps117
    go_wp2_with fail
    refine hB.mono ?_
    rintro e w1 ⟨v, rfl, ho, hk1⟩
    obtain ⟨la, lc, rfl, hi1⟩ := ho.ints
    rw [hlen]
    have b1 := b0.kept hk1
    have k1 := k0.trans hk1
    clear ho hB b0 k0 hk1
    obtain ⟨n, hn⟩ : ∃ n, (blocks zs).length = n := ⟨_, rfl⟩
    rw [hn]
    go_wp2_with fail
    go_loopw [4] (fun i wr => ∃ k : Nat, i = .int .i64 k ∧ k ≤ n ∧ allB zs ((blocks zs).take k) = true ∧ Kept w1 wr) (fun i _ => n - (intOf i).toNat)
    case atStart => exact ⟨0, rfl, Nat.zero_le _, rfl, Below.refl _ _⟩
    case round =>
      obtain ⟨k, rfl, hk, hok, hK⟩ := hrel
      by_cases hlt : k < n
      · have hkb : k < (blocks zs).length := by omega
        obtain ⟨ba, hba⟩ : ∃ ba, (((blocks zs)[k].1.at' : Nat) : Int) = ba := ⟨_, rfl⟩
        obtain ⟨bv, hbv⟩ : ∃ bv, blkR zs (blocks zs)[k].1.at' (blocks zs)[k].1.size (blocks zs)[k].1.kind = bv := ⟨_, rfl⟩
        have HN : Hid (allB zs ((blocks zs).take (k + 1)) = bv) := by show _ = _; rw [allB_take hkb hok, hbv]
        have hC : Hid (∀ u, Kept wr.drew u → Calls Tryz.prog 158 #[.agg #[.slice ao zs.length cap], .int .i64 ba] u fun e w' => e = .returned (.bool bv) ∧ Kept u w') := fun u hu => by
          have := HSh.out k hkb u (k1.trans (hK.trans (Kept.trans ((Below.refl _ wr).drew) hu)))
          rw [hba, hbv] at this
          exact this
        obtain ⟨bb, off, rfl, hc⟩ := hi1.at (k := k) (by rw [hlen]; exact hkb)
        have hck := hc k (by rw [hlen]; exact hkb)
        rw [HAt.out k hkb, hba] at hck
        have hbl : bb < w1.heap.size := World.block_lt_of_cell? _ _ hck
        have x0 : ∀ u, Kept wr.drew u → u.cell? ⟨w.heap.size, 0, none⟩ = some (.slice ao zs.length cap) := fun u hu => ((b1.kept hK).kept (Kept.trans ((Below.refl _ wr).drew) hu)).cell 0
        have y1 : ∀ u, Kept wr.drew u → u.cell? ⟨bb, off + k, none⟩ = some (.int .i64 ba) := fun u hu => ((hK.trans (Kept.trans ((Below.refl _ wr).drew) hu)).cell (p := ⟨bb, off + k, none⟩) hbl).trans hck
        have q1 : (k : Int) < (n : Int) := by omega
        have HK : Hid (Kept w1 wr) := hK
        have HX : Hid (Kept w w1) := k1
        clear hc hck hba hbv hok hi1 hK k1 b1
        go_wp2_with fail
        refine wp_region_seqL (by kernel_rfl) (by kernel_rfl) ?_
        repeat (first
          | (refine SeqL.pure ?_ (by rfl) ?_ ?_; rotate_left; (focus (intro u hu; have x0' := x0 u hu; have y1' := y1 u hu; go_simp; first | done | exact rfl)); simp only [Act.put, List.setIfInBounds_toArray, List.set_cons_zero, List.set_cons_succ])
          | (refine SeqL.call _ _ _ (by rfl) ?_ hC.out ?_; (focus (intro u; go_simp; done)); simp only [Act.put, List.setIfInBounds_toArray, List.set_cons_zero, List.set_cons_succ]))
        refine SeqL.nil ?_
        intro u hu
        have kd := Kept.trans ((Below.refl _ wr).drew) hu
        have hK' := HK.out.trans kd
        clear x0 y1 hC
        cases bv with
        | true =>
          go_wp2_with fail
          go_roundw
          case rel => exact ⟨k + 1, by go_num, by omega, HN.out, hK'⟩
          case measure => simp [intOf]; omega
        | false =>
          have HF : Hid (allB zs (blocks zs) = false) := allB_pre (List.take_prefix _ _) HN.out
          go_wp2
          go_ret
          exact ⟨by rw [HR.out, HF.out]; rfl, HX.out.trans hK'⟩
      · have HF : Hid (allB zs (blocks zs) = true) := by
          show _ = _
          rw [show k = (blocks zs).length by omega, List.take_length] at hok
          exact hok
        have c1 := (b1.kept hK).cell 0
        have hS1 := HS.out wr (k1.trans hK)
        have HK : Hid (Kept w wr) := k1.trans hK
        clear hok hi1 hK k1 b1
        go_wp2_with (go_at_call 115; refine hS1.mono ?_; rintro e w2 ⟨rfl, hk2⟩)
        go_ret
        exact ⟨by rw [HR.out, HF.out]; rfl, HK.out.trans hk2⟩

/-- The heap is right, and each of some values leads to a block of its kind. -/
def leadAll (zs rs : List Int) (k : Nat) : Bool := allR (fun i => leadsR zs (hz rs i) 5) k
def rootsR (zs rs : List Int) : Bool := heapR zs && leadAll zs rs rs.length
theorem heapR_slab {zs : List Int} (h : heapR zs = true) : slabOk zs = true := by
  unfold heapR at h; rw [Bool.and_eq_true] at h; exact h.1

set_option maxHeartbeats 4000000 in
set_option maxRecDepth 100000 in
theorem spec_RootsOk_ok (w : World) (ao ro : Option Addr) (cap rc : Nat) (zs rs : List Int) (hI : Ints w ao zs) (hl : zs.length ≤ 1048576) (hR : Ints w ro rs) (hrl : rs.length ≤ 1048576) :
    Calls Tryz.prog 74 #[.agg #[.slice ao zs.length cap], .slice ro rs.length rc] w fun e w' => e = .returned (.bool (rootsR zs rs)) ∧ Kept w w' := by
  have b0 := Cells.new w 39 #[.slice ao zs.length cap]
  have k0 : Kept w (w.alloc (.cells #[.slice ao zs.length cap] 39)) := Kept.alloc (Below.refl _ _) _
  have hH := spec_HeapOk_ok _ ao cap zs (hI.kept k0) hl
  cases hh : heapR zs with
  | false =>
    have HR : Hid (rootsR zs rs = false) := by simp [Hid, rootsR, hh]
    rw [hh] at hH
    clear hh hI hR
    go_enter Tryz.func74, Tryz.ntmps74
    go_wp2_with (go_at_call 117; refine hH.mono ?_; rintro e w1 ⟨rfl, hk1⟩)
    go_ret
    exact ⟨by rw [HR.out]; rfl, k0.trans hk1⟩
  | true =>
    have HR : Hid (rootsR zs rs = leadAll zs rs rs.length) := by simp [Hid, rootsR, hh]
    have hok := heapR_slab hh
    rw [hh] at hH
    have HC : Hid (∀ k (u : World), Kept w u → Calls Tryz.prog 119 #[.agg #[.slice ao zs.length cap], .int .i64 (hz rs k), .int .i64 5] u fun e w' => e = .returned (.bool (leadsR zs (hz rs k) 5)) ∧ Kept u w') := fun k u hu => l3Leads_ok u ao cap zs _ 5 (hI.kept hu) hl hok (hR.bd k).1 (hR.bd k).2 (by omega)
    clear hh hI hok
    go_enter Tryz.func74, Tryz.ntmps74
    go_wp2_with (go_at_call 117; refine hH.mono ?_; rintro e w1 ⟨rfl, hk1⟩)
    have b1 := b0.kept hk1
    have k1 := k0.trans hk1
    clear hH b0 k0 hk1
    go_loopw [5] (fun i wr => ∃ k : Nat, i = .int .i64 k ∧ k ≤ rs.length ∧ leadAll zs rs k = true ∧ Kept w1 wr) (fun i _ => rs.length - (intOf i).toNat)
    case atStart => exact ⟨0, rfl, Nat.zero_le _, allR_zero _, Below.refl _ _⟩
    case round =>
      obtain ⟨k, rfl, hk, hok, hK⟩ := hrel
      by_cases hlt : k < rs.length
      · obtain ⟨bv, hbv⟩ : ∃ bv, leadsR zs (hz rs k) 5 = bv := ⟨_, rfl⟩
        have HN : Hid (leadAll zs rs (k + 1) = bv) := by
          show _ = _
          unfold leadAll at hok ⊢
          rw [allR_succ, hok, Bool.true_and, hbv]
        have hC : Hid (∀ u, Kept wr.drew u → Calls Tryz.prog 119 #[.agg #[.slice ao zs.length cap], .int .i64 (hz rs k), .int .i64 5] u fun e w' => e = .returned (.bool bv) ∧ Kept u w') := fun u hu => by
          have := HC.out k u (k1.trans (hK.trans (Kept.trans ((Below.refl _ wr).drew) hu)))
          rw [hbv] at this
          exact this
        obtain ⟨bb, off, rfl, hc⟩ := hR.at (k := k) hlt
        have hck := hc k hlt
        have hbl : bb < w.heap.size := World.block_lt_of_cell? _ _ hck
        have x0 : ∀ u, Kept wr.drew u → u.cell? ⟨w.heap.size, 0, none⟩ = some (.slice ao zs.length cap) := fun u hu => ((b1.kept hK).kept (Kept.trans ((Below.refl _ wr).drew) hu)).cell 0
        have y1 : ∀ u, Kept wr.drew u → u.cell? ⟨bb, off + k, none⟩ = some (.int .i64 (hz rs k)) := fun u hu => ((k1.trans (hK.trans (Kept.trans ((Below.refl _ wr).drew) hu))).cell (p := ⟨bb, off + k, none⟩) hbl).trans hck
        have q1 : (k : Int) < (rs.length : Int) := by omega
        have HK : Hid (Kept w1 wr) := hK
        have HX : Hid (Kept w w1) := k1
        clear hc hck hbv hok hR hK k1 b1
        go_wp2_with fail
        refine wp_region_seqL (by kernel_rfl) (by kernel_rfl) ?_
        repeat (first
          | (refine SeqL.pure ?_ (by rfl) ?_ ?_; rotate_left; (focus (intro u hu; have x0' := x0 u hu; have y1' := y1 u hu; go_simp; first | done | exact rfl)); simp only [Act.put, List.setIfInBounds_toArray, List.set_cons_zero, List.set_cons_succ])
          | (refine SeqL.call _ _ _ (by rfl) ?_ hC.out ?_; (focus (intro u; go_simp; done)); simp only [Act.put, List.setIfInBounds_toArray, List.set_cons_zero, List.set_cons_succ]))
        refine SeqL.nil ?_
        intro u hu
        have kd := Kept.trans ((Below.refl _ wr).drew) hu
        have hK' := HK.out.trans kd
        clear x0 y1 hC
        cases bv with
        | true =>
          go_wp2_with fail
          go_roundw
          case rel => exact ⟨k + 1, by go_num, by omega, HN.out, hK'⟩
          case measure => simp [intOf]; omega
        | false =>
          have HF : Hid (leadAll zs rs rs.length = false) := allR_false (k := k + 1) (by omega) HN.out
          go_wp2
          go_ret
          exact ⟨by rw [HR.out, HF.out]; rfl, HX.out.trans hK'⟩
      · have HF : Hid (leadAll zs rs rs.length = true) := by
          show _ = _
          rw [show rs.length = k by omega]
          exact hok
        have HK : Hid (Kept w wr) := k1.trans hK
        clear hok hR hK k1 b1
        go_wp2
        go_ret
        exact ⟨by rw [HR.out, HF.out]; rfl, HK.out⟩
set_option maxHeartbeats 4000000 in
set_option maxRecDepth 100000 in
theorem rootsOk_ok (w : World) (lo ro : Option Addr) (lc rc : Nat) (zs rs : List Int) (hLy : Ints w lo (lyt zs)) (hR : Ints w ro rs) (hrl : rs.length ≤ 1048576) :
    Calls Tryz.prog 162 #[.slice lo zs.length lc, .slice ro rs.length rc] w fun e w' => e = .returned (.bool (leadAll zs rs rs.length)) ∧ w = w' := by
  have HB : Hid _ := fun k => hR.bd k
  have HC : Hid (∀ k, Calls Tryz.prog 104 #[.slice lo zs.length lc, .int .i64 11, .int .i64 (hz rs k)] w fun e w' => e = .returned (.bool (leadsR zs (hz rs k) 5)) ∧ w = w') := fun k => by
    rw [← val11]
    exact valueOk_ok w lo lc zs 11 (hz rs k) hLy (HB.out k).1 (HB.out k).2
  clear hLy
  go_enter Tryz.func162, Tryz.ntmps162
  go_wp2_with fail
  go_loopw [9] (fun i wr => wr = w ∧ ∃ k : Nat, i = .int .i64 k ∧ k ≤ rs.length ∧ leadAll zs rs k = true) (fun i _ => rs.length - (intOf i).toNat)
  case atStart => exact ⟨by first | rfl | trivial, 0, rfl, Nat.zero_le _, allR_zero _⟩
  case round =>
    obtain ⟨rfl, k, rfl, hk, hok⟩ := hrel
    by_cases hlt : k < rs.length
    · obtain ⟨bv, hbv⟩ : ∃ bv, leadsR zs (hz rs k) 5 = bv := ⟨_, rfl⟩
      have HN : Hid (leadAll zs rs (k + 1) = bv) := by
        show _ = _
        unfold leadAll at hok ⊢
        rw [allR_succ, hok, Bool.true_and, hbv]
      have hC := HC.out k
      rw [hbv] at hC
      obtain ⟨bb, off, rfl, hc⟩ := hR.at (k := k) hlt
      have y1 := hc k hlt
      have q1 : (k : Int) < (rs.length : Int) := by omega
      clear hc hbv hok hR
      cases bv with
      | true =>
        go_wp2_with (go_at_call 104; refine hC.mono ?_; rintro e wx ⟨rfl, rfl⟩)
        go_roundw
        case rel => exact ⟨by first | rfl | trivial, k + 1, by go_num, by omega, HN.out⟩
        case measure => simp [intOf]; omega
      | false =>
        have HF : Hid (leadAll zs rs rs.length = false) := allR_false (k := k + 1) (by omega) HN.out
        go_wp2_with (go_at_call 104; refine hC.mono ?_; rintro e wx ⟨rfl, rfl⟩)
        go_ret
        exact ⟨by rw [HF.out]; rfl, rfl⟩
    · have HF : Hid (leadAll zs rs rs.length = true) := by
        show _ = _
        rw [show rs.length = k by omega]
        exact hok
      clear hok hR
      go_wp2
      go_ret
      exact ⟨by rw [HF.out]; rfl, rfl⟩
set_option maxHeartbeats 4000000 in
set_option maxRecDepth 100000 in
theorem impl_RootsOk_ok (w : World) (ao ro : Option Addr) (cap rc : Nat) (zs rs : List Int) (hI : Ints w ao zs) (hl : zs.length ≤ 1048576) (hR : Ints w ro rs) (hrl : rs.length ≤ 1048576) :
    Calls Tryz.prog 130 #[.agg #[.slice ao zs.length cap], .slice ro rs.length rc] w fun e w' => e = .returned (.bool (rootsR zs rs)) ∧ Kept w w' := by
  have b0 := Cells.new w 39 #[.slice ao zs.length cap]
  have k0 : Kept w (w.alloc (.cells #[.slice ao zs.length cap] 39)) := Kept.alloc (Below.refl _ _) _
  have hLo := heapLayout_ok _ ao cap zs (hI.kept k0) hl
  cases hh : heapR zs with
  | false =>
    have HR : Hid (rootsR zs rs = false) := by simp [Hid, rootsR, hh]
    have hLo' := hLo.mono (R' := fun e w' => e = .returned (.tuple #[.slice none 0 0, .bool false]) ∧ Kept (w.alloc (.cells #[.slice ao zs.length cap] 39)) w') (fun e w' h => ⟨h.1 hh, h.2.2⟩)
    clear hh hI hR hLo
    go_enter Tryz.func130, Tryz.ntmps130
    go_wp2_with (go_at_call 103; refine hLo'.mono ?_; rintro e w1 ⟨rfl, hk1⟩)
    go_ret
    exact ⟨by rw [HR.out]; rfl, k0.trans hk1⟩
  | true =>
    have HR : Hid (rootsR zs rs = leadAll zs rs rs.length) := by simp [Hid, rootsR, hh]
    have hLo' := hLo.mono (R' := fun e w' => ∃ lo lc, e = .returned (.tuple #[.slice lo zs.length lc, .bool true]) ∧ Ints w' lo (lyt zs) ∧ Kept (w.alloc (.cells #[.slice ao zs.length cap] 39)) w') (fun e w' h => by obtain ⟨lo, lc, h1, h2⟩ := h.2.1 hh; exact ⟨lo, lc, h1, h2, h.2.2⟩)
    clear hh hI hLo
    go_enter Tryz.func130, Tryz.ntmps130
    go_wp2_with fail
    refine hLo'.mono ?_
    rintro e w1 ⟨lo, lc, rfl, hLy, hk1⟩
    have k1 := k0.trans hk1
    have hRo := rootsOk_ok w1 lo ro lc rc zs rs hLy (hR.kept k1) hrl
    clear hLo' b0 k0 hk1 hLy hR
    go_wp2_with fail
    refine hRo.mono ?_
    rintro e w2 ⟨rfl, rfl⟩
    go_wp2
    go_ret
    exact ⟨by rw [HR.out]; rfl, k1⟩
end Go.Proofs.YtgempjjnfpmndaaGreatDoor
