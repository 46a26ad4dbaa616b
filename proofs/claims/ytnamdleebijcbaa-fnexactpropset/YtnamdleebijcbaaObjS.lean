/-
  The contracts of chapter 5's models l5Set and PropSet.
-/
import Derived.Test.YtnamdleebijcbaaObjB
import Derived.Test.YtnamdleebijcbaaSlabQ
namespace Go.Proofs.Ytnamdleebijcbaa
open Go.RowKit

/-- Where a new cell is told: in the object, or in its last cell. -/
def linkAt (obj last : Int) : Nat := if last < 0 then plc obj + 2 else last.toNat + 3
def setC (zs : List Int) (obj name v : Int) : List Int × Int × Bool :=
  if 0 ≤ (cellF zs name zs.length (hz zs (plc obj + 2)) (-1)).1 then (zs.set ((cellF zs name zs.length (hz zs (plc obj + 2)) (-1)).1.toNat + 2) v, -1, true) else match ffB zs 4 with
    | none => (zs, -1, false)
    | some b => ((((takeL zs b.1 3 4).set (b.1.at' + 1) name).set (b.1.at' + 2) v).set (linkAt obj (cellF zs name zs.length (hz zs (plc obj + 2)) (-1)).2) (8 * ((b.1.at' : Nat) : Int) + 7), ((b.1.at' : Nat) : Int), true)
theorem setC_len (zs : List Int) (obj name v : Int) : (setC zs obj name v).1.length = zs.length := by
  unfold setC
  split
  · simp
  · split
    · rfl
    · simp [takeL_length]
def propC (zs : List Int) (obj name v : Int) : List Int × Bool :=
  if decide (name % 8 = 4) && decide (v % 8 ≠ 7) && isR zs [obj, name, v] 5 && !roundR zs obj then ((setC zs obj name v).1, (setC zs obj name v).2.2) else (zeroL zs, false)
theorem propC_len (zs : List Int) (obj name v : Int) : (propC zs obj name v).1.length = zs.length ∨ (propC zs obj name v).1.length = 0 := by
  unfold propC
  split
  · exact .inl (setC_len _ _ _ _)
  · exact zeroL_len zs

set_option maxHeartbeats 16000000 in
set_option maxRecDepth 100000 in
theorem l5Set_ok (w : World) (g cap : Nat) (zs : List Int) (obj name v : Int) (hR : Row w g zs) (hl : zs.length ≤ 1048576) (hh : heapR zs = true) (h5 : obj % 8 = 5) (hv : leadsR zs obj 5 = true) (hnb : -9223372036854775808 ≤ name ∧ name ≤ 9223372036854775807) (hvb : -9223372036854775808 ≤ v ∧ v ≤ 9223372036854775807) :
    Calls Try.prog 16 #[.agg #[.slice (some ⟨g, 0, none⟩) zs.length cap], .int .i64 obj, .int .i64 name, .int .i64 v] w fun e w' =>
      e = .returned (.tuple #[.agg #[.slice (some ⟨g, 0, none⟩) zs.length cap], .int .i64 (setC zs obj name v).2.1, .bool (setC zs obj name v).2.2]) ∧ Row w' g (setC zs obj name v).1 ∧ GS g w w' := by
  have hok := heapR_slab hh
  have hlen := (slabOk_iff.1 hok).1
  have b0 := (Cells.new w 26 #[.slice (some ⟨g, 0, none⟩) zs.length cap]).alloc (.cells #[.slice none 0 0] 26)
  have b1 := Cells.new (w.alloc (.cells #[.slice (some ⟨g, 0, none⟩) zs.length cap] 26)) 26 #[.slice none 0 0]
  have k0 : Kept w ((w.alloc (.cells #[.slice (some ⟨g, 0, none⟩) zs.length cap] 26)).alloc (.cells #[.slice none 0 0] 26)) := (Kept.alloc (Below.refl _ _) _).alloc _
  have hR0 := hR.kept k0
  have lg := hR.lt
  simp only [World.size_alloc] at b1
  obtain ⟨oa, os, hoa, hole, hos, _, _, hnx⟩ := obj_facts hh h5 hv
  have hCe := l5Cell_ok _ _ cap zs obj name hR0.ints hl hh h5 hv
  have hfa := cellF_facts hh name zs.length (hz zs (plc obj + 2)) (-1) (by rw [plc_is hoa]; exact hnx) (.inl rfl)
  have HP : Hid (setC zs obj name v = if 0 ≤ (cellF zs name zs.length (hz zs (plc obj + 2)) (-1)).1 then (zs.set ((cellF zs name zs.length (hz zs (plc obj + 2)) (-1)).1.toNat + 2) v, -1, true) else match ffB zs 4 with
    | none => (zs, -1, false)
    | some b => ((((takeL zs b.1 3 4).set (b.1.at' + 1) name).set (b.1.at' + 2) v).set (linkAt obj (cellF zs name zs.length (hz zs (plc obj + 2)) (-1)).2) (8 * ((b.1.at' : Nat) : Int) + 7), ((b.1.at' : Nat) : Int), true)) := by simp [Hid, setC]
  have hlk : linkAt obj (cellF zs name zs.length (hz zs (plc obj + 2)) (-1)).2 < zs.length := by
    unfold linkAt
    rcases hfa.2 with h | ⟨n, h, hn⟩
    · rw [h, if_pos (by omega), plc_is hoa]; omega
    · rw [h, if_neg (by omega)]; omega
  have hlk2 : linkAt obj (cellF zs name zs.length (hz zs (plc obj + 2)) (-1)).2 = if (cellF zs name zs.length (hz zs (plc obj + 2)) (-1)).2 < 0 then oa + 2 else (cellF zs name zs.length (hz zs (plc obj + 2)) (-1)).2.toNat + 3 := by unfold linkAt; rw [plc_is hoa]
  obtain ⟨R, hRd⟩ : ∃ R, cellF zs name zs.length (hz zs (plc obj + 2)) (-1) = R := ⟨_, rfl⟩
  rw [hRd] at hCe hfa HP hlk hlk2
  obtain ⟨R1, R2⟩ := R
  simp only at hCe hfa HP hlk hlk2
  obtain ⟨hf1, hf2⟩ := hfa
  have c0 := b0.cell 0
  have HH : Hid (slabOk zs = true) := hok
  clear hRd hh hv h5 hnx hok
  rcases hf1 with rfl | ⟨n1, rfl, hn1⟩
  · have hT := fun (u : World) (hu : Row u g zs) => l2Take_ok u g cap zs 3 4 hu hl HH.out (by omega) (by omega) (by omega) (by omega)
    cases hff : ffB zs 4 with
    | none =>
      have HP2 : Hid (setC zs obj name v = (zs, -1, false)) := by show _ = _; rw [HP.out, hff]; simp
      have HT : Hid (∀ u, Row u g zs → Calls Try.prog 38 #[.agg #[.slice (some ⟨g, 0, none⟩) zs.length cap], .int .i64 3, .int .i64 4] u fun e w' => e = .returned (.tuple #[.agg #[.slice (some ⟨g, 0, none⟩) zs.length cap], .int .i64 0, .bool false]) ∧ Row w' g zs ∧ GS g u w') := fun u hu => (hT u hu).mono (fun e w' h => ⟨(h.2.1 hff).1, (h.2.1 hff).2, h.2.2⟩)
      clear hff hT HP hlk hlk2
      go_enter Try.func16, Try.ntmps16
      go_wp2_with fail
      refine hCe.mono ?_
      rintro e w1 ⟨rfl, hk1⟩
      have x0 := b0.kept hk1
      have x1 := b1.kept hk1
      have c1 := x0.cell 0
      clear c0
      go_wp2_with fail
      refine (HT.out _ (hR0.kept hk1)).mono ?_
      rintro e w2 ⟨rfl, hr2, hg2⟩
      have y0 := x0.grown hg2.1 (by intro e; simp at e; omega)
      have y1 := x1.grown hg2.1 (by intro e; simp at e; omega)
      have d0 := (y0.alloc (.cells #[.slice (some ⟨g, 0, none⟩) zs.length cap] 26)).cell 0
      have z1 := y1.alloc (.cells #[.slice (some ⟨g, 0, none⟩) zs.length cap] 26)
      have d1 := z1.cell 0
      have e1 := z1.frozen 0
      clear c1
      go_wp2
      have q := (z1.set1 (.slice (some ⟨g, 0, none⟩) zs.length cap)).cell 0
      refine bodyPost_ret (v := .tuple #[.agg #[.slice (some ⟨g, 0, none⟩) zs.length cap], .int .i64 (-1), .bool false]) (by simp [results, Try.results16, go_sem, q]) rfl ?_
      rw [HP2.out]
      exact ⟨rfl, (hr2.kept (Kept.alloc (Below.refl _ _) _)).other (by intro h; simp at h; omega) _, GS.setNew (GS.trans (GS.trans (GS.any (k0.trans hk1) g) hg2) (GS.any (Kept.alloc (Below.refl _ _) _) g)) (by simp) _⟩
    | some b =>
      have hfr : freeP ((4 : Nat) : Int) b = true := List.find?_some hff
      have hble := b.2.2.1
      have hbs : 4 ≤ b.1.size := by simp [freeP] at hfr; omega
      obtain ⟨a, ha⟩ : ∃ a : Nat, b.1.at' = a := ⟨_, rfl⟩
      obtain ⟨ys, hys⟩ : ∃ ys, takeL zs b.1 3 4 = ys := ⟨_, rfl⟩
      have hyl : ys.length = zs.length := by rw [← hys, takeL_length]
      obtain ⟨L, hL⟩ : ∃ L, linkAt obj R2 = L := ⟨_, rfl⟩
      rw [hL] at hlk hlk2
      have HP2 : Hid (setC zs obj name v = (((ys.set (a + 1) name).set (a + 2) v).set L (8 * (a : Int) + 7), (a : Int), true)) := by show _ = _; rw [HP.out, hff]; simp [hys, ha, hL]
      have HT : Hid (∀ u, Row u g zs → Calls Try.prog 38 #[.agg #[.slice (some ⟨g, 0, none⟩) zs.length cap], .int .i64 3, .int .i64 4] u fun e w' => e = .returned (.tuple #[.agg #[.slice (some ⟨g, 0, none⟩) zs.length cap], .int .i64 (a : Int), .bool true]) ∧ Row w' g ys ∧ GS g u w') := fun u hu => (hT u hu).mono (fun e w' h => ⟨by rw [(h.1 b hff).1, ha], by rw [← hys]; exact (h.1 b hff).2, h.2.2⟩)
      have hfit : a + 4 ≤ zs.length := by omega
      clear hff hT HP hfr hble hbs hys hL
      clear ha
      go_enter Try.func16, Try.ntmps16
      go_wp2_with fail
      refine hCe.mono ?_
      rintro e w1 ⟨rfl, hk1⟩
      have x0 := b0.kept hk1
      have x1 := b1.kept hk1
      have c1 := x0.cell 0
      clear c0
      go_wp2_with fail
      refine (HT.out _ (hR0.kept hk1)).mono ?_
      rintro e w2 ⟨rfl, hr2, hg2⟩
      have lg2 := hr2.lt
      have y1 := x1.grown hg2.1 (by intro e; simp at e; omega)
      have l1 := y1.lt
      have kA : ∀ W : World, Kept W (W.alloc (.cells #[.slice (some ⟨g, 0, none⟩) zs.length cap] 26)) := fun W => Kept.alloc (Below.refl _ W) _
      have sA : ∀ (p : Addr) (u : Value), (w2.setCell p u).heap.size = w2.heap.size := fun p u => by simp [World.setCell]
      have r4 := hr2.set (k := a + 1) (v := name) (by omega) hnb
      have r5 := r4.set (k := a + 2) (v := v) (by simp; omega) hvb
      have y5 := (y1.other (p := ⟨g, a + 1, none⟩) (by intro h; simp at h; omega) (.int .i64 name)).other (p := ⟨g, a + 2, none⟩) (by intro h; simp at h; omega) (.int .i64 v)
      have G5 : GS g w ((w2.setCell ⟨g, a + 1, none⟩ (.int .i64 name)).setCell ⟨g, a + 2, none⟩ (.int .i64 v)) := GS.set (k := a + 2) (GS.set (k := a + 1) (GS.trans (GS.any (k0.trans hk1) g) hg2) (.int .i64 name)) (.int .i64 v)
      have o3 := Cells.new w2 26 #[.slice (some ⟨g, 0, none⟩) zs.length cap]
      have o4 := Cells.new (w2.setCell ⟨g, a + 1, none⟩ (.int .i64 name)) 26 #[.slice (some ⟨g, 0, none⟩) zs.length cap]
      have o5 := Cells.new ((w2.setCell ⟨g, a + 1, none⟩ (.int .i64 name)).setCell ⟨g, a + 2, none⟩ (.int .i64 v)) 26 #[.slice (some ⟨g, 0, none⟩) zs.length cap]
      have sC : ((w2.setCell ⟨g, a + 1, none⟩ (.int .i64 name)).setCell ⟨g, a + 2, none⟩ (.int .i64 v)).heap.size = w2.heap.size := by simp [World.setCell]
      rw [sA] at o4
      rw [sC] at o5
      have cO3 := o3.cell 0
      have cO4 := o4.cell 0
      have cO5 := o5.cell 0
      have cg1 := (hr2.kept (kA _)).cell (j := a + 1) (by omega)
      have fg1 := (hr2.kept (kA _)).frozen (a + 1)
      have cg2 := (r4.kept (kA _)).cell (j := a + 2) (by simp; omega)
      have fg2 := (r4.kept (kA _)).frozen (a + 2)
      have p1 : (a : Int) + 1 < (zs.length : Int) := by omega
      have t1 : ((a : Int) + 1).toNat = a + 1 := by omega
      have p2 : (a : Int) + 2 < (zs.length : Int) := by omega
      have t2 : ((a : Int) + 2).toNat = a + 2 := by omega
      have hV : vRef 7 (a : Int) = 8 * (a : Int) + 7 := vRef_yes (by omega)
      have hRf : ∀ u : World, Calls Try.prog 39 #[.int .i64 7, .int .i64 (a : Int)] u fun e w' => e = .returned (.int .i64 (8 * (a : Int) + 7)) ∧ u = w' := fun u => by rw [← hV]; exact spec_RefOf_ok _ _ _
      have hNu : ∀ u : World, Calls Try.prog 35 #[.int .i64 obj] u fun e w' => e = .returned (.int .i64 (oa : Int)) ∧ u = w' := fun u => by rw [← hoa]; exact spec_Num_ok _ _
      have H5 : Hid (Row _ g _ ∧ Cells _ _ _ _ ∧ Cells _ _ _ _ ∧ GS g w _) := ⟨r5.kept (kA _), o5, y5.kept (kA _), GS.trans G5 (GS.any (kA _) g)⟩
      have HRf : Hid _ := hRf
      have HNu : Hid _ := hNu
      clear c1 r4 r5 y5 G5 o3 o4 o5 sA sC hV hoa hRf hNu
      rcases hf2 with rfl | ⟨n2, rfl, hn2⟩
      · rw [if_pos (by omega)] at hlk2
        subst hlk2
        have p3 : (oa : Int) + 2 < (zs.length : Int) := by omega
        have t3 : ((oa : Int) + 2).toNat = oa + 2 := by omega
        have wr3 : IntKind.i64.wrap ((oa : Int) + 2) = (oa : Int) + 2 := by rw [IntWalk.i64_left, IntWalk.wrap64_in _ (by omega)]
        have z3 : ¬ (oa : Int) + 2 < 0 := by omega
        go_wp2_with fail
        clear cO3 cO4 cO5 cg1 fg1 cg2 fg2 p1 t1 p2 t2
        obtain ⟨W5, hW5⟩ : ∃ W5, ((w2.setCell ⟨g, a + 1, none⟩ (.int .i64 name)).setCell ⟨g, a + 2, none⟩ (.int .i64 v)).alloc (.cells #[.slice (some ⟨g, 0, none⟩) zs.length cap] 26) = W5 := ⟨_, rfl⟩
        obtain ⟨O, hO⟩ : ∃ O, w2.heap.size = O := ⟨_, rfl⟩
        rw [hW5, hO] at H5
        rw [hO] at lg2 l1
        simp only [hW5, hO]
        obtain ⟨r5, o5, y5, G5⟩ := H5.out
        clear hW5 hO H5 hg2 hr2 y1
        have cO5 := o5.cell 0
        have cgL := r5.cell (j := oa + 2) (by simp; omega)
        have fgL := r5.frozen (oa + 2)
        have r6 := r5.set (k := oa + 2) (v := 8 * (a : Int) + 7) (by simp; omega) ⟨by omega, by omega⟩
        have o6 := o5.other (p := ⟨g, oa + 2, none⟩) (by intro h; simp at h; omega) (.int .i64 (8 * (a : Int) + 7))
        have y6 := y5.other (p := ⟨g, oa + 2, none⟩) (by intro h; simp at h; omega) (.int .i64 (8 * (a : Int) + 7))
        have G6 := GS.set (k := oa + 2) G5 (.int .i64 (8 * (a : Int) + 7))
        have cO6 := o6.cell 0
        have c6 := y6.cell 0
        have f6 := y6.frozen 0
        have H6 : Hid _ := And.intro r6 (And.intro y6 G6)
        clear r6 y6 G6 o6 r5 o5 y5 G5
        go_region_with (first | (go_at_call 39; refine (HRf.out _).mono ?_; rintro e wx ⟨rfl, rfl⟩) | (go_at_call 35; refine (HNu.out _).mono ?_; rintro e wx ⟨rfl, rfl⟩))
        all_goals go_wp2_with fail
        all_goals (
          obtain ⟨r6, y6, G6⟩ := H6.out
          have q := ((y6.set1 (.slice (some ⟨g, 0, none⟩) zs.length cap)).kept (Below.refl _ _).drew).cell 0
          refine bodyPost_ret (v := .tuple #[.agg #[.slice (some ⟨g, 0, none⟩) zs.length cap], .int .i64 (a : Int), .bool true]) (by simp [results, Try.results16, go_sem, q]) rfl ?_
          rw [HP2.out]
          exact ⟨rfl, (r6.other (p := ⟨w.heap.size + 1, 0, none⟩) (by intro h; simp at h; omega) _).kept (Below.refl _ _).drew, GS.trans (GS.setNew G6 (by simp) _) (GS.any (Below.refl _ _).drew g)⟩)
      · rw [if_neg (by omega)] at hlk2
        simp only [Int.toNat_natCast] at hlk2
        subst hlk2
        have p3 : (n2 : Int) + 3 < (zs.length : Int) := by omega
        have t3 : ((n2 : Int) + 3).toNat = n2 + 3 := by omega
        have wr3 : IntKind.i64.wrap ((n2 : Int) + 3) = (n2 : Int) + 3 := by rw [IntWalk.i64_left, IntWalk.wrap64_in _ (by omega)]
        have z3 : ¬ (n2 : Int) + 3 < 0 := by omega
        go_wp2_with fail
        clear cO3 cO4 cO5 cg1 fg1 cg2 fg2 p1 t1 p2 t2
        obtain ⟨W5, hW5⟩ : ∃ W5, ((w2.setCell ⟨g, a + 1, none⟩ (.int .i64 name)).setCell ⟨g, a + 2, none⟩ (.int .i64 v)).alloc (.cells #[.slice (some ⟨g, 0, none⟩) zs.length cap] 26) = W5 := ⟨_, rfl⟩
        obtain ⟨O, hO⟩ : ∃ O, w2.heap.size = O := ⟨_, rfl⟩
        rw [hW5, hO] at H5
        rw [hO] at lg2 l1
        simp only [hW5, hO]
        obtain ⟨r5, o5, y5, G5⟩ := H5.out
        clear hW5 hO H5 hg2 hr2 y1
        have cO5 := o5.cell 0
        have cgL := r5.cell (j := n2 + 3) (by simp; omega)
        have fgL := r5.frozen (n2 + 3)
        have r6 := r5.set (k := n2 + 3) (v := 8 * (a : Int) + 7) (by simp; omega) ⟨by omega, by omega⟩
        have o6 := o5.other (p := ⟨g, n2 + 3, none⟩) (by intro h; simp at h; omega) (.int .i64 (8 * (a : Int) + 7))
        have y6 := y5.other (p := ⟨g, n2 + 3, none⟩) (by intro h; simp at h; omega) (.int .i64 (8 * (a : Int) + 7))
        have G6 := GS.set (k := n2 + 3) G5 (.int .i64 (8 * (a : Int) + 7))
        have cO6 := o6.cell 0
        have c6 := y6.cell 0
        have f6 := y6.frozen 0
        have H6 : Hid _ := And.intro r6 (And.intro y6 G6)
        clear r6 y6 G6 o6 r5 o5 y5 G5
        go_region_with (go_at_call 39; refine (HRf.out _).mono ?_; rintro e wx ⟨rfl, rfl⟩)
        all_goals go_wp2_with fail
        all_goals (
          obtain ⟨r6, y6, G6⟩ := H6.out
          have q := ((y6.set1 (.slice (some ⟨g, 0, none⟩) zs.length cap)).kept (Below.refl _ _).drew).cell 0
          refine bodyPost_ret (v := .tuple #[.agg #[.slice (some ⟨g, 0, none⟩) zs.length cap], .int .i64 (a : Int), .bool true]) (by simp [results, Try.results16, go_sem, q]) rfl ?_
          rw [HP2.out]
          exact ⟨rfl, (r6.other (p := ⟨w.heap.size + 1, 0, none⟩) (by intro h; simp at h; omega) _).kept (Below.refl _ _).drew, GS.trans (GS.setNew G6 (by simp) _) (GS.any (Below.refl _ _).drew g)⟩)
  · have HP2 : Hid (setC zs obj name v = (zs.set (n1 + 2) v, -1, true)) := by show _ = _; rw [HP.out, if_pos (by omega)]; simp
    clear HP hlk hlk2
    go_enter Try.func16, Try.ntmps16
    go_wp2_with fail
    refine hCe.mono ?_
    rintro e w1 ⟨rfl, hk1⟩
    have x0 := b0.kept hk1
    have x1 := b1.kept hk1
    have hr1 := hR0.kept hk1
    have c1 := x0.cell 0
    have cg := hr1.cell (j := n1 + 2) (by omega)
    have fg := hr1.frozen (n1 + 2)
    have p2 : (n1 : Int) + 2 < (zs.length : Int) := by omega
    have t2 : ((n1 : Int) + 2).toNat = n1 + 2 := by omega
    have z0 := x0.other (p := ⟨g, n1 + 2, none⟩) (by intro h; simp at h; omega) (.int .i64 v)
    have z1 := x1.other (p := ⟨g, n1 + 2, none⟩) (by intro h; simp at h; omega) (.int .i64 v)
    have d0 := z0.cell 0
    have d1 := z1.cell 0
    have e1 := z1.frozen 0
    clear c0
    go_wp2
    have q := (z1.set1 (.slice (some ⟨g, 0, none⟩) zs.length cap)).cell 0
    refine bodyPost_ret (v := .tuple #[.agg #[.slice (some ⟨g, 0, none⟩) zs.length cap], .int .i64 (-1), .bool true]) (by simp [results, Try.results16, go_sem, q]) rfl ?_
    rw [HP2.out]
    exact ⟨rfl, (hr1.set (k := n1 + 2) (v := v) (by omega) hvb).other (by intro h; simp at h; omega) _, GS.setNew (GS.set (k := n1 + 2) (GS.any (k0.trans hk1) g) (.int .i64 v)) (by simp) _⟩
end Go.Proofs.Ytnamdleebijcbaa
