/-
  The contract of chapter 5's model ObjNew.
  The contract of the program's ObjNew as it stands at 54ec384 (by takeFilled), and that it answers as its model.
  The contracts of chapter 5's models l5Set and PropSet.
  The contract of chapter 5's model PropSet.
  Facts on lists: what PropSet asks, in the program and in its model; the new cell behind all others.
-/
import Derived.Test.YthkhlmbhickdbaaObjF
import Derived.Test.YthkhlmbhickdbaaSlabQ
import Derived.Test.YthkhlmbhickdbaaFilA
import Derived.Test.YthkhlmbhickdbaaTkfA
import Derived.Test.YthkhlmbhickdbaaGrpPa
namespace Go.Proofs.Ythkhlmbhickdbaa
open Go.RowKit

theorem objNewC_len (zs : List Int) (p : Int) : (objNewC zs p).1.length = zs.length ∨ (objNewC zs p).1.length = 0 := by
  unfold objNewC
  split
  · exact .inl (objC_len zs p)
  · exact zeroL_len zs
end Go.Proofs.Ythkhlmbhickdbaa
namespace Go.Proofs.Ythkhlmbhickdbaa
open Go.RowKit
attribute [local go_sem] Plain.and7

theorem new_is {zs : List Int} {p : Int} : (protoR p && rootsR zs [p]) = (heapR zs && valR zs 5 p) := by
  rw [val5, roots1]
  unfold protoR
  by_cases h4 : p % 8 = 5
  · have h1 : ¬ p = 1 := by omega
    rw [leads_any (v := p) (by omega) 5 0]
    simp [h4, h1]
  · by_cases h1 : p = 1
    · subst h1
      have : leadsR zs 1 5 = true := by simp [leadsR, vOk_is1]
      simp [this]
    · simp [h4, h1]
theorem hz_taken {zs : List Int} {b : BkOf zs.length} {k j : Nat} (h3 : 3 ≤ b.1.size) (h1 : 1 ≤ j) (h2 : j < 3) : hz (takeL zs b.1 k 3) (b.1.at' + j) = 0 := by
  have hle := b.2.2.1
  unfold takeL
  split
  · rw [hz_layL (by simp; omega) (by omega), if_neg (by omega), if_pos (by omega)]
  · rw [hz_layL (by omega) (by omega), if_neg (by omega), if_pos (by omega)]
theorem set_same {zs : List Int} {j : Nat} (hj : j < zs.length) (h : hz zs j = 0) : zs.set j 0 = zs := by
  apply List.ext_getElem (by simp)
  intro i h1 h2
  rw [List.getElem_set]
  split
  · rename_i e
    subst e
    have : zs[j]?.getD 0 = 0 := h
    rw [List.getElem?_eq_getElem hj] at this
    simpa using this.symm
  · rfl
theorem new_sets {zs : List Int} {b : BkOf zs.length} {p : Int} (h3 : 3 ≤ b.1.size) : sets (takeL zs b.1 2 3) (b.1.at' + 1) [p, 0] = (takeL zs b.1 2 3).set (b.1.at' + 1) p := by
  have hle := b.2.2.1
  have hl := takeL_length zs b.1 2 3
  show ((takeL zs b.1 2 3).set (b.1.at' + 1) p).set (b.1.at' + 1 + 1) 0 = _
  refine set_same (by simp; omega) ?_
  rw [hz_set (by omega), if_neg (by omega)]
  have := hz_taken (zs := zs) (b := b) (k := 2) (j := 2) h3 (by omega) (by omega)
  exact this
end Go.Proofs.Ythkhlmbhickdbaa
namespace Go.Proofs.Ythkhlmbhickdbaa
open Go.RowKit

/-- Where a new cell is told: in the object, or in its last cell. -/
def linkAt (obj last : Int) : Nat := if last < 0 then plc obj + 2 else last.toNat + 3
def setC (zs : List Int) (obj name v : Int) : List Int × Int × Bool :=
  if 0 ≤ (cellF zs name zs.length (hz zs (plc obj + 2)) (-1)).1 then (zs.set ((cellF zs name zs.length (hz zs (plc obj + 2)) (-1)).1.toNat + 2) v, -1, true) else match ffB zs 4 with
    | none => (zs, -1, false)
    | some b => ((((takeL zs b.1 3 4).set (b.1.at' + 1) name).set (b.1.at' + 2) v).set (linkAt obj (cellF zs name zs.length (hz zs (plc obj + 2)) (-1)).2) (8 * ((b.1.at' : Nat) : Int) + 7), ((b.1.at' : Nat) : Int), true)
theorem setC_len (zs : List Int) (obj name v : Int) : (setC zs obj name v).1.length = zs.length := by
  unfold setC
  split
  · simp
  · split
    · rfl
    · simp [takeL_length]
def propC (zs : List Int) (obj name v : Int) : List Int × Bool :=
  if decide (name % 8 = 4) && decide (v % 8 ≠ 7) && isR zs [obj, name, v] 5 && !roundR zs obj then ((setC zs obj name v).1, (setC zs obj name v).2.2) else (zeroL zs, false)
theorem propC_len (zs : List Int) (obj name v : Int) : (propC zs obj name v).1.length = zs.length ∨ (propC zs obj name v).1.length = 0 := by
  unfold propC
  split
  · exact .inl (setC_len _ _ _ _)
  · exact zeroL_len zs

set_option maxHeartbeats 16000000 in
set_option maxRecDepth 100000 in
theorem l5Set_ok (w : World) (g cap : Nat) (zs : List Int) (obj name v : Int) (hR : Row w g zs) (hl : zs.length ≤ 1048576) (hh : heapR zs = true) (h5 : obj % 8 = 5) (hv : leadsR zs obj 5 = true) (hnb : -9223372036854775808 ≤ name ∧ name ≤ 9223372036854775807) (hvb : -9223372036854775808 ≤ v ∧ v ≤ 9223372036854775807) :
    Calls Try.prog 41 #[.agg #[.slice (some ⟨g, 0, none⟩) zs.length cap], .int .i64 obj, .int .i64 name, .int .i64 v] w fun e w' =>
      e = .returned (.tuple #[.agg #[.slice (some ⟨g, 0, none⟩) zs.length cap], .int .i64 (setC zs obj name v).2.1, .bool (setC zs obj name v).2.2]) ∧ Row w' g (setC zs obj name v).1 ∧ GS g w w' := by
  have hok := heapR_slab hh
  have hlen := (slabOk_iff.1 hok).1
  have b0 := (Cells.new w 28 #[.slice (some ⟨g, 0, none⟩) zs.length cap]).alloc (.cells #[.slice none 0 0] 28)
  have b1 := Cells.new (w.alloc (.cells #[.slice (some ⟨g, 0, none⟩) zs.length cap] 28)) 28 #[.slice none 0 0]
  have k0 : Kept w ((w.alloc (.cells #[.slice (some ⟨g, 0, none⟩) zs.length cap] 28)).alloc (.cells #[.slice none 0 0] 28)) := (Kept.alloc (Below.refl _ _) _).alloc _
  have hR0 := hR.kept k0
  have lg := hR.lt
  simp only [World.size_alloc] at b1
  obtain ⟨oa, os, hoa, hole, hos, _, _, hnx⟩ := obj_facts hh h5 hv
  have hCe := l5Cell_ok _ _ cap zs obj name hR0.ints hl hh h5 hv
  have hfa := cellF_facts hh name zs.length (hz zs (plc obj + 2)) (-1) (by rw [plc_is hoa]; exact hnx) (.inl rfl)
  have HP : Hid (setC zs obj name v = if 0 ≤ (cellF zs name zs.length (hz zs (plc obj + 2)) (-1)).1 then (zs.set ((cellF zs name zs.length (hz zs (plc obj + 2)) (-1)).1.toNat + 2) v, -1, true) else match ffB zs 4 with
    | none => (zs, -1, false)
    | some b => ((((takeL zs b.1 3 4).set (b.1.at' + 1) name).set (b.1.at' + 2) v).set (linkAt obj (cellF zs name zs.length (hz zs (plc obj + 2)) (-1)).2) (8 * ((b.1.at' : Nat) : Int) + 7), ((b.1.at' : Nat) : Int), true)) := by simp [Hid, setC]
  have hlk : linkAt obj (cellF zs name zs.length (hz zs (plc obj + 2)) (-1)).2 < zs.length := by
    unfold linkAt
    rcases hfa.2 with h | ⟨n, h, hn⟩
    · rw [h, if_pos (by omega), plc_is hoa]; omega
    · rw [h, if_neg (by omega)]; omega
  have hlk2 : linkAt obj (cellF zs name zs.length (hz zs (plc obj + 2)) (-1)).2 = if (cellF zs name zs.length (hz zs (plc obj + 2)) (-1)).2 < 0 then oa + 2 else (cellF zs name zs.length (hz zs (plc obj + 2)) (-1)).2.toNat + 3 := by unfold linkAt; rw [plc_is hoa]
  obtain ⟨R, hRd⟩ : ∃ R, cellF zs name zs.length (hz zs (plc obj + 2)) (-1) = R := ⟨_, rfl⟩
  rw [hRd] at hCe hfa HP hlk hlk2
  obtain ⟨R1, R2⟩ := R
  simp only at hCe hfa HP hlk hlk2
  obtain ⟨hf1, hf2⟩ := hfa
  have c0 := b0.cell 0
  have HH : Hid (slabOk zs = true) := hok
  clear hRd hh hv h5 hnx hok
  rcases hf1 with rfl | ⟨n1, rfl, hn1⟩
  · have hT := fun (u : World) (hu : Row u g zs) => l2Take_ok u g cap zs 3 4 hu hl HH.out (by omega) (by omega) (by omega) (by omega)
    cases hff : ffB zs 4 with
    | none =>
      have HP2 : Hid (setC zs obj name v = (zs, -1, false)) := by show _ = _; rw [HP.out, hff]; simp
      have HT : Hid (∀ u, Row u g zs → Calls Try.prog 66 #[.agg #[.slice (some ⟨g, 0, none⟩) zs.length cap], .int .i64 3, .int .i64 4] u fun e w' => e = .returned (.tuple #[.agg #[.slice (some ⟨g, 0, none⟩) zs.length cap], .int .i64 0, .bool false]) ∧ Row w' g zs ∧ GS g u w') := fun u hu => (hT u hu).mono (fun e w' h => ⟨(h.2.1 hff).1, (h.2.1 hff).2, h.2.2⟩)
      clear hff hT HP hlk hlk2
      go_enter Try.func41, Try.ntmps41
      go_wp2_with fail
      refine hCe.mono ?_
      rintro e w1 ⟨rfl, hk1⟩
      have x0 := b0.kept hk1
      have x1 := b1.kept hk1
      have c1 := x0.cell 0
      clear c0
      go_wp2_with fail
      refine (HT.out _ (hR0.kept hk1)).mono ?_
      rintro e w2 ⟨rfl, hr2, hg2⟩
      have y0 := x0.grown hg2.1 (by intro e; simp at e; omega)
      have y1 := x1.grown hg2.1 (by intro e; simp at e; omega)
      have d0 := (y0.alloc (.cells #[.slice (some ⟨g, 0, none⟩) zs.length cap] 28)).cell 0
      have z1 := y1.alloc (.cells #[.slice (some ⟨g, 0, none⟩) zs.length cap] 28)
      have d1 := z1.cell 0
      have e1 := z1.frozen 0
      clear c1
      go_wp2
      have q := (z1.set1 (.slice (some ⟨g, 0, none⟩) zs.length cap)).cell 0
      refine bodyPost_ret (v := .tuple #[.agg #[.slice (some ⟨g, 0, none⟩) zs.length cap], .int .i64 (-1), .bool false]) (by simp [results, Try.results41, go_sem, q]) rfl ?_
      rw [HP2.out]
      exact ⟨rfl, (hr2.kept (Kept.alloc (Below.refl _ _) _)).other (by intro h; simp at h; omega) _, GS.setNew (GS.trans (GS.trans (GS.any (k0.trans hk1) g) hg2) (GS.any (Kept.alloc (Below.refl _ _) _) g)) (by simp) _⟩
    | some b =>
      have hfr : freeP ((4 : Nat) : Int) b = true := List.find?_some hff
      have hble := b.2.2.1
      have hbs : 4 ≤ b.1.size := by simp [freeP] at hfr; omega
      obtain ⟨a, ha⟩ : ∃ a : Nat, b.1.at' = a := ⟨_, rfl⟩
      obtain ⟨ys, hys⟩ : ∃ ys, takeL zs b.1 3 4 = ys := ⟨_, rfl⟩
      have hyl : ys.length = zs.length := by rw [← hys, takeL_length]
      obtain ⟨L, hL⟩ : ∃ L, linkAt obj R2 = L := ⟨_, rfl⟩
      rw [hL] at hlk hlk2
      have HP2 : Hid (setC zs obj name v = (((ys.set (a + 1) name).set (a + 2) v).set L (8 * (a : Int) + 7), (a : Int), true)) := by show _ = _; rw [HP.out, hff]; simp [hys, ha, hL]
      have HT : Hid (∀ u, Row u g zs → Calls Try.prog 66 #[.agg #[.slice (some ⟨g, 0, none⟩) zs.length cap], .int .i64 3, .int .i64 4] u fun e w' => e = .returned (.tuple #[.agg #[.slice (some ⟨g, 0, none⟩) zs.length cap], .int .i64 (a : Int), .bool true]) ∧ Row w' g ys ∧ GS g u w') := fun u hu => (hT u hu).mono (fun e w' h => ⟨by rw [(h.1 b hff).1, ha], by rw [← hys]; exact (h.1 b hff).2, h.2.2⟩)
      have hfit : a + 4 ≤ zs.length := by omega
      clear hff hT HP hfr hble hbs hys hL
      clear ha
      go_enter Try.func41, Try.ntmps41
      go_wp2_with fail
      refine hCe.mono ?_
      rintro e w1 ⟨rfl, hk1⟩
      have x0 := b0.kept hk1
      have x1 := b1.kept hk1
      have c1 := x0.cell 0
      clear c0
      go_wp2_with fail
      refine (HT.out _ (hR0.kept hk1)).mono ?_
      rintro e w2 ⟨rfl, hr2, hg2⟩
      have lg2 := hr2.lt
      have y1 := x1.grown hg2.1 (by intro e; simp at e; omega)
      have l1 := y1.lt
      have kA : ∀ W : World, Kept W (W.alloc (.cells #[.slice (some ⟨g, 0, none⟩) zs.length cap] 28)) := fun W => Kept.alloc (Below.refl _ W) _
      have sA : ∀ (p : Addr) (u : Value), (w2.setCell p u).heap.size = w2.heap.size := fun p u => by simp [World.setCell]
      have r4 := hr2.set (k := a + 1) (v := name) (by omega) hnb
      have r5 := r4.set (k := a + 2) (v := v) (by simp; omega) hvb
      have y5 := (y1.other (p := ⟨g, a + 1, none⟩) (by intro h; simp at h; omega) (.int .i64 name)).other (p := ⟨g, a + 2, none⟩) (by intro h; simp at h; omega) (.int .i64 v)
      have G5 : GS g w ((w2.setCell ⟨g, a + 1, none⟩ (.int .i64 name)).setCell ⟨g, a + 2, none⟩ (.int .i64 v)) := GS.set (k := a + 2) (GS.set (k := a + 1) (GS.trans (GS.any (k0.trans hk1) g) hg2) (.int .i64 name)) (.int .i64 v)
      have o3 := Cells.new w2 28 #[.slice (some ⟨g, 0, none⟩) zs.length cap]
      have o4 := Cells.new (w2.setCell ⟨g, a + 1, none⟩ (.int .i64 name)) 28 #[.slice (some ⟨g, 0, none⟩) zs.length cap]
      have o5 := Cells.new ((w2.setCell ⟨g, a + 1, none⟩ (.int .i64 name)).setCell ⟨g, a + 2, none⟩ (.int .i64 v)) 28 #[.slice (some ⟨g, 0, none⟩) zs.length cap]
      have sC : ((w2.setCell ⟨g, a + 1, none⟩ (.int .i64 name)).setCell ⟨g, a + 2, none⟩ (.int .i64 v)).heap.size = w2.heap.size := by simp [World.setCell]
      rw [sA] at o4
      rw [sC] at o5
      have cO3 := o3.cell 0
      have cO4 := o4.cell 0
      have cO5 := o5.cell 0
      have cg1 := (hr2.kept (kA _)).cell (j := a + 1) (by omega)
      have fg1 := (hr2.kept (kA _)).frozen (a + 1)
      have cg2 := (r4.kept (kA _)).cell (j := a + 2) (by simp; omega)
      have fg2 := (r4.kept (kA _)).frozen (a + 2)
      have p1 : (a : Int) + 1 < (zs.length : Int) := by omega
      have t1 : ((a : Int) + 1).toNat = a + 1 := by omega
      have p2 : (a : Int) + 2 < (zs.length : Int) := by omega
      have t2 : ((a : Int) + 2).toNat = a + 2 := by omega
      have hV : vRef 7 (a : Int) = 8 * (a : Int) + 7 := vRef_yes (by omega)
      have hRf : ∀ u : World, Calls Try.prog 57 #[.int .i64 7, .int .i64 (a : Int)] u fun e w' => e = .returned (.int .i64 (8 * (a : Int) + 7)) ∧ u = w' := fun u => by rw [← hV]; exact spec_RefOf_ok _ _ _
      have hNu : ∀ u : World, Calls Try.prog 71 #[.int .i64 obj] u fun e w' => e = .returned (.int .i64 (oa : Int)) ∧ u = w' := fun u => by rw [← hoa]; exact spec_Num_ok _ _
      have H5 : Hid (Row _ g _ ∧ Cells _ _ _ _ ∧ Cells _ _ _ _ ∧ GS g w _) := ⟨r5.kept (kA _), o5, y5.kept (kA _), GS.trans G5 (GS.any (kA _) g)⟩
      have HRf : Hid _ := hRf
      have HNu : Hid _ := hNu
      clear c1 r4 r5 y5 G5 o3 o4 o5 sA sC hV hoa hRf hNu
      rcases hf2 with rfl | ⟨n2, rfl, hn2⟩
      · rw [if_pos (by omega)] at hlk2
        subst hlk2
        have p3 : (oa : Int) + 2 < (zs.length : Int) := by omega
        have t3 : ((oa : Int) + 2).toNat = oa + 2 := by omega
        have wr3 : IntKind.i64.wrap ((oa : Int) + 2) = (oa : Int) + 2 := by rw [IntWalk.i64_left, IntWalk.wrap64_in _ (by omega)]
        have z3 : ¬ (oa : Int) + 2 < 0 := by omega
        go_wp2_with fail
        clear cO3 cO4 cO5 cg1 fg1 cg2 fg2 p1 t1 p2 t2
        obtain ⟨W5, hW5⟩ : ∃ W5, ((w2.setCell ⟨g, a + 1, none⟩ (.int .i64 name)).setCell ⟨g, a + 2, none⟩ (.int .i64 v)).alloc (.cells #[.slice (some ⟨g, 0, none⟩) zs.length cap] 28) = W5 := ⟨_, rfl⟩
        obtain ⟨O, hO⟩ : ∃ O, w2.heap.size = O := ⟨_, rfl⟩
        rw [hW5, hO] at H5
        rw [hO] at lg2 l1
        simp only [hW5, hO]
        obtain ⟨r5, o5, y5, G5⟩ := H5.out
        clear hW5 hO H5 hg2 hr2 y1
        have cO5 := o5.cell 0
        have cgL := r5.cell (j := oa + 2) (by simp; omega)
        have fgL := r5.frozen (oa + 2)
        have r6 := r5.set (k := oa + 2) (v := 8 * (a : Int) + 7) (by simp; omega) ⟨by omega, by omega⟩
        have o6 := o5.other (p := ⟨g, oa + 2, none⟩) (by intro h; simp at h; omega) (.int .i64 (8 * (a : Int) + 7))
        have y6 := y5.other (p := ⟨g, oa + 2, none⟩) (by intro h; simp at h; omega) (.int .i64 (8 * (a : Int) + 7))
        have G6 := GS.set (k := oa + 2) G5 (.int .i64 (8 * (a : Int) + 7))
        have cO6 := o6.cell 0
        have c6 := y6.cell 0
        have f6 := y6.frozen 0
        have H6 : Hid _ := And.intro r6 (And.intro y6 G6)
        clear r6 y6 G6 o6 r5 o5 y5 G5
        go_region_with (first | (go_at_call 57; refine (HRf.out _).mono ?_; rintro e wx ⟨rfl, rfl⟩) | (go_at_call 71; refine (HNu.out _).mono ?_; rintro e wx ⟨rfl, rfl⟩))
        all_goals go_wp2_with fail
        all_goals (
          obtain ⟨r6, y6, G6⟩ := H6.out
          have q := ((y6.set1 (.slice (some ⟨g, 0, none⟩) zs.length cap)).kept (Below.refl _ _).drew).cell 0
          refine bodyPost_ret (v := .tuple #[.agg #[.slice (some ⟨g, 0, none⟩) zs.length cap], .int .i64 (a : Int), .bool true]) (by simp [results, Try.results41, go_sem, q]) rfl ?_
          rw [HP2.out]
          exact ⟨rfl, (r6.other (p := ⟨w.heap.size + 1, 0, none⟩) (by intro h; simp at h; omega) _).kept (Below.refl _ _).drew, GS.trans (GS.setNew G6 (by simp) _) (GS.any (Below.refl _ _).drew g)⟩)
      · rw [if_neg (by omega)] at hlk2
        simp only [Int.toNat_natCast] at hlk2
        subst hlk2
        have p3 : (n2 : Int) + 3 < (zs.length : Int) := by omega
        have t3 : ((n2 : Int) + 3).toNat = n2 + 3 := by omega
        have wr3 : IntKind.i64.wrap ((n2 : Int) + 3) = (n2 : Int) + 3 := by rw [IntWalk.i64_left, IntWalk.wrap64_in _ (by omega)]
        have z3 : ¬ (n2 : Int) + 3 < 0 := by omega
        go_wp2_with fail
        clear cO3 cO4 cO5 cg1 fg1 cg2 fg2 p1 t1 p2 t2
        obtain ⟨W5, hW5⟩ : ∃ W5, ((w2.setCell ⟨g, a + 1, none⟩ (.int .i64 name)).setCell ⟨g, a + 2, none⟩ (.int .i64 v)).alloc (.cells #[.slice (some ⟨g, 0, none⟩) zs.length cap] 28) = W5 := ⟨_, rfl⟩
        obtain ⟨O, hO⟩ : ∃ O, w2.heap.size = O := ⟨_, rfl⟩
        rw [hW5, hO] at H5
        rw [hO] at lg2 l1
        simp only [hW5, hO]
        obtain ⟨r5, o5, y5, G5⟩ := H5.out
        clear hW5 hO H5 hg2 hr2 y1
        have cO5 := o5.cell 0
        have cgL := r5.cell (j := n2 + 3) (by simp; omega)
        have fgL := r5.frozen (n2 + 3)
        have r6 := r5.set (k := n2 + 3) (v := 8 * (a : Int) + 7) (by simp; omega) ⟨by omega, by omega⟩
        have o6 := o5.other (p := ⟨g, n2 + 3, none⟩) (by intro h; simp at h; omega) (.int .i64 (8 * (a : Int) + 7))
        have y6 := y5.other (p := ⟨g, n2 + 3, none⟩) (by intro h; simp at h; omega) (.int .i64 (8 * (a : Int) + 7))
        have G6 := GS.set (k := n2 + 3) G5 (.int .i64 (8 * (a : Int) + 7))
        have cO6 := o6.cell 0
        have c6 := y6.cell 0
        have f6 := y6.frozen 0
        have H6 : Hid _ := And.intro r6 (And.intro y6 G6)
        clear r6 y6 G6 o6 r5 o5 y5 G5
        go_region_with (go_at_call 57; refine (HRf.out _).mono ?_; rintro e wx ⟨rfl, rfl⟩)
        all_goals go_wp2_with fail
        all_goals (
          obtain ⟨r6, y6, G6⟩ := H6.out
          have q := ((y6.set1 (.slice (some ⟨g, 0, none⟩) zs.length cap)).kept (Below.refl _ _).drew).cell 0
          refine bodyPost_ret (v := .tuple #[.agg #[.slice (some ⟨g, 0, none⟩) zs.length cap], .int .i64 (a : Int), .bool true]) (by simp [results, Try.results41, go_sem, q]) rfl ?_
          rw [HP2.out]
          exact ⟨rfl, (r6.other (p := ⟨w.heap.size + 1, 0, none⟩) (by intro h; simp at h; omega) _).kept (Below.refl _ _).drew, GS.trans (GS.setNew G6 (by simp) _) (GS.any (Below.refl _ _).drew g)⟩)
  · have HP2 : Hid (setC zs obj name v = (zs.set (n1 + 2) v, -1, true)) := by show _ = _; rw [HP.out, if_pos (by omega)]; simp
    clear HP hlk hlk2
    go_enter Try.func41, Try.ntmps41
    go_wp2_with fail
    refine hCe.mono ?_
    rintro e w1 ⟨rfl, hk1⟩
    have x0 := b0.kept hk1
    have x1 := b1.kept hk1
    have hr1 := hR0.kept hk1
    have c1 := x0.cell 0
    have cg := hr1.cell (j := n1 + 2) (by omega)
    have fg := hr1.frozen (n1 + 2)
    have p2 : (n1 : Int) + 2 < (zs.length : Int) := by omega
    have t2 : ((n1 : Int) + 2).toNat = n1 + 2 := by omega
    have z0 := x0.other (p := ⟨g, n1 + 2, none⟩) (by intro h; simp at h; omega) (.int .i64 v)
    have z1 := x1.other (p := ⟨g, n1 + 2, none⟩) (by intro h; simp at h; omega) (.int .i64 v)
    have d0 := z0.cell 0
    have d1 := z1.cell 0
    have e1 := z1.frozen 0
    clear c0
    go_wp2
    have q := (z1.set1 (.slice (some ⟨g, 0, none⟩) zs.length cap)).cell 0
    refine bodyPost_ret (v := .tuple #[.agg #[.slice (some ⟨g, 0, none⟩) zs.length cap], .int .i64 (-1), .bool true]) (by simp [results, Try.results41, go_sem, q]) rfl ?_
    rw [HP2.out]
    exact ⟨rfl, (hr1.set (k := n1 + 2) (v := v) (by omega) hvb).other (by intro h; simp at h; omega) _, GS.setNew (GS.set (k := n1 + 2) (GS.any (k0.trans hk1) g) (.int .i64 v)) (by simp) _⟩
end Go.Proofs.Ythkhlmbhickdbaa
namespace Go.Proofs.Ythkhlmbhickdbaa
open Go.RowKit

set_option maxHeartbeats 8000000 in
set_option maxRecDepth 100000 in
theorem spec_PropSet_ok (w : World) (ao : Option Addr) (cap : Nat) (zs : List Int) (obj name v : Int) (hI : Ints w ao zs) (hl : zs.length ≤ 1048576) (hob : -9223372036854775808 ≤ obj ∧ obj ≤ 9223372036854775807) (hnb : -9223372036854775808 ≤ name ∧ name ≤ 9223372036854775807) (hvb : -9223372036854775808 ≤ v ∧ v ≤ 9223372036854775807) :
    Calls Try.prog 18 #[.agg #[.slice ao zs.length cap], .int .i64 obj, .int .i64 name, .int .i64 v] w fun e w' => ∃ u, e = .returned (.tuple #[.agg #[u], .bool (propC zs obj name v).2]) ∧ OwnR w' w.heap.size u (propC zs obj name v).1 ∧ Kept w w' ∧ FullV w' u := by
  have b0 := (Cells.new w 28 #[.slice ao zs.length cap]).alloc (.cells #[.slice none 0 0] 28)
  have b1 := Cells.new (w.alloc (.cells #[.slice ao zs.length cap] 28)) 28 #[.slice none 0 0]
  have k0 : Kept w ((w.alloc (.cells #[.slice ao zs.length cap] 28)).alloc (.cells #[.slice none 0 0] 28)) := (Kept.alloc (Below.refl _ _) _).alloc _
  simp only [World.size_alloc] at b1
  have HZ : Hid (∀ (u : World), Kept w u → Calls Try.prog 40 #[.agg #[.slice ao zs.length cap]] u fun e w' => ∃ v, e = .returned (.agg #[v]) ∧ OwnR w' u.heap.size v (zeroL zs) ∧ Kept u w' ∧ FullV w' v) := fun u hu => l5Zero_ok u ao cap zs (hI.kept hu) hl
  have c0' := b0.cell 0
  by_cases hn4 : name % 8 = 4
  · have hn' : (name % 8 != 4) = false := by simp [hn4]
    by_cases hv7 : v % 8 = 7
    · have hv' : (v % 8 == 7) = true := by simp [hv7]
      have HC : Hid (propC zs obj name v = (zeroL zs, false)) := by simp [Hid, propC, hv7]
      clear hv7 hn4
      go_enter Try.func18, Try.ntmps18
      go_wp2_with (first | (go_at_call 34; refine (spec_Kind_ok _ _).mono ?_; rintro e wx ⟨rfl, rfl⟩) | (go_at_call 40; refine (HZ.out _ k0).mono ?_; rintro e wz ⟨vz, rfl, oz, hkz, fvz⟩; obtain ⟨laz, lcz, rfl, _⟩ := oz.ints; have xz := b1.kept hkz; have dz := xz.cell 0; have fz := xz.frozen 0; have lz := xz.lt))
      have q := (xz.set1 (.slice laz (zeroL zs).length lcz)).cell 0
      refine bodyPost_ret (v := .tuple #[.agg #[.slice laz (zeroL zs).length lcz], .bool false]) (by simp [results, Try.results18, go_sem, q]) rfl ?_
      rw [HC.out]
      refine ⟨_, rfl, ?_, (k0.trans hkz).set (by simp) _, fvz.set _ _ _⟩
      rcases oz with ⟨h1, h2⟩ | ⟨g3, c3, h1, h2, h3, h4⟩
      · exact .inl ⟨h1, h2⟩
      · simp only [World.size_alloc] at h2
        exact .inr ⟨g3, c3, h1, by omega, h3, h4.other (by intro h; simp at h <;> omega) _⟩
    · have hv' : (v % 8 == 7) = false := by simp [hv7]
      have hIs := l5Is_at _ ao cap zs [obj, name, v] 3 5 #[.int .i64 obj, .int .i64 name, .int .i64 v] rfl rfl (by simpa using ⟨hob, hnb, hvb⟩) (by omega) (by omega) (hI.kept k0) hl
      simp only [World.size_alloc] at hIs
      have c0 := (b0.alloc (.cells #[.int .i64 obj, .int .i64 name, .int .i64 v] 3)).cell 0
      cases hi : isR zs [obj, name, v] 5 with
      | false =>
        have HC : Hid (propC zs obj name v = (zeroL zs, false)) := by simp [Hid, propC, hi]
        rw [hi] at hIs
        clear hv7 hn4 hi
        go_enter Try.func18, Try.ntmps18
        go_wp2_with (first | (go_at_call 34; refine (spec_Kind_ok _ _).mono ?_; rintro e wx ⟨rfl, rfl⟩) | (go_at_call 35; refine hIs.mono ?_; rintro e w1 ⟨rfl, hk1⟩; have d0 := (b0.kept hk1).cell 0) | (go_at_call 40; refine (HZ.out _ (k0.trans hk1)).mono ?_; rintro e wz ⟨vz, rfl, oz, hkz, fvz⟩; obtain ⟨laz, lcz, rfl, _⟩ := oz.ints; have xz := (b1.kept hk1).kept hkz; have dz := xz.cell 0; have fz := xz.frozen 0; have lz := xz.lt))
        have hs0 := hk1.size
        simp only [World.size_alloc] at hs0
        have q := (xz.set1 (.slice laz (zeroL zs).length lcz)).cell 0
        refine bodyPost_ret (v := .tuple #[.agg #[.slice laz (zeroL zs).length lcz], .bool false]) (by simp [results, Try.results18, go_sem, q]) rfl ?_
        rw [HC.out]
        refine ⟨_, rfl, ?_, ((k0.trans hk1).trans hkz).set (by simp) _, fvz.set _ _ _⟩
        rcases oz with ⟨h1, h2⟩ | ⟨g3, c3, h1, h2, h3, h4⟩
        · exact .inl ⟨h1, h2⟩
        · exact .inr ⟨g3, c3, h1, by omega, h3, h4.other (by intro h; simp at h <;> omega) _⟩
      | true =>
        rw [hi] at hIs
        obtain ⟨hh, h5, hls⟩ := isR_facts hi
        have h5' : obj % 8 = 5 := h5
        have hle : leadsR zs obj 5 = true := hls 0 (by simp)
        have hO := fun (u : World) (hu : Kept w u) => l5Round_ok u ao cap zs obj (hI.kept hu) hl hh h5' hle
        cases hr : roundR zs obj with
        | true =>
          have HC : Hid (propC zs obj name v = (zeroL zs, false)) := by simp [Hid, propC, hr]
          rw [hr] at hO
          have HO : Hid _ := hO
          clear hv7 hn4 hi hr h5 h5' hle hls hh hO
          go_enter Try.func18, Try.ntmps18
          go_wp2_with (first | (go_at_call 34; refine (spec_Kind_ok _ _).mono ?_; rintro e wx ⟨rfl, rfl⟩) | (go_at_call 35; refine hIs.mono ?_; rintro e w1 ⟨rfl, hk1⟩; have d0 := (b0.kept hk1).cell 0) | (go_at_call 39; refine (HO.out _ (k0.trans hk1)).mono ?_; rintro e w2 ⟨rfl, hk2⟩; have d00 := ((b0.kept hk1).kept hk2).cell 0) | (go_at_call 40; refine (HZ.out _ ((k0.trans hk1).trans hk2)).mono ?_; rintro e wz ⟨vz, rfl, oz, hkz, fvz⟩; obtain ⟨laz, lcz, rfl, _⟩ := oz.ints; have xz := ((b1.kept hk1).kept hk2).kept hkz; have dz := xz.cell 0; have fz := xz.frozen 0; have lz := xz.lt))
          have hs0 := hk1.size
          have hs1 := hk2.size
          simp only [World.size_alloc] at hs0
          have q := (xz.set1 (.slice laz (zeroL zs).length lcz)).cell 0
          refine bodyPost_ret (v := .tuple #[.agg #[.slice laz (zeroL zs).length lcz], .bool false]) (by simp [results, Try.results18, go_sem, q]) rfl ?_
          rw [HC.out]
          refine ⟨_, rfl, ?_, (((k0.trans hk1).trans hk2).trans hkz).set (by simp) _, fvz.set _ _ _⟩
          rcases oz with ⟨h1, h2⟩ | ⟨g3, c3, h1, h2, h3, h4⟩
          · exact .inl ⟨h1, h2⟩
          · exact .inr ⟨g3, c3, h1, by omega, h3, h4.other (by intro h; simp at h <;> omega) _⟩
        | false =>
          have HC0 : Hid (propC zs obj name v = ((setC zs obj name v).1, (setC zs obj name v).2.2)) := by simp [Hid, propC, hn4, hv7, hi, hr]
          rw [hr] at hO
          have HO : Hid _ := hO
          have hT := fun (u : World) (g c : Nat) (hu : Row u g zs) => l5Set_ok u g c zs obj name v hu hl hh h5' hle hnb hvb
          have hrl := setC_len zs obj name v
          obtain ⟨rs, hrs⟩ : ∃ rs, (setC zs obj name v).1 = rs := ⟨_, rfl⟩
          obtain ⟨x, hx⟩ : ∃ x, (setC zs obj name v).2.1 = x := ⟨_, rfl⟩
          obtain ⟨y, hy⟩ : ∃ y, (setC zs obj name v).2.2 = y := ⟨_, rfl⟩
          have HC : Hid (propC zs obj name v = (rs, y)) := by show _ = _; rw [HC0.out, hrs, hy]
          rw [hrs, hx, hy] at hT
          rw [hrs] at hrl
          clear hv7 hn4 hi hr h5 h5' hle hls hh hO HC0 hrs hx hy
          go_enter Try.func18, Try.ntmps18
          go_wp2_with (first | (go_at_call 34; refine (spec_Kind_ok _ _).mono ?_; rintro e wx ⟨rfl, rfl⟩) | (go_at_call 35; refine hIs.mono ?_; rintro e w1 ⟨rfl, hk1⟩; have d0 := (b0.kept hk1).cell 0) | (go_at_call 39; refine (HO.out _ (k0.trans hk1)).mono ?_; rintro e w2 ⟨rfl, hk2⟩; have d00 := ((b0.kept hk1).kept hk2).cell 0) | (go_at_call 29; refine (l2Copy_ok _ ao cap zs ((hI.kept ((k0.trans hk1).trans hk2))) hl).mono ?_; rintro e wc ⟨gc, cc, rfl, hgc, hcc, hRc, hkc, szc⟩) | (go_at_call 41; refine (hT _ gc cc hRc).mono ?_; rintro e wm ⟨rfl, hRm, hGm⟩; have hs0 := hk1.size; have hs1 := hk2.size; simp only [World.size_alloc] at hs0; have xm := (((b1.kept hk1).kept hk2).kept hkc).grown hGm.1 (by intro e; simp at e; omega); have dm := xm.cell 0; have fm := xm.frozen 0; have lm := xm.lt))
          have km := (((k0.trans hk1).trans hk2).trans hkc).grownRow hGm.1 (fun k e => by cases e; omega)
          have q := ((xm.set1 (.slice (some ⟨gc, 0, none⟩) zs.length cc)).alloc (.cells #[.slice (some ⟨gc, 0, none⟩) zs.length cc] 28)).cell 0
          refine bodyPost_ret (v := .tuple #[.agg #[.slice (some ⟨gc, 0, none⟩) zs.length cc], .bool y]) (by simp [results, Try.results18, go_sem, q]) rfl ?_
          rw [HC.out]
          exact ⟨_, rfl, .inr ⟨gc, cc, by rw [hrl], by omega, by rw [hrl]; exact hcc, (hRm.other (by intro h; simp at h <;> omega) _).kept (Kept.alloc (Below.refl _ _) _)⟩, (km.set (by simp) _).alloc _, FullV.one (((hGm.2 _ szc).set _ _ _).kept (Kept.alloc (Below.refl _ _) _))⟩
  · have hn' : (name % 8 != 4) = true := by simp [hn4]
    have HC : Hid (propC zs obj name v = (zeroL zs, false)) := by simp [Hid, propC, hn4]
    clear hn4
    go_enter Try.func18, Try.ntmps18
    go_wp2_with (first | (go_at_call 34; refine (spec_Kind_ok _ _).mono ?_; rintro e wx ⟨rfl, rfl⟩) | (go_at_call 40; refine (HZ.out _ k0).mono ?_; rintro e wz ⟨vz, rfl, oz, hkz, fvz⟩; obtain ⟨laz, lcz, rfl, _⟩ := oz.ints; have xz := b1.kept hkz; have dz := xz.cell 0; have fz := xz.frozen 0; have lz := xz.lt))
    have q := (xz.set1 (.slice laz (zeroL zs).length lcz)).cell 0
    refine bodyPost_ret (v := .tuple #[.agg #[.slice laz (zeroL zs).length lcz], .bool false]) (by simp [results, Try.results18, go_sem, q]) rfl ?_
    rw [HC.out]
    refine ⟨_, rfl, ?_, (k0.trans hkz).set (by simp) _, fvz.set _ _ _⟩
    rcases oz with ⟨h1, h2⟩ | ⟨g3, c3, h1, h2, h3, h4⟩
    · exact .inl ⟨h1, h2⟩
    · simp only [World.size_alloc] at h2
      exact .inr ⟨g3, c3, h1, by omega, h3, h4.other (by intro h; simp at h <;> omega) _⟩
end Go.Proofs.Ythkhlmbhickdbaa
namespace Go.Proofs.Ythkhlmbhickdbaa
open Go.RowKit

def propR (zs : List Int) (obj name v : Int) : Bool := heapR zs && isOb zs obj && valR zs 7 name && valR zs 10 v
theorem roots3 {zs : List Int} {a b c : Int} : rootsR zs [a, b, c] = (heapR zs && ((leadsR zs a 5 && leadsR zs b 5) && leadsR zs c 5)) := by
  unfold rootsR leadAll
  rw [show [a, b, c].length = 3 from rfl, allR_succ, allR_succ, allR_succ, allR_zero]
  simp [hz]
theorem prop_is {zs : List Int} {obj name v : Int} : (decide (name % 8 = 4) && decide (v % 8 ≠ 7) && isR zs [obj, name, v] 5) = propR zs obj name v := by
  unfold propR isR isOb
  rw [val7, val10, roots3, show hz [obj, name, v] 0 = obj from rfl]
  unfold plainR
  by_cases h5 : obj % 8 = 5
  · by_cases h4 : name % 8 = 4
    · by_cases h7 : v % 8 = 7
      · simp [h7]
      · rw [leads_any (v := obj) (by omega) 5 0, leads_any (v := name) (by omega) 5 0, leads_any (v := v) h7 5 0]
        simp [h5, h4, h7, Bool.and_assoc]
    · simp [h4]
  · simp [h5]
theorem propC_no {zs : List Int} {obj name v : Int} (h : propR zs obj name v = false) : propC zs obj name v = (zeroL zs, false) := by
  unfold propC
  rw [prop_is, h]
  simp
theorem propC_round {zs : List Int} {obj name v : Int} (h : roundR zs obj = true) : propC zs obj name v = (zeroL zs, false) := by
  unfold propC
  rw [h]
  simp
theorem propC_yes {zs : List Int} {obj name v : Int} (h : propR zs obj name v = true) (hr : roundR zs obj = false) : propC zs obj name v = ((setC zs obj name v).1, (setC zs obj name v).2.2) := by
  unfold propC
  rw [prop_is, h, hr]
  simp
theorem setC_there {zs : List Int} {obj name v v' : Int} {ps : List Nat} {q : Nat} (hA : All zs (hz zs (plc obj + 2)) ps v') (hn : namedP zs name ps = some q) : setC zs obj name v = (zs.set (q + 2) v, -1, true) := by
  unfold setC
  rw [hA.cell (name := name), hn]
  simp
theorem setC_full {zs : List Int} {obj name v v' : Int} {ps : List Nat} (hA : All zs (hz zs (plc obj + 2)) ps v') (hn : namedP zs name ps = none) (hf : ffB zs 4 = none) : setC zs obj name v = (zs, -1, false) := by
  unfold setC
  rw [hA.cell (name := name), hn, hf]
  simp
/-- Where the link behind all cells lies. -/
def tailP (a : Nat) (ps : List Nat) : Nat := match ps.getLast? with | some p => p + 3 | none => a + 2
theorem setC_new {zs : List Int} {obj name v : Int} {ps : List Nat} {a : Nat} {b : BkOf zs.length} (hA : All zs (hz zs (plc obj + 2)) ps 0) (hn : namedP zs name ps = none) (hf : ffB zs 4 = some b) (ha : obj / 8 = a) :
    setC zs obj name v = ((((takeL zs b.1 3 4).set (b.1.at' + 1) name).set (b.1.at' + 2) v).set (tailP a ps) (8 * ((b.1.at' : Nat) : Int) + 7), ((b.1.at' : Nat) : Int), true) := by
  unfold setC
  have e1 : (cellF zs name zs.length (hz zs (plc obj + 2)) (-1)).1 = -1 := by rw [hA.cell (name := name), hn]
  have e2 := hA.last hn
  have e3 : linkAt obj (lastP ps (-1)) = tailP a ps := by
    unfold linkAt lastP tailP
    cases ps.getLast? with
    | none => simp [plc_is ha]
    | some p =>
      show (if ((p : Nat) : Int) < 0 then _ else ((p : Nat) : Int).toNat + 3) = p + 3
      rw [if_neg (by omega), Int.toNat_natCast]
  rw [e1, e2, hf, if_neg (show ¬ (0 : Int) ≤ -1 by omega), e3]
theorem hz_taken4 {zs : List Int} {b : BkOf zs.length} {k j : Nat} (h4 : 4 ≤ b.1.size) (h1 : 1 ≤ j) (h2 : j < 4) : hz (takeL zs b.1 k 4) (b.1.at' + j) = 0 := by
  have hle := b.2.2.1
  unfold takeL
  split
  · rw [hz_layL (by simp; omega) (by omega), if_neg (by omega), if_pos (by omega)]
  · rw [hz_layL (by omega) (by omega), if_neg (by omega), if_pos (by omega)]
theorem cell_sets {zs : List Int} {b : BkOf zs.length} {n v : Int} (h4 : 4 ≤ b.1.size) : sets (takeL zs b.1 3 4) (b.1.at' + 1) [n, v, 0] = ((takeL zs b.1 3 4).set (b.1.at' + 1) n).set (b.1.at' + 2) v := by
  have hle := b.2.2.1
  have hl := takeL_length zs b.1 3 4
  show (((takeL zs b.1 3 4).set (b.1.at' + 1) n).set (b.1.at' + 1 + 1) v).set (b.1.at' + 1 + 1 + 1) 0 = _
  refine set_same (by simp; omega) ?_
  rw [hz_set (by simp; omega), if_neg (by omega), hz_set (by omega), if_neg (by omega)]
  exact hz_taken4 (zs := zs) (b := b) (k := 3) (j := 3) h4 (by omega) (by omega)
theorem tailP_lt {zs : List Int} {a : Nat} {v v' : Int} {ps : List Nat} (hA : All zs v ps v') (ha : a + 3 ≤ zs.length) : tailP a ps < zs.length := by
  unfold tailP
  cases h : ps.getLast? with
  | none => show a + 2 < _; omega
  | some p =>
    have := hA.le p (List.mem_of_getLast? h)
    show p + 3 < _
    omega
theorem namedP_le {zs : List Int} {name v v' : Int} {ps : List Nat} {q : Nat} (hA : All zs v ps v') (hn : namedP zs name ps = some q) : q + 4 ≤ zs.length := hA.le q (List.mem_of_find?_eq_some hn)
end Go.Proofs.Ythkhlmbhickdbaa
