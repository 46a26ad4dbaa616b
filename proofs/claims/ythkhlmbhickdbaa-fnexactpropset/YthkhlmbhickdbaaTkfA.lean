/-
  The contract of the program's takeFilled (54ec384): a block is taken, and words are copied behind its first one.
-/
import Derived.Test.YthkhlmbhickdbaaObjF
import Derived.Test.YthkhlmbhickdbaaSlabQ
import Derived.Test.YthkhlmbhickdbaaSplA
import Derived.Deep.CutRange
namespace Go.Proofs.Ythkhlmbhickdbaa
open Go.RowKit
attribute [local go_sem] Plain.and7
set_option linter.unusedSimpArgs false
set_option linter.unusedVariables false
set_option maxHeartbeats 8000000 in
set_option maxRecDepth 100000 in
theorem takeFilled_no (w : World) (ao so : Option Addr) (cap sl sc : Nat) (zs : List Int) (kind n : Int) (hI : Ints w ao zs) (hl : zs.length ≤ 1048576) (hok : slabOk zs = true) (hno : ¬ (1 ≤ kind ∧ kind ≤ 5 ∧ 2 ≤ n) ∨ ffB zs n = none) :
    Calls Try.prog 49 #[.agg #[.slice ao zs.length cap], .int .i64 kind, .int .i64 n, .slice so sl sc] w fun e w' => ∃ v, e = .returned (.tuple #[.agg #[v], .int .i64 0, .bool false]) ∧ OwnR w' w.heap.size v zs ∧ Kept w w' := by
  obtain ⟨W0, hW0⟩ : ∃ x, (w.alloc (.cells #[.slice ao zs.length cap] 28)).alloc (.cells #[.slice none 0 0] 28) = x := ⟨_, rfl⟩
  have k0 : Kept w W0 := hW0 ▸ (Kept.alloc (Below.refl _ _) _).alloc _
  have b0 : Cells W0 w.heap.size 28 #[.slice ao zs.length cap] := hW0 ▸ (Cells.new w 28 #[.slice ao zs.length cap]).alloc _
  have b1 : Cells W0 (w.heap.size + 1) 28 #[.slice none 0 0] := by
    have y := Cells.new (w.alloc (.cells #[.slice ao zs.length cap] 28)) 28 #[.slice none 0 0]
    rw [hW0] at y
    simp only [World.size_alloc] at y
    exact y
  have hT := impl_Take_no W0 ao cap zs kind n (hI.kept k0) hl hok hno
  have hs0 : w.heap.size + 2 ≤ W0.heap.size := by rw [← hW0]; simp
  have HK0 : Hid (Kept w W0) := k0
  have HS0 : Hid _ := hs0
  have HB1 : Hid (Cells W0 (w.heap.size + 1) 28 #[.slice none 0 0]) := b1
  have c0 := b0.cell 0
  clear hI hok hno b0 b1 k0 hs0
  go_enter Try.func49, Try.ntmps49
  go_upto_region 1 with (fail)
  try simp only [hW0]
  clear hW0
  go_wp2_with fail
  refine hT.mono ?_
  rintro e w2 ⟨v2, rfl, o2, hk2⟩
  obtain ⟨la2, lc2, rfl, _⟩ := o2.ints
  have x1 := Cells.kept HB1.out hk2
  have ka : Kept w2 (w2.alloc (.cells #[.slice la2 zs.length lc2] 28)) := Kept.alloc (Below.refl _ _) _
  have y1 := x1.kept ka
  have d1 := y1.cell 0
  have f1 := y1.frozen 0
  have dx := x1.cell 0
  have fx := x1.frozen 0
  have l1 := x1.lt
  have hs2 := hk2.size
  have HO2 : Hid _ := o2
  have HK2 : Hid _ := hk2
  have hs0 := HS0.out
  clear hT c0 o2 hk2
  go_wp2_with fail
  have q := ((x1.set1 (.slice la2 zs.length lc2)).alloc (.cells #[.slice la2 zs.length lc2] 28)).cell 0
  refine bodyPost_ret (v := .tuple #[.agg #[.slice la2 zs.length lc2], .int .i64 0, .bool false]) (by simp [results, Try.results49, go_sem, q]) rfl ⟨_, rfl, ?_, Kept.alloc ((Kept.trans HK0.out HK2.out).set (by simp) _) _⟩
  rcases HO2.out with ⟨h1, h2⟩ | ⟨g3, c3, h1, h2, h3, h4⟩
  · exact .inl ⟨h1, h2⟩
  · exact .inr ⟨g3, c3, h1, by omega, h3, (h4.other (p := ⟨w.heap.size + 1, 0, none⟩) (by intro h; simp at h <;> omega) _).kept (Kept.alloc (Below.refl _ _) _)⟩
set_option maxHeartbeats 8000000 in
set_option maxRecDepth 100000 in
theorem takeFilled_yes (w : World) (ao so : Option Addr) (cap sc : Nat) (zs vs : List Int) (kind n : Nat) (b : BkOf zs.length) (hI : Ints w ao zs) (hS : Ints w so vs) (hpos : 0 < vs.length) (hv : vs.length < n) (hl : zs.length ≤ 1048576) (hok : slabOk zs = true) (hk1 : 1 ≤ kind) (hk2 : kind ≤ 5) (hn : 2 ≤ n) (hff : ffB zs n = some b) :
    Calls Try.prog 49 #[.agg #[.slice ao zs.length cap], .int .i64 kind, .int .i64 n, .slice so vs.length sc] w fun e w' => ∃ v, e = .returned (.tuple #[.agg #[v], .int .i64 (b.1.at' : Nat), .bool true]) ∧ OwnR w' w.heap.size v (sets (takeL zs b.1 kind n) (b.1.at' + 1) vs) ∧ Kept w w' := by
  obtain ⟨i0, hi, hz0, hz1, hz2⟩ := info_parts infoI
  have hsz : (Try.prog.info? 3).map (·.size) = some 1 := by rw [hi]; simp [hz1]
  obtain ⟨W0, hW0⟩ : ∃ x, (w.alloc (.cells #[.slice ao zs.length cap] 28)).alloc (.cells #[.slice none 0 0] 28) = x := ⟨_, rfl⟩
  have k0 : Kept w W0 := hW0 ▸ (Kept.alloc (Below.refl _ _) _).alloc _
  have b0 : Cells W0 w.heap.size 28 #[.slice ao zs.length cap] := hW0 ▸ (Cells.new w 28 #[.slice ao zs.length cap]).alloc _
  have b1 : Cells W0 (w.heap.size + 1) 28 #[.slice none 0 0] := by
    have y := Cells.new (w.alloc (.cells #[.slice ao zs.length cap] 28)) 28 #[.slice none 0 0]
    rw [hW0] at y
    simp only [World.size_alloc] at y
    exact y
  have hfr : freeP n b = true := List.find?_some hff
  have hble := b.2.2.1
  have hbs : n ≤ b.1.size := by simp [freeP] at hfr; omega
  have hlen : zs.length ≤ 2000 := (slabOk_iff.1 hok).1
  have hT := impl_Take_yes W0 ao cap zs kind n b (hI.kept k0) hl hok (by omega) (by omega) (by omega) hff
  have hyl := takeL_length zs b.1 kind n
  obtain ⟨a, ha⟩ : ∃ a : Nat, b.1.at' = a := ⟨_, rfl⟩
  obtain ⟨ys, hys⟩ : ∃ ys, takeL zs b.1 kind n = ys := ⟨_, rfl⟩
  rw [hys, ha] at hT ⊢
  rw [hys] at hyl
  rw [ha] at hble
  have ha2 : a < 2000 := by omega
  have hfit : a + 1 + vs.length ≤ ys.length := by omega
  have hyb : ys.length ≤ 1048576 := by omega
  have HSR : Hid (Ints W0 so vs) := hS.kept k0
  have hs0 : w.heap.size + 2 ≤ W0.heap.size := by rw [← hW0]; simp
  have HK0 : Hid (Kept w W0) := k0
  have HS0 : Hid _ := hs0
  have HB1 : Hid (Cells W0 (w.heap.size + 1) 28 #[.slice none 0 0]) := b1
  have c0 := b0.cell 0
  have p1 : (a : Int) + 1 ≤ (ys.length : Int) := by omega
  have t1 : ((a : Int) + 1).toNat = a + 1 := by omega
  clear hI hok hff hS b0 b1 k0 hs0 hfr hbs ha hys hble hyl
  go_enter Try.func49, Try.ntmps49
  go_upto_region 1 with (fail)
  try simp only [hW0]
  clear hW0
  go_wp2_with fail
  refine hT.mono ?_
  rintro e w2 ⟨v2, rfl, o2, hk2⟩
  rcases o2 with ⟨h1, h2⟩ | ⟨g3, c3, rfl, hg3, hc3, hR3⟩
  · rw [h2] at hfit; simp at hfit
  have x1 := Cells.kept HB1.out hk2
  have lg3 := hR3.lt
  have d1 := x1.cell 0
  have f1 := x1.frozen 0
  have hl3 := x1.lt
  have hs2 := hk2.size
  have hs0 := HS0.out
  have kA : Kept w2 (w2.alloc (.cells #[.slice (some ⟨g3, 0, none⟩) ys.length c3] 28)) := Kept.alloc (Below.refl _ _) _
  have y1 := x1.kept kA
  have bO := Cells.new w2 28 #[.slice (some ⟨g3, 0, none⟩) ys.length c3]
  obtain ⟨hb, cur, hg, hcl, hcc⟩ := hR3.kept kA
  have hg' : (w2.alloc (.cells #[.slice (some ⟨g3, 0, none⟩) ys.length c3] 28)).heap[g3]? = some (.cells cur.toList.toArray 3 (0, 0)) := by simpa using hg
  have hSn := (HSR.out.kept hk2).kept kA
  obtain ⟨ad, rfl, hsr⟩ := hSn.src hpos
  clear hT c0
  go_wp2_with (refine wpList_copy_grown rfl (.tmp 27) (.tmp 28) 22 22 rfl 3 Try.underlying22 hsz g3 (a + 1) (ys.length - (a + 1)) (c3 - (a + 1)) ad vs.length sc rfl rfl cur 3 hg (vs.map (Value.int .i64)) (by rw [List.length_map]; exact (Nat.min_eq_left (by omega)).symm) hsr (by simp; omega) (by intro v hv; obtain ⟨z, _, rfl⟩ := List.mem_map.1 hv; rfl) ?_; intro w4 hrow hg4; have hR4 := Row.spliced hb hSn.1 (by simpa using hcl) (fun j hj => by simpa using hcc j hj) (by omega) hrow.out; have o4 := bO.grown hg4 (by intro e; simp at e; omega); have y4 := y1.grown hg4 (by intro e; simp at e; omega); have cO4 := o4.cell 0; have c4 := y4.cell 0; have f4 := y4.frozen 0)
  have HLS : (sets ys (a + 1) vs).length = ys.length := sets_len _ _ _
  have q := (y4.set1 (.slice (some ⟨g3, 0, none⟩) ys.length c3)).cell 0
  refine bodyPost_ret (v := .tuple #[.agg #[.slice (some ⟨g3, 0, none⟩) ys.length c3], .int .i64 (a : Int), .bool true]) (by simp [results, Try.results49, go_sem, q]) rfl ⟨_, rfl, .inr ⟨g3, c3, by rw [HLS], by omega, by rw [HLS]; exact hc3, hR4.other (p := ⟨w.heap.size + 1, 0, none⟩) (by intro h; simp at h <;> omega) _⟩, ?_⟩
  exact (((Kept.trans HK0.out hk2).trans kA).grownRow hg4 (fun k e => by cases e; omega)).set (p := ⟨w.heap.size + 1, 0, none⟩) (by simp) _
end Go.Proofs.Ythkhlmbhickdbaa
