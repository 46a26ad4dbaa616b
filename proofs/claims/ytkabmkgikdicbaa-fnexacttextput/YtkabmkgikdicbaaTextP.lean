/-
  The contracts of the program's TextPut.
-/
import Derived.Test.YtkabmkgikdicbaaTextN
import Derived.Test.YtkabmkgikdicbaaTextO
import Derived.Test.YtkabmkgikdicbaaSlabQ
namespace Go.Proofs.Ytkabmkgikdicbaa
open Go.RowKit

set_option maxHeartbeats 4000000 in
set_option maxRecDepth 100000 in
theorem impl_TextPut_bad (w : World) (ao : Option Addr) (cap : Nat) (zs : List Int) (t : ByteArray) (hI : Ints w ao zs) (hl : zs.length ≤ 1048576) (hh : heapR zs = false) :
    Calls Try.prog 7 #[.agg #[.slice ao zs.length cap], .string t] w fun e w' => e = .returned (.tuple #[.agg #[.slice none 0 0], .int .i64 0, .bool false]) ∧ Kept w w' := by
  have b1 := Cells.new (w.alloc (.cells #[.slice ao zs.length cap] 26)) 26 #[.slice none 0 0]
  have k0 : Kept w ((w.alloc (.cells #[.slice ao zs.length cap] 26)).alloc (.cells #[.slice none 0 0] 26)) := (Kept.alloc (Below.refl _ _) _).alloc _
  simp only [World.size_alloc] at b1
  have hS := impl_HeapOk_ok _ ao cap zs (hI.kept k0) hl
  rw [hh] at hS
  clear hh
  go_enter Try.func7, Try.ntmps7
  go_wp2_with (go_at_call 16; refine hS.mono ?_; rintro e w1 ⟨rfl, hk1⟩; have d1 := (b1.kept hk1).cell 0; have f1 := (b1.kept hk1).frozen 0)
  have q := ((b1.kept hk1).set1 (.slice none 0 0)).cell 0
  refine bodyPost_ret (v := .tuple #[.agg #[.slice none 0 0], .int .i64 0, .bool false]) (by simp [results, Try.results7, go_sem, q]) rfl ⟨rfl, (k0.trans hk1).set (by simp) _⟩
set_option maxHeartbeats 4000000 in
set_option maxRecDepth 100000 in
theorem impl_TextPut_there (w : World) (ao : Option Addr) (cap : Nat) (zs : List Int) (t : ByteArray) (b : BkOf zs.length) (hI : Ints w ao zs) (hl : zs.length ≤ 1048576) (hcap : zs.length ≤ cap) (hh : heapR zs = true) (hf : findT zs t = some b) :
    Calls Try.prog 7 #[.agg #[.slice ao zs.length cap], .string t] w fun e w' => ∃ v, e = .returned (.tuple #[.agg #[v], .int .i64 (8 * ((b.1.at' : Nat) : Int) + 4), .bool true]) ∧ OwnR w' w.heap.size v zs ∧ Kept w w' := by
  have b0 := (Cells.new w 26 #[.slice ao zs.length cap]).alloc (.cells #[.slice none 0 0] 26)
  have b1 := Cells.new (w.alloc (.cells #[.slice ao zs.length cap] 26)) 26 #[.slice none 0 0]
  have k0 : Kept w ((w.alloc (.cells #[.slice ao zs.length cap] 26)).alloc (.cells #[.slice none 0 0] 26)) := (Kept.alloc (Below.refl _ _) _).alloc _
  simp only [World.size_alloc] at b1
  have hS := impl_HeapOk_ok _ ao cap zs (hI.kept k0) hl
  rw [hh] at hS
  have hA := fun (u : World) (hu : Kept w u) => textAt_ok u ao cap zs t (hI.kept hu) hl hcap hh
  have hC := fun (u : World) (hu : Kept w u) => copySlab_ok u ao cap zs (hI.kept hu) hl
  rw [hf] at hA
  have hlen : zs.length ≤ 2000 := (slabOk_iff.1 (heapR_slab hh)).1
  have hm2 : b.1.at' < 2000 := by have := b.2.2.1; have := b.2.1; omega
  obtain ⟨m, hm⟩ : ∃ m : Nat, b.1.at' = m := ⟨_, rfl⟩
  simp only [atV, hm] at hA
  rw [hm] at hm2 ⊢
  have HA : Hid _ := hA
  have HC : Hid _ := hC
  clear hh hf hm hA hC hcap
  go_enter Try.func7, Try.ntmps7
  go_wp2_with (first | (go_at_call 16; refine hS.mono ?_; rintro e w1 ⟨rfl, hk1⟩; have x0 := b0.kept hk1; have c0 := x0.cell 0) | (go_at_call 17; refine (HA.out _ (k0.trans hk1)).mono ?_; rintro e w2 ⟨rfl, hk2⟩; have c2 := (x0.kept hk2).cell 0) | (go_at_call 18; refine (HC.out _ ((k0.trans hk1).trans hk2)).mono ?_; rintro e w3 ⟨g3, c3, rfl, hg3, hc3, hR3, hk3⟩; have x1 := ((b1.kept hk1).kept hk2).kept hk3; have d1 := x1.cell 0; have f1 := x1.frozen 0; have l1 := x1.lt) | (go_at_call 19; refine (impl_RefOf_ok _ _ _).mono ?_; rintro e wx ⟨rfl, rfl⟩))
  have hs1 := hk1.size
  have hs2 := hk2.size
  simp only [World.size_alloc] at hs1
  have q := (x1.set1 (.slice (some ⟨g3, 0, none⟩) zs.length c3)).cell 0
  refine bodyPost_ret (v := .tuple #[.agg #[.slice (some ⟨g3, 0, none⟩) zs.length c3], .int .i64 (vRef 4 (m : Int)), .bool true]) (by simp [results, Try.results7, go_sem, q]) rfl ⟨_, by rw [vRef_yes (by omega)], .inr ⟨g3, c3, rfl, by omega, hc3, hR3.other (by intro h; simp at h <;> omega) _⟩, (((k0.trans hk1).trans hk2).trans hk3).set (by simp) _⟩
set_option maxHeartbeats 4000000 in
set_option maxRecDepth 100000 in
theorem impl_TextPut_long (w : World) (ao : Option Addr) (cap : Nat) (zs : List Int) (t : ByteArray) (hI : Ints w ao zs) (hl : zs.length ≤ 1048576) (hcap : zs.length ≤ cap) (hh : heapR zs = true) (hf : findT zs t = none) (ht : 30 < t.size) :
    Calls Try.prog 7 #[.agg #[.slice ao zs.length cap], .string t] w fun e w' => ∃ v, e = .returned (.tuple #[.agg #[v], .int .i64 0, .bool false]) ∧ OwnR w' w.heap.size v zs ∧ Kept w w' := by
  have b0 := (Cells.new w 26 #[.slice ao zs.length cap]).alloc (.cells #[.slice none 0 0] 26)
  have b1 := Cells.new (w.alloc (.cells #[.slice ao zs.length cap] 26)) 26 #[.slice none 0 0]
  have k0 : Kept w ((w.alloc (.cells #[.slice ao zs.length cap] 26)).alloc (.cells #[.slice none 0 0] 26)) := (Kept.alloc (Below.refl _ _) _).alloc _
  simp only [World.size_alloc] at b1
  have hS := impl_HeapOk_ok _ ao cap zs (hI.kept k0) hl
  rw [hh] at hS
  have hA := fun (u : World) (hu : Kept w u) => textAt_ok u ao cap zs t (hI.kept hu) hl hcap hh
  have hC := fun (u : World) (hu : Kept w u) => copySlab_ok u ao cap zs (hI.kept hu) hl
  rw [hf] at hA
  have hlen : zs.length ≤ 2000 := (slabOk_iff.1 (heapR_slab hh)).1
  simp only [atV] at hA
  have ht' : (30 : Int) < (t.size : Int) := by omega
  have HA : Hid _ := hA
  have HC : Hid _ := hC
  clear hh hf hA hC ht hcap
  go_enter Try.func7, Try.ntmps7
  go_wp2_with (first | (go_at_call 16; refine hS.mono ?_; rintro e w1 ⟨rfl, hk1⟩; have x0 := b0.kept hk1; have c0 := x0.cell 0) | (go_at_call 17; refine (HA.out _ (k0.trans hk1)).mono ?_; rintro e w2 ⟨rfl, hk2⟩; have c2 := (x0.kept hk2).cell 0) | (go_at_call 18; refine (HC.out _ ((k0.trans hk1).trans hk2)).mono ?_; rintro e w3 ⟨g3, c3, rfl, hg3, hc3, hR3, hk3⟩; have x1 := ((b1.kept hk1).kept hk2).kept hk3; have d1 := x1.cell 0; have f1 := x1.frozen 0; have l1 := x1.lt))
  have hs1 := hk1.size
  have hs2 := hk2.size
  simp only [World.size_alloc] at hs1
  have q := (x1.set1 (.slice (some ⟨g3, 0, none⟩) zs.length c3)).cell 0
  refine bodyPost_ret (v := .tuple #[.agg #[.slice (some ⟨g3, 0, none⟩) zs.length c3], .int .i64 0, .bool false]) (by simp [results, Try.results7, go_sem, q]) rfl ⟨_, rfl, .inr ⟨g3, c3, rfl, by omega, hc3, hR3.other (by intro h; simp at h <;> omega) _⟩, (((k0.trans hk1).trans hk2).trans hk3).set (by simp) _⟩
set_option maxHeartbeats 4000000 in
set_option maxRecDepth 100000 in
theorem impl_TextPut_full (w : World) (ao : Option Addr) (cap : Nat) (zs : List Int) (t : ByteArray) (hI : Ints w ao zs) (hl : zs.length ≤ 1048576) (hcap : zs.length ≤ cap) (hh : heapR zs = true) (hf : findT zs t = none) (ht : t.size ≤ 30) (hno : ffB zs ((t.size + 2 : Nat) : Int) = none) :
    Calls Try.prog 7 #[.agg #[.slice ao zs.length cap], .string t] w fun e w' => ∃ v, e = .returned (.tuple #[.agg #[v], .int .i64 0, .bool false]) ∧ OwnR w' w.heap.size v zs ∧ Kept w w' := by
  have b0 := (Cells.new w 26 #[.slice ao zs.length cap]).alloc (.cells #[.slice none 0 0] 26)
  have b1 := Cells.new (w.alloc (.cells #[.slice ao zs.length cap] 26)) 26 #[.slice none 0 0]
  have k0 : Kept w ((w.alloc (.cells #[.slice ao zs.length cap] 26)).alloc (.cells #[.slice none 0 0] 26)) := (Kept.alloc (Below.refl _ _) _).alloc _
  simp only [World.size_alloc] at b1
  have hS := impl_HeapOk_ok _ ao cap zs (hI.kept k0) hl
  rw [hh] at hS
  have hA := fun (u : World) (hu : Kept w u) => textAt_ok u ao cap zs t (hI.kept hu) hl hcap hh
  rw [hf] at hA
  simp only [atV] at hA
  have hT := fun (u : World) (hu : Kept w u) => impl_Take_no u ao cap zs 1 (2 + (t.size : Int)) (hI.kept hu) hl (heapR_slab hh) (.inr (by rw [← hno]; congr 1; omega))
  have ht' : ¬ (30 : Int) < (t.size : Int) := by omega
  have ht2 : (t.size : Int) ≤ 30 := by omega
  have HA : Hid _ := hA
  have HT : Hid _ := hT
  clear hh hf hA hT ht hcap hno
  go_enter Try.func7, Try.ntmps7
  go_wp2_with (first | (go_at_call 16; refine hS.mono ?_; rintro e w1 ⟨rfl, hk1⟩; have x0 := b0.kept hk1; have c0 := x0.cell 0) | (go_at_call 17; refine (HA.out _ (k0.trans hk1)).mono ?_; rintro e w2 ⟨rfl, hk2⟩; have c2 := (x0.kept hk2).cell 0) | (go_at_call 20; refine (HT.out _ ((k0.trans hk1).trans hk2)).mono ?_; rintro e w3 ⟨v3, rfl, o3, hk3⟩; obtain ⟨la3, lc3, rfl, _⟩ := o3.ints; have x1 := (((b1.kept hk1).kept hk2).kept hk3).alloc (.cells #[.slice la3 zs.length lc3] 26); have d1 := x1.cell 0; have f1 := x1.frozen 0; have l1 := x1.lt))
  have hs1 := hk1.size
  have hs2 := hk2.size
  simp only [World.size_alloc] at hs1
  have q := (x1.set1 (.slice la3 zs.length lc3)).cell 0
  refine bodyPost_ret (v := .tuple #[.agg #[.slice la3 zs.length lc3], .int .i64 0, .bool false]) (by simp [results, Try.results7, go_sem, q]) rfl ⟨_, rfl, ?_, ((((k0.trans hk1).trans hk2).trans hk3).alloc _).set (by simp) _⟩
  rcases o3 with ⟨h1, h2⟩ | ⟨g3, c3, h1, h2, h3, h4⟩
  · exact .inl ⟨h1, h2⟩
  · exact .inr ⟨g3, c3, h1, by omega, h3, (h4.kept (Kept.alloc (Below.refl _ _) _)).other (by intro h; simp at h <;> omega) _⟩
set_option maxHeartbeats 4000000 in
set_option maxRecDepth 100000 in
theorem impl_TextPut_laid (w : World) (ao : Option Addr) (cap : Nat) (zs : List Int) (t : ByteArray) (b : BkOf zs.length) (hI : Ints w ao zs) (hl : zs.length ≤ 1048576) (hcap : zs.length ≤ cap) (hh : heapR zs = true) (hf : findT zs t = none) (ht : t.size ≤ 30) (hb : ffB zs ((t.size + 2 : Nat) : Int) = some b) :
    Calls Try.prog 7 #[.agg #[.slice ao zs.length cap], .string t] w fun e w' => ∃ v, e = .returned (.tuple #[.agg #[v], .int .i64 (8 * ((b.1.at' : Nat) : Int) + 4), .bool true]) ∧ OwnR w' w.heap.size v (fillL (takeL zs b.1 1 (t.size + 2)) b.1.at' t t.size) ∧ Kept w w' := by
  have b0 := (Cells.new w 26 #[.slice ao zs.length cap]).alloc (.cells #[.slice none 0 0] 26)
  have b1 := Cells.new (w.alloc (.cells #[.slice ao zs.length cap] 26)) 26 #[.slice none 0 0]
  have k0 : Kept w ((w.alloc (.cells #[.slice ao zs.length cap] 26)).alloc (.cells #[.slice none 0 0] 26)) := (Kept.alloc (Below.refl _ _) _).alloc _
  simp only [World.size_alloc] at b1
  have hS := impl_HeapOk_ok _ ao cap zs (hI.kept k0) hl
  rw [hh] at hS
  have hA := fun (u : World) (hu : Kept w u) => textAt_ok u ao cap zs t (hI.kept hu) hl hcap hh
  rw [hf] at hA
  simp only [atV] at hA
  have hT := fun (u : World) (hu : Kept w u) => impl_Take_yes u ao cap zs 1 (t.size + 2) b (hI.kept hu) hl (heapR_slab hh) (by omega) (by omega) (by omega) hb
  have en : ((t.size + 2 : Nat) : Int) = 2 + (t.size : Int) := by omega
  rw [en] at hT
  have hfr : freeP ((t.size + 2 : Nat) : Int) b = true := List.find?_some hb
  have hble := b.2.2.1
  have hbs : t.size + 2 ≤ b.1.size := by simp [freeP] at hfr; omega
  have hlen : zs.length ≤ 2000 := (slabOk_iff.1 (heapR_slab hh)).1
  obtain ⟨a, ha⟩ : ∃ a : Nat, b.1.at' = a := ⟨_, rfl⟩
  obtain ⟨ys, hys⟩ : ∃ ys, takeL zs b.1 1 (t.size + 2) = ys := ⟨_, rfl⟩
  have hyl : ys.length = zs.length := by rw [← hys]; unfold takeL; split <;> simp [layL_len]
  rw [hys, ha] at hT ⊢
  have hfit : a + 2 + t.size ≤ ys.length := by omega
  have hF := fun (u : World) (g c : Nat) (hu : Row u g ys) => fillText_ok u g c ys a t hu (by omega) hfit
  have hfl := fillL_len ys a t t.size
  have ht' : ¬ (30 : Int) < (t.size : Int) := by omega
  have ht2 : (t.size : Int) ≤ 30 := by omega
  have ha2 : a < 2000 := by omega
  have HA : Hid _ := hA
  have HT : Hid _ := hT
  have HF : Hid _ := hF
  have HL : Hid ((fillL ys a t t.size).length = ys.length) := hfl
  clear hh hf hA hT ht hcap hb en hfr hble hbs hys hF hfl ha hyl
  go_enter Try.func7, Try.ntmps7
  go_wp2_with (first | (go_at_call 16; refine hS.mono ?_; rintro e w1 ⟨rfl, hk1⟩; have x0 := b0.kept hk1; have c0 := x0.cell 0) | (go_at_call 17; refine (HA.out _ (k0.trans hk1)).mono ?_; rintro e w2 ⟨rfl, hk2⟩; have c2 := (x0.kept hk2).cell 0) | (go_at_call 20; fail))
  refine (HT.out _ ((k0.trans hk1).trans hk2)).mono ?_
  rintro e w3 ⟨v3, rfl, o3, hk3⟩
  rcases o3 with ⟨h1, h2⟩ | ⟨g3, c3, rfl, hg3, hc3, hR3⟩
  · rw [h2] at hfit; simp at hfit
  have hs1 := hk1.size
  have hs2 := hk2.size
  simp only [World.size_alloc] at hs1
  have kA : Kept w3 (w3.alloc (.cells #[.slice (some ⟨g3, 0, none⟩) ys.length c3] 26)) := Kept.alloc (Below.refl _ _) _
  have lg3 := hR3.lt
  have bO := Cells.new w3 26 #[.slice (some ⟨g3, 0, none⟩) ys.length c3]
  have y1 := (((b1.kept hk1).kept hk2).kept hk3).kept kA
  have hl3 := (((b1.kept hk1).kept hk2).kept hk3).lt
  have cO := bO.cell 0
  have hFt := HF.out _ g3 c3 (hR3.kept kA)
  clear c0 c2
  go_wp2_with (go_at_call 21; refine hFt.mono ?_; rintro e w4 ⟨rfl, hR4, hg4⟩)
  have o4 := bO.grown hg4 (by intro e; simp at e; omega)
  have y4 := y1.grown hg4 (by intro e; simp at e; omega)
  have cO4 := o4.cell 0
  have c4 := y4.cell 0
  have f4 := y4.frozen 0
  go_wp2_with fail
  go_region_with (go_at_call 19; refine (impl_RefOf_ok _ _ _).mono ?_; rintro e wx ⟨rfl, rfl⟩)
  all_goals go_wp2_with fail
  all_goals (
    have q := ((y4.set1 (.slice (some ⟨g3, 0, none⟩) ys.length c3)).kept (Below.refl _ _).drew).cell 0
    refine bodyPost_ret (v := .tuple #[.agg #[.slice (some ⟨g3, 0, none⟩) ys.length c3], .int .i64 (vRef 4 (a : Int)), .bool true]) (by simp [results, Try.results7, go_sem, q]) rfl ⟨_, by rw [vRef_yes (by omega)], .inr ⟨g3, c3, by rw [HL.out], by omega, by rw [HL.out]; exact hc3, (hR4.other (p := ⟨w.heap.size + 1, 0, none⟩) (by intro h; simp at h <;> omega) _).kept (Below.refl _ _).drew⟩, ?_⟩
    exact Kept.trans ((((((k0.trans hk1).trans hk2).trans hk3).trans kA).grownRow hg4 (fun k e => by cases e; omega)).set (p := ⟨w.heap.size + 1, 0, none⟩) (by simp) _) (Below.refl _ _).drew)
end Go.Proofs.Ytkabmkgikdicbaa
