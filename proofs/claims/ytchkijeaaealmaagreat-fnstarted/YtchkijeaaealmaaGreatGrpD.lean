/-
  The contracts of the draws of chapter 2: l2Draw, l2DrawAt, and what the laws draw.
  The contracts of what the laws of chapter 2 draw, and of sameInts.
  What Take makes of a slab, both of the program and of its model; sameInts.
  The contracts of what FnGiven draws; facts on lists that it asks for.
  The contracts of the draws of chapter 1 (spec.DrawWrap, DrawIntOf, DrawBoolOf, DrawRefOf, DrawKind, DrawNum, DrawValueOk): each returns an integer that fits, or a bool, and turns no memory that was there.
-/
import Derived.Test.YtchkijeaaealmaaGreatZSlabD
import Derived.Test.YtchkijeaaealmaaGreatGrpSe
import Derived.Test.YtchkijeaaealmaaGreatZSlabR
import Derived.Test.YtchkijeaaealmaaGreatZSamI
import Derived.Test.YtchkijeaaealmaaGreatGrpHs
import Derived.Test.YtchkijeaaealmaaGreatDraw
namespace Go.Proofs.YtchkijeaaealmaaGreat
open Go.RowKit

/-- v is a slab's words that lie in memory of the call's own. -/
def OwnI (W : World) (base : Nat) (v : Value) (zs : List Int) : Prop := ∃ ao cp, v = .slice ao zs.length cp ∧ Ints W ao zs ∧ (∀ x, zs ≠ [] → ao = some x → base ≤ x.block) ∧ zs.length ≤ cp
theorem OwnI.keeps {W W' : World} {base c : Nat} {v : Value} {zs : List Int} (h : OwnI W base v zs) (hk : Keeps c W W') (hc : c < base) : OwnI W' base v zs := by
  obtain ⟨ao, cp, e, hI, hb, hcp⟩ := h
  refine ⟨ao, cp, e, ⟨hI.1, ?_⟩, hb, hcp⟩
  by_cases hne : zs = []
  · exact .inl hne
  · obtain ⟨b, off, e', hc'⟩ := hI.at (k := 0) (List.length_pos_iff.2 hne)
    refine .inr ⟨b, off, e', fun j hj => ?_⟩
    have h1 := hb _ hne e'
    have h2 : b < W.heap.size := World.block_lt_of_cell? _ _ (hc' j hj)
    exact (hk.cell (p := ⟨b, off + j, none⟩) h2 (by simp at h1 ⊢; omega)).trans (hc' j hj)
theorem OwnI.kept {W W' : World} {base : Nat} {v : Value} {zs : List Int} (h : OwnI W base v zs) (hk : Kept W W') : OwnI W' base v zs := by
  obtain ⟨ao, cp, e, hI, hb⟩ := h
  exact ⟨ao, cp, e, hI.kept hk, hb⟩
theorem OwnI.base {W : World} {base base' : Nat} {v : Value} {zs : List Int} (h : OwnI W base v zs) (hb' : base' ≤ base) : OwnI W base' v zs := by
  obtain ⟨ao, cp, e, hI, hb⟩ := h
  exact ⟨ao, cp, e, hI, fun x h1 h2 => Nat.le_trans hb' (hb.1 x h1 h2), hb.2⟩
theorem OwnI.ofRow {W : World} {base g c : Nat} {zs : List Int} (h : Row W g zs) (hb : base ≤ g) (hc : zs.length ≤ c) : OwnI W base (.slice (some ⟨g, 0, none⟩) zs.length c) zs :=
  ⟨_, c, rfl, h.ints, fun x _ e => by cases e; exact hb, hc⟩
theorem Row.owns {W : World} {base g c : Nat} {zs : List Int} (h : Row W g zs) (hs : Sz W g c) (hl : zs.length ≤ c) (hb : base ≤ g) : W.ownsRow base 3 1 (.slice (some ⟨g, 0, none⟩) zs.length c) zs.length (zs.map (Value.int .i64)) := by
  obtain ⟨_, cur, hg, h1, h2⟩ := h
  obtain ⟨cur', hg', h3, h4⟩ := hs
  rw [hg] at hg'
  cases hg'
  refine ⟨by simp, .inr ⟨g, c, cur, rfl, hb, hg, hl, h4, by omega, ?_⟩⟩
  apply List.ext_getElem?
  intro j
  by_cases hj : j < zs.length
  · rw [List.getElem?_take, if_pos (by omega)]
    have := h2 j hj
    simp [List.getElem?_eq_getElem hj, hz] at this ⊢
    exact this
  · rw [List.getElem?_eq_none (by simp; omega), List.getElem?_eq_none (by simp; omega)]
theorem Row.tail {W : World} {g : Nat} {x : Int} {zs : List Int} (h : Row W g (x :: zs)) : Ints W (some ⟨g, 1, none⟩) zs := by
  have hI := h.ints
  refine ⟨fun z hz => hI.1 z (List.mem_cons_of_mem _ hz), .inr ⟨g, 1, rfl, fun j hj => ?_⟩⟩
  have := h.cell (j := j + 1) (by simp; omega)
  rw [Nat.add_comm 1 j, this]
  simp [hz]

theorem app_row {W : World} {base : Nat} {v : Value} {zs : List Int} {n : Nat} {xs : List Value} (hb : ∀ y ∈ zs, -9223372036854775808 ≤ y ∧ y ≤ 9223372036854775807) (h : W.ownsRow base 3 1 v n xs) (hn : n = zs.length + 1 := by rfl) (hx : xs = zs.map (Value.int .i64) ++ [.int .i64 16] := by rfl) : ∃ g' cp', v = .slice (some ⟨g', 0, none⟩) (zs.length + 1) cp' ∧ base ≤ g' ∧ zs.length + 1 ≤ cp' ∧ Row W g' (zs ++ [16]) := by
  subst hn hx
  have o3 : OwnL W base v (zs ++ [16]) := ⟨fun y hy => by rcases List.mem_append.1 hy with h | h; exact hb y h; simp at h; subst h; omega, by simpa using h⟩
  rcases o3.cases with ⟨_, e⟩ | ⟨g', cp', rfl, hg', hcp, _, hR'⟩
  · simp at e
  · exact ⟨g', cp', by simp, hg', by simpa using hcp, hR'⟩
def firstL : List Int := [0, 8, 16, 24, -8, 22, 9223372036854775807]
theorem firstL_in : ∀ x ∈ firstL, -9223372036854775808 ≤ x ∧ x ≤ 9223372036854775807 := by decide

set_option maxHeartbeats 8000000 in
set_option maxRecDepth 100000 in
theorem l2Draw_ok (c : Nat) (a : Option Addr) (len cap : Nat) (z : Nat → Int) (w : World) (h : Cur w c a len cap z) :
    Calls Tryz.prog 87 #[.pointer (some ⟨c, 0, none⟩)] w fun e w' => ∃ v zs, e = .returned (.agg #[v]) ∧ OwnI w' w.heap.size v zs ∧ zs.length ≤ 91 ∧ Keeps c w w' ∧ Cur w' c a len cap z := by
  obtain ⟨i0, hi, hz0, hz1, hz2⟩ := info_parts infoI
  have hc0 := h.lt
  have h0 := h.alloc (.cells #[.slice none 0 0] 26)
  have b0 := Cells.new w 26 #[.slice none 0 0]
  have kk0 : Keeps c w (w.alloc (.cells #[.slice none 0 0] 26)) := (Keeps.refl _ _).alloc _
  go_enter Tryz.func87, Tryz.ntmps87
  go_wp2_with fail
  refine (l2DrawRight_ok c a len cap z _ h0).mono ?_
  rintro e w1 ⟨v, zs, rfl, ho, hf, hok, h2, h90, hk1, hc1⟩
  rcases ho with ⟨_, h0⟩ | ⟨g, cp, rfl, hg, hcap, hR⟩
  · rw [h0] at h2; simp at h2
  have sz := hf g _ cp rfl
  have ka : Kept w1 (w1.alloc (.cells #[.slice (some ⟨g, 0, none⟩) zs.length cp] 26)) := Kept.alloc (Below.refl _ _) _
  have x1 := Cells.new w1 26 #[.slice (some ⟨g, 0, none⟩) zs.length cp]
  have hs1 := hk1.size
  simp only [World.size_alloc] at hg hs1
  have lg := hR.lt
  go_wp2_with fail
  refine (l1Below_ok c a len cap z 15 (by omega) _ (hc1.kept ka)).mono ?_
  rintro e w2 ⟨n, rfl, hn0, hn1, hk2, hc2⟩
  have hn : n < 15 := hn1 (by omega)
  have x2 := x1.keeps hk2 (by omega)
  have R2 := (hR.kept ka).keeps hk2 (by omega)
  have S2 : Sz w2 g cp := (sz.kept ka).block (hk2.block g (sz.kept ka).lt (by omega))
  have r2 := ((b0.keeps hk1 (by omega)).kept ka).keeps hk2 (by omega)
  have K2 := ((kk0.trans hk1).trans (ka.keeps c)).trans hk2
  have lB := x2.lt
  obtain ⟨B, hB⟩ : ∃ B, w1.heap.size = B := ⟨_, rfl⟩
  rw [hB] at x2 lB lg hs1 ⊢
  have hs2 := K2.size
  clear hn1 hf sz ka x1 hR hk1 hc1 hk2 b0 kk0 h0 hB h
  have fin : ∀ (W : World) (V : Value) (zs' : List Int), Cells W B 26 #[V] → Cells W w.heap.size 26 #[.slice none 0 0] → OwnI W w.heap.size V zs' → zs'.length ≤ 91 → Keeps c w W → Cur W c a len cap z →
      Cells (W.setCell ⟨w.heap.size, 0, none⟩ V) w.heap.size 26 #[V] ∧ ∃ v zs, Ending.returned (.agg #[V]) = .returned (.agg #[v]) ∧ OwnI (W.setCell ⟨w.heap.size, 0, none⟩ V) w.heap.size v zs ∧ zs.length ≤ 91 ∧ Keeps c w (W.setCell ⟨w.heap.size, 0, none⟩ V) ∧ Cur (W.setCell ⟨w.heap.size, 0, none⟩ V) c a len cap z := by
    intro W V zs' hb hr hO hl hK hC
    refine ⟨hr.set1 V, V, zs', rfl, ?_, hl, ⟨hK.os, hK.tape, hK.output, by simpa [World.setCell] using hK.size, fun i hi hc => (Below.heap_setCell _ _ _ _ (by simp; omega)).trans (hK.block i hi hc)⟩, hC.upto (by simp [World.setCell]) (fun i hi => Below.heap_setCell _ _ _ _ (by simp; omega))⟩
    obtain ⟨ao, cp, rfl, hI, hbs⟩ := hO
    refine ⟨ao, cp, rfl, ⟨hI.1, ?_⟩, hbs⟩
    by_cases hne : zs' = []
    · exact .inl hne
    · obtain ⟨b, off, e', hc'⟩ := hI.at (k := 0) (List.length_pos_iff.2 hne)
      refine .inr ⟨b, off, e', fun j hj => ?_⟩
      have hbn : b ≠ w.heap.size := by
        rintro rfl
        have := hc' 0 (List.length_pos_iff.2 hne)
        rw [hr.cell (off + 0)] at this
        cases off <;> simp at this
      have hh := hc' j hj
      have hheap : (W.setCell ⟨w.heap.size, 0, none⟩ (.slice ao zs'.length cp)).heap[b]? = W.heap[b]? := Below.heap_setCell _ _ _ _ hbn
      rw [← hh]
      exact World.cell?_of_block (w := W) hheap
  have HF : Hid _ := fin
  have hlt1 : (1 : Int) ≤ (zs.length : Int) := by omega
  clear fin
  have q2 := x2.cell 0
  have f2 := x2.frozen 0
  have e2 := r2.cell 0
  have g2 := r2.frozen 0
  rcases (show n = 0 ∨ n = 1 ∨ n = 2 ∨ n = 3 ∨ 4 ≤ n by omega) with rfl | rfl | rfl | rfl | hn4
  · have Cd := hc2.kept (Below.refl _ w2).drew
    have xd := x2.kept (Below.refl _ w2).drew
    have Rd := R2.kept (Below.refl _ w2).drew
    have rd := r2.kept (Below.refl _ w2).drew
    have Kd := K2.drew
    have qd := xd.cell 0
    have hP := l1PickInt_at c a len cap z firstL 7 rfl (by omega) (by omega) _ 3 rfl _ Cd
    go_wp2_with fail
    go_region_with (first | (go_at_call 55; refine hP.mono ?_; rintro e w3 ⟨x, rfl, hx, hk3, hc3⟩; have hxb := firstL_in x hx; have x3 := xd.keeps hk3 (by omega); have q3 := x3.cell 0; have R3 := Rd.keeps hk3 (by omega); have c3 := R3.cell (j := 0) (by omega); have f3 := R3.frozen 0))
    all_goals (
      have nB := R3.notCells x3 (by decide)
      have r3 := rd.keeps hk3 (by omega)
      have nr := R3.notCells r3 (by decide)
      have R4 := R3.set (k := 0) (v := x) (by omega) hxb
      have x4 := x3.other (p := ⟨g, 0, none⟩) (by simp; omega) (.int .i64 x)
      have r4 := r3.other (p := ⟨g, 0, none⟩) (by simp; omega) (.int .i64 x)
      have K4 : Keeps c w (w3.setCell ⟨g, 0, none⟩ (.int .i64 x)) := ⟨(Kd.trans hk3).os, (Kd.trans hk3).tape, (Kd.trans hk3).output, by simpa [World.setCell] using (Kd.trans hk3).size, fun i hi hc => (Below.heap_setCell _ _ _ _ (by simp; omega)).trans ((Kd.trans hk3).block i hi hc)⟩
      have C4 : Cur (w3.setCell ⟨g, 0, none⟩ (.int .i64 x)) c a len cap z := hc3.upto (by simp [World.setCell]) (fun i hi => Below.heap_setCell _ _ _ _ (by simp; omega))
      have q4 := x4.cell 0
      have e4 := r4.cell 0
      have h4 := r4.frozen 0
      clear q2 f2 e2 g2 Cd xd Rd rd Kd qd hP q3 c3 f3
      go_wp2_with fail
      obtain ⟨q, hfin⟩ := HF.out _ (.slice (some ⟨g, 0, none⟩) zs.length cp) (zs.set 0 x) x4 r4 (by have := OwnI.ofRow (base := w.heap.size) (c := cp) R4 (by omega) (by simpa using hcap); simpa using this) (by simp; omega) K4 C4
      exact bodyPost_ret (v := .agg #[.slice (some ⟨g, 0, none⟩) zs.length cp]) (by simp [results, Tryz.results87, go_sem, q.cell 0]) rfl hfin)
  · have hb := R2.ints.1
    go_wp2_with (at_builtin; refine wpList_append_own _ rfl _ _ 24 rfl (w.heap.size + 1) 3 i0 (.int .i64 0) 1 8 Tryz.underlying24 hi hz0 hz1 hz2 rfl (by decide) _ _ _ rfl ((R2.owns S2 hcap hg).alloc _) ⟨w2.heap.size, 0, none⟩ 1 1 [.int .i64 16] rfl rfl (cell_one_new _ _ _) (by simp [Value.oneCell']) (by unfold maxLen; omega) (by omega) (by simp; omega) ?_; intro v' w3 hown' hgrow0 _; have hgrow : (w2.alloc (.cells #[.int .i64 16] 3)).grownBy w3 (some g) := hgrow0; have kb : ∀ k, k < w2.heap.size → k ≠ g → w3.heap[k]? = w2.heap[k]? := fun k h1 h2 => (hgrow.block k (by simp; omega) (by intro e; cases e; exact h2 rfl)).trans (Below.heap_alloc _ _ _ h1); have ks := hgrow.size; have x3 : Cells w3 B 26 #[.slice (some ⟨g, 0, none⟩) zs.length cp] := (kb B (by omega) (by omega)).trans x2; have r3 : Cells w3 w.heap.size 26 #[.slice none 0 0] := (kb _ (by omega) (by omega)).trans r2; have q3 := x3.cell 0; have f3 := x3.frozen 0; have e3 := r3.cell 0; have g3 := r3.frozen 0; obtain ⟨g', cp', rfl, hg', hcp', hR'⟩ := app_row hb hown')
    have K3 : Keeps c w w3 := ⟨hgrow.os.trans K2.os, hgrow.tape.trans K2.tape, hgrow.output.trans K2.output, by simp at ks; omega, fun i hi hc => (kb i (by omega) (by omega)).trans (K2.block i hi hc)⟩
    have C3 : Cur w3 c a len cap z := hc2.upto (by simp at ks; omega) (fun i hi => kb i (by have := hc2.lt; omega) (by omega))
    have nB := hR'.notCells x3 (by decide)
    have nr := hR'.notCells r3 (by decide)
    have K4 : Keeps c w (w3.setCell ⟨B, 0, none⟩ (.slice (some ⟨g', 0, none⟩) (zs.length + 1) cp')) := ⟨K3.os, K3.tape, K3.output, by simpa [World.setCell] using K3.size, fun i hi hc => (Below.heap_setCell _ _ _ _ (by simp; omega)).trans (K3.block i hi hc)⟩
    have C4 : Cur (w3.setCell ⟨B, 0, none⟩ (.slice (some ⟨g', 0, none⟩) (zs.length + 1) cp')) c a len cap z := C3.upto (by simp [World.setCell]) (fun i hi => Below.heap_setCell _ _ _ _ (by simp; omega))
    obtain ⟨q, hfin⟩ := HF.out _ (.slice (some ⟨g', 0, none⟩) (zs.length + 1) cp') (zs ++ [16]) (x3.set1 _) (r3.other (by simp; omega) _) (by have := OwnI.ofRow (base := w.heap.size) (c := cp') (hR'.other (p := ⟨B, 0, none⟩) (by simp; omega) (.slice (some ⟨g', 0, none⟩) (zs.length + 1) cp')) (by omega) (by simpa using hcp'); simpa using this) (by simp; omega) K4 C4
    exact bodyPost_ret (v := .agg #[.slice (some ⟨g', 0, none⟩) (zs.length + 1) cp']) (by simp [results, Tryz.results87, go_sem, q.cell 0]) rfl hfin
  · go_wp2_with fail
    have K4 : Keeps c w (w2.setCell ⟨B, 0, none⟩ (.slice (some ⟨g, 1, none⟩) (zs.length - 1) (cp - 1))) := ⟨K2.os, K2.tape, K2.output, by simpa [World.setCell] using K2.size, fun i hi hc => (Below.heap_setCell _ _ _ _ (by simp; omega)).trans (K2.block i hi hc)⟩
    have C4 : Cur (w2.setCell ⟨B, 0, none⟩ (.slice (some ⟨g, 1, none⟩) (zs.length - 1) (cp - 1))) c a len cap z := hc2.upto (by simp [World.setCell]) (fun i hi => Below.heap_setCell _ _ _ _ (by simp; omega))
    have nB := R2.notCells x2 (by decide)
    obtain ⟨y, ys, rfl⟩ : ∃ y ys, zs = y :: ys := by
      cases zs with
      | nil => simp at h2
      | cons y ys => exact ⟨y, ys, rfl⟩
    have hI4 := (R2.other (p := ⟨B, 0, none⟩) (by simp; omega) (.slice (some ⟨g, 1, none⟩) ((y :: ys).length - 1) (cp - 1))).tail
    obtain ⟨q, hfin⟩ := HF.out _ (.slice (some ⟨g, 1, none⟩) ((y :: ys).length - 1) (cp - 1)) ys (x2.set1 _) (r2.other (by simp; omega) _) ⟨_, _, rfl, hI4, fun x _ e => by cases e; simp; omega, by simp at hcap; omega⟩ (by simp at h90; omega) K4 C4
    have q' := q.cell 0
    simp only [List.length_cons, Nat.add_sub_cancel] at q'
    exact bodyPost_ret (v := .agg #[.slice (some ⟨g, 1, none⟩) ((y :: ys).length - 1) (cp - 1)]) (by simp [results, Tryz.results87, go_sem, q']) rfl hfin
  · go_wp2_with fail
    have K4 : Keeps c w (w2.setCell ⟨B, 0, none⟩ (.slice none 0 0)) := ⟨K2.os, K2.tape, K2.output, by simpa [World.setCell] using K2.size, fun i hi hc => (Below.heap_setCell _ _ _ _ (by simp; omega)).trans (K2.block i hi hc)⟩
    have C4 : Cur (w2.setCell ⟨B, 0, none⟩ (.slice none 0 0)) c a len cap z := hc2.upto (by simp [World.setCell]) (fun i hi => Below.heap_setCell _ _ _ _ (by simp; omega))
    obtain ⟨q, hfin⟩ := HF.out _ (.slice none 0 0) [] (x2.set1 _) (r2.other (by simp; omega) _) ⟨none, 0, rfl, ⟨by simp, .inl rfl⟩, by simp⟩ (by simp) K4 C4
    exact bodyPost_ret (v := .agg #[.slice none 0 0]) (by simp [results, Tryz.results87, go_sem, q.cell 0]) rfl hfin
  · have t0 : (n == 0) = false := by simp; omega
    have t1 : (n == 1) = false := by simp; omega
    have t2 : (n == 2) = false := by simp; omega
    have t3 : (n == 3) = false := by simp; omega
    go_wp2_with fail
    obtain ⟨q, hfin⟩ := HF.out _ (.slice (some ⟨g, 0, none⟩) zs.length cp) zs x2 r2 (OwnI.ofRow R2 (by omega) hcap) (by omega) K2 hc2
    exact bodyPost_ret (v := .agg #[.slice (some ⟨g, 0, none⟩) zs.length cp]) (by simp [results, Tryz.results87, go_sem, q.cell 0]) rfl hfin
end Go.Proofs.YtchkijeaaealmaaGreat
namespace Go.Proofs.YtchkijeaaealmaaGreat
open Go.RowKit

def takeNs : List Int := [2, 3, 4, 6, 20, 1, 0, 9223372036854775807]
theorem takeNs_in : ∀ x ∈ takeNs, 0 ≤ x ∧ x ≤ 9223372036854775807 := by decide
def atNs : List Int := [-1, 0, 1, 5, 9999]
theorem atNs_in : ∀ x ∈ atNs, -1 ≤ x ∧ x ≤ 9999 := by decide
def newNs : List Int := [0, 1, 2, 3, 50, 2000, 2001, -1]
theorem newNs_in : ∀ x ∈ newNs, -1 ≤ x ∧ x ≤ 2001 := by decide

theorem OwnI.other {W : World} {base B : Nat} {v : Value} {zs : List Int} {t : TypeId} {cs : Array Value} (h : OwnI W base v zs) (hB : Cells W B t cs) (hn : ∀ (j : Nat) (n : Int), cs[j]? ≠ some (Value.int .i64 n)) (u : Value) : OwnI (W.setCell ⟨B, 0, none⟩ u) base v zs := by
  obtain ⟨ao, cp, e, hI, hb⟩ := h
  refine ⟨ao, cp, e, ⟨hI.1, ?_⟩, hb⟩
  by_cases hne : zs = []
  · exact .inl hne
  · have hpos : 0 < zs.length := List.length_pos_iff.2 hne
    obtain ⟨b, off, e', hc'⟩ := hI.at hpos
    refine .inr ⟨b, off, e', fun j hj => ?_⟩
    have hbn : b ≠ B := by
      rintro rfl
      have := hc' 0 hpos
      rw [hB.cell (off + 0)] at this
      exact hn _ _ this
    have hheap : (W.setCell ⟨B, 0, none⟩ u).heap[b]? = W.heap[b]? := Below.heap_setCell _ _ _ _ hbn
    rw [← hc' j hj]
    exact World.cell?_of_block (w := W) hheap
theorem Keeps.below' {B c : Nat} {w w' : World} (h : Keeps c w w') (hB : B ≤ c) (hw : B ≤ w.heap.size) : Below B w w' := h.below hB hw

end Go.Proofs.YtchkijeaaealmaaGreat
namespace Go.Proofs.YtchkijeaaealmaaGreat
open Go.RowKit

end Go.Proofs.YtchkijeaaealmaaGreat
namespace Go.Proofs.YtchkijeaaealmaaGreat
open Go.RowKit

theorem field_words (v : Value) (w : World) : Sem.run Tryz.prog (Instr.field 26 (.agg #[v]) 0) w = .ok v w := by kernel_rfl
theorem kindAt_mem {zs : List Int} (hok : slabOk zs = true) {b : BkOf zs.length} (hb : b ∈ blocks zs) : kindAt zs ((b.1.at' : Nat) : Int) = ((b.1.kind : Nat) : Int) := by simp [kindAt, atB_mem hok hb]
theorem sizeAt_mem {zs : List Int} (hok : slabOk zs = true) {b : BkOf zs.length} (hb : b ∈ blocks zs) : sizeAt zs ((b.1.at' : Nat) : Int) = ((b.1.size : Nat) : Int) := by simp [sizeAt, atB_mem hok hb]
theorem kindAt_raw {zs : List Int} (hok : slabOk zs = true) {x : Bk} (hx : x ∈ raw (blocks zs)) : kindAt zs ((x.at' : Nat) : Int) = ((x.kind : Nat) : Int) ∧ sizeAt zs ((x.at' : Nat) : Int) = ((x.size : Nat) : Int) := by
  obtain ⟨b, hb, rfl⟩ := List.mem_map.1 hx
  exact ⟨kindAt_mem hok hb, sizeAt_mem hok hb⟩
/-- How many words the first blocks have together. -/
def sumB {L : Nat} : List (BkOf L) → Nat
  | [] => 0
  | b :: bs => b.1.size + sumB bs
theorem sumB_append {L : Nat} (xs ys : List (BkOf L)) : sumB (xs ++ ys) = sumB xs + sumB ys := by
  induction xs with
  | nil => simp [sumB]
  | cons x xs ih => simp only [List.cons_append, sumB, ih]; omega
theorem sumB_blks (zs : List Int) (k : Nat) : k + sumB (blks zs k) = stop zs k :=
  blks_ind zs (P := fun k => k + sumB (blks zs k) = stop zs k) (fun k h ih => by rw [blks_yes h, stop_yes h]; simp only [sumB]; omega) (fun k h => by rw [blks_no h, stop_no h]; rfl) k
theorem sumB_all {zs : List Int} (hok : slabOk zs = true) : sumB (blocks zs) = zs.length := by
  have := sumB_blks zs 0
  rw [(slabOk_iff.1 hok).2] at this
  unfold blocks
  omega
theorem sumB_take {zs : List Int} {k : Nat} (hk : k < (blocks zs).length) : sumB ((blocks zs).take (k + 1)) = sumB ((blocks zs).take k) + (blocks zs)[k].1.size := by
  rw [List.take_succ_eq_append_getElem hk, sumB_append]; simp [sumB]
theorem sumB_le {zs : List Int} (hok : slabOk zs = true) (k : Nat) : sumB ((blocks zs).take k) ≤ zs.length := by
  have h := sumB_append ((blocks zs).take k) ((blocks zs).drop k)
  rw [List.take_append_drop, sumB_all hok] at h
  omega

set_option maxHeartbeats 8000000 in
set_option maxRecDepth 100000 in
theorem l2DrawAt_ok (c : Nat) (a : Option Addr) (len cap : Nat) (z : Nat → Int) (w : World) (h : Cur w c a len cap z) (ao : Option Addr) (cp : Nat) (zs : List Int) (hI : Ints w ao zs) (hl : zs.length ≤ 1000) :
    Calls Tryz.prog 56 #[.pointer (some ⟨c, 0, none⟩), .agg #[.slice ao zs.length cp]] w fun e w' => ∃ x : Int, e = .returned (.int .i64 x) ∧ -9223372036854775808 ≤ x ∧ x ≤ 9223372036854775807 ∧ Keeps c w w' ∧ Cur w' c a len cap z := by
  have hL : zs.length * 8 ≤ 140737488351232 := by omega
  have hc0 := h.lt
  have k0 : Kept w (w.alloc (.cells #[.slice ao zs.length cp] 26)) := Kept.alloc (Below.refl _ _) _
  have hB := spec_Blocks_ok _ ao cp zs (hI.kept k0) hL
  have hC0 := h.kept k0
  have hcount := blocks_count zs
  have hpl : (places zs).length ≤ 1000 := by
    unfold places
    split
    · simp; omega
    · simp
  clear hI
  go_enter Tryz.func56, Tryz.ntmps56
  go_wp2_with fail
  refine hB.mono ?_
  rintro e w1 ⟨v, rfl, ho, hk1⟩
  have hC1 := hC0.kept hk1
  have K1 : Keeps c w w1 := (k0.trans hk1).keeps c
  rcases ho.cases with ⟨rfl, he⟩ | ⟨g, lc, rfl, hg, _, _, hR⟩
  · go_wp2_with fail
    have hP := l1PickInt_at c a len cap z atNs 5 rfl (by omega) (by omega) _ 3 rfl _ hC1
    refine hP.mono ?_
    rintro e w2 ⟨x, rfl, hx, hk2, hC2⟩
    have hxb := atNs_in x hx
    go_wp2
    go_ret
    exact ⟨x, rfl, by omega, by omega, K1.trans hk2, hC2⟩
  · simp only [World.size_alloc] at hg
    obtain ⟨n, hn⟩ : ∃ n, (places zs).length = n := ⟨_, rfl⟩
    have hbd := hR.ints
    rw [hn] at hpl ⊢
    by_cases h0 : n = 0
    · subst h0
      have e0 : ((0 : Nat) : Int) = 0 := rfl
      go_wp2_with fail
      have hP := l1PickInt_at c a len cap z atNs 5 rfl (by omega) (by omega) _ 3 rfl _ hC1
      refine hP.mono ?_
      rintro e w2 ⟨x, rfl, hx, hk2, hC2⟩
      have hxb := atNs_in x hx
      go_wp2
      go_ret
      exact ⟨x, rfl, by omega, by omega, K1.trans hk2, hC2⟩
    · have t0 : ((n : Int) == 0) = false := by simp; omega
      go_wp2_with fail
      refine (l1Once_ok c a len cap z 5 (by omega) _ hC1).mono ?_
      rintro e w2 ⟨x, rfl, hk2, hC2⟩
      have K2 := K1.trans hk2
      cases x with
      | true =>
        go_wp2_with fail
        have hP := l1PickInt_at c a len cap z atNs 5 rfl (by omega) (by omega) _ 3 rfl _ hC2
        refine hP.mono ?_
        rintro e w3 ⟨x, rfl, hx, hk3, hC3⟩
        have hxb := atNs_in x hx
        go_wp2
        go_ret
        exact ⟨x, rfl, by omega, by omega, K2.trans hk3, hC3⟩
      | false =>
        have R2 := hR.keeps hk2 (by omega)
        go_wp2_with fail
        refine (l1Below_ok c a len cap z (n : Int) (by omega) _ hC2).mono ?_
        rintro e w3 ⟨x, rfl, hx0, hx1, hk3, hC3⟩
        have hx2 : x < (n : Int) := hx1 (by omega)
        obtain ⟨j, rfl⟩ : ∃ j : Nat, x = j := ⟨x.toNat, by omega⟩
        have R3 := R2.keeps hk3 (by omega)
        have cj := R3.cell (j := j) (by omega)
        have hb := R3.ints.bd j
        clear hx1
        go_wp2
        go_ret
        exact ⟨_, rfl, hb.1, hb.2, K2.trans hk3, hC3⟩
end Go.Proofs.YtchkijeaaealmaaGreat
namespace Go.Proofs.YtchkijeaaealmaaGreat
open Go.RowKit

def numList : List Int := [0, 1, 2, -1, -5, 77, 1999, 2000, 2147483647, 2147483648, -2147483648, -2147483649, 4294967296, 9223372036854775807, -9223372036854775808]
def anyList : List Int := [0, 1, 2, 5, 1999, 2000, -1]
theorem numList_in : ∀ x ∈ numList, -9223372036854775808 ≤ x ∧ x ≤ 9223372036854775807 := by decide
theorem anyList_in : ∀ x ∈ anyList, -1 ≤ x ∧ x ≤ 2000 := by decide

theorem l1DrawNum_ok (c : Nat) (a : Option Addr) (len cap : Nat) (z : Nat → Int) (w : World) (h : Cur w c a len cap z) :
    Calls Tryz.prog 123 #[.pointer (some ⟨c, 0, none⟩)] w fun e w' => ∃ x : Int, e = .returned (.int .i64 x) ∧ (-9223372036854775808 ≤ x ∧ x ≤ 9223372036854775807) ∧ Keeps c w w' ∧ Cur w' c a len cap z := by
  go_enter Tryz.func123, Tryz.ntmps123
  go_wp2_with fail
  refine (l1PickInt_at c a len cap z numList 15 rfl (by omega) (by omega) _ _ rfl w h).mono ?_
  rintro e w1 ⟨x, rfl, hx, hk, hc⟩
  have hb := numList_in x hx
  clear hx
  go_wp2
  go_ret
  exact ⟨x, rfl, hb, hk, hc⟩

theorem l1DrawAny_ok (c : Nat) (a : Option Addr) (len cap : Nat) (z : Nat → Int) (w : World) (h : Cur w c a len cap z) :
    Calls Tryz.prog 86 #[.pointer (some ⟨c, 0, none⟩)] w fun e w' => ∃ x : Int, e = .returned (.int .i64 x) ∧ (-9223372036854775808 ≤ x ∧ x ≤ 9223372036854775807) ∧ Keeps c w w' ∧ Cur w' c a len cap z := by
  go_enter Tryz.func86, Tryz.ntmps86
  go_wp2_with fail
  refine (l1Once_ok c a len cap z 3 (by omega) w h).mono ?_
  rintro e w1 ⟨x, rfl, hk, hc⟩
  cases x
  · go_wp2_with fail
    refine (l1PickInt_at c a len cap z anyList 7 rfl (by omega) (by omega) _ _ rfl w1 hc).mono ?_
    rintro e w2 ⟨x, rfl, hx, hk2, hc2⟩
    have hb := anyList_in x hx
    clear hx
    go_wp2_with fail
    refine (l1Below_ok c a len cap z 8 (by omega) w2 hc2).mono ?_
    rintro e w3 ⟨y, rfl, hy0, hy1, hk3, hc3⟩
    have hy2 : y < 8 := hy1 (by omega)
    clear hy1
    go_wp2
    go_ret
    exact ⟨_, rfl, by omega, (hk.trans hk2).trans hk3, hc3⟩
  · go_wp2_with fail
    refine (l1DrawNum_ok c a len cap z w1 hc).mono ?_
    rintro e w2 ⟨x, rfl, hx, hk2, hc2⟩
    go_wp2
    go_ret
    exact ⟨x, rfl, hx, hk.trans hk2, hc2⟩

end Go.Proofs.YtchkijeaaealmaaGreat
