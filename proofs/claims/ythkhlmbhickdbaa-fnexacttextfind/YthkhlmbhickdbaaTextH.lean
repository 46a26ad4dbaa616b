/-
  textsOf.
-/
import Derived.Test.YthkhlmbhickdbaaTextG
import Derived.Test.YthkhlmbhickdbaaSlabV
import Derived.Test.YthkhlmbhickdbaaSeqIn
import Derived.Test.YthkhlmbhickdbaaBlkN
import Derived.Test.YthkhlmbhickdbaaTextA
namespace Go.Proofs.Ythkhlmbhickdbaa
open Go.RowKit Go.Shelf Go.Maps
attribute [local go_sem] Oper.semAt_some

/-- Those of these blocks that are texts. -/
def isThere {L : Nat} (bs : List (BkOf L)) (k : Nat) : Bool := bs.any (fun b => decide (b.1.kind = 1) && decide (k = b.1.at'))
theorem isThere_snoc {L : Nat} (bs : List (BkOf L)) (x : BkOf L) (k : Nat) : isThere (bs ++ [x]) k = (isThere bs k || (decide (x.1.kind = 1) && decide (k = x.1.at'))) := by simp [isThere, List.any_append]
/-- Those of these blocks that are texts which are right. -/
def isTh (zs : List Int) (bs : List (BkOf zs.length)) (k : Nat) : Bool := bs.any (fun b => okB zs b.1.at' b.1.size b.1.kind && decide (k = b.1.at'))
theorem isTh_snoc {zs : List Int} (bs : List (BkOf zs.length)) (x : BkOf zs.length) (k : Nat) : isTh zs (bs ++ [x]) k = (isTh zs bs k || (okB zs x.1.at' x.1.size x.1.kind && decide (k = x.1.at'))) := by simp [isTh, List.any_append]
theorem any_same {α : Type} {p q : α → Bool} : ∀ {l : List α}, (∀ b ∈ l, p b = q b) → l.any p = l.any q
  | [], _ => rfl
  | b :: l, h => by
    rw [List.any_cons, List.any_cons, h b (List.mem_cons_self ..), any_same (fun c hc => h c (List.mem_cons_of_mem _ hc))]
theorem isTh_all {zs : List Int} (hh : heapR zs = true) (k : Nat) : isTh zs (blocks zs) k = isThere (blocks zs) k := by
  unfold isTh isThere
  refine any_same (fun b hb => ?_)
  congr 1
  unfold okB
  by_cases h : b.1.kind = 1
  · have := heapR_blk hh hb
    rw [h] at this
    rw [this, Bool.and_true]
  · simp [h]
theorem TextMap.kept {w w' : World} {b n : Nat} {zs : List Int} {p : Nat → Bool} (h : TextMap w b n zs p) {row : Option Nat} (hg : w.grownBy w' row) (hne : some b ≠ row) : TextMap w' b n zs p := by
  obtain ⟨D, h1, h2⟩ := h
  exact ⟨D, h1.kept hg hne, h2⟩
theorem TextMap.mono {w : World} {b n n' : Nat} {zs : List Int} {p : Nat → Bool} (h : TextMap w b n zs p) (hn : n ≤ n') : TextMap w b n' zs p := by
  obtain ⟨D, h1, h2⟩ := h
  exact ⟨D, h1.mono hn, h2⟩
theorem TextMap.congr {w : World} {b n : Nat} {zs : List Int} {p q : Nat → Bool} (h : TextMap w b n zs p) (e : ∀ k, p k = q k) : TextMap w b n zs q := by
  obtain ⟨D, h1, h2⟩ := h
  exact ⟨D, h1, h2.congr e⟩
set_option maxHeartbeats 2000000 in
set_option maxRecDepth 100000 in
theorem textsOf_ok (w : World) (ao : Option Addr) (cap : Nat) (zs : List Int) (hI : Ints w ao zs) (hl : zs.length ≤ 1048576) (hh : heapR zs = true) :
    Calls Try.prog 58 #[.slice ao zs.length cap] w fun e w' => ∃ b n, e = .returned (.map (some b)) ∧ w.heap.size ≤ b ∧ TextMap w' b n zs (isThere (blocks zs)) ∧ Kept w w' := by
  have hL : zs.length * 8 ≤ 140737488351232 := by omega
  have hmm := @run_makeMap Try.prog
  refine (callsIn_wide (n := 3)).1 ?_
  refine callsIn_of_wp_marks Try.func58 rfl trivial ?_ rfl
  simp only [Try.ntmps58, List.size_toArray, List.length_cons, List.length_nil, Nat.reduceAdd, Nat.reduceSub, Array.replicate_succ, Array.replicate_zero, List.push_toArray, List.append_toArray, List.nil_append, List.cons_append]
  gi_wp2_with (refine ⟨trivial, ?_⟩; gi_at_call 75; refine (callsIn_wide.2 (blocksOf_ok _ _ _ _)).mono ?_; rintro e w' ⟨rfl, rfl⟩)
  have bS := (((Cells.new w 22 #[.slice ao zs.length cap]).alloc (.map #[] 0)).alloc (.cells #[.map (some (w.heap.size + 1))] 74)).alloc (.cells #[.slice ao zs.length cap] 22)
  have bT := (Cells.new ((w.alloc (.cells #[.slice ao zs.length cap] 22)).alloc (.map #[] 0)) 74 #[.map (some (w.heap.size + 1))]).alloc (.cells #[.slice ao zs.length cap] 22)
  have bB := Cells.new (((w.alloc (.cells #[.slice ao zs.length cap] 22)).alloc (.map #[] 0)).alloc (.cells #[.map (some (w.heap.size + 1))] 74)) 22 #[.slice ao zs.length cap]
  have hk0 : Kept w ((((w.alloc (.cells #[.slice ao zs.length cap] 22)).alloc (.map #[] 0)).alloc (.cells #[.map (some (w.heap.size + 1))] 74)).alloc (.cells #[.slice ao zs.length cap] 22)) := (((Kept.alloc (Below.refl _ _) _).alloc _).alloc _).alloc _
  have hm0 : TextMap ((((w.alloc (.cells #[.slice ao zs.length cap] 22)).alloc (.map #[] 0)).alloc (.cells #[.map (some (w.heap.size + 1))] 74)).alloc (.cells #[.slice ao zs.length cap] 22)) (w.heap.size + 1) 0 zs (isTh zs []) := by
    refine ⟨.map [], ?_, MapIs.empty zs⟩
    have := World.ownsMap_made (H := Unit) (w.alloc (.cells #[.slice ao zs.length cap] 22)) Try.prog 3 (plainElem Try.prog 3)
    simp only [World.size_alloc] at this
    exact (this.alloc _).alloc _
  have hsz : ((((w.alloc (.cells #[.slice ao zs.length cap] 22)).alloc (.map #[] 0)).alloc (.cells #[.map (some (w.heap.size + 1))] 74)).alloc (.cells #[.slice ao zs.length cap] 22)).heap.size = w.heap.size + 4 := by simp
  simp only [World.size_alloc] at bT bB
  obtain ⟨W0, hW0⟩ : ∃ W0, (((w.alloc (.cells #[.slice ao zs.length cap] 22)).alloc (.map #[] 0)).alloc (.cells #[.map (some (w.heap.size + 1))] 74)).alloc (.cells #[.slice ao zs.length cap] 22) = W0 := ⟨_, rfl⟩
  rw [hW0] at bS bT bB hk0 hm0 hsz ⊢
  clear hW0 hmm
  refine range_blocks (X := fun _ => False) (nX := w.heap.size + 3) (zs := zs) (ao := ao) (cap := cap) (by omega) rfl (by simp) (by simp) (by decide) hL hI hk0 (by intro k h; exact h.elim) (by intro k h; exact h.elim) (by intro k h; exact h.elim) (by omega) bB
    (fun pre W => (TextMap W (w.heap.size + 1) pre.length zs (isTh zs pre) ∧ Cells W w.heap.size 22 #[.slice ao zs.length cap] ∧ Cells W (w.heap.size + 1 + 1) 74 #[.map (some (w.heap.size + 1))]) ∧ Below w.heap.size w W)
    (fun _ _ _ => False)
    (OwnFrom.and (OwnFrom.and (fun s Y Z row h hg hr => h.kept hg (fun e => by have := (hr _ e.symm).1; omega)) (OwnFrom.and (Own.from (Cells.own _ _ _) _) (Own.from (Cells.own _ _ _) _))) (ownFrom_below (Nat.le_refl _) (by omega)))
    (fun _ _ _ _ _ hs _ _ => hs)
    ⟨⟨hm0, bS, bT⟩, hk0⟩ ?body ?done ?stop
  case body =>
    rintro l pre x W Bx hBx bX ⟨⟨⟨D, hown, hM⟩, bS1, bT1⟩, hB1⟩ hlt
    have hx := x.2
    have c0 := bX.cell 0
    have c1 := bX.cell 1
    have c2 := bX.cell 2
    have cS := bS1.cell 0
    have cT := bT1.cell 0
    obtain ⟨bb, off, e, hc⟩ := (hI.kept hB1).at (k := x.1.at') (by have := hx.1; have := hx.2.1; omega)
    subst e
    have cw := hc (x.1.at' + 1) (by have := hx.1; have := hx.2.1; omega)
    have hlt2 : x.1.at' + 1 < zs.length := by have := hx.1; have := hx.2.1; omega
    have t1 : (((x.1.at' : Nat) : Int) + 1).toNat = x.1.at' + 1 := by omega
    have q1 : ((x.1.at' : Nat) : Int) + 1 < (zs.length : Int) := by omega
    have hTo := textOk_ok W _ cap zs x.1.at' x.1.size x.1.kind (hI.kept hB1) hl hx.2.1 hx.1
    simp only [List.setIfInBounds_toArray, List.set_cons_succ, List.set_cons_zero]
    cases hv : okB zs x.1.at' x.1.size x.1.kind with
    | true =>
      rw [hv] at hTo
      have HV : Hid (okB zs x.1.at' x.1.size x.1.kind = true) := hv
      clear hv
      gi_wp2_with (refine ⟨trivial, ?_⟩; gi_at_call 94; refine (CallsIn.inRound l (callsIn_wide.2 hTo)).mono ?_; rintro e w5 ⟨rfl, hk5⟩)
      have g5 : W.grownBy w5 none := hk5.grown
      have hown5 := hown.kept g5 (by simp)
      have bS5 := bS1.kept hk5
      have bT5 := bT1.kept hk5
      have bX5 := bX.kept hk5
      have c0 := bX5.cell 0
      have cS := bS5.cell 0
      have cT := bT5.cell 0
      have cw5 := (hk5.cell (p := ⟨bb, off + (x.1.at' + 1), none⟩) (World.block_lt_of_cell? _ _ cw)).trans cw
      have hB5 := Below.trans hB1 (hk5.mono hB1.size)
      obtain ⟨w4, hrun, hown4, hturn4⟩ := hown5.drew.store lawI Try.underlying74 (by have := blocks_count zs; unfold maxLen; omega) (keyOf_int_mk Try.underlying3 (a := (x.1.at' : Nat)) (WalkArith.wf_i64 (by omega))) (plainElem_int Try.underlying3 (a := hz zs (x.1.at' + 1)) (WalkArith.wf_i64 (hI.1 _ (by unfold hz; rw [List.getElem?_eq_getElem hlt2]; exact List.getElem_mem hlt2))))
      have hwr : IntKind.i64.wrap (((x.1.at' : Nat) : Int) + 1) = ((x.1.at' : Nat) : Int) + 1 := by rw [IntWalk.i64_left, IntWalk.wrap64_in _ (by omega)]
      have him : Hid (IsMap D) := hown5.isMap
      clear hc hlt hx hown hown5 hTo bX bX5 cw c1 c2
      refine wpIn_region_last (os := [_, _, _, _, _, _, _, _, _]) (ol := _) (fun _ => trivial) (by kernel_rfl) (by kernel_rfl) (by kernel_rfl) rfl rfl ?_
      repeat (refine SeqR.read ?_ rfl (by simp) ?_ ?_; rotate_left; (focus (go_simp; first | done | exact rfl)); simp only [Act.put, List.setIfInBounds_toArray, List.set_cons_zero, List.set_cons_succ])
      refine SeqR.nil ?_
      refine ⟨fun _ _ => trivial, ?_⟩
      go_simp
      have hg4 : w5.grownBy w4 (some (w.heap.size + 1)) := ⟨hturn4.grown.os, hturn4.grown.tape, hturn4.grown.output, hturn4.grown.size, hturn4.grown.block⟩
      have hkx : KeepX (fun _ => False) W0.heap.size w5 w4 := ⟨hg4.size, fun k o ek hc _ _ => (hg4.block k (Array.getElem?_eq_some_iff.1 ek).1 (by
        intro e'
        cases e'
        obtain ⟨es, cl, es', cl', hmp, _⟩ := hturn4
        rw [show w5.heap[w.heap.size + 1]? = _ from hmp] at ek
        cases ek; cases hc)).trans ek⟩
      refine ⟨(hk5.others.from _).trans (KeepsFrom.of_grownBy hg4 (fun j e => by cases e; omega)), KeepX.t (KeepX.of hk5) hkx, ⟨⟨?_, hkx.2 _ _ bS5 rfl id (fun h => by omega), hkx.2 _ _ bT5 rfl id (fun h => by omega)⟩, hB5.grown hg4 hB5.size (fun j e => by cases e; omega)⟩⟩
      exact (show TextMap w4 _ _ _ _ from ⟨_, by simpa using hown4, hM.put him.out x.1.at'⟩).congr (fun k => by rw [isTh_snoc, HV.out, Bool.true_and])
    | false =>
      rw [hv] at hTo
      have HV : Hid (okB zs x.1.at' x.1.size x.1.kind = false) := hv
      clear hv hc
      gi_wp2_with (refine ⟨trivial, ?_⟩; gi_at_call 94; refine (CallsIn.inRound l (callsIn_wide.2 hTo)).mono ?_; rintro e w5 ⟨rfl, hk5⟩)
      have g5 : W.grownBy w5 none := hk5.grown
      refine ⟨hk5.others.from _, KeepX.of hk5, ⟨⟨?_, bS1.kept hk5, bT1.kept hk5⟩, Below.trans hB1 (hk5.mono hB1.size)⟩⟩
      exact (TextMap.mono (TextMap.kept ⟨D, hown, hM⟩ g5 (by simp)) (by simp)).congr (fun k => by rw [isTh_snoc, HV.out, Bool.false_and, Bool.or_false])
  case done =>
    rintro D W hD ⟨⟨hT1, bS1, bT1⟩, hB1⟩ hK
    have cT := bT1.cell 0
    gi_wp2
    refine ⟨by simp, .inl ⟨_, _, rfl, run_takeDeferred hK, ?_⟩⟩
    refine ⟨_, results_tmp rfl _ _ _, ?_⟩
    refine ⟨w.heap.size + 1, (blocks zs).length, rfl, by omega, (hT1.kept (grownBy_putObj' _ _ _) ?_).congr (isTh_all hh), hB1.trans (belowK_b (w := w) (Nat.le_refl _) W D _ _ (by omega) hK rfl rfl)⟩
    intro e
    cases e
    omega
  case stop =>
    rintro D c pre W _ _ h _
    exact h.elim
end Go.Proofs.Ythkhlmbhickdbaa
