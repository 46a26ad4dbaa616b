/-
  The contracts of the draws of chapter 8 (spec.l8Draw, DrawMarkStep, DrawTriOk): a heap, values, and a marker whose lists are rows of one's own.
  The contracts of spec.DrawMarkStep and spec.DrawTriOk: weakly told.
-/
import Derived.Deep.RegionHeld3
import Derived.Deep.CutRange
import Derived.Deep.AppendLies
import Derived.Deep.RegionLaw
import Derived.Test.YtchkijeaaealmaaGreatZDrawL
import Derived.Test.YtchkijeaaealmaaGreatGrpSm
import Derived.Test.YtchkijeaaealmaaGreatGrpKa
import Derived.Test.YtchkijeaaealmaaGreatGrpD
namespace Go.Proofs.YtchkijeaaealmaaGreat
open Go.RowKit
set_option linter.unusedSimpArgs false

/-- A call of a Go function, as one step of a region that draws. -/
theorem step_call {P : Program} {ops : Array Oper} {o : Oper} {a : Act} {w : World} {K : Act → World → Prop} {Q : Exit → Act → World → Prop} {E : Prop} {f : FuncId} {args : Array Value} {R : Ending → World → Prop}
    (hg : o.guard = none) (hr : (execOp a.eval o).run P w = .ok (.enter f args) w) (hc : Calls P f args w R) (h : ∀ e w', R e w' → ∃ v, e = .returned v ∧ K (a.put o.dst v) w') :
    if Region.wanted o (yielded ops a.tmps) = true then Oper.wp P o a w K Q else E := by
  have hw : Region.wanted o (yielded ops a.tmps) = true := by simp [Region.wanted, hg]
  rw [if_pos hw]
  unfold Oper.wp
  rw [hr]
  simp only [Oper.upon]
  refine hc.mono (fun e w' hR => ?_)
  obtain ⟨v, rfl, hk⟩ := h e w' hR
  exact hk
theorem OwnL.notCells {W : World} {base B : Nat} {v : Value} {l : List Int} {t : TypeId} {cs : Array Value} (h : OwnL W base v l) (hB : Cells W B t cs) (ht : t ≠ 3) : ∀ j, v.ownBlock = some j → j ≠ B := by
  intro j hj e
  subst e
  rcases h.2.2 with ⟨e, _⟩ | ⟨g, cap, cur, e, _, hg, _⟩
  · subst e; cases hj
  · subst e
    simp [Value.ownBlock] at hj
    subst hj
    have h2 : W.heap[g]? = some (.cells cs t) := hB
    rw [h2] at hg
    injection hg with hg
    injection hg with _ h3 _
    exact ht h3
/-- A marker that is being drawn: it lies in block B, its lists are rows of one's own. -/
structure MS (c : Nat) (a : Option Addr) (len cap : Nat) (z : Nat → Int) (w2 : World) (B : Nat) (ph at' : Int) (ga ba : Option Addr) (gc bc : Nat) (gs bs : List Int) (W : World) : Prop where
  box : Cells W B 28 #[.int .i64 ph, .slice ga gs.length gc, .slice ba bs.length bc, .int .i64 at']
  g : OwnL W w2.heap.size (.slice ga gs.length gc) gs
  b : OwnL W w2.heap.size (.slice ba bs.length bc) bs
  n : ∀ j, (Value.slice ga gs.length gc).ownBlock = some j → (Value.slice ba bs.length bc).ownBlock ≠ some j
  k : Keeps c w2 W
  cur : Cur W c a len cap z
  hc : c < w2.heap.size
  hB : w2.heap.size ≤ B
section
variable {c : Nat} {a : Option Addr} {len cap : Nat} {z : Nat → Int} {w2 : World} {B : Nat} {ph at' : Int} {ga ba : Option Addr} {gc bc : Nat} {gs bs : List Int} {W W' : World}
theorem MS.go (h : MS c a len cap z w2 B ph at' ga ba gc bc gs bs W) (hk : Keeps c W W') (hc : Cur W' c a len cap z) : MS c a len cap z w2 B ph at' ga ba gc bc gs bs W' :=
  ⟨h.box.keeps hk (by have := h.hc; have := h.hB; omega), h.g.turned hk h.hc, h.b.turned hk h.hc, h.n, h.k.trans hk, hc, h.hc, h.hB⟩
theorem MS.kept (h : MS c a len cap z w2 B ph at' ga ba gc bc gs bs W) (hk : Kept W W') : MS c a len cap z w2 B ph at' ga ba gc bc gs bs W' :=
  h.go ⟨hk.os, hk.tape, hk.output, hk.size, fun k hk' _ => hk.block k hk'⟩ (h.cur.kept hk)
theorem MS.put (h : MS c a len cap z w2 B ph at' ga ba gc bc gs bs W) (o : Nat) (v : Value) : OwnL (W.setCell ⟨B, o, none⟩ v) w2.heap.size (.slice ga gs.length gc) gs ∧ OwnL (W.setCell ⟨B, o, none⟩ v) w2.heap.size (.slice ba bs.length bc) bs ∧ Keeps c w2 (W.setCell ⟨B, o, none⟩ v) ∧ Cur (W.setCell ⟨B, o, none⟩ v) c a len cap z := by
  have hg := h.g.notCells h.box (by decide)
  have hb := h.b.notCells h.box (by decide)
  have hB := h.hB
  have hc := h.hc
  have gr : W.grownBy (W.setCell ⟨B, o, none⟩ v) (some B) := ⟨rfl, rfl, rfl, by simp [World.setCell], fun k _ hk => Below.heap_setCell _ _ _ _ (fun e => hk (by rw [show k = B from e]))⟩
  exact ⟨h.g.kept gr (fun k e j hj => by cases e; exact hg j hj), h.b.kept gr (fun k e j hj => by cases e; exact hb j hj), h.k.on gr (fun k e => by cases e; exact hB), h.cur.on gr (fun k e => by cases e; omega)⟩
theorem MS.setPh (h : MS c a len cap z w2 B ph at' ga ba gc bc gs bs W) (x : Int) : MS c a len cap z w2 B x at' ga ba gc bc gs bs (W.setCell ⟨B, 0, none⟩ (.int .i64 x)) :=
  ⟨h.box.set 0 _, (h.put 0 _).1, (h.put 0 _).2.1, h.n, (h.put 0 _).2.2.1, (h.put 0 _).2.2.2, h.hc, h.hB⟩
theorem MS.setAt (h : MS c a len cap z w2 B ph at' ga ba gc bc gs bs W) (x : Int) : MS c a len cap z w2 B ph x ga ba gc bc gs bs (W.setCell ⟨B, 3, none⟩ (.int .i64 x)) :=
  ⟨h.box.set 3 _, (h.put 3 _).1, (h.put 3 _).2.1, h.n, (h.put 3 _).2.2.1, (h.put 3 _).2.2.2, h.hc, h.hB⟩
/-- Another marker is laid into the block. -/
theorem MS.new {ph2 at2 : Int} {ga2 ba2 : Option Addr} {gc2 bc2 : Nat} {gs2 bs2 : List Int} (h : MS c a len cap z w2 B ph at' ga ba gc bc gs bs W) (hk : Kept W W') (og : OwnL W' w2.heap.size (.slice ga2 gs2.length gc2) gs2) (ob : OwnL W' w2.heap.size (.slice ba2 bs2.length bc2) bs2) (hn : ∀ j, (Value.slice ga2 gs2.length gc2).ownBlock = some j → (Value.slice ba2 bs2.length bc2).ownBlock ≠ some j) :
    MS c a len cap z w2 B ph2 at2 ga2 ba2 gc2 bc2 gs2 bs2 ((((W'.setCell ⟨B, 0, none⟩ (.int .i64 ph2)).setCell ⟨B, 1, none⟩ (.slice ga2 gs2.length gc2)).setCell ⟨B, 2, none⟩ (.slice ba2 bs2.length bc2)).setCell ⟨B, 3, none⟩ (.int .i64 at2)) := by
  have h' := h.kept hk
  have hg := og.notCells h'.box (by decide)
  have hb := ob.notCells h'.box (by decide)
  have hB := h.hB
  have hc := h.hc
  have gr : W'.grownBy ((((W'.setCell ⟨B, 0, none⟩ (.int .i64 ph2)).setCell ⟨B, 1, none⟩ (.slice ga2 gs2.length gc2)).setCell ⟨B, 2, none⟩ (.slice ba2 bs2.length bc2)).setCell ⟨B, 3, none⟩ (.int .i64 at2)) (some B) :=
    grown_set (grown_set (grown_set (grown_set (World.grownBy.refl _ _) _) _) _) _
  exact ⟨(((h'.box.set 0 _).set 1 _).set 2 _).set 3 _, og.kept gr (fun k e j hj => by cases e; exact hg j hj), ob.kept gr (fun k e j hj => by cases e; exact hb j hj), hn, h'.k.on gr (fun k e => by cases e; exact hB), h'.cur.on gr (fun k e => by cases e; omega), hc, hB⟩
/-- The black list was written behind its end. -/
theorem MS.black {W5 : World} {ba2 : Option Addr} {bc2 : Nat} {bs2 : List Int} (h : MS c a len cap z w2 B ph at' ga ba gc bc gs bs W) (hgr : W.grownBy W5 (Value.slice ba bs.length bc).ownBlock) (ob : OwnL W5 w2.heap.size (.slice ba2 bs2.length bc2) bs2) (hat : (Value.slice ba2 bs2.length bc2).ownBlock = (Value.slice ba bs.length bc).ownBlock ∨ ∀ j, (Value.slice ba2 bs2.length bc2).ownBlock = some j → W.heap.size ≤ j) :
    MS c a len cap z w2 B ph at' ga ba2 gc bc2 gs bs2 (W5.setCell ⟨B, 2, none⟩ (.slice ba2 bs2.length bc2)) := by
  have hbx : Cells W5 B 28 #[.int .i64 ph, .slice ga gs.length gc, .slice ba bs.length bc, .int .i64 at'] := h.box.grown hgr (fun e => h.b.notCells h.box (by decide) B e.symm rfl)
  have hB := h.hB
  have hc := h.hc
  have hg5 : OwnL W5 w2.heap.size (.slice ga gs.length gc) gs := h.g.kept hgr (fun k e j hj hjk => h.n j hj (by rw [e, hjk]))
  have k5 : Keeps c w2 W5 := h.k.on hgr (fun k e => (h.b.2.lt k e).1)
  have c5 : Cur W5 c a len cap z := h.cur.on hgr (fun k e => by have := (h.b.2.lt k e).1; omega)
  have hg := hg5.notCells hbx (by decide)
  have hb := ob.notCells hbx (by decide)
  have gr : W5.grownBy (W5.setCell ⟨B, 2, none⟩ (.slice ba2 bs2.length bc2)) (some B) := grown_set (World.grownBy.refl _ _) _
  refine ⟨hbx.set 2 _, hg5.kept gr (fun k e j hj => by cases e; exact hg j hj), ob.kept gr (fun k e j hj => by cases e; exact hb j hj), fun j hj e => ?_, k5.on gr (fun k e => by cases e; exact hB), c5.on gr (fun k e => by cases e; omega), hc, hB⟩
  rcases hat with h1 | h1
  · exact h.n j hj (by rw [← h1]; exact e)
  · have h2 := h1 j e
    have h3 := (h.g.2.lt j hj).2
    omega
theorem MS.grey {W5 : World} {ga2 : Option Addr} {gc2 : Nat} {gs2 : List Int} (h : MS c a len cap z w2 B ph at' ga ba gc bc gs bs W) (hgr : W.grownBy W5 (Value.slice ga gs.length gc).ownBlock) (og : OwnL W5 w2.heap.size (.slice ga2 gs2.length gc2) gs2) (hat : (Value.slice ga2 gs2.length gc2).ownBlock = (Value.slice ga gs.length gc).ownBlock ∨ ∀ j, (Value.slice ga2 gs2.length gc2).ownBlock = some j → W.heap.size ≤ j) :
    MS c a len cap z w2 B ph at' ga2 ba gc2 bc gs2 bs (W5.setCell ⟨B, 1, none⟩ (.slice ga2 gs2.length gc2)) := by
  have hbx : Cells W5 B 28 #[.int .i64 ph, .slice ga gs.length gc, .slice ba bs.length bc, .int .i64 at'] := h.box.grown hgr (fun e => h.g.notCells h.box (by decide) B e.symm rfl)
  have hB := h.hB
  have hc := h.hc
  have hb5 : OwnL W5 w2.heap.size (.slice ba bs.length bc) bs := h.b.kept hgr (fun k e j hj hjk => h.n k e (by rw [hj, hjk]))
  have k5 : Keeps c w2 W5 := h.k.on hgr (fun k e => (h.g.2.lt k e).1)
  have c5 : Cur W5 c a len cap z := h.cur.on hgr (fun k e => by have := (h.g.2.lt k e).1; omega)
  have hb := hb5.notCells hbx (by decide)
  have hg := og.notCells hbx (by decide)
  have gr : W5.grownBy (W5.setCell ⟨B, 1, none⟩ (.slice ga2 gs2.length gc2)) (some B) := grown_set (World.grownBy.refl _ _) _
  refine ⟨hbx.set 1 _, og.kept gr (fun k e j hj => by cases e; exact hg j hj), hb5.kept gr (fun k e j hj => by cases e; exact hb j hj), fun j hj e => ?_, k5.on gr (fun k e => by cases e; exact hB), c5.on gr (fun k e => by cases e; omega), hc, hB⟩
  rcases hat with h1 | h1
  · exact h.n j (by rw [← h1]; exact hj) e
  · have h2 := h1 j hj
    have h3 := (h.b.2.lt j e).2
    omega
theorem MS.app2 {W9 : World} {u : Int} {gg cg : Nat} (h : MS c a len cap z w2 B ph at' ga ba gc bc gs bs W) (hu : InB u) (hown : W9.ownsRow w2.heap.size 3 1 (.slice (some ⟨gg, 0, none⟩) (bs.length + 1) cg) (bs.length + 1) (bs.map (Value.int .i64) ++ [.int .i64 u])) (hgrow : W.grownBy W9 (Value.slice ba bs.length bc).ownBlock) (hat : (Value.slice ba bs.length bc).ownBlock = some gg ∨ gg = W.heap.size) :
    MS c a len cap z w2 B ph at' ga (some ⟨gg, 0, none⟩) gc cg gs (bs ++ [u]) (W9.setCell ⟨B, 2, none⟩ (.slice (some ⟨gg, 0, none⟩) (bs.length + 1) cg)) := by
  have hlen : (bs ++ [u]).length = bs.length + 1 := by simp
  have ob : OwnL W9 w2.heap.size (.slice (some ⟨gg, 0, none⟩) (bs ++ [u]).length cg) (bs ++ [u]) := by
    rw [hlen]
    refine OwnL.snoc (fun x hx => ?_) hown
    rcases List.mem_append.1 hx with h' | h'
    · exact h.b.1 x h'
    · rw [List.mem_singleton.1 h']; exact hu
  have M9 := h.black (bs2 := bs ++ [u]) hgrow ob (by
    rcases hat with h' | h'
    · exact .inl (by simpa [Value.ownBlock] using h'.symm)
    · refine .inr (fun j hj => ?_)
      simp [Value.ownBlock] at hj
      omega)
  rw [hlen] at M9
  exact M9
theorem MS.app1 {W9 : World} {u : Int} {gg cg : Nat} (h : MS c a len cap z w2 B ph at' ga ba gc bc gs bs W) (hu : InB u) (hown : W9.ownsRow w2.heap.size 3 1 (.slice (some ⟨gg, 0, none⟩) (gs.length + 1) cg) (gs.length + 1) (gs.map (Value.int .i64) ++ [.int .i64 u])) (hgrow : W.grownBy W9 (Value.slice ga gs.length gc).ownBlock) (hat : (Value.slice ga gs.length gc).ownBlock = some gg ∨ gg = W.heap.size) :
    MS c a len cap z w2 B ph at' (some ⟨gg, 0, none⟩) ba cg bc (gs ++ [u]) bs (W9.setCell ⟨B, 1, none⟩ (.slice (some ⟨gg, 0, none⟩) (gs.length + 1) cg)) := by
  have hlen : (gs ++ [u]).length = gs.length + 1 := by simp
  have ob : OwnL W9 w2.heap.size (.slice (some ⟨gg, 0, none⟩) (gs ++ [u]).length cg) (gs ++ [u]) := by
    rw [hlen]
    refine OwnL.snoc (fun x hx => ?_) hown
    rcases List.mem_append.1 hx with h' | h'
    · exact h.g.1 x h'
    · rw [List.mem_singleton.1 h']; exact hu
  have M9 := h.grey (gs2 := gs ++ [u]) hgrow ob (by
    rcases hat with h' | h'
    · exact .inl (by simpa [Value.ownBlock] using h'.symm)
    · refine .inr (fun j hj => ?_)
      simp [Value.ownBlock] at hj
      omega)
  rw [hlen] at M9
  exact M9
end
theorem Keeps.put {c : Nat} {w W : World} (h : Keeps c w W) {p : Addr} (hp : w.heap.size ≤ p.block) (v : Value) : Keeps c w (W.setCell p v) :=
  ⟨h.os, h.tape, h.output, by simpa [World.setCell] using h.size, fun k hk hc => (Below.heap_setCell _ _ _ _ (by omega)).trans (h.block k hk hc)⟩
theorem Cur.put {c : Nat} {a : Option Addr} {len cap : Nat} {z : Nat → Int} {W : World} (h : Cur W c a len cap z) {p : Addr} (hp : c < p.block) (v : Value) : Cur (W.setCell p v) c a len cap z :=
  h.upto (by simp [World.setCell]) (fun k hk => Below.heap_setCell _ _ _ _ (by omega))
theorem OwnI.low {W : World} {base b j : Nat} {v u : Value} {zs : List Int} (h : OwnI W base v zs) (hb : b < base) : OwnI (W.setCell ⟨b, j, none⟩ u) base v zs := h.keeps ((Keeps.refl b W).setCell j u) hb
theorem OwnL.low {W : World} {base b j : Nat} {v u : Value} {zs : List Int} (h : OwnL W base v zs) (hb : b < base) : OwnL (W.setCell ⟨b, j, none⟩ u) base v zs := h.turned ((Keeps.refl b W).setCell j u) hb
theorem startC_ph (zs rs : List Int) : -9 ≤ (startC zs rs).1 ∧ (startC zs rs).1 ≤ 9 := by
  unfold startC
  split <;> simp
theorem startC_len {zs rs : List Int} : (startC zs rs).2.length ≤ rs.length := by
  unfold startC
  split
  · have : ∀ (vs out : List Int), (meetL out vs).length ≤ out.length + vs.length := by
      intro vs
      induction vs with
      | nil => intro out; simp [meetL]
      | cons v vs ih =>
        intro out
        have h1 := ih (addB out (blkV v))
        have h2 : (addB out (blkV v)).length ≤ out.length + 1 := by unfold addB; split <;> simp
        simp only [meetL, List.foldl_cons, List.length_cons] at h1 ⊢
        omega
    simpa using this rs []
  · simp

set_option maxHeartbeats 16000000 in
set_option maxRecDepth 100000 in
theorem l8Draw_ok (c : Nat) (a : Option Addr) (len cap : Nat) (z : Nat → Int) (w : World) (h : Cur w c a len cap z) :
    Calls Tryz.prog 23 #[.pointer (some ⟨c, 0, none⟩)] w fun e w' => ∃ v zs rv rs ph at' ga ba gc bc gs bs, e = .returned (.tuple #[.agg #[v], rv, .agg #[.int .i64 ph, .slice ga (List.length gs) gc, .slice ba (List.length bs) bc, .int .i64 at']]) ∧ (OwnI w' w.heap.size v zs ∧ zs.length ≤ 200) ∧ (OwnI w' w.heap.size rv rs ∧ rs.length ≤ 4) ∧ (OwnL w' w.heap.size (.slice ga gs.length gc) gs ∧ gs.length ≤ 201) ∧ (OwnL w' w.heap.size (.slice ba bs.length bc) bs ∧ bs.length ≤ 201) ∧ (InB ph ∧ InB at') ∧ Keeps c w w' ∧ Cur w' c a len cap z := by
  obtain ⟨i0, hi, hz0, hz1, hz2⟩ := info_parts infoI
  have hc0 := h.lt
  have h0 := (h.alloc (.cells #[.slice none 0 0] 26)).alloc (.cells #[.int .i64 0, .slice none 0 0, .slice none 0 0, .int .i64 0] 28)
  have kk0 : Keeps c w ((w.alloc (.cells #[.slice none 0 0] 26)).alloc (.cells #[.int .i64 0, .slice none 0 0, .slice none 0 0, .int .i64 0] 28)) := ((Keeps.refl _ _).alloc _).alloc _
  have r2 := (Cells.new w 26 #[.slice none 0 0]).alloc (.cells #[.int .i64 0, .slice none 0 0, .slice none 0 0, .int .i64 0] 28)
  have r4 := Cells.new (w.alloc (.cells #[.slice none 0 0] 26)) 28 #[.int .i64 0, .slice none 0 0, .slice none 0 0, .int .i64 0]
  simp only [World.size_alloc] at r4
  go_enter Tryz.func23, Tryz.ntmps23
  go_wp2_with fail
  refine (l3Draw_ok c a len cap z _ h0).mono ?_
  rintro e w1 ⟨v, zs, rv0, rs0, rfl, hO, hl, hRt, hrl0, hk1, hC1⟩
  have hsz1 := hk1.size
  simp only [World.size_alloc] at hsz1
  have r2a := r2.keeps hk1 (by omega)
  have r4a := r4.keeps hk1 (by omega)
  have kk1 := kk0.trans hk1
  have hO1 := hO.base (base' := w.heap.size + 2) (by simp)
  have hR1 := hRt.base (base' := w.heap.size) (by simp; omega)
  obtain ⟨ao, cp, rfl, _⟩ := hO
  obtain ⟨ro0, rp0, rfl, _⟩ := hRt
  have x5 := Cells.new w1 26 #[.slice ao zs.length cp]
  have ka : Kept w1 (w1.alloc (.cells #[.slice ao zs.length cp] 26)) := Kept.alloc (Below.refl _ _) _
  have hC1a := hC1.kept ka
  have hR1a := hR1.kept ka
  clear h0 kk0 r2 r4 hk1
  go_wp2_with fail
  refine (l7DrawSome_ok c a len cap z _ hC1a w.heap.size ro0 rp0 rs0 hR1a hc0 (by omega)).mono ?_
  rintro e w2 ⟨rv, rs, rfl, hr2, hrl, hk2, hC2⟩
  have x5b := x5.keeps hk2 (by omega)
  have r2b := (r2a.kept ka).keeps hk2 (by omega)
  have r4b := (r4a.kept ka).keeps hk2 (by omega)
  have hO2 := (hO1.kept ka).keeps hk2 (by omega)
  have kk2 : Keeps c w w2 := Keeps.trans (Keeps.alloc kk1 _) hk2
  have hs2 := hk2.size
  simp only [World.size_alloc] at hs2
  have hr2' := hr2.ownI.base (base' := w.heap.size + 2) (by simp; omega)
  obtain ⟨ro, rp, rfl, hIr⟩ := hr2.ints
  have hI2 : Ints w2 ao zs := by obtain ⟨_, _, e', h', _⟩ := hO2; cases e'; exact h'
  have x5c := x5b.cell 0
  clear x5 r2a r4a kk1 hO1 hR1 ka hC1a hR1a hk2 hC1 hr2
  have hlt2 := hC2.lt
  go_wp2_with fail
  refine (spec_Start_ok _ ao ro cp rp zs rs hI2 (by omega) hIr (by omega)).mono ?_
  rintro e w3 ⟨m, rfl, hM, hk3⟩
  have hph0 := startC_ph zs rs
  have hgl0 := startC_len (zs := zs) (rs := rs)
  obtain ⟨ph0, hph⟩ : ∃ ph, (startC zs rs).1 = ph := ⟨_, rfl⟩
  obtain ⟨gs0, hgs⟩ : ∃ gs, (startC zs rs).2 = gs := ⟨_, rfl⟩
  obtain ⟨bs0, hbs⟩ : ∃ bs : List Int, [] = bs := ⟨_, rfl⟩
  rw [hph, hgs, hbs] at hM
  rw [hph] at hph0
  rw [hgs] at hgl0
  have hbl0 : bs0.length ≤ 0 := by rw [← hbs]; simp
  clear hph hgs hbs
  obtain ⟨ga0, ba0, gc0, bc0, rfl, og0, ob0, hn0, _, _⟩ := mkO_two hM
  have hs3 := hk3.size
  have M0 : MS c a len cap z w2 w3.heap.size ph0 0 ga0 ba0 gc0 bc0 gs0 bs0 (w3.alloc (.cells #[.int .i64 ph0, .slice ga0 gs0.length gc0, .slice ba0 bs0.length bc0, .int .i64 0] 28)) :=
    ⟨Cells.new w3 _ _, og0.kept (row := none) (Kept.grown (Kept.alloc (Below.refl _ _) _)) (fun _ e => by cases e), ob0.kept (row := none) (Kept.grown (Kept.alloc (Below.refl _ _) _)) (fun _ e => by cases e), hn0, Keeps.alloc ⟨hk3.os, hk3.tape, hk3.output, hk3.size, fun k hk _ => hk3.block k hk⟩ _, (hC2.kept hk3).alloc _, hlt2, hk3.size⟩
  have HX5 : Hid (∀ u, Keeps c w2 u → u.cell? ⟨w1.heap.size, 0, none⟩ = some (.slice ao zs.length cp)) := fun u hu => (x5b.keeps hu (by omega)).cell 0
  have HIs : Hid (∀ u, Keeps c w2 u → Ints u ao zs) := fun u hu => by obtain ⟨_, _, e', h', _⟩ := hO2.keeps hu (by omega); cases e'; exact h'
  have HMS : Hid _ := fun (u : World) (ga ba : Option Addr) (gc bc : Nat) (gs bs : List Int) (ph n : Int) (b1 b2 : Nat) (hu : Ints u ao zs) (hg : OwnL u b1 (.slice ga gs.length gc) gs) (hb : OwnL u b2 (.slice ba bs.length bc) bs) (hgl : gs.length ≤ 200) (hbl : bs.length ≤ 200) (hn : 0 ≤ n ∧ n ≤ 100) => spec_MarkStep_ok u b1 b2 ao ga ba cp gc bc zs gs bs ph 0 n hu (by omega) hg hb (by omega) (by omega) (by omega)
  clear hM og0 ob0 hn0 hk3 hC2 x5c x5b hI2 hIr
  go_wp2_with fail
  obtain ⟨B8, hB8⟩ : ∃ B, w3.heap.size = B := ⟨_, rfl⟩
  obtain ⟨W4, hW4⟩ : ∃ W, w3.alloc (.cells #[.int .i64 ph0, .slice ga0 gs0.length gc0, .slice ba0 bs0.length bc0, .int .i64 0] 28) = W := ⟨_, rfl⟩
  rw [hB8, hW4] at M0
  have hB8w : w2.heap.size ≤ B8 := by omega
  obtain ⟨B5, hB5⟩ : ∃ B, w1.heap.size = B := ⟨_, rfl⟩
  rw [hB5] at HX5 hs2 hsz1
  simp only [hB5, hB8, hW4]
  clear hB8 hW4 hs3 hB5
  go_loopw [9] (fun i wr => ∃ (k : Nat) (ph : Int) (ga ba : Option Addr) (gc bc : Nat) (gs bs : List Int), i = .int .i64 k ∧ k ≤ 3 ∧ (-9 ≤ ph ∧ ph ≤ 9) ∧ gs.length ≤ 200 ∧ bs.length ≤ 200 ∧ MS c a len cap z w2 B8 ph 0 ga ba gc bc gs bs wr) (fun i _ => 4 - (intOf i).toNat)
  case atStart => exact ⟨0, ph0, ga0, ba0, gc0, bc0, gs0, bs0, rfl, by omega, hph0, by omega, by omega, M0⟩
  case round =>
    obtain ⟨k, ph, ga, ba, gc, bc, gs, bs, rfl, hk, hph, hgl, hbl, M⟩ := hrel
    clear M0 hph0 hgl0 hbl0
    go_wp2_with fail
    refine (l1Below_ok c a len cap z 4 (by omega) _ M.cur).mono ?_
    rintro e w5 ⟨x, rfl, hx0, hx1, hk5, hC5⟩
    have hx4 : x < 4 := hx1 (by omega)
    have M5 := M.go hk5 hC5
    have lB8 := M5.box.lt
    clear hx1 M hk5 hC5
    by_cases hlt : (k : Int) < x
    · go_wp2_with fail
      · have kd : Keeps c w5 w5.drew := (Keeps.refl _ _).drew
        have Md := M5.kept (Below.refl _ w5).drew
        have H0 : w5.drew.cell? ⟨B5, 0, none⟩ = some (.slice ao zs.length cp) := HX5.out _ Md.k
        have D0 := Md.box.cell 0
        have D1 := Md.box.cell 1
        have D2 := Md.box.cell 2
        have D3 := Md.box.cell 3
        have C0 := Md.cur
        have HMd : Hid (MS c a len cap z w2 B8 ph 0 ga ba gc bc gs bs w5.drew) := Md
        clear M5 Md kd
        go_region_with (first
              | (go_at_call 24; refine (l1Below_ok c a len cap z 4 (by omega) _ C0).mono ?_; rintro e wx ⟨y, rfl, hy0, hy1, hkx, hCx⟩; have hy4 : y < 4 := hy1 (by omega); have Mx := HMd.out.go hkx hCx; have Hx := HX5.out _ Mx.k; have x0 := Mx.box.cell 0; have x1 := Mx.box.cell 1; have x2 := Mx.box.cell 2; have x3 := Mx.box.cell 3)
              | (go_at_call 9; refine (HMS.out wx ga ba gc bc gs bs ph y _ _ (HIs.out wx Mx.k) Mx.g Mx.b hgl hbl (by omega)).mono ?_; rintro e wy ⟨m', rfl, hM', hky⟩; obtain ⟨ga', ba', gc', bc', rfl, og', ob', hn', _, _⟩ := mkO_two hM'; have My := MS.kept Mx hky; have d0 := My.box.cell 0; have d1 := My.box.cell 1; have d2 := My.box.cell 2; have d3 := My.box.cell 3; have f0 := My.box.frozen 0; have f1 := My.box.frozen 1; have f2 := My.box.frozen 2; have f3 := My.box.frozen 3; have lB := My.box.lt))
        all_goals (
          have hsw := Mx.k.size
          have og2 : OwnL wy w2.heap.size _ _ := OwnL.base og' hsw
          have ob2 : OwnL wy w2.heap.size _ _ := OwnL.base ob' hsw
          have h1 := stepC_len (zs := zs) (gs := gs) (bs := bs) (ph := ph) (at' := 0) (n := y) (L := 200) (by omega) hgl hbl
          have M9 := MS.new (ph2 := (stepC zs ph gs bs 0 y).1) (at2 := 0) Mx hky og2 ob2 hn'
          have HM9 : Hid _ := M9
          have HP9 : Hid _ := stepC_ph (zs := zs) (gs := gs) (bs := bs) (at' := 0) (n := y) hph
          clear M9 og2 ob2 og' ob' hM' My Mx
          go_wp2_with fail
          go_roundw
          case rel => exact ⟨k + 1, _, _, _, _, _, _, _, by go_num, by omega, HP9.out, h1.1, h1.2, HM9.out⟩
          case measure => simp [intOf]; omega)
    · go_wp2_with fail
      refine (l1Below_ok c a len cap z 15 (by omega) _ M5.cur).mono ?_
      rintro e w6 ⟨y, rfl, hy0, hy1, hk6, hC6⟩
      have hy15 : y < 15 := hy1 (by omega)
      have M6 := M5.go hk6 hC6
      clear hy1 M5 hk6 hC6
      go_upto_block 2 with fail
      go_cut [] from 34 to 68 (fun wx => ∃ (ph at' : Int) (ga ba : Option Addr) (gc bc : Nat) (gs bs : List Int), InB ph ∧ InB at' ∧ gs.length ≤ 201 ∧ bs.length ≤ 201 ∧ MS c a len cap z w2 B8 ph at' ga ba gc bc gs bs wx)
      case first =>
        have d0 := M6.box.cell 0
        have d1 := M6.box.cell 1
        have d2 := M6.box.cell 2
        have d3 := M6.box.cell 3
        have f0 := M6.box.frozen 0
        have f1 := M6.box.frozen 1
        have f2 := M6.box.frozen 2
        have f3 := M6.box.frozen 3
        have hphB : InB ph := by unfold InB; omega
        have lB6 := M6.box.lt
        rcases (show y = 0 ∨ y = 1 ∨ y = 2 ∨ y = 3 ∨ y = 4 ∨ 5 ≤ y by omega) with rfl | rfl | rfl | rfl | rfl | hy5
        · go_wp2_with (first | (go_at_call 24; refine (l1Below_ok c a len cap z 5 (by omega) _ M6.cur).mono ?_; rintro e wx ⟨u, rfl, hu0, hu1, hkx, hCx⟩; have hu5 : u < 5 := hu1 (by omega); have Mx := M6.go hkx hCx; have d0 := Mx.box.cell 0; have f0 := Mx.box.frozen 0; have lx := Mx.box.lt))
          go_meet
          exact ⟨_, _, _, _, _, _, _, _, by unfold InB; omega, zero_in, by omega, by omega, Mx.setPh _⟩
        · go_wp2_with (first | (go_at_call 55; refine (l1PickInt_at c a len cap z [-1, 0, 2, 9999] 4 rfl (by omega) (by omega) _ 3 rfl _ M6.cur).mono ?_; rintro e wx ⟨u, rfl, hu, hkx, hCx⟩; have Mx := M6.go hkx hCx; have d3 := Mx.box.cell 3; have f3 := Mx.box.frozen 3; have lx := Mx.box.lt))
          go_meet
          have hub : InB u := by
            simp only [List.mem_cons, List.not_mem_nil, or_false] at hu
            unfold InB
            omega
          exact ⟨_, _, _, _, _, _, _, _, hphB, hub, by omega, by omega, Mx.setAt _⟩
        · have Md := M6.kept (Below.refl _ w6).drew
          have H0 : w6.drew.cell? ⟨B5, 0, none⟩ = some (.slice ao zs.length cp) := HX5.out _ Md.k
          have D0 := Md.box.cell 2
          have hA := l2DrawAt_ok c a len cap z _ Md.cur ao cp zs (HIs.out _ Md.k) (by omega)
          have HMd : Hid (MS c a len cap z w2 B8 ph 0 ga ba gc bc gs bs w6.drew) := Md
          clear M6 Md d0 d1 d2 d3 f0 f1 f2 f3
          go_wp2_with fail
          go_region_law (first
                | (refine step_call (by rfl) (by go_simp; done) hA ?_; rintro e wx ⟨u, rfl, hu0, hu1, hkx, hCx⟩; refine ⟨_, rfl, ?_⟩; have Mx := HMd.out.go hkx hCx; have Dx := Mx.box.cell 2; have Ma := Mx.kept (Kept.alloc (Below.refl _ _) (.cells #[.int .i64 u] 3)); have Da := Ma.box.cell 2; have hsx := Mx.k.size)
                | (refine step_append_lies _ (by rfl) _ _ _ (by rfl) w2.heap.size 3 i0 _ 1 8 Tryz.underlying24 hi hz0 hz1 hz2 rfl (by omega) (.slice ba bs.length bc) bs.length (bs.map (Value.int .i64)) (by rfl) Ma.b.2 ⟨wx.heap.size, 0, none⟩ 1 1 [.int .i64 u] (by rfl) (by rfl) (cell_one_new _ _ _) (by simp [Value.oneCell']) (by omega) (by unfold maxLen; omega) (by omega) (by simp; omega) (wx.heap.size + 1) (by simp) ?_; intro gg cg w9 hown1 hgrow hat hlt9; have b9 : Cells w9 B8 28 #[.int .i64 ph, .slice ga gs.length gc, .slice ba bs.length bc, .int .i64 0] := Ma.box.grown hgrow (fun e => Ma.b.notCells Ma.box (by decide) B8 e.symm rfl); have dd := b9.cell 2; have ff := b9.frozen 2; have l9 := b9.lt; have M9 := Ma.app2 ⟨hu0, hu1⟩ hown1 hgrow (by simpa using hat)))
          all_goals (
            go_wp2_with fail
            go_meet
            exact ⟨_, _, _, _, _, _, _, _, hphB, zero_in, by omega, by simp; omega, M9⟩)
        · have Md := M6.kept (Below.refl _ w6).drew
          have H0 : w6.drew.cell? ⟨B5, 0, none⟩ = some (.slice ao zs.length cp) := HX5.out _ Md.k
          have D0 := Md.box.cell 1
          have hA := l2DrawAt_ok c a len cap z _ Md.cur ao cp zs (HIs.out _ Md.k) (by omega)
          have HMd : Hid (MS c a len cap z w2 B8 ph 0 ga ba gc bc gs bs w6.drew) := Md
          clear M6 Md d0 d1 d2 d3 f0 f1 f2 f3
          go_wp2_with fail
          go_region_law (first
                | (refine step_call (by rfl) (by go_simp; done) hA ?_; rintro e wx ⟨u, rfl, hu0, hu1, hkx, hCx⟩; refine ⟨_, rfl, ?_⟩; have Mx := HMd.out.go hkx hCx; have Dx := Mx.box.cell 1; have Ma := Mx.kept (Kept.alloc (Below.refl _ _) (.cells #[.int .i64 u] 3)); have Da := Ma.box.cell 1; have hsx := Mx.k.size)
                | (refine step_append_lies _ (by rfl) _ _ _ (by rfl) w2.heap.size 3 i0 _ 1 8 Tryz.underlying24 hi hz0 hz1 hz2 rfl (by omega) (.slice ga gs.length gc) gs.length (gs.map (Value.int .i64)) (by rfl) Ma.g.2 ⟨wx.heap.size, 0, none⟩ 1 1 [.int .i64 u] (by rfl) (by rfl) (cell_one_new _ _ _) (by simp [Value.oneCell']) (by omega) (by unfold maxLen; omega) (by omega) (by simp; omega) (wx.heap.size + 1) (by simp) ?_; intro gg cg w9 hown1 hgrow hat hlt9; have b9 : Cells w9 B8 28 #[.int .i64 ph, .slice ga gs.length gc, .slice ba bs.length bc, .int .i64 0] := Ma.box.grown hgrow (fun e => Ma.g.notCells Ma.box (by decide) B8 e.symm rfl); have dd := b9.cell 1; have ff := b9.frozen 1; have l9 := b9.lt; have M9 := Ma.app1 ⟨hu0, hu1⟩ hown1 hgrow (by simpa using hat)))
          all_goals (
            go_wp2_with fail
            go_meet
            exact ⟨_, _, _, _, _, _, _, _, hphB, zero_in, by simp; omega, by omega, M9⟩)
        · go_wp2_with fail
          go_meet
          have on0 : OwnL w6 w2.heap.size (.slice none 0 0) [] := ⟨by simp, ⟨by simp, .inl ⟨rfl, rfl⟩⟩⟩
          exact ⟨0, 0, none, none, 0, 0, [], [], zero_in, zero_in, by simp, by simp, M6.new (Below.refl _ _) on0 on0 (fun j hj => by cases hj)⟩
        · have t0 : (y == 0) = false := by simp; omega
          have t1 : (y == 1) = false := by simp; omega
          have t2 : (y == 2) = false := by simp; omega
          have t3 : (y == 3) = false := by simp; omega
          have t4 : (y == 4) = false := by simp; omega
          go_wp2_with fail
          go_meet
          exact ⟨_, _, _, _, _, _, _, _, hphB, zero_in, by omega, by omega, M6⟩
      case rest =>
      obtain ⟨ph', at'', ga', ba', gc', bc', gs', bs', hph', hat', hgl', hbl', M7⟩ := hcut
      obtain ⟨w7, hw7⟩ : ∃ x, x = wc := ⟨_, rfl⟩
      subst hw7
      have q2 := r2b.keeps M7.k (by omega)
      have q4 := r4b.keeps M7.k (by omega)
      have O7 := hO2.keeps M7.k (by omega)
      have R7 := hr2'.keeps M7.k (by omega)
      have K7 := kk2.trans M7.k
      have e5 := HX5.out _ M7.k
      have l7 := M7.box.lt
      have m0 := M7.box.cell 0
      have m1 := M7.box.cell 1
      have m2 := M7.box.cell 2
      have m3 := M7.box.cell 3
      have p2 := q2.cell 0
      have u2 := q2.frozen 0
      have p40 := q4.cell 0
      have p41 := q4.cell 1
      have p42 := q4.cell 2
      have p43 := q4.cell 3
      have u40 := q4.frozen 0
      have u41 := q4.frozen 1
      have u42 := q4.frozen 2
      have u43 := q4.frozen 3
      have l2 := q2.lt
      have l4 := q4.lt
      have hB5b : B5 < w2.heap.size := by omega
      go_wp2_with fail
      go_region
      all_goals (
        have hw2 : w.heap.size + 2 ≤ w2.heap.size := by omega
        have kdr := (Below.refl (w7.heap.size) ((((((w7.setCell ⟨w.heap.size, 0, none⟩ (.slice ao zs.length cp)).setCell ⟨w.heap.size + 1, 0, none⟩ (.int .i64 ph')).setCell ⟨w.heap.size + 1, 1, none⟩ (.slice ga' gs'.length gc')).setCell ⟨w.heap.size + 1, 2, none⟩ (.slice ba' bs'.length bc')).setCell ⟨w.heap.size + 1, 3, none⟩ (.int .i64 at''))))
        have Q2 := ((((q2.set1 (.slice ao zs.length cp)).other (p := ⟨w.heap.size + 1, 0, none⟩) (by intro h; simp at h) (.int .i64 ph')).other (p := ⟨w.heap.size + 1, 1, none⟩) (by intro h; simp at h) (.slice ga' gs'.length gc')).other (p := ⟨w.heap.size + 1, 2, none⟩) (by intro h; simp at h) (.slice ba' bs'.length bc')).other (p := ⟨w.heap.size + 1, 3, none⟩) (by intro h; simp at h) (.int .i64 at'')
        have Q4 := ((((q4.other (p := ⟨w.heap.size, 0, none⟩) (by intro h; simp at h) (.slice ao zs.length cp)).set 0 (.int .i64 ph')).set 1 (.slice ga' gs'.length gc')).set 2 (.slice ba' bs'.length bc')).set 3 (.int .i64 at'')
        have O9 := ((((O7.low (b := w.heap.size) (j := 0) (u := .slice ao zs.length cp) (by omega)).low (b := w.heap.size + 1) (j := 0) (u := .int .i64 ph') (by omega)).low (b := w.heap.size + 1) (j := 1) (u := .slice ga' gs'.length gc') (by omega)).low (b := w.heap.size + 1) (j := 2) (u := .slice ba' bs'.length bc') (by omega)).low (b := w.heap.size + 1) (j := 3) (u := .int .i64 at'') (by omega)
        have R9 := ((((R7.low (b := w.heap.size) (j := 0) (u := .slice ao zs.length cp) (by omega)).low (b := w.heap.size + 1) (j := 0) (u := .int .i64 ph') (by omega)).low (b := w.heap.size + 1) (j := 1) (u := .slice ga' gs'.length gc') (by omega)).low (b := w.heap.size + 1) (j := 2) (u := .slice ba' bs'.length bc') (by omega)).low (b := w.heap.size + 1) (j := 3) (u := .int .i64 at'') (by omega)
        have G9 := ((((M7.g.low (b := w.heap.size) (j := 0) (u := .slice ao zs.length cp) (by omega)).low (b := w.heap.size + 1) (j := 0) (u := .int .i64 ph') (by omega)).low (b := w.heap.size + 1) (j := 1) (u := .slice ga' gs'.length gc') (by omega)).low (b := w.heap.size + 1) (j := 2) (u := .slice ba' bs'.length bc') (by omega)).low (b := w.heap.size + 1) (j := 3) (u := .int .i64 at'') (by omega)
        have N9 := ((((M7.b.low (b := w.heap.size) (j := 0) (u := .slice ao zs.length cp) (by omega)).low (b := w.heap.size + 1) (j := 0) (u := .int .i64 ph') (by omega)).low (b := w.heap.size + 1) (j := 1) (u := .slice ga' gs'.length gc') (by omega)).low (b := w.heap.size + 1) (j := 2) (u := .slice ba' bs'.length bc') (by omega)).low (b := w.heap.size + 1) (j := 3) (u := .int .i64 at'') (by omega)
        have K9 := ((((K7.put (p := ⟨w.heap.size, 0, none⟩) (Nat.le_refl _) (.slice ao zs.length cp)).put (p := ⟨w.heap.size + 1, 0, none⟩) (by simp) (.int .i64 ph')).put (p := ⟨w.heap.size + 1, 1, none⟩) (by simp) (.slice ga' gs'.length gc')).put (p := ⟨w.heap.size + 1, 2, none⟩) (by simp) (.slice ba' bs'.length bc')).put (p := ⟨w.heap.size + 1, 3, none⟩) (by simp) (.int .i64 at'')
        have C9 := ((((M7.cur.put (p := ⟨w.heap.size, 0, none⟩) hc0 (.slice ao zs.length cp)).put (p := ⟨w.heap.size + 1, 0, none⟩) (by simp; omega) (.int .i64 ph')).put (p := ⟨w.heap.size + 1, 1, none⟩) (by simp; omega) (.slice ga' gs'.length gc')).put (p := ⟨w.heap.size + 1, 2, none⟩) (by simp; omega) (.slice ba' bs'.length bc')).put (p := ⟨w.heap.size + 1, 3, none⟩) (by simp; omega) (.int .i64 at'')
        have z2 := Q2.cell 0
        have z40 := Q4.cell 0
        have z41 := Q4.cell 1
        have z42 := Q4.cell 2
        have z43 := Q4.cell 3
        clear kdr m0 m1 m2 m3 p2 p40 p41 p42 p43 e5
        go_wp2_with fail
        refine bodyPost_ret (v := .tuple #[.agg #[.slice ao zs.length cp], .slice ro rs.length rp, .agg #[.int .i64 ph', .slice ga' gs'.length gc', .slice ba' bs'.length bc', .int .i64 at'']]) (by simp [results, Tryz.results23, go_sem, z2, z40, z41, z42, z43]) rfl ⟨_, zs, _, rs, ph', at'', ga', ba', gc', bc', gs', bs', rfl, ⟨(O9.base (by omega)).kept (Below.refl _ _).drew, hl⟩, ⟨(R9.base (by omega)).kept (Below.refl _ _).drew, hrl⟩, ⟨((OwnL.base G9 (by omega)).kept (row := none) (Kept.grown (Below.refl _ _).drew) (fun _ e => by cases e)), hgl'⟩, ⟨((OwnL.base N9 (by omega)).kept (row := none) (Kept.grown (Below.refl _ _).drew) (fun _ e => by cases e)), hbl'⟩, ⟨hph', hat'⟩, K9.drew, C9.kept (Below.refl _ _).drew⟩)
end Go.Proofs.YtchkijeaaealmaaGreat
namespace Go.Proofs.YtchkijeaaealmaaGreat
open Go.RowKit
set_option linter.unusedSimpArgs false

set_option maxHeartbeats 16000000 in
set_option maxRecDepth 100000 in
theorem DrawMarkStep_ok (a : Option Addr) (len cap : Nat) (z : Nat → Int) (w : World) (h : Src w.heap.size w a len z) :
    Calls Tryz.prog 6 #[.slice a len cap] w fun e w' => ∃ v zs ph at' ga ba gc bc gs bs n, e = .returned (.tuple #[.agg #[v], .agg #[.int .i64 ph, .slice ga (List.length gs) gc, .slice ba (List.length bs) bc, .int .i64 at'], .int .i64 n]) ∧ (OwnI w' w.heap.size v zs ∧ zs.length ≤ 200) ∧ (OwnL w' w.heap.size (.slice ga gs.length gc) gs ∧ gs.length ≤ 201) ∧ (OwnL w' w.heap.size (.slice ba bs.length bc) bs ∧ bs.length ≤ 201) ∧ (InB ph ∧ InB at') ∧ (-1 ≤ n ∧ n ≤ 5) ∧ Kept w w' := by
  have k0 : Kept w ((w.alloc (.cells #[.slice none 0 0] 26)).alloc (.cells #[.int .i64 0, .slice none 0 0, .slice none 0 0, .int .i64 0] 28)) := (Kept.alloc (Below.refl _ _) _).alloc _
  have r2 := (Cells.new w 26 #[.slice none 0 0]).alloc (.cells #[.int .i64 0, .slice none 0 0, .slice none 0 0, .int .i64 0] 28)
  have r4 := Cells.new (w.alloc (.cells #[.slice none 0 0] 26)) 28 #[.int .i64 0, .slice none 0 0, .slice none 0 0, .int .i64 0]
  simp only [World.size_alloc] at r4
  have h0 : Src ((w.alloc (.cells #[.slice none 0 0] 26)).alloc (.cells #[.int .i64 0, .slice none 0 0, .slice none 0 0, .int .i64 0] 28)).heap.size ((w.alloc (.cells #[.slice none 0 0] 26)).alloc (.cells #[.int .i64 0, .slice none 0 0, .slice none 0 0, .int .i64 0] 28)) a len z := h.below k0
  go_enter Tryz.func6, Tryz.ntmps6
  go_wp2_with fail
  refine (l1New_ok a len cap z _ h0).mono ?_
  rintro e w1 ⟨c, rfl, hc1, hk1, hC1⟩
  have k1 := k0.trans hk1
  have r2a := r2.kept hk1
  have r4a := r4.kept hk1
  have hs1 := hk1.size
  simp only [World.size_alloc] at hc1 hs1
  clear h0 hk1 k0 r2 r4
  go_wp2_with fail
  refine (l8Draw_ok c a len cap z _ hC1).mono ?_
  rintro e w2 ⟨v, zs, rv, rs, ph, at', ga, ba, gc, bc, gs, bs, rfl, ⟨hO, hl⟩, _, ⟨hG, hgl⟩, ⟨hN, hbl⟩, ⟨hph, hat⟩, hk2, hC2⟩
  have hcb := hC1.lt
  have hs2 := hk2.size
  obtain ⟨ao, cp, rfl, _⟩ := id hO
  have ka : Kept w2 ((w2.alloc (.cells #[.slice ao zs.length cp] 26)).alloc (.cells #[.int .i64 ph, .slice ga gs.length gc, .slice ba bs.length bc, .int .i64 at'] 28)) := (Kept.alloc (Below.refl _ _) _).alloc _
  have x5 := (Cells.new w2 26 #[.slice ao zs.length cp]).alloc (.cells #[.int .i64 ph, .slice ga gs.length gc, .slice ba bs.length bc, .int .i64 at'] 28)
  have x6 := Cells.new (w2.alloc (.cells #[.slice ao zs.length cp] 26)) 28 #[.int .i64 ph, .slice ga gs.length gc, .slice ba bs.length bc, .int .i64 at']
  simp only [World.size_alloc] at x6
  have q2 := (r2a.keeps hk2 (by omega)).kept ka
  have q4 := (r4a.keeps hk2 (by omega)).kept ka
  have K5 : Kept w _ := Kept.trans (Below.trans k1 (hk2.below (by omega) k1.size)) ka
  have C5 := hC2.kept ka
  have O5 := hO.kept ka
  have G5 := hG.kept (row := none) ka.grown (fun _ e => by cases e)
  have N5 := hN.kept (row := none) ka.grown (fun _ e => by cases e)
  clear r2a r4a hk2 hC1 hC2 hO hG hN ka k1
  go_wp2_with fail
  obtain ⟨B5, hB5⟩ : ∃ B, w2.heap.size = B := ⟨_, rfl⟩
  obtain ⟨w7, hw7⟩ : ∃ W, (w2.alloc (.cells #[.slice ao zs.length cp] 26)).alloc (.cells #[.int .i64 ph, .slice ga gs.length gc, .slice ba bs.length bc, .int .i64 at'] 28) = W := ⟨_, rfl⟩
  rw [hw7] at x5 x6 q2 q4 K5 C5 O5 G5 N5
  rw [hB5] at x5 x6 hs2
  simp only [hw7, hB5]
  clear hw7 hB5
  have l5 := x5.lt
  have l6 := x6.lt
  have xd5 := x5.kept (Below.refl _ w7).drew
  have xd6 := x6.kept (Below.refl _ w7).drew
  have Cd := C5.kept (Below.refl _ w7).drew
  have e5 := xd5.cell 0
  have m0 := xd6.cell 0
  have m1 := xd6.cell 1
  have m2 := xd6.cell 2
  have m3 := xd6.cell 3
  go_region_with (first | (go_at_call 24; refine (l1Below_ok c a len cap z 6 (by omega) _ Cd).mono ?_; rintro e w8 ⟨y, rfl, hy0, hy1, hk8, hC8⟩; have hy6 : y < 6 := hy1 (by omega); have t5 := xd5.keeps hk8 (by omega); have t6 := xd6.keeps hk8 (by omega); have e5' := t5.cell 0; have m0' := t6.cell 0; have m1' := t6.cell 1; have m2' := t6.cell 2; have m3' := t6.cell 3; have q28 := (q2.kept (Below.refl _ w7).drew).keeps hk8 (by omega); have q48 := (q4.kept (Below.refl _ w7).drew).keeps hk8 (by omega); have p2 := q28.cell 0; have u2 := q28.frozen 0; have p40 := q48.cell 0; have p41 := q48.cell 1; have p42 := q48.cell 2; have p43 := q48.cell 3; have u40 := q48.frozen 0; have u41 := q48.frozen 1; have u42 := q48.frozen 2; have u43 := q48.frozen 3; have l2 := q28.lt; have l4 := q48.lt))
  all_goals (
    have O7 := (O5.kept (Below.refl _ w7).drew).keeps hk8 hcb
    have G7 := OwnL.turned (G5.kept (row := none) (Kept.grown (Below.refl _ w7).drew) (fun _ e => by cases e)) hk8 hcb
    have N7 := OwnL.turned (N5.kept (row := none) (Kept.grown (Below.refl _ w7).drew) (fun _ e => by cases e)) hk8 hcb
    have K7 : Kept w w8 := Below.trans K5.drew (hk8.below (by omega) (by have := K5.size; simpa using this))
    clear e5 m0 m1 m2 m3 e5' m0' m1' m2' m3'
    have hwr : IntKind.i64.wrap (y - 1) = y - 1 := by rw [IntWalk.i64_left, IntWalk.wrap64_in _ (by omega)]
    have Q2 := ((((q28.set1 (.slice ao zs.length cp)).other (p := ⟨w.heap.size + 1, 0, none⟩) (by intro h; simp at h) (.int .i64 ph)).other (p := ⟨w.heap.size + 1, 1, none⟩) (by intro h; simp at h) (.slice ga gs.length gc)).other (p := ⟨w.heap.size + 1, 2, none⟩) (by intro h; simp at h) (.slice ba bs.length bc)).other (p := ⟨w.heap.size + 1, 3, none⟩) (by intro h; simp at h) (.int .i64 at')
    have Q4 := ((((q48.other (p := ⟨w.heap.size, 0, none⟩) (by intro h; simp at h) (.slice ao zs.length cp)).set 0 (.int .i64 ph)).set 1 (.slice ga gs.length gc)).set 2 (.slice ba bs.length bc)).set 3 (.int .i64 at')
    have O9 := ((((O7.low (b := w.heap.size) (j := 0) (u := .slice ao zs.length cp) (by omega)).low (b := w.heap.size + 1) (j := 0) (u := .int .i64 ph) (by omega)).low (b := w.heap.size + 1) (j := 1) (u := .slice ga gs.length gc) (by omega)).low (b := w.heap.size + 1) (j := 2) (u := .slice ba bs.length bc) (by omega)).low (b := w.heap.size + 1) (j := 3) (u := .int .i64 at') (by omega)
    have G9 := ((((G7.low (b := w.heap.size) (j := 0) (u := .slice ao zs.length cp) (by omega)).low (b := w.heap.size + 1) (j := 0) (u := .int .i64 ph) (by omega)).low (b := w.heap.size + 1) (j := 1) (u := .slice ga gs.length gc) (by omega)).low (b := w.heap.size + 1) (j := 2) (u := .slice ba bs.length bc) (by omega)).low (b := w.heap.size + 1) (j := 3) (u := .int .i64 at') (by omega)
    have N9 := ((((N7.low (b := w.heap.size) (j := 0) (u := .slice ao zs.length cp) (by omega)).low (b := w.heap.size + 1) (j := 0) (u := .int .i64 ph) (by omega)).low (b := w.heap.size + 1) (j := 1) (u := .slice ga gs.length gc) (by omega)).low (b := w.heap.size + 1) (j := 2) (u := .slice ba bs.length bc) (by omega)).low (b := w.heap.size + 1) (j := 3) (u := .int .i64 at') (by omega)
    have K9 := ((((K7.set (p := ⟨w.heap.size, 0, none⟩) (Nat.le_refl _) (.slice ao zs.length cp)).set (p := ⟨w.heap.size + 1, 0, none⟩) (by simp) (.int .i64 ph)).set (p := ⟨w.heap.size + 1, 1, none⟩) (by simp) (.slice ga gs.length gc)).set (p := ⟨w.heap.size + 1, 2, none⟩) (by simp) (.slice ba bs.length bc)).set (p := ⟨w.heap.size + 1, 3, none⟩) (by simp) (.int .i64 at')
    have z2 := Q2.cell 0
    have z40 := Q4.cell 0
    have z41 := Q4.cell 1
    have z42 := Q4.cell 2
    have z43 := Q4.cell 3
    clear p2 p40 p41 p42 p43
    go_wp2_with fail
    refine bodyPost_ret (v := .tuple #[.agg #[.slice ao zs.length cp], .agg #[.int .i64 ph, .slice ga gs.length gc, .slice ba bs.length bc, .int .i64 at'], .int .i64 (y - 1)]) (by simp [results, Tryz.results6, go_sem, z2, z40, z41, z42, z43, hwr]) rfl ⟨_, zs, ph, at', ga, ba, gc, bc, gs, bs, y - 1, rfl, ⟨O9.base (by omega), hl⟩, ⟨OwnL.base G9 (by omega), hgl⟩, ⟨OwnL.base N9 (by omega), hbl⟩, ⟨hph, hat⟩, ⟨by omega, by omega⟩, K9⟩)
set_option maxHeartbeats 16000000 in
set_option maxRecDepth 100000 in
theorem DrawTriOk_ok (a : Option Addr) (len cap : Nat) (z : Nat → Int) (w : World) (h : Src w.heap.size w a len z) :
    Calls Tryz.prog 12 #[.slice a len cap] w fun e w' => ∃ v zs ph at' ga ba gc bc gs bs, e = .returned (.tuple #[.agg #[v], .agg #[.int .i64 ph, .slice ga (List.length gs) gc, .slice ba (List.length bs) bc, .int .i64 at']]) ∧ (OwnI w' w.heap.size v zs ∧ zs.length ≤ 200) ∧ (OwnL w' w.heap.size (.slice ga gs.length gc) gs ∧ gs.length ≤ 201) ∧ (OwnL w' w.heap.size (.slice ba bs.length bc) bs ∧ bs.length ≤ 201) ∧ (InB ph ∧ InB at') ∧ Kept w w' := by
  have k0 : Kept w ((w.alloc (.cells #[.slice none 0 0] 26)).alloc (.cells #[.int .i64 0, .slice none 0 0, .slice none 0 0, .int .i64 0] 28)) := (Kept.alloc (Below.refl _ _) _).alloc _
  have r2 := (Cells.new w 26 #[.slice none 0 0]).alloc (.cells #[.int .i64 0, .slice none 0 0, .slice none 0 0, .int .i64 0] 28)
  have r4 := Cells.new (w.alloc (.cells #[.slice none 0 0] 26)) 28 #[.int .i64 0, .slice none 0 0, .slice none 0 0, .int .i64 0]
  simp only [World.size_alloc] at r4
  have h0 : Src ((w.alloc (.cells #[.slice none 0 0] 26)).alloc (.cells #[.int .i64 0, .slice none 0 0, .slice none 0 0, .int .i64 0] 28)).heap.size ((w.alloc (.cells #[.slice none 0 0] 26)).alloc (.cells #[.int .i64 0, .slice none 0 0, .slice none 0 0, .int .i64 0] 28)) a len z := h.below k0
  go_enter Tryz.func12, Tryz.ntmps12
  go_wp2_with fail
  refine (l1New_ok a len cap z _ h0).mono ?_
  rintro e w1 ⟨c, rfl, hc1, hk1, hC1⟩
  have k1 := k0.trans hk1
  have r2a := r2.kept hk1
  have r4a := r4.kept hk1
  have hs1 := hk1.size
  simp only [World.size_alloc] at hc1 hs1
  clear h0 hk1 k0 r2 r4
  go_wp2_with fail
  refine (l8Draw_ok c a len cap z _ hC1).mono ?_
  rintro e w2 ⟨v, zs, rv, rs, ph, at', ga, ba, gc, bc, gs, bs, rfl, ⟨hO, hl⟩, _, ⟨hG, hgl⟩, ⟨hN, hbl⟩, ⟨hph, hat⟩, hk2, hC2⟩
  have hcb := hC1.lt
  have hs2 := hk2.size
  obtain ⟨ao, cp, rfl, _⟩ := id hO
  have ka : Kept w2 ((w2.alloc (.cells #[.slice ao zs.length cp] 26)).alloc (.cells #[.int .i64 ph, .slice ga gs.length gc, .slice ba bs.length bc, .int .i64 at'] 28)) := (Kept.alloc (Below.refl _ _) _).alloc _
  have x5 := (Cells.new w2 26 #[.slice ao zs.length cp]).alloc (.cells #[.int .i64 ph, .slice ga gs.length gc, .slice ba bs.length bc, .int .i64 at'] 28)
  have x6 := Cells.new (w2.alloc (.cells #[.slice ao zs.length cp] 26)) 28 #[.int .i64 ph, .slice ga gs.length gc, .slice ba bs.length bc, .int .i64 at']
  simp only [World.size_alloc] at x6
  have q2 := (r2a.keeps hk2 (by omega)).kept ka
  have q4 := (r4a.keeps hk2 (by omega)).kept ka
  have K5 : Kept w _ := Kept.trans (Below.trans k1 (hk2.below (by omega) k1.size)) ka
  have C5 := hC2.kept ka
  have O5 := hO.kept ka
  have G5 := hG.kept (row := none) ka.grown (fun _ e => by cases e)
  have N5 := hN.kept (row := none) ka.grown (fun _ e => by cases e)
  clear r2a r4a hk2 hC1 hC2 hO hG hN ka k1
  go_wp2_with fail
  obtain ⟨B5, hB5⟩ : ∃ B, w2.heap.size = B := ⟨_, rfl⟩
  obtain ⟨w7, hw7⟩ : ∃ W, (w2.alloc (.cells #[.slice ao zs.length cp] 26)).alloc (.cells #[.int .i64 ph, .slice ga gs.length gc, .slice ba bs.length bc, .int .i64 at'] 28) = W := ⟨_, rfl⟩
  rw [hw7] at x5 x6 q2 q4 K5 C5 O5 G5 N5
  rw [hB5] at x5 x6 hs2
  simp only [hw7, hB5]
  clear hw7 hB5
  have l5 := x5.lt
  have l6 := x6.lt
  have e5 := x5.cell 0
  have m0 := x6.cell 0
  have m1 := x6.cell 1
  have m2 := x6.cell 2
  have m3 := x6.cell 3
  have p2 := q2.cell 0
  have u2 := q2.frozen 0
  have p40 := q4.cell 0
  have p41 := q4.cell 1
  have p42 := q4.cell 2
  have p43 := q4.cell 3
  have u40 := q4.frozen 0
  have u41 := q4.frozen 1
  have u42 := q4.frozen 2
  have u43 := q4.frozen 3
  have l2 := q2.lt
  have l4 := q4.lt
  go_region
  all_goals (
    have q28 := q2
    have q48 := q4
    have O7 := O5
    have G7 := G5
    have N7 := N5
    have K7 := K5
    clear e5 m0 m1 m2 m3
    have Q2 := ((((q28.set1 (.slice ao zs.length cp)).other (p := ⟨w.heap.size + 1, 0, none⟩) (by intro h; simp at h) (.int .i64 ph)).other (p := ⟨w.heap.size + 1, 1, none⟩) (by intro h; simp at h) (.slice ga gs.length gc)).other (p := ⟨w.heap.size + 1, 2, none⟩) (by intro h; simp at h) (.slice ba bs.length bc)).other (p := ⟨w.heap.size + 1, 3, none⟩) (by intro h; simp at h) (.int .i64 at')
    have Q4 := ((((q48.other (p := ⟨w.heap.size, 0, none⟩) (by intro h; simp at h) (.slice ao zs.length cp)).set 0 (.int .i64 ph)).set 1 (.slice ga gs.length gc)).set 2 (.slice ba bs.length bc)).set 3 (.int .i64 at')
    have O9 := ((((O7.low (b := w.heap.size) (j := 0) (u := .slice ao zs.length cp) (by omega)).low (b := w.heap.size + 1) (j := 0) (u := .int .i64 ph) (by omega)).low (b := w.heap.size + 1) (j := 1) (u := .slice ga gs.length gc) (by omega)).low (b := w.heap.size + 1) (j := 2) (u := .slice ba bs.length bc) (by omega)).low (b := w.heap.size + 1) (j := 3) (u := .int .i64 at') (by omega)
    have G9 := ((((G7.low (b := w.heap.size) (j := 0) (u := .slice ao zs.length cp) (by omega)).low (b := w.heap.size + 1) (j := 0) (u := .int .i64 ph) (by omega)).low (b := w.heap.size + 1) (j := 1) (u := .slice ga gs.length gc) (by omega)).low (b := w.heap.size + 1) (j := 2) (u := .slice ba bs.length bc) (by omega)).low (b := w.heap.size + 1) (j := 3) (u := .int .i64 at') (by omega)
    have N9 := ((((N7.low (b := w.heap.size) (j := 0) (u := .slice ao zs.length cp) (by omega)).low (b := w.heap.size + 1) (j := 0) (u := .int .i64 ph) (by omega)).low (b := w.heap.size + 1) (j := 1) (u := .slice ga gs.length gc) (by omega)).low (b := w.heap.size + 1) (j := 2) (u := .slice ba bs.length bc) (by omega)).low (b := w.heap.size + 1) (j := 3) (u := .int .i64 at') (by omega)
    have K9 := ((((K7.set (p := ⟨w.heap.size, 0, none⟩) (Nat.le_refl _) (.slice ao zs.length cp)).set (p := ⟨w.heap.size + 1, 0, none⟩) (by simp) (.int .i64 ph)).set (p := ⟨w.heap.size + 1, 1, none⟩) (by simp) (.slice ga gs.length gc)).set (p := ⟨w.heap.size + 1, 2, none⟩) (by simp) (.slice ba bs.length bc)).set (p := ⟨w.heap.size + 1, 3, none⟩) (by simp) (.int .i64 at')
    have z2 := Q2.cell 0
    have z40 := Q4.cell 0
    have z41 := Q4.cell 1
    have z42 := Q4.cell 2
    have z43 := Q4.cell 3
    clear p2 p40 p41 p42 p43
    go_wp2_with fail
    refine bodyPost_ret (v := .tuple #[.agg #[.slice ao zs.length cp], .agg #[.int .i64 ph, .slice ga gs.length gc, .slice ba bs.length bc, .int .i64 at']]) (by simp [results, Tryz.results12, go_sem, z2, z40, z41, z42, z43]) rfl ⟨_, zs, ph, at', ga, ba, gc, bc, gs, bs, rfl, ⟨(O9.base (by omega)).kept (Below.refl _ _).drew, hl⟩, ⟨((OwnL.base G9 (by omega)).kept (row := none) (Kept.grown (Below.refl _ _).drew) (fun _ e => by cases e)), hgl⟩, ⟨((OwnL.base N9 (by omega)).kept (row := none) (Kept.grown (Below.refl _ _).drew) (fun _ e => by cases e)), hbl⟩, ⟨hph, hat⟩, K9.drew⟩)
end Go.Proofs.YtchkijeaaealmaaGreat
