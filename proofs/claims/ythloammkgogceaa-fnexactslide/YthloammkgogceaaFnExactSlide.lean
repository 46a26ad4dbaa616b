/-
  The law FnExactSlide is proved: at every slab and list of values impl.Slide answers as its model, it writes into neither, and its two answers own their memory.
-/
import Derived.Test.YthloammkgogceaaRows
import Derived.Deep.RegionWith
import Derived.Deep.CutRange
import Derived.Test.YthloammkgogceaaFrame
import Derived.Test.YthloammkgogceaaGrpHe
import Derived.Test.YthloammkgogceaaFrame2
import Derived.Test.YthloammkgogceaaGrpOw
import Derived.Test.YthloammkgogceaaZSldB
import Derived.Test.YthloammkgogceaaGrpSd
namespace Go.Proofs.Ythloammkgogceaa.fnExactSlide
open Go.ChangeShapes Go.WideShapes Go.ChangeAt Go.RowKit
set_option linter.unusedVariables false

theorem own : ownKnob Try.prog.godebug = none := by kernel_rfl

theorem slideC_le (zs rs : List Int) : (slideC zs rs).1.length ≤ zs.length ∧ (slideC zs rs).2.length ≤ rs.length := by
  unfold slideC
  split
  · simp [slidL_len]
  · simp
/-- What lies while the law goes on, whatever is marked. -/
structure St (w : World) (s0 v3 r3 v5 : Value) (B3 B4 B5 g4 n : Nat) (ws rr : List Int) (W : World) : Prop where
  k : Kept w W
  b : Cells W w.heap.size 24 #[s0]
  x3 : Cells W B3 27 #[v3]
  o3 : OwnL W w.heap.size v3 ws
  p3 : OwnL W w.heap.size r3 rr
  x4 : Cells W B4 27 #[.slice (some ⟨g4, 0, none⟩) n n]
  x5 : Cells W B5 27 #[v5]
theorem St.grown {w : World} {s0 v3 r3 v5 : Value} {B3 B4 B5 g4 n : Nat} {ws rr : List Int} {W W' : World} {row : Option Nat} (h : St w s0 v3 r3 v5 B3 B4 B5 g4 n ws rr W) (hg : W.grownBy W' row) (hr : ∀ k, row = some k → w.heap.size < k ∧ k ≠ B3 ∧ k ≠ B4 ∧ k ≠ B5 ∧ (∀ j, v3.ownBlock = some j → j ≠ k) ∧ ∀ j, r3.ownBlock = some j → j ≠ k) : St w s0 v3 r3 v5 B3 B4 B5 g4 n ws rr W' :=
  ⟨h.k.grownRow hg (fun k e => by have := (hr k e).1; omega), h.b.grown hg (fun e => by have := (hr _ e.symm).1; omega), h.x3.grown hg (fun e => (hr _ e.symm).2.1 rfl), h.o3.kept hg (fun k e j hj => (hr k e).2.2.2.2.1 j hj), h.p3.kept hg (fun k e j hj => (hr k e).2.2.2.2.2 j hj), h.x4.grown hg (fun e => (hr _ e.symm).2.2.1 rfl), h.x5.grown hg (fun e => (hr _ e.symm).2.2.2.1 rfl)⟩
theorem St.kept {w : World} {s0 v3 r3 v5 : Value} {B3 B4 B5 g4 n : Nat} {ws rr : List Int} {W W' : World} (h : St w s0 v3 r3 v5 B3 B4 B5 g4 n ws rr W) (hk : Kept W W') : St w s0 v3 r3 v5 B3 B4 B5 g4 n ws rr W' :=
  ⟨h.k.trans hk, h.b.kept hk, h.x3.kept hk, h.o3.kept (row := none) hk.grown (fun _ e => by cases e), h.p3.kept (row := none) hk.grown (fun _ e => by cases e), h.x4.kept hk, h.x5.kept hk⟩
theorem own_ints {W : World} {base c : Nat} {ao : Option Addr} {l : List Int} (h : OwnL W base (.slice ao l.length c) l) : Ints W ao l := by
  obtain ⟨_, _, e, hi⟩ := h.ints
  cases e
  exact hi
theorem ownR_ints {W : World} {base c : Nat} {ao : Option Addr} {l : List Int} (h : OwnR W base (.slice ao l.length c) l) : Ints W ao l := by
  obtain ⟨_, _, e, hi⟩ := h.ints
  cases e
  exact hi
set_option maxHeartbeats 8000000 in
set_option maxRecDepth 100000 in
theorem walk (w : World) (ao0 : Option Addr) (cap0 : Nat) (zs0 : List Int) (hc0 : zs0.length ≤ cap0) (hm0 : cap0 ≤ maxLen) (hI0 : Ints w ao0 zs0) (ao1 : Option Addr) (cap1 : Nat) (zs1 : List Int) (hc1 : zs1.length ≤ cap1) (hm1 : cap1 ≤ maxLen) (hI1 : Ints w ao1 zs1) :
    Calls Try.prog 6 #[.agg #[.slice ao0 zs0.length cap0], .slice ao1 zs1.length cap1] w fun e w' => e = .returned (.bool true) ∧ Kept w w' := by
  by_cases hr : 1048576 < zs1.length
  · go_enter Try.func6, Try.ntmps6
    go_wp2
    go_ret
    exact ⟨rfl, Kept.alloc (Below.refl _ _) _⟩
  by_cases hb : 1048576 < zs0.length
  · go_enter Try.func6, Try.ntmps6
    go_wp2_with (go_at_call 7; refine (szSlab_big _ ao0 cap0 zs0.length hb (by unfold maxLen at hm0; omega)).mono ?_; rintro e w1 ⟨rfl, hK1⟩)
    go_ret
    exact ⟨rfl, (Kept.alloc (Below.refl _ _) _).trans hK1⟩
  · have hl : zs0.length ≤ 1048576 := by omega
    have hrl : zs1.length ≤ 1048576 := by omega
    have hle := slideC_le zs0 zs1
    have hSpec := fun (w : World) (ao ro : Option Addr) (cap rc : Nat) (hI : Ints w ao zs0) (hR : Ints w ro zs1) => spec_Slide_ok w ao ro cap rc zs0 zs1 hI hl hR hrl
    have hImp := fun (w : World) (ao ro : Option Addr) (rc : Nat) (hI : Ints w ao zs0) (hR : Ints w ro zs1) => impl_Slide_ok w ao ro zs0.length rc zs0 zs1 hI (Nat.le_refl _) hl hR hrl
    obtain ⟨ws, hws⟩ : ∃ ws, (slideC zs0 zs1).1 = ws := ⟨_, rfl⟩
    obtain ⟨rr, hrr⟩ : ∃ rr, (slideC zs0 zs1).2 = rr := ⟨_, rfl⟩
    rw [hws, hrr] at hle
    simp only [hws, hrr] at hSpec hImp
    have hwl : ws.length ≤ 1048576 := by omega
    have hrl2 : rr.length ≤ 1048576 := by omega
    have HSp : Hid _ := hSpec
    have HIm : Hid _ := hImp
    have k0 : Kept w (w.alloc (.cells #[.slice ao0 zs0.length cap0] 24)) := Kept.alloc (Below.refl _ _) _
    have b0 := Cells.new w 24 #[.slice ao0 zs0.length cap0]
    clear hb hr hws hrr hSpec hImp hle
    go_enter Try.func6, Try.ntmps6
    go_wp2_with fail
    refine (szSlab_ok _ ao0 cap0 zs0.length hl).mono ?_
    rintro e w1 ⟨rfl, hK1⟩
    have k1 := k0.trans hK1
    have b1 := b0.kept hK1
    have c1 := b1.cell 0
    go_wp2_with fail
    refine (toSlab_ok _ ao0 cap0 zs0 (hI0.kept k1) hl).mono ?_
    rintro e w2 ⟨g2, rfl, hg2, hR2, hK2⟩
    go_wp2_with fail
    refine (toIntS_ok _ ao1 cap1 zs1 (hI1.kept (k1.trans hK2)) hrl).mono ?_
    rintro e w2b ⟨rfl, hR2b, hK2b⟩
    go_wp2_with fail
    refine (HSp.out _ _ _ _ _ (hR2.kept hK2b).ints hR2b.ints).mono ?_
    rintro e w3 ⟨v3, r3, rfl, o3, p3, hK3⟩
    obtain ⟨la3, lc3, rfl, _⟩ := o3.ints
    obtain ⟨ra3, rc3, rfl, _⟩ := p3.ints
    have lt3 := o3.2.lt
    have ltp3 := p3.2.lt
    have ke : Kept w3 (w3.alloc (.cells #[.slice la3 ws.length lc3] 27)) := Kept.alloc (Below.refl _ _) _
    have x3 := Cells.new w3 27 #[.slice la3 ws.length lc3]
    have k3 := (((k1.trans hK2).trans hK2b).trans hK3).trans ke
    have b3 := ((((b1.kept hK2).kept hK2b).kept hK3).kept ke)
    have c3 := b3.cell 0
    have hw2 : w.heap.size + 1 ≤ w2b.heap.size := by
      have h1 := (b1.kept hK2).lt
      have h2 := hK2b.size
      omega
    have hw3 := hK3.size
    have s3 : (w3.alloc (.cells #[.slice la3 ws.length lc3] 27)).heap.size = w3.heap.size + 1 := by simp
    clear c1 hR2 hg2 hR2b
    go_wp2_with fail
    refine (toSlab_ok _ ao0 cap0 zs0 (hI0.kept k3) hl).mono ?_
    rintro e w4 ⟨g4, rfl, hg4, hR4, hK4⟩
    rw [s3] at hg4
    have ka : Kept w4 (w4.alloc (.cells #[.slice (some ⟨g4, 0, none⟩) zs0.length zs0.length] 27)) := Kept.alloc (Below.refl _ w4) _
    have k4 := (k3.trans hK4).trans ka
    have x4 := Cells.new w4 27 #[.slice (some ⟨g4, 0, none⟩) zs0.length zs0.length]
    have r4 := hR4.kept ka
    have l4 := hR4.lt
    have s4 : (w4.alloc (.cells #[.slice (some ⟨g4, 0, none⟩) zs0.length zs0.length] 27)).heap.size = w4.heap.size + 1 := by simp
    have hw4 := hK4.size
    rw [s3] at hw4
    clear c3
    go_wp2_with fail
    refine (toIntS_ok _ ao1 cap1 zs1 (hI1.kept k4) hrl).mono ?_
    rintro e w4b ⟨rfl, hR4b, hK4b⟩
    simp only [World.size_alloc] at hR4b
    have cx4 := (x4.kept hK4b).cell 0
    have l4b := hR4b.lt
    go_wp2_with fail
    refine (HIm.out _ _ _ _ (r4.kept hK4b).ints hR4b.ints).mono ?_
    rintro e w5 ⟨v5, r5, rfl, o5, p5, hap, hK5⟩
    obtain ⟨la5, lc5, rfl, _⟩ := o5.ints
    obtain ⟨ra5, rc5, rfl, _⟩ := p5.ints
    have lt5 := o5.block
    have ltp5 := p5.2.lt
    have kf : Kept w5 (w5.alloc (.cells #[.slice la5 ws.length lc5] 27)) := Kept.alloc (Below.refl _ _) _
    have hw5 := hK5.size
    have kall : Kept (w3.alloc (.cells #[.slice la3 ws.length lc3] 27)) (w5.alloc (.cells #[.slice la5 ws.length lc5] 27)) := ((((hK4.trans ka).trans hK4b).trans hK5).trans kf)
    have k4f : Kept (w4.alloc (.cells #[.slice (some ⟨g4, 0, none⟩) zs0.length zs0.length] 27)) (w5.alloc (.cells #[.slice la5 ws.length lc5] 27)) := (hK4b.trans hK5).trans kf
    have o3e : OwnL (w3.alloc (.cells #[.slice la3 ws.length lc3] 27)) w.heap.size (.slice la3 ws.length lc3) ws := ⟨o3.1, ownsRow_base (o3.kept (row := none) ke.grown (fun _ e => by cases e)).2 (by omega)⟩
    have p3e : OwnL (w3.alloc (.cells #[.slice la3 ws.length lc3] 27)) w.heap.size (.slice ra3 rr.length rc3) rr := ⟨p3.1, ownsRow_base (p3.kept (row := none) ke.grown (fun _ e => by cases e)).2 (by omega)⟩
    have S : St w (.slice ao0 zs0.length cap0) (.slice la3 ws.length lc3) (.slice ra3 rr.length rc3) (.slice la5 ws.length lc5) w3.heap.size w4.heap.size w5.heap.size g4 zs0.length ws rr (w5.alloc (.cells #[.slice la5 ws.length lc5] 27)) :=
      ⟨k4.trans k4f, b3.kept kall, x3.kept kall, o3e.kept (row := none) kall.grown (fun _ e => by cases e), p3e.kept (row := none) kall.grown (fun _ e => by cases e), x4.kept k4f, Cells.new w5 _ _⟩
    have rg := r4.kept k4f
    have rb := (hR4b.kept hK5).kept kf
    have o5f := o5.kept kf
    have p5f := p5.kept (row := none) kf.grown (fun _ e => by cases e)
    have D4 : Hid (∀ k, some g4 = some k → w.heap.size < k ∧ k ≠ w3.heap.size ∧ k ≠ w4.heap.size ∧ k ≠ w5.heap.size ∧ (∀ j, (Value.slice la3 ws.length lc3).ownBlock = some j → j ≠ k) ∧ ∀ j, (Value.slice ra3 rr.length rc3).ownBlock = some j → j ≠ k) := fun k e => by
      cases e
      exact ⟨by omega, by omega, by omega, by omega, fun j hj => by have := lt3 j hj; omega, fun j hj => by have := ltp3 j hj; omega⟩
    have Dr : Hid (∀ k, some (w4.heap.size + 1) = some k → w.heap.size < k ∧ k ≠ w3.heap.size ∧ k ≠ w4.heap.size ∧ k ≠ w5.heap.size ∧ (∀ j, (Value.slice la3 ws.length lc3).ownBlock = some j → j ≠ k) ∧ ∀ j, (Value.slice ra3 rr.length rc3).ownBlock = some j → j ≠ k) := fun k e => by
      injection e with e
      exact ⟨by omega, by omega, by omega, by omega, fun j hj => by have := lt3 j hj; omega, fun j hj => by have := ltp3 j hj; omega⟩
    have D5 : Hid (∀ k, (Value.slice la5 ws.length lc5).ownBlock = some k → w.heap.size < k ∧ k ≠ w3.heap.size ∧ k ≠ w4.heap.size ∧ k ≠ w5.heap.size ∧ (∀ j, (Value.slice la3 ws.length lc3).ownBlock = some j → j ≠ k) ∧ ∀ j, (Value.slice ra3 rr.length rc3).ownBlock = some j → j ≠ k) := fun k e => by
      have h5 := lt5 k e
      exact ⟨by omega, by omega, by omega, by omega, fun j hj => by have := lt3 j hj; omega, fun j hj => by have := ltp3 j hj; omega⟩
    have Dp : Hid (∀ k, (Value.slice ra5 rr.length rc5).ownBlock = some k → w.heap.size < k ∧ k ≠ w3.heap.size ∧ k ≠ w4.heap.size ∧ k ≠ w5.heap.size ∧ (∀ j, (Value.slice la3 ws.length lc3).ownBlock = some j → j ≠ k) ∧ ∀ j, (Value.slice ra3 rr.length rc3).ownBlock = some j → j ≠ k) := fun k e => by
      have h5 := ltp5 k e
      exact ⟨by omega, by omega, by omega, by omega, fun j hj => by have := lt3 j hj; omega, fun j hj => by have := ltp3 j hj; omega⟩
    have A1 : Hid (∀ j, (Value.slice la5 ws.length lc5).ownBlock = some j → j ≠ g4 ∧ j ≠ w4.heap.size + 1) := fun j hj => by have := lt5 j hj; exact ⟨by omega, by omega⟩
    have A2 : Hid (∀ j, (Value.slice ra5 rr.length rc5).ownBlock = some j → j ≠ g4 ∧ j ≠ w4.heap.size + 1) := fun j hj => by have := ltp5 j hj; exact ⟨by omega, by omega⟩
    have A3 : Hid (g4 ≠ w4.heap.size + 1) := by rw [Hid]; omega
    have AP : Hid _ := hap
    obtain ⟨W5, hW5⟩ : ∃ W, w5.alloc (.cells #[.slice la5 ws.length lc5] 27) = W := ⟨_, rfl⟩
    rw [hW5] at S rg rb o5f p5f
    have d3 := S.x3.cell 0
    have d5 := S.x5.cell 0
    have ld3 := S.x3.lt
    clear cx4 hap lt3 ltp3 lt5 ltp5 o3 p3 o5 p5 o3e p3e x3 x4 r4 b1 b3 b0 k0 k1 k3 k4 ka ke kf kall k4f hR4 hR4b hK1 hK2 hK2b hK3 hK4 hK4b hK5 s3 s4 l4 l4b hw2 hw3 hw4 hw5 hg4
    go_wp2_with fail
    refine (eqSlab_ok _ _ _ _ _ ws (ownR_ints o5f) (own_ints S.o3) (by omega)).mono ?_
    rintro e w6 ⟨rfl, hK6⟩
    go_wp2_with fail
    refine (eqIntS_ok _ _ _ _ _ rr (own_ints (p5f.kept (row := none) hK6.grown (fun _ e => by cases e))) (own_ints (S.kept hK6).p3) (by omega)).mono ?_
    rintro e w6b ⟨rfl, hK6b⟩
    have kk := hK6.trans hK6b
    have S6 := S.kept kk
    have rg6 := rg.kept kk
    have rb6 := rb.kept kk
    have o6 := o5f.kept kk
    have p6 := p5f.kept (row := none) kk.grown (fun _ e => by cases e)
    have c6 := S6.b.cell 0
    have x6 := S6.x4.cell 0
    clear d3 d5 ld3 S rg rb o5f p5f kk hK6 hK6b
    go_wp2_with fail
    have i6 : Ints w6b.drew ao0 zs0 := hI0.kept (S6.k.drew)
    have r6 : Row w6b.drew g4 zs0 := rg6.kept (Below.refl _ w6b).drew
    have x6' : Cells w6b.drew w4.heap.size 27 #[.slice (some ⟨g4, 0, none⟩) zs0.length zs0.length] := S6.x4.kept (Below.refl _ w6b).drew
    go_cut [57] from 53 to 56 (fun s57 wx => s57 = .bool false ∧ Kept w6b wx)
    case first =>
      go_region_with (first | (go_at_call 9; refine (toSlab_ok _ ao0 cap0 zs0 i6 hl).mono ?_; rintro e w7 ⟨g7, rfl, hg7, hR7, hK7⟩; have x7 := (x6'.kept hK7).cell 0; have r7 := r6.kept hK7) | (go_at_call 12; refine (eqSlab_ok _ _ _ _ _ zs0 r7.ints hR7.ints (by omega)).mono ?_; rintro e w8 ⟨rfl, hK8⟩))
      all_goals (go_wp2_with fail; go_meet; exact ⟨rfl, (Kept.trans (Below.drew (Below.refl _ w6b)) hK7).trans hK8⟩)
    case rest =>
    obtain ⟨rfl, hKc⟩ := hcut
    have Sc := S6.kept hKc
    clear i6 r6 x6' c6 x6
    go_wp2_with fail
    refine (toIntS_ok _ ao1 cap1 zs1 (hI1.kept Sc.k) hrl).mono ?_
    rintro e w7 ⟨rfl, hR7, hK7⟩
    go_wp2_with fail
    refine (eqIntS_ok _ _ _ _ _ zs1 ((rb6.kept hKc).kept hK7).ints hR7.ints (by omega)).mono ?_
    rintro e w7b ⟨rfl, hK7b⟩
    have kk := (hKc.trans hK7).trans hK7b
    have S7 := S6.kept kk
    have rg7 := rg6.kept kk
    have rb7 := rb6.kept kk
    have o7 := o6.kept kk
    have p7 := p6.kept (row := none) kk.grown (fun _ e => by cases e)
    have cx := S7.x4.cell 0
    clear S6 rg6 rb6 o6 p6 Sc hKc hK7 hK7b hR7 kk
    go_wp2_with fail
    refine (markSlab_ok _ g4 zs0.length zs0 rg7 hl).mono ?_
    rintro e w8 ⟨rfl, _, hG8⟩
    have S8 := S7.grown hG8 D4.out
    have rb8 := rb7.grown hG8 (by intro e; injection e with e; exact A3.out e.symm)
    have o8 := o7.grown hG8 (fun k e j hj => by cases e; exact (A1.out j hj).1)
    have p8 := p7.kept hG8 (fun k e j hj => by cases e; exact (A2.out j hj).1)
    clear cx S7 rg7 rb7 o7 p7 hG8
    go_wp2_with fail
    refine (markFrom_ok _ _ _ (zs0.length + 1) zs1 rb8 hrl (by omega)).mono ?_
    rintro e w8b ⟨rfl, hG8b⟩
    have S9 := S8.grown hG8b Dr.out
    have o9 := o8.grown hG8b (fun k e j hj => by injection e with e; rw [← e]; exact (A1.out j hj).2)
    have p9 := p8.kept hG8b (fun k e j hj => by injection e with e; rw [← e]; exact (A2.out j hj).2)
    have d3 := S9.x3.cell 0
    have d5 := S9.x5.cell 0
    clear S8 rb8 o8 p8 hG8b
    go_wp2_with fail
    refine (eqSlab_ok _ _ _ _ _ ws (ownR_ints o9) (own_ints S9.o3) (by omega)).mono ?_
    rintro e w9 ⟨rfl, hK9⟩
    go_wp2_with fail
    refine (eqIntS_ok _ _ _ _ _ rr (own_ints (p9.kept (row := none) hK9.grown (fun _ e => by cases e))) (own_ints (S9.kept hK9).p3) (by omega)).mono ?_
    rintro e w9b ⟨rfl, hK9b⟩
    have kk := hK9.trans hK9b
    have Sa := S9.kept kk
    have oa := o9.kept kk
    have pa := p9.kept (row := none) kk.grown (fun _ e => by cases e)
    have da := Sa.x5.cell 0
    clear d3 d5 S9 o9 p9 kk hK9 hK9b
    go_wp2_with fail
    refine (markOwn_ok _ _ _ ws oa hwl).mono ?_
    rintro e w10 ⟨rfl, ⟨_, _, ev, i10⟩, hG10⟩
    cases ev
    have Sb := Sa.grown hG10 D5.out
    have pb := pa.kept hG10 (fun k e j hj => (AP.out k j e hj).symm)
    clear da Sa oa pa
    go_wp2_with fail
    refine (markOwnF_ok _ _ (ws.length + 1) _ rr pb (by omega) (by omega)).mono ?_
    rintro e w11 ⟨rfl, ⟨_, _, ev, j11, _⟩, hG11⟩
    cases ev
    have Sd := Sb.grown hG11 Dp.out
    have i11 : Ints w11 la5 (marks ws.length) := i10.far hG11 (fun x e h => AP.out x.block x.block (by rw [e]; rfl) h rfl)
    have dd := Sd.x5.cell 0
    clear Sb pb hG10 hG11 i10
    go_wp2_with fail
    refine (heldSlab_ok _ _ _ _ i11 hwl).mono ?_
    rintro e w12 ⟨rfl, hK12⟩
    go_wp2_with fail
    refine (heldF_ok _ _ _ (ws.length + 1) rr.length (j11.kept hK12) (by omega) (by omega)).mono ?_
    rintro e w12' ⟨rfl, rfl⟩
    have Se := Sd.kept hK12
    have i12 := i11.kept hK12
    have j12 := j11.kept hK12
    have ce := Se.b.cell 0
    clear dd Sd i11 j11 hK12
    go_wp2_with fail
    refine (toSlab_ok _ ao0 cap0 zs0 (hI0.kept Se.k) hl).mono ?_
    rintro e w13 ⟨g13, rfl, hg13, hR13, hK13⟩
    go_wp2_with fail
    refine (toIntS_ok _ ao1 cap1 zs1 (hI1.kept (Se.k.trans hK13)) hrl).mono ?_
    rintro e w13b ⟨rfl, hR13b, hK13b⟩
    go_wp2_with fail
    refine (HIm.out _ _ _ _ (hR13.kept hK13b).ints hR13b.ints).mono ?_
    rintro e w14 ⟨v14, r14, rfl, o14, p14, _, hK14⟩
    obtain ⟨la14, lc14, rfl, _⟩ := o14.ints
    obtain ⟨ra14, rc14, rfl, _⟩ := p14.ints
    have kg : Kept w14 (w14.alloc (.cells #[.slice la14 ws.length lc14] 27)) := Kept.alloc (Below.refl _ _) _
    have kk := ((hK13.trans hK13b).trans hK14).trans kg
    have Sf := Se.kept kk
    have i14 := i12.kept kk
    have j14 := j12.kept kk
    have o15 := o14.kept kg
    have p15 := p14.kept (row := none) kg.grown (fun _ e => by cases e)
    have e3 := Sf.x3.cell 0
    have le3 := (Se.x3.kept ((hK13.trans hK13b).trans hK14)).lt
    clear ce Se i12 j12 hK13 hK13b hK14 kk hR13 hR13b hg13 o14 p14
    go_wp2_with fail
    refine (eqSlab_ok _ _ _ _ _ ws (ownR_ints o15) (own_ints Sf.o3) (by omega)).mono ?_
    rintro e w15 ⟨rfl, hK15⟩
    go_wp2_with fail
    refine (eqIntS_ok _ _ _ _ _ rr (own_ints (p15.kept (row := none) hK15.grown (fun _ e => by cases e))) (own_ints (Sf.kept hK15).p3) (by omega)).mono ?_
    rintro e w15b ⟨rfl, hK15b⟩
    have kk := hK15.trans hK15b
    have Sg := Sf.kept kk
    have f5 := Sg.x5.cell 0
    have i15 := i14.kept kk
    have j15 := j14.kept kk
    clear e3 le3 Sf kg o15 p15 i14 j14 kk hK15 hK15b
    go_wp2_with fail
    refine (heldSlab_ok _ _ _ _ i15 hwl).mono ?_
    rintro e w16 ⟨rfl, hK16⟩
    go_wp2_with fail
    refine (heldF_ok _ _ _ (ws.length + 1) rr.length (j15.kept hK16) (by omega) (by omega)).mono ?_
    rintro e w16' ⟨rfl, rfl⟩
    have kz := Sg.k.trans hK16
    clear f5 Sg i15 j15
    go_wp2
    go_ret
    exact ⟨rfl, kz⟩

set_option maxRecDepth 100000 in
theorem lifted (os : Os) (started : os.Started) (H : Type) (enc : TypeId × Value → H) :
    ReturnsInHanded {} Try.checked os 6 .any (Rows.fnExactSlideSpec.pre6 enc Try.prog Try.f6 Rows.fnExactSlideRow.domain false) (Rows.fnExactSlideSpec.post enc Try.prog Try.f6 false true false false) := by
  refine returnsInHanded_of_change (C := Try.checked) own started (by kernel_rfl) Try.func6
    (ChangeSpec.witness6 (enc := enc) (C := Try.checked) false ⟨#[], #[.agg #[.slice none 0 0], .slice none 0 0], []⟩ 8 (by kernel_rfl) (by kernel_rfl) (by kernel_rfl) (by kernel_rfl)) ?_
  intro W base args ds gs before hval0 hW hcnd _
  have hval : ∀ (j : Nat) t v, Try.f6.params[j]? = some t → args[j]? = some v → Value.okWide Try.prog W .any base t v := hval0
  have hW' := hW
  obtain ⟨p, q, hA0, hV, rfl, hfz, hnd⟩ := hW
  have hA : DataW.TrodAll enc Try.prog W 0 (fun _ => true) true Try.f6.params.toList args.toList ds p := hA0
  rw [Try.params6] at hA hval
  obtain ⟨v0, vs0, d0, ds0, p0, q0, hargs0, rfl, rfl, h0, r0⟩ := trodAll_cons hA
  obtain ⟨v1, vs1, d1, ds1, p1, q1, hargs1, rfl, rfl, h1, r1⟩ := trodAll_cons r0
  obtain ⟨rfl, rfl, rfl⟩ := trodAll_nil r1
  obtain rfl : args = #[v0, v1] := by cases args; simp_all
  obtain ⟨rfl, rfl⟩ := trodVars_none hV
  clear hA0 hval0
  simp only [List.append_nil] at hW'
  have hlt0 : ∀ x ∈ p0, x.block < W.heap.size := fun x hx => by simpa using hW'.lt x (by simp [hx])
  have hlt1 : ∀ x ∈ p1, x.block < W.heap.size := fun x hx => by simpa using hW'.lt x (by simp [hx])
  obtain ⟨ao0, cap0, zs0, rfl, hc0, hm0, hI0⟩ := open_slab (hval 0 24 v0 rfl rfl) h0
  obtain ⟨ao1, cap1, zs1, rfl, hc1, hm1, hI1⟩ := open_list (hval 1 22 v1 rfl rfl) h1
  refine (walk W ao0 cap0 zs0 hc0 hm0 hI0 ao1 cap1 zs1 hc1 hm1 hI1).mono fun e W' ⟨he, hk⟩ => ?_
  subst he
  refine ⟨_, rfl, _, _, _, [], p0 ++ (p1 ++ []), [], hW', ?_, ?_, rfl, hk.frame _, fun h => by cases h⟩
  · exact trodAll_cons_mk (shut_bool Try.underlying4 _) trodAll_mk0
  · exact (trodAll_cons_mk (Below.trod laid (by kernel_rfl) (of_decide_eq_true (by kernel_rfl)) h0 hk hlt0) (trodAll_cons_mk (Below.trod laid (by kernel_rfl) (of_decide_eq_true (by kernel_rfl)) h1 hk hlt1) trodAll_mk0))

theorem over : Rows.fnExactSlideRow.holds Try.pinned (OpenSpec.ofChange Rows.fnExactSlideSpec) :=
  OpenClaim.holds_of_wide 6 Try.f6 rfl rfl rfl rfl rfl rfl rfl ⟨rfl, rfl, rfl, rfl, rfl⟩ rfl rfl rfl rfl rfl (by kernel_rfl) Try.func6 (by kernel_rfl)
    (of_decide_eq_true (by kernel_rfl)) (by unfold Func.isWrapper; first | (rw [if_pos (by decide +kernel)]; kernel_rfl) | (rw [if_neg (by decide +kernel)]; exact ⟨rfl, rfl⟩))
    (fun os started H enc _ => lifted os started H enc)

theorem proved : Rows.FnExactSlideSaid :=
  over
#print axioms proved
end Go.Proofs.Ythloammkgogceaa.fnExactSlide
