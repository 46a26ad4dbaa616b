/-
  The contract of impl.Fresh (chapter 8).
-/
import Derived.Test.YtjgafhmgmddgdaaGrpC
import Derived.Test.YtjgafhmgmddgdaaGrpI
import Derived.Test.YtjgafhmgmddgdaaSliA
import Derived.Test.YtjgafhmgmddgdaaMrkF
namespace Go.Proofs.Ytjgafhmgmddgdaa
open Go.RowKit

theorem OwnL.nil0 {W : World} {base c : Nat} {ao : Option Addr} {l : List Int} (h : OwnL W base (.slice ao l.length c) l) : ao = none → c = 0 := by
  rintro rfl
  rcases h.2.2 with ⟨e, _⟩ | ⟨g, cap, cur, e, _⟩
  · simp only [Value.slice.injEq] at e; exact e.2.2
  · cases e
set_option maxHeartbeats 16000000 in
set_option maxRecDepth 100000 in
theorem impl_Fresh_ok (w : World) (c1' c2' : Nat) (ph at' x : Int) (ga ba : Option Addr) (gc bc : Nat) (gs bs : List Int) (hg : OwnL w c1' (.slice ga gs.length gc) gs) (hb : OwnL w c2' (.slice ba bs.length bc) bs) (hgl : gs.length ≤ 1048576) (hbl : bs.length ≤ 1048576) (hxb : -9223372036854775808 ≤ x ∧ x ≤ 9223372036854775807) :
    Calls Try.prog 24 #[.agg #[.int .i64 ph, .slice ga gs.length gc, .slice ba bs.length bc, .int .i64 at'], .int .i64 x] w fun e w' => ∃ m, e = .returned m ∧ MkO w' w.heap.size m ph gs (freshL ph gs bs x) at' ∧ Kept w w' := by
  have b0 := (Cells.new w 32 #[.int .i64 ph, .slice ga gs.length gc, .slice ba bs.length bc, .int .i64 at']).alloc (.cells #[.int .i64 0, .slice none 0 0, .slice none 0 0, .int .i64 0] 32)
  have b1 := Cells.new (w.alloc (.cells #[.int .i64 ph, .slice ga gs.length gc, .slice ba bs.length bc, .int .i64 at'] 32)) 32 #[.int .i64 0, .slice none 0 0, .slice none 0 0, .int .i64 0]
  have k0 : Kept w ((w.alloc (.cells #[.int .i64 ph, .slice ga gs.length gc, .slice ba bs.length bc, .int .i64 at'] 32)).alloc (.cells #[.int .i64 0, .slice none 0 0, .slice none 0 0, .int .i64 0] 32)) := (Kept.alloc (Below.refl _ _) _).alloc _
  simp only [World.size_alloc] at b1
  have hgn := hg.nil0
  have hbn := hb.nil0
  have HIg : Hid (∀ u, Kept w u → Ints u ga gs) := fun u hu => by obtain ⟨_, _, e, h⟩ := hg.ints; cases e; exact h.kept hu
  have HIb : Hid (∀ u, Kept w u → Ints u ba bs) := fun u hu => by obtain ⟨_, _, e, h⟩ := hb.ints; cases e; exact h.kept hu
  have hCp := copyMarker_ok _ ph at' ga ba gc bc gs bs (HIg.out _ k0) (HIb.out _ k0) hgl hbl hgn hbn
  clear hg hb
  obtain ⟨r1, hr1⟩ : ∃ r, decide (x ∈ gs) = r := ⟨_, rfl⟩
  obtain ⟨r2, hr2⟩ : ∃ r, decide (x ∈ bs) = r := ⟨_, rfl⟩
  have HIG : Hid (∀ u, Kept w u → Calls Try.prog 49 #[.slice ga gs.length gc, .int .i64 x] u fun e w' => e = .returned (.bool r1) ∧ Kept u w') := fun u hu => by have := intContains_ok u ga gc gs x (HIg.out u hu) hgl; rw [hr1] at this; exact this
  have HIB : Hid (∀ u, Kept w u → Calls Try.prog 49 #[.slice ba bs.length bc, .int .i64 x] u fun e w' => e = .returned (.bool r2) ∧ Kept u w') := fun u hu => by have := intContains_ok u ba bc bs x (HIb.out u hu) hbl; rw [hr2] at this; exact this
  have HWP : Hid (x ∉ bs → ∀ u, Kept w u → Calls Try.prog 50 #[.slice ba bs.length bc, .int .i64 x] u fun e w' => ∃ v, e = .returned v ∧ OwnL w' u.heap.size v (insL x bs) ∧ Kept u w') := fun hx u hu => withPlace_ok u ba bc bs x (HIb.out u hu) hbl hbn hxb hx
  by_cases hp : ph = 0
  · have HF : Hid (freshL ph gs bs x = bs) := if_pos (.inl hp)
    subst hp
    clear hr1 hr2 HIG HIB HWP
    go_enter Try.func24, Try.ntmps24
    go_wp2_with fail
    refine hCp.mono ?_
    rintro e w2 ⟨m2, rfl, hM2, hk2⟩
    obtain ⟨gv2, bv2, rfl, ho1, ho2, ho3⟩ := hM2
    obtain ⟨ga2, gc2, rfl, _⟩ := ho1.ints
    obtain ⟨ba2, bc2, rfl, _⟩ := ho2.ints
    have ka : Kept w2 (w2.alloc (.cells #[.int .i64 0, .slice ga2 gs.length gc2, .slice ba2 bs.length bc2, .int .i64 at'] 32)) := Kept.alloc (Below.refl _ _) _
    have x5 := Cells.new w2 32 #[.int .i64 0, .slice ga2 gs.length gc2, .slice ba2 bs.length bc2, .int .i64 at']
    obtain ⟨WX, hWX⟩ : ∃ WX, w2.alloc (.cells #[.int .i64 0, .slice ga2 gs.length gc2, .slice ba2 bs.length bc2, .int .i64 at'] 32) = WX := ⟨_, rfl⟩
    have y0 := (b0.kept hk2).kept ka
    have z0 := (b1.kept hk2).kept ka
    have M0 : MkO WX (w.heap.size + 2) (.agg #[.int .i64 0, .slice ga2 gs.length gc2, .slice ba2 bs.length bc2, .int .i64 at']) 0 gs bs at' := by
      have h0 : MkO w2 _ (.agg #[.int .i64 0, .slice ga2 gs.length gc2, .slice ba2 bs.length bc2, .int .i64 at']) 0 gs bs at' := ⟨_, _, rfl, ho1, ho2, ho3⟩
      have h1 := h0.kept ka
      rw [hWX] at h1
      simpa using h1
    have K0 := (k0.trans hk2).trans ka
    have hlg2 : ∀ j, (Value.slice ga2 gs.length gc2).ownBlock = some j → j < w2.heap.size := fun j hj => (ho1.2.lt j hj).2
    have hs2 := hk2.size
    simp only [World.size_alloc] at hs2
    rw [hWX] at x5 y0 z0 K0
    obtain ⟨B5, hB5⟩ : ∃ B5, w2.heap.size = B5 := ⟨_, rfl⟩
    rw [hB5] at x5 hlg2 hs2
    have HX5 : Hid (∀ u, Kept WX u → Cells u B5 32 #[.int .i64 0, .slice ga2 gs.length gc2, .slice ba2 bs.length bc2, .int .i64 at']) := fun u hu => x5.kept hu
    have HY0 : Hid (∀ u, Kept WX u → Cells u w.heap.size 32 #[.int .i64 0, .slice ga gs.length gc, .slice ba bs.length bc, .int .i64 at']) := fun u hu => y0.kept hu
    have HZ0 : Hid (∀ u, Kept WX u → Cells u (w.heap.size + 1) 32 #[.int .i64 0, .slice none 0 0, .slice none 0 0, .int .i64 0]) := fun u hu => z0.kept hu
    have HM0 : Hid (∀ u, Kept WX u → MkO u (w.heap.size + 2) (.agg #[.int .i64 0, .slice ga2 gs.length gc2, .slice ba2 bs.length bc2, .int .i64 at']) 0 gs bs at') := fun u hu => M0.kept hu
    have HKX : Hid (∀ u, Kept WX u → Kept w u) := fun u hu => K0.trans hu
    have Hlg : Hid _ := hlg2
    have HWX : Hid _ := hWX
    have HB5 : Hid _ := hB5
    clear ho1 ho2 ho3 ka hCp x5 y0 z0 M0 K0 hlg2
    have kk : Kept WX WX := Below.refl _ WX
    have y0 := HY0.out WX kk
    have y0c0 := y0.cell 0
    have y0c1 := y0.cell 1
    have y0c2 := y0.cell 2
    have y0c3 := y0.cell 3
    have x0 := HX5.out WX kk
    have x0c0 := x0.cell 0
    have x0c1 := x0.cell 1
    have x0c2 := x0.cell 2
    have x0c3 := x0.cell 3
    have z0 := HZ0.out WX kk
    have z0c0 := z0.cell 0
    have z0c1 := z0.cell 1
    have z0c2 := z0.cell 2
    have z0c3 := z0.cell 3
    have z0f0 := z0.frozen 0
    have z0f1 := z0.frozen 1
    have z0f2 := z0.frozen 2
    have z0f3 := z0.frozen 3
    go_wp2_with fail
    have q := z0.four (.int .i64 0) (.slice ga2 gs.length gc2) (.slice ba2 bs.length bc2) (.int .i64 at')
    have q0 := q.cell 0
    have q1 := q.cell 1
    have q2 := q.cell 2
    have q3 := q.cell 3
    refine bodyPost_ret (v := .agg #[.int .i64 0, .slice ga2 gs.length gc2, .slice ba2 bs.length bc2, .int .i64 at']) (by simp [results, Try.results24, go_sem, q0, q1, q2, q3]) rfl ⟨_, rfl, ?_, ?_⟩
    · rw [HF.out]
      exact MkO.base (((((HM0.out WX kk).far (p := ⟨w.heap.size + 1, 0, none⟩) (by simp)).far (p := ⟨w.heap.size + 1, 1, none⟩) (by simp)).far (p := ⟨w.heap.size + 1, 2, none⟩) (by simp)).far (p := ⟨w.heap.size + 1, 3, none⟩) (by simp)) (by omega)
    · exact ((((HKX.out WX kk).set (p := ⟨w.heap.size + 1, 0, none⟩) (by simp) _).set (p := ⟨w.heap.size + 1, 1, none⟩) (by simp) _).set (p := ⟨w.heap.size + 1, 2, none⟩) (by simp) _).set (p := ⟨w.heap.size + 1, 3, none⟩) (by simp) _
  · have e1 : (ph == 0) = false := by simpa using hp
    cases r1 with
    | true =>
      have HF : Hid (freshL ph gs bs x = bs) := if_pos (.inr (.inl (by simpa using hr1)))
      clear hr1 hr2 HIB HWP
      go_enter Try.func24, Try.ntmps24
      go_wp2_with fail
      refine hCp.mono ?_
      rintro e w2 ⟨m2, rfl, hM2, hk2⟩
      obtain ⟨gv2, bv2, rfl, ho1, ho2, ho3⟩ := hM2
      obtain ⟨ga2, gc2, rfl, _⟩ := ho1.ints
      obtain ⟨ba2, bc2, rfl, _⟩ := ho2.ints
      have ka : Kept w2 (w2.alloc (.cells #[.int .i64 ph, .slice ga2 gs.length gc2, .slice ba2 bs.length bc2, .int .i64 at'] 32)) := Kept.alloc (Below.refl _ _) _
      have x5 := Cells.new w2 32 #[.int .i64 ph, .slice ga2 gs.length gc2, .slice ba2 bs.length bc2, .int .i64 at']
      obtain ⟨WX, hWX⟩ : ∃ WX, w2.alloc (.cells #[.int .i64 ph, .slice ga2 gs.length gc2, .slice ba2 bs.length bc2, .int .i64 at'] 32) = WX := ⟨_, rfl⟩
      have y0 := (b0.kept hk2).kept ka
      have z0 := (b1.kept hk2).kept ka
      have M0 : MkO WX (w.heap.size + 2) (.agg #[.int .i64 ph, .slice ga2 gs.length gc2, .slice ba2 bs.length bc2, .int .i64 at']) ph gs bs at' := by
        have h0 : MkO w2 _ (.agg #[.int .i64 ph, .slice ga2 gs.length gc2, .slice ba2 bs.length bc2, .int .i64 at']) ph gs bs at' := ⟨_, _, rfl, ho1, ho2, ho3⟩
        have h1 := h0.kept ka
        rw [hWX] at h1
        simpa using h1
      have K0 := (k0.trans hk2).trans ka
      have hlg2 : ∀ j, (Value.slice ga2 gs.length gc2).ownBlock = some j → j < w2.heap.size := fun j hj => (ho1.2.lt j hj).2
      have hs2 := hk2.size
      simp only [World.size_alloc] at hs2
      rw [hWX] at x5 y0 z0 K0
      obtain ⟨B5, hB5⟩ : ∃ B5, w2.heap.size = B5 := ⟨_, rfl⟩
      rw [hB5] at x5 hlg2 hs2
      have HX5 : Hid (∀ u, Kept WX u → Cells u B5 32 #[.int .i64 ph, .slice ga2 gs.length gc2, .slice ba2 bs.length bc2, .int .i64 at']) := fun u hu => x5.kept hu
      have HY0 : Hid (∀ u, Kept WX u → Cells u w.heap.size 32 #[.int .i64 ph, .slice ga gs.length gc, .slice ba bs.length bc, .int .i64 at']) := fun u hu => y0.kept hu
      have HZ0 : Hid (∀ u, Kept WX u → Cells u (w.heap.size + 1) 32 #[.int .i64 0, .slice none 0 0, .slice none 0 0, .int .i64 0]) := fun u hu => z0.kept hu
      have HM0 : Hid (∀ u, Kept WX u → MkO u (w.heap.size + 2) (.agg #[.int .i64 ph, .slice ga2 gs.length gc2, .slice ba2 bs.length bc2, .int .i64 at']) ph gs bs at') := fun u hu => M0.kept hu
      have HKX : Hid (∀ u, Kept WX u → Kept w u) := fun u hu => K0.trans hu
      have Hlg : Hid _ := hlg2
      have HWX : Hid _ := hWX
      have HB5 : Hid _ := hB5
      clear ho1 ho2 ho3 ka hCp x5 y0 z0 M0 K0 hlg2
      have kk : Kept WX WX := Below.refl _ WX
      have y0 := HY0.out WX kk
      have y0c0 := y0.cell 0
      have y0c1 := y0.cell 1
      have y0c2 := y0.cell 2
      have y0c3 := y0.cell 3
      have x0 := HX5.out WX kk
      have x0c0 := x0.cell 0
      have x0c1 := x0.cell 1
      have x0c2 := x0.cell 2
      have x0c3 := x0.cell 3
      have z0 := HZ0.out WX kk
      have z0c0 := z0.cell 0
      have z0c1 := z0.cell 1
      have z0c2 := z0.cell 2
      have z0c3 := z0.cell 3
      have z0f0 := z0.frozen 0
      have z0f1 := z0.frozen 1
      have z0f2 := z0.frozen 2
      have z0f3 := z0.frozen 3
      go_wp2_with fail
      refine (HIG.out _ (HKX.out _ kk)).mono ?_
      rintro e w3 ⟨rfl, k3⟩
      clear y0c0 y0c1 y0c2 y0c3 x0c0 x0c1 x0c2 x0c3 z0c0 z0c1 z0c2 z0c3 z0f0 z0f1 z0f2 z0f3
      have y3 := HY0.out w3 k3
      have y3c0 := y3.cell 0
      have y3c1 := y3.cell 1
      have y3c2 := y3.cell 2
      have y3c3 := y3.cell 3
      have x3 := HX5.out w3 k3
      have x3c0 := x3.cell 0
      have x3c1 := x3.cell 1
      have x3c2 := x3.cell 2
      have x3c3 := x3.cell 3
      have z3 := HZ0.out w3 k3
      have z3c0 := z3.cell 0
      have z3c1 := z3.cell 1
      have z3c2 := z3.cell 2
      have z3c3 := z3.cell 3
      have z3f0 := z3.frozen 0
      have z3f1 := z3.frozen 1
      have z3f2 := z3.frozen 2
      have z3f3 := z3.frozen 3
      go_wp2_with fail
      have q := z3.four (.int .i64 ph) (.slice ga2 gs.length gc2) (.slice ba2 bs.length bc2) (.int .i64 at')
      have q0 := q.cell 0
      have q1 := q.cell 1
      have q2 := q.cell 2
      have q3 := q.cell 3
      refine bodyPost_ret (v := .agg #[.int .i64 ph, .slice ga2 gs.length gc2, .slice ba2 bs.length bc2, .int .i64 at']) (by simp [results, Try.results24, go_sem, q0, q1, q2, q3]) rfl ⟨_, rfl, ?_, ?_⟩
      · rw [HF.out]
        exact MkO.base (((((HM0.out w3 k3).far (p := ⟨w.heap.size + 1, 0, none⟩) (by simp)).far (p := ⟨w.heap.size + 1, 1, none⟩) (by simp)).far (p := ⟨w.heap.size + 1, 2, none⟩) (by simp)).far (p := ⟨w.heap.size + 1, 3, none⟩) (by simp)) (by omega)
      · exact ((((HKX.out w3 k3).set (p := ⟨w.heap.size + 1, 0, none⟩) (by simp) _).set (p := ⟨w.heap.size + 1, 1, none⟩) (by simp) _).set (p := ⟨w.heap.size + 1, 2, none⟩) (by simp) _).set (p := ⟨w.heap.size + 1, 3, none⟩) (by simp) _
    | false =>
      cases r2 with
      | true =>
        have HF : Hid (freshL ph gs bs x = bs) := if_pos (.inr (.inr (by simpa using hr2)))
        clear hr1 hr2 HWP
        go_enter Try.func24, Try.ntmps24
        go_wp2_with fail
        refine hCp.mono ?_
        rintro e w2 ⟨m2, rfl, hM2, hk2⟩
        obtain ⟨gv2, bv2, rfl, ho1, ho2, ho3⟩ := hM2
        obtain ⟨ga2, gc2, rfl, _⟩ := ho1.ints
        obtain ⟨ba2, bc2, rfl, _⟩ := ho2.ints
        have ka : Kept w2 (w2.alloc (.cells #[.int .i64 ph, .slice ga2 gs.length gc2, .slice ba2 bs.length bc2, .int .i64 at'] 32)) := Kept.alloc (Below.refl _ _) _
        have x5 := Cells.new w2 32 #[.int .i64 ph, .slice ga2 gs.length gc2, .slice ba2 bs.length bc2, .int .i64 at']
        obtain ⟨WX, hWX⟩ : ∃ WX, w2.alloc (.cells #[.int .i64 ph, .slice ga2 gs.length gc2, .slice ba2 bs.length bc2, .int .i64 at'] 32) = WX := ⟨_, rfl⟩
        have y0 := (b0.kept hk2).kept ka
        have z0 := (b1.kept hk2).kept ka
        have M0 : MkO WX (w.heap.size + 2) (.agg #[.int .i64 ph, .slice ga2 gs.length gc2, .slice ba2 bs.length bc2, .int .i64 at']) ph gs bs at' := by
          have h0 : MkO w2 _ (.agg #[.int .i64 ph, .slice ga2 gs.length gc2, .slice ba2 bs.length bc2, .int .i64 at']) ph gs bs at' := ⟨_, _, rfl, ho1, ho2, ho3⟩
          have h1 := h0.kept ka
          rw [hWX] at h1
          simpa using h1
        have K0 := (k0.trans hk2).trans ka
        have hlg2 : ∀ j, (Value.slice ga2 gs.length gc2).ownBlock = some j → j < w2.heap.size := fun j hj => (ho1.2.lt j hj).2
        have hs2 := hk2.size
        simp only [World.size_alloc] at hs2
        rw [hWX] at x5 y0 z0 K0
        obtain ⟨B5, hB5⟩ : ∃ B5, w2.heap.size = B5 := ⟨_, rfl⟩
        rw [hB5] at x5 hlg2 hs2
        have HX5 : Hid (∀ u, Kept WX u → Cells u B5 32 #[.int .i64 ph, .slice ga2 gs.length gc2, .slice ba2 bs.length bc2, .int .i64 at']) := fun u hu => x5.kept hu
        have HY0 : Hid (∀ u, Kept WX u → Cells u w.heap.size 32 #[.int .i64 ph, .slice ga gs.length gc, .slice ba bs.length bc, .int .i64 at']) := fun u hu => y0.kept hu
        have HZ0 : Hid (∀ u, Kept WX u → Cells u (w.heap.size + 1) 32 #[.int .i64 0, .slice none 0 0, .slice none 0 0, .int .i64 0]) := fun u hu => z0.kept hu
        have HM0 : Hid (∀ u, Kept WX u → MkO u (w.heap.size + 2) (.agg #[.int .i64 ph, .slice ga2 gs.length gc2, .slice ba2 bs.length bc2, .int .i64 at']) ph gs bs at') := fun u hu => M0.kept hu
        have HKX : Hid (∀ u, Kept WX u → Kept w u) := fun u hu => K0.trans hu
        have Hlg : Hid _ := hlg2
        have HWX : Hid _ := hWX
        have HB5 : Hid _ := hB5
        clear ho1 ho2 ho3 ka hCp x5 y0 z0 M0 K0 hlg2
        have kk : Kept WX WX := Below.refl _ WX
        have y0 := HY0.out WX kk
        have y0c0 := y0.cell 0
        have y0c1 := y0.cell 1
        have y0c2 := y0.cell 2
        have y0c3 := y0.cell 3
        have x0 := HX5.out WX kk
        have x0c0 := x0.cell 0
        have x0c1 := x0.cell 1
        have x0c2 := x0.cell 2
        have x0c3 := x0.cell 3
        have z0 := HZ0.out WX kk
        have z0c0 := z0.cell 0
        have z0c1 := z0.cell 1
        have z0c2 := z0.cell 2
        have z0c3 := z0.cell 3
        have z0f0 := z0.frozen 0
        have z0f1 := z0.frozen 1
        have z0f2 := z0.frozen 2
        have z0f3 := z0.frozen 3
        go_wp2_with fail
        refine (HIG.out _ (HKX.out _ kk)).mono ?_
        rintro e w3 ⟨rfl, k3⟩
        clear y0c0 y0c1 y0c2 y0c3 x0c0 x0c1 x0c2 x0c3 z0c0 z0c1 z0c2 z0c3 z0f0 z0f1 z0f2 z0f3
        have y3 := HY0.out w3 k3
        have y3c0 := y3.cell 0
        have y3c1 := y3.cell 1
        have y3c2 := y3.cell 2
        have y3c3 := y3.cell 3
        have x3 := HX5.out w3 k3
        have x3c0 := x3.cell 0
        have x3c1 := x3.cell 1
        have x3c2 := x3.cell 2
        have x3c3 := x3.cell 3
        have z3 := HZ0.out w3 k3
        have z3c0 := z3.cell 0
        have z3c1 := z3.cell 1
        have z3c2 := z3.cell 2
        have z3c3 := z3.cell 3
        have z3f0 := z3.frozen 0
        have z3f1 := z3.frozen 1
        have z3f2 := z3.frozen 2
        have z3f3 := z3.frozen 3
        go_wp2_with fail
        refine (HIB.out _ (HKX.out _ k3)).mono ?_
        rintro e w4 ⟨rfl, k34⟩
        have k4 : Kept WX w4 := k3.trans k34
        clear y3c0 y3c1 y3c2 y3c3 x3c0 x3c1 x3c2 x3c3 z3c0 z3c1 z3c2 z3c3 z3f0 z3f1 z3f2 z3f3
        have y4 := HY0.out w4 k4
        have y4c0 := y4.cell 0
        have y4c1 := y4.cell 1
        have y4c2 := y4.cell 2
        have y4c3 := y4.cell 3
        have x4 := HX5.out w4 k4
        have x4c0 := x4.cell 0
        have x4c1 := x4.cell 1
        have x4c2 := x4.cell 2
        have x4c3 := x4.cell 3
        have z4 := HZ0.out w4 k4
        have z4c0 := z4.cell 0
        have z4c1 := z4.cell 1
        have z4c2 := z4.cell 2
        have z4c3 := z4.cell 3
        have z4f0 := z4.frozen 0
        have z4f1 := z4.frozen 1
        have z4f2 := z4.frozen 2
        have z4f3 := z4.frozen 3
        go_wp2_with fail
        have q := z4.four (.int .i64 ph) (.slice ga2 gs.length gc2) (.slice ba2 bs.length bc2) (.int .i64 at')
        have q0 := q.cell 0
        have q1 := q.cell 1
        have q2 := q.cell 2
        have q3 := q.cell 3
        refine bodyPost_ret (v := .agg #[.int .i64 ph, .slice ga2 gs.length gc2, .slice ba2 bs.length bc2, .int .i64 at']) (by simp [results, Try.results24, go_sem, q0, q1, q2, q3]) rfl ⟨_, rfl, ?_, ?_⟩
        · rw [HF.out]
          exact MkO.base (((((HM0.out w4 k4).far (p := ⟨w.heap.size + 1, 0, none⟩) (by simp)).far (p := ⟨w.heap.size + 1, 1, none⟩) (by simp)).far (p := ⟨w.heap.size + 1, 2, none⟩) (by simp)).far (p := ⟨w.heap.size + 1, 3, none⟩) (by simp)) (by omega)
        · exact ((((HKX.out w4 k4).set (p := ⟨w.heap.size + 1, 0, none⟩) (by simp) _).set (p := ⟨w.heap.size + 1, 1, none⟩) (by simp) _).set (p := ⟨w.heap.size + 1, 2, none⟩) (by simp) _).set (p := ⟨w.heap.size + 1, 3, none⟩) (by simp) _
      | false =>
        have hxn : x ∉ bs := by simpa using hr2
        have HWP2 : Hid _ := HWP.out hxn
        have HF : Hid (freshL ph gs bs x = insL x bs) := if_neg (by rintro (h | h | h); exact hp h; simp [h] at hr1; simp [h] at hr2)
        clear hr1 hr2 HWP hxn
        go_enter Try.func24, Try.ntmps24
        go_wp2_with fail
        refine hCp.mono ?_
        rintro e w2 ⟨m2, rfl, hM2, hk2⟩
        obtain ⟨gv2, bv2, rfl, ho1, ho2, ho3⟩ := hM2
        obtain ⟨ga2, gc2, rfl, _⟩ := ho1.ints
        obtain ⟨ba2, bc2, rfl, _⟩ := ho2.ints
        have ka : Kept w2 (w2.alloc (.cells #[.int .i64 ph, .slice ga2 gs.length gc2, .slice ba2 bs.length bc2, .int .i64 at'] 32)) := Kept.alloc (Below.refl _ _) _
        have x5 := Cells.new w2 32 #[.int .i64 ph, .slice ga2 gs.length gc2, .slice ba2 bs.length bc2, .int .i64 at']
        obtain ⟨WX, hWX⟩ : ∃ WX, w2.alloc (.cells #[.int .i64 ph, .slice ga2 gs.length gc2, .slice ba2 bs.length bc2, .int .i64 at'] 32) = WX := ⟨_, rfl⟩
        have y0 := (b0.kept hk2).kept ka
        have z0 := (b1.kept hk2).kept ka
        have M0 : MkO WX (w.heap.size + 2) (.agg #[.int .i64 ph, .slice ga2 gs.length gc2, .slice ba2 bs.length bc2, .int .i64 at']) ph gs bs at' := by
          have h0 : MkO w2 _ (.agg #[.int .i64 ph, .slice ga2 gs.length gc2, .slice ba2 bs.length bc2, .int .i64 at']) ph gs bs at' := ⟨_, _, rfl, ho1, ho2, ho3⟩
          have h1 := h0.kept ka
          rw [hWX] at h1
          simpa using h1
        have K0 := (k0.trans hk2).trans ka
        have hlg2 : ∀ j, (Value.slice ga2 gs.length gc2).ownBlock = some j → j < w2.heap.size := fun j hj => (ho1.2.lt j hj).2
        have hs2 := hk2.size
        simp only [World.size_alloc] at hs2
        rw [hWX] at x5 y0 z0 K0
        obtain ⟨B5, hB5⟩ : ∃ B5, w2.heap.size = B5 := ⟨_, rfl⟩
        rw [hB5] at x5 hlg2 hs2
        have HX5 : Hid (∀ u, Kept WX u → Cells u B5 32 #[.int .i64 ph, .slice ga2 gs.length gc2, .slice ba2 bs.length bc2, .int .i64 at']) := fun u hu => x5.kept hu
        have HY0 : Hid (∀ u, Kept WX u → Cells u w.heap.size 32 #[.int .i64 ph, .slice ga gs.length gc, .slice ba bs.length bc, .int .i64 at']) := fun u hu => y0.kept hu
        have HZ0 : Hid (∀ u, Kept WX u → Cells u (w.heap.size + 1) 32 #[.int .i64 0, .slice none 0 0, .slice none 0 0, .int .i64 0]) := fun u hu => z0.kept hu
        have HM0 : Hid (∀ u, Kept WX u → MkO u (w.heap.size + 2) (.agg #[.int .i64 ph, .slice ga2 gs.length gc2, .slice ba2 bs.length bc2, .int .i64 at']) ph gs bs at') := fun u hu => M0.kept hu
        have HKX : Hid (∀ u, Kept WX u → Kept w u) := fun u hu => K0.trans hu
        have Hlg : Hid _ := hlg2
        have HWX : Hid _ := hWX
        have HB5 : Hid _ := hB5
        clear ho1 ho2 ho3 ka hCp x5 y0 z0 M0 K0 hlg2
        have kk : Kept WX WX := Below.refl _ WX
        have y0 := HY0.out WX kk
        have y0c0 := y0.cell 0
        have y0c1 := y0.cell 1
        have y0c2 := y0.cell 2
        have y0c3 := y0.cell 3
        have x0 := HX5.out WX kk
        have x0c0 := x0.cell 0
        have x0c1 := x0.cell 1
        have x0c2 := x0.cell 2
        have x0c3 := x0.cell 3
        have z0 := HZ0.out WX kk
        have z0c0 := z0.cell 0
        have z0c1 := z0.cell 1
        have z0c2 := z0.cell 2
        have z0c3 := z0.cell 3
        have z0f0 := z0.frozen 0
        have z0f1 := z0.frozen 1
        have z0f2 := z0.frozen 2
        have z0f3 := z0.frozen 3
        go_wp2_with fail
        refine (HIG.out _ (HKX.out _ kk)).mono ?_
        rintro e w3 ⟨rfl, k3⟩
        clear y0c0 y0c1 y0c2 y0c3 x0c0 x0c1 x0c2 x0c3 z0c0 z0c1 z0c2 z0c3 z0f0 z0f1 z0f2 z0f3
        have y3 := HY0.out w3 k3
        have y3c0 := y3.cell 0
        have y3c1 := y3.cell 1
        have y3c2 := y3.cell 2
        have y3c3 := y3.cell 3
        have x3 := HX5.out w3 k3
        have x3c0 := x3.cell 0
        have x3c1 := x3.cell 1
        have x3c2 := x3.cell 2
        have x3c3 := x3.cell 3
        have z3 := HZ0.out w3 k3
        have z3c0 := z3.cell 0
        have z3c1 := z3.cell 1
        have z3c2 := z3.cell 2
        have z3c3 := z3.cell 3
        have z3f0 := z3.frozen 0
        have z3f1 := z3.frozen 1
        have z3f2 := z3.frozen 2
        have z3f3 := z3.frozen 3
        go_wp2_with fail
        refine (HIB.out _ (HKX.out _ k3)).mono ?_
        rintro e w4 ⟨rfl, k34⟩
        have k4 : Kept WX w4 := k3.trans k34
        clear y3c0 y3c1 y3c2 y3c3 x3c0 x3c1 x3c2 x3c3 z3c0 z3c1 z3c2 z3c3 z3f0 z3f1 z3f2 z3f3
        have y4 := HY0.out w4 k4
        have y4c0 := y4.cell 0
        have y4c1 := y4.cell 1
        have y4c2 := y4.cell 2
        have y4c3 := y4.cell 3
        have x4 := HX5.out w4 k4
        have x4c0 := x4.cell 0
        have x4c1 := x4.cell 1
        have x4c2 := x4.cell 2
        have x4c3 := x4.cell 3
        have z4 := HZ0.out w4 k4
        have z4c0 := z4.cell 0
        have z4c1 := z4.cell 1
        have z4c2 := z4.cell 2
        have z4c3 := z4.cell 3
        have z4f0 := z4.frozen 0
        have z4f1 := z4.frozen 1
        have z4f2 := z4.frozen 2
        have z4f3 := z4.frozen 3
        go_wp2_with fail
        refine (HWP2.out _ (HKX.out _ k4)).mono ?_
        rintro e w6 ⟨v6, rfl, ho6, hk6⟩
        obtain ⟨va, vc, rfl, _⟩ := ho6.ints
        have k6 : Kept WX w6 := k4.trans hk6
        clear y4c0 y4c1 y4c2 y4c3 x4c0 x4c1 x4c2 x4c3 z4c0 z4c1 z4c2 z4c3 z4f0 z4f1 z4f2 z4f3
        have hil := insL_len x bs
        have Hil : Hid _ := hil
        have x6 := HX5.out w6 k6
        have z6 := HZ0.out w6 k6
        have p2 := x6.cell 2
        have pf := x6.frozen 2
        have X7 := x6.set 2 (.slice va (insL x bs).length vc)
        have Z7 := z6.other (p := ⟨B5, 2, none⟩) (by simp; omega) (.slice va (insL x bs).length vc)
        have n0 := X7.cell 0
        have n1 := X7.cell 1
        have n2 := X7.cell 2
        have n3 := X7.cell 3
        have g0 := Z7.cell 0
        have g1 := Z7.cell 1
        have g2 := Z7.cell 2
        have g3 := Z7.cell 3
        have h0 := Z7.frozen 0
        have h1 := Z7.frozen 1
        have h2 := Z7.frozen 2
        have h3 := Z7.frozen 3
        have q := Z7.four (.int .i64 ph) (.slice ga2 gs.length gc2) (.slice va (insL x bs).length vc) (.int .i64 at')
        have q0 := q.cell 0
        have q1 := q.cell 1
        have q2 := q.cell 2
        have q3 := q.cell 3
        have hb6 := ho6.2.lt
        have s4 := k4.size
        have Hs4 : Hid _ := s4
        clear hil s4
        go_wp2_with fail
        refine bodyPost_ret (v := .agg #[.int .i64 ph, .slice ga2 gs.length gc2, .slice va (insL x bs).length vc, .int .i64 at']) (by simp [results, Try.results24, go_sem, q0, q1, q2, q3]) rfl ⟨_, rfl, ?_, ?_⟩
        · rw [HF.out]
          have hw : WX.heap.size = B5 + 1 := by rw [← HWX.out, ← HB5.out]; simp
          have hs4 := Hs4.out
          obtain ⟨gvv, bvv, ev, hog, hob, _⟩ := HM0.out w6 k6
          cases ev
          have M6 : MkO (w6.setCell ⟨B5, 2, none⟩ (.slice va (insL x bs).length vc)) (w.heap.size + 2) (.agg #[.int .i64 ph, .slice ga2 gs.length gc2, .slice va (insL x bs).length vc, .int .i64 at']) ph gs (insL x bs) at' := by
            refine ⟨_, _, rfl, OwnL.far (p := ⟨B5, 2, none⟩) hog (fun j hj => ?_), OwnL.far (p := ⟨B5, 2, none⟩) ⟨ho6.1, ownsRow_base ho6.2 (by omega)⟩ (fun j hj => ?_), fun j hj hj2 => ?_⟩
            · have := Hlg.out j hj
              show j ≠ B5
              omega
            · have := (hb6 j hj).1
              show j ≠ B5
              omega
            · have := Hlg.out j hj
              have := (hb6 j hj2).1
              omega
          exact MkO.base ((((M6.far (p := ⟨w.heap.size + 1, 0, none⟩) (by simp)).far (p := ⟨w.heap.size + 1, 1, none⟩) (by simp)).far (p := ⟨w.heap.size + 1, 2, none⟩) (by simp)).far (p := ⟨w.heap.size + 1, 3, none⟩) (by simp)) (by omega)
        · have K7 := (HKX.out w6 k6).set (p := ⟨B5, 2, none⟩) (by simp; omega) (.slice va (insL x bs).length vc)
          exact (((K7.set (p := ⟨w.heap.size + 1, 0, none⟩) (by simp) _).set (p := ⟨w.heap.size + 1, 1, none⟩) (by simp) _).set (p := ⟨w.heap.size + 1, 2, none⟩) (by simp) _).set (p := ⟨w.heap.size + 1, 3, none⟩) (by simp) _
end Go.Proofs.Ytjgafhmgmddgdaa
