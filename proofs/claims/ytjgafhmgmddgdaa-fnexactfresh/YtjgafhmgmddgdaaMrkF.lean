/-
  The contract of chapter 8's model Fresh.
-/
import Derived.Test.YtjgafhmgmddgdaaMrkE
namespace Go.Proofs.Ytjgafhmgmddgdaa
open Go.RowKit
attribute [local go_sem] Plain.and7

/-- What Fresh leaves of the black ones. -/
def freshL (ph : Int) (gs bs : List Int) (x : Int) : List Int := if ph = 0 ∨ x ∈ gs ∨ x ∈ bs then bs else insL x bs
set_option maxHeartbeats 16000000 in
set_option maxRecDepth 100000 in
theorem spec_Fresh_ok (w : World) (c1' c2' : Nat) (ph at' x : Int) (ga ba : Option Addr) (gc bc : Nat) (gs bs : List Int) (hg : OwnL w c1' (.slice ga gs.length gc) gs) (hb : OwnL w c2' (.slice ba bs.length bc) bs) (hgl : gs.length ≤ 1048576) (hbl : bs.length ≤ 1048576) (hxb : -9223372036854775808 ≤ x ∧ x ≤ 9223372036854775807) :
    Calls Try.prog 23 #[.agg #[.int .i64 ph, .slice ga gs.length gc, .slice ba bs.length bc, .int .i64 at'], .int .i64 x] w fun e w' => ∃ m, e = .returned m ∧ MkO w' w.heap.size m ph gs (freshL ph gs bs x) at' ∧ Kept w w' := by
  have b0 := (Cells.new w 32 #[.int .i64 ph, .slice ga gs.length gc, .slice ba bs.length bc, .int .i64 at']).alloc (.cells #[.int .i64 0, .slice none 0 0, .slice none 0 0, .int .i64 0] 32)
  have b1 := Cells.new (w.alloc (.cells #[.int .i64 ph, .slice ga gs.length gc, .slice ba bs.length bc, .int .i64 at'] 32)) 32 #[.int .i64 0, .slice none 0 0, .slice none 0 0, .int .i64 0]
  have k0 : Kept w ((w.alloc (.cells #[.int .i64 ph, .slice ga gs.length gc, .slice ba bs.length bc, .int .i64 at'] 32)).alloc (.cells #[.int .i64 0, .slice none 0 0, .slice none 0 0, .int .i64 0] 32)) := (Kept.alloc (Below.refl _ _) _).alloc _
  simp only [World.size_alloc] at b1
  have HG : Hid (∀ u, Kept w u → OwnL u c1' (.slice ga gs.length gc) gs) := fun u hu => OwnL.kept (row := none) hg hu.grown (fun k e => by cases e)
  have HB : Hid (∀ u, Kept w u → OwnL u c2' (.slice ba bs.length bc) bs) := fun u hu => OwnL.kept (row := none) hb hu.grown (fun k e => by cases e)
  have hCp := l8Copy_ok _ c1' c2' ph at' ga ba gc bc gs bs (HG.out _ k0) (HB.out _ k0) hgl hbl
  have HIg : Hid (∀ u, Kept w u → Ints u ga gs) := fun u hu => by obtain ⟨_, _, e, h⟩ := (HG.out u hu).ints; cases e; exact h
  have HIb : Hid (∀ u, Kept w u → Ints u ba bs) := fun u hu => by obtain ⟨_, _, e, h⟩ := (HB.out u hu).ints; cases e; exact h
  clear hg hb
  obtain ⟨r1, hr1⟩ : ∃ r, decide (x ∈ gs) = r := ⟨_, rfl⟩
  obtain ⟨r2, hr2⟩ : ∃ r, decide (x ∈ bs) = r := ⟨_, rfl⟩
  have HIG : Hid (∀ u, Kept w u → Calls Try.prog 31 #[.slice ga gs.length gc, .int .i64 x] u fun e w' => e = .returned (.bool r1) ∧ u = w') := fun u hu => by have := l7In_ok u ga gc gs x (HIg.out u hu) hgl; rw [hr1] at this; exact this
  have HIB : Hid (∀ u, Kept w u → Calls Try.prog 31 #[.slice ba bs.length bc, .int .i64 x] u fun e w' => e = .returned (.bool r2) ∧ u = w') := fun u hu => by have := l7In_ok u ba bc bs x (HIb.out u hu) hbl; rw [hr2] at this; exact this
  by_cases hp : ph = 0
  · have HF : Hid (freshL ph gs bs x = bs) := if_pos (.inl hp)
    subst hp
    clear hr1 hr2
    go_enter Try.func23, Try.ntmps23
    go_wp2_with fail
    refine hCp.mono ?_
    rintro e w2 ⟨m2, rfl, hM2, hk2⟩
    obtain ⟨gv2, bv2, rfl, ho1, ho2, ho3⟩ := hM2
    obtain ⟨ga2, gc2, rfl, _⟩ := ho1.ints
    obtain ⟨ba2, bc2, rfl, _⟩ := ho2.ints
    have ka : Kept w2 (w2.alloc (.cells #[.int .i64 0, .slice ga2 gs.length gc2, .slice ba2 bs.length bc2, .int .i64 at'] 32)) := Kept.alloc (Below.refl _ _) _
    have x5 := Cells.new w2 32 #[.int .i64 0, .slice ga2 gs.length gc2, .slice ba2 bs.length bc2, .int .i64 at']
    obtain ⟨WX, hWX⟩ : ∃ WX, w2.alloc (.cells #[.int .i64 0, .slice ga2 gs.length gc2, .slice ba2 bs.length bc2, .int .i64 at'] 32) = WX := ⟨_, rfl⟩
    have y0 := (b0.kept hk2).kept ka
    have z0 := (b1.kept hk2).kept ka
    have M0 : MkO WX (w.heap.size + 2) (.agg #[.int .i64 0, .slice ga2 gs.length gc2, .slice ba2 bs.length bc2, .int .i64 at']) 0 gs bs at' := by
      have h0 : MkO w2 _ (.agg #[.int .i64 0, .slice ga2 gs.length gc2, .slice ba2 bs.length bc2, .int .i64 at']) 0 gs bs at' := ⟨_, _, rfl, ho1, ho2, ho3⟩
      have h1 := h0.kept ka
      rw [hWX] at h1
      simpa using h1
    have K0 := (k0.trans hk2).trans ka
    have lx := x5.lt
    have hlt2 : ∀ j, (Value.slice ba2 bs.length bc2).ownBlock = some j → j < w2.heap.size := fun j hj => (ho2.2.lt j hj).2
    have hlg2 : ∀ j, (Value.slice ga2 gs.length gc2).ownBlock = some j → j < w2.heap.size := fun j hj => (ho1.2.lt j hj).2
    have hs2 := hk2.size
    simp only [World.size_alloc] at hs2
    rw [hWX] at x5 y0 z0 K0 lx
    obtain ⟨B5, hB5⟩ : ∃ B5, w2.heap.size = B5 := ⟨_, rfl⟩
    rw [hB5] at x5 lx hlt2 hlg2 hs2
    have c0 := y0.cell 0
    have c1 := y0.cell 1
    have c2 := y0.cell 2
    have c3 := y0.cell 3
    have m0 := x5.cell 0
    have m1 := x5.cell 1
    have m2 := x5.cell 2
    have m3 := x5.cell 3
    have d0 := z0.cell 0
    have d1 := z0.cell 1
    have d2 := z0.cell 2
    have d3 := z0.cell 3
    have f0 := z0.frozen 0
    have f1 := z0.frozen 1
    have f2 := z0.frozen 2
    have f3 := z0.frozen 3
    have HX5 : Hid _ := hWX
    have HB5 : Hid _ := hB5
    clear ho1 ho2 ho3 ka hCp
    go_wp2_with fail
    have q := z0.four (.int .i64 0) (.slice ga2 gs.length gc2) (.slice ba2 bs.length bc2) (.int .i64 at')
    have q0 := q.cell 0
    have q1 := q.cell 1
    have q2 := q.cell 2
    have q3 := q.cell 3
    refine bodyPost_ret (v := .agg #[.int .i64 0, .slice ga2 gs.length gc2, .slice ba2 bs.length bc2, .int .i64 at']) (by simp [results, Try.results23, go_sem, q0, q1, q2, q3]) rfl ⟨_, rfl, ?_, ?_⟩
    · rw [HF.out]
      exact MkO.base ((((M0.far (p := ⟨w.heap.size + 1, 0, none⟩) (by simp)).far (p := ⟨w.heap.size + 1, 1, none⟩) (by simp)).far (p := ⟨w.heap.size + 1, 2, none⟩) (by simp)).far (p := ⟨w.heap.size + 1, 3, none⟩) (by simp)) (by omega)
    · exact (((K0.set (p := ⟨w.heap.size + 1, 0, none⟩) (by simp) _).set (p := ⟨w.heap.size + 1, 1, none⟩) (by simp) _).set (p := ⟨w.heap.size + 1, 2, none⟩) (by simp) _).set (p := ⟨w.heap.size + 1, 3, none⟩) (by simp) _
  · have e1 : (ph == 0) = false := by simpa using hp
    cases r1 with
    | true =>
      have HF : Hid (freshL ph gs bs x = bs) := if_pos (.inr (.inl (by simpa using hr1)))
      clear hr1 hr2 hp HIB
      go_enter Try.func23, Try.ntmps23
      go_wp2_with fail
      refine hCp.mono ?_
      rintro e w2 ⟨m2, rfl, hM2, hk2⟩
      obtain ⟨gv2, bv2, rfl, ho1, ho2, ho3⟩ := hM2
      obtain ⟨ga2, gc2, rfl, _⟩ := ho1.ints
      obtain ⟨ba2, bc2, rfl, _⟩ := ho2.ints
      have ka : Kept w2 (w2.alloc (.cells #[.int .i64 ph, .slice ga2 gs.length gc2, .slice ba2 bs.length bc2, .int .i64 at'] 32)) := Kept.alloc (Below.refl _ _) _
      have x5 := Cells.new w2 32 #[.int .i64 ph, .slice ga2 gs.length gc2, .slice ba2 bs.length bc2, .int .i64 at']
      obtain ⟨WX, hWX⟩ : ∃ WX, w2.alloc (.cells #[.int .i64 ph, .slice ga2 gs.length gc2, .slice ba2 bs.length bc2, .int .i64 at'] 32) = WX := ⟨_, rfl⟩
      have y0 := (b0.kept hk2).kept ka
      have z0 := (b1.kept hk2).kept ka
      have M0 : MkO WX (w.heap.size + 2) (.agg #[.int .i64 ph, .slice ga2 gs.length gc2, .slice ba2 bs.length bc2, .int .i64 at']) ph gs bs at' := by
        have h0 : MkO w2 _ (.agg #[.int .i64 ph, .slice ga2 gs.length gc2, .slice ba2 bs.length bc2, .int .i64 at']) ph gs bs at' := ⟨_, _, rfl, ho1, ho2, ho3⟩
        have h1 := h0.kept ka
        rw [hWX] at h1
        simpa using h1
      have K0 := (k0.trans hk2).trans ka
      have lx := x5.lt
      have hlt2 : ∀ j, (Value.slice ba2 bs.length bc2).ownBlock = some j → j < w2.heap.size := fun j hj => (ho2.2.lt j hj).2
      have hlg2 : ∀ j, (Value.slice ga2 gs.length gc2).ownBlock = some j → j < w2.heap.size := fun j hj => (ho1.2.lt j hj).2
      have hs2 := hk2.size
      simp only [World.size_alloc] at hs2
      rw [hWX] at x5 y0 z0 K0 lx
      obtain ⟨B5, hB5⟩ : ∃ B5, w2.heap.size = B5 := ⟨_, rfl⟩
      rw [hB5] at x5 lx hlt2 hlg2 hs2
      have c0 := y0.cell 0
      have c1 := y0.cell 1
      have c2 := y0.cell 2
      have c3 := y0.cell 3
      have m0 := x5.cell 0
      have m1 := x5.cell 1
      have m2 := x5.cell 2
      have m3 := x5.cell 3
      have d0 := z0.cell 0
      have d1 := z0.cell 1
      have d2 := z0.cell 2
      have d3 := z0.cell 3
      have f0 := z0.frozen 0
      have f1 := z0.frozen 1
      have f2 := z0.frozen 2
      have f3 := z0.frozen 3
      have HX5 : Hid _ := hWX
      have HB5 : Hid _ := hB5
      clear ho1 ho2 ho3 ka hCp
      go_wp2_with fail
      refine (HIG.out _ K0).mono ?_
      rintro e wx ⟨rfl, rfl⟩
      go_wp2_with fail
      have q := z0.four (.int .i64 ph) (.slice ga2 gs.length gc2) (.slice ba2 bs.length bc2) (.int .i64 at')
      have q0 := q.cell 0
      have q1 := q.cell 1
      have q2 := q.cell 2
      have q3 := q.cell 3
      refine bodyPost_ret (v := .agg #[.int .i64 ph, .slice ga2 gs.length gc2, .slice ba2 bs.length bc2, .int .i64 at']) (by simp [results, Try.results23, go_sem, q0, q1, q2, q3]) rfl ⟨_, rfl, ?_, ?_⟩
      · rw [HF.out]
        exact MkO.base ((((M0.far (p := ⟨w.heap.size + 1, 0, none⟩) (by simp)).far (p := ⟨w.heap.size + 1, 1, none⟩) (by simp)).far (p := ⟨w.heap.size + 1, 2, none⟩) (by simp)).far (p := ⟨w.heap.size + 1, 3, none⟩) (by simp)) (by omega)
      · exact (((K0.set (p := ⟨w.heap.size + 1, 0, none⟩) (by simp) _).set (p := ⟨w.heap.size + 1, 1, none⟩) (by simp) _).set (p := ⟨w.heap.size + 1, 2, none⟩) (by simp) _).set (p := ⟨w.heap.size + 1, 3, none⟩) (by simp) _
    | false =>
      cases r2 with
      | true =>
        have HF : Hid (freshL ph gs bs x = bs) := if_pos (.inr (.inr (by simpa using hr2)))
        clear hr1 hr2 hp
        go_enter Try.func23, Try.ntmps23
        go_wp2_with fail
        refine hCp.mono ?_
        rintro e w2 ⟨m2, rfl, hM2, hk2⟩
        obtain ⟨gv2, bv2, rfl, ho1, ho2, ho3⟩ := hM2
        obtain ⟨ga2, gc2, rfl, _⟩ := ho1.ints
        obtain ⟨ba2, bc2, rfl, _⟩ := ho2.ints
        have ka : Kept w2 (w2.alloc (.cells #[.int .i64 ph, .slice ga2 gs.length gc2, .slice ba2 bs.length bc2, .int .i64 at'] 32)) := Kept.alloc (Below.refl _ _) _
        have x5 := Cells.new w2 32 #[.int .i64 ph, .slice ga2 gs.length gc2, .slice ba2 bs.length bc2, .int .i64 at']
        obtain ⟨WX, hWX⟩ : ∃ WX, w2.alloc (.cells #[.int .i64 ph, .slice ga2 gs.length gc2, .slice ba2 bs.length bc2, .int .i64 at'] 32) = WX := ⟨_, rfl⟩
        have y0 := (b0.kept hk2).kept ka
        have z0 := (b1.kept hk2).kept ka
        have M0 : MkO WX (w.heap.size + 2) (.agg #[.int .i64 ph, .slice ga2 gs.length gc2, .slice ba2 bs.length bc2, .int .i64 at']) ph gs bs at' := by
          have h0 : MkO w2 _ (.agg #[.int .i64 ph, .slice ga2 gs.length gc2, .slice ba2 bs.length bc2, .int .i64 at']) ph gs bs at' := ⟨_, _, rfl, ho1, ho2, ho3⟩
          have h1 := h0.kept ka
          rw [hWX] at h1
          simpa using h1
        have K0 := (k0.trans hk2).trans ka
        have lx := x5.lt
        have hlt2 : ∀ j, (Value.slice ba2 bs.length bc2).ownBlock = some j → j < w2.heap.size := fun j hj => (ho2.2.lt j hj).2
        have hlg2 : ∀ j, (Value.slice ga2 gs.length gc2).ownBlock = some j → j < w2.heap.size := fun j hj => (ho1.2.lt j hj).2
        have hs2 := hk2.size
        simp only [World.size_alloc] at hs2
        rw [hWX] at x5 y0 z0 K0 lx
        obtain ⟨B5, hB5⟩ : ∃ B5, w2.heap.size = B5 := ⟨_, rfl⟩
        rw [hB5] at x5 lx hlt2 hlg2 hs2
        have c0 := y0.cell 0
        have c1 := y0.cell 1
        have c2 := y0.cell 2
        have c3 := y0.cell 3
        have m0 := x5.cell 0
        have m1 := x5.cell 1
        have m2 := x5.cell 2
        have m3 := x5.cell 3
        have d0 := z0.cell 0
        have d1 := z0.cell 1
        have d2 := z0.cell 2
        have d3 := z0.cell 3
        have f0 := z0.frozen 0
        have f1 := z0.frozen 1
        have f2 := z0.frozen 2
        have f3 := z0.frozen 3
        have HX5 : Hid _ := hWX
        have HB5 : Hid _ := hB5
        clear ho1 ho2 ho3 ka hCp
        go_wp2_with fail
        refine (HIG.out _ K0).mono ?_
        rintro e wx ⟨rfl, rfl⟩
        go_wp2_with fail
        refine (HIB.out _ K0).mono ?_
        rintro e wx ⟨rfl, rfl⟩
        go_wp2_with fail
        have q := z0.four (.int .i64 ph) (.slice ga2 gs.length gc2) (.slice ba2 bs.length bc2) (.int .i64 at')
        have q0 := q.cell 0
        have q1 := q.cell 1
        have q2 := q.cell 2
        have q3 := q.cell 3
        refine bodyPost_ret (v := .agg #[.int .i64 ph, .slice ga2 gs.length gc2, .slice ba2 bs.length bc2, .int .i64 at']) (by simp [results, Try.results23, go_sem, q0, q1, q2, q3]) rfl ⟨_, rfl, ?_, ?_⟩
        · rw [HF.out]
          exact MkO.base ((((M0.far (p := ⟨w.heap.size + 1, 0, none⟩) (by simp)).far (p := ⟨w.heap.size + 1, 1, none⟩) (by simp)).far (p := ⟨w.heap.size + 1, 2, none⟩) (by simp)).far (p := ⟨w.heap.size + 1, 3, none⟩) (by simp)) (by omega)
        · exact (((K0.set (p := ⟨w.heap.size + 1, 0, none⟩) (by simp) _).set (p := ⟨w.heap.size + 1, 1, none⟩) (by simp) _).set (p := ⟨w.heap.size + 1, 2, none⟩) (by simp) _).set (p := ⟨w.heap.size + 1, 3, none⟩) (by simp) _
      | false =>
        have HF : Hid (freshL ph gs bs x = insL x bs) := if_neg (by rintro (h | h | h); exact hp h; simp [h] at hr1; simp [h] at hr2)
        clear hr1 hr2 hp
        go_enter Try.func23, Try.ntmps23
        go_wp2_with fail
        refine hCp.mono ?_
        rintro e w2 ⟨m2, rfl, hM2, hk2⟩
        obtain ⟨gv2, bv2, rfl, ho1, ho2, ho3⟩ := hM2
        obtain ⟨ga2, gc2, rfl, _⟩ := ho1.ints
        obtain ⟨ba2, bc2, rfl, _⟩ := ho2.ints
        have ka : Kept w2 (w2.alloc (.cells #[.int .i64 ph, .slice ga2 gs.length gc2, .slice ba2 bs.length bc2, .int .i64 at'] 32)) := Kept.alloc (Below.refl _ _) _
        have x5 := Cells.new w2 32 #[.int .i64 ph, .slice ga2 gs.length gc2, .slice ba2 bs.length bc2, .int .i64 at']
        obtain ⟨WX, hWX⟩ : ∃ WX, w2.alloc (.cells #[.int .i64 ph, .slice ga2 gs.length gc2, .slice ba2 bs.length bc2, .int .i64 at'] 32) = WX := ⟨_, rfl⟩
        have y0 := (b0.kept hk2).kept ka
        have z0 := (b1.kept hk2).kept ka
        have M0 : MkO WX (w.heap.size + 2) (.agg #[.int .i64 ph, .slice ga2 gs.length gc2, .slice ba2 bs.length bc2, .int .i64 at']) ph gs bs at' := by
          have h0 : MkO w2 _ (.agg #[.int .i64 ph, .slice ga2 gs.length gc2, .slice ba2 bs.length bc2, .int .i64 at']) ph gs bs at' := ⟨_, _, rfl, ho1, ho2, ho3⟩
          have h1 := h0.kept ka
          rw [hWX] at h1
          simpa using h1
        have K0 := (k0.trans hk2).trans ka
        have lx := x5.lt
        have hlt2 : ∀ j, (Value.slice ba2 bs.length bc2).ownBlock = some j → j < w2.heap.size := fun j hj => (ho2.2.lt j hj).2
        have hlg2 : ∀ j, (Value.slice ga2 gs.length gc2).ownBlock = some j → j < w2.heap.size := fun j hj => (ho1.2.lt j hj).2
        have hs2 := hk2.size
        simp only [World.size_alloc] at hs2
        rw [hWX] at x5 y0 z0 K0 lx
        obtain ⟨B5, hB5⟩ : ∃ B5, w2.heap.size = B5 := ⟨_, rfl⟩
        rw [hB5] at x5 lx hlt2 hlg2 hs2
        have c0 := y0.cell 0
        have c1 := y0.cell 1
        have c2 := y0.cell 2
        have c3 := y0.cell 3
        have m0 := x5.cell 0
        have m1 := x5.cell 1
        have m2 := x5.cell 2
        have m3 := x5.cell 3
        have d0 := z0.cell 0
        have d1 := z0.cell 1
        have d2 := z0.cell 2
        have d3 := z0.cell 3
        have f0 := z0.frozen 0
        have f1 := z0.frozen 1
        have f2 := z0.frozen 2
        have f3 := z0.frozen 3
        have HX5 : Hid _ := hWX
        have HB5 : Hid _ := hB5
        clear ho1 ho2 ho3 ka hCp
        go_wp2_with fail
        refine (HIG.out _ K0).mono ?_
        rintro e wx ⟨rfl, rfl⟩
        go_wp2_with fail
        refine (HIB.out _ K0).mono ?_
        rintro e wx ⟨rfl, rfl⟩
        obtain ⟨gvv, bvv, ev, hog, hob, _⟩ := M0
        cases ev
        have hIn := l8Insert_ok WX _ _ bs x hob hbl hxb
        go_wp2_with fail
        refine hIn.mono ?_
        rintro e w6 ⟨v6, rfl, ho6, hk6⟩
        obtain ⟨va, vc, rfl, _⟩ := ho6.ints
        have hil := insL_len x bs
        have X6 := x5.kept hk6
        have Z6 := z0.kept hk6
        have O6 := OwnL.kept (row := none) hog hk6.grown (fun k e => by cases e)
        have K6 := K0.trans hk6
        have p2 := X6.cell 2
        have pf := X6.frozen 2
        have X7 := X6.set 2 (.slice va (insL x bs).length vc)
        have Z7 := Z6.other (p := ⟨B5, 2, none⟩) (by simp; omega) (.slice va (insL x bs).length vc)
        have n0 := X7.cell 0
        have n1 := X7.cell 1
        have n2 := X7.cell 2
        have n3 := X7.cell 3
        have e0 := Z7.cell 0
        have e1' := Z7.cell 1
        have e2 := Z7.cell 2
        have e3 := Z7.cell 3
        have h0 := Z7.frozen 0
        have h1 := Z7.frozen 1
        have h2 := Z7.frozen 2
        have h3 := Z7.frozen 3
        have q := Z7.four (.int .i64 ph) (.slice ga2 gs.length gc2) (.slice va (insL x bs).length vc) (.int .i64 at')
        have q0 := q.cell 0
        have q1 := q.cell 1
        have q2 := q.cell 2
        have q3 := q.cell 3
        have hb6 := ho6.2.lt
        have hwx : WX.heap.size = B5 + 1 := by rw [← HX5.out, ← HB5.out]; simp
        have Hil : Hid _ := hil
        clear hil hIn c0 c1 c2 c3 m0 m1 m2 m3 d0 d1 d2 d3 f0 f1 f2 f3
        have Hwx : Hid _ := hwx
        clear hwx
        go_wp2_with fail
        refine bodyPost_ret (v := .agg #[.int .i64 ph, .slice ga2 gs.length gc2, .slice va (insL x bs).length vc, .int .i64 at']) (by simp [results, Try.results23, go_sem, q0, q1, q2, q3]) rfl ⟨_, rfl, ?_, ?_⟩
        · rw [HF.out]
          have hw := Hwx.out
          have M6 : MkO (w6.setCell ⟨B5, 2, none⟩ (.slice va (insL x bs).length vc)) (w.heap.size + 2) (.agg #[.int .i64 ph, .slice ga2 gs.length gc2, .slice va (insL x bs).length vc, .int .i64 at']) ph gs (insL x bs) at' := by
            refine ⟨_, _, rfl, OwnL.far (p := ⟨B5, 2, none⟩) O6 (fun j hj => ?_), OwnL.far (p := ⟨B5, 2, none⟩) ⟨ho6.1, ownsRow_base ho6.2 (by omega)⟩ (fun j hj => ?_), fun j hj hj2 => ?_⟩
            · have := hlg2 j hj
              show j ≠ B5
              omega
            · have := (hb6 j hj).1
              show j ≠ B5
              omega
            · have := hlg2 j hj
              have := (hb6 j hj2).1
              omega
          exact MkO.base ((((M6.far (p := ⟨w.heap.size + 1, 0, none⟩) (by simp)).far (p := ⟨w.heap.size + 1, 1, none⟩) (by simp)).far (p := ⟨w.heap.size + 1, 2, none⟩) (by simp)).far (p := ⟨w.heap.size + 1, 3, none⟩) (by simp)) (by omega)
        · have K7 := K6.set (p := ⟨B5, 2, none⟩) (by simp; omega) (.slice va (insL x bs).length vc)
          exact (((K7.set (p := ⟨w.heap.size + 1, 0, none⟩) (by simp) _).set (p := ⟨w.heap.size + 1, 1, none⟩) (by simp) _).set (p := ⟨w.heap.size + 1, 2, none⟩) (by simp) _).set (p := ⟨w.heap.size + 1, 3, none⟩) (by simp) _
end Go.Proofs.Ytjgafhmgmddgdaa
