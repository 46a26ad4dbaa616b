/-
  What the laws do with machines: copies told with their cells (chapter 17).
-/
import Derived.Test.YtgempjjnfpmndaaGreatDoorZMwkB
import Derived.Test.YtgempjjnfpmndaaGreatDoorHelpY
namespace Go.Proofs.YtgempjjnfpmndaaGreatDoor
open Go.ChangeShapes Go.WideShapes Go.ChangeAt Go.RowKit
set_option linter.unusedSimpArgs false
set_option linter.unusedVariables false
theorem RowT.on {W W' : World} {g : Nat} {ts : List ByteArray} {k : Nat} (h : RowT W g ts k) (hk : Kept W W') : RowT W' g ts k := by
  obtain ⟨cs, h1, h2, h3⟩ := h
  exact ⟨cs, h1.kept hk, h2, h3⟩
theorem RowT.other {W : World} {x g k : Nat} {ts : List ByteArray} {n : Nat} {v : Value} (h : RowT W x ts n) (hx : g ≠ x) : RowT (W.setCell ⟨g, k, none⟩ v) x ts n := by
  obtain ⟨cs, h1, h2, h3⟩ := h
  exact ⟨cs, h1.other (p := ⟨g, k, none⟩) (by show x ≠ g; omega) _, h2, h3⟩
theorem RowT.wr {W : World} {g : Nat} {ts : List ByteArray} (h : RowT W g ts ts.length) : WrI W g 9 ts.length := by
  obtain ⟨cs, h1, h2, h3⟩ := h
  refine ⟨cs, h1, h2, fun i v hv => ?_⟩
  have hi : i < ts.length := by rw [← h2]; exact (Array.getElem?_eq_some_iff.1 hv).1
  rw [h3 i ts[i] hi (List.getElem?_eq_getElem hi)] at hv
  injection hv with hv
  subst hv
  exact noSl_str _
theorem tri_wr {cs : Array Value} {ss : List Stp} (h2 : cs.size = ss.length * 3) (h3 : ∀ (j : Nat) (s : Stp), j < ss.length → ss[j]? = some s → cs[j * 3]? = some (.int .i64 s.1) ∧ cs[j * 3 + 1]? = some (.int .i64 s.2.1) ∧ cs[j * 3 + 2]? = some (.int .i64 s.2.2)) (i : Nat) (v : Value) (hv : cs[i]? = some v) : NoSl v := by
  have hi : i < ss.length * 3 := by rw [← h2]; exact (Array.getElem?_eq_some_iff.1 hv).1
  obtain ⟨e0, e1, e2⟩ := h3 (i / 3) (ss[i / 3]'(by omega)) (by omega) (List.getElem?_eq_getElem _)
  rcases (show i = i / 3 * 3 ∨ i = i / 3 * 3 + 1 ∨ i = i / 3 * 3 + 2 by omega) with h | h | h
  · rw [h, e0] at hv; injection hv with hv; subst hv; exact noSl_int _ _
  · rw [h, e1] at hv; injection hv with hv; subst hv; exact noSl_int _ _
  · rw [h, e2] at hv; injection hv with hv; subst hv; exact noSl_int _ _
theorem RowS.other {W : World} {x g k : Nat} {ss : List Stp} {n : Nat} {v : Value} (h : RowS W x ss n) (hx : g ≠ x) : RowS (W.setCell ⟨g, k, none⟩ v) x ss n := by
  obtain ⟨cs, h1, h2, h3⟩ := h
  exact ⟨cs, h1.other (p := ⟨g, k, none⟩) (by show x ≠ g; omega) _, h2, h3⟩
theorem RowS.wr {W : World} {g : Nat} {ss : List Stp} (h : RowS W g ss ss.length) : WrI W g 131 (ss.length * 3) := by
  obtain ⟨cs, h1, h2, h3⟩ := h
  exact ⟨cs, h1, h2, tri_wr h2 h3⟩
theorem RowF.other {W : World} {x g k : Nat} {ss : List Stp} {n : Nat} {v : Value} (h : RowF W x ss n) (hx : g ≠ x) : RowF (W.setCell ⟨g, k, none⟩ v) x ss n := by
  obtain ⟨cs, h1, h2, h3⟩ := h
  exact ⟨cs, h1.other (p := ⟨g, k, none⟩) (by show x ≠ g; omega) _, h2, h3⟩
theorem RowF.wr {W : World} {g : Nat} {ss : List Stp} (h : RowF W g ss ss.length) : WrI W g 94 (ss.length * 3) := by
  obtain ⟨cs, h1, h2, h3⟩ := h
  exact ⟨cs, h1, h2, tri_wr h2 h3⟩
/-- Integers at g, and the block holds no more. -/
def IntX (W : World) (g : Nat) (zs : List Int) : Prop := Row W g zs ∧ SzIs W g zs.length
theorem IntX.kept {W W' : World} {g : Nat} {zs : List Int} (h : IntX W g zs) (hk : Kept W W') : IntX W' g zs := by
  refine ⟨h.1.kept hk, ?_⟩
  obtain ⟨cur, h1, h2⟩ := h.2
  exact ⟨cur, (hk.block g h.1.lt).trans h1, h2⟩
theorem IntX.other {W : World} {g : Nat} {zs : List Int} (h : IntX W g zs) {p : Addr} (hp : g ≠ p.block) (v : Value) : IntX (W.setCell p v) g zs := by
  refine ⟨h.1.other hp v, ?_⟩
  obtain ⟨cur, h1, h2⟩ := h.2
  exact ⟨cur, (Below.heap_setCell _ _ _ _ hp).trans h1, h2⟩
theorem IntX.wr {W : World} {g : Nat} {zs : List Int} (h : IntX W g zs) : WrI W g 3 zs.length := by
  obtain ⟨⟨_, cur, h1, h2, h3⟩, cur', k1, k2⟩ := h
  rw [h1] at k1
  injection k1 with k1
  injection k1 with k1
  subst k1
  refine ⟨cur, h1, k2, fun i v hv => ?_⟩
  have hi : i < zs.length := by rw [← k2]; exact (Array.getElem?_eq_some_iff.1 hv).1
  rw [h3 i hi] at hv
  injection hv with hv
  subst hv
  exact noSl_int _ _
theorem OwnL.x {W : World} {base g : Nat} {zs : List Int} (h : OwnL W base (.slice (some ⟨g, 0, none⟩) zs.length zs.length) zs) : IntX W g zs := by
  refine ⟨h.rowT, ?_⟩
  rcases h.2.2 with ⟨e, _⟩ | ⟨g', cap, cur, e, hb, hg, h1, h2, h3, _⟩
  · cases e
  · simp at e
    obtain ⟨rfl, rfl⟩ := e
    exact ⟨cur, hg, by simpa using h3⟩
theorem toIntS_x (w : World) (ao : Option Addr) (cap : Nat) (zs : List Int) (hI : Ints w ao zs) (hl : zs.length ≤ 1048576) :
    Calls Tryz.prog 33 #[.slice ao zs.length cap] w fun e w' => e = .returned (.slice (some ⟨w.heap.size, 0, none⟩) zs.length zs.length) ∧ IntX w' w.heap.size zs ∧ Kept w w' :=
  (toIntS_own w ao cap zs hI hl).mono (fun _ _ ⟨h1, h2, h3⟩ => ⟨h1, h2.x, h3⟩)
theorem toMarker_x (w : World) (ga ba : Option Addr) (gc bc : Nat) (ph at' : Int) (gs bs : List Int) (hG : Ints w ga gs) (hB : Ints w ba bs) (hgl : gs.length ≤ 1048576) (hbl : bs.length ≤ 1048576) :
    Calls Tryz.prog 31 #[.agg #[.int .i64 ph, .slice ga gs.length gc, .slice ba bs.length bc, .int .i64 at']] w fun e w' => ∃ g1 g2, e = .returned (.agg #[.int .i64 ph, .slice (some ⟨g1, 0, none⟩) gs.length gs.length, .slice (some ⟨g2, 0, none⟩) bs.length bs.length, .int .i64 at']) ∧ w.heap.size ≤ g1 ∧ g1 < g2 ∧ IntX w' g1 gs ∧ IntX w' g2 bs ∧ Kept w w' :=
  (toMarker_own w ga ba gc bc ph at' gs bs hG hB hgl hbl).mono (fun _ _ ⟨g1, g2, h1, h2, h3, h4, h5, h6⟩ => ⟨g1, g2, h1, h2, h3, h4.x, h5.x, h6⟩)
set_option maxHeartbeats 4000000 in
theorem toSlab_x (w : World) (ao : Option Addr) (cap : Nat) (zs : List Int) (hI : Ints w ao zs) (hl : zs.length ≤ 1048576) :
    Calls Tryz.prog 30 #[.agg #[.slice ao zs.length cap]] w fun e w' => ∃ g, e = .returned (.agg #[.slice (some ⟨g, 0, none⟩) zs.length zs.length]) ∧ w.heap.size ≤ g ∧ IntX w' g zs ∧ Kept w w' := by
  have hI3 := hI.kept (((Kept.alloc (Below.refl _ w) (.cells #[.slice ao zs.length cap] 28)).alloc (.cells #[.slice none 0 0] 39)).alloc (.cells #[.slice none 0 0] 39))
  have b2 := Cells.new ((w.alloc (.cells #[.slice ao zs.length cap] 28)).alloc (.cells #[.slice none 0 0] 39)) 39 #[.slice none 0 0]
  have b1 := (Cells.new (w.alloc (.cells #[.slice ao zs.length cap] 28)) 39 #[.slice none 0 0]).alloc (.cells #[.slice none 0 0] 39)
  simp only [World.size_alloc] at b1 b2
  clear hI
  go_enter Tryz.func30, Tryz.ntmps30
  go_wp2_with (go_at_call 33; refine (toIntS_x _ ao cap zs hI3 hl).mono ?_; rintro e w1 ⟨rfl, hR, hK⟩; have m2 := (b2.kept hK).cell 0; have f2 := (b2.kept hK).frozen 0; have m1 := (b1.kept hK).cell 0; have f1 := (b1.kept hK).frozen 0)
  have hR' : IntX w1 (w.heap.size + 1 + 1 + 1) zs := by simpa using hR
  have hK' : Kept w w1 := (((Kept.alloc (Below.refl _ w) _).alloc _).alloc _).trans hK
  have hres := (((b1.kept hK).other (p := ⟨w.heap.size + 1 + 1, 0, none⟩) (by simp) (.slice (some ⟨w.heap.size + 1 + 1 + 1, 0, none⟩) zs.length zs.length)).set1 (.slice (some ⟨w.heap.size + 1 + 1 + 1, 0, none⟩) zs.length zs.length)).cell 0
  refine bodyPost_ret (v := .agg #[.slice (some ⟨w.heap.size + 1 + 1 + 1, 0, none⟩) zs.length zs.length]) (by simp [results, Tryz.results30, go_sem, hres]) rfl ⟨_, rfl, by omega, (hR'.other (by intro h; simp at h <;> omega) _).other (by intro h; simp at h <;> omega) _, (hK'.set (by simp; omega) _).set (by simp) _⟩
set_option maxHeartbeats 8000000 in
set_option maxRecDepth 100000 in
theorem toStringS_x (w : World) (ao : Option Addr) (cap : Nat) (ts : List ByteArray) (hA : StA w ao ts) (hl : ts.length ≤ 1048576) :
    Calls Tryz.prog 34 #[.slice ao ts.length cap] w fun e w' => e = .returned (.slice (some ⟨w.heap.size, 0, none⟩) ts.length ts.length) ∧ RowT w' w.heap.size ts ts.length ∧ Kept w w' := by
  obtain ⟨i0, hi, hz0, hz1, hz2⟩ := info_parts infoStr
  have HA : Hid _ := hA
  clear hA
  go_enter Tryz.func34, Tryz.ntmps34
  go_wp2_with (at_make; refine wpList_make_full _ rfl _ _ 23 rfl w.heap.size 9 i0 (.string ⟨#[]⟩) 1 Tryz.underlying23 hi hz0 hz1 .i64 .i64 _ _ ts.length rfl rfl rfl rfl (by rw [hz2]; omega) (by unfold maxLen; omega) (Nat.le_refl _) ?_; intro w1 hown hgrow)
  have hR : RowT w1 w.heap.size ts 0 := by
    obtain ⟨_, ⟨e, _⟩ | ⟨g', cap', cur, e, hb, hg, h1, h2, h3, h4⟩⟩ := hown
    · cases e
    · simp at e
      obtain ⟨rfl, rfl⟩ := e
      exact ⟨cur, hg, by simpa using h3, fun j t hj => by omega⟩
  have hK : Kept w w1 := (Below.refl _ w).grown hgrow (Nat.le_refl _) (by simp)
  have HR0 : Hid _ := hR
  have HK0 : Hid (Kept w w1) := hK
  clear hown hgrow hR hK
  go_loopw [4] (fun iv wr => ∃ (k : Nat), iv = .int .i64 k ∧ k ≤ ts.length ∧ Hid (RowT wr w.heap.size ts k) ∧ Hid (Kept w wr)) (fun i _ => ts.length - (intOf i).toNat)
  case atStart => exact ⟨0, rfl, Nat.zero_le _, HR0.out, HK0.out⟩
  case round =>
    obtain ⟨k, rfl, hk, hR, hK⟩ := hrel
    clear HR0 HK0
    by_cases hlt : k < ts.length
    · obtain ⟨x, hx⟩ : ∃ x, ts[k]? = some x := ⟨ts[k], List.getElem?_eq_getElem hlt⟩
      have q1 : (k : Int) < (ts.length : Int) := by omega
      obtain ⟨b, off, rfl, hc⟩ := (StA.kept HA.out hK.out) k x hx
      have HX : Hid (ts[k]? = some x) := hx
      obtain ⟨cs, hcs, hcz, _⟩ := id hR.out
      have z0 : wr.cell? ⟨w.heap.size, k, none⟩ = some (cs[k]'(by omega)) := by
        have hh : wr.heap[w.heap.size]? = some _ := hcs
        simp [World.cell?, hh, show k < cs.size by omega]
      have y0 := hcs.frozen k
      clear hx hcs
      go_wp2_with fail
      go_roundw
      case rel => exact ⟨k + 1, by go_num, by omega, RowT.next hR.out HX.out, hK.out.set (by simp) _⟩
      case measure => simp [intOf]; omega
    · have q1 : ¬ (k : Int) < (ts.length : Int) := by omega
      have HR : Hid (RowT wr w.heap.size ts ts.length) := by have := hR.out; rwa [show k = ts.length by omega] at this
      go_wp2_with fail
      go_ret
      exact ⟨rfl, HR.out, hK.out⟩
set_option maxHeartbeats 8000000 in
set_option maxRecDepth 100000 in
theorem toStepS_x (w : World) (ao : Option Addr) (cap : Nat) (ss : List Stp) (hA : StpsA w ao ss) (hl : ss.length ≤ 1048576) :
    Calls Tryz.prog 142 #[.slice ao ss.length cap] w fun e w' => e = .returned (.slice (some ⟨w.heap.size, 0, none⟩) ss.length ss.length) ∧ RowS w' w.heap.size ss ss.length ∧ Kept w w' := by
  obtain ⟨i0, hi, hz0, hz1, hz2⟩ := info_parts infoStp
  have HA : Hid _ := hA
  clear hA
  go_enter Tryz.func142, Tryz.ntmps142
  go_wp2_with (at_make; refine wpList_make_full _ rfl _ _ 89 rfl w.heap.size 131 i0 (.agg #[.int .i64 0, .int .i64 0, .int .i64 0]) 3 Tryz.underlying89 hi hz0 hz1 .i64 .i64 _ _ ss.length rfl rfl rfl rfl (by rw [hz2]; omega) (by unfold maxLen; omega) (Nat.le_refl _) ?_; intro w1 hown hgrow)
  have hR : RowS w1 w.heap.size ss 0 := by
    obtain ⟨_, ⟨e, _⟩ | ⟨g', cap', cur, e, hb, hg, h1, h2, h3, h4⟩⟩ := hown
    · cases e
    · simp at e
      obtain ⟨rfl, rfl⟩ := e
      exact ⟨cur, hg, h3, fun j t hj => by omega⟩
  have hK : Kept w w1 := (Below.refl _ w).grown hgrow (Nat.le_refl _) (by simp)
  have HR0 : Hid _ := hR
  have HK0 : Hid (Kept w w1) := hK
  clear hown hgrow hR hK
  go_loopw [4] (fun iv wr => ∃ (k : Nat), iv = .int .i64 k ∧ k ≤ ss.length ∧ Hid (RowS wr w.heap.size ss k) ∧ Hid (Kept w wr)) (fun i _ => ss.length - (intOf i).toNat)
  case atStart => exact ⟨0, rfl, Nat.zero_le _, HR0.out, HK0.out⟩
  case round =>
    obtain ⟨k, rfl, hk, hR, hK⟩ := hrel
    clear HR0 HK0
    by_cases hlt : k < ss.length
    · obtain ⟨x, hx⟩ : ∃ x, ss[k]? = some x := ⟨ss[k], List.getElem?_eq_getElem hlt⟩
      have q1 : (k : Int) < (ss.length : Int) := by omega
      obtain ⟨b, off, rfl, g0, g1, g2⟩ := (StpsA.kept HA.out hK.out) k x hx
      have HX : Hid (ss[k]? = some x) := hx
      obtain ⟨o, a, c⟩ := x
      have hC := toStep_ok wr o a c
      clear hx
      go_wp2_with (go_at_call 178; refine hC.mono ?_; rintro e wx ⟨rfl, hkx⟩; obtain ⟨cs, hcs, hcz, _⟩ := id (RowS.on hR.out hkx); have z0 := hcs.at3 (i := k * 3) (by omega); have z1 := hcs.at3 (i := k * 3 + 1) (by omega); have z2 := hcs.at3 (i := k * 3 + 2) (by omega); have y0 := hcs.frozen (k * 3); have y1 := hcs.frozen (k * 3 + 1); have y2 := hcs.frozen (k * 3 + 2))
      have hN := RowS.next (RowS.on hR.out hkx) HX.out
      go_roundw
      case rel => exact ⟨k + 1, by go_num, by omega, hN, (hK.out.trans hkx).set3 (by simp) _ _ _⟩
      case measure => simp [intOf]; omega
    · have q1 : ¬ (k : Int) < (ss.length : Int) := by omega
      have HR : Hid (RowS wr w.heap.size ss ss.length) := by have := hR.out; rwa [show k = ss.length by omega] at this
      go_wp2_with fail
      go_ret
      exact ⟨rfl, HR.out, hK.out⟩
set_option maxHeartbeats 8000000 in
set_option maxRecDepth 100000 in
theorem toCode_x (w : World) (x y : Int) (ao : Option Addr) (cap : Nat) (ss : List Stp) (hA : StpsA w ao ss) (hl : ss.length ≤ 1048576) :
    Calls Tryz.prog 99 #[.agg #[.int .i64 x, .int .i64 y, .slice ao ss.length cap]] w fun e w' => ∃ g, e = .returned (.agg #[.int .i64 x, .int .i64 y, .slice (some ⟨g, 0, none⟩) ss.length ss.length]) ∧ w.heap.size ≤ g ∧ RowS w' g ss ss.length ∧ Kept w w' := by
  have k3 : Kept w (((w.alloc (.cells #[.int .i64 x, .int .i64 y, .slice ao ss.length cap] 129)).alloc (.cells #[.int .i64 0, .int .i64 0, .slice none 0 0] 91)).alloc (.cells #[.int .i64 x, .int .i64 y, .slice none 0 0] 91)) := ((Kept.alloc (Below.refl _ _) _).alloc _).alloc _
  have y1 := (Cells.new (w.alloc (.cells #[.int .i64 x, .int .i64 y, .slice ao ss.length cap] 129)) 91 #[.int .i64 0, .int .i64 0, .slice none 0 0]).alloc (.cells #[.int .i64 x, .int .i64 y, .slice none 0 0] 91)
  have y2 := Cells.new ((w.alloc (.cells #[.int .i64 x, .int .i64 y, .slice ao ss.length cap] 129)).alloc (.cells #[.int .i64 0, .int .i64 0, .slice none 0 0] 91)) 91 #[.int .i64 x, .int .i64 y, .slice none 0 0]
  have hs3 : (((w.alloc (.cells #[.int .i64 x, .int .i64 y, .slice ao ss.length cap] 129)).alloc (.cells #[.int .i64 0, .int .i64 0, .slice none 0 0] 91)).alloc (.cells #[.int .i64 x, .int .i64 y, .slice none 0 0] 91)).heap.size = w.heap.size + 3 := by simp
  simp only [World.size_alloc] at y1 y2
  have hC := toStepS_x _ ao cap ss (hA.kept k3) hl
  rw [hs3] at hC
  clear hA hl
  go_enter Tryz.func99, Tryz.ntmps99
  go_wp2_with fail
  refine hC.mono ?_
  rintro e w1 ⟨rfl, hN, hk1⟩
  have x1 := y1.kept hk1
  have x2 := y2.kept hk1
  have c0 := x2.cell 0; have c1 := x2.cell 1; have c2 := x2.cell 2; have f0 := x2.frozen 0; have f1 := x2.frozen 1; have f2 := x2.frozen 2; have l2 := x2.lt
  have d0 := x1.cell 0; have d1 := x1.cell 1; have d2 := x1.cell 2; have g0 := x1.frozen 0; have g1 := x1.frozen 1; have g2 := x1.frozen 2; have l1 := x1.lt
  have HN : Hid _ := hN
  clear hC y1 y2 hN
  go_wp2_with fail
  have z := (((x1.other (p := ⟨w.heap.size + 1 + 1, 2, none⟩) (by simp) (.slice (some ⟨w.heap.size + 3, 0, none⟩) ss.length ss.length)).set 0 (.int .i64 x)).set 1 (.int .i64 y)).set 2 (.slice (some ⟨w.heap.size + 3, 0, none⟩) ss.length ss.length)
  have z0 := z.cell 0
  have z1 := z.cell 1
  have z2 := z.cell 2
  refine bodyPost_ret (v := .agg #[.int .i64 x, .int .i64 y, .slice (some ⟨w.heap.size + 3, 0, none⟩) ss.length ss.length]) (by simp [results, Tryz.results99, go_sem, z0, z1, z2]) rfl ⟨_, rfl, by omega, RowS.other (RowS.other (RowS.other (RowS.other HN.out (by omega)) (by omega)) (by omega)) (by omega), ((((k3.trans hk1).set (by simp; omega) _).set (by simp) _).set (by simp) _).set (by simp) _⟩
/-- The cells of a row whose first k codes are told. -/
def RowX (W : World) (g : Nat) (cs : List Cod) (k : Nat) : Prop := ∃ vs, Cells W g 91 vs ∧ vs.size = cs.length * 3 ∧ ∀ (j : Nat) (c : Cod), j < k → cs[j]? = some c → ∃ x, g < x ∧ vs[j * 3]? = some (.int .i64 c.n) ∧ vs[j * 3 + 1]? = some (.int .i64 c.v) ∧ vs[j * 3 + 2]? = some (.slice (some ⟨x, 0, none⟩) c.ss.length c.ss.length) ∧ RowS W x c.ss c.ss.length
theorem RowX.on {W W' : World} {g : Nat} {cs : List Cod} {k : Nat} (h : RowX W g cs k) (hk : Kept W W') : RowX W' g cs k := by
  obtain ⟨vs, h1, h2, h3⟩ := h
  refine ⟨vs, h1.kept hk, h2, fun j c hj hc => ?_⟩
  obtain ⟨x, hx, e0, e1, e2, hs⟩ := h3 j c hj hc
  exact ⟨x, hx, e0, e1, e2, RowS.on hs hk⟩
theorem RowX.next {W : World} {g y : Nat} {cs : List Cod} {k : Nat} {x : Cod} (h : RowX W g cs k) (hx : cs[k]? = some x) (hy : g < y) (hs : RowS W y x.ss x.ss.length) :
    RowX (((W.setCell ⟨g, k * 3, none⟩ (.int .i64 x.n)).setCell ⟨g, k * 3 + 1, none⟩ (.int .i64 x.v)).setCell ⟨g, k * 3 + 2, none⟩ (.slice (some ⟨y, 0, none⟩) x.ss.length x.ss.length)) g cs (k + 1) := by
  obtain ⟨vs, h1, h2, h3⟩ := h
  have hlt : k < cs.length := (List.getElem?_eq_some_iff.1 hx).1
  have hz : k * 3 + 3 ≤ vs.size := by omega
  refine ⟨_, ((h1.set (k * 3) _).set (k * 3 + 1) _).set (k * 3 + 2) _, by simp [h2], fun j c hj hc => ?_⟩
  by_cases hjk : j = k
  · subst hjk
    rw [hx] at hc
    injection hc with hc
    subst hc
    obtain ⟨e0, e1, e2⟩ := set3_at (a := .int .i64 x.n) (b := .int .i64 x.v) (c := .slice (some ⟨y, 0, none⟩) x.ss.length x.ss.length) hz
    exact ⟨y, hy, e0, e1, e2, RowS.other (RowS.other (RowS.other hs (by omega)) (by omega)) (by omega)⟩
  · obtain ⟨z, hz', e0, e1, e2, hss⟩ := h3 j c (by omega) hc
    have f0 := set3_get (n := 0) (a := .int .i64 x.n) (b := .int .i64 x.v) (c := .slice (some ⟨y, 0, none⟩) x.ss.length x.ss.length) hz hjk 0 (by omega)
    have f1 := set3_get (n := 0) (a := .int .i64 x.n) (b := .int .i64 x.v) (c := .slice (some ⟨y, 0, none⟩) x.ss.length x.ss.length) hz hjk 1 (by omega)
    have f2 := set3_get (n := 0) (a := .int .i64 x.n) (b := .int .i64 x.v) (c := .slice (some ⟨y, 0, none⟩) x.ss.length x.ss.length) hz hjk 2 (by omega)
    exact ⟨z, hz', f0.trans e0, f1.trans e1, f2.trans e2, RowS.other (RowS.other (RowS.other hss (by omega)) (by omega)) (by omega)⟩
/-- Codes at g with their cells, their steps in blocks behind it. -/
abbrev CodX (W : World) (g : Nat) (cs : List Cod) : Prop := RowX W g cs cs.length
theorem CodX.kept {W W' : World} {g : Nat} {cs : List Cod} (h : CodX W g cs) (hk : Kept W W') : CodX W' g cs := RowX.on h hk
theorem CodX.other {W : World} {g i k : Nat} {cs : List Cod} {v : Value} (h : CodX W g cs) (hg : i < g) : CodX (W.setCell ⟨i, k, none⟩ v) g cs := by
  obtain ⟨vs, h1, h2, h3⟩ := h
  refine ⟨vs, h1.other (p := ⟨i, k, none⟩) (by show g ≠ i; omega) _, h2, fun j c hj hc => ?_⟩
  obtain ⟨x, hx, e0, e1, e2, hs⟩ := h3 j c hj hc
  exact ⟨x, hx, e0, e1, e2, RowS.other hs (by omega)⟩
theorem CodX.codsO {W : World} {g : Nat} {cs : List Cod} (h : CodX W g cs) : CodsO W g cs := by
  obtain ⟨vs, h1, h2, h3⟩ := h
  intro j c hc
  obtain ⟨x, hx, e0, e1, e2, hs⟩ := h3 j c (List.getElem?_eq_some_iff.1 hc).1 hc
  exact ⟨x, hx, by rw [h1.cell]; exact e0, by rw [h1.cell]; exact e1, by rw [h1.cell]; exact e2, RowS.done hs⟩
theorem CodX.wr {W : World} {lo g : Nat} {cs : List Cod} (h : CodX W g cs) (hl : lo ≤ g) : CodW W lo W.heap.size g cs := by
  obtain ⟨vs, h1, h2, h3⟩ := h
  refine ⟨⟨vs, h1, h2, fun j hj => ?_⟩, fun j c hc => ?_⟩
  · obtain ⟨x, hx, e0, e1, e2, hs⟩ := h3 j cs[j] hj (List.getElem?_eq_getElem hj)
    exact ⟨_, _, e0, noSl_int _ _, e1, noSl_int _ _⟩
  · obtain ⟨x, hx, e0, e1, e2, hs⟩ := h3 j c (List.getElem?_eq_some_iff.1 hc).1 hc
    exact ⟨x, ⟨by omega, by obtain ⟨_, hh, _⟩ := hs; exact hh.lt⟩, by rw [h1.cell]; exact e2, RowS.wr hs⟩
set_option maxHeartbeats 8000000 in
set_option maxRecDepth 100000 in
theorem toCodeS_x (w : World) (ao : Option Addr) (cap : Nat) (cs : List Cod) (hA : CodsA w ao cs) (hl : cs.length ≤ 1048576) (hI : ∀ c ∈ cs, c.ss.length ≤ 1048576) :
    Calls Tryz.prog 52 #[.slice ao cs.length cap] w fun e w' => e = .returned (.slice (some ⟨w.heap.size, 0, none⟩) cs.length cs.length) ∧ CodX w' w.heap.size cs ∧ Kept w w' := by
  obtain ⟨i0, hi, hz0, hz1, hz2⟩ := info_parts infoCod
  have HA : Hid _ := hA
  have HI : Hid _ := hI
  clear hA hI
  go_enter Tryz.func52, Tryz.ntmps52
  go_wp2_with (at_make; refine wpList_make_full _ rfl _ _ 36 rfl w.heap.size 91 i0 (.agg #[.int .i64 0, .int .i64 0, .slice none 0 0]) 3 Tryz.underlying36 hi hz0 hz1 .i64 .i64 _ _ cs.length rfl rfl rfl rfl (by rw [hz2]; omega) (by unfold maxLen; omega) (Nat.le_refl _) ?_; intro w1 hown hgrow)
  have hR : RowX w1 w.heap.size cs 0 := by
    obtain ⟨_, ⟨e, _⟩ | ⟨g', cap', cur, e, hb, hg, h1, h2, h3, h4⟩⟩ := hown
    · cases e
    · simp at e
      obtain ⟨rfl, rfl⟩ := e
      exact ⟨cur, hg, h3, fun j t hj => by omega⟩
  have hK : Kept w w1 := (Below.refl _ w).grown hgrow (Nat.le_refl _) (by simp)
  have HR0 : Hid _ := hR
  have HK0 : Hid (Kept w w1) := hK
  clear hown hgrow hR hK
  go_loopw [4] (fun iv wr => ∃ (k : Nat), iv = .int .i64 k ∧ k ≤ cs.length ∧ Hid (RowX wr w.heap.size cs k) ∧ Hid (Kept w wr)) (fun i _ => cs.length - (intOf i).toNat)
  case atStart => exact ⟨0, rfl, Nat.zero_le _, HR0.out, HK0.out⟩
  case round =>
    obtain ⟨k, rfl, hk, hR, hK⟩ := hrel
    clear HR0 HK0
    by_cases hlt : k < cs.length
    · obtain ⟨x, hx⟩ : ∃ x, cs[k]? = some x := ⟨cs[k], List.getElem?_eq_getElem hlt⟩
      have q1 : (k : Int) < (cs.length : Int) := by omega
      obtain ⟨b, off, xo, xc, rfl, g0, g1, g2, hX⟩ := (CodsA.kept HA.out hK.out) k x hx
      have HX : Hid (cs[k]? = some x) := hx
      have hC := toCode_x wr x.n x.v xo xc x.ss hX (HI.out x (List.mem_of_getElem? hx))
      clear hx hX
      go_wp2_with (go_at_call 99; refine hC.mono ?_; rintro e wx ⟨y, rfl, hy, hvx, hkx⟩; obtain ⟨vs, hcs, hcz, _⟩ := id (RowX.on hR.out hkx); have z0 := hcs.at3 (i := k * 3) (by omega); have z1 := hcs.at3 (i := k * 3 + 1) (by omega); have z2 := hcs.at3 (i := k * 3 + 2) (by omega); have y0 := hcs.frozen (k * 3); have y1 := hcs.frozen (k * 3 + 1); have y2 := hcs.frozen (k * 3 + 2))
      have hlt2 : w.heap.size < wr.heap.size := by obtain ⟨_, hh, _⟩ := hR.out; exact hh.lt
      have hN := RowX.next (RowX.on hR.out hkx) HX.out (by omega) hvx
      go_roundw
      case rel => exact ⟨k + 1, by go_num, by omega, hN, (hK.out.trans hkx).set3 (by simp) _ _ _⟩
      case measure => simp [intOf]; omega
    · have q1 : ¬ (k : Int) < (cs.length : Int) := by omega
      have HR : Hid (CodX wr w.heap.size cs) := by have := hR.out; rwa [show k = cs.length by omega] at this
      go_wp2_with fail
      go_ret
      exact ⟨rfl, HR.out, hK.out⟩
set_option maxHeartbeats 8000000 in
set_option maxRecDepth 100000 in
theorem toFrameS_x (w : World) (ao : Option Addr) (cap : Nat) (ss : List Stp) (hA : StpsA w ao ss) (hl : ss.length ≤ 1048576) :
    Calls Tryz.prog 32 #[.slice ao ss.length cap] w fun e w' => e = .returned (.slice (some ⟨w.heap.size, 0, none⟩) ss.length ss.length) ∧ RowF w' w.heap.size ss ss.length ∧ Kept w w' := by
  obtain ⟨i0, hi, hz0, hz1, hz2⟩ := info_parts infoFrm
  have HA : Hid _ := hA
  clear hA
  go_enter Tryz.func32, Tryz.ntmps32
  go_wp2_with (at_make; refine wpList_make_full _ rfl _ _ 41 rfl w.heap.size 94 i0 (.agg #[.int .i64 0, .int .i64 0, .int .i64 0]) 3 Tryz.underlying41 hi hz0 hz1 .i64 .i64 _ _ ss.length rfl rfl rfl rfl (by rw [hz2]; omega) (by unfold maxLen; omega) (Nat.le_refl _) ?_; intro w1 hown hgrow)
  have hR : RowF w1 w.heap.size ss 0 := by
    obtain ⟨_, ⟨e, _⟩ | ⟨g', cap', cur, e, hb, hg, h1, h2, h3, h4⟩⟩ := hown
    · cases e
    · simp at e
      obtain ⟨rfl, rfl⟩ := e
      exact ⟨cur, hg, h3, fun j t hj => by omega⟩
  have hK : Kept w w1 := (Below.refl _ w).grown hgrow (Nat.le_refl _) (by simp)
  have HR0 : Hid _ := hR
  have HK0 : Hid (Kept w w1) := hK
  clear hown hgrow hR hK
  go_loopw [4] (fun iv wr => ∃ (k : Nat), iv = .int .i64 k ∧ k ≤ ss.length ∧ Hid (RowF wr w.heap.size ss k) ∧ Hid (Kept w wr)) (fun i _ => ss.length - (intOf i).toNat)
  case atStart => exact ⟨0, rfl, Nat.zero_le _, HR0.out, HK0.out⟩
  case round =>
    obtain ⟨k, rfl, hk, hR, hK⟩ := hrel
    clear HR0 HK0
    by_cases hlt : k < ss.length
    · obtain ⟨x, hx⟩ : ∃ x, ss[k]? = some x := ⟨ss[k], List.getElem?_eq_getElem hlt⟩
      have q1 : (k : Int) < (ss.length : Int) := by omega
      obtain ⟨b, off, rfl, g0, g1, g2⟩ := (StpsA.kept HA.out hK.out) k x hx
      have HX : Hid (ss[k]? = some x) := hx
      obtain ⟨o, a, c⟩ := x
      have hC := toFrame_ok wr o a c
      clear hx
      go_wp2_with (go_at_call 78; refine hC.mono ?_; rintro e wx ⟨rfl, hkx⟩; obtain ⟨cs, hcs, hcz, _⟩ := id (RowF.on hR.out hkx); have z0 := hcs.at3 (i := k * 3) (by omega); have z1 := hcs.at3 (i := k * 3 + 1) (by omega); have z2 := hcs.at3 (i := k * 3 + 2) (by omega); have y0 := hcs.frozen (k * 3); have y1 := hcs.frozen (k * 3 + 1); have y2 := hcs.frozen (k * 3 + 2))
      have hN := RowF.next (RowF.on hR.out hkx) HX.out
      go_roundw
      case rel => exact ⟨k + 1, by go_num, by omega, hN, (hK.out.trans hkx).set3 (by simp) _ _ _⟩
      case measure => simp [intOf]; omega
    · have q1 : ¬ (k : Int) < (ss.length : Int) := by omega
      have HR : Hid (RowF wr w.heap.size ss ss.length) := by have := hR.out; rwa [show k = ss.length by omega] at this
      go_wp2_with fail
      go_ret
      exact ⟨rfl, HR.out, hK.out⟩
set_option maxHeartbeats 8000000 in
set_option maxRecDepth 100000 in
theorem toUnit_x (w : World) (ca ta : Option Addr) (cc tc : Nat) (cs : List Cod) (ts : List ByteArray) (hA : CodsA w ca cs) (hB : StA w ta ts) (hl : cs.length ≤ 1048576) (hI : ∀ c ∈ cs, c.ss.length ≤ 1048576) (ht : ts.length ≤ 1048576) :
    Calls Tryz.prog 15 #[.agg #[.slice ca cs.length cc, .slice ta ts.length tc]] w fun e w' => ∃ g h, e = .returned (.agg #[.slice (some ⟨g, 0, none⟩) cs.length cs.length, .slice (some ⟨h, 0, none⟩) ts.length ts.length]) ∧ (w.heap.size ≤ g ∧ w.heap.size ≤ h) ∧ CodX w' g cs ∧ RowT w' h ts ts.length ∧ Kept w w' := by
  have k3 : Kept w (((w.alloc (.cells #[.slice ca cs.length cc, .slice ta ts.length tc] 25)).alloc (.cells #[.slice none 0 0, .slice none 0 0] 38)).alloc (.cells #[.slice none 0 0, .slice none 0 0] 38)) := ((Kept.alloc (Below.refl _ _) _).alloc _).alloc _
  have y0 := ((Cells.new w 25 #[.slice ca cs.length cc, .slice ta ts.length tc]).alloc (.cells #[.slice none 0 0, .slice none 0 0] 38)).alloc (.cells #[.slice none 0 0, .slice none 0 0] 38)
  have y1 := (Cells.new (w.alloc (.cells #[.slice ca cs.length cc, .slice ta ts.length tc] 25)) 38 #[.slice none 0 0, .slice none 0 0]).alloc (.cells #[.slice none 0 0, .slice none 0 0] 38)
  have y2 := Cells.new ((w.alloc (.cells #[.slice ca cs.length cc, .slice ta ts.length tc] 25)).alloc (.cells #[.slice none 0 0, .slice none 0 0] 38)) 38 #[.slice none 0 0, .slice none 0 0]
  have hs3 : (((w.alloc (.cells #[.slice ca cs.length cc, .slice ta ts.length tc] 25)).alloc (.cells #[.slice none 0 0, .slice none 0 0] 38)).alloc (.cells #[.slice none 0 0, .slice none 0 0] 38)).heap.size = w.heap.size + 3 := by simp
  simp only [World.size_alloc] at y0 y1 y2
  have hC := toCodeS_x _ ca cc cs (hA.kept k3) hl hI
  rw [hs3] at hC
  have HB : Hid (StA w ta ts) := hB
  have HT : Hid (ts.length ≤ 1048576) := ht
  have HK3 : Hid _ := k3
  clear hA hl hI hB ht
  go_enter Tryz.func15, Tryz.ntmps15
  go_wp2_with fail
  refine hC.mono ?_
  rintro e w1 ⟨rfl, hN, hk1⟩
  have x0 := y0.kept hk1
  have x1 := y1.kept hk1
  have x2 := y2.kept hk1
  have c0 := x2.cell 0; have f0 := x2.frozen 0; have l2 := x2.lt
  have hsz1 : w.heap.size + 3 ≤ w1.heap.size := by have := hk1.size; rw [hs3] at this; exact this
  have v0 := x0.other (p := ⟨w.heap.size + 1 + 1, 0, none⟩) (by simp; omega) (.slice (some ⟨w.heap.size + 3, 0, none⟩) cs.length cs.length)
  have v1 := x1.other (p := ⟨w.heap.size + 1 + 1, 0, none⟩) (by simp) (.slice (some ⟨w.heap.size + 3, 0, none⟩) cs.length cs.length)
  have v2 := x2.set 0 (.slice (some ⟨w.heap.size + 3, 0, none⟩) cs.length cs.length)
  have hN1 := CodX.other hN (i := w.heap.size + 1 + 1) (k := 0) (v := .slice (some ⟨w.heap.size + 3, 0, none⟩) cs.length cs.length) (by omega)
  have kW : Kept w (w1.setCell ⟨w.heap.size + 1 + 1, 0, none⟩ (.slice (some ⟨w.heap.size + 3, 0, none⟩) cs.length cs.length)) := (Kept.trans HK3.out hk1).set (by simp; omega) _
  have hszW : (w1.setCell ⟨w.heap.size + 1 + 1, 0, none⟩ (.slice (some ⟨w.heap.size + 3, 0, none⟩) cs.length cs.length)).heap.size = w1.heap.size := by simp
  have HsW : Hid (w.heap.size + 3 ≤ w1.heap.size) := hsz1
  have a0 := v0.cell 0; have a1 := v0.cell 1
  have HN1 : Hid _ := hN1
  have hD := toStringS_x (w1.setCell ⟨w.heap.size + 1 + 1, 0, none⟩ (.slice (some ⟨w.heap.size + 3, 0, none⟩) cs.length cs.length)) ta tc ts (StA.kept HB.out kW) HT.out
  rw [hszW] at hD
  clear hC y0 y1 y2 hN x0 x1 hszW hN1 hsz1
  go_wp2_with (go_at_call 34; refine hD.mono ?_; rintro e w2 ⟨rfl, hS, hk2⟩; have m2 := v2.kept hk2; have m1 := v1.kept hk2; have e0 := m2.cell 0; have e1 := m2.cell 1; have r0 := m2.frozen 0; have r1 := m2.frozen 1; have e2 := m1.cell 0; have e3 := m1.cell 1; have r2 := m1.frozen 0; have r3 := m1.frozen 1)
  have z := (((m1.other (p := ⟨w.heap.size + 1 + 1, 1, none⟩) (by simp) (.slice (some ⟨w1.heap.size, 0, none⟩) ts.length ts.length)).set 0 (.slice (some ⟨w.heap.size + 3, 0, none⟩) cs.length cs.length))).set 1 (.slice (some ⟨w1.heap.size, 0, none⟩) ts.length ts.length)
  have z0 := z.cell 0
  have z1 := z.cell 1
  have hQ := CodX.kept HN1.out hk2
  have hs1 := HsW.out
  have hR := CodX.other (i := w.heap.size + 1) (k := 1) (v := .slice (some ⟨w1.heap.size, 0, none⟩) ts.length ts.length) (CodX.other (i := w.heap.size + 1) (k := 0) (v := .slice (some ⟨w.heap.size + 3, 0, none⟩) cs.length cs.length) (CodX.other (i := w.heap.size + 1 + 1) (k := 1) (v := .slice (some ⟨w1.heap.size, 0, none⟩) ts.length ts.length) hQ (by omega)) (by omega)) (by omega)
  refine bodyPost_ret (v := .agg #[.slice (some ⟨w.heap.size + 3, 0, none⟩) cs.length cs.length, .slice (some ⟨w1.heap.size, 0, none⟩) ts.length ts.length]) (by simp [results, Tryz.results15, go_sem, z0, z1]) rfl ⟨_, _, rfl, ⟨by omega, by omega⟩, hR, RowT.other (RowT.other (RowT.other hS (by omega)) (by omega)) (by omega), (((Kept.trans kW hk2).set (by simp; omega) _).set (by simp) _).set (by simp) _⟩
end Go.Proofs.YtgempjjnfpmndaaGreatDoor
