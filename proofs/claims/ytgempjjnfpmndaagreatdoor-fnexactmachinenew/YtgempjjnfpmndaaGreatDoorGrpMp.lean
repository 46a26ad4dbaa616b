/-
  Machines in memory (chapter 17): what their rows hold.
  What the laws do with machines: how great (chapter 17).
  What the laws do with machines: whether two are the same (chapter 17).
-/
import Derived.Test.YtgempjjnfpmndaaGreatDoorUntP
import Derived.Test.YtgempjjnfpmndaaGreatDoorHelpL
import Derived.Test.YtgempjjnfpmndaaGreatDoorGrpUb
import Derived.Test.YtgempjjnfpmndaaGreatDoorHelpQ
namespace Go.Proofs.YtgempjjnfpmndaaGreatDoor
open Go.ChangeShapes Go.WideShapes Go.ChangeAt Go.RowKit
set_option linter.unusedSimpArgs false
set_option linter.unusedVariables false

/-- What a machine holds. -/
structure Mch where
  cs : List Cod
  ts : List ByteArray
  zs : List Int
  ph : Int
  gs : List Int
  bs : List Int
  at' : Int
  fs : List Stp
  ks : List Int
  ls : List ByteArray
  ov : Bool
  cd : Int
/-- Where its rows lie. -/
structure MchH where
  ca : Option Addr
  cc : Nat
  ta : Option Addr
  tc : Nat
  sa : Option Addr
  sc : Nat
  ga : Option Addr
  gc : Nat
  ba : Option Addr
  bc : Nat
  fa : Option Addr
  fc : Nat
  ka : Option Addr
  kc : Nat
  la : Option Addr
  lc : Nat
@[reducible] def mchC (h : MchH) (m : Mch) : Array Value := #[.slice h.ca m.cs.length h.cc, .slice h.ta m.ts.length h.tc, .slice h.sa m.zs.length h.sc, .int .i64 m.ph, .slice h.ga m.gs.length h.gc, .slice h.ba m.bs.length h.bc, .int .i64 m.at', .slice h.fa m.fs.length h.fc, .slice h.ka m.ks.length h.kc, .slice h.la m.ls.length h.lc, .bool m.ov, .int .i64 m.cd]
theorem Cells.m0 {W : World} {B : Nat} {t : TypeId} {h : MchH} {m : Mch} (x : Cells W B t (mchC h m)) : W.cell? ⟨B, 0, none⟩ = some (.slice h.ca m.cs.length h.cc) := x.cell 0
theorem Cells.m1 {W : World} {B : Nat} {t : TypeId} {h : MchH} {m : Mch} (x : Cells W B t (mchC h m)) : W.cell? ⟨B, 1, none⟩ = some (.slice h.ta m.ts.length h.tc) := x.cell 1
theorem Cells.m2 {W : World} {B : Nat} {t : TypeId} {h : MchH} {m : Mch} (x : Cells W B t (mchC h m)) : W.cell? ⟨B, 2, none⟩ = some (.slice h.sa m.zs.length h.sc) := x.cell 2
theorem Cells.m3 {W : World} {B : Nat} {t : TypeId} {h : MchH} {m : Mch} (x : Cells W B t (mchC h m)) : W.cell? ⟨B, 3, none⟩ = some (.int .i64 m.ph) := x.cell 3
theorem Cells.m4 {W : World} {B : Nat} {t : TypeId} {h : MchH} {m : Mch} (x : Cells W B t (mchC h m)) : W.cell? ⟨B, 4, none⟩ = some (.slice h.ga m.gs.length h.gc) := x.cell 4
theorem Cells.m5 {W : World} {B : Nat} {t : TypeId} {h : MchH} {m : Mch} (x : Cells W B t (mchC h m)) : W.cell? ⟨B, 5, none⟩ = some (.slice h.ba m.bs.length h.bc) := x.cell 5
theorem Cells.m6 {W : World} {B : Nat} {t : TypeId} {h : MchH} {m : Mch} (x : Cells W B t (mchC h m)) : W.cell? ⟨B, 6, none⟩ = some (.int .i64 m.at') := x.cell 6
theorem Cells.m7 {W : World} {B : Nat} {t : TypeId} {h : MchH} {m : Mch} (x : Cells W B t (mchC h m)) : W.cell? ⟨B, 7, none⟩ = some (.slice h.fa m.fs.length h.fc) := x.cell 7
theorem Cells.m8 {W : World} {B : Nat} {t : TypeId} {h : MchH} {m : Mch} (x : Cells W B t (mchC h m)) : W.cell? ⟨B, 8, none⟩ = some (.slice h.ka m.ks.length h.kc) := x.cell 8
theorem Cells.m9 {W : World} {B : Nat} {t : TypeId} {h : MchH} {m : Mch} (x : Cells W B t (mchC h m)) : W.cell? ⟨B, 9, none⟩ = some (.slice h.la m.ls.length h.lc) := x.cell 9
theorem Cells.m10 {W : World} {B : Nat} {t : TypeId} {h : MchH} {m : Mch} (x : Cells W B t (mchC h m)) : W.cell? ⟨B, 10, none⟩ = some (.bool m.ov) := x.cell 10
theorem Cells.m11 {W : World} {B : Nat} {t : TypeId} {h : MchH} {m : Mch} (x : Cells W B t (mchC h m)) : W.cell? ⟨B, 11, none⟩ = some (.int .i64 m.cd) := x.cell 11
/-- Its rows are as told. -/
structure MchA (W : World) (h : MchH) (m : Mch) : Prop where
  c : CodsA W h.ca m.cs
  t : StA W h.ta m.ts
  z : Ints W h.sa m.zs
  g : Ints W h.ga m.gs
  b : Ints W h.ba m.bs
  f : StpsA W h.fa m.fs
  k : Ints W h.ka m.ks
  l : StA W h.la m.ls
theorem MchA.kept {W W' : World} {h : MchH} {m : Mch} (x : MchA W h m) (hk : Kept W W') : MchA W' h m :=
  ⟨x.c.kept hk, x.t.kept hk, x.z.kept hk, x.g.kept hk, x.b.kept hk, x.f.kept hk, x.k.kept hk, x.l.kept hk⟩
structure MchFit (m : Mch) : Prop where
  c : FitC m.cs
  t : FitT m.ts
  z : m.zs.length ≤ maxLen
  g : m.gs.length ≤ maxLen
  b : m.bs.length ≤ maxLen
  f : m.fs.length ≤ maxLen
  k : m.ks.length ≤ maxLen
  l : FitT m.ls
/-- It is no greater than the laws ask. -/
structure MchLe (m : Mch) : Prop where
  u : blkC m.cs + blkT m.ts ≤ 1048576
  z : m.zs.length ≤ 1048576
  g : m.gs.length ≤ 1048576
  b : m.bs.length ≤ 1048576
  f : m.fs.length ≤ 1048576
  k : m.ks.length ≤ 1048576
  l : blkT m.ls ≤ 1048576
  kf : m.ks.length + m.fs.length ≤ 1048576
theorem MchLe.c {m : Mch} (h : MchLe m) : m.cs.length ≤ 1048576 := by have := h.u; unfold blkC at this; omega
theorem MchLe.i {m : Mch} (h : MchLe m) : ∀ c ∈ m.cs, c.ss.length ≤ 1048576 := fun c hc => by have := sumC_mem hc; have := h.u; unfold blkC at this; omega
theorem MchLe.t {m : Mch} (h : MchLe m) : m.ts.length ≤ 1048576 := by have := h.u; unfold blkT at this; omega
theorem MchLe.l' {m : Mch} (h : MchLe m) : m.ls.length ≤ 1048576 := by have := h.l; unfold blkT at this; omega
end Go.Proofs.YtgempjjnfpmndaaGreatDoor
namespace Go.Proofs.YtgempjjnfpmndaaGreatDoor
open Go.ChangeShapes Go.WideShapes Go.ChangeAt Go.RowKit
set_option linter.unusedSimpArgs false
set_option linter.unusedVariables false
/-- What is left, or nothing. -/
def LeftB (n : Nat) (r : Int) : Prop := (0 ≤ r ∧ r ≤ 1048576 ∧ decide (r < 0) = false ∧ n ≤ 1048576) ∨ r = -1
theorem LeftB.of {l : Int} {n : Nat} (h0 : 0 ≤ l) (h1 : l ≤ 1048576) : LeftB n (leftT l n) := by
  unfold LeftB leftT
  split
  · left
    refine ⟨by omega, by omega, decide_eq_false (by omega), by omega⟩
  · right; rfl
theorem leftT_sum (l : Int) (n : Nat) : leftT l n = -1 ∨ leftT l n + (n : Int) ≤ l := by
  unfold leftT
  split <;> omega
set_option maxHeartbeats 8000000 in
set_option maxRecDepth 100000 in
theorem szFrameS_ok (w : World) (ao : Option Addr) (cap : Nat) (ss : List Stp) (l : Int) (hm : ss.length ≤ maxLen) (h0 : 0 ≤ l) (h1 : l ≤ 1048576) :
    Calls Tryz.prog 23 #[.slice ao ss.length cap, .int .i64 l] w fun e w' => e = .returned (.int .i64 (leftT l ss.length)) ∧ w' = w := by
  have hml' : ss.length ≤ 9223372036854775807 := by unfold maxLen at hm; omega
  by_cases hneg : l - (ss.length : Int) < 0
  · have HL : Hid (leftT l ss.length = -1) := by rw [Hid, leftT, if_neg (by omega)]
    go_enter Tryz.func23, Tryz.ntmps23
    go_wp2_with fail
    go_ret
    exact ⟨by rw [HL.out]; rfl, rfl⟩
  · have HL : Hid (leftT l ss.length = l - (ss.length : Int)) := by rw [Hid, leftT, if_pos (by omega)]
    go_enter Tryz.func23, Tryz.ntmps23
    go_wp2_with fail
    go_ret
    exact ⟨by rw [HL.out]; rfl, rfl⟩
theorem szIntS_le (w : World) (ao : Option Addr) (cap len : Nat) (l : Int) (hm : len ≤ maxLen) (h0 : 0 ≤ l) (h1 : l ≤ 1048576) :
    Calls Tryz.prog 24 #[.slice ao len cap, .int .i64 l] w fun e w' => (∃ r, e = .returned (.int .i64 r) ∧ LeftB len r) ∧ Kept w w' := by
  by_cases h : l - (len : Int) < 0
  · refine (szIntS_over w ao cap len l h h0 h1 (by unfold maxLen at hm; omega)).mono ?_
    rintro e w' ⟨rfl, rfl⟩
    exact ⟨⟨_, rfl, .inr rfl⟩, Below.refl _ _⟩
  · refine (szIntS_from w ao cap len l (by omega) h1).mono ?_
    rintro e w' ⟨rfl, rfl⟩
    exact ⟨⟨_, rfl, .inl ⟨by omega, by omega, decide_eq_false (by omega), by omega⟩⟩, Below.refl _ _⟩
theorem szIntS_lf (w : World) (ao : Option Addr) (cap len : Nat) (l : Int) (hm : len ≤ maxLen) (h0 : 0 ≤ l) (h1 : l ≤ 1048576) :
    Calls Tryz.prog 24 #[.slice ao len cap, .int .i64 l] w fun e w' => (∃ r, e = .returned (.int .i64 r) ∧ LeftB len r ∧ (r = -1 ∨ (len : Int) ≤ l)) ∧ Kept w w' := by
  by_cases h : l - (len : Int) < 0
  · refine (szIntS_over w ao cap len l h h0 h1 (by unfold maxLen at hm; omega)).mono ?_
    rintro e w' ⟨rfl, rfl⟩
    exact ⟨⟨_, rfl, .inr rfl, .inl rfl⟩, Below.refl _ _⟩
  · refine (szIntS_from w ao cap len l (by omega) h1).mono ?_
    rintro e w' ⟨rfl, rfl⟩
    exact ⟨⟨_, rfl, .inl ⟨by omega, by omega, decide_eq_false (by omega), by omega⟩, .inr (by omega)⟩, Below.refl _ _⟩
theorem szMarker_le (w : World) (ga ba : Option Addr) (gc bc lg lb : Nat) (ph at' l : Int) (hm : lg ≤ maxLen) (hm2 : lb ≤ maxLen) (h0 : 0 ≤ l) (h1 : l ≤ 1048576) :
    Calls Tryz.prog 22 #[.agg #[.int .i64 ph, .slice ga lg gc, .slice ba lb bc, .int .i64 at'], .int .i64 l] w fun e w' => (∃ r, e = .returned (.int .i64 r) ∧ LeftB (lg + lb) r) ∧ Kept w w' := by
  by_cases h : l - (lg : Int) - (lb : Int) < 0
  · refine (szMarker_over w ga ba gc bc lg lb ph at' l h h0 h1 (by unfold maxLen at hm; omega) (by unfold maxLen at hm2; omega)).mono ?_
    rintro e w' ⟨rfl, hk⟩
    exact ⟨⟨_, rfl, .inr rfl⟩, hk⟩
  · refine (szMarker_ok w ga ba gc bc lg lb ph at' l (by omega) h1).mono ?_
    rintro e w' ⟨rfl, hk⟩
    exact ⟨⟨_, rfl, .inl ⟨by omega, by omega, decide_eq_false (by omega), by omega⟩⟩, hk⟩
set_option maxHeartbeats 8000000 in
set_option maxRecDepth 100000 in
theorem szSlab_le (w : World) (ao : Option Addr) (cap len : Nat) (l : Int) (hm : len ≤ maxLen) (h0 : 0 ≤ l) (h1 : l ≤ 1048576) :
    Calls Tryz.prog 21 #[.agg #[.slice ao len cap], .int .i64 l] w fun e w' => (∃ r, e = .returned (.int .i64 r) ∧ LeftB len r) ∧ Kept w w' := by
  have k0 : Kept w (w.alloc (.cells #[.slice ao len cap] 28)) := Kept.alloc (Below.refl _ _) _
  have hC := szIntS_le (w.alloc (.cells #[.slice ao len cap] 28)) ao cap len l hm h0 h1
  clear h0 h1 hm
  go_enter Tryz.func21, Tryz.ntmps21
  go_wp2_with fail
  refine hC.mono ?_
  rintro e w1 ⟨⟨r, rfl, hr⟩, hk1⟩
  have HR : Hid _ := hr
  rcases hr with ⟨_, _, hd, _⟩ | rfl
  · go_wp2_with fail
    go_ret
    exact ⟨⟨_, rfl, HR.out⟩, k0.trans hk1⟩
  · go_wp2_with fail
    go_ret
    exact ⟨⟨_, rfl, .inr rfl⟩, k0.trans hk1⟩
set_option maxHeartbeats 8000000 in
set_option maxRecDepth 100000 in
theorem szUnit_le (w : World) (ca ta : Option Addr) (cc tc : Nat) (cs : List Cod) (ts : List ByteArray) (l : Int) (hA : CodsA w ca cs) (hF : FitC cs) (hB : StA w ta ts) (hG : FitT ts) (h0 : 0 ≤ l) (h1 : l ≤ 1048576) :
    Calls Tryz.prog 13 #[.agg #[.slice ca cs.length cc, .slice ta ts.length tc], .int .i64 l] w fun e w' => (∃ r, e = .returned (.int .i64 r) ∧ LeftB (blkC cs + blkT ts) r) ∧ Kept w w' := by
  have k0 : Kept w (w.alloc (.cells #[.slice ca cs.length cc, .slice ta ts.length tc] 25)) := Kept.alloc (Below.refl _ _) _
  have bx := Cells.new w 25 #[.slice ca cs.length cc, .slice ta ts.length tc]
  have hC := szCodeS_ok _ ca cc cs l (hA.kept k0) hF h0 h1
  obtain ⟨q, hq⟩ : ∃ q, leftT l (blkC cs) = q := ⟨_, rfl⟩
  rw [hq] at hC
  by_cases hb : ((blkC cs : Nat) : Int) ≤ l
  · have hq2 : q = l - ((blkC cs : Nat) : Int) := by rw [← hq]; exact if_pos hb
    have hd : decide (q < 0) = false := decide_eq_false (by omega)
    have HD : Hid (∀ u, Kept (w.alloc (.cells #[.slice ca cs.length cc, .slice ta ts.length tc] 25)) u → Calls Tryz.prog 25 #[.slice ta ts.length tc, .int .i64 q] u fun e w' => (∃ r, e = .returned (.int .i64 r) ∧ LeftB (blkC cs + blkT ts) r ∧ (r = -1 ∨ decide (r < 0) = false)) ∧ w' = u) := fun u hu => by
      refine (szStringS_ok u ta tc ts q ((hB.kept k0).kept hu) hG (by omega) (by omega)).mono ?_
      rintro e w' ⟨rfl, rfl⟩
      refine ⟨⟨_, rfl, ?_, ?_⟩, rfl⟩
      · unfold LeftB leftT
        split
        · left
          exact ⟨by omega, by omega, decide_eq_false (by omega), by omega⟩
        · right; rfl
      · unfold leftT
        split
        · right; exact decide_eq_false (by omega)
        · left; rfl
    clear hq hq2 hb h0 h1 hA hB hF hG
    go_enter Tryz.func13, Tryz.ntmps13
    go_wp2_with fail
    refine hC.mono ?_
    rintro e w1 ⟨rfl, hk1⟩
    have mm := bx.kept hk1
    have m0 := mm.cell 0
    have m1 := mm.cell 1
    go_wp2_with fail
    refine (HD.out _ hk1).mono ?_
    rintro e w2 ⟨⟨r, rfl, hr, hd2⟩, rfl⟩
    have HR : Hid _ := hr
    rcases hd2 with rfl | hd2
    · go_wp2_with fail
      go_ret
      exact ⟨⟨_, rfl, .inr rfl⟩, Kept.trans k0 hk1⟩
    · go_wp2_with fail
      go_ret
      exact ⟨⟨_, rfl, HR.out⟩, Kept.trans k0 hk1⟩
  · obtain rfl : -1 = q := by rw [← hq]; exact (if_neg hb).symm
    clear hq hb h0 h1 hA hB hF hG
    go_enter Tryz.func13, Tryz.ntmps13
    go_wp2_with (go_at_call 47; refine hC.mono ?_; rintro e w1 ⟨rfl, hk1⟩)
    go_ret
    exact ⟨⟨-1, rfl, .inr rfl⟩, Kept.trans k0 hk1⟩
set_option maxHeartbeats 8000000 in
set_option maxRecDepth 100000 in
theorem szMachine_ok (w : World) (h : MchH) (m : Mch) (hA : MchA w h m) (hF : MchFit m) :
    Calls Tryz.prog 6 #[.agg (mchC h m), .int .i64 1048576] w fun e w' => (∃ r, e = .returned (.int .i64 r) ∧ ((decide (r < 0) = false ∧ MchLe m) ∨ r = -1)) ∧ Kept w w' := by
  obtain ⟨WX, hWX⟩ : ∃ WX, w.alloc (.cells (mchC h m) 33) = WX := ⟨_, rfl⟩
  have k0 : Kept w WX := hWX ▸ Kept.alloc (Below.refl _ _) _
  have bx : Cells WX w.heap.size 33 (mchC h m) := hWX ▸ Cells.new w 33 (mchC h m)
  have HX : Hid (∀ u, Kept WX u → Cells u w.heap.size 33 (mchC h m)) := fun u hu => bx.kept hu
  have H1 : Hid (Calls Tryz.prog 13 #[.agg #[.slice h.ca m.cs.length h.cc, .slice h.ta m.ts.length h.tc], .int .i64 1048576] WX fun e w' => (∃ r, e = .returned (.int .i64 r) ∧ LeftB (blkC m.cs + blkT m.ts) r) ∧ Kept WX w') := szUnit_le WX h.ca h.ta h.cc h.tc m.cs m.ts 1048576 (hA.kept k0).c hF.c (hA.kept k0).t hF.t (by decide) (by decide)
  have H6 : Hid (∀ u l, Kept WX u → 0 ≤ l → l ≤ 1048576 → Calls Tryz.prog 25 #[.slice h.la m.ls.length h.lc, .int .i64 l] u fun e w' => (∃ r, e = .returned (.int .i64 r) ∧ LeftB (blkT m.ls) r) ∧ w' = u) := fun u l hu h0 h1 => by
    refine (szStringS_ok u h.la h.lc m.ls l (hA.l.kept (k0.trans hu)) hF.l h0 h1).mono ?_
    rintro e w' ⟨rfl, rfl⟩
    exact ⟨⟨_, rfl, LeftB.of h0 h1⟩, rfl⟩
  have HF : Hid _ := hF
  have HK0 : Hid (Kept w WX) := k0
  have a0 := bx.m0; have a1 := bx.m1
  clear hA hF bx k0
  go_enter Tryz.func6, Tryz.ntmps6
  go_upto_region 1 with (fail)
  try simp only [hWX]
  clear hWX
  go_wp2_with fail
  refine H1.out.mono ?_
  rintro e w1 ⟨⟨r1, rfl, hr1⟩, k1⟩
  clear a0 a1
  rcases hr1 with ⟨u1, u2, hd1, hn1⟩ | rfl
  rotate_left
  · go_wp2_with fail
    go_ret
    exact ⟨⟨_, rfl, .inr rfl⟩, Kept.trans HK0.out k1⟩
  have HN1 : Hid _ := hn1
  clear hn1
  have a2 := (HX.out _ k1).m2
  have H2 := szSlab_le w1 h.sa h.sc m.zs.length r1 HF.out.z u1 u2
  clear u1 u2
  go_wp2_with fail
  refine H2.mono ?_
  rintro e w2 ⟨⟨r2, rfl, hr2⟩, k2'⟩
  have k2 := k1.trans k2'
  clear a2 k2' hd1
  rcases hr2 with ⟨u1, u2, hd2, hn2⟩ | rfl
  rotate_left
  · go_wp2_with fail
    go_ret
    exact ⟨⟨_, rfl, .inr rfl⟩, Kept.trans HK0.out k2⟩
  have HN2 : Hid _ := hn2
  clear hn2
  have a3 := (HX.out _ k2).m3; have a4 := (HX.out _ k2).m4; have a5 := (HX.out _ k2).m5; have a6 := (HX.out _ k2).m6
  have H3 := szMarker_le w2 h.ga h.ba h.gc h.bc m.gs.length m.bs.length m.ph m.at' r2 HF.out.g HF.out.b u1 u2
  clear u1 u2 k1
  go_wp2_with fail
  refine H3.mono ?_
  rintro e w3 ⟨⟨r3, rfl, hr3⟩, k3'⟩
  have k3 := k2.trans k3'
  clear a3 a4 a5 a6 k3' hd2
  rcases hr3 with ⟨u1, u2, hd3, hn3⟩ | rfl
  rotate_left
  · go_wp2_with fail
    go_ret
    exact ⟨⟨_, rfl, .inr rfl⟩, Kept.trans HK0.out k3⟩
  have HN3 : Hid _ := hn3
  clear hn3
  have a7 := (HX.out _ k3).m7
  have H4 := szFrameS_ok w3 h.fa h.fc m.fs r3 HF.out.f u1 u2
  have hr4 := LeftB.of (n := m.fs.length) u1 u2
  have hs4 := leftT_sum r3 m.fs.length
  have H3u : Hid (r3 ≤ 1048576) := u2
  clear u1 u2 k2
  go_wp2_with fail
  refine H4.mono ?_
  rintro e w4 ⟨rfl, rfl⟩
  obtain ⟨r4, hr4e⟩ : ∃ r, leftT r3 m.fs.length = r := ⟨_, rfl⟩
  rw [hr4e] at hr4 hs4
  simp only [hr4e]
  clear a7 hd3 hr4e
  rcases hr4 with ⟨u1, u2, hd4, hn4⟩ | rfl
  rotate_left
  · go_wp2_with fail
    go_ret
    exact ⟨⟨_, rfl, .inr rfl⟩, Kept.trans HK0.out k3⟩
  have HN4 : Hid _ := hn4
  have HS4 : Hid (r4 + (m.fs.length : Int) ≤ 1048576) := by have := H3u.out; rw [Hid]; omega
  clear hn4 hs4
  have a8 := (HX.out _ k3).m8
  have H5 := szIntS_lf w4 h.ka h.kc m.ks.length r4 HF.out.k u1 u2
  clear u1 u2
  go_wp2_with fail
  refine H5.mono ?_
  rintro e w5 ⟨⟨r5, rfl, hr5, hs5⟩, k5'⟩
  have k5 := k3.trans k5'
  clear a8 k5' hd4
  rcases hr5 with ⟨u1, u2, hd5, hn5⟩ | rfl
  rotate_left
  · go_wp2_with fail
    go_ret
    exact ⟨⟨_, rfl, .inr rfl⟩, Kept.trans HK0.out k5⟩
  have HN5 : Hid _ := hn5
  have HS5 : Hid (m.ks.length + m.fs.length ≤ 1048576) := by have := HS4.out; rw [Hid]; omega
  clear hn5 hs5
  have a9 := (HX.out _ k5).m9
  have H7 := H6.out w5 r5 k5 u1 u2
  clear u1 u2 k3
  go_wp2_with fail
  refine H7.mono ?_
  rintro e w6 ⟨⟨r6, rfl, hr6⟩, rfl⟩
  clear a9 hd5
  rcases hr6 with ⟨u1, u2, hd6, hn6⟩ | rfl
  rotate_left
  · go_wp2_with fail
    go_ret
    exact ⟨⟨_, rfl, .inr rfl⟩, Kept.trans HK0.out k5⟩
  have HN6 : Hid _ := hn6
  clear hn6
  clear u1 u2
  go_wp2_with fail
  go_ret
  refine ⟨⟨r6, rfl, .inl ⟨hd6, HN1.out, HN2.out, ?_, ?_, HN4.out, HN5.out, HN6.out, HS5.out⟩⟩, Kept.trans HK0.out k5⟩
  · exact Nat.le_trans (Nat.le_add_right _ _) HN3.out
  · exact Nat.le_trans (Nat.le_add_left _ _) HN3.out
end Go.Proofs.YtgempjjnfpmndaaGreatDoor
namespace Go.Proofs.YtgempjjnfpmndaaGreatDoor
open Go.ChangeShapes Go.WideShapes Go.ChangeAt Go.RowKit
set_option linter.unusedSimpArgs false
set_option linter.unusedVariables false
set_option maxHeartbeats 8000000 in
set_option maxRecDepth 100000 in
theorem eqFrame_ok (w : World) (o a b : Int) :
    Calls Tryz.prog 92 #[.agg #[.int .i64 o, .int .i64 a, .int .i64 b], .agg #[.int .i64 o, .int .i64 a, .int .i64 b]] w fun e w' => e = .returned (.bool true) ∧ Kept w w' := by
  have h0 : (o != o) = false := by simp
  have h1 : (a != a) = false := by simp
  have h2 : (b != b) = false := by simp
  go_enter Tryz.func92, Tryz.ntmps92
  go_wp2_with fail
  go_ret
  exact ⟨rfl, (Kept.alloc (Below.refl _ w) _).alloc _⟩
set_option maxHeartbeats 8000000 in
set_option maxRecDepth 100000 in
theorem eqFrameS_ok (w : World) (ao bo : Option Addr) (ca cb : Nat) (ss : List Stp) (hA : StpsA w ao ss) (hB : StpsA w bo ss) (hl : ss.length ≤ 1048576) :
    Calls Tryz.prog 42 #[.slice ao ss.length ca, .slice bo ss.length cb] w fun e w' => e = .returned (.bool true) ∧ Kept w w' := by
  have HA : Hid _ := hA
  have HB : Hid _ := hB
  clear hA hB
  go_enter Tryz.func42, Tryz.ntmps42
  go_wp2_with fail
  go_loopw [5] (fun i wr => ∃ k : Nat, i = .int .i64 k ∧ k ≤ ss.length ∧ Hid (Kept w wr)) (fun i _ => ss.length - (intOf i).toNat)
  case atStart => exact ⟨0, rfl, Nat.zero_le _, Below.refl _ _⟩
  case round =>
    obtain ⟨k, rfl, hk, HK⟩ := hrel
    by_cases hlt : k < ss.length
    · obtain ⟨t, ht⟩ : ∃ t, ss[k]? = some t := ⟨_, List.getElem?_eq_getElem hlt⟩
      have kd : Kept w wr.drew := Below.drew HK.out
      obtain ⟨b, off, rfl, h0, h1, h2⟩ := (StpsA.kept HA.out kd) k t ht
      obtain ⟨b', off', rfl, h0', h1', h2'⟩ := (StpsA.kept HB.out kd) k t ht
      have hC := eqFrame_ok wr.drew t.1 t.2.1 t.2.2
      have q1 : (k : Int) < (ss.length : Int) := by omega
      have q0 : (0 : Int) ≤ (k : Int) := by omega
      have HD : Hid _ := kd
      clear ht kd
      go_wp2_with fail
      go_region_with (go_at_call 92; refine hC.mono ?_; rintro e wx ⟨rfl, hkx⟩)
      all_goals (
        go_wp2_with fail
        go_roundw
        case rel => exact ⟨k + 1, by go_num, by omega, Kept.trans HD.out hkx⟩
        case measure => simp [intOf]; omega)
    · have q1 : ¬ (k : Int) < (ss.length : Int) := by omega
      go_wp2_with fail
      go_ret
      exact ⟨rfl, HK.out⟩
set_option maxHeartbeats 16000000 in
set_option maxRecDepth 100000 in
theorem eqMachine_ok (w : World) (h h' : MchH) (m : Mch) (hA : MchA w h m) (hB : MchA w h' m) (hL : MchLe m) :
    Calls Tryz.prog 10 #[.agg (mchC h m), .agg (mchC h' m)] w fun e w' => e = .returned (.bool true) ∧ Kept w w' := by
  obtain ⟨W0, hW0⟩ : ∃ W0, (w.alloc (.cells (mchC h m) 43)).alloc (.cells (mchC h' m) 43) = W0 := ⟨_, rfl⟩
  have X0 : Hid (Cells W0 w.heap.size 43 (mchC h m)) := hW0 ▸ (Cells.new w 43 (mchC h m)).alloc _
  have X1 : Hid (Cells W0 (w.heap.size + 1) 43 (mchC h' m)) := by
    have y := Cells.new (w.alloc (.cells (mchC h m) 43)) 43 (mchC h' m)
    rw [hW0] at y
    simp only [World.size_alloc] at y
    exact y
  have HK : Hid (Kept w W0) := hW0 ▸ (Kept.alloc (Below.refl _ _) _).alloc _
  have HA : Hid _ := hA
  have HB : Hid _ := hB
  have HL : Hid _ := hL
  have i1 : (m.ov != m.ov) = false := by simp
  have i2 : (m.cd != m.cd) = false := by simp
  clear hA hB hL
  go_enter Tryz.func10, Tryz.ntmps10
  go_upto_region 1 with (fail)
  try simp only [hW0]
  clear hW0
  have a0 := Cells.m0 X0.out
  have b0 := Cells.m0 X1.out
  have a1 := Cells.m1 X0.out
  have b1 := Cells.m1 X1.out
  have hC := eqUnit_ok W0 h.ca h'.ca h.ta h'.ta h.cc h'.cc h.tc h'.tc m.cs m.ts (MchA.kept HA.out HK.out).c (MchA.kept HB.out HK.out).c (MchA.kept HA.out HK.out).t (MchA.kept HB.out HK.out).t HL.out.c HL.out.i HL.out.t
  go_wp2_with fail
  refine hC.mono ?_
  rintro e W1 ⟨rfl, hk⟩
  replace X0 : Hid (Cells W1 w.heap.size 43 (mchC h m)) := Cells.kept X0.out hk
  replace X1 : Hid (Cells W1 (w.heap.size + 1) 43 (mchC h' m)) := Cells.kept X1.out hk
  replace HK : Hid (Kept w W1) := Kept.trans HK.out hk
  clear hC hk a0 b0 a1 b1
  have a2 := Cells.m2 X0.out
  have b2 := Cells.m2 X1.out
  have hC := eqSlab_ok W1 h.sa h'.sa h.sc h'.sc m.zs (MchA.kept HA.out HK.out).z (MchA.kept HB.out HK.out).z (by have := HL.out.z; omega)
  go_wp2_with fail
  refine hC.mono ?_
  rintro e W2 ⟨rfl, hk⟩
  replace X0 : Hid (Cells W2 w.heap.size 43 (mchC h m)) := Cells.kept X0.out hk
  replace X1 : Hid (Cells W2 (w.heap.size + 1) 43 (mchC h' m)) := Cells.kept X1.out hk
  replace HK : Hid (Kept w W2) := Kept.trans HK.out hk
  clear hC hk a2 b2
  have a3 := Cells.m3 X0.out
  have b3 := Cells.m3 X1.out
  have a4 := Cells.m4 X0.out
  have b4 := Cells.m4 X1.out
  have a5 := Cells.m5 X0.out
  have b5 := Cells.m5 X1.out
  have a6 := Cells.m6 X0.out
  have b6 := Cells.m6 X1.out
  have hC := eqMarker_ok W2 h.ga h.ba h'.ga h'.ba h.gc h.bc h'.gc h'.bc m.ph m.at' m.gs m.bs (MchA.kept HA.out HK.out).g (MchA.kept HB.out HK.out).g (MchA.kept HA.out HK.out).b (MchA.kept HB.out HK.out).b (by have := HL.out.g; omega) (by have := HL.out.b; omega)
  go_wp2_with fail
  refine hC.mono ?_
  rintro e W3 ⟨rfl, hk⟩
  replace X0 : Hid (Cells W3 w.heap.size 43 (mchC h m)) := Cells.kept X0.out hk
  replace X1 : Hid (Cells W3 (w.heap.size + 1) 43 (mchC h' m)) := Cells.kept X1.out hk
  replace HK : Hid (Kept w W3) := Kept.trans HK.out hk
  clear hC hk a3 b3 a4 b4 a5 b5 a6 b6
  have a7 := Cells.m7 X0.out
  have b7 := Cells.m7 X1.out
  have hC := eqFrameS_ok W3 h.fa h'.fa h.fc h'.fc m.fs (MchA.kept HA.out HK.out).f (MchA.kept HB.out HK.out).f HL.out.f
  go_wp2_with fail
  refine hC.mono ?_
  rintro e W4 ⟨rfl, hk⟩
  replace X0 : Hid (Cells W4 w.heap.size 43 (mchC h m)) := Cells.kept X0.out hk
  replace X1 : Hid (Cells W4 (w.heap.size + 1) 43 (mchC h' m)) := Cells.kept X1.out hk
  replace HK : Hid (Kept w W4) := Kept.trans HK.out hk
  clear hC hk a7 b7
  have a8 := Cells.m8 X0.out
  have b8 := Cells.m8 X1.out
  have hC := eqIntS_ok W4 h.ka h'.ka h.kc h'.kc m.ks (MchA.kept HA.out HK.out).k (MchA.kept HB.out HK.out).k (by have := HL.out.k; omega)
  go_wp2_with fail
  refine hC.mono ?_
  rintro e W5 ⟨rfl, hk⟩
  replace X0 : Hid (Cells W5 w.heap.size 43 (mchC h m)) := Cells.kept X0.out hk
  replace X1 : Hid (Cells W5 (w.heap.size + 1) 43 (mchC h' m)) := Cells.kept X1.out hk
  replace HK : Hid (Kept w W5) := Kept.trans HK.out hk
  clear hC hk a8 b8
  have a9 := Cells.m9 X0.out
  have b9 := Cells.m9 X1.out
  have hC := eqStrS_ok W5 h.la h'.la h.lc h'.lc m.ls (MchA.kept HA.out HK.out).l (MchA.kept HB.out HK.out).l HL.out.l'
  go_wp2_with fail
  refine hC.mono ?_
  rintro e W6 ⟨rfl, hk⟩
  replace X0 : Hid (Cells W6 w.heap.size 43 (mchC h m)) := Cells.kept X0.out hk
  replace X1 : Hid (Cells W6 (w.heap.size + 1) 43 (mchC h' m)) := Cells.kept X1.out hk
  replace HK : Hid (Kept w W6) := Kept.trans HK.out hk
  clear hC hk a9 b9
  have a10 := Cells.m10 X0.out
  have b10 := Cells.m10 X1.out
  have a11 := Cells.m11 X0.out
  have b11 := Cells.m11 X1.out
  go_wp2_with fail
  go_ret
  exact ⟨rfl, HK.out⟩
end Go.Proofs.YtgempjjnfpmndaaGreatDoor
