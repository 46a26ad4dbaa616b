/-
  The law FnProtos is proved: for every slice of bytes, the prototype that is drawn of it and set in the heap that is drawn leaves a right heap and is there; what an object has itself is what is looked up; a new object has no names, and leaves a right heap; the program's ProtoSet, Look and ObjNew answer as their models; nothing that was there is written.
-/
import Derived.Test.YtpbafjcoomfooaaGreatRows
import Derived.WalkKit
import Derived.ProofKit
import Derived.OpenShut
import Derived.ShutString
import Derived.ChangeOld
import Derived.Below
import Derived.Deep.RegionWith
import Derived.Deep.CutRange
import Derived.Test.YtpbafjcoomfooaaGreatGrpIk
import Derived.Test.YtpbafjcoomfooaaGreatGrpZ
import Derived.Test.YtpbafjcoomfooaaGreatGrpO
import Derived.Test.YtpbafjcoomfooaaGreatGrpX
import Derived.Test.YtpbafjcoomfooaaGreatGrpE
import Derived.Test.YtpbafjcoomfooaaGreatZShapeQ
import Derived.Test.YtpbafjcoomfooaaGreatGrpD
namespace Go.Proofs.YtpbafjcoomfooaaGreat.fnProtos
open Go.ChangeShapes Go.WideShapes Go.ChangeAt Go.RowKit
open Go.ChangeMaps (open_string shut_string)
set_option linter.unusedVariables false

theorem own : ownKnob Tryz.prog.godebug = none := by kernel_rfl
theorem laidOut : laidOutB Tryz.prog = true := by kernel_rfl

/-- WHAT THE WALK IS TOLD OF A SLICE OF INTEGERS THAT CAME IN: it is nil; or it leads to a row of 'cap' cells, the numbers 'zs' (the first 'len' are its elements, the rest its spare room), each fitting its kind. -/
def IsRow (k : IntKind) (w : World) (a : Option Addr) (len cap : Nat) (zs : List Int) : Prop :=
  (a = none ∧ len = 0 ∧ cap = 0 ∧ zs = []) ∨
  ∃ x, a = some x ∧ len ≤ cap ∧ cap ≤ maxLen ∧ zs.length = cap ∧ (∀ i, i < zs.length → w.cell? (x.add i) = some (.int k (zs.getD i 0))) ∧ ∀ n ∈ zs, (Lit.int k n).wf = true

set_option maxRecDepth 100000 in
set_option maxHeartbeats 32000000 in

theorem walk (a0 : Option Addr) (len0 cap0 : Nat) (z0 : List Int) (w : World) (w0 : IsRow .u8 w a0 len0 cap0 z0) :
    Calls Tryz.prog 5 #[.slice a0 len0 cap0] w fun e w' => e = .returned (.bool true) ∧ Below w.heap.size w w' := by
  have hs := src_of w0
  clear w0
  have hlen := hs.1
  by_cases hbig : (1048576 : Int) < (len0 : Int)
  · go_enter Tryz.func5, Tryz.ntmps5
    go_wp2_with (first | (go_at_call 6; go_in))
    go_ret
    exact ⟨rfl, Below.refl _ _⟩
  · have hD := DrawProtoSet_ok a0 len0 cap0 _ _ hs
    go_enter Tryz.func5, Tryz.ntmps5
    go_wp2_with (first | (go_at_call 6; go_in))
    refine hD.mono ?_
    rintro e w1 ⟨v, zs, x, y, rfl, hO, hl, hx, hy, hK1⟩
    obtain ⟨ao, cp, rfl, hI, _, hcp⟩ := hO
    have hl' : zs.length ≤ 1048576 := by omega
    have hrl := proSetC_len zs x y
    obtain ⟨rs, hrs⟩ : ∃ rs, (proSetC zs x y).1 = rs := ⟨_, rfl⟩
    obtain ⟨ok, hok⟩ : ∃ ok, (proSetC zs x y).2 = ok := ⟨_, rfl⟩
    have HPS : Hid (ok = true → heapR rs = true ∧ rs.length ≤ 2000 ∧ ∃ a : Nat, x / 8 = a ∧ a + 1 < rs.length ∧ hz rs (a + 1) = y) := fun e => proSet_facts (by rw [← hrs, ← e, ← hok])
    have hP1 := fun (u : World) (hu : Ints u ao zs) => impl_ProtoSet_ok u ao cp zs x y hu hl' hx hy
    have hP2 := fun (u : World) (hu : Ints u ao zs) => spec_ProtoSet_ok u ao cp zs x y hu hl' hx hy
    rw [hrs, hok] at hP1 hP2
    rw [hrs] at hrl
    have hrl' : rs.length ≤ 1048576 := by omega
    have HNm : Hid (∀ u, Calls Tryz.prog 34 #[.int .i64 x] u fun e w' => e = .returned (.int .i64 (x / 8)) ∧ u = w') := fun u => impl_Num_ok x u hx.1 hx.2
    have ka : Kept w1 (w1.alloc (.cells #[.slice ao zs.length cp] 26)) := Kept.alloc (Below.refl _ _) _
    have xs := Cells.new w1 26 #[.slice ao zs.length cp]
    have hIa := hI.kept ka
    have hKa := hK1.trans ka
    have hH1 := hP1 _ hIa
    clear hD ka hI hK1 hP1 hrs hok hrl
    go_wp2_with fail
    refine hH1.mono ?_
    rintro e w2 ⟨vu, rfl, hOu, hk2⟩
    obtain ⟨ua, up, rfl, hIu, _, hup⟩ := hOu.ownI
    have x2 := xs.kept hk2
    have hI2 := hIa.kept hk2
    have K2 := hKa.trans hk2
    clear hH1 xs hIa hKa hk2 hOu
    have kb : Kept w2 (w2.alloc (.cells #[.slice ua rs.length up] 26)) := Kept.alloc (Below.refl _ _) _
    have xu := Cells.new w2 26 #[.slice ua rs.length up]
    have x3 := x2.kept kb
    have hI3 := hI2.kept kb
    have hIu3 := hIu.kept kb
    have K3 := K2.trans kb
    have c3 := x3.cell 0
    have hH2 := hP2 _ hI3
    clear x2 hI2 hIu K2 kb hP2
    go_wp2_with fail
    obtain ⟨W3, hW3⟩ : ∃ W3, w2.alloc (.cells #[.slice ua rs.length up] 26) = W3 := ⟨_, rfl⟩
    obtain ⟨BU, hBU⟩ : ∃ BU, w2.heap.size = BU := ⟨_, rfl⟩
    rw [hW3] at xu x3 hI3 hIu3 K3 hH2
    rw [hBU] at xu
    simp only [hW3, hBU]
    clear c3 hW3 hBU x3 hI3
    refine hH2.mono ?_
    rintro e w4 ⟨vw, rfl, hOw, hk4⟩
    obtain ⟨wa, wp, rfl, hIw, _, _⟩ := hOw.ownI
    have kc : Kept w4 (w4.alloc (.cells #[.slice wa rs.length wp] 26)) := Kept.alloc (Below.refl _ _) _
    have xw := Cells.new w4 26 #[.slice wa rs.length wp]
    have xu5 := (xu.kept hk4).kept kc
    have hIu5 := (hIu3.kept hk4).kept kc
    have hIw5 := hIw.kept kc
    have K5 := (K3.trans hk4).trans kc
    have n1 : (ok != ok) = false := by simp
    have cu5 := xu5.cell 0
    have cw5 := xw.cell 0
    have hS := sameInts_ok _ ua wa up wp rs hIu5 hIw5 hrl'
    clear hH2 hOw xu hIu3 hIw K3 hk4 kc
    go_wp2_with fail
    refine hS.mono ?_
    rintro e w6 ⟨rfl, hk6⟩
    have xu6 := xu5.kept hk6
    have hIu6 := hIu5.kept hk6
    have K6 := K5.trans hk6
    have hD2 := DrawLook_ok a0 len0 cap0 _ _ (hs.below K6)
    clear hS xw cw5 cu5 hIw5 xu5 hIu5 K5 hk6
    go_wp2_with fail
    refine hD2.mono ?_
    rintro e w7 ⟨vh, hsL, o, n, rfl, hOh, hlh, hob, hnb, hk7⟩
    obtain ⟨ha, hp, rfl, hIh, _, _⟩ := hOh
    have kd : Kept w7 (w7.alloc (.cells #[.slice ha hsL.length hp] 26)) := Kept.alloc (Below.refl _ _) _
    have xh := Cells.new w7 26 #[.slice ha hsL.length hp]
    have xu8 := (xu6.kept hk7).kept kd
    have hIu8 := (hIu6.kept hk7).kept kd
    have hIh8 := hIh.kept kd
    have K8 := (K6.trans hk7).trans kd
    have hh' : hsL.length ≤ 1048576 := by omega
    obtain ⟨lx, see, hlk⟩ := lookV_tuple hsL o n
    obtain ⟨oz, own, how⟩ := ownV_tuple hsL o n
    have HOS : Hid (own = true → see = true ∧ oz = lx) := fun e => own_see (by rw [how, e]) hlk
    have HL1 := fun (u : World) (hu : Ints u ha hsL) => impl_Look_ok u ha hp hsL o n hu hh' hob hnb
    have HL2 := fun (u : World) (hu : Ints u ha hsL) => spec_Look_ok u ha hp hsL o n hu hh' hob hnb
    have HO1 := fun (u : World) (hu : Ints u ha hsL) => impl_Own_ok u ha hp hsL o n hu hh' hob hnb
    rw [hlk] at HL1 HL2
    rw [how] at HO1
    have hL1 := HL1 _ hIh8
    clear hD2 xu6 hIu6 K6 hk7 kd hIh hlk how HL1
    go_wp2_with fail
    obtain ⟨W8, hW8⟩ : ∃ W8, w7.alloc (.cells #[.slice ha hsL.length hp] 26) = W8 := ⟨_, rfl⟩
    obtain ⟨BH, hBH⟩ : ∃ BH, w7.heap.size = BH := ⟨_, rfl⟩
    rw [hW8] at xh xu8 hIu8 hIh8 K8 hL1
    rw [hBH] at xh
    simp only [hW8, hBH]
    clear hW8 hBH
    refine hL1.mono ?_
    rintro e w9 ⟨rfl, hk9⟩
    have xh9 := xh.kept hk9
    have xu9 := xu8.kept hk9
    have hIu9 := hIu8.kept hk9
    have hIh9 := hIh8.kept hk9
    have K9 := K8.trans hk9
    have ch9 := xh9.cell 0
    have hL2 := HL2 _ hIh9
    clear hL1 HL2 xh xu8 hIu8 hIh8 K8 hk9
    go_wp2_with fail
    refine hL2.mono ?_
    rintro e w10 ⟨rfl, hk10⟩
    have xh10 := xh9.kept hk10
    have xu10 := xu9.kept hk10
    have hIu10 := hIu9.kept hk10
    have hIh10 := hIh9.kept hk10
    have K10 := K9.trans hk10
    have ch10 := xh10.cell 0
    have hO1 := HO1 _ hIh10
    clear hL2 HO1 xh9 ch9 xu9 hIu9 hIh9 K9 hk10
    go_wp2_with fail
    refine hO1.mono ?_
    rintro e w11 ⟨rfl, hk11⟩
    have xu11 := xu10.kept hk11
    have hIu11 := hIu10.kept hk11
    have K11 := K10.trans hk11
    have n2 : (lx != lx) = false := by simp
    have n3 : (see != see) = false := by simp
    clear hO1 xh10 ch10 xu10 hIu10 hIh10 K10 hk11
    cases own
    all_goals (
      first
      | (obtain ⟨eS, eZ⟩ := HOS.out rfl; subst eS; subst eZ)
      | skip
      clear HOS
      have hD3 := DrawObjNew_ok a0 len0 cap0 _ _ (hs.below K11)
      go_wp2_with fail
      refine hD3.mono ?_
      rintro e w12 ⟨vn, ns, p, rfl, hOn, hln, hpb, hk12⟩
      obtain ⟨na, np, rfl, hIn, _, _⟩ := hOn
      have ke : Kept w12 (w12.alloc (.cells #[.slice na ns.length np] 26)) := Kept.alloc (Below.refl _ _) _
      have xn := Cells.new w12 26 #[.slice na ns.length np]
      have xu13 := (xu11.kept hk12).kept ke
      have hIu13 := (hIu11.kept hk12).kept ke
      have hIn13 := hIn.kept ke
      have K13 := (K11.trans hk12).trans ke
      have hn' : ns.length ≤ 1048576 := by omega
      have hml := objNewC_len ns p
      obtain ⟨ms, hms⟩ : ∃ ms, (objNewC ns p).1 = ms := ⟨_, rfl⟩
      obtain ⟨r, hr⟩ : ∃ r, (objNewC ns p).2.1 = r := ⟨_, rfl⟩
      obtain ⟨made, hmade⟩ : ∃ made, (objNewC ns p).2.2 = made := ⟨_, rfl⟩
      have HON : Hid (made = true → heapR ms = true ∧ (-9223372036854775808 ≤ r ∧ r ≤ 9223372036854775807) ∧ hz ms (plc r + 2) = 0) := fun e => objNew_facts (by rw [← hms, ← hr, ← e, ← hmade])
      have HN1 := fun (u : World) (hu : Ints u na ns) => impl_ObjNew_ok u na np ns p hu hn' hpb
      have HN2 := fun (u : World) (hu : Ints u na ns) => (spec_ObjNew_ok u na np ns p hu hn' hpb).mono (R' := fun e w' => ∃ v, e = .returned (.tuple #[.agg #[v], .int .i64 (objNewC ns p).2.1, .bool (objNewC ns p).2.2]) ∧ OwnR w' u.heap.size v (objNewC ns p).1 ∧ Kept u w') (fun _ _ ⟨v, h1, h2, h3, _⟩ => ⟨v, h1, h2, h3⟩)
      rw [hms, hr, hmade] at HN1 HN2
      rw [hms] at hml
      have hml' : ms.length ≤ 1048576 := by omega
      have hN1 := HN1 _ hIn13
      clear hD3 xu11 hIu11 K11 hk12 ke hIn hms hr hmade hml HN1
      go_wp2_with fail
      obtain ⟨W13, hW13⟩ : ∃ W13, w12.alloc (.cells #[.slice na ns.length np] 26) = W13 := ⟨_, rfl⟩
      obtain ⟨BN, hBN⟩ : ∃ BN, w12.heap.size = BN := ⟨_, rfl⟩
      rw [hW13] at xn xu13 hIu13 hIn13 K13 hN1
      rw [hBN] at xn
      simp only [hW13, hBN]
      clear hW13 hBN
      refine hN1.mono ?_
      rintro e w14 ⟨vm, rfl, hOm, hk14⟩
      obtain ⟨ma, mp, rfl, hIm, _, _⟩ := hOm.ownI
      have kf : Kept w14 (w14.alloc (.cells #[.slice ma ms.length mp] 26)) := Kept.alloc (Below.refl _ _) _
      have xm := Cells.new w14 26 #[.slice ma ms.length mp]
      have xn15 := (xn.kept hk14).kept kf
      have xu15 := (xu13.kept hk14).kept kf
      have hIu15 := (hIu13.kept hk14).kept kf
      have hIn15 := (hIn13.kept hk14).kept kf
      have hIm15 := hIm.kept kf
      have K15 := (K13.trans hk14).trans kf
      have cn15 := xn15.cell 0
      have hN2 := HN2 _ hIn15
      clear hN1 HN2 xn xu13 hIu13 hIn13 K13 hk14 kf hIm hOm
      go_wp2_with fail
      obtain ⟨W15, hW15⟩ : ∃ W15, w14.alloc (.cells #[.slice ma ms.length mp] 26) = W15 := ⟨_, rfl⟩
      obtain ⟨BM, hBM⟩ : ∃ BM, w14.heap.size = BM := ⟨_, rfl⟩
      rw [hW15] at xm xu15 hIu15 hIm15 K15 hN2
      rw [hBM] at xm
      simp only [hW15, hBM]
      clear hW15 hBM cn15 xn15 hIn15
      refine hN2.mono ?_
      rintro e w16 ⟨vq, rfl, hOq, hk16⟩
      obtain ⟨qa, qp, rfl, _⟩ := hOq.ownI
      have kg : Kept w16 (w16.alloc (.cells #[.slice qa ms.length qp] 26)) := Kept.alloc (Below.refl _ _) _
      have xm17 := (xm.kept hk16).kept kg
      have xu17 := (xu15.kept hk16).kept kg
      have hIu17 := (hIu15.kept hk16).kept kg
      have hIm17 := (hIm15.kept hk16).kept kg
      have K17 := (K15.trans hk16).trans kg
      have cm17 := xm17.cell 0
      have n4 : (made != made) = false := by simp
      have n5 : (r != r) = false := by simp
      clear hN2 xm xu15 hIu15 hIm15 K15 hk16 kg hOq
      have fin : Hid (∀ (W : World), Kept (w16.alloc (.cells #[.slice qa ms.length qp] 26)) W → Kept w W ∧ Cells W BU 26 #[.slice ua rs.length up] ∧ Ints W ua rs) := fun W hW => ⟨K17.trans hW, xu17.kept hW, hIu17.kept hW⟩
      clear xu17 hIu17 K17
      cases made with
      | false =>
        have hkc : Kept (w16.alloc (.cells #[.slice qa ms.length qp] 26)) (w16.alloc (.cells #[.slice qa ms.length qp] 26)) := Below.refl _ _
        obtain ⟨K20, xu20, hIu20⟩ := fin.out _ hkc
        clear fin HON cm17 xm17 hIm17 hkc n4 n5
        have cu20 := xu20.cell 0
        cases ok with
        | false =>
          clear HPS
          go_wp2_with fail
          refine wp_region_seqL (by kernel_rfl) (by kernel_rfl) ?_
          repeat (first
            | (refine SeqL.skip (by rfl) ?_; simp only [Act.put, List.setIfInBounds_toArray, List.set_cons_zero, List.set_cons_succ])
            | (refine SeqL.pure ?_ (by rfl) ?_ ?_; rotate_left; (focus (intro u hu; go_simp; first | done | exact rfl)); simp only [Act.put, List.setIfInBounds_toArray, List.set_cons_zero, List.set_cons_succ])
          )
          refine SeqL.nil ?_
          intro w21 hu21
          go_wp2_with fail
          go_ret
          exact ⟨rfl, K20.trans (Kept.trans (Below.refl _ (w16.alloc (.cells #[.slice qa ms.length qp] 26))).drew hu21)⟩
        | true =>
          obtain ⟨hhr, hr2, a, hxa, hal, hza⟩ := HPS.out rfl
          have HNa := HNm.out
          rw [hxa] at HNa
          have C2 : Hid (∀ u, Kept (w16.alloc (.cells #[.slice qa ms.length qp] 26)).drew u → Calls Tryz.prog 34 #[.int .i64 x] u fun e w' => e = .returned (.int .i64 (a : Int)) ∧ Kept u w') := fun u _ => (HNa u).mono (fun e w' h => ⟨h.1, by rw [← h.2]; exact Below.refl _ _⟩)
          have kd7 : ∀ u, Kept (w16.alloc (.cells #[.slice qa ms.length qp] 26)).drew u → Kept (w16.alloc (.cells #[.slice qa ms.length qp] 26)) u := fun u hu => Kept.trans (Below.refl _ (w16.alloc (.cells #[.slice qa ms.length qp] 26))).drew hu
          have C1 : Hid (∀ u, Kept (w16.alloc (.cells #[.slice qa ms.length qp] 26)).drew u → Calls Tryz.prog 17 #[.agg #[.slice ua rs.length up]] u fun e w' => e = .returned (.bool true) ∧ Kept u w') := fun u hu => by have := impl_HeapOk_ok u ua up rs (hIu20.kept (kd7 u hu)) hrl'; rw [hhr] at this; exact this
          have y0 : ∀ u, Kept (w16.alloc (.cells #[.slice qa ms.length qp] 26)).drew u → u.cell? ⟨BU, 0, none⟩ = some (.slice ua rs.length up) := fun u hu => (xu20.kept (kd7 u hu)).cell 0
          obtain ⟨bb, off, rfl, hcc⟩ := hIu20.at (k := a + 1) hal
          have c1 := hcc (a + 1) hal
          rw [hza] at c1
          have hbl : bb < (w16.alloc (.cells #[.slice qa ms.length qp] 26)).heap.size := World.block_lt_of_cell? _ _ c1
          have y1 : ∀ u, Kept (w16.alloc (.cells #[.slice qa ms.length qp] 26)).drew u → u.cell? ⟨bb, off + (a + 1), none⟩ = some (.int .i64 y) := fun u hu => ((kd7 u hu).cell (p := ⟨bb, off + (a + 1), none⟩) hbl).trans c1
          have pT : (a : Int) + 1 < (rs.length : Int) := by omega
          have p0 : (0 : Int) ≤ (a : Int) + 1 := by omega
          have tT : ((a : Int) + 1).toNat = a + 1 := by omega
          have wr : IntKind.i64.wrap ((a : Int) + 1) = (a : Int) + 1 := by rw [IntWalk.i64_left, IntWalk.wrap64_in _ (by omega)]
          have n6 : (y == y) = true := by simp
          clear HPS HNm HNa hxa hza hal hcc c1 hhr hIu20 xu20
          go_wp2_with fail
          refine wp_region_seqL (by kernel_rfl) (by kernel_rfl) ?_
          repeat (first
            | (refine SeqL.skip (by rfl) ?_; simp only [Act.put, List.setIfInBounds_toArray, List.set_cons_zero, List.set_cons_succ])
            | (refine SeqL.pure ?_ (by rfl) ?_ ?_; rotate_left; (focus (intro u hu; have y0' := y0 u hu; have y1' := y1 u hu; go_simp; first | done | exact rfl)); simp only [Act.put, List.setIfInBounds_toArray, List.set_cons_zero, List.set_cons_succ])
            | (refine SeqL.call _ _ _ (by rfl) ?_ C1.out ?_; (focus (intro u; go_simp; done)); simp only [Act.put, List.setIfInBounds_toArray, List.set_cons_zero, List.set_cons_succ])
            | (refine SeqL.call _ _ _ (by rfl) ?_ C2.out ?_; (focus (intro u; go_simp; done)); simp only [Act.put, List.setIfInBounds_toArray, List.set_cons_zero, List.set_cons_succ]))
          refine SeqL.nil ?_
          intro w21 hu21
          go_wp2_with fail
          go_ret
          exact ⟨rfl, K20.trans (Kept.trans (Below.refl _ (w16.alloc (.cells #[.slice qa ms.length qp] 26))).drew hu21)⟩
      | true =>
        obtain ⟨hhm, hrb, hz0⟩ := HON.out rfl
        have hNa := impl_Names_ok _ ma mp ms r hIm17 hml' hrb
        have HPz : Hid _ := hz0
        clear hz0
        go_wp2_with fail
        refine hNa.mono ?_
        rintro e w18 ⟨vs, ps, rfl, hOs, hpz, _, hk18⟩
        obtain rfl : ps = [] := by
          rcases hpz with ⟨_, h⟩ | ⟨_, h⟩
          · exact h
          · rw [HPz.out] at h
            exact h.nil
        obtain ⟨sa, sc, rfl⟩ := hOs.shape
        have cm18 := (xm17.kept hk18).cell 0
        have hHm := impl_HeapOk_ok _ ma mp ms (hIm17.kept hk18) hml'
        rw [hhm] at hHm
        have nz : (txtsP ms []).length = 0 := rfl
        clear hNa cm17 hOs hpz
        simp only [nz]
        go_wp2_with fail
        refine hHm.mono ?_
        rintro e WE ⟨rfl, hk19⟩
        have hkc := hk18.trans hk19
        clear hHm cm18 hk18 hk19
        obtain ⟨K20, xu20, hIu20⟩ := fin.out _ hkc
        clear fin HON xm17 hIm17 hkc n4 n5
        have cu20 := xu20.cell 0
        cases ok with
        | false =>
          clear HPS
          go_wp2_with fail
          refine wp_region_seqL (by kernel_rfl) (by kernel_rfl) ?_
          repeat (first
            | (refine SeqL.skip (by rfl) ?_; simp only [Act.put, List.setIfInBounds_toArray, List.set_cons_zero, List.set_cons_succ])
            | (refine SeqL.pure ?_ (by rfl) ?_ ?_; rotate_left; (focus (intro u hu; go_simp; first | done | exact rfl)); simp only [Act.put, List.setIfInBounds_toArray, List.set_cons_zero, List.set_cons_succ])
          )
          refine SeqL.nil ?_
          intro w21 hu21
          go_wp2_with fail
          go_ret
          exact ⟨rfl, K20.trans (Kept.trans (Below.refl _ WE).drew hu21)⟩
        | true =>
          obtain ⟨hhr, hr2, a, hxa, hal, hza⟩ := HPS.out rfl
          have HNa := HNm.out
          rw [hxa] at HNa
          have C2 : Hid (∀ u, Kept WE.drew u → Calls Tryz.prog 34 #[.int .i64 x] u fun e w' => e = .returned (.int .i64 (a : Int)) ∧ Kept u w') := fun u _ => (HNa u).mono (fun e w' h => ⟨h.1, by rw [← h.2]; exact Below.refl _ _⟩)
          have kd7 : ∀ u, Kept WE.drew u → Kept WE u := fun u hu => Kept.trans (Below.refl _ WE).drew hu
          have C1 : Hid (∀ u, Kept WE.drew u → Calls Tryz.prog 17 #[.agg #[.slice ua rs.length up]] u fun e w' => e = .returned (.bool true) ∧ Kept u w') := fun u hu => by have := impl_HeapOk_ok u ua up rs (hIu20.kept (kd7 u hu)) hrl'; rw [hhr] at this; exact this
          have y0 : ∀ u, Kept WE.drew u → u.cell? ⟨BU, 0, none⟩ = some (.slice ua rs.length up) := fun u hu => (xu20.kept (kd7 u hu)).cell 0
          obtain ⟨bb, off, rfl, hcc⟩ := hIu20.at (k := a + 1) hal
          have c1 := hcc (a + 1) hal
          rw [hza] at c1
          have hbl : bb < WE.heap.size := World.block_lt_of_cell? _ _ c1
          have y1 : ∀ u, Kept WE.drew u → u.cell? ⟨bb, off + (a + 1), none⟩ = some (.int .i64 y) := fun u hu => ((kd7 u hu).cell (p := ⟨bb, off + (a + 1), none⟩) hbl).trans c1
          have pT : (a : Int) + 1 < (rs.length : Int) := by omega
          have p0 : (0 : Int) ≤ (a : Int) + 1 := by omega
          have tT : ((a : Int) + 1).toNat = a + 1 := by omega
          have wr : IntKind.i64.wrap ((a : Int) + 1) = (a : Int) + 1 := by rw [IntWalk.i64_left, IntWalk.wrap64_in _ (by omega)]
          have n6 : (y == y) = true := by simp
          clear HPS HNm HNa hxa hza hal hcc c1 hhr hIu20 xu20
          go_wp2_with fail
          refine wp_region_seqL (by kernel_rfl) (by kernel_rfl) ?_
          repeat (first
            | (refine SeqL.skip (by rfl) ?_; simp only [Act.put, List.setIfInBounds_toArray, List.set_cons_zero, List.set_cons_succ])
            | (refine SeqL.pure ?_ (by rfl) ?_ ?_; rotate_left; (focus (intro u hu; have y0' := y0 u hu; have y1' := y1 u hu; go_simp; first | done | exact rfl)); simp only [Act.put, List.setIfInBounds_toArray, List.set_cons_zero, List.set_cons_succ])
            | (refine SeqL.call _ _ _ (by rfl) ?_ C1.out ?_; (focus (intro u; go_simp; done)); simp only [Act.put, List.setIfInBounds_toArray, List.set_cons_zero, List.set_cons_succ])
            | (refine SeqL.call _ _ _ (by rfl) ?_ C2.out ?_; (focus (intro u; go_simp; done)); simp only [Act.put, List.setIfInBounds_toArray, List.set_cons_zero, List.set_cons_succ]))
          refine SeqL.nil ?_
          intro w21 hu21
          go_wp2_with fail
          go_ret
          exact ⟨rfl, K20.trans (Kept.trans (Below.refl _ WE).drew hu21)⟩)

set_option maxRecDepth 100000 in
theorem lifted (os : Os) (started : os.Started) (H : Type) (enc : TypeId × Value → H) :
    ReturnsInHanded {} Tryz.checked os 5 .any (Rows.fnProtosSpec.pre6 enc Tryz.prog Tryz.f5 Rows.fnProtosRow.domain false) (Rows.fnProtosSpec.post enc Tryz.prog Tryz.f5 false true false false) := by
  refine returnsInHanded_of_change (C := Tryz.checked) own started (by kernel_rfl) Tryz.func5
    (ChangeSpec.witness6 (enc := enc) (C := Tryz.checked) false ⟨#[], #[.slice none 0 0], []⟩ 8 (by kernel_rfl) (by kernel_rfl) (by kernel_rfl) (by kernel_rfl)) ?_
  intro W base args ds gs before hval0 hW hcnd _
  have hval : ∀ (j : Nat) t v, Tryz.f5.params[j]? = some t → args[j]? = some v → Value.okWide Tryz.prog W .any base t v := hval0
  have hW' := hW
  obtain ⟨p, q, hA0, hV, rfl, hfz, hnd⟩ := hW
  have hA : DataW.TrodAll enc Tryz.prog W 0 (fun _ => true) true Tryz.f5.params.toList args.toList ds p := hA0
  rw [Tryz.params5] at hA hval
  obtain ⟨v0, vs0, d0, ds0, p0, q0, hargs, rfl, rfl, h0, r0⟩ := trodAll_cons hA
  obtain ⟨rfl, rfl, rfl⟩ := trodAll_nil r0
  obtain rfl : args = #[v0] := by cases args; simp_all
  obtain ⟨rfl, rfl⟩ := trodVars_none hV
  obtain ⟨a0, len0, cap0, rfl⟩ := okWide_slice Tryz.underlying22 (hval 0 22 v0 rfl rfl)
  have k0 := h0
  have lt0 : ∀ x ∈ p0, x.block < W.heap.size := by obtain ⟨m, hm⟩ := k0; exact DataW.trod_lt m _ _ _ hm
  obtain ⟨z0, w0⟩ : ∃ zs, IsRow .u8 W a0 len0 cap0 zs := by
    obtain ⟨fuel, hf⟩ := h0
    rcases open_ints Tryz.underlying22 Tryz.underlying5 (by kernel_rfl) hf with ⟨hcs, _⟩ | ⟨x, l, c, zs, hcs, _, hl, hm, hz, _, hcell, hwz⟩
    · simp [Value.cells] at hcs
      obtain ⟨rfl, rfl, rfl⟩ := hcs
      exact ⟨[], .inl ⟨rfl, rfl, rfl, rfl⟩⟩
    · simp [Value.cells] at hcs
      obtain ⟨rfl, rfl, rfl⟩ := hcs
      exact ⟨zs, .inr ⟨_, rfl, hl, hm, by simpa using hz, hcell, hwz⟩⟩
  clear hA0 hval0
  refine (walk a0 len0 cap0 z0 W w0).mono fun e W' ⟨he, bel⟩ => ?_
  subst he
  exact ⟨_, rfl, _, _, _, [], _, [], hW', trodAll_mk1 (shut_bool Tryz.underlying4 _), (trodAll_cons_mk (Below.trod laidOut (by kernel_rfl) (of_decide_eq_true (by kernel_rfl)) k0 bel lt0) trodAll_mk0), rfl, bel.frame _, fun h => by cases h⟩

theorem over : Rows.fnProtosRow.holds Tryz.pinned (OpenSpec.ofChange Rows.fnProtosSpec) :=
  OpenClaim.holds_of_wide 5 Tryz.f5 rfl rfl rfl rfl rfl rfl rfl ⟨rfl, rfl, rfl, rfl, rfl⟩ rfl rfl rfl rfl rfl (by kernel_rfl) Tryz.func5 (by kernel_rfl)
    (of_decide_eq_true (by kernel_rfl)) (by unfold Func.isWrapper; first | (rw [if_pos (by decide +kernel)]; kernel_rfl) | (rw [if_neg (by decide +kernel)]; exact ⟨rfl, rfl⟩))
    (fun os started H enc _ => lifted os started H enc)

theorem proved : Rows.FnProtosSaid := over
#print axioms proved
end Go.Proofs.YtpbafjcoomfooaaGreat.fnProtos
