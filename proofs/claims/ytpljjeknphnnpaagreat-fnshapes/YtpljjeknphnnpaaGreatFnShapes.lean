/-
  The law FnShapes is proved: for every slice of bytes, of the heap that is drawn of it each block is right if the heap is, each of its values leads to a block, or nowhere; the program's HeapOk, Slots, ShapeOk and RootsOk answer as their models; nothing that was there is written.
-/
import Derived.Test.YtpljjeknphnnpaaGreatRows
import Derived.WalkKit
import Derived.ProofKit
import Derived.OpenShut
import Derived.ShutString
import Derived.ChangeOld
import Derived.Below
import Derived.Deep.RegionWith
import Derived.Deep.CutRange
import Derived.Test.YtpljjeknphnnpaaGreatGrpH
import Derived.Test.YtpljjeknphnnpaaGreatShapeR
import Derived.Test.YtpljjeknphnnpaaGreatShapeQ
import Derived.Test.YtpljjeknphnnpaaGreatGrpD
namespace Go.Proofs.YtpljjeknphnnpaaGreat.fnShapes
open Go.ChangeShapes Go.WideShapes Go.ChangeAt Go.RowKit
open Go.ChangeMaps (open_string shut_string)
set_option linter.unusedVariables false

theorem own : ownKnob Tryz.prog.godebug = none := by kernel_rfl
theorem laidOut : laidOutB Tryz.prog = true := by kernel_rfl

/-- WHAT THE WALK IS TOLD OF A SLICE OF INTEGERS THAT CAME IN: it is nil; or it leads to a row of 'cap' cells, the numbers 'zs' (the first 'len' are its elements, the rest its spare room), each fitting its kind. -/
def IsRow (k : IntKind) (w : World) (a : Option Addr) (len cap : Nat) (zs : List Int) : Prop :=
  (a = none ∧ len = 0 ∧ cap = 0 ∧ zs = []) ∨
  ∃ x, a = some x ∧ len ≤ cap ∧ cap ≤ maxLen ∧ zs.length = cap ∧ (∀ i, i < zs.length → w.cell? (x.add i) = some (.int k (zs.getD i 0))) ∧ ∀ n ∈ zs, (Lit.int k n).wf = true

set_option maxRecDepth 100000 in
set_option maxHeartbeats 32000000 in

theorem walk (a0 : Option Addr) (len0 cap0 : Nat) (z0 : List Int) (w : World) (w0 : IsRow .u8 w a0 len0 cap0 z0) :
    Calls Tryz.prog 4 #[.slice a0 len0 cap0] w fun e w' => e = .returned (.bool true) ∧ Below w.heap.size w w' := by
  have hs := src_of w0
  clear w0
  have hlen := hs.1
  by_cases hbig : (1048576 : Int) < (len0 : Int)
  · go_enter Tryz.func4, Tryz.ntmps4
    go_wp2_with (first | (go_at_call 5; go_in))
    go_ret
    exact ⟨rfl, Below.refl _ _⟩
  · have hD := DrawHeapOk_ok a0 len0 cap0 _ _ hs
    go_enter Tryz.func4, Tryz.ntmps4
    go_wp2_with (first | (go_at_call 5; go_in))
    refine hD.mono ?_
    rintro e w1 ⟨v, zs, rfl, hO, hl, hK1⟩
    obtain ⟨ao, cp, rfl, hI, _⟩ := hO
    have hl' : zs.length ≤ 1048576 := by omega
    have hL : zs.length * 8 ≤ 140737488351232 := by omega
    have ka : Kept w1 (w1.alloc (.cells #[.slice ao zs.length cp] 26)) := Kept.alloc (Below.refl _ _) _
    have xs := Cells.new w1 26 #[.slice ao zs.length cp]
    have hIa := hI.kept ka
    have hKa := hK1.trans ka
    obtain ⟨r, hr⟩ : ∃ r, heapR zs = r := ⟨_, rfl⟩
    have hH1 := impl_HeapOk_ok _ ao cp zs hIa hl'
    rw [hr] at hH1
    have HRr : Hid (heapR zs = r) := hr
    clear hD ka hI hK1 hr
    go_wp2_with fail
    refine hH1.mono ?_
    rintro e w2 ⟨rfl, hk2⟩
    have x2 := xs.kept hk2
    have c2 := x2.cell 0
    have hI2 := hIa.kept hk2
    have hH2 := spec_HeapOk_ok _ ao cp zs hI2 hl'
    rw [HRr.out] at hH2
    have K2 := hKa.trans hk2
    clear hH1 xs hIa hKa hk2
    go_wp2_with fail
    refine hH2.mono ?_
    rintro e w3 ⟨rfl, hk3⟩
    have x3 := x2.kept hk3
    have hI3 := hI2.kept hk3
    have K3 := K2.trans hk3
    have hne : (r != r) = false := by simp
    have hD2 := DrawSlots_ok a0 len0 cap0 _ _ (hs.below K3)
    clear hH2 x2 hI2 K2 hk3 c2
    go_wp2_with fail
    refine hD2.mono ?_
    rintro e w4 ⟨vt, ts, x, rfl, hOt, hlt, hxb, hk4⟩
    obtain ⟨ta, tp, rfl, hIt, _⟩ := hOt
    have kb : Kept w4 (w4.alloc (.cells #[.slice ta ts.length tp] 26)) := Kept.alloc (Below.refl _ _) _
    have xt := Cells.new w4 26 #[.slice ta ts.length tp]
    have x4 := (x3.kept hk4).kept kb
    have hI4 := (hI3.kept hk4).kept kb
    have hIt4 := hIt.kept kb
    have K4 := (K3.trans hk4).trans kb
    have ht' : ts.length ≤ 1048576 := by omega
    clear hD2 x3 hI3 K3 hk4 kb hIt
    go_wp2_with fail
    refine (impl_Slots_ok _ ta tp ts x hIt4 ht').mono ?_
    rintro e w5 ⟨vs, rfl, hOs, hk5⟩
    obtain ⟨so, sp, rfl, hIs⟩ := hOs.ints
    have xt5 := xt.kept hk5
    have x5 := x4.kept hk5
    have hI5 := hI4.kept hk5
    have hIt5 := hIt4.kept hk5
    have K5 := K4.trans hk5
    have hsl : (slotsL ts x).length ≤ 1048576 := by
      unfold slotsL
      split
      · rename_i b hb
        have := slL_len b.1.at' b.1.kind b.1.size
        have := b.2.2.1
        omega
      · simp
    obtain ⟨y, hy⟩ : ∃ y, shapeR ts x = y := ⟨_, rfl⟩
    have HY : Hid (shapeR ts x = y) := hy
    have hyy : (y != y) = false := by simp
    have Hy1 : Hid (∀ u : World, Ints u ta ts → Calls Tryz.prog 22 #[.agg #[.slice ta ts.length tp], .int .i64 x] u fun e w' => e = .returned (.bool y) ∧ Kept u w') := fun u hu => by have := impl_ShapeOk_ok u ta tp ts x hu ht'; rw [hy] at this; exact this
    have Hy2 : Hid (∀ u : World, Ints u ta ts → Calls Tryz.prog 23 #[.agg #[.slice ta ts.length tp], .int .i64 x] u fun e w' => e = .returned (.bool y) ∧ Kept u w') := fun u hu => by have := spec_ShapeOk_ok u ta tp ts x hu ht'; rw [hy] at this; exact this
    clear hOs xt x4 hI4 hIt4 K4 hk5 hy
    obtain ⟨BT, hBT⟩ : ∃ BT, w4.heap.size = BT := ⟨_, rfl⟩
    obtain ⟨BS, hBS⟩ : ∃ BS, w1.heap.size = BS := ⟨_, rfl⟩
    rw [hBT] at xt5
    rw [hBS] at x5
    go_wp2_with fail
    clear hBT hBS
    go_cut [47] from 33 to 47 (fun s47 wx => s47 = .bool false ∧ Kept w5 wx)
    case first =>
      have xd := xt5.kept (Below.refl _ w5).drew
      have cd := xd.cell 0
      have Id := hIt5.kept (Below.refl _ w5).drew
      have Sd := hIs.kept (Below.refl _ w5).drew
      have kd : Kept w5 w5.drew := (Below.refl _ w5).drew
      go_region_with (first | (go_at_call 21; refine (spec_Slots_ok _ ta tp ts x Id ht').mono ?_; rintro e w6 ⟨vq, rfl, hOq, hk6⟩; obtain ⟨qo, qp, rfl, hIq⟩ := hOq.ints; have c6 := (xd.kept hk6).cell 0) | (go_at_call 14; refine (sameInts_ok _ so qo sp qp (slotsL ts x) (Sd.kept hk6) hIq hsl).mono ?_; rintro e w7 ⟨rfl, hk7⟩; have X7 := (xd.kept hk6).kept hk7; have c7 := X7.cell 0; have I7 := (Id.kept hk6).kept hk7) | (go_at_call 22; refine (Hy1.out _ (by first | exact I9 | exact I7)).mono ?_; rintro e w8 ⟨rfl, hk8⟩; have I8 := (by first | exact I9.kept hk8 | exact I7.kept hk8 : Ints w8 ta ts); have X8 := (by first | exact X9.kept hk8 | exact X7.kept hk8 : Cells w8 BT 26 #[.slice ta ts.length tp]); have c8 := X8.cell 0) | (go_at_call 23; refine (Hy2.out _ (by first | exact I8 | exact I7)).mono ?_; rintro e w9 ⟨rfl, hk9⟩; have I9 := (by first | exact I8.kept hk9 | exact I7.kept hk9 : Ints w9 ta ts); have X9 := (by first | exact X8.kept hk9 | exact X7.kept hk9 : Cells w9 BT 26 #[.slice ta ts.length tp]); have c9 := X9.cell 0))
      all_goals (go_wp2_with fail; go_meet; exact ⟨rfl, by first | exact (((kd.trans hk6).trans hk7).trans hk8).trans hk9 | exact (((kd.trans hk6).trans hk7).trans hk9).trans hk8⟩)
    case rest =>
    obtain ⟨rfl, hkc⟩ := hcut
    have x6 := x5.kept hkc
    have hI6 := hI5.kept hkc
    have K6 := K5.trans hkc
    have hD3 := DrawRootsOk_ok a0 len0 cap0 _ _ (hs.below K6)
    clear hIs xt5 hIt5 x5 hI5 K5 hkc Hy1 Hy2 HY hyy
    go_wp2_with fail
    refine hD3.mono ?_
    rintro e w10 ⟨vu, us, rv, rs, rfl, hOu, hlu, hOr, hlr, hk10⟩
    obtain ⟨ua, up, rfl, hIu, _⟩ := hOu
    obtain ⟨ra, rp, rfl, hIr, _⟩ := hOr
    have kc : Kept w10 (w10.alloc (.cells #[.slice ua us.length up] 26)) := Kept.alloc (Below.refl _ _) _
    have xu := Cells.new w10 26 #[.slice ua us.length up]
    have x7 := (x6.kept hk10).kept kc
    have hI7 := (hI6.kept hk10).kept kc
    have hIu7 := hIu.kept kc
    have hIr7 := hIr.kept kc
    have K7 := (K6.trans hk10).trans kc
    obtain ⟨q, hq⟩ : ∃ q, rootsR us rs = q := ⟨_, rfl⟩
    have hqq : (q != q) = false := by simp
    have hu' : us.length ≤ 1048576 := by omega
    have hr' : rs.length ≤ 1048576 := by omega
    clear hD3 x6 hI6 K6 hk10 kc hIu hIr
    go_wp2_with fail
    obtain ⟨W7, hW7⟩ : ∃ W7, w10.alloc (.cells #[.slice ua us.length up] 26) = W7 := ⟨_, rfl⟩
    obtain ⟨BU, hBU⟩ : ∃ BU, w10.heap.size = BU := ⟨_, rfl⟩
    rw [hW7] at x7 hI7 hIu7 hIr7 K7 xu
    rw [hBU] at xu
    simp only [hW7, hBU]
    clear hW7 hBU
    have kd7 : ∀ u, Kept W7.drew u → Kept W7 u := fun u hu => Kept.trans (Below.refl _ W7).drew hu
    have y0 : ∀ u, Kept W7.drew u → u.cell? ⟨BU, 0, none⟩ = some (.slice ua us.length up) := fun u hu => (xu.kept (kd7 u hu)).cell 0
    have C1 : Hid (∀ u, Kept W7.drew u → Calls Tryz.prog 25 #[.agg #[.slice ua us.length up], .slice ra rs.length rp] u fun e w' => e = .returned (.bool q) ∧ Kept u w') := fun u hu => by have := impl_RootsOk_ok u ua ra up rp us rs (hIu7.kept (kd7 u hu)) hu' (hIr7.kept (kd7 u hu)) hr'; rw [hq] at this; exact this
    have C2 : Hid (∀ u, Kept W7.drew u → Calls Tryz.prog 10 #[.agg #[.slice ua us.length up], .slice ra rs.length rp] u fun e w' => e = .returned (.bool q) ∧ Kept u w') := fun u hu => by have := spec_RootsOk_ok u ua ra up rp us rs (hIu7.kept (kd7 u hu)) hu' (hIr7.kept (kd7 u hu)) hr'; rw [hq] at this; exact this
    clear hq
    refine wp_region_seqL (by kernel_rfl) (by kernel_rfl) ?_
    repeat (first
      | (refine SeqL.skip (by rfl) ?_; simp only [Act.put, List.setIfInBounds_toArray, List.set_cons_zero, List.set_cons_succ])
      | (refine SeqL.pure ?_ (by rfl) ?_ ?_; rotate_left; (focus (intro u hu; have y0' := y0 u hu; go_simp; first | done | exact rfl)); simp only [Act.put, List.setIfInBounds_toArray, List.set_cons_zero, List.set_cons_succ])
      | (refine SeqL.call _ _ _ (by rfl) ?_ C1.out ?_; (focus (intro u; go_simp; done)); simp only [Act.put, List.setIfInBounds_toArray, List.set_cons_zero, List.set_cons_succ])
      | (refine SeqL.call _ _ _ (by rfl) ?_ C2.out ?_; (focus (intro u; go_simp; done)); simp only [Act.put, List.setIfInBounds_toArray, List.set_cons_zero, List.set_cons_succ]))
    refine SeqL.nil ?_
    intro w11 hu11
    have k11 := kd7 w11 hu11
    have x8 := x7.kept k11
    have hI8 := hI7.kept k11
    have K8 := K7.trans k11
    have c8 := x8.cell 0
    clear y0 C1 C2 kd7 hu11 k11 x7 hI7 K7 hIu7 hIr7 xu
    go_wp2_with fail
    refine (impl_Blocks_ok _ ao cp zs hI8 hL).mono ?_
    rintro e w12 ⟨vl, rfl, hOl, hk12⟩
    obtain ⟨la, lp, rfl, hIl⟩ := hOl.ints
    have x9 := x8.kept hk12
    have hI9 := hI8.kept hk12
    have K9 := K8.trans hk12
    clear x8 hI8 K8 hk12 hOl c8
    have hpz : (places zs).length ≤ 200 := by
      have := blocks_count zs
      unfold places
      split
      · simp; omega
      · simp
    have HI9 : Hid _ := hI9
    have HIl : Hid _ := hIl
    have HK9 : Hid _ := K9
    have HX9 : Hid _ := x9
    clear hI9 hIl K9 x9
    go_wp2_with fail
    go_loopw [11] (fun s11 wr => ∃ k : Nat, s11 = .int .i64 k ∧ k ≤ (places zs).length ∧ Kept w12 wr) (fun s11 _ => (places zs).length - (intOf s11).toNat)
    case atStart => exact ⟨0, rfl, Nat.zero_le _, Below.refl _ _⟩
    case round =>
      obtain ⟨k, rfl, hk, hK⟩ := hrel
      by_cases hlt : k < (places zs).length
      · have q1 : (k : Int) < ((places zs).length : Int) := by omega
        have HLT : Hid (k < (places zs).length) := hlt
        cases r with
        | false =>
          go_wp2
          go_ret
          exact ⟨rfl, Kept.trans HK9.out hK⟩
        | true =>
          have hh := HRr.out
          have hok := heapR_slab hh
          have hkb : k < (blocks zs).length := by rw [← places_len hok]; exact hlt
          obtain ⟨b, hb⟩ : ∃ b, (blocks zs)[k] = b := ⟨_, rfl⟩
          have hmem : b ∈ blocks zs := by rw [← hb]; exact List.getElem_mem _
          have hpk : hz (places zs) k = ((b.1.at' : Nat) : Int) := by
            rw [← hb]
            simp [hz, places, hok, List.getElem?_eq_getElem hkb]
          obtain ⟨f1, f2, f3⟩ := slots_facts hh hmem
          obtain ⟨A, hA⟩ : ∃ A : Int, ((b.1.at' : Nat) : Int) = A := ⟨_, rfl⟩
          rw [hA] at hpk f1 f2 f3
          obtain ⟨lb, lo, e1, hcl⟩ := Ints.at HIl.out (k := k) hlt
          subst e1
          have hclk := hcl k hlt
          rw [hpk] at hclk
          have hbl : lb < w12.heap.size := World.block_lt_of_cell? _ _ hclk
          have kdr : ∀ u, Kept wr.drew u → Kept w12 u := fun u hu => hK.trans (Kept.trans (Below.refl _ wr).drew hu)
          have y0 : ∀ u, Kept wr.drew u → u.cell? ⟨BS, 0, none⟩ = some (.slice ao zs.length cp) := fun u hu => (Cells.kept HX9.out (kdr u hu)).cell 0
          have y1 : ∀ u, Kept wr.drew u → u.cell? ⟨lb, lo + k, none⟩ = some (.int .i64 A) := fun u hu => ((kdr u hu).cell (p := ⟨lb, lo + k, none⟩) hbl).trans hclk
          have C1 : Hid (∀ u, Kept wr.drew u → Calls Tryz.prog 22 #[.agg #[.slice ao zs.length cp], .int .i64 A] u fun e w' => e = .returned (.bool true) ∧ Kept u w') := fun u hu => by have := impl_ShapeOk_ok u ao cp zs A (Ints.kept HI9.out (kdr u hu)) hl'; rw [f1] at this; exact this
          have HF3 : Hid _ := f3
          clear hcl hpk f1 f3 hh hok hkb hb hmem hA
          go_wp2_with fail
          refine wp_region_seqL (by kernel_rfl) (by kernel_rfl) ?_
          repeat (first
            | (refine SeqL.skip (by rfl) ?_; simp only [Act.put, List.setIfInBounds_toArray, List.set_cons_zero, List.set_cons_succ])
            | (refine SeqL.pure ?_ (by rfl) ?_ ?_; rotate_left; (focus (intro u hu; have y0' := y0 u hu; have y1' := y1 u hu; go_simp; first | done | exact rfl)); simp only [Act.put, List.setIfInBounds_toArray, List.set_cons_zero, List.set_cons_succ])
            | (refine SeqL.call _ _ _ (by rfl) ?_ C1.out ?_; (focus (intro u; go_simp; done)); simp only [Act.put, List.setIfInBounds_toArray, List.set_cons_zero, List.set_cons_succ]))
          refine SeqL.nil ?_
          intro u hu
          have ku := kdr u hu
          clear y0 y1 C1 kdr hu hK
          have xd := Cells.kept HX9.out (ku.trans (Below.refl _ u).drew)
          have cd := xd.cell 0
          have Id := Ints.kept HI9.out (ku.trans (Below.refl _ u).drew)
          have cl : u.drew.cell? ⟨lb, lo + k, none⟩ = some (.int .i64 A) := ((ku.trans (Below.refl _ u).drew).cell (p := ⟨lb, lo + k, none⟩) hbl).trans hclk
          have cl' : u.cell? ⟨lb, lo + k, none⟩ = some (.int .i64 A) := (ku.cell (p := ⟨lb, lo + k, none⟩) hbl).trans hclk
          have cd' := (Cells.kept HX9.out ku).cell 0
          go_wp2_with fail
          go_cut [12] from 62 to 112 (fun s12 wx => ∃ sa sq, s12 = .slice sa (slotsL zs A).length sq ∧ Ints wx sa (slotsL zs A) ∧ Kept w12 wx)
          case first =>
            go_region_with (go_at_call 20; refine (impl_Slots_ok _ ao cp zs A Id hl').mono ?_; rintro e w13 ⟨vs, rfl, hOs, hk13⟩; obtain ⟨sa, sq, rfl, hIs⟩ := hOs.ints)
            all_goals (go_wp2_with fail; go_meet; exact ⟨sa, sq, rfl, hIs, (ku.trans (Below.refl _ u).drew).trans hk13⟩)
          case rest =>
            obtain ⟨sa, sq, rfl, hIs, hkv⟩ := hcut
            clear xd cd Id cl cl' cd' hclk
            have HIs : Hid _ := hIs
            have HKv : Hid _ := hkv
            clear hIs hkv
            go_wp2_with fail
            go_loopw [13] (fun s13 wi => ∃ j : Nat, s13 = .int .i64 j ∧ j ≤ (slotsL zs A).length ∧ Kept wc wi) (fun s13 _ => (slotsL zs A).length - (intOf s13).toNat)
            case atStart => exact ⟨0, rfl, Nat.zero_le _, Below.refl _ _⟩
            case round =>
              obtain ⟨j, rfl, hj, hKi⟩ := hrel
              by_cases hjt : j < (slotsL zs A).length
              · have qj : (j : Int) < ((slotsL zs A).length : Int) := by omega
                obtain ⟨p, hp, hpl, hv1, hv2⟩ := HF3.out j hjt
                obtain ⟨sb, so', e2, hcs⟩ := Ints.at HIs.out (k := j) hjt
                subst e2
                have hcsj := hcs j hjt
                rw [hp] at hcsj
                have hbs : sb < wc.heap.size := World.block_lt_of_cell? _ _ hcsj
                obtain ⟨zb, zo, e3, hcz⟩ := Ints.at HI9.out (k := p) hpl
                have hczp := hcz p hpl
                have hbz : zb < w12.heap.size := World.block_lt_of_cell? _ _ hczp
                subst e3
                have hXb := Ints.bd HI9.out p
                have HXK : Hid _ := fun (u : World) (hu : Kept w12 u) => impl_KindAt_ok u (some ⟨zb, zo, none⟩) cp zs (hz zs p / 8) (Ints.kept HI9.out hu) hL
                obtain ⟨X, hX⟩ : ∃ X, hz zs p = X := ⟨_, rfl⟩
                rw [hX] at hczp hXb hv1 hv2 HXK
                have kdi : ∀ u, Kept wr.drew u → Kept wc u := fun u hu => hKi.trans (Kept.trans (Below.refl _ wr).drew hu)
                have y0 : ∀ u, Kept wr.drew u → u.cell? ⟨BS, 0, none⟩ = some (.slice (some ⟨zb, zo, none⟩) zs.length cp) := fun u hu => (Cells.kept HX9.out (Kept.trans HKv.out (kdi u hu))).cell 0
                have y1 : ∀ u, Kept wr.drew u → u.cell? ⟨sb, so' + j, none⟩ = some (.int .i64 (p : Int)) := fun u hu => ((kdi u hu).cell (p := ⟨sb, so' + j, none⟩) hbs).trans hcsj
                have y2 : ∀ u, Kept wr.drew u → u.cell? ⟨zb, zo + p, none⟩ = some (.int .i64 X) := fun u hu => ((Kept.trans HKv.out (kdi u hu)).cell (p := ⟨zb, zo + p, none⟩) hbz).trans hczp
                have pl : (p : Int) < (zs.length : Int) := by omega
                clear hcs hcz
                go_wp2_with fail
                refine wp_region_seqL (by kernel_rfl) (by kernel_rfl) ?_
                repeat (first
                  | (refine SeqL.skip (by rfl) ?_; simp only [Act.put, List.setIfInBounds_toArray, List.set_cons_zero, List.set_cons_succ])
                  | (refine SeqL.pure ?_ (by rfl) ?_ ?_; rotate_left; (focus (intro u hu; have y0' := y0 u hu; have y1' := y1 u hu; have y2' := y2 u hu; go_simp; first | done | exact rfl)); simp only [Act.put, List.setIfInBounds_toArray, List.set_cons_zero, List.set_cons_succ])
                )
                refine SeqL.nil ?_
                intro u1 hu1
                have ku1 := kdi u1 hu1
                clear y0 y1 y2 kdi hu1 pl
                have kdj : ∀ u, Kept u1.drew u → Kept wc u := fun u hu => ku1.trans (Kept.trans (Below.refl _ u1).drew hu)
                have z0 : ∀ u, Kept u1.drew u → u.cell? ⟨BS, 0, none⟩ = some (.slice (some ⟨zb, zo, none⟩) zs.length cp) := fun u hu => (Cells.kept HX9.out (Kept.trans HKv.out (kdj u hu))).cell 0
                have CV : Hid (∀ u, Kept u1.drew u → Calls Tryz.prog 27 #[.int .i64 X] u fun e w' => e = .returned (.bool true) ∧ Kept u w') := fun u _ => by have := impl_ValueOk_ok X u hXb.1 hXb.2; rw [hv1] at this; exact this.mono (fun e w' ⟨h1, h2⟩ => ⟨h1, h2 ▸ Below.refl _ _⟩)
                have CK : Hid (∀ u, Kept u1.drew u → Calls Tryz.prog 28 #[.int .i64 X] u fun e w' => e = .returned (.int .i64 (X % 8)) ∧ Kept u w') := fun u _ => (impl_Kind_ok X u).mono (fun e w' ⟨h1, h2⟩ => ⟨h1, h2 ▸ Below.refl _ _⟩)
                have CN : Hid (∀ u, Kept u1.drew u → Calls Tryz.prog 30 #[.int .i64 X] u fun e w' => e = .returned (.int .i64 (X / 8)) ∧ Kept u w') := fun u _ => (impl_Num_ok X u hXb.1 hXb.2).mono (fun e w' ⟨h1, h2⟩ => ⟨h1, h2 ▸ Below.refl _ _⟩)
                obtain ⟨Kd, hKd⟩ : ∃ Kd, kindAt zs (X / 8) = Kd := ⟨_, rfl⟩
                have CA : Hid (∀ u, Kept u1.drew u → Calls Tryz.prog 29 #[.agg #[.slice (some ⟨zb, zo, none⟩) zs.length cp], .int .i64 (X / 8)] u fun e w' => e = .returned (.int .i64 Kd) ∧ Kept u w') := fun u hu => by have := HXK.out u (Kept.trans HKv.out (kdj u hu)); rw [hKd] at this; exact this
                rw [hKd] at hv2
                have HKj : Hid _ := ku1
                clear hKd hX hczp hcsj hv1 HXK ku1 kdj hKi
                by_cases h4 : 4 ≤ X % 8
                · have hd1 := hv2 h4
                  have hd2 : ¬ Kd < 1 := by omega
                  clear hv2
                  go_wp2_with fail
                  refine wp_region_seqL (by kernel_rfl) (by kernel_rfl) ?_
                  repeat (first
                    | (refine SeqL.skip (by rfl) ?_; simp only [Act.put, List.setIfInBounds_toArray, List.set_cons_zero, List.set_cons_succ])
                    | (refine SeqL.pure ?_ (by rfl) ?_ ?_; rotate_left; (focus (intro u hu; have z0' := z0 u hu; go_simp; first | done | exact rfl)); simp only [Act.put, List.setIfInBounds_toArray, List.set_cons_zero, List.set_cons_succ])
                    | (refine SeqL.call _ _ _ (by rfl) ?_ CV.out ?_; (focus (intro u; go_simp; done)); simp only [Act.put, List.setIfInBounds_toArray, List.set_cons_zero, List.set_cons_succ])
                    | (refine SeqL.call _ _ _ (by rfl) ?_ CK.out ?_; (focus (intro u; go_simp; done)); simp only [Act.put, List.setIfInBounds_toArray, List.set_cons_zero, List.set_cons_succ])
                    | (refine SeqL.call _ _ _ (by rfl) ?_ CN.out ?_; (focus (intro u; go_simp; done)); simp only [Act.put, List.setIfInBounds_toArray, List.set_cons_zero, List.set_cons_succ])
                    | (refine SeqL.call _ _ _ (by rfl) ?_ CA.out ?_; (focus (intro u; go_simp; done)); simp only [Act.put, List.setIfInBounds_toArray, List.set_cons_zero, List.set_cons_succ]))
                  refine SeqL.nil ?_
                  intro u2 hu2
                  have ku2 := Kept.trans HKj.out (Kept.trans (Below.refl _ u1).drew hu2)
                  clear z0 CV CK CN CA hu2
                  go_wp2_with fail
                  go_roundw
                  case rel => exact ⟨j + 1, by go_num, by omega, ku2⟩
                  case measure => simp [intOf]; omega
                · have hd2 : X % 8 < 4 := by omega
                  have hd3 : decide (4 ≤ X % 8) = false := by simpa using h4
                  clear hv2
                  go_wp2_with fail
                  refine wp_region_seqL (by kernel_rfl) (by kernel_rfl) ?_
                  repeat (first
                    | (refine SeqL.skip (by rfl) ?_; simp only [Act.put, List.setIfInBounds_toArray, List.set_cons_zero, List.set_cons_succ])
                    | (refine SeqL.pure ?_ (by rfl) ?_ ?_; rotate_left; (focus (intro u hu; have z0' := z0 u hu; go_simp; first | done | exact rfl)); simp only [Act.put, List.setIfInBounds_toArray, List.set_cons_zero, List.set_cons_succ])
                    | (refine SeqL.call _ _ _ (by rfl) ?_ CV.out ?_; (focus (intro u; go_simp; done)); simp only [Act.put, List.setIfInBounds_toArray, List.set_cons_zero, List.set_cons_succ])
                    | (refine SeqL.call _ _ _ (by rfl) ?_ CK.out ?_; (focus (intro u; go_simp; done)); simp only [Act.put, List.setIfInBounds_toArray, List.set_cons_zero, List.set_cons_succ])
                    | (refine SeqL.call _ _ _ (by rfl) ?_ CN.out ?_; (focus (intro u; go_simp; done)); simp only [Act.put, List.setIfInBounds_toArray, List.set_cons_zero, List.set_cons_succ])
                    | (refine SeqL.call _ _ _ (by rfl) ?_ CA.out ?_; (focus (intro u; go_simp; done)); simp only [Act.put, List.setIfInBounds_toArray, List.set_cons_zero, List.set_cons_succ]))
                  refine SeqL.nil ?_
                  intro u2 hu2
                  have ku2 := Kept.trans HKj.out (Kept.trans (Below.refl _ u1).drew hu2)
                  clear z0 CV CK CN CA hu2
                  go_wp2_with fail
                  go_roundw
                  case rel => exact ⟨j + 1, by go_num, by omega, ku2⟩
                  case measure => simp [intOf]; omega
              · have hg : ¬ (j : Int) < ((slotsL zs A).length : Int) := by omega
                go_wp2_with fail
                go_roundw
                case rel => exact ⟨k + 1, by go_num, by have := HLT.out; omega, Kept.trans HKv.out hKi⟩
                case measure =>
                  have := HLT.out
                  simp [intOf]
                  omega
      · have hg : ¬ (k : Int) < ((places zs).length : Int) := by omega
        go_wp2
        go_ret
        exact ⟨rfl, Kept.trans HK9.out hK⟩

set_option maxRecDepth 100000 in
theorem lifted (os : Os) (started : os.Started) (H : Type) (enc : TypeId × Value → H) :
    ReturnsInHanded {} Tryz.checked os 4 .any (Rows.fnShapesSpec.pre6 enc Tryz.prog Tryz.f4 Rows.fnShapesRow.domain false) (Rows.fnShapesSpec.post enc Tryz.prog Tryz.f4 false true false false) := by
  refine returnsInHanded_of_change (C := Tryz.checked) own started (by kernel_rfl) Tryz.func4
    (ChangeSpec.witness6 (enc := enc) (C := Tryz.checked) false ⟨#[], #[.slice none 0 0], []⟩ 8 (by kernel_rfl) (by kernel_rfl) (by kernel_rfl) (by kernel_rfl)) ?_
  intro W base args ds gs before hval0 hW hcnd _
  have hval : ∀ (j : Nat) t v, Tryz.f4.params[j]? = some t → args[j]? = some v → Value.okWide Tryz.prog W .any base t v := hval0
  have hW' := hW
  obtain ⟨p, q, hA0, hV, rfl, hfz, hnd⟩ := hW
  have hA : DataW.TrodAll enc Tryz.prog W 0 (fun _ => true) true Tryz.f4.params.toList args.toList ds p := hA0
  rw [Tryz.params4] at hA hval
  obtain ⟨v0, vs0, d0, ds0, p0, q0, hargs, rfl, rfl, h0, r0⟩ := trodAll_cons hA
  obtain ⟨rfl, rfl, rfl⟩ := trodAll_nil r0
  obtain rfl : args = #[v0] := by cases args; simp_all
  obtain ⟨rfl, rfl⟩ := trodVars_none hV
  obtain ⟨a0, len0, cap0, rfl⟩ := okWide_slice Tryz.underlying22 (hval 0 22 v0 rfl rfl)
  have k0 := h0
  have lt0 : ∀ x ∈ p0, x.block < W.heap.size := by obtain ⟨m, hm⟩ := k0; exact DataW.trod_lt m _ _ _ hm
  obtain ⟨z0, w0⟩ : ∃ zs, IsRow .u8 W a0 len0 cap0 zs := by
    obtain ⟨fuel, hf⟩ := h0
    rcases open_ints Tryz.underlying22 Tryz.underlying5 (by kernel_rfl) hf with ⟨hcs, _⟩ | ⟨x, l, c, zs, hcs, _, hl, hm, hz, _, hcell, hwz⟩
    · simp [Value.cells] at hcs
      obtain ⟨rfl, rfl, rfl⟩ := hcs
      exact ⟨[], .inl ⟨rfl, rfl, rfl, rfl⟩⟩
    · simp [Value.cells] at hcs
      obtain ⟨rfl, rfl, rfl⟩ := hcs
      exact ⟨zs, .inr ⟨_, rfl, hl, hm, by simpa using hz, hcell, hwz⟩⟩
  clear hA0 hval0
  refine (walk a0 len0 cap0 z0 W w0).mono fun e W' ⟨he, bel⟩ => ?_
  subst he
  exact ⟨_, rfl, _, _, _, [], _, [], hW', trodAll_mk1 (shut_bool Tryz.underlying4 _), (trodAll_cons_mk (Below.trod laidOut (by kernel_rfl) (of_decide_eq_true (by kernel_rfl)) k0 bel lt0) trodAll_mk0), rfl, bel.frame _, fun h => by cases h⟩

theorem over : Rows.fnShapesRow.holds Tryz.pinned (OpenSpec.ofChange Rows.fnShapesSpec) :=
  OpenClaim.holds_of_wide 4 Tryz.f4 rfl rfl rfl rfl rfl rfl rfl ⟨rfl, rfl, rfl, rfl, rfl⟩ rfl rfl rfl rfl rfl (by kernel_rfl) Tryz.func4 (by kernel_rfl)
    (of_decide_eq_true (by kernel_rfl)) (by unfold Func.isWrapper; first | (rw [if_pos (by decide +kernel)]; kernel_rfl) | (rw [if_neg (by decide +kernel)]; exact ⟨rfl, rfl⟩))
    (fun os started H enc _ => lifted os started H enc)

theorem proved : Rows.FnShapesSaid := over
#print axioms proved
end Go.Proofs.YtpljjeknphnnpaaGreat.fnShapes
