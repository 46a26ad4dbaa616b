/-
  The contract of chapter 8's model l8Step.
  The contract of chapter 8's model MarkStep.
  Facts on lists: what SweepStep, Sweep and Collect leave (chapter 9's models).
  The contract of spec.l9Behind: the place behind the block in which a place lies.
  The contract of spec.l9Step: so many steps of sweeping, on words of one's own.
  The contract of spec.SweepStep.
  spec.SweepStep, at a right marker of phase 2: what it needs.
-/
import Derived.Deep.CutRange
import Derived.Deep.RegionHeld3
import Derived.Test.YtgnpllpinfhccaaGreatDoorGrpQ
import Derived.Test.YtgnpllpinfhccaaGreatDoorGrpR
import Derived.Test.YtgnpllpinfhccaaGreatDoorGrpO
import Derived.Test.YtgnpllpinfhccaaGreatDoorGrpP
import Derived.Test.YtgnpllpinfhccaaGreatDoorZSlabS
import Derived.Test.YtgnpllpinfhccaaGreatDoorGrpG
import Derived.Test.YtgnpllpinfhccaaGreatDoorGrpB
import Derived.Test.YtgnpllpinfhccaaGreatDoorGrpI
namespace Go.Proofs.YtgnpllpinfhccaaGreatDoor
open Go.RowKit
attribute [local go_sem] Plain.and7

def stepPh (l : List Int) : Int := if l = [] then 2 else 1
set_option maxHeartbeats 16000000 in
set_option maxRecDepth 100000 in
theorem l8Step_ok (w : World) (base : Nat) (ao ga ba : Option Addr) (cap gc bc : Nat) (zs gs bs : List Int) (at' n : Int) (hI : Ints w ao zs) (hl : zs.length ≤ 1048576) (hh : heapR zs = true) (hg : OwnL w base (.slice ga gs.length gc) gs) (hb : OwnL w base (.slice ba bs.length bc) bs) (hn3 : ∀ j, (Value.slice ga gs.length gc).ownBlock = some j → (Value.slice ba bs.length bc).ownBlock ≠ some j) (h2 : Two zs gs bs) (hbase : base ≤ w.heap.size) (hn : -9223372036854775808 ≤ n ∧ n ≤ 9223372036854775807) :
    Calls Tryz.prog 168 #[.agg #[.slice ao zs.length cap], .agg #[.int .i64 1, .slice ga gs.length gc, .slice ba bs.length bc, .int .i64 at'], .int .i64 n] w fun e w' => ∃ m, e = .returned m ∧ MkO w' base m (stepPh (stepL zs n.toNat gs bs).1) (stepL zs n.toNat gs bs).1 (stepL zs n.toNat gs bs).2 at' ∧ Kept w w' := by
  obtain ⟨i0, hi, hz0, hz1, hz2⟩ := info_parts infoI
  have HS0 : Hid (StepS w base ao cap zs at' ga ba gc bc gs bs (((w.alloc (.cells #[.slice ao zs.length cap] 26)).alloc (.cells #[.int .i64 1, .slice ga gs.length gc, .slice ba bs.length bc, .int .i64 at'] 101)).alloc (.cells #[.int .i64 0, .slice none 0 0, .slice none 0 0, .int .i64 0] 101))) := by
    have k0 : Kept w (((w.alloc (.cells #[.slice ao zs.length cap] 26)).alloc (.cells #[.int .i64 1, .slice ga gs.length gc, .slice ba bs.length bc, .int .i64 at'] 101)).alloc (.cells #[.int .i64 0, .slice none 0 0, .slice none 0 0, .int .i64 0] 101)) := ((Kept.alloc (Below.refl _ _) _).alloc _).alloc _
    have b1 := (Cells.new (w.alloc (.cells #[.slice ao zs.length cap] 26)) 101 #[.int .i64 1, .slice ga gs.length gc, .slice ba bs.length bc, .int .i64 at']).alloc (.cells #[.int .i64 0, .slice none 0 0, .slice none 0 0, .int .i64 0] 101)
    have b2 := Cells.new ((w.alloc (.cells #[.slice ao zs.length cap] 26)).alloc (.cells #[.int .i64 1, .slice ga gs.length gc, .slice ba bs.length bc, .int .i64 at'] 101)) 101 #[.int .i64 0, .slice none 0 0, .slice none 0 0, .int .i64 0]
    simp only [World.size_alloc] at b1 b2
    exact ⟨((Cells.new w 26 #[.slice ao zs.length cap]).alloc _).alloc _, b1, b2, OwnL.kept (row := none) hg k0.grown (fun k e => by cases e), OwnL.kept (row := none) hb k0.grown (fun k e => by cases e), hn3, fun j hj => .inl (hg.2.lt j hj).2, fun j hj => .inl (hb.2.lt j hj).2, k0, by simp, hbase⟩
  have HI : Hid (Ints w ao zs) := hI
  have HH : Hid (heapR zs = true) := hh
  have H2 : Hid (Two zs gs bs) := h2
  have hn1 := hn.1
  have hn2 := hn.2
  clear hI hh hg hb hn3 h2 hn
  go_enter Tryz.func168, Tryz.ntmps168
  go_wp2_with fail
  obtain ⟨WX, hWX⟩ : ∃ WX, ((w.alloc (.cells #[.slice ao zs.length cap] 26)).alloc (.cells #[.int .i64 1, .slice ga gs.length gc, .slice ba bs.length bc, .int .i64 at'] 101)).alloc (.cells #[.int .i64 0, .slice none 0 0, .slice none 0 0, .int .i64 0] 101) = WX := ⟨_, rfl⟩
  rw [hWX] at HS0
  simp only [hWX]
  clear hWX
  go_loopw [7] (fun i wr => ∃ (k : Nat) (ga ba : Option Addr) (gc bc : Nat) (l ls : List Int), i = .int .i64 k ∧ k ≤ n.toNat ∧ Hid (stepL zs (n.toNat - k) l ls = stepL zs n.toNat gs bs) ∧ Hid (Two zs l ls) ∧ Hid (StepS w base ao cap zs at' ga ba gc bc l ls wr)) (fun i _ => n.toNat - (intOf i).toNat)
  case atStart => exact ⟨0, ga, ba, gc, bc, gs, bs, rfl, Nat.zero_le _, rfl, H2.out, HS0.out⟩
  case round =>
    clear HS0 H2
    obtain ⟨k, ga, ba, gc, bc, l, ls, rfl, hk, HE, H2, HS⟩ := hrel
    have hll := Met.len H2.out.g
    have hls := Met.len H2.out.b
    have m0 := HS.out.m.cell 0
    have m1 := HS.out.m.cell 1
    have m2 := HS.out.m.cell 2
    have m3 := HS.out.m.cell 3
    by_cases hl0 : 0 < l.length
    · by_cases hkn : (k : Int) < n
      · have HE2 : Hid (stepL zs (n.toNat - (k + 1)) (shadesL (insL (hz l 0) ls) (l.drop 1) (slotV zs (hz l 0))) (insL (hz l 0) ls) = stepL zs n.toNat gs bs) := by
          rw [Hid, ← HE.out, stepL_on (by omega) hl0, Nat.sub_sub]
        have hka := H2.out.g.2 _ (hz_mem hl0)
        have H3 : Hid (Two zs (shadesL (insL (hz l 0) ls) (l.drop 1) (slotV zs (hz l 0))) (insL (hz l 0) ls)) := (H2.out.on hl0).shades (leads_slots HH.out hka).1
        have HT1 : Hid (Two zs (l.drop 1) (insL (hz l 0) ls)) := H2.out.on hl0
        have HLd : Hid (Leads zs (slotV zs (hz l 0))) := (leads_slots HH.out hka).1
        obtain ⟨nn, en, hnn, hgd, esl, bb, hbm, hbn⟩ := kind_nat hka
        have HL3 : Hid (∀ u, Kept w u → Calls Tryz.prog 63 #[.agg #[.slice ao zs.length cap], .int .i64 (hz l 0)] u fun e w' => ∃ v, e = .returned v ∧ OwnL w' u.heap.size v (slotsL zs (hz l 0)) ∧ Kept u w') := fun u hu => by
          have := l3Slots_ok u ao cap zs nn (Ints.kept HI.out hu) hl hgd
          rw [← esl, ← en] at this
          exact this
        have HSV : Hid (∀ i, i < (slotsL zs (hz l 0)).length → hz (slotV zs (hz l 0)) i = hz zs (hz (slotsL zs (hz l 0)) i).toNat) := fun i hi => slotV_at hi
        have HSL : Hid ((slotV zs (hz l 0)).length = (slotsL zs (hz l 0)).length) := slotV_len _ _
        have hsl2 : (slotsL zs (hz l 0)).length ≤ zs.length := by
          rw [esl]
          have := slL_len nn (kd zs nn) (sz zs nn)
          have := hgd.le
          omega
        have HSP : Hid (∀ i, i < (slotsL zs (hz l 0)).length → ∃ p : Nat, hz (slotsL zs (hz l 0)) i = p ∧ p < zs.length) := fun i hi => by
          rw [esl] at hi ⊢
          exact slL_at hgd hi
        have hab : -9223372036854775808 ≤ hz l 0 ∧ hz l 0 ≤ 9223372036854775807 := by omega
        have HAB : Hid _ := hab
        have hIn := fun (u : World) (hO : OwnL u base (.slice ba ls.length bc) ls) => l8Insert_ok u _ base ls (hz l 0) hO (by omega) hab
        obtain ⟨sl, hsl0⟩ : ∃ sl, slotsL zs (hz l 0) = sl := ⟨_, rfl⟩
        obtain ⟨sv, hsv0⟩ : ∃ sv, slotV zs (hz l 0) = sv := ⟨_, rfl⟩
        rw [hsl0] at HL3 HSV HSL HSP hsl2
        rw [hsv0] at HE2 H3 HSV HSL HLd
        obtain ⟨l1, hl1⟩ : ∃ l1, insL (hz l 0) ls = l1 := ⟨_, rfl⟩
        rw [hl1] at HE2 H3 hIn HT1
        clear hka esl hbm hbn hgd hnn hsl0 hsv0 hab bb en hl1
        rcases HS.out.g.cases with ⟨_, e⟩ | ⟨g0, c0, e, hb0, hcc, hcm, hrow⟩
        · rw [e] at hl0; simp at hl0
        obtain ⟨rfl, rfl⟩ : ga = some ⟨g0, 0, none⟩ ∧ gc = c0 := by injection e with e1 _ e3; exact ⟨e1, e3⟩
        clear e
        have c1 := hrow.cell (j := 0) hl0
        obtain ⟨a, ha⟩ : ∃ a, hz l 0 = a := ⟨_, rfl⟩
        rw [ha] at c1 HL3 hIn HAB
        have kE : Kept wr (wr.alloc (.cells #[] 3)) := Kept.alloc (Below.refl _ _) _
        have oE : (wr.alloc (.cells #[] 3)).ownsRow wr.heap.size 3 1 (.slice (some ⟨wr.heap.size, 0, none⟩) 0 0) 0 [] := by
          have := World.ownsRow_made (base := wr.heap.size) (e := 3) (size := 1) wr #[] 0 (by simp) (by unfold maxLen; omega) (by simp)
          simpa using this
        have hrE := hrow.kept kE
        have news3 := drop_news (a := 1) hrE
        have Hltd : Hid ((l.drop 1).length = l.length - 1) := List.length_drop
        have HBd : Hid (∀ z ∈ l.drop 1, -9223372036854775808 ≤ z ∧ z ≤ 9223372036854775807) := fun z hz' => HS.out.g.1 z (List.mem_of_mem_drop hz')
        have Hd1 := Met.len HT1.out.g
        have Hd2 := Met.len HT1.out.b
        obtain ⟨g1, hg1⟩ : ∃ g1, l.drop 1 = g1 := ⟨_, rfl⟩
        rw [hg1] at HE2 H3 HT1 Hd1 Hltd news3 HBd
        have mE1 := (HS.out.kept kE).m.cell 1
        have r1 : (0 : Int) < (l.length : Int) := by omega
        have r2 : (1 : Int) ≤ (l.length : Int) := by omega
        have r3 : (1 : Int) ≤ (gc : Int) := by omega
        have r4 : 1 ≤ gc := by omega
        have r5 : 1 ≤ l.length := by omega
        clear hrow hrE ha hg1
        rcases Nat.lt_or_ge 1 gc with hca | hca
        · go_upto_region 6 with (first | (at_builtin; refine wpList_append_own _ rfl _ _ 24 rfl wr.heap.size 3 i0 (.int .i64 0) 1 8 Tryz.underlying24 hi hz0 hz1 hz2 rfl (by decide) _ _ _ rfl oE ⟨g0, 1, none⟩ (l.length - 1) (gc - 1) (g1.map (Value.int .i64)) rfl (by rw [List.length_map, Hltd.out, Nat.mul_one]) news3 (by intro u hu; obtain ⟨z, _, rfl⟩ := List.mem_map.1 hu; rfl) (by unfold maxLen; omega) (by omega) (by simp) ?_; intro v6 w6 own6 grow6 _; have kk6 : Kept wr w6 := Below.grown kE grow6 (by simp) (fun j ej => by have h3 : (Value.slice (some ⟨wr.heap.size, 0, none⟩) 0 0).ownBlock = some j := ej; simp [Value.ownBlock] at h3; omega); simp only [Nat.zero_add, List.nil_append] at own6; have O6 : OwnL w6 wr.heap.size v6 g1 := ⟨HBd.out, by rw [Hltd.out]; exact own6⟩; obtain ⟨ga6, gc6, rfl, _⟩ := O6.ints; have y6 := HS.out.m.kept kk6; have p1 := y6.cell 1; have f1 := y6.frozen 1))
          obtain ⟨S6', F6⟩ := HS.out.grey kk6 O6
          have S6 : Hid _ := S6'
          have HF6 : Hid _ := F6
          obtain ⟨W6, hW6⟩ : ∃ W6, w6.setCell ⟨w.heap.size + 1, 1, none⟩ (.slice ga6 g1.length gc6) = W6 := ⟨_, rfl⟩
          rw [hW6] at S6
          simp only [hW6]
          clear hW6 S6' F6 m0 m1 m2 m3 c1 kE oE news3 mE1 O6 own6 grow6 kk6 y6 p1 f1
          have m2 := S6.out.m.cell 2
          go_wp2_with fail
          refine (hIn W6 S6.out.b).mono ?_
          rintro e w7 ⟨v7, rfl, O7, hk7⟩
          obtain ⟨ba7, bc7, rfl, _⟩ := O7.ints
          have y7 := S6.out.m.kept hk7
          have p2 := y7.cell 2
          have f2 := y7.frozen 2
          have S7 : Hid _ := S6.out.black hk7 O7
          clear m2 O7 hk7 y7 hIn
          have s0 := S7.out.s.cell 0
          go_upto_region 7 with (fail)
          obtain ⟨W7, hW7⟩ : ∃ W7, w7.setCell ⟨w.heap.size + 1, 2, none⟩ (.slice ba7 l1.length bc7) = W7 := ⟨_, rfl⟩
          rw [hW7] at S7 s0
          simp only [hW7]
          clear hW7 p2 f2
          go_wp2_with fail
          refine (HL3.out W7 S7.out.k).mono ?_
          rintro e w8 ⟨v8, rfl, O8, hk8⟩
          obtain ⟨so8, sc8, rfl, _⟩ := O8.ints
          have HO8 : Hid _ := O8
          have S8 : Hid _ := S7.out.kept hk8
          have hsz7 := S7.out.sz
          have HG8 : Hid (∀ j, (Value.slice ga6 g1.length gc6).ownBlock = some j → (Value.slice so8 sl.length sc8).ownBlock ≠ some j) := fun j hj e => by
            have h1 := (O8.2.lt j e).1
            have h2 := (S7.out.g.2.lt j hj).2
            omega
          clear O8 hk8 s0 S7 S6
          go_wp2_with fail
          go_loopw [10] (fun i wr => ∃ (j : Nat) (ga : Option Addr) (gc : Nat), i = .int .i64 j ∧ j ≤ sl.length ∧ Hid (StepS w base ao cap zs at' ga ba7 gc bc7 (shadesL l1 g1 (sv.take j)) l1 wr) ∧ Hid (∀ x, (Value.slice ga (shadesL l1 g1 (sv.take j)).length gc).ownBlock = some x → w.heap.size + 3 ≤ x) ∧ Hid (∀ x, (Value.slice ga (shadesL l1 g1 (sv.take j)).length gc).ownBlock = some x → (Value.slice so8 sl.length sc8).ownBlock ≠ some x) ∧ Hid (OwnL wr (w.heap.size + 3) (.slice so8 sl.length sc8) sl)) (fun i _ => sl.length - (intOf i).toNat)
          case atStart => exact ⟨0, ga6, gc6, rfl, Nat.zero_le _, S8.out, HF6.out, HG8.out, OwnL.down HO8.out hsz7⟩
          case round =>
            clear S8 HF6 HG8 HO8
            obtain ⟨j, ga, gc, rfl, hj, T8, HF, HG, HO⟩ := hrel
            have HTj : Hid (Two zs (shadesL l1 g1 (sv.take j)) l1) := HT1.out.shades (fun v hv => HLd.out v (List.mem_of_mem_take hv))
            have hgl := Met.len HTj.out.g
            by_cases hlj : j < sl.length
            · obtain ⟨p, hp, hpl⟩ := HSP.out j hlj
              have hjv : j < sv.length := by rw [HSL.out]; exact hlj
              have evj : hz sv j = hz zs p := by rw [HSV.out j hlj, hp, Int.toNat_natCast]
              have HT : Hid (shadesL l1 g1 (sv.take (j + 1)) = shadeL 1 (shadesL l1 g1 (sv.take j)) l1 (hz zs p)) := by rw [Hid, take_hz hjv, shadesL_snoc, evj]
              have hvb := HI.out.1 _ (hz_mem hpl)
              obtain ⟨_, _, eo, hI8⟩ := HO.out.ints
              cases eo
              obtain ⟨b5, o5, e5, hc5⟩ := Ints.at hI8 hlj
              have c5 := hc5 j hlj
              rw [hp] at c5
              obtain ⟨b6, o6, e6, hc6⟩ := Ints.at (Ints.kept HI.out T8.out.k) hpl
              have c6 := hc6 p hpl
              have l5 : b5 < wr.heap.size := World.block_lt_of_cell? _ _ c5
              have l6 : b6 < wr.heap.size := World.block_lt_of_cell? _ _ c6
              obtain ⟨gj, hgj⟩ : ∃ gj, shadesL l1 g1 (sv.take j) = gj := ⟨_, rfl⟩
              rw [hgj] at T8 HF HG HT hgl
              subst e5
              subst e6
              have kd : Kept wr wr.drew := (Below.refl _ wr).drew
              have Sd : Hid _ := T8.out.kept kd
              have d0 := Sd.out.s.cell 0
              have m0 := Sd.out.m.cell 0
              have m1 := Sd.out.m.cell 1
              have m2 := Sd.out.m.cell 2
              have m3 := Sd.out.m.cell 3
              have y1 := (kd.cell (p := ⟨b5, o5 + j, none⟩) l5).trans c5
              have y2 := (kd.cell (p := ⟨b6, o6 + p, none⟩) l6).trans c6
              have g1' : (j : Int) < (sl.length : Int) := by omega
              have g2' : (0 : Int) ≤ (j : Int) := by omega
              have g3' : (p : Int) < (zs.length : Int) := by omega
              have g4' : (0 : Int) ≤ (p : Int) := by omega
              have g5' : ((p : Int)).toNat = p := by omega
              have hbw : base ≤ wr.drew.heap.size := by have := Sd.out.bw; have := Sd.out.sz; omega
              have hSh := l8Shade_ok2 wr.drew base base at' (hz zs p) ga ba7 gc bc7 gj l1 Sd.out.g Sd.out.b Sd.out.n (by omega) (by omega) hbw hvb
              have HOd : Hid _ := OwnL.kept (row := none) HO.out kd.grown (fun k e => by cases e)
              obtain ⟨sh, hsh⟩ : ∃ sh, shadeL 1 gj l1 (hz zs p) = sh := ⟨_, rfl⟩
              rw [hsh] at hSh HT
              clear hc5 hc6 c5 c6 hgj evj hp hvb hI8 kd l5 l6 hsh
              go_wp2_with fail
              refine wp_region_two (by kernel_rfl) (by kernel_rfl) (by kernel_rfl) ?_
              repeat (refine SeqC.read ?_ ⟨by rfl, ?_⟩ ?_; rotate_left; (focus (go_simp; first | done | exact rfl)); simp only [Act.put, List.setIfInBounds_toArray, List.set_cons_zero, List.set_cons_succ])
              refine SeqC.last (by go_simp; first | done | exact rfl) hSh ?_
              rintro e w5 ⟨ga', gc', rfl, ho1, ho2, ho3, hgr, hat⟩
              refine ⟨_, rfl, ?_⟩
              simp only [Act.put, List.setIfInBounds_toArray, List.set_cons_zero, List.set_cons_succ]
              have y5 := Sd.out.m.grown hgr (fun e => by have := HF.out _ e.symm; omega)
              have d50 := y5.cell 0
              have d51 := y5.cell 1
              have d52 := y5.cell 2
              have d53 := y5.cell 3
              have f50 := y5.frozen 0
              have f51 := y5.frozen 1
              have f52 := y5.frozen 2
              have f53 := y5.frozen 3
              all_goals (
                obtain ⟨S5, F5⟩ := Sd.out.shade HF.out ho1 ho2 ho3 hgr hat
                have HS5 : Hid _ := S5
                have HF5 : Hid _ := F5
                have HG5 : Hid (∀ x, (Value.slice ga' sh.length gc').ownBlock = some x → (Value.slice (some ⟨b5, o5, none⟩) sl.length sc8).ownBlock ≠ some x) := fun x hx e => by
                  rcases hat x hx with h | h
                  · exact HG.out x h e
                  · have := (HOd.out.2.lt x e).2
                    omega
                have hx : ∀ x, (Value.slice (some ⟨b5, o5, none⟩) sl.length sc8).ownBlock = some x → x ≠ w.heap.size + 1 := fun x hx => by have := (HOd.out.2.lt x hx).1; omega
                have O5 := OwnL.kept HOd.out hgr (fun k e x hx ek => by subst ek; exact HG.out _ e hx)
                have HO5 : Hid _ := (((O5.far (p := ⟨w.heap.size + 1, 0, none⟩) (u := .int .i64 1) hx).far (p := ⟨w.heap.size + 1, 1, none⟩) (u := .slice ga' sh.length gc') hx).far (p := ⟨w.heap.size + 1, 2, none⟩) (u := .slice ba7 l1.length bc7) hx).far (p := ⟨w.heap.size + 1, 3, none⟩) (u := .int .i64 at') hx
                clear S5 F5 O5 m0 m1 m2 m3 y1 y2 d0
                unfold Oper.wp
                go_simp
                go_wp2_with fail
                go_roundw
                case rel =>
                  refine ⟨j + 1, ga', gc', by go_num, by omega, ?_, ?_, ?_, HO5.out⟩
                  · rw [HT.out]; exact HS5.out
                  · rw [HT.out]; exact HF5.out
                  · rw [HT.out]; exact HG5.out
                case measure => simp [intOf]; omega)
            · obtain rfl : j = sl.length := by omega
              have e9 : sv.take sl.length = sv := by rw [← HSL.out, List.take_length]
              rw [e9] at T8
              clear HF HG HO e9 HTj hgl
              have hk1 : (k : Int) + 1 ≤ 9223372036854775807 := by omega
              go_wp2_with fail
              go_roundw
              case rel =>
                exact ⟨k + 1, ga, ba7, gc, bc7, _, _, by go_num, by omega, HE2.out, H3.out, T8.out⟩
              case measure => simp [intOf]; omega
        · obtain rfl : gc = 1 := by omega
          go_upto_region 6 with (first | (at_builtin; refine wpList_append_own _ rfl _ _ 24 rfl wr.heap.size 3 i0 (.int .i64 0) 1 8 Tryz.underlying24 hi hz0 hz1 hz2 rfl (by decide) _ _ _ rfl oE ⟨g0, 0, none⟩ _ _ (g1.map (Value.int .i64)) rfl (by first | (rw [List.length_map, Hltd.out, Nat.mul_one]; done) | (rw [List.length_map, Hltd.out]; omega)) (fun j u hu => by have h0 : g1 = [] := List.eq_nil_of_length_eq_zero (by have := Hltd.out; omega); rw [h0] at hu; simp at hu) (by intro u hu; obtain ⟨z, _, rfl⟩ := List.mem_map.1 hu; rfl) (by unfold maxLen; omega) (by omega) (by simp) ?_; intro v6 w6 own6 grow6 _; have kk6 : Kept wr w6 := Below.grown kE grow6 (by simp) (fun j ej => by have h3 : (Value.slice (some ⟨wr.heap.size, 0, none⟩) 0 0).ownBlock = some j := ej; simp [Value.ownBlock] at h3; omega); simp only [Nat.zero_add, List.nil_append] at own6; have O6 : OwnL w6 wr.heap.size v6 g1 := ⟨HBd.out, by rw [Hltd.out]; first | exact own6 | (have hz8 : l.length - 1 = 0 := (by omega); rw [hz8]; exact own6)⟩; obtain ⟨ga6, gc6, rfl, _⟩ := O6.ints; have y6 := HS.out.m.kept kk6; have p1 := y6.cell 1; have f1 := y6.frozen 1))
          obtain ⟨S6', F6⟩ := HS.out.grey kk6 O6
          have S6 : Hid _ := S6'
          have HF6 : Hid _ := F6
          obtain ⟨W6, hW6⟩ : ∃ W6, w6.setCell ⟨w.heap.size + 1, 1, none⟩ (.slice ga6 g1.length gc6) = W6 := ⟨_, rfl⟩
          rw [hW6] at S6
          simp only [hW6]
          clear hW6 S6' F6 m0 m1 m2 m3 c1 kE oE news3 mE1 O6 own6 grow6 kk6 y6 p1 f1
          have m2 := S6.out.m.cell 2
          go_wp2_with fail
          refine (hIn W6 S6.out.b).mono ?_
          rintro e w7 ⟨v7, rfl, O7, hk7⟩
          obtain ⟨ba7, bc7, rfl, _⟩ := O7.ints
          have y7 := S6.out.m.kept hk7
          have p2 := y7.cell 2
          have f2 := y7.frozen 2
          have S7 : Hid _ := S6.out.black hk7 O7
          clear m2 O7 hk7 y7 hIn
          have s0 := S7.out.s.cell 0
          go_upto_region 7 with (fail)
          obtain ⟨W7, hW7⟩ : ∃ W7, w7.setCell ⟨w.heap.size + 1, 2, none⟩ (.slice ba7 l1.length bc7) = W7 := ⟨_, rfl⟩
          rw [hW7] at S7 s0
          simp only [hW7]
          clear hW7 p2 f2
          go_wp2_with fail
          refine (HL3.out W7 S7.out.k).mono ?_
          rintro e w8 ⟨v8, rfl, O8, hk8⟩
          obtain ⟨so8, sc8, rfl, _⟩ := O8.ints
          have HO8 : Hid _ := O8
          have S8 : Hid _ := S7.out.kept hk8
          have hsz7 := S7.out.sz
          have HG8 : Hid (∀ j, (Value.slice ga6 g1.length gc6).ownBlock = some j → (Value.slice so8 sl.length sc8).ownBlock ≠ some j) := fun j hj e => by
            have h1 := (O8.2.lt j e).1
            have h2 := (S7.out.g.2.lt j hj).2
            omega
          clear O8 hk8 s0 S7 S6
          go_wp2_with fail
          go_loopw [10] (fun i wr => ∃ (j : Nat) (ga : Option Addr) (gc : Nat), i = .int .i64 j ∧ j ≤ sl.length ∧ Hid (StepS w base ao cap zs at' ga ba7 gc bc7 (shadesL l1 g1 (sv.take j)) l1 wr) ∧ Hid (∀ x, (Value.slice ga (shadesL l1 g1 (sv.take j)).length gc).ownBlock = some x → w.heap.size + 3 ≤ x) ∧ Hid (∀ x, (Value.slice ga (shadesL l1 g1 (sv.take j)).length gc).ownBlock = some x → (Value.slice so8 sl.length sc8).ownBlock ≠ some x) ∧ Hid (OwnL wr (w.heap.size + 3) (.slice so8 sl.length sc8) sl)) (fun i _ => sl.length - (intOf i).toNat)
          case atStart => exact ⟨0, ga6, gc6, rfl, Nat.zero_le _, S8.out, HF6.out, HG8.out, OwnL.down HO8.out hsz7⟩
          case round =>
            clear S8 HF6 HG8 HO8
            obtain ⟨j, ga, gc, rfl, hj, T8, HF, HG, HO⟩ := hrel
            have HTj : Hid (Two zs (shadesL l1 g1 (sv.take j)) l1) := HT1.out.shades (fun v hv => HLd.out v (List.mem_of_mem_take hv))
            have hgl := Met.len HTj.out.g
            by_cases hlj : j < sl.length
            · obtain ⟨p, hp, hpl⟩ := HSP.out j hlj
              have hjv : j < sv.length := by rw [HSL.out]; exact hlj
              have evj : hz sv j = hz zs p := by rw [HSV.out j hlj, hp, Int.toNat_natCast]
              have HT : Hid (shadesL l1 g1 (sv.take (j + 1)) = shadeL 1 (shadesL l1 g1 (sv.take j)) l1 (hz zs p)) := by rw [Hid, take_hz hjv, shadesL_snoc, evj]
              have hvb := HI.out.1 _ (hz_mem hpl)
              obtain ⟨_, _, eo, hI8⟩ := HO.out.ints
              cases eo
              obtain ⟨b5, o5, e5, hc5⟩ := Ints.at hI8 hlj
              have c5 := hc5 j hlj
              rw [hp] at c5
              obtain ⟨b6, o6, e6, hc6⟩ := Ints.at (Ints.kept HI.out T8.out.k) hpl
              have c6 := hc6 p hpl
              have l5 : b5 < wr.heap.size := World.block_lt_of_cell? _ _ c5
              have l6 : b6 < wr.heap.size := World.block_lt_of_cell? _ _ c6
              obtain ⟨gj, hgj⟩ : ∃ gj, shadesL l1 g1 (sv.take j) = gj := ⟨_, rfl⟩
              rw [hgj] at T8 HF HG HT hgl
              subst e5
              subst e6
              have kd : Kept wr wr.drew := (Below.refl _ wr).drew
              have Sd : Hid _ := T8.out.kept kd
              have d0 := Sd.out.s.cell 0
              have m0 := Sd.out.m.cell 0
              have m1 := Sd.out.m.cell 1
              have m2 := Sd.out.m.cell 2
              have m3 := Sd.out.m.cell 3
              have y1 := (kd.cell (p := ⟨b5, o5 + j, none⟩) l5).trans c5
              have y2 := (kd.cell (p := ⟨b6, o6 + p, none⟩) l6).trans c6
              have g1' : (j : Int) < (sl.length : Int) := by omega
              have g2' : (0 : Int) ≤ (j : Int) := by omega
              have g3' : (p : Int) < (zs.length : Int) := by omega
              have g4' : (0 : Int) ≤ (p : Int) := by omega
              have g5' : ((p : Int)).toNat = p := by omega
              have hbw : base ≤ wr.drew.heap.size := by have := Sd.out.bw; have := Sd.out.sz; omega
              have hSh := l8Shade_ok2 wr.drew base base at' (hz zs p) ga ba7 gc bc7 gj l1 Sd.out.g Sd.out.b Sd.out.n (by omega) (by omega) hbw hvb
              have HOd : Hid _ := OwnL.kept (row := none) HO.out kd.grown (fun k e => by cases e)
              obtain ⟨sh, hsh⟩ : ∃ sh, shadeL 1 gj l1 (hz zs p) = sh := ⟨_, rfl⟩
              rw [hsh] at hSh HT
              clear hc5 hc6 c5 c6 hgj evj hp hvb hI8 kd l5 l6 hsh
              go_wp2_with fail
              refine wp_region_two (by kernel_rfl) (by kernel_rfl) (by kernel_rfl) ?_
              repeat (refine SeqC.read ?_ ⟨by rfl, ?_⟩ ?_; rotate_left; (focus (go_simp; first | done | exact rfl)); simp only [Act.put, List.setIfInBounds_toArray, List.set_cons_zero, List.set_cons_succ])
              refine SeqC.last (by go_simp; first | done | exact rfl) hSh ?_
              rintro e w5 ⟨ga', gc', rfl, ho1, ho2, ho3, hgr, hat⟩
              refine ⟨_, rfl, ?_⟩
              simp only [Act.put, List.setIfInBounds_toArray, List.set_cons_zero, List.set_cons_succ]
              have y5 := Sd.out.m.grown hgr (fun e => by have := HF.out _ e.symm; omega)
              have d50 := y5.cell 0
              have d51 := y5.cell 1
              have d52 := y5.cell 2
              have d53 := y5.cell 3
              have f50 := y5.frozen 0
              have f51 := y5.frozen 1
              have f52 := y5.frozen 2
              have f53 := y5.frozen 3
              all_goals (
                obtain ⟨S5, F5⟩ := Sd.out.shade HF.out ho1 ho2 ho3 hgr hat
                have HS5 : Hid _ := S5
                have HF5 : Hid _ := F5
                have HG5 : Hid (∀ x, (Value.slice ga' sh.length gc').ownBlock = some x → (Value.slice (some ⟨b5, o5, none⟩) sl.length sc8).ownBlock ≠ some x) := fun x hx e => by
                  rcases hat x hx with h | h
                  · exact HG.out x h e
                  · have := (HOd.out.2.lt x e).2
                    omega
                have hx : ∀ x, (Value.slice (some ⟨b5, o5, none⟩) sl.length sc8).ownBlock = some x → x ≠ w.heap.size + 1 := fun x hx => by have := (HOd.out.2.lt x hx).1; omega
                have O5 := OwnL.kept HOd.out hgr (fun k e x hx ek => by subst ek; exact HG.out _ e hx)
                have HO5 : Hid _ := (((O5.far (p := ⟨w.heap.size + 1, 0, none⟩) (u := .int .i64 1) hx).far (p := ⟨w.heap.size + 1, 1, none⟩) (u := .slice ga' sh.length gc') hx).far (p := ⟨w.heap.size + 1, 2, none⟩) (u := .slice ba7 l1.length bc7) hx).far (p := ⟨w.heap.size + 1, 3, none⟩) (u := .int .i64 at') hx
                clear S5 F5 O5 m0 m1 m2 m3 y1 y2 d0
                unfold Oper.wp
                go_simp
                go_wp2_with fail
                go_roundw
                case rel =>
                  refine ⟨j + 1, ga', gc', by go_num, by omega, ?_, ?_, ?_, HO5.out⟩
                  · rw [HT.out]; exact HS5.out
                  · rw [HT.out]; exact HF5.out
                  · rw [HT.out]; exact HG5.out
                case measure => simp [intOf]; omega)
            · obtain rfl : j = sl.length := by omega
              have e9 : sv.take sl.length = sv := by rw [← HSL.out, List.take_length]
              rw [e9] at T8
              clear HF HG HO e9 HTj hgl
              have hk1 : (k : Int) + 1 ≤ 9223372036854775807 := by omega
              go_wp2_with fail
              go_roundw
              case rel =>
                exact ⟨k + 1, ga, ba7, gc, bc7, _, _, by go_num, by omega, HE2.out, H3.out, T8.out⟩
              case measure => simp [intOf]; omega
      · have hkz : n.toNat - k = 0 := by have := hkn; omega
        have HP : Hid (stepL zs n.toNat gs bs = (l, ls) ∧ stepPh (stepL zs n.toNat gs bs).1 = 1) := by
          have e : stepL zs n.toNat gs bs = (l, ls) := by rw [← HE.out, hkz]; rfl
          refine ⟨e, ?_⟩
          rw [e]
          exact if_neg (fun h => by have h' : l = [] := h; rw [h'] at hl0; simp at hl0)
        have hd : decide ((k : Int) < n) = false := by simpa using hkn
        have hd2 : ((l.length : Int) == 0) = false := by rw [beq_eq_false_iff_ne]; omega
        clear hkz hkn
        have z0 := HS.out.z
        have d0 := z0.cell 0
        have d1 := z0.cell 1
        have d2 := z0.cell 2
        have d3 := z0.cell 3
        have f0 := z0.frozen 0
        have f1 := z0.frozen 1
        have f2 := z0.frozen 2
        have f3 := z0.frozen 3
        go_wp2_with fail
        have q := z0.four (.int .i64 1) (.slice ga l.length gc) (.slice ba ls.length bc) (.int .i64 at')
        have q0 := q.cell 0
        have q1 := q.cell 1
        have q2 := q.cell 2
        have q3 := q.cell 3
        refine bodyPost_ret (v := .agg #[.int .i64 1, .slice ga l.length gc, .slice ba ls.length bc, .int .i64 at']) (by simp [results, Tryz.results168, go_sem, q0, q1, q2, q3]) rfl ⟨_, rfl, ?_, ?_⟩
        · rw [HP.out.2, HP.out.1]
          have hx : ∀ x, (Value.slice ga l.length gc).ownBlock = some x → x ≠ w.heap.size + 2 := fun x hx => by have := HS.out.og x hx; omega
          have hy : ∀ x, (Value.slice ba ls.length bc).ownBlock = some x → x ≠ w.heap.size + 2 := fun x hx => by have := HS.out.ob x hx; omega
          exact ⟨_, _, rfl, (((HS.out.g.far (p := ⟨w.heap.size + 2, 0, none⟩) hx).far (p := ⟨w.heap.size + 2, 1, none⟩) hx).far (p := ⟨w.heap.size + 2, 2, none⟩) hx).far (p := ⟨w.heap.size + 2, 3, none⟩) hx, (((HS.out.b.far (p := ⟨w.heap.size + 2, 0, none⟩) hy).far (p := ⟨w.heap.size + 2, 1, none⟩) hy).far (p := ⟨w.heap.size + 2, 2, none⟩) hy).far (p := ⟨w.heap.size + 2, 3, none⟩) hy, HS.out.n⟩
        · have K := HS.out.k
          exact (((K.set (p := ⟨w.heap.size + 2, 0, none⟩) (by simp) _).set (p := ⟨w.heap.size + 2, 1, none⟩) (by simp) _).set (p := ⟨w.heap.size + 2, 2, none⟩) (by simp) _).set (p := ⟨w.heap.size + 2, 3, none⟩) (by simp) _
    · have el : l = [] := List.eq_nil_of_length_eq_zero (by omega)
      subst el
      have HP : Hid (stepL zs n.toNat gs bs = ([], ls) ∧ stepPh (stepL zs n.toNat gs bs).1 = 2) := by
        have e : stepL zs n.toNat gs bs = ([], ls) := by rw [← HE.out, stepL_nil]
        refine ⟨e, ?_⟩
        rw [e]
        rfl
      clear hl0
      have mf := HS.out.m.frozen 0
      have mm := HS.out.m.set 0 (.int .i64 2)
      simp only [List.setIfInBounds_toArray, List.set_cons_zero] at mm
      have n0 := mm.cell 0
      have n1 := mm.cell 1
      have n2 := mm.cell 2
      have n3 := mm.cell 3
      have z0 := HS.out.z.other (p := ⟨w.heap.size + 1, 0, none⟩) (by simp) (.int .i64 2)
      have d0 := z0.cell 0
      have d1 := z0.cell 1
      have d2 := z0.cell 2
      have d3 := z0.cell 3
      have f0 := z0.frozen 0
      have f1 := z0.frozen 1
      have f2 := z0.frozen 2
      have f3 := z0.frozen 3
      simp only [List.length_nil] at m1 n1
      by_cases hkn : (k : Int) < n
      · go_wp2_with fail
        have q := z0.four (.int .i64 2) (.slice ga 0 gc) (.slice ba ls.length bc) (.int .i64 at')
        have q0 := q.cell 0
        have q1 := q.cell 1
        have q2 := q.cell 2
        have q3 := q.cell 3
        refine bodyPost_ret (v := .agg #[.int .i64 2, .slice ga 0 gc, .slice ba ls.length bc, .int .i64 at']) (by simp [results, Tryz.results168, go_sem, q0, q1, q2, q3]) rfl ⟨_, rfl, ?_, ?_⟩
        · rw [HP.out.2, HP.out.1]
          have hg0 : OwnL wr base (.slice ga 0 gc) [] := HS.out.g
          have hx1 : ∀ x, (Value.slice ga 0 gc).ownBlock = some x → x ≠ w.heap.size + 1 := fun x hx => by have := HS.out.og x hx; omega
          have hy1 : ∀ x, (Value.slice ba ls.length bc).ownBlock = some x → x ≠ w.heap.size + 1 := fun x hx => by have := HS.out.ob x hx; omega
          have hx : ∀ x, (Value.slice ga 0 gc).ownBlock = some x → x ≠ w.heap.size + 2 := fun x hx => by have := HS.out.og x hx; omega
          have hy : ∀ x, (Value.slice ba ls.length bc).ownBlock = some x → x ≠ w.heap.size + 2 := fun x hx => by have := HS.out.ob x hx; omega
          exact ⟨_, _, rfl, ((((hg0.far (p := ⟨w.heap.size + 1, 0, none⟩) hx1).far (p := ⟨w.heap.size + 2, 0, none⟩) hx).far (p := ⟨w.heap.size + 2, 1, none⟩) hx).far (p := ⟨w.heap.size + 2, 2, none⟩) hx).far (p := ⟨w.heap.size + 2, 3, none⟩) hx, ((((HS.out.b.far (p := ⟨w.heap.size + 1, 0, none⟩) hy1).far (p := ⟨w.heap.size + 2, 0, none⟩) hy).far (p := ⟨w.heap.size + 2, 1, none⟩) hy).far (p := ⟨w.heap.size + 2, 2, none⟩) hy).far (p := ⟨w.heap.size + 2, 3, none⟩) hy, HS.out.n⟩
        · have K := HS.out.k
          exact ((((K.set (p := ⟨w.heap.size + 1, 0, none⟩) (by simp) _).set (p := ⟨w.heap.size + 2, 0, none⟩) (by simp) _).set (p := ⟨w.heap.size + 2, 1, none⟩) (by simp) _).set (p := ⟨w.heap.size + 2, 2, none⟩) (by simp) _).set (p := ⟨w.heap.size + 2, 3, none⟩) (by simp) _
      · have hd : decide ((k : Int) < n) = false := by simpa using hkn
        clear hkn
        go_wp2_with fail
        have q := z0.four (.int .i64 2) (.slice ga 0 gc) (.slice ba ls.length bc) (.int .i64 at')
        have q0 := q.cell 0
        have q1 := q.cell 1
        have q2 := q.cell 2
        have q3 := q.cell 3
        refine bodyPost_ret (v := .agg #[.int .i64 2, .slice ga 0 gc, .slice ba ls.length bc, .int .i64 at']) (by simp [results, Tryz.results168, go_sem, q0, q1, q2, q3]) rfl ⟨_, rfl, ?_, ?_⟩
        · rw [HP.out.2, HP.out.1]
          have hg0 : OwnL wr base (.slice ga 0 gc) [] := HS.out.g
          have hx1 : ∀ x, (Value.slice ga 0 gc).ownBlock = some x → x ≠ w.heap.size + 1 := fun x hx => by have := HS.out.og x hx; omega
          have hy1 : ∀ x, (Value.slice ba ls.length bc).ownBlock = some x → x ≠ w.heap.size + 1 := fun x hx => by have := HS.out.ob x hx; omega
          have hx : ∀ x, (Value.slice ga 0 gc).ownBlock = some x → x ≠ w.heap.size + 2 := fun x hx => by have := HS.out.og x hx; omega
          have hy : ∀ x, (Value.slice ba ls.length bc).ownBlock = some x → x ≠ w.heap.size + 2 := fun x hx => by have := HS.out.ob x hx; omega
          exact ⟨_, _, rfl, ((((hg0.far (p := ⟨w.heap.size + 1, 0, none⟩) hx1).far (p := ⟨w.heap.size + 2, 0, none⟩) hx).far (p := ⟨w.heap.size + 2, 1, none⟩) hx).far (p := ⟨w.heap.size + 2, 2, none⟩) hx).far (p := ⟨w.heap.size + 2, 3, none⟩) hx, ((((HS.out.b.far (p := ⟨w.heap.size + 1, 0, none⟩) hy1).far (p := ⟨w.heap.size + 2, 0, none⟩) hy).far (p := ⟨w.heap.size + 2, 1, none⟩) hy).far (p := ⟨w.heap.size + 2, 2, none⟩) hy).far (p := ⟨w.heap.size + 2, 3, none⟩) hy, HS.out.n⟩
        · have K := HS.out.k
          exact ((((K.set (p := ⟨w.heap.size + 1, 0, none⟩) (by simp) _).set (p := ⟨w.heap.size + 2, 0, none⟩) (by simp) _).set (p := ⟨w.heap.size + 2, 1, none⟩) (by simp) _).set (p := ⟨w.heap.size + 2, 2, none⟩) (by simp) _).set (p := ⟨w.heap.size + 2, 3, none⟩) (by simp) _
end Go.Proofs.YtgnpllpinfhccaaGreatDoor
namespace Go.Proofs.YtgnpllpinfhccaaGreatDoor
open Go.RowKit
attribute [local go_sem] Plain.and7

def stepC (zs : List Int) (ph : Int) (gs bs : List Int) (at' n : Int) : Int × List Int × List Int := if markR zs ph gs bs at' = true ∧ ph = 1 then (stepPh (stepL zs n.toNat gs bs).1, stepL zs n.toNat gs bs) else (ph, gs, bs)
set_option maxHeartbeats 16000000 in
set_option maxRecDepth 100000 in
theorem spec_MarkStep_ok (w : World) (c1' c2' : Nat) (ao ga ba : Option Addr) (cap gc bc : Nat) (zs gs bs : List Int) (ph at' n : Int) (hI : Ints w ao zs) (hl : zs.length ≤ 1048576) (hg : OwnL w c1' (.slice ga gs.length gc) gs) (hb : OwnL w c2' (.slice ba bs.length bc) bs) (hgl : gs.length ≤ 1048576) (hbl : bs.length ≤ 1048576) (hn : -9223372036854775808 ≤ n ∧ n ≤ 9223372036854775807) :
    Calls Tryz.prog 126 #[.agg #[.slice ao zs.length cap], .agg #[.int .i64 ph, .slice ga gs.length gc, .slice ba bs.length bc, .int .i64 at'], .int .i64 n] w fun e w' => ∃ m, e = .returned m ∧ MkO w' w.heap.size m (stepC zs ph gs bs at' n).1 (stepC zs ph gs bs at' n).2.1 (stepC zs ph gs bs at' n).2.2 at' ∧ Kept w w' := by
  have b0 := ((Cells.new w 26 #[.slice ao zs.length cap]).alloc (.cells #[.int .i64 ph, .slice ga gs.length gc, .slice ba bs.length bc, .int .i64 at'] 101)).alloc (.cells #[.int .i64 0, .slice none 0 0, .slice none 0 0, .int .i64 0] 101)
  have b1 := (Cells.new (w.alloc (.cells #[.slice ao zs.length cap] 26)) 101 #[.int .i64 ph, .slice ga gs.length gc, .slice ba bs.length bc, .int .i64 at']).alloc (.cells #[.int .i64 0, .slice none 0 0, .slice none 0 0, .int .i64 0] 101)
  have b2 := Cells.new ((w.alloc (.cells #[.slice ao zs.length cap] 26)).alloc (.cells #[.int .i64 ph, .slice ga gs.length gc, .slice ba bs.length bc, .int .i64 at'] 101)) 101 #[.int .i64 0, .slice none 0 0, .slice none 0 0, .int .i64 0]
  have k0 : Kept w (((w.alloc (.cells #[.slice ao zs.length cap] 26)).alloc (.cells #[.int .i64 ph, .slice ga gs.length gc, .slice ba bs.length bc, .int .i64 at'] 101)).alloc (.cells #[.int .i64 0, .slice none 0 0, .slice none 0 0, .int .i64 0] 101)) := ((Kept.alloc (Below.refl _ _) _).alloc _).alloc _
  have hsX : (((w.alloc (.cells #[.slice ao zs.length cap] 26)).alloc (.cells #[.int .i64 ph, .slice ga gs.length gc, .slice ba bs.length bc, .int .i64 at'] 101)).alloc (.cells #[.int .i64 0, .slice none 0 0, .slice none 0 0, .int .i64 0] 101)).heap.size = w.heap.size + 3 := by simp
  simp only [World.size_alloc] at b1 b2
  have HI : Hid (Ints w ao zs) := hI
  have hm := MkI.of hg hb hgl hbl
  have hMk := fun (u : World) (hu : Kept w u) => spec_MarkerOk_ok u ao ga ba cap gc bc zs gs bs ph at' (Ints.kept HI.out hu) hl (hm.kept hu)
  have hCp := fun (u : World) (hu : Kept w u) => l8Copy_ok u c1' c2' ph at' ga ba gc bc gs bs (OwnL.kept (row := none) hg hu.grown (fun k e => by cases e)) (OwnL.kept (row := none) hb hu.grown (fun k e => by cases e)) hgl hbl
  obtain ⟨mr, hmr⟩ : ∃ mr, markR zs ph gs bs at' = mr := ⟨_, rfl⟩
  rw [hmr] at hMk
  cases mr with
  | false =>
    have HF : Hid (stepC zs ph gs bs at' n = (ph, gs, bs)) := by simp [Hid, stepC, hmr]
    clear hmr
    clear hm hI hg hb
    go_enter Tryz.func126, Tryz.ntmps126
    go_upto_region 1 with (fail)
    obtain ⟨WX, hWX⟩ : ∃ WX, ((w.alloc (.cells #[.slice ao zs.length cap] 26)).alloc (.cells #[.int .i64 ph, .slice ga gs.length gc, .slice ba bs.length bc, .int .i64 at'] 101)).alloc (.cells #[.int .i64 0, .slice none 0 0, .slice none 0 0, .int .i64 0] 101) = WX := ⟨_, rfl⟩
    rw [hWX] at b0 b1 b2 k0 hsX
    simp only [hWX]
    have HX0 : Hid (∀ u, Kept WX u → Cells u w.heap.size 26 #[.slice ao zs.length cap]) := fun u hu => b0.kept hu
    have HX1 : Hid (∀ u, Kept WX u → Cells u (w.heap.size + 1) 101 #[.int .i64 ph, .slice ga gs.length gc, .slice ba bs.length bc, .int .i64 at']) := fun u hu => b1.kept hu
    have HX2 : Hid (∀ u, Kept WX u → Cells u (w.heap.size + 2) 101 #[.int .i64 0, .slice none 0 0, .slice none 0 0, .int .i64 0]) := fun u hu => b2.kept hu
    have HKX : Hid (Kept w WX) := k0
    have s0 := (HX0.out WX (Below.refl _ _)).cell 0
    have m0 := (HX1.out WX (Below.refl _ _)).cell 0
    have m1 := (HX1.out WX (Below.refl _ _)).cell 1
    have m2 := (HX1.out WX (Below.refl _ _)).cell 2
    have m3 := (HX1.out WX (Below.refl _ _)).cell 3
    clear hWX b0 b1 b2 k0
    have hsX2 : w.heap.size + 3 ≤ WX.heap.size := by omega
    clear hsX
    go_upto_region 2 with (first | (go_at_call 165; refine (hMk _ HKX.out).mono ?_; rintro e w1 ⟨rfl, hk1⟩; have x1 := HX1.out w1 hk1; have n0 := x1.cell 0))
    clear s0 m0 m1 m2 m3
    have m0 := (HX1.out w1 hk1).cell 0
    have m1 := (HX1.out w1 hk1).cell 1
    have m2 := (HX1.out w1 hk1).cell 2
    have m3 := (HX1.out w1 hk1).cell 3
    go_wp2_with fail
    refine (hCp _ (Kept.trans HKX.out hk1)).mono ?_
    rintro e w4 ⟨m4, rfl, hM4, hk4⟩
    have hsz4 := (hk1).size
    clear m0 m1 m2 m3
    obtain ⟨gv, bv, rfl, ho1, ho2, ho3⟩ := hM4
    obtain ⟨ga4, gc4, rfl, _⟩ := ho1.ints
    obtain ⟨ba4, bc4, rfl, _⟩ := ho2.ints
    have z4 : Cells w4 (w.heap.size + 2) 101 #[.int .i64 0, .slice none 0 0, .slice none 0 0, .int .i64 0] := HX2.out w4 (Kept.trans hk1 hk4)
    have M4 : MkO w4 (w.heap.size + 3) (.agg #[.int .i64 ph, .slice ga4 gs.length gc4, .slice ba4 bs.length bc4, .int .i64 at']) ph gs bs at' := MkO.base ⟨_, _, rfl, ho1, ho2, ho3⟩ (by omega)
    have K4 : Kept w w4 := Kept.trans HKX.out (Kept.trans hk1 hk4)
    have d0 := z4.cell 0
    have d1 := z4.cell 1
    have d2 := z4.cell 2
    have d3 := z4.cell 3
    have f0 := z4.frozen 0
    have f1 := z4.frozen 1
    have f2 := z4.frozen 2
    have f3 := z4.frozen 3
    clear ho1 ho2 ho3
    go_wp2_with fail
    have q := z4.four (.int .i64 ph) (.slice ga4 gs.length gc4) (.slice ba4 bs.length bc4) (.int .i64 at')
    have q0 := q.cell 0
    have q1 := q.cell 1
    have q2 := q.cell 2
    have q3 := q.cell 3
    refine bodyPost_ret (v := .agg #[.int .i64 ph, .slice ga4 gs.length gc4, .slice ba4 bs.length bc4, .int .i64 at']) (by simp [results, Tryz.results126, go_sem, q0, q1, q2, q3]) rfl ⟨_, rfl, ?_, ?_⟩
    · rw [HF.out]
      exact MkO.base ((((M4.far (p := ⟨w.heap.size + 2, 0, none⟩) (by simp)).far (p := ⟨w.heap.size + 2, 1, none⟩) (by simp)).far (p := ⟨w.heap.size + 2, 2, none⟩) (by simp)).far (p := ⟨w.heap.size + 2, 3, none⟩) (by simp)) (by omega)
    · exact (((K4.set (p := ⟨w.heap.size + 2, 0, none⟩) (by simp) _).set (p := ⟨w.heap.size + 2, 1, none⟩) (by simp) _).set (p := ⟨w.heap.size + 2, 2, none⟩) (by simp) _).set (p := ⟨w.heap.size + 2, 3, none⟩) (by simp) _
  | true =>
    by_cases hph : ph = 1
    · subst hph
      have HH : Hid (heapR zs = true) := markR_heap hmr
      have H2 : Hid (Two zs gs bs) := markR_two hmr
      obtain ⟨g5, b5, hG5⟩ : ∃ g5 b5, stepL zs n.toNat gs bs = (g5, b5) := ⟨_, _, rfl⟩
      have HG5 : Hid (stepL zs n.toNat gs bs = (g5, b5)) := hG5
      have HF : Hid (stepC zs 1 gs bs at' n = (stepPh g5, g5, b5)) := by rw [Hid, stepC, if_pos ⟨hmr, rfl⟩, hG5]
      clear hmr hG5
      clear hm hI hg hb
      go_enter Tryz.func126, Tryz.ntmps126
      go_upto_region 1 with (fail)
      obtain ⟨WX, hWX⟩ : ∃ WX, ((w.alloc (.cells #[.slice ao zs.length cap] 26)).alloc (.cells #[.int .i64 1, .slice ga gs.length gc, .slice ba bs.length bc, .int .i64 at'] 101)).alloc (.cells #[.int .i64 0, .slice none 0 0, .slice none 0 0, .int .i64 0] 101) = WX := ⟨_, rfl⟩
      rw [hWX] at b0 b1 b2 k0 hsX
      simp only [hWX]
      have HX0 : Hid (∀ u, Kept WX u → Cells u w.heap.size 26 #[.slice ao zs.length cap]) := fun u hu => b0.kept hu
      have HX1 : Hid (∀ u, Kept WX u → Cells u (w.heap.size + 1) 101 #[.int .i64 1, .slice ga gs.length gc, .slice ba bs.length bc, .int .i64 at']) := fun u hu => b1.kept hu
      have HX2 : Hid (∀ u, Kept WX u → Cells u (w.heap.size + 2) 101 #[.int .i64 0, .slice none 0 0, .slice none 0 0, .int .i64 0]) := fun u hu => b2.kept hu
      have HKX : Hid (Kept w WX) := k0
      have s0 := (HX0.out WX (Below.refl _ _)).cell 0
      have m0 := (HX1.out WX (Below.refl _ _)).cell 0
      have m1 := (HX1.out WX (Below.refl _ _)).cell 1
      have m2 := (HX1.out WX (Below.refl _ _)).cell 2
      have m3 := (HX1.out WX (Below.refl _ _)).cell 3
      clear hWX b0 b1 b2 k0
      have hsX2 : w.heap.size + 3 ≤ WX.heap.size := by omega
      clear hsX
      go_upto_region 3 with (first | (go_at_call 165; refine (hMk _ HKX.out).mono ?_; rintro e w1 ⟨rfl, hk1⟩; have x1 := HX1.out w1 hk1; have n0 := x1.cell 0))
      clear s0 m0 m1 m2 m3 n0 x1
      have kd : Kept w1 w1.drew := (Below.refl _ w1).drew
      have hk1d : Kept WX w1.drew := Kept.trans hk1 kd
      have s0 := (HX0.out _ hk1d).cell 0
      have m0 := (HX1.out _ hk1d).cell 0
      have m1 := (HX1.out _ hk1d).cell 1
      have m2 := (HX1.out _ hk1d).cell 2
      have m3 := (HX1.out _ hk1d).cell 3
      have hszd : w.heap.size + 3 ≤ w1.drew.heap.size := Nat.le_trans hsX2 hk1d.size
      go_wp2_with fail
      go_region_with (first | (go_at_call 166; refine (hCp _ (Kept.trans HKX.out hk1d)).mono ?_; rintro e w3 ⟨m3', rfl, hM3, hk3⟩; obtain ⟨gv3, bv3, rfl, ho1, ho2, ho3⟩ := hM3; obtain ⟨ga3, gc3, rfl, _⟩ := ho1.ints; obtain ⟨ba3, bc3, rfl, _⟩ := ho2.ints; have s3 := (HX0.out w3 (Kept.trans hk1d hk3)).cell 0; have hSt := l8Step_ok w3 w1.drew.heap.size ao ga3 ba3 cap gc3 bc3 zs gs bs at' n (Ints.kept HI.out (Kept.trans HKX.out (Kept.trans hk1d hk3))) hl HH.out ho1 ho2 ho3 H2.out hk3.size hn; rw [HG5.out] at hSt) | (go_at_call 168; refine hSt.mono ?_; rintro e w4 ⟨m4, rfl, hM4, hk4⟩; obtain ⟨gv4, bv4, rfl, hp1, hp2, hp3⟩ := hM4; obtain ⟨ga4, gc4, rfl, _⟩ := hp1.ints; obtain ⟨ba4, bc4, rfl, _⟩ := hp2.ints; have z4 : Cells w4 (w.heap.size + 2) 101 #[.int .i64 0, .slice none 0 0, .slice none 0 0, .int .i64 0] := HX2.out w4 (Kept.trans (Kept.trans hk1d hk3) hk4); have d0 := z4.cell 0; have d1 := z4.cell 1; have d2 := z4.cell 2; have d3 := z4.cell 3; have f0 := z4.frozen 0; have f1 := z4.frozen 1; have f2 := z4.frozen 2; have f3 := z4.frozen 3))
      all_goals (
        have M4 : MkO w4 (w.heap.size + 3) (.agg #[.int .i64 (stepPh g5), .slice ga4 g5.length gc4, .slice ba4 b5.length bc4, .int .i64 at']) (stepPh g5) g5 b5 at' := MkO.base ⟨_, _, rfl, hp1, hp2, hp3⟩ hszd
        have K4 : Kept w w4 := Kept.trans HKX.out (Kept.trans (Kept.trans hk1d hk3) hk4)
        clear s0 m0 m1 m2 m3 hSt ho1 ho2 ho3 hp1 hp2 hp3
        go_wp2_with fail
        have q := z4.four (.int .i64 (stepPh g5)) (.slice ga4 g5.length gc4) (.slice ba4 b5.length bc4) (.int .i64 at')
        have q0 := q.cell 0
        have q1 := q.cell 1
        have q2 := q.cell 2
        have q3 := q.cell 3
        refine bodyPost_ret (v := .agg #[.int .i64 (stepPh g5), .slice ga4 g5.length gc4, .slice ba4 b5.length bc4, .int .i64 at']) (by simp [results, Tryz.results126, go_sem, q0, q1, q2, q3]) rfl ⟨_, rfl, ?_, ?_⟩
        · rw [HF.out]
          exact MkO.base ((((M4.far (p := ⟨w.heap.size + 2, 0, none⟩) (by simp)).far (p := ⟨w.heap.size + 2, 1, none⟩) (by simp)).far (p := ⟨w.heap.size + 2, 2, none⟩) (by simp)).far (p := ⟨w.heap.size + 2, 3, none⟩) (by simp)) (by omega)
        · exact (((K4.set (p := ⟨w.heap.size + 2, 0, none⟩) (by simp) _).set (p := ⟨w.heap.size + 2, 1, none⟩) (by simp) _).set (p := ⟨w.heap.size + 2, 2, none⟩) (by simp) _).set (p := ⟨w.heap.size + 2, 3, none⟩) (by simp) _)
    · have HF : Hid (stepC zs ph gs bs at' n = (ph, gs, bs)) := by rw [Hid, stepC, if_neg (fun h => hph h.2)]
      have hd : (ph == 1) = false := by simpa using hph
      have hd2 : (ph != 1) = true := by simpa using hph
      clear hmr hph
      clear hm hI hg hb
      go_enter Tryz.func126, Tryz.ntmps126
      go_upto_region 1 with (fail)
      obtain ⟨WX, hWX⟩ : ∃ WX, ((w.alloc (.cells #[.slice ao zs.length cap] 26)).alloc (.cells #[.int .i64 ph, .slice ga gs.length gc, .slice ba bs.length bc, .int .i64 at'] 101)).alloc (.cells #[.int .i64 0, .slice none 0 0, .slice none 0 0, .int .i64 0] 101) = WX := ⟨_, rfl⟩
      rw [hWX] at b0 b1 b2 k0 hsX
      simp only [hWX]
      have HX0 : Hid (∀ u, Kept WX u → Cells u w.heap.size 26 #[.slice ao zs.length cap]) := fun u hu => b0.kept hu
      have HX1 : Hid (∀ u, Kept WX u → Cells u (w.heap.size + 1) 101 #[.int .i64 ph, .slice ga gs.length gc, .slice ba bs.length bc, .int .i64 at']) := fun u hu => b1.kept hu
      have HX2 : Hid (∀ u, Kept WX u → Cells u (w.heap.size + 2) 101 #[.int .i64 0, .slice none 0 0, .slice none 0 0, .int .i64 0]) := fun u hu => b2.kept hu
      have HKX : Hid (Kept w WX) := k0
      have s0 := (HX0.out WX (Below.refl _ _)).cell 0
      have m0 := (HX1.out WX (Below.refl _ _)).cell 0
      have m1 := (HX1.out WX (Below.refl _ _)).cell 1
      have m2 := (HX1.out WX (Below.refl _ _)).cell 2
      have m3 := (HX1.out WX (Below.refl _ _)).cell 3
      clear hWX b0 b1 b2 k0
      have hsX2 : w.heap.size + 3 ≤ WX.heap.size := by omega
      clear hsX
      go_upto_region 2 with (first | (go_at_call 165; refine (hMk _ HKX.out).mono ?_; rintro e w1 ⟨rfl, hk1⟩; have x1 := HX1.out w1 hk1; have n0 := x1.cell 0))
      clear s0 m0 m1 m2 m3
      have m0 := (HX1.out w1 hk1).cell 0
      have m1 := (HX1.out w1 hk1).cell 1
      have m2 := (HX1.out w1 hk1).cell 2
      have m3 := (HX1.out w1 hk1).cell 3
      go_wp2_with fail
      refine (hCp _ (Kept.trans HKX.out hk1)).mono ?_
      rintro e w4 ⟨m4, rfl, hM4, hk4⟩
      have hsz4 := (hk1).size
      clear m0 m1 m2 m3
      obtain ⟨gv, bv, rfl, ho1, ho2, ho3⟩ := hM4
      obtain ⟨ga4, gc4, rfl, _⟩ := ho1.ints
      obtain ⟨ba4, bc4, rfl, _⟩ := ho2.ints
      have z4 : Cells w4 (w.heap.size + 2) 101 #[.int .i64 0, .slice none 0 0, .slice none 0 0, .int .i64 0] := HX2.out w4 (Kept.trans hk1 hk4)
      have M4 : MkO w4 (w.heap.size + 3) (.agg #[.int .i64 ph, .slice ga4 gs.length gc4, .slice ba4 bs.length bc4, .int .i64 at']) ph gs bs at' := MkO.base ⟨_, _, rfl, ho1, ho2, ho3⟩ (by omega)
      have K4 : Kept w w4 := Kept.trans HKX.out (Kept.trans hk1 hk4)
      have d0 := z4.cell 0
      have d1 := z4.cell 1
      have d2 := z4.cell 2
      have d3 := z4.cell 3
      have f0 := z4.frozen 0
      have f1 := z4.frozen 1
      have f2 := z4.frozen 2
      have f3 := z4.frozen 3
      clear ho1 ho2 ho3
      go_wp2_with fail
      have q := z4.four (.int .i64 ph) (.slice ga4 gs.length gc4) (.slice ba4 bs.length bc4) (.int .i64 at')
      have q0 := q.cell 0
      have q1 := q.cell 1
      have q2 := q.cell 2
      have q3 := q.cell 3
      refine bodyPost_ret (v := .agg #[.int .i64 ph, .slice ga4 gs.length gc4, .slice ba4 bs.length bc4, .int .i64 at']) (by simp [results, Tryz.results126, go_sem, q0, q1, q2, q3]) rfl ⟨_, rfl, ?_, ?_⟩
      · rw [HF.out]
        exact MkO.base ((((M4.far (p := ⟨w.heap.size + 2, 0, none⟩) (by simp)).far (p := ⟨w.heap.size + 2, 1, none⟩) (by simp)).far (p := ⟨w.heap.size + 2, 2, none⟩) (by simp)).far (p := ⟨w.heap.size + 2, 3, none⟩) (by simp)) (by omega)
      · exact (((K4.set (p := ⟨w.heap.size + 2, 0, none⟩) (by simp) _).set (p := ⟨w.heap.size + 2, 1, none⟩) (by simp) _).set (p := ⟨w.heap.size + 2, 2, none⟩) (by simp) _).set (p := ⟨w.heap.size + 2, 3, none⟩) (by simp) _
end Go.Proofs.YtgnpllpinfhccaaGreatDoor
namespace Go.Proofs.YtgnpllpinfhccaaGreatDoor
open Go.RowKit

theorem mark_two {zs gs bs : List Int} {at' : Int} (h : markR zs 2 gs bs at' = true) : slabOk zs = true ∧ gs = [] ∧ ∃ a : Nat, at' = a ∧ Bnd zs a := by
  have hok : slabOk zs = true := by
    unfold markR at h
    simp only [Bool.and_eq_true] at h
    exact h.1.1.1.1.1
  unfold markR at h
  simp only [Bool.and_eq_true] at h
  have h1 := h.2
  rw [if_neg (by decide), if_neg (by decide)] at h1
  unfold sweptR at h1
  simp only [Bool.and_eq_true, Bool.or_eq_true, decide_eq_true_eq] at h1
  refine ⟨hok, h1.1.1.1, ?_⟩
  rcases h1.1.1.2 with e | e
  · exact ⟨zs.length, e, _, [], Seg.whole hok, .nil _⟩
  · unfold isAt at e
    cases hb : atB zs at' with
    | none => rw [hb] at e; simp at e
    | some b =>
      have hs := atB_some hb
      refine ⟨b.1.at', hs.2.1.symm, ?_⟩
      have hm : b.1 ∈ raw (blocks zs) := List.mem_map.2 ⟨b, hs.2.2.2.2.2, rfl⟩
      obtain ⟨p, r, e2⟩ := List.append_of_mem hm
      have hw := Seg.whole hok
      rw [e2] at hw
      obtain ⟨m, h3, h4⟩ := hw.split
      have h5 := h4.head
      have em : m = b.1.at' := by rw [h5.1]
      rw [em] at h3 h4
      exact ⟨p, _, h3, h4⟩
def swpC (zs : List Int) (ph : Int) (gs bs : List Int) (at' n : Int) : List Int × Int × List Int × List Int × Int :=
  if markR zs ph gs bs at' = true then (if ph = 2 then (if (sweepL bs n.toNat zs at'.toNat).2 = zs.length then ((sweepL bs n.toNat zs at'.toNat).1, 0, [], [], 0) else ((sweepL bs n.toNat zs at'.toNat).1, 2, gs, bs, ((sweepL bs n.toNat zs at'.toNat).2 : Nat))) else (zs, ph, gs, bs, at')) else ([], ph, gs, bs, at')
theorem swpC_len (zs : List Int) (ph : Int) (gs bs : List Int) (at' n : Int) : (swpC zs ph gs bs at' n).1.length ≤ zs.length := by
  unfold swpC
  split
  · split
    · split <;> simp [sweepL_len]
    · simp
  · simp
def sweepC (zs : List Int) (ph : Int) (gs bs : List Int) (at' : Int) : List Int × Int × List Int × List Int × Int :=
  swpC zs (stepC zs ph gs bs at' 2000).1 (stepC zs ph gs bs at' 2000).2.1 (stepC zs ph gs bs at' 2000).2.2 at' 2000
def collL (zs rs : List Int) : List Int := if rootsR zs rs = true then (sweepC zs (startC zs rs).1 (startC zs rs).2 [] 0).1 else []
theorem collL_len (zs rs : List Int) : (collL zs rs).length ≤ zs.length := by
  unfold collL sweepC
  split
  · exact swpC_len _ _ _ _ _ _
  · simp
end Go.Proofs.YtgnpllpinfhccaaGreatDoor
namespace Go.Proofs.YtgnpllpinfhccaaGreatDoor
open Go.RowKit
attribute [local go_sem] Plain.and7

set_option maxHeartbeats 4000000 in
set_option maxRecDepth 100000 in
theorem l9Behind_ok (w : World) (ao : Option Addr) (cap : Nat) (zs : List Int) (a : Nat) (hI : Ints w ao zs) (hok : slabOk zs = true) (ha : a < zs.length) :
    Calls Tryz.prog 185 #[.agg #[.slice ao zs.length cap], .int .i64 (a : Nat)] w fun e w' => e = .returned (.int .i64 (behL zs a : Nat)) ∧ Kept w w' := by
  have hlen := slabOk_len hok
  have b0 := Cells.new w 26 #[.slice ao zs.length cap]
  have k0 : Kept w (w.alloc (.cells #[.slice ao zs.length cap] 26)) := Kept.alloc (Below.refl _ _) _
  have HB0 : Hid _ := Bnd.zero hok
  have HI : Hid _ := hI.kept k0
  clear hI hok
  have c0 := b0.cell 0
  go_enter Tryz.func185, Tryz.ntmps185
  go_wp2_with fail
  go_loopw [5] (fun v wr => ∃ k n : Nat, v = .int .i64 k ∧ Hid (Bnd zs k ∧ behL zs a = behF zs a n k ∧ zs.length < n + k) ∧ k ≤ zs.length ∧ wr = w.alloc (.cells #[.slice ao zs.length cap] 26)) (fun v _ => zs.length + 1 - (intOf v).toNat)
  case atStart => exact ⟨0, zs.length + 1, rfl, ⟨HB0.out, rfl, by omega⟩, Nat.zero_le _, rfl⟩
  case round =>
    obtain ⟨k, n, rfl, HR, hk, rfl⟩ := hrel
    by_cases hlt : k ≤ a
    · obtain ⟨hg, hb⟩ := HR.out.1.good (by omega)
      have hgl := hg.lt
      have hszI := hg.szI
      have hle := hg.le
      have hs2 := hg.sz2
      obtain ⟨bb, off, rfl, hc⟩ := Ints.at HI.out hgl
      have hck := hc _ hgl
      have HB : Hid (Bnd zs (k + sz zs k)) := hb
      have HN : Hid (behL zs a = behF zs a (n - 1) (k + sz zs k)) := by
        have hn : n = (n - 1) + 1 := by have := HR.out.2.2; omega
        rw [Hid, HR.out.2.1, hn, behF_on hlt]
        rfl
      have HNL : Hid (zs.length < n + k) := HR.out.2.2
      have hq1 : (k : Int) ≤ (a : Int) := by omega
      have hq2 : (k : Int) < (zs.length : Int) := by omega
      have hq3 : (0 : Int) ≤ (k : Int) := by omega
      have HS : Hid ((sz zs k : Int) = hz zs k / 8) := hszI
      have hsb : (k : Int) + hz zs k / 8 ≤ 4000 := by omega
      have hsb0 : 0 ≤ hz zs k / 8 := by omega
      clear hc hg hb hszI hlt
      go_wp2_with (first | (go_at_call 74; refine (l2Size_ok _ _).mono ?_; rintro e wx ⟨rfl, rfl⟩))
      go_roundw
      case rel => exact ⟨k + sz zs k, n - 1, by have := HS.out; go_num, ⟨HB.out, HN.out, by have := HNL.out; omega⟩, hle, by first | trivial | rfl⟩
      case measure => have := HS.out; simp [intOf]; omega
    · have HE : Hid (behL zs a = k) := by rw [Hid, HR.out.2.1, behF_end (by omega)]
      have hq1 : (a : Int) < (k : Int) := by omega
      clear hlt
      go_wp2_with fail
      go_ret
      exact ⟨by rw [HE.out]; rfl, k0⟩
end Go.Proofs.YtgnpllpinfhccaaGreatDoor
namespace Go.Proofs.YtgnpllpinfhccaaGreatDoor
open Go.RowKit
attribute [local go_sem] Plain.and7
set_option linter.unusedSimpArgs false

def swpM (L : Nat) (r : List Int × Nat) (gv bv : Value) : Value := if r.2 = L then .agg #[.int .i64 0, .slice none 0 0, .slice none 0 0, .int .i64 0] else .agg #[.int .i64 2, gv, bv, .int .i64 (r.2 : Nat)]
structure SwR (w : World) (g cap L : Nat) (gv bv : Value) (zs : List Int) (a : Nat) (W : World) : Prop where
  row : Row W g zs
  s : Cells W w.heap.size 26 #[.slice (some ⟨g, 0, none⟩) L cap]
  m : Cells W (w.heap.size + 1) 101 #[.int .i64 2, gv, bv, .int .i64 (a : Nat)]
  r : Cells W (w.heap.size + 1 + 1) 26 #[.slice none 0 0]
  q : Cells W (w.heap.size + 1 + 1 + 1) 101 #[.int .i64 0, .slice none 0 0, .slice none 0 0, .int .i64 0]
  k : GS g w W
  ok : slabOk zs = true
  ln : zs.length = L
  gl : g < w.heap.size
section
variable {w : World} {g cap L : Nat} {gv bv : Value} {zs : List Int} {a : Nat} {W W' : World}
theorem SwR.kept (h : SwR w g cap L gv bv zs a W) (hk : Kept W W') : SwR w g cap L gv bv zs a W' :=
  ⟨h.row.kept hk, h.s.kept hk, h.m.kept hk, h.r.kept hk, h.q.kept hk, h.k.trans (GS.any hk g), h.ok, h.ln, h.gl⟩
theorem SwR.goAt (h : SwR w g cap L gv bv zs a W) (b : Nat) : SwR w g cap L gv bv zs b (W.setCell ⟨w.heap.size + 1, 3, none⟩ (.int .i64 (b : Nat))) := by
  have := h.gl
  exact ⟨h.row.other (by simp; omega) _, h.s.other (by intro e; simp at e <;> omega) _, h.m.set 3 _, h.r.other (by intro e; simp at e <;> omega) _, h.q.other (by intro e; simp at e <;> omega) _, h.k.setNew (by omega) _, h.ok, h.ln, h.gl⟩
theorem SwR.turn {zs' : List Int} (h : SwR w g cap L gv bv zs a W) (hr : Row W' g zs') (hG : GS g W W') (hok : slabOk zs' = true) (hl : zs'.length = L) : SwR w g cap L gv bv zs' a (W'.setCell ⟨w.heap.size, 0, none⟩ (.slice (some ⟨g, 0, none⟩) L cap)) := by
  have hgl := h.gl
  have ne : ∀ k, w.heap.size ≤ k → some k ≠ some g := fun k hk e => by injection e with e; omega
  exact ⟨hr.other (p := ⟨w.heap.size, 0, none⟩) (by simp; omega) _, (h.s.grown hG.1 (ne _ (by omega))).set1 _, (h.m.grown hG.1 (ne _ (by omega))).other (by intro e; simp at e <;> omega) _, (h.r.grown hG.1 (ne _ (by omega))).other (by intro e; simp at e <;> omega) _, (h.q.grown hG.1 (ne _ (by omega))).other (by intro e; simp at e <;> omega) _, (h.k.trans hG).setNew (Nat.le_refl _) _, hok, hl, hgl⟩
theorem SwR.ret (h : SwR w g cap L gv bv zs a W) (v0 v1 v2 v3 v4 : Value) :
    Row (((((W.setCell ⟨w.heap.size + 1 + 1, 0, none⟩ v0).setCell ⟨w.heap.size + 1 + 1 + 1, 0, none⟩ v1).setCell ⟨w.heap.size + 1 + 1 + 1, 1, none⟩ v2).setCell ⟨w.heap.size + 1 + 1 + 1, 2, none⟩ v3).setCell ⟨w.heap.size + 1 + 1 + 1, 3, none⟩ v4) g zs ∧
    GS g w (((((W.setCell ⟨w.heap.size + 1 + 1, 0, none⟩ v0).setCell ⟨w.heap.size + 1 + 1 + 1, 0, none⟩ v1).setCell ⟨w.heap.size + 1 + 1 + 1, 1, none⟩ v2).setCell ⟨w.heap.size + 1 + 1 + 1, 2, none⟩ v3).setCell ⟨w.heap.size + 1 + 1 + 1, 3, none⟩ v4) ∧
    Cells (((((W.setCell ⟨w.heap.size + 1 + 1, 0, none⟩ v0).setCell ⟨w.heap.size + 1 + 1 + 1, 0, none⟩ v1).setCell ⟨w.heap.size + 1 + 1 + 1, 1, none⟩ v2).setCell ⟨w.heap.size + 1 + 1 + 1, 2, none⟩ v3).setCell ⟨w.heap.size + 1 + 1 + 1, 3, none⟩ v4) (w.heap.size + 1 + 1) 26 #[v0] ∧
    Cells (((((W.setCell ⟨w.heap.size + 1 + 1, 0, none⟩ v0).setCell ⟨w.heap.size + 1 + 1 + 1, 0, none⟩ v1).setCell ⟨w.heap.size + 1 + 1 + 1, 1, none⟩ v2).setCell ⟨w.heap.size + 1 + 1 + 1, 2, none⟩ v3).setCell ⟨w.heap.size + 1 + 1 + 1, 3, none⟩ v4) (w.heap.size + 1 + 1 + 1) 101 #[v1, v2, v3, v4] := by
  have hgl := h.gl
  exact ⟨((((h.row.other (by simp; omega) _).other (by simp; omega) _).other (by simp; omega) _).other (by simp; omega) _).other (by simp; omega) _,
    ((((h.k.setNew (by omega) _).setNew (by omega) _).setNew (by omega) _).setNew (by omega) _).setNew (by omega) _,
    ((((h.r.set1 v0).other (by intro e; simp at e <;> omega) _).other (by intro e; simp at e <;> omega) _).other (by intro e; simp at e <;> omega) _).other (by intro e; simp at e <;> omega) _,
    ((((h.q.other (by intro e; simp at e <;> omega) v0).set 0 v1).set 1 v2).set 2 v3).set 3 v4⟩
end
set_option maxHeartbeats 16000000 in
set_option maxRecDepth 100000 in
theorem l9Step_ok (w : World) (g cap : Nat) (zs : List Int) (ga : Option Addr) (gn gc : Nat) (ba : Option Addr) (bc : Nat) (bs : List Int) (a : Nat) (n : Int) (hR : Row w g zs) (hok : slabOk zs = true) (hb : Bnd zs a) (hB : Ints w ba bs) (hbl : bs.length ≤ 1048576) (hne : ∀ x, ba = some x → x.block ≠ g) (hn : n ≤ 9223372036854775807) :
    Calls Tryz.prog 167 #[.agg #[.slice (some ⟨g, 0, none⟩) zs.length cap], .agg #[.int .i64 2, .slice ga gn gc, .slice ba bs.length bc, .int .i64 (a : Nat)], .int .i64 n] w fun e w' => e = .returned (.tuple #[.agg #[.slice (some ⟨g, 0, none⟩) zs.length cap], swpM zs.length (sweepL bs n.toNat zs a) (.slice ga gn gc) (.slice ba bs.length bc)]) ∧ Row w' g (sweepL bs n.toNat zs a).1 ∧ GS g w w' := by
  have hlen := slabOk_len hok
  obtain ⟨L, hL⟩ : ∃ L, zs.length = L := ⟨_, rfl⟩
  have hgl := hR.lt
  have HIb : Hid (∀ u, GS g w u → Ints u ba bs) := fun u hu => hB.far hu.1 (fun x e h => hne x e (by injection h with h; exact h.symm))
  have c0 := (((Cells.new w 26 #[.slice (some ⟨g, 0, none⟩) zs.length cap]).alloc (.cells #[.int .i64 2, .slice ga gn gc, .slice ba bs.length bc, .int .i64 (a : Nat)] 101)).alloc (.cells #[.slice none 0 0] 26)).alloc (.cells #[.int .i64 0, .slice none 0 0, .slice none 0 0, .int .i64 0] 101)
  have c1 := ((Cells.new (w.alloc (.cells #[.slice (some ⟨g, 0, none⟩) zs.length cap] 26)) 101 #[.int .i64 2, .slice ga gn gc, .slice ba bs.length bc, .int .i64 (a : Nat)]).alloc (.cells #[.slice none 0 0] 26)).alloc (.cells #[.int .i64 0, .slice none 0 0, .slice none 0 0, .int .i64 0] 101)
  have c2 := (Cells.new ((w.alloc (.cells #[.slice (some ⟨g, 0, none⟩) zs.length cap] 26)).alloc (.cells #[.int .i64 2, .slice ga gn gc, .slice ba bs.length bc, .int .i64 (a : Nat)] 101)) 26 #[.slice none 0 0]).alloc (.cells #[.int .i64 0, .slice none 0 0, .slice none 0 0, .int .i64 0] 101)
  have c3 := Cells.new (((w.alloc (.cells #[.slice (some ⟨g, 0, none⟩) zs.length cap] 26)).alloc (.cells #[.int .i64 2, .slice ga gn gc, .slice ba bs.length bc, .int .i64 (a : Nat)] 101)).alloc (.cells #[.slice none 0 0] 26)) 101 #[.int .i64 0, .slice none 0 0, .slice none 0 0, .int .i64 0]
  have k0 : Kept w ((((w.alloc (.cells #[.slice (some ⟨g, 0, none⟩) zs.length cap] 26)).alloc (.cells #[.int .i64 2, .slice ga gn gc, .slice ba bs.length bc, .int .i64 (a : Nat)] 101)).alloc (.cells #[.slice none 0 0] 26)).alloc (.cells #[.int .i64 0, .slice none 0 0, .slice none 0 0, .int .i64 0] 101)) := (((Kept.alloc (Below.refl _ _) _).alloc _).alloc _).alloc _
  simp only [World.size_alloc] at c1 c2 c3
  have M0 : SwR w g cap zs.length (.slice ga gn gc) (.slice ba bs.length bc) zs a _ := ⟨hR.kept k0, c0, c1, c2, c3, GS.any k0 g, hok, rfl, hgl⟩
  have HBN : Hid (Bnd zs a) := hb
  obtain ⟨sw, hsw⟩ : ∃ sw, sweepL bs n.toNat zs a = sw := ⟨_, rfl⟩
  have HSW : Hid (sweepL bs n.toNat zs a = sw) := hsw
  rw [hsw]
  have HM0 : Hid _ := M0
  rw [hL] at HM0 hlen
  rw [hL]
  clear c0 c1 c2 c3 k0 M0 hR hok hb hB hne hsw
  go_enter Tryz.func167, Tryz.ntmps167
  go_wp2_with fail
  go_loopw [8] (fun i wr => ∃ (k a' : Nat) (zs' : List Int), i = .int .i64 k ∧ (k : Int) ≤ 9223372036854775807 ∧ (0 < k → (k : Int) ≤ n) ∧ Hid (sw = sweepL bs (n.toNat - k) zs' a' ∧ Bnd zs' a') ∧ Hid (SwR w g cap L (.slice ga gn gc) (.slice ba bs.length bc) zs' a' wr)) (fun i _ => (n - intOf i).toNat)
  case atStart => exact ⟨0, a, zs, rfl, by omega, by omega, ⟨by rw [← HSW.out]; rfl, HBN.out⟩, HM0.out⟩
  case round =>
    obtain ⟨k, a', zs', rfl, hk, hkn, HE, HS⟩ := hrel
    clear HM0 HSW
    have hal := HE.out.2.le
    have hln := HS.out.ln
    have hzl : a' ≤ L := by omega
    have s0 := HS.out.s.cell 0
    have m0 := HS.out.m.cell 0
    have m1 := HS.out.m.cell 1
    have m2 := HS.out.m.cell 2
    have m3 := HS.out.m.cell 3
    have f3 := HS.out.m.frozen 3
    have lm := HS.out.m.lt
    have HLN : Hid (zs'.length = L) := hln
    clear hln hal
    by_cases hkn' : (k : Int) < n
    · by_cases hat : (a' : Int) < (L : Int)
      · have hgd := HE.out.2.good (by have := HLN.out; omega)
        have hmem := HE.out.2.mem (by have := HLN.out; omega) (by have := HLN.out; omega)
        have hstp := swpW_ok (bs := bs) HS.out.ok HE.out.2 (by have := HLN.out; omega)
        have HN : Hid (sw = sweepL bs (n.toNat - (k + 1)) (swpW zs' bs a') (behL (swpW zs' bs a') a')) := by
          have e : n.toNat - k = (n.toNat - (k + 1)) + 1 := by omega
          rw [Hid, HE.out.1, e, sweepL_on (by have := HLN.out; omega)]
        have hswl := swpW_len zs' bs a'
        have hgl' := hgd.1.lt
        have hck := HS.out.row.cell (j := a') hgl'
        have hkdI := kdI zs' a'
        have hble := hstp.2.1.le
        have HST : Hid _ := hstp
        have HSL : Hid ((swpW zs' bs a').length = L) := by rw [Hid, hswl]; exact HLN.out
        have hq0 : (0 : Int) ≤ (a' : Int) := by omega
        have HQ : Hid ((kd zs' a' : Int) = hz zs' a' % 8) := hkdI
        have HMm : Hid _ := hmem
        have hbl2 : behL (swpW zs' bs a') a' ≤ L := by rw [HSL.out] at hble; exact hble
        have hIn := fun (u : World) (hu : Ints u ba bs) => l7In_ok u ba bc bs ((a' : Nat) : Int) hu hbl
        obtain ⟨nb, hnb⟩ : ∃ nb, behL (swpW zs' bs a') a' = nb := ⟨_, rfl⟩
        clear hgd hmem hstp hswl hgl' hkdI hble
        by_cases hz8 : hz zs' a' % 8 = 0
        · have hd : (hz zs' a' % 8 != 0) = false := by simp [hz8]
          have HW : Hid (swpW zs' bs a' = zs') := if_neg (fun h => h.1 (by have := HQ.out; omega))
          rw [HW.out] at HST HSL HN hnb hbl2
          have hBh := l9Behind_ok wr (some ⟨g, 0, none⟩) cap zs' a' HS.out.row.ints HS.out.ok (by have := HLN.out; omega)
          rw [hnb] at HST HN hbl2 hBh
          rw [HLN.out] at hBh
          clear hz8 hIn hnb
          go_wp2_with (first | (go_at_call 67; refine (l2Kind_ok _ _).mono ?_; rintro e wx ⟨rfl, rfl⟩) | (go_at_call 185; refine hBh.mono ?_; rintro e w2 ⟨rfl, hk2⟩; have R2 := HS.out.kept hk2; have m3' := R2.m.cell 3; have f3' := R2.m.frozen 3; have l3' := R2.m.lt))
          go_roundw
          case rel => exact ⟨k + 1, nb, zs', by go_num, by omega, fun _ => by omega, ⟨HN.out, HST.out.2.1⟩, R2.goAt nb⟩
          case measure => simp [intOf]; omega
        · have hd : (hz zs' a' % 8 != 0) = true := by simpa using hz8
          by_cases hin : ((a' : Nat) : Int) ∈ bs
          · have HW : Hid (swpW zs' bs a' = zs') := if_neg (fun h => h.2 hin)
            rw [HW.out] at HST HSL HN hnb hbl2
            have hBh := l9Behind_ok wr (some ⟨g, 0, none⟩) cap zs' a' HS.out.row.ints HS.out.ok (by have := HLN.out; omega)
            rw [hnb] at HST HN hbl2 hBh
            rw [HLN.out] at hBh
            simp only [decide_eq_true hin] at hIn
            have hIn2 := hIn wr (HIb.out wr HS.out.k)
            clear hz8 hIn hnb hin
            go_wp2_with (first | (go_at_call 67; refine (l2Kind_ok _ _).mono ?_; rintro e wx ⟨rfl, rfl⟩) | (go_at_call 62; refine hIn2.mono ?_; rintro e wx ⟨rfl, rfl⟩) | (go_at_call 185; refine hBh.mono ?_; rintro e w2 ⟨rfl, hk2⟩; have R2 := HS.out.kept hk2; have m3' := R2.m.cell 3; have f3' := R2.m.frozen 3; have l3' := R2.m.lt))
            go_roundw
            case rel => exact ⟨k + 1, nb, zs', by go_num, by omega, fun _ => by omega, ⟨HN.out, HST.out.2.1⟩, R2.goAt nb⟩
            case measure => simp [intOf]; omega
          · have hkd : kd zs' a' ≠ 0 := by have := HQ.out; omega
            have HW : Hid (swpW zs' bs a' = giveB zs' ⟨a', sz zs' a', kd zs' a'⟩) := if_pos ⟨hkd, hin⟩
            have hGv := l2Give_ok wr g cap zs' ⟨a', sz zs' a', kd zs' a'⟩ HS.out.row HS.out.ok HMm.out hkd
            rw [HLN.out] at hGv
            simp only [decide_eq_false hin] at hIn
            have hIn2 := hIn wr (HIb.out wr HS.out.k)
            rw [HW.out] at HST HSL HN hnb hbl2
            rw [hnb] at HST HN hbl2
            obtain ⟨ys, hys⟩ : ∃ ys, giveB zs' ⟨a', sz zs' a', kd zs' a'⟩ = ys := ⟨_, rfl⟩
            rw [hys] at HST HSL HN hnb hGv
            have HNB : Hid (behL ys a' = nb) := hnb
            have sf := HS.out.s.frozen 0
            have ls := HS.out.s.lt
            have HLT : Hid (a' < L) := by rw [Hid]; omega
            clear hz8 hIn hnb hin hys HW hkd
            go_wp2_with (first | (go_at_call 67; refine (l2Kind_ok _ _).mono ?_; rintro e wx ⟨rfl, rfl⟩) | (go_at_call 62; refine hIn2.mono ?_; rintro e wx ⟨rfl, rfl⟩) | (go_at_call 174; refine hGv.mono ?_; rintro e w2 ⟨rfl, hR2, hG2⟩; have T2 := HS.out.turn hR2 hG2 HST.out.1 HSL.out; have gs0 := HS.out.s.grown hG2.1 (by intro e; injection e with e; have := HS.out.gl; omega); have ss0 := gs0.cell 0; have ssf := gs0.frozen 0; have ssl := gs0.lt; have s20 := T2.s.cell 0; have m20 := T2.m.cell 3; have l20 := T2.m.lt; have hBh := l9Behind_ok _ (some ⟨g, 0, none⟩) cap ys a' T2.row.ints HST.out.1 (by rw [HSL.out]; exact HLT.out); rw [HNB.out, HSL.out] at hBh) | (go_at_call 185; refine hBh.mono ?_; rintro e w3 ⟨rfl, hk3⟩; have R3 := T2.kept hk3; have m33 := R3.m.cell 3; have f33 := R3.m.frozen 3; have l33 := R3.m.lt))
            go_roundw
            case rel => exact ⟨k + 1, nb, ys, by go_num, by omega, fun _ => by omega, ⟨HN.out, HST.out.2.1⟩, R3.goAt nb⟩
            case measure => simp [intOf]; omega
      · have HF : Hid (sw = (zs', a')) := by rw [Hid, HE.out.1, sweepL_end (by have := HLN.out; omega)]
        have heq : ((a' : Int) == (L : Int)) = true := by simp; omega
        have HV : Hid (swpM L sw (.slice ga gn gc) (.slice ba bs.length bc) = .agg #[.int .i64 0, .slice none 0 0, .slice none 0 0, .int .i64 0]) := by rw [Hid, HF.out]; exact if_pos (by have := hzl; omega)
        have r0 := HS.out.r.cell 0
        have rf := HS.out.r.frozen 0
        have rl := HS.out.r.lt
        have q0 := HS.out.q.cell 0
        have q1 := HS.out.q.cell 1
        have q2 := HS.out.q.cell 2
        have q3 := HS.out.q.cell 3
        have qf0 := HS.out.q.frozen 0
        have qf1 := HS.out.q.frozen 1
        have qf2 := HS.out.q.frozen 2
        have qf3 := HS.out.q.frozen 3
        have ql := HS.out.q.lt
        go_wp2_with fail
        obtain ⟨rw', gk', c6, c7⟩ := HS.out.ret (.slice (some ⟨g, 0, none⟩) L cap) (.int .i64 0) (.slice none 0 0) (.slice none 0 0) (.int .i64 0)
        have z2 := c6.cell 0
        have z40 := c7.cell 0
        have z41 := c7.cell 1
        have z42 := c7.cell 2
        have z43 := c7.cell 3
        refine bodyPost_ret (v := .tuple #[.agg #[.slice (some ⟨g, 0, none⟩) L cap], .agg #[.int .i64 0, .slice none 0 0, .slice none 0 0, .int .i64 0]]) (by simp [results, Tryz.results167, go_sem, z2, z40, z41, z42, z43]) rfl ⟨by rw [HV.out], by rw [HF.out]; exact rw', gk'⟩
    · have HF : Hid (sw = (zs', a')) := by
        rw [Hid, HE.out.1, show n.toNat - k = 0 by omega]
        rfl
      by_cases hat : (a' : Int) < (L : Int)
      · have heq : ((a' : Int) == (L : Int)) = false := by simp; omega
        have HV : Hid (swpM L sw (.slice ga gn gc) (.slice ba bs.length bc) = .agg #[.int .i64 2, .slice ga gn gc, .slice ba bs.length bc, .int .i64 (a' : Nat)]) := by rw [Hid, HF.out]; exact if_neg (by simp only; omega)
        have r0 := HS.out.r.cell 0
        have rf := HS.out.r.frozen 0
        have rl := HS.out.r.lt
        have q0 := HS.out.q.cell 0
        have q1 := HS.out.q.cell 1
        have q2 := HS.out.q.cell 2
        have q3 := HS.out.q.cell 3
        have qf0 := HS.out.q.frozen 0
        have qf1 := HS.out.q.frozen 1
        have qf2 := HS.out.q.frozen 2
        have qf3 := HS.out.q.frozen 3
        have ql := HS.out.q.lt
        go_wp2_with fail
        go_region
        all_goals (
          obtain ⟨rw', gk', c6, c7⟩ := HS.out.ret (.slice (some ⟨g, 0, none⟩) L cap) (.int .i64 2) (.slice ga gn gc) (.slice ba bs.length bc) (.int .i64 (a' : Nat))
          have z2 := c6.cell 0
          have z40 := c7.cell 0
          have z41 := c7.cell 1
          have z42 := c7.cell 2
          have z43 := c7.cell 3
          clear s0 m0 m1 m2 m3 r0 q0 q1 q2 q3
          go_wp2_with fail
          refine bodyPost_ret (v := .tuple #[.agg #[.slice (some ⟨g, 0, none⟩) L cap], .agg #[.int .i64 2, .slice ga gn gc, .slice ba bs.length bc, .int .i64 (a' : Nat)]]) (by simp [results, Tryz.results167, go_sem, z2, z40, z41, z42, z43]) rfl ⟨by rw [HV.out], by rw [HF.out]; exact rw'.kept (Below.refl _ _).drew, gk'.trans (GS.any (Below.refl _ _).drew g)⟩)
      · have heq : ((a' : Int) == (L : Int)) = true := by simp; omega
        have HV : Hid (swpM L sw (.slice ga gn gc) (.slice ba bs.length bc) = .agg #[.int .i64 0, .slice none 0 0, .slice none 0 0, .int .i64 0]) := by rw [Hid, HF.out]; exact if_pos (by have := hzl; omega)
        have r0 := HS.out.r.cell 0
        have rf := HS.out.r.frozen 0
        have rl := HS.out.r.lt
        have q0 := HS.out.q.cell 0
        have q1 := HS.out.q.cell 1
        have q2 := HS.out.q.cell 2
        have q3 := HS.out.q.cell 3
        have qf0 := HS.out.q.frozen 0
        have qf1 := HS.out.q.frozen 1
        have qf2 := HS.out.q.frozen 2
        have qf3 := HS.out.q.frozen 3
        have ql := HS.out.q.lt
        go_wp2_with fail
        obtain ⟨rw', gk', c6, c7⟩ := HS.out.ret (.slice (some ⟨g, 0, none⟩) L cap) (.int .i64 0) (.slice none 0 0) (.slice none 0 0) (.int .i64 0)
        have z2 := c6.cell 0
        have z40 := c7.cell 0
        have z41 := c7.cell 1
        have z42 := c7.cell 2
        have z43 := c7.cell 3
        refine bodyPost_ret (v := .tuple #[.agg #[.slice (some ⟨g, 0, none⟩) L cap], .agg #[.int .i64 0, .slice none 0 0, .slice none 0 0, .int .i64 0]]) (by simp [results, Tryz.results167, go_sem, z2, z40, z41, z42, z43]) rfl ⟨by rw [HV.out], by rw [HF.out]; exact rw', gk'⟩
end Go.Proofs.YtgnpllpinfhccaaGreatDoor
namespace Go.Proofs.YtgnpllpinfhccaaGreatDoor
open Go.RowKit
attribute [local go_sem] Plain.and7
set_option linter.unusedSimpArgs false

theorem OwnR.far {W : World} {base : Nat} {v u : Value} {l : List Int} {p : Addr} (h : OwnR W base v l) (hp : p.block < base) : OwnR (W.setCell p u) base v l := by
  rcases h with h | ⟨g, c, e, hb, hc, hr⟩
  · exact .inl h
  · exact .inr ⟨g, c, e, hb, hc, hr.other (by omega) _⟩
theorem two_ret {w W : World} (r : Cells W (w.heap.size + 1 + 1) 26 #[.slice none 0 0]) (q : Cells W (w.heap.size + 1 + 1 + 1) 101 #[.int .i64 0, .slice none 0 0, .slice none 0 0, .int .i64 0]) (k : Kept w W) (v0 v1 v2 v3 v4 : Value) :
    Kept w (((((W.setCell ⟨w.heap.size + 1 + 1, 0, none⟩ v0).setCell ⟨w.heap.size + 1 + 1 + 1, 0, none⟩ v1).setCell ⟨w.heap.size + 1 + 1 + 1, 1, none⟩ v2).setCell ⟨w.heap.size + 1 + 1 + 1, 2, none⟩ v3).setCell ⟨w.heap.size + 1 + 1 + 1, 3, none⟩ v4) ∧
    Cells (((((W.setCell ⟨w.heap.size + 1 + 1, 0, none⟩ v0).setCell ⟨w.heap.size + 1 + 1 + 1, 0, none⟩ v1).setCell ⟨w.heap.size + 1 + 1 + 1, 1, none⟩ v2).setCell ⟨w.heap.size + 1 + 1 + 1, 2, none⟩ v3).setCell ⟨w.heap.size + 1 + 1 + 1, 3, none⟩ v4) (w.heap.size + 1 + 1) 26 #[v0] ∧
    Cells (((((W.setCell ⟨w.heap.size + 1 + 1, 0, none⟩ v0).setCell ⟨w.heap.size + 1 + 1 + 1, 0, none⟩ v1).setCell ⟨w.heap.size + 1 + 1 + 1, 1, none⟩ v2).setCell ⟨w.heap.size + 1 + 1 + 1, 2, none⟩ v3).setCell ⟨w.heap.size + 1 + 1 + 1, 3, none⟩ v4) (w.heap.size + 1 + 1 + 1) 101 #[v1, v2, v3, v4] ∧
    (∀ base v l, w.heap.size + 4 ≤ base → OwnR W base v l → OwnR (((((W.setCell ⟨w.heap.size + 1 + 1, 0, none⟩ v0).setCell ⟨w.heap.size + 1 + 1 + 1, 0, none⟩ v1).setCell ⟨w.heap.size + 1 + 1 + 1, 1, none⟩ v2).setCell ⟨w.heap.size + 1 + 1 + 1, 2, none⟩ v3).setCell ⟨w.heap.size + 1 + 1 + 1, 3, none⟩ v4) base v l) ∧
    (∀ base m ph gs bs at', w.heap.size + 4 ≤ base → MkO W base m ph gs bs at' → MkO (((((W.setCell ⟨w.heap.size + 1 + 1, 0, none⟩ v0).setCell ⟨w.heap.size + 1 + 1 + 1, 0, none⟩ v1).setCell ⟨w.heap.size + 1 + 1 + 1, 1, none⟩ v2).setCell ⟨w.heap.size + 1 + 1 + 1, 2, none⟩ v3).setCell ⟨w.heap.size + 1 + 1 + 1, 3, none⟩ v4) base m ph gs bs at') := by
  refine ⟨((((k.set (by simp; omega) _).set (by simp; omega) _).set (by simp; omega) _).set (by simp; omega) _).set (by simp; omega) _,
    ((((r.set1 v0).other (by intro e; simp at e <;> omega) _).other (by intro e; simp at e <;> omega) _).other (by intro e; simp at e <;> omega) _).other (by intro e; simp at e <;> omega) _,
    ((((q.other (by intro e; simp at e <;> omega) v0).set 0 v1).set 1 v2).set 2 v3).set 3 v4, fun base v l hb h => ?_, fun base m ph gs bs at' hb h => ?_⟩
  · exact ((((h.far (by simp; omega)).far (by simp; omega)).far (by simp; omega)).far (by simp; omega)).far (by simp; omega)
  · exact ((((h.far (p := ⟨w.heap.size + 1 + 1, 0, none⟩) (by simp; omega)).far (p := ⟨w.heap.size + 1 + 1 + 1, 0, none⟩) (by simp; omega)).far (p := ⟨w.heap.size + 1 + 1 + 1, 1, none⟩) (by simp; omega)).far (p := ⟨w.heap.size + 1 + 1 + 1, 2, none⟩) (by simp; omega)).far (p := ⟨w.heap.size + 1 + 1 + 1, 3, none⟩) (by simp; omega)
theorem mkO_two' {W : World} {base : Nat} {ph at' : Int} {gs bs : List Int} {m : Value} (h : MkO W base m ph gs bs at') : ∃ ga ba gc bc, m = .agg #[.int .i64 ph, .slice ga gs.length gc, .slice ba bs.length bc, .int .i64 at'] ∧ OwnL W base (.slice ga gs.length gc) gs ∧ OwnL W base (.slice ba bs.length bc) bs ∧ (∀ j, (Value.slice ga gs.length gc).ownBlock = some j → (Value.slice ba bs.length bc).ownBlock ≠ some j) ∧ True ∧ True := by
  obtain ⟨gv, bv, rfl, h1, h2, h3⟩ := h
  obtain ⟨ga, gc, rfl, _⟩ := h1.ints
  obtain ⟨ba, bc, rfl, _⟩ := h2.ints
  exact ⟨ga, ba, gc, bc, rfl, h1, h2, h3, trivial, trivial⟩
set_option maxHeartbeats 32000000 in
set_option maxRecDepth 100000 in
theorem sweepStep_wrong (w : World) (b1' b2' : Nat) (ao ga ba : Option Addr) (cap gc bc : Nat) (zs gs bs : List Int) (ph at' n : Int) (hI : Ints w ao zs) (hl : zs.length ≤ 1048576) (hg : OwnL w b1' (.slice ga gs.length gc) gs) (hb : OwnL w b2' (.slice ba bs.length bc) bs) (hgl : gs.length ≤ 1048576) (hbl : bs.length ≤ 1048576) (hmk : markR zs ph gs bs at' = false) :
    Calls Tryz.prog 125 #[.agg #[.slice ao zs.length cap], .agg #[.int .i64 ph, .slice ga gs.length gc, .slice ba bs.length bc, .int .i64 at'], .int .i64 n] w fun e w' => ∃ v m, e = .returned (.tuple #[.agg #[v], m]) ∧ OwnR w' w.heap.size v (swpC zs ph gs bs at' n).1 ∧ MkO w' w.heap.size m (swpC zs ph gs bs at' n).2.1 (swpC zs ph gs bs at' n).2.2.1 (swpC zs ph gs bs at' n).2.2.2.1 (swpC zs ph gs bs at' n).2.2.2.2 ∧ Kept w w' := by
  have x0 := (((Cells.new w 26 #[.slice ao zs.length cap]).alloc (.cells #[.int .i64 ph, .slice ga gs.length gc, .slice ba bs.length bc, .int .i64 at'] 101)).alloc (.cells #[.slice none 0 0] 26)).alloc (.cells #[.int .i64 0, .slice none 0 0, .slice none 0 0, .int .i64 0] 101)
  have x1 := ((Cells.new (w.alloc (.cells #[.slice ao zs.length cap] 26)) 101 #[.int .i64 ph, .slice ga gs.length gc, .slice ba bs.length bc, .int .i64 at']).alloc (.cells #[.slice none 0 0] 26)).alloc (.cells #[.int .i64 0, .slice none 0 0, .slice none 0 0, .int .i64 0] 101)
  have x2 := (Cells.new ((w.alloc (.cells #[.slice ao zs.length cap] 26)).alloc (.cells #[.int .i64 ph, .slice ga gs.length gc, .slice ba bs.length bc, .int .i64 at'] 101)) 26 #[.slice none 0 0]).alloc (.cells #[.int .i64 0, .slice none 0 0, .slice none 0 0, .int .i64 0] 101)
  have x3 := Cells.new (((w.alloc (.cells #[.slice ao zs.length cap] 26)).alloc (.cells #[.int .i64 ph, .slice ga gs.length gc, .slice ba bs.length bc, .int .i64 at'] 101)).alloc (.cells #[.slice none 0 0] 26)) 101 #[.int .i64 0, .slice none 0 0, .slice none 0 0, .int .i64 0]
  simp only [World.size_alloc] at x1 x2 x3
  have k0 : Kept w ((((w.alloc (.cells #[.slice ao zs.length cap] 26)).alloc (.cells #[.int .i64 ph, .slice ga gs.length gc, .slice ba bs.length bc, .int .i64 at'] 101)).alloc (.cells #[.slice none 0 0] 26)).alloc (.cells #[.int .i64 0, .slice none 0 0, .slice none 0 0, .int .i64 0] 101)) := (((Kept.alloc (Below.refl _ _) _).alloc _).alloc _).alloc _
  have hs0 : ((((w.alloc (.cells #[.slice ao zs.length cap] 26)).alloc (.cells #[.int .i64 ph, .slice ga gs.length gc, .slice ba bs.length bc, .int .i64 at'] 101)).alloc (.cells #[.slice none 0 0] 26)).alloc (.cells #[.int .i64 0, .slice none 0 0, .slice none 0 0, .int .i64 0] 101)).heap.size = w.heap.size + 4 := by simp
  have hm := MkI.of hg hb hgl hbl
  have hMk := spec_MarkerOk_ok _ ao ga ba cap gc bc zs gs bs ph at' (hI.kept k0) hl (hm.kept k0)
  have HIs : Hid (∀ u, Kept w u → Ints u ao zs) := fun u hu => hI.kept hu
  have HC8 : Hid _ := fun (u : World) (hu : Kept w u) => l8Copy_ok u b1' b2' ph at' ga ba gc bc gs bs (hg.kept (row := none) hu.grown (fun _ e => by cases e)) (hb.kept (row := none) hu.grown (fun _ e => by cases e)) hgl hbl
  have HC2 : Hid _ := fun (u : World) (hu : Kept w u) => l2Copy_ok u ao cap zs (hI.kept hu) hl
  have c00 := x0.cell 0
  have c10 := x1.cell 0
  have c11 := x1.cell 1
  have c12 := x1.cell 2
  have c13 := x1.cell 3
  have HS0 : Hid (∀ u, Kept ((((w.alloc (.cells #[.slice ao zs.length cap] 26)).alloc (.cells #[.int .i64 ph, .slice ga gs.length gc, .slice ba bs.length bc, .int .i64 at'] 101)).alloc (.cells #[.slice none 0 0] 26)).alloc (.cells #[.int .i64 0, .slice none 0 0, .slice none 0 0, .int .i64 0] 101)) u → (u.cell? ⟨w.heap.size, 0, none⟩ = some (.slice ao zs.length cap) ∧ u.cell? ⟨w.heap.size + 1, 0, none⟩ = some (.int .i64 ph) ∧ u.cell? ⟨w.heap.size + 1, 1, none⟩ = some (.slice ga gs.length gc) ∧ u.cell? ⟨w.heap.size + 1, 2, none⟩ = some (.slice ba bs.length bc) ∧ u.cell? ⟨w.heap.size + 1, 3, none⟩ = some (.int .i64 at')) ∧ Cells u (w.heap.size + 1 + 1) 26 #[.slice none 0 0] ∧ Cells u (w.heap.size + 1 + 1 + 1) 101 #[.int .i64 0, .slice none 0 0, .slice none 0 0, .int .i64 0] ∧ Kept w u ∧ w.heap.size + 4 ≤ u.heap.size) := fun u hu => ⟨⟨(x0.kept hu).cell 0, (x1.kept hu).cell 0, (x1.kept hu).cell 1, (x1.kept hu).cell 2, (x1.kept hu).cell 3⟩, x2.kept hu, x3.kept hu, k0.trans hu, by have := hu.size; rw [hs0] at this; exact this⟩
  clear hI hg hb hm x0 x1 x2 x3 hs0
  have HR : Hid (swpC zs ph gs bs at' n = ([], ph, gs, bs, at')) := by rw [Hid]; unfold swpC; rw [if_neg (by simp [hmk])]
  rw [hmk] at hMk
  clear hmk
  go_enter Tryz.func125, Tryz.ntmps125
  go_wp2_with (first | (go_at_call 165; refine hMk.mono ?_; rintro e w1 ⟨rfl, hk1⟩; obtain ⟨⟨d0, d1, d2, d3, d4⟩, _, _, K1, hs1⟩ := HS0.out _ hk1) | (go_at_call 166; refine (HC8.out _ K1).mono ?_; rintro e w2 ⟨m2, rfl, hM2, hk2⟩; obtain ⟨ga2, ba2, gc2, bc2, rfl, og2, ob2, hn2, _, _⟩ := mkO_two' hM2; obtain ⟨_, r2, q2, K2, hs2⟩ := HS0.out _ (hk1.trans hk2); have e0 := r2.cell 0; have f0 := r2.frozen 0; have l0 := r2.lt; have g0 := q2.cell 0; have g1 := q2.cell 1; have g2 := q2.cell 2; have g3 := q2.cell 3; have h0 := q2.frozen 0; have h1 := q2.frozen 1; have h2 := q2.frozen 2; have h3 := q2.frozen 3; have l1 := q2.lt))
  obtain ⟨K9, c6, c7, ho, hmm⟩ := two_ret r2 q2 K2 (.slice none 0 0) (.int .i64 ph) (.slice ga2 gs.length gc2) (.slice ba2 bs.length bc2) (.int .i64 at')
  have z2 := c6.cell 0
  have z40 := c7.cell 0
  have z41 := c7.cell 1
  have z42 := c7.cell 2
  have z43 := c7.cell 3
  have hs12 := hs1
  refine bodyPost_ret (v := .tuple #[.agg #[.slice none 0 0], .agg #[.int .i64 ph, .slice ga2 gs.length gc2, .slice ba2 bs.length bc2, .int .i64 at']]) (by simp [results, Tryz.results125, go_sem, z2, z40, z41, z42, z43]) rfl ⟨_, _, rfl, by rw [HR.out]; exact .inl ⟨rfl, rfl⟩, by rw [HR.out]; exact (hmm _ _ _ _ _ _ hs1 hM2).base (by omega), K9⟩
end Go.Proofs.YtgnpllpinfhccaaGreatDoor
namespace Go.Proofs.YtgnpllpinfhccaaGreatDoor
open Go.RowKit
attribute [local go_sem] Plain.and7
set_option linter.unusedSimpArgs false
theorem own_notCells {W : World} {base B : Nat} {v : Value} {l : List Int} {t : TypeId} {cs : Array Value} (h : OwnL W base v l) (hB : Cells W B t cs) (ht : t ≠ 3) : ∀ j, v.ownBlock = some j → j ≠ B := by
  intro j hj e
  subst e
  rcases h.2.2 with ⟨e, _⟩ | ⟨g, cap, cur, e, _, hg, _⟩
  · subst e; cases hj
  · subst e
    simp [Value.ownBlock] at hj
    subst hj
    have h2 : W.heap[g]? = some (.cells cs t) := hB
    rw [h2] at hg
    injection hg with hg
    injection hg with _ h3 _
    exact ht h3
theorem MkO.apart {W : World} {base B : Nat} {t : TypeId} {cs : Array Value} {m u : Value} {ph at' : Int} {gs bs : List Int} {j : Nat} (h : MkO W base m ph gs bs at') (hB : Cells W B t cs) (ht : t ≠ 3) : MkO (W.setCell ⟨B, j, none⟩ u) base m ph gs bs at' := by
  obtain ⟨gv, bv, e, h1, h2, h3⟩ := h
  exact ⟨gv, bv, e, h1.far (fun i hi => by have := own_notCells h1 hB ht i hi; simpa using this), h2.far (fun i hi => by have := own_notCells h2 hB ht i hi; simpa using this), h3⟩
theorem OwnR.apart {W : World} {base B : Nat} {t : TypeId} {cs : Array Value} {v u : Value} {zs : List Int} {j : Nat} (h : OwnR W base v zs) (hB : Cells W B t cs) (ht : t ≠ 3) : OwnR (W.setCell ⟨B, j, none⟩ u) base v zs := by
  rcases h with ⟨rfl, rfl⟩ | ⟨g, cp, rfl, hb, hcap, hR⟩
  · exact .inl ⟨rfl, rfl⟩
  · exact .inr ⟨g, cp, rfl, hb, hcap, hR.other (fun e => hR.notCells hB ht (by simpa using e)) _⟩
theorem nine_res {w3 w4 : World} {g base : Nat} {ga ba : Option Addr} {gc bc : Nat} {zs gs bs : List Int} {a : Nat} {n : Int} (hmk : markR zs 2 gs bs (a : Nat) = true) (hM : MkO w3 base (.agg #[.int .i64 2, .slice ga gs.length gc, .slice ba bs.length bc, .int .i64 (a : Nat)]) 2 gs bs (a : Nat)) (hgb : g < base) (hG : GS g w3 w4) :
    ∃ ph9 ga9 n9 gc9 ba9 m9 bc9 at9, swpM zs.length (sweepL bs n.toNat zs a) (.slice ga gs.length gc) (.slice ba bs.length bc) = .agg #[.int .i64 ph9, .slice ga9 n9 gc9, .slice ba9 m9 bc9, .int .i64 at9] ∧ MkO w4 base (.agg #[.int .i64 ph9, .slice ga9 n9 gc9, .slice ba9 m9 bc9, .int .i64 at9]) (swpC zs 2 gs bs (a : Nat) n).2.1 (swpC zs 2 gs bs (a : Nat) n).2.2.1 (swpC zs 2 gs bs (a : Nat) n).2.2.2.1 (swpC zs 2 gs bs (a : Nat) n).2.2.2.2 := by
  unfold swpM swpC
  rw [if_pos hmk, if_pos rfl]
  simp only [Int.toNat_natCast]
  by_cases hE : (sweepL bs n.toNat zs a).2 = zs.length
  · rw [if_pos hE, if_pos hE]
    exact ⟨_, _, _, _, _, _, _, _, rfl, _, _, rfl, ⟨by simp, World.ownsRow_nil _ _ _ _⟩, ⟨by simp, World.ownsRow_nil _ _ _ _⟩, by intro j hj; cases hj⟩
  · rw [if_neg hE, if_neg hE]
    obtain ⟨gv, bv, e, h1, h2, h3⟩ := hM
    injection e with e
    simp at e
    obtain ⟨rfl, rfl⟩ := e
    exact ⟨_, _, _, _, _, _, _, _, rfl, _, _, rfl, h1.kept hG.1 (fun k hk j hj => by injection hk with hk; have := (h1.2.lt j hj).1; omega), h2.kept hG.1 (fun k hk j hj => by injection hk with hk; have := (h2.2.lt j hj).1; omega), h3⟩
theorem swpC_one {zs gs bs : List Int} {a : Nat} {n : Int} (hmk : markR zs 2 gs bs (a : Nat) = true) : (swpC zs 2 gs bs (a : Nat) n).1 = (sweepL bs n.toNat zs a).1 := by
  unfold swpC
  rw [if_pos hmk, if_pos rfl]
  simp only [Int.toNat_natCast]
  split <;> rfl
end Go.Proofs.YtgnpllpinfhccaaGreatDoor
