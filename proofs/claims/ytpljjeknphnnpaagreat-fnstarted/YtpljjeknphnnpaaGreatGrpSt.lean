/-
  The contract of step (chapter 8's program): the first grey block is black, and what its values lead to is grey.
  The contract of impl.MarkStep (chapter 8).
  Helpers of the laws on markers: a marker that was made, seen as two slices; the field of a marker; how long its lists are behind MarkStep.
  Facts on lists: marking comes to an end, step by step as at once, and what is black leads to what was met (chapter 8).
  The contract of impl.MarkStep, of a marker that marks (chapter 8).
-/
import Derived.Test.YtpljjeknphnnpaaGreatGrpSd
import Derived.Test.YtpljjeknphnnpaaGreatGrpCl
import Derived.Test.YtpljjeknphnnpaaGreatGrpMr
import Derived.Test.YtpljjeknphnnpaaGreatGrpSQ
import Derived.Test.YtpljjeknphnnpaaGreatGrpMa
import Derived.Test.YtpljjeknphnnpaaGreatGrpSV
import Derived.Test.YtpljjeknphnnpaaGreatGrpSN
namespace Go.Proofs.YtpljjeknphnnpaaGreat
open Go.RowKit

theorem leadsW_slots {zs : List Int} {a : Int} (hh : heapR zs = true) (ha : 1 ≤ kindAt zs a) : LeadsW zs (slotV zs a) := by
  have hok : slabOk zs = true := by
    unfold heapR at hh
    simp only [Bool.and_eq_true] at hh
    exact hh.1
  have hM : Met zs [a] := ⟨by simp, fun x hx => by simp at hx; subst hx; exact ha⟩
  exact fun v hv => vals_right hok hM (heap_right hh hM) (List.mem_singleton.2 rfl) v hv
set_option maxHeartbeats 8000000 in
set_option maxRecDepth 100000 in
theorem step_ok (w : World) (B base : Nat) (ao lo : Option Addr) (cap lc : Nat) (zs g bs : List Int) (a : Int) (gv : Value) (h : MkgG w B base ao lo cap lc zs (a :: g) bs gv) (hh : heapR zs = true) (h2 : Two zs (a :: g) bs) :
    Calls Tryz.prog 42 #[.pointer (some ⟨B, 0, none⟩)] w fun e w' => e = .returned (.tuple #[]) ∧ ∃ gv', MkgG w' B base ao lo cap lc zs (shadesL (insL a bs) g (slotV zs a)) (insL a bs) gv' ∧ But2 B gv.ownBlock w w' ∧ (∀ j, gv'.ownBlock = some j → gv.ownBlock = some j ∨ w.heap.size ≤ j) := by
  have hok : slabOk zs = true := by
    unfold heapR at hh
    simp only [Bool.and_eq_true] at hh
    exact hh.1
  have hzl := (slabOk_iff.1 hok).1
  have hka := h2.g.2 a (by simp)
  have hT := h2.ink
  have hLW := leadsW_slots hh hka
  have hsl := slotV_le hka
  have hml := hT.g.len
  obtain ⟨n, en, hnl, _, _, _⟩ := kind_nat hka
  subst en
  have hn2 : n < 2000 := by omega
  have hng : (n : Int) ∉ g := (List.nodup_cons.1 h2.g.1).1
  have hink : (colL ((n : Int) :: g) bs).set n 2 = colL g (insL (n : Int) bs) := col_ink hn2 hng (fun y => mem_insL)
  have cg := h.c.cell 2002
  rw [mkC_g (by rw [colL_len])] at cg
  have hTk := qtake_ok w B 2002 base gv (n : Int) g cg (h.c.frozen _) h.g (by omega) h.gB
  have H : Hid _ := h
  have HK : Hid _ := hka
  have HT : Hid _ := hT
  have HLW : Hid _ := hLW
  have HOK : Hid _ := hok
  have HINK : Hid _ := hink
  have q0 : (0 : Int) ≤ (n : Int) := by omega
  have q1 : (n : Int) < 2000 := by omega
  clear h hh h2 hok hka hT hLW hng hink cg
  go_enter Tryz.func42, Tryz.ntmps42
  go_wp2_with fail
  refine hTk.mono ?_
  rintro e w1 ⟨rfl, gv1, rfl, hO1, hob1⟩
  have c1 : Cells (w.setCell ⟨B, 2002, none⟩ gv1) B 55 (mkC (.slice ao zs.length cap) (.slice lo zs.length lc) (colL ((n : Int) :: g) bs) gv1) := by
    have h6 := (H.out).c.set 2002 gv1
    rw [mkC_setg (by rw [colL_len])] at h6
    exact h6
  have b1 : But2 B gv.ownBlock w (w.setCell ⟨B, 2002, none⟩ gv1) := (But2.refl _ _ _).set _ _
  have hs1 : Hid ((w.setCell ⟨B, 2002, none⟩ gv1).heap.size = w.heap.size) := by simp [Hid]
  obtain ⟨W1, hW1⟩ : ∃ W1, w.setCell ⟨B, 2002, none⟩ gv1 = W1 := ⟨_, rfl⟩
  rw [hW1] at hO1 c1 b1 hs1
  rw [hW1]
  have hgB1 : ∀ j, gv1.ownBlock = some j → j ≠ B := fun j hj => (H.out).gB j (hob1.symm.trans hj)
  have hgl : ∀ j, gv.ownBlock = some j → base ≤ j := fun j hj => ((H.out).g.lt j hj).1
  have hbe : ∀ {a : Addr}, a.block < base → a.block ≠ B ∧ gv.ownBlock ≠ some a.block := fun {a} ha => ⟨by have := (H.out).bB; omega, fun e => by have := hgl _ e; omega⟩
  have HM2 : Hid (MkgG (W1.setCell ⟨B, 2 + n, none⟩ (.int .u8 2)) B base ao lo cap lc zs g (insL (n : Int) bs) gv1) := by
    have b2 := b1.set (2 + n) (.int .u8 2)
    refine ⟨?_, OwnG.kept (row := some B) hO1 ⟨rfl, rfl, rfl, by simp, fun k _ hk => Below.heap_setCell _ _ _ _ (fun e => hk (by rw [show k = B from e]))⟩ (fun k e j hj => by cases e; exact hgB1 j hj), (H.out).ly.but b2 (fun hn a e => hbe ((H.out).lb (lyt_ne hn) a e)), (H.out).ws.but b2 (fun hn a e => hbe ((H.out).wb hn a e)), (H.out).lb, (H.out).wb, (H.out).bB, hgB1⟩
    have h1 := c1.set (2 + n) (.int .u8 2)
    rw [mkC_set 2 (by rw [colL_len]; exact hn2), HINK.out] at h1
    exact h1
  have HB2 : Hid (But2 B gv.ownBlock w (W1.setCell ⟨B, 2 + n, none⟩ (.int .u8 2))) := b1.set _ _
  have cn := c1.cell (2 + n)
  rw [mkC_col (by rw [colL_len]; exact hn2)] at cn
  have fn := c1.frozen (2 + n)
  have hs2 : Hid ((W1.setCell ⟨B, 2 + n, none⟩ (.int .u8 2)).heap.size = w.heap.size) := by
    have := hs1.out
    simp [Hid, this]
  have HO1 : Hid _ := hob1
  have HGB : Hid _ := hgB1
  obtain ⟨cv, hcv⟩ : ∃ cv, hz (colL ((n : Int) :: g) bs) n = cv := ⟨_, rfl⟩
  rw [hcv] at cn
  clear hW1 hO1 c1 b1 hgB1 hgl hbe hTk hob1 hcv
  obtain ⟨W2, hW2⟩ : ∃ W2, W1.setCell ⟨B, 2 + n, none⟩ (.int .u8 2) = W2 := ⟨_, rfl⟩
  rw [hW2] at HM2 HB2 hs2
  have cw : W2.cell? ⟨B, 0, none⟩ = some (.slice ao zs.length cap) := by rw [(HM2.out).c.cell 0, mkC_0]
  have HVA : Hid (∀ u, Kept W2 u → Calls Tryz.prog 77 #[.slice ao zs.length cap, .int .i64 (n : Int)] u fun e w' => ∃ v, e = .returned v ∧ OwnL w' u.heap.size v (slotV zs (n : Int)) ∧ Kept u w') := fun u hu => valuesAt_any u ao cap zs (n : Int) ((HM2.out).ws.kept hu) (by omega) HK.out
  go_wp2_with fail
  refine (HVA.out W2 (Below.refl _ _)).mono ?_
  rintro e w3 ⟨v3, rfl, hO3, hk3⟩
  obtain ⟨vo, vc, rfl, hI3⟩ := hO3.ints
  have hSh := shadeG_ok w3 B base ao lo vo cap lc vc zs g (insL (n : Int) bs) (slotV zs (n : Int)) gv1 ((HM2.out).kept hk3) HOK.out HT.out.g hI3 (by omega) (fun _ a e => by
    subst e
    have h1 := (hO3.2.lt a.block rfl).1
    have h2 := (HM2.out).c.lt
    exact ⟨by omega, fun e => by have := ((HM2.out).g.lt _ e).2; omega⟩) HLW.out
  have HK3 : Hid _ := hk3
  have HS3 : Hid (w.heap.size ≤ w3.heap.size) := by
    have := hk3.size
    have := hs2.out
    rw [Hid]; omega
  clear hO3 hI3 hk3 hW2 cn fn cw
  go_wp2_with fail
  refine hSh.mono ?_
  rintro e w4 ⟨rfl, gv4, hM4, hB4, hg4⟩
  go_wp2_with fail
  go_end0
  refine ⟨rfl, gv4, hM4, ?_, fun j hj => ?_⟩
  · exact ((HB2.out).trans (But2.of (g := none) HK3.out) (fun j hj => by cases hj)).trans hB4 (fun j hj => .inl (HO1.out.symm.trans hj))
  · rcases hg4 j hj with h | h
    · exact .inl (HO1.out.symm.trans h)
    · have := HS3.out
      exact .inr (by omega)
end Go.Proofs.YtpljjeknphnnpaaGreat
namespace Go.Proofs.YtpljjeknphnnpaaGreat
open Go.RowKit

theorem insL_asc {x : Int} : ∀ {l : List Int}, l.Pairwise (· < ·) → x ∉ l → (insL x l).Pairwise (· < ·)
  | [], _, _ => by simp [insL]
  | y :: l, h, hx => by
    have hc := List.pairwise_cons.1 h
    have hxy : x ≠ y := fun e => hx (by rw [e]; simp)
    by_cases hy : y < x
    · have e : insL x (y :: l) = y :: insL x l := by simp [insL, hy]
      rw [e]
      refine List.pairwise_cons.2 ⟨fun z hz => ?_, insL_asc hc.2 (fun h' => hx (List.mem_cons_of_mem _ h'))⟩
      rcases mem_insL.1 hz with rfl | h'
      · exact hy
      · exact hc.1 z h'
    · have e : insL x (y :: l) = x :: y :: l := by simp [insL, hy]
      rw [e]
      refine List.pairwise_cons.2 ⟨fun z hz => ?_, h⟩
      rcases List.mem_cons.1 hz with rfl | h'
      · omega
      · have := hc.1 z h'; omega
theorem mark_one {zs gs bs : List Int} {at' : Int} (h : markR zs 1 gs bs at' = true) : heapR zs = true ∧ at' = 0 ∧ bs.Pairwise (· < ·) := by
  obtain ⟨_, _, hb, _⟩ := markR_met h
  unfold markR at h
  simp only [Bool.and_eq_true] at h
  have h1 := h.2
  rw [if_neg (by decide), if_pos trivial, Bool.and_eq_true] at h1
  exact ⟨h1.2, of_decide_eq_true h1.1, sort_asc (blackR_sort h.1.2) hb.1⟩
/-- A marker of one's own; its grey places may be seen from an offset on. -/
def MkG (W : World) (base : Nat) (v : Value) (ph : Int) (gs bs : List Int) (at' : Int) : Prop :=
  ∃ gv bv, v = .agg #[.int .i64 ph, gv, bv, .int .i64 at'] ∧ OwnG W base gv gs ∧ OwnL W base bv bs ∧ (∀ j, gv.ownBlock = some j → bv.ownBlock ≠ some j)
theorem MkG.of {W : World} {base : Nat} {v : Value} {ph at' : Int} {gs bs : List Int} (h : MkO W base v ph gs bs at') : MkG W base v ph gs bs at' := by
  obtain ⟨gv, bv, e, h1, h2, h3⟩ := h
  exact ⟨gv, bv, e, OwnG.of h1, h2, h3⟩
theorem stepL_zero (zs l ls : List Int) : stepL zs 0 l ls = (l, ls) := rfl
theorem builtMr (p : Int) (a b : Option Addr) (n m x y : Nat) : Tryz.prog.built 30 [(0, .int .i64 p), (1, .slice a n x), (2, .slice b m y)] = some #[.int .i64 p, .slice a n x, .slice b m y, .int .i64 0] := by kernel_rfl
theorem infoMr : (Tryz.prog.info? 30).map (·.size) = some 4 := by kernel_rfl
theorem underMr : Tryz.prog.underlying 30 = some (.struct (Tryz.prog.fieldsOf 30)) := by kernel_rfl
theorem wp_build_mr {w : World} {o : Oper} {a : Act} {K : Act → World → Prop} {Q : Exit → Act → World → Prop} (x0 x1 x2 : Operand)
    (ho : o.op = .build 30 #[(0, x0), (1, x1), (2, x2)]) (p : Int) (ao lo : Option Addr) (n m x y : Nat) (h0 : a.eval x0 = .int .i64 p) (h1 : a.eval x1 = .slice ao n x) (h2 : a.eval x2 = .slice lo m y)
    (h : K (a.put o.dst (.agg #[.int .i64 p, .slice ao n x, .slice lo m y, .int .i64 0])) w) : Oper.wp Tryz.prog o a w K Q := by
  have hb := builtMr p ao lo n m x y
  refine wp_build 30 _ ho ?_ ?_
  · simp only [List.map_toArray, List.map_cons, List.map_nil, h0, h1, h2, hb, Option.isSome_some]
  · simp only [List.map_toArray, List.map_cons, List.map_nil, h0, h1, h2, hb, Option.getD_some]
    exact h
set_option maxHeartbeats 16000000 in
set_option maxRecDepth 100000 in
theorem impl_MarkStep_no (w : World) (ao ga ba : Option Addr) (cap gc bc : Nat) (zs gs bs : List Int) (ph at' n : Int) (hI : Ints w ao zs) (hl : zs.length ≤ 1048576) (hm : MkI w ga ba gc bc gs bs) (hgn : ga = none → gc = 0) (hbn : ba = none → bc = 0) (hno : ¬ (markR zs ph gs bs at' = true ∧ ph = 1)) :
    Calls Tryz.prog 15 #[.agg #[.slice ao zs.length cap], .agg (mrkV ph ga gs.length gc ba bs.length bc at'), .int .i64 n] w fun e w' => ∃ m, e = .returned m ∧ MkO w' w.heap.size m ph gs bs at' ∧ Kept w w' := by
  have hgl := hm.gl
  have hbl := hm.bl
  have b0 := ((Cells.new w 26 #[.slice ao zs.length cap]).alloc (.cells (mrkV ph ga gs.length gc ba bs.length bc at') 30)).alloc (.cells #[.int .i64 0, .slice none 0 0, .slice none 0 0, .int .i64 0] 30)
  have b1 := (Cells.new (w.alloc (.cells #[.slice ao zs.length cap] 26)) 30 (mrkV ph ga gs.length gc ba bs.length bc at')).alloc (.cells #[.int .i64 0, .slice none 0 0, .slice none 0 0, .int .i64 0] 30)
  have b2 := Cells.new ((w.alloc (.cells #[.slice ao zs.length cap] 26)).alloc (.cells (mrkV ph ga gs.length gc ba bs.length bc at') 30)) 30 #[.int .i64 0, .slice none 0 0, .slice none 0 0, .int .i64 0]
  have k0 : Kept w (((w.alloc (.cells #[.slice ao zs.length cap] 26)).alloc (.cells (mrkV ph ga gs.length gc ba bs.length bc at') 30)).alloc (.cells #[.int .i64 0, .slice none 0 0, .slice none 0 0, .int .i64 0] 30)) := ((Kept.alloc (Below.refl _ _) _).alloc _).alloc _
  simp only [World.size_alloc] at b1 b2
  have hMo := impl_MarkerOk_ok _ ao ga ba cap gc bc zs gs bs ph at' (hI.kept k0) hl (hm.kept k0) hgn
  have HCp : Hid (∀ u, Kept w u → Calls Tryz.prog 40 #[.agg (mrkV ph ga gs.length gc ba bs.length bc at')] u fun e w' => ∃ m, e = .returned m ∧ MkO w' u.heap.size m ph gs bs at' ∧ Kept u w') := fun u hu => copyMarker_ok u ph at' ga ba gc bc gs bs (hm.g.kept hu) (hm.b.kept hu) hgl hbl hgn hbn
  have hsz : Hid (w.heap.size + 3 = (((w.alloc (.cells #[.slice ao zs.length cap] 26)).alloc (.cells (mrkV ph ga gs.length gc ba bs.length bc at') 30)).alloc (.cells #[.int .i64 0, .slice none 0 0, .slice none 0 0, .int .i64 0] 30)).heap.size) := by simp [Hid]
  have c0 := b0.cell 0
  have m0 := b1.cell 0
  have m1 := b1.cell 1
  have m2 := b1.cell 2
  have m3 := b1.cell 3
  clear hI hm hgn hbn
  by_cases hph : ph = 1
  · subst hph
    have hmr : markR zs 1 gs bs at' = false := by
      cases h : markR zs 1 gs bs at' with
      | false => rfl
      | true => exact absurd ⟨h, rfl⟩ hno
    rw [hmr] at hMo
    clear hno hmr
    go_enter Tryz.func15, Tryz.ntmps15
    go_wp2_with fail
    refine hMo.mono ?_
    rintro e w1 ⟨rfl, k1⟩
    have n0 := (b1.kept k1).cell 0
    have n1 := (b1.kept k1).cell 1
    have n2 := (b1.kept k1).cell 2
    have n3 := (b1.kept k1).cell 3
    clear c0 m0 m1 m2 m3 hMo
    go_wp2_with fail
    refine (HCp.out w1 (k0.trans k1)).mono ?_
    rintro e w2 ⟨m2, rfl, hM2, k2⟩
    obtain ⟨gv2, bv2, rfl, hg2, hb2, hn2⟩ := hM2
    obtain ⟨ga2, gc2, rfl, _⟩ := hg2.ints
    obtain ⟨ba2, bc2, rfl, _⟩ := hb2.ints
    have z := b2.kept (k1.trans k2)
    have d0 := z.cell 0
    have d1 := z.cell 1
    have d2 := z.cell 2
    have d3 := z.cell 3
    have f0 := z.frozen 0
    have f1 := z.frozen 1
    have f2 := z.frozen 2
    have f3 := z.frozen 3
    have q := z.four (.int .i64 1) (.slice ga2 gs.length gc2) (.slice ba2 bs.length bc2) (.int .i64 at')
    have q0 := q.cell 0
    have q1 := q.cell 1
    have q2 := q.cell 2
    have q3 := q.cell 3
    have HM : Hid (MkO w2 (w.heap.size + 3) (.agg #[.int .i64 1, .slice ga2 gs.length gc2, .slice ba2 bs.length bc2, .int .i64 at']) 1 gs bs at') := MkO.base ⟨_, _, rfl, hg2, hb2, hn2⟩ (by have h1 := k1.size; have h2 := hsz.out; omega)
    have HK : Hid (Kept w w2) := (k0.trans k1).trans k2
    clear hg2 hb2 hn2 z n0 n1 n2 n3 k2 k1
    go_wp2_with fail
    refine bodyPost_ret (v := .agg #[.int .i64 1, .slice ga2 gs.length gc2, .slice ba2 bs.length bc2, .int .i64 at']) (by simp [results, Tryz.results15, go_sem, q0, q1, q2, q3]) rfl ⟨_, rfl, ?_, ?_⟩
    · exact MkO.base (((((MkO.far (p := ⟨w.heap.size + 2, 0, none⟩) HM.out (by simp)).far (p := ⟨w.heap.size + 2, 1, none⟩) (by simp)).far (p := ⟨w.heap.size + 2, 2, none⟩) (by simp)).far (p := ⟨w.heap.size + 2, 3, none⟩) (by simp))) (by omega)
    · exact (((Kept.set HK.out (p := ⟨w.heap.size + 2, 0, none⟩) (by simp) _).set (p := ⟨w.heap.size + 2, 1, none⟩) (by simp) _).set (p := ⟨w.heap.size + 2, 2, none⟩) (by simp) _).set (p := ⟨w.heap.size + 2, 3, none⟩) (by simp) _
  · have hpd : (ph == 1) = false := by simp [hph]
    clear hno hMo
    go_enter Tryz.func15, Tryz.ntmps15
    go_wp2_with fail
    refine (HCp.out _ k0).mono ?_
    rintro e w2 ⟨m2, rfl, hM2, k2⟩
    obtain ⟨gv2, bv2, rfl, hg2, hb2, hn2⟩ := hM2
    obtain ⟨ga2, gc2, rfl, _⟩ := hg2.ints
    obtain ⟨ba2, bc2, rfl, _⟩ := hb2.ints
    have z := b2.kept k2
    have d0 := z.cell 0
    have d1 := z.cell 1
    have d2 := z.cell 2
    have d3 := z.cell 3
    have f0 := z.frozen 0
    have f1 := z.frozen 1
    have f2 := z.frozen 2
    have f3 := z.frozen 3
    have q := z.four (.int .i64 ph) (.slice ga2 gs.length gc2) (.slice ba2 bs.length bc2) (.int .i64 at')
    have q0 := q.cell 0
    have q1 := q.cell 1
    have q2 := q.cell 2
    have q3 := q.cell 3
    have HM : Hid (MkO w2 (w.heap.size + 3) (.agg #[.int .i64 ph, .slice ga2 gs.length gc2, .slice ba2 bs.length bc2, .int .i64 at']) ph gs bs at') := MkO.base ⟨_, _, rfl, hg2, hb2, hn2⟩ (by have h2 := hsz.out; omega)
    have HK : Hid (Kept w w2) := k0.trans k2
    clear hg2 hb2 hn2 z k2 c0 m0 m1 m2 m3
    go_wp2_with fail
    refine bodyPost_ret (v := .agg #[.int .i64 ph, .slice ga2 gs.length gc2, .slice ba2 bs.length bc2, .int .i64 at']) (by simp [results, Tryz.results15, go_sem, q0, q1, q2, q3]) rfl ⟨_, rfl, ?_, ?_⟩
    · exact MkO.base (((((MkO.far (p := ⟨w.heap.size + 2, 0, none⟩) HM.out (by simp)).far (p := ⟨w.heap.size + 2, 1, none⟩) (by simp)).far (p := ⟨w.heap.size + 2, 2, none⟩) (by simp)).far (p := ⟨w.heap.size + 2, 3, none⟩) (by simp))) (by omega)
    · exact (((Kept.set HK.out (p := ⟨w.heap.size + 2, 0, none⟩) (by simp) _).set (p := ⟨w.heap.size + 2, 1, none⟩) (by simp) _).set (p := ⟨w.heap.size + 2, 2, none⟩) (by simp) _).set (p := ⟨w.heap.size + 2, 3, none⟩) (by simp) _
end Go.Proofs.YtpljjeknphnnpaaGreat
namespace Go.Proofs.YtpljjeknphnnpaaGreat
open Go.RowKit

theorem slice_none {W : World} {base n c : Nat} {l : List Int} (h : OwnL W base (.slice none n c) l) : c = 0 := by
  rcases h.cases with ⟨e, _⟩ | ⟨g, cap, e, _⟩
  · cases e; rfl
  · cases e
theorem mkO_two {W : World} {base : Nat} {ph at' : Int} {gs bs : List Int} {m : Value} (h : MkO W base m ph gs bs at') : ∃ ga ba gc bc, m = .agg #[.int .i64 ph, .slice ga gs.length gc, .slice ba bs.length bc, .int .i64 at'] ∧ OwnL W base (.slice ga gs.length gc) gs ∧ OwnL W base (.slice ba bs.length bc) bs ∧ (∀ j, (Value.slice ga gs.length gc).ownBlock = some j → (Value.slice ba bs.length bc).ownBlock ≠ some j) ∧ (ga = none → gc = 0) ∧ (ba = none → bc = 0) := by
  obtain ⟨gv, bv, rfl, h1, h2, h3⟩ := h
  obtain ⟨ga, gc, rfl, _⟩ := h1.ints
  obtain ⟨ba, bc, rfl, _⟩ := h2.ints
  exact ⟨ga, ba, gc, bc, rfl, h1, h2, h3, fun e => by subst e; exact slice_none h1, fun e => by subst e; exact slice_none h2⟩
theorem OwnG.none_cap {W : World} {base n c : Nat} {l : List Int} (h : OwnG W base (.slice none n c) l) : c = 0 := by
  rcases h.2 with ⟨e, _⟩ | ⟨g, off, cp, cur, e, _⟩
  · cases e; rfl
  · cases e
theorem OwnG.cap_le {W : World} {base n c : Nat} {ao : Option Addr} {l : List Int} (h : OwnG W base (.slice ao n c) l) : l.length ≤ c := by
  rcases h.2 with ⟨e, h'⟩ | ⟨g, off, cp, cur, e, _, _, h1, _⟩
  · cases e; simp at h'; subst h'; exact Nat.le_refl _
  · cases e; simpa using h1
theorem OwnL.cap_le {W : World} {base n c : Nat} {ao : Option Addr} {l : List Int} (h : OwnL W base (.slice ao n c) l) : l.length ≤ c := (OwnG.of h).cap_le
theorem mkG_two {W : World} {base : Nat} {ph at' : Int} {gs bs : List Int} {m : Value} (h : MkG W base m ph gs bs at') : ∃ ga ba gc bc, m = .agg #[.int .i64 ph, .slice ga gs.length gc, .slice ba bs.length bc, .int .i64 at'] ∧ Ints W ga gs ∧ Ints W ba bs ∧ (ga = none → gc = 0) ∧ (ba = none → bc = 0) ∧ gs.length ≤ gc ∧ bs.length ≤ bc := by
  obtain ⟨gv, bv, rfl, h1, h2, h3⟩ := h
  obtain ⟨ga, gc, rfl, i1⟩ := h1.ints
  obtain ⟨ba, bc, rfl, i2⟩ := h2.ints
  exact ⟨ga, ba, gc, bc, rfl, i1, i2, fun e => by subst e; exact h1.none_cap, fun e => by subst e; exact slice_none h2, h1.cap_le, h2.cap_le⟩
theorem field_black (p g b a : Value) (w : World) : Sem.run Tryz.prog (Instr.field 30 (.agg #[p, g, b, a]) 2) w = .ok b w := by kernel_rfl
theorem stepL_twoS {zs : List Int} (hh : heapR zs = true) : ∀ (k : Nat) (gs bs : List Int), Two zs gs bs → Two zs (stepL zs k gs bs).1 (stepL zs k gs bs).2
  | 0, _, _, h => h
  | _ + 1, [], _, h => h
  | k + 1, a :: _, _, h => stepL_twoS hh k _ _ (h.ink.shades (leads_slots hh (h.g.2 a (by simp))).1)
theorem stepC_len {zs gs bs : List Int} {ph at' n : Int} {L : Nat} (hz : zs.length ≤ L) (hg : gs.length ≤ L) (hb : bs.length ≤ L) : (stepC zs ph gs bs at' n).2.1.length ≤ L ∧ (stepC zs ph gs bs at' n).2.2.length ≤ L := by
  unfold stepC
  split
  · rename_i h
    obtain ⟨h1, rfl⟩ := h
    have h2 := stepL_twoS (mark_one h1).1 n.toNat gs bs (markR_two h1)
    have := h2.g.len
    have := h2.b.len
    exact ⟨by simp only; omega, by simp only; omega⟩
  · exact ⟨hg, hb⟩
theorem stepC_ph {zs gs bs : List Int} {ph at' n : Int} (h : -9 ≤ ph ∧ ph ≤ 9) : -9 ≤ (stepC zs ph gs bs at' n).1 ∧ (stepC zs ph gs bs at' n).1 ≤ 9 := by
  unfold stepC stepPh
  split
  · simp only
    split <;> omega
  · exact h
end Go.Proofs.YtpljjeknphnnpaaGreat
namespace Go.Proofs.YtpljjeknphnnpaaGreat

theorem stepL_add (zs : List Int) : ∀ (j k : Nat) (gs bs : List Int), stepL zs (j + k) gs bs = stepL zs k (stepL zs j gs bs).1 (stepL zs j gs bs).2
  | 0, k, gs, bs => by rw [Nat.zero_add]; rfl
  | j + 1, k, [], bs => by rw [stepL_nil, stepL_nil]; exact (stepL_nil zs bs k).symm
  | j + 1, k, a :: g, bs => by
    rw [show j + 1 + k = (j + k) + 1 by omega]
    exact stepL_add zs j k _ _
theorem Two.both {zs gs bs : List Int} (h : Two zs gs bs) : gs.length + bs.length ≤ zs.length := by
  have hM : Met zs (gs ++ bs) := by
    refine ⟨List.nodup_append.2 ⟨h.g.1, h.b.1, fun a ha b hb e => h.n a ha (by rw [e]; exact hb)⟩, fun a ha => ?_⟩
    rcases List.mem_append.1 ha with h' | h'
    · exact h.g.2 a h'
    · exact h.b.2 a h'
  have := hM.len
  rwa [List.length_append] at this
theorem Two.step {zs g bs : List Int} {a : Int} (hh : heapR zs = true) (h : Two zs (a :: g) bs) : Two zs (shadesL (insL a bs) g (slotV zs a)) (insL a bs) := h.ink.shades (leads_slots hh (h.g.2 a (by simp))).1
/-- Marking ends. -/
theorem stepL_end {zs : List Int} (hh : heapR zs = true) : ∀ (k : Nat) (gs bs : List Int), Two zs gs bs → zs.length ≤ k + bs.length → (stepL zs k gs bs).1 = []
  | 0, gs, bs, h, hk => by
    have := h.both
    show gs = []
    exact List.eq_nil_of_length_eq_zero (by omega)
  | _ + 1, [], _, _, _ => rfl
  | k + 1, a :: g, bs, h, hk => stepL_end hh k _ _ (h.step hh) (by rw [insL_len]; omega)
/-- What is black leads to what was met. -/
def TriP (zs gs bs : List Int) : Prop := ∀ b ∈ bs, ∀ v ∈ slotV zs b, 0 ≤ blkV v → blkV v ∈ gs ∨ blkV v ∈ bs
theorem shadeL_sub {gs bs : List Int} {v x : Int} (h : x ∈ gs) : x ∈ shadeL 1 gs bs v := by
  unfold shadeL
  split
  · exact List.mem_append_left _ h
  · exact h
theorem shadesL_sub {bs : List Int} {x : Int} : ∀ {vs gs : List Int}, x ∈ gs → x ∈ shadesL bs gs vs
  | [], _, h => h
  | v :: vs, _, h => shadesL_sub (vs := vs) (shadeL_sub (bs := bs) (v := v) h)
theorem shadesL_has {bs : List Int} : ∀ {vs gs : List Int}, ∀ v ∈ vs, 0 ≤ blkV v → blkV v ∈ shadesL bs gs vs ∨ blkV v ∈ bs
  | [], _, _, h, _ => by cases h
  | u :: vs, gs, v, h, h0 => by
    rcases List.mem_cons.1 h with rfl | h'
    · by_cases hb : blkV v ∈ bs
      · exact .inr hb
      · refine .inl (shadesL_sub (vs := vs) (gs := shadeL 1 gs bs v) ?_)
        unfold shadeL
        split
        · simp
        · rename_i hc
          by_cases hg : blkV v ∈ gs
          · exact hg
          · exact absurd ⟨rfl, h0, hg, hb⟩ hc
    · exact shadesL_has (vs := vs) (gs := shadeL 1 gs bs u) v h' h0
theorem TriP.step {zs g bs : List Int} {a : Int} (h : TriP zs (a :: g) bs) : TriP zs (shadesL (insL a bs) g (slotV zs a)) (insL a bs) := by
  intro b hb v hv h0
  rcases mem_insL.1 hb with rfl | hb'
  · exact shadesL_has v hv h0
  · rcases h b hb' v hv h0 with h' | h'
    · rcases List.mem_cons.1 h' with h'' | h''
      · exact .inr (mem_insL.2 (.inl h''))
      · exact .inl (shadesL_sub h'')
    · exact .inr (mem_insL.2 (.inr h'))
theorem stepL_keeps {zs : List Int} (hh : heapR zs = true) : ∀ (k : Nat) (gs bs : List Int), Two zs gs bs → bs.Pairwise (· < ·) → TriP zs gs bs → Two zs (stepL zs k gs bs).1 (stepL zs k gs bs).2 ∧ (stepL zs k gs bs).2.Pairwise (· < ·) ∧ TriP zs (stepL zs k gs bs).1 (stepL zs k gs bs).2
  | 0, _, _, h1, h2, h3 => ⟨h1, h2, h3⟩
  | _ + 1, [], _, h1, h2, h3 => ⟨h1, h2, h3⟩
  | k + 1, a :: g, bs, h1, h2, h3 => stepL_keeps hh k _ _ (h1.step hh) (insL_asc h2 (h1.n a (by simp))) h3.step
theorem mark_of {zs gs bs : List Int} (hh : heapR zs = true) (h2 : Two zs gs bs) (ha : bs.Pairwise (· < ·)) : blackR gs bs = true ∧ markR zs 1 gs bs 0 = true := by
  have hb : blackR gs bs = true := by
    refine allR_iff.2 fun i hi => ?_
    unfold blackB
    have h1 : hz bs i ∉ gs := fun h => h2.n _ h (hz_mem hi)
    have h3 : i = 0 ∨ hz bs (i - 1) ≤ hz bs i := by
      by_cases h0 : i = 0
      · exact .inl h0
      · have := List.pairwise_iff_getElem.1 ha (i - 1) i (by omega) hi (by omega)
        refine .inr ?_
        rw [hz_get hi, hz_get (show i - 1 < bs.length by omega)]
        omega
    rcases h3 with h3 | h3
    · subst h3; simp [h1]
    · simp [h1, h3]
  refine ⟨hb, ?_⟩
  unfold markR
  simp [heapR_slab hh, places_iff.2 h2.g, places_iff.2 h2.b, hb, hh]
theorem tri_of {zs gs bs : List Int} (hm : markR zs 1 gs bs 0 = true) (ht : TriP zs gs bs) : triR zs 1 gs bs 0 = true := by
  unfold triR
  rw [hm, Bool.true_and, Bool.or_eq_true]
  refine .inr (List.all_eq_true.2 fun b hb => List.all_eq_true.2 fun v hv => ?_)
  unfold metV
  by_cases h0 : blkV v < 0
  · simp [h0]
  · rcases ht b hb v hv (by omega) with h | h <;> simp [h]
theorem triP_of {zs gs bs : List Int} {at' : Int} (h : triR zs 1 gs bs at' = true) : TriP zs gs bs := by
  unfold triR at h
  simp only [Bool.and_eq_true, Bool.or_eq_true] at h
  have h1 : bs.all (triB zs gs bs) = true := by simpa using h.2
  intro b hb v hv h0
  have h2 := List.all_eq_true.1 (List.all_eq_true.1 h1 b hb) v hv
  unfold metV at h2
  simp only [Bool.or_eq_true, decide_eq_true_eq] at h2
  rcases h2 with (h2 | h2) | h2
  · omega
  · exact .inl h2
  · exact .inr h2
theorem swept_of {zs bs : List Int} (hh : heapR zs = true) (h2 : Two zs [] bs) (ha : bs.Pairwise (· < ·)) (ht : TriP zs [] bs) : markR zs 2 [] bs 0 = true := by
  have hok := heapR_slab hh
  have hb := (mark_of hh h2 ha).1
  have hat : (decide ((0 : Int) = (zs.length : Int)) || isAt zs 0) = true := by
    by_cases h0 : zs.length = 0
    · simp [h0]
    · have := At.is_yes (At.zero zs) hok (by omega)
      rw [Bool.or_eq_true]
      exact .inr this
  have hp : passR zs bs 0 = true := by
    refine List.all_eq_true.2 fun b _ => ?_
    unfold passB
    have : decide ((0 : Int) ≤ (b.1.at' : Int)) = true := by simp
    rw [this]
    rfl
  have hr := heap_right hh h2.b
  have hd : bs.all (holdR zs bs) = true := by
    refine List.all_eq_true.2 fun b hb => ?_
    unfold holdR
    rw [Bool.and_eq_true]
    refine ⟨List.all_eq_true.1 hr b hb, List.all_eq_true.2 fun v hv => ?_⟩
    unfold amongV
    by_cases h0 : blkV v < 0
    · simp [h0]
    · rcases ht b hb v hv (by omega) with h | h
      · cases h
      · simp [h]
  unfold markR sweptR
  rw [hok, places_iff.2 h2.g, places_iff.2 h2.b, hb, hat, hp, hd, if_neg (by decide), if_neg (by decide)]
  simp
/-- What FnMarks asks: so many steps, then all the rest, come to the same as all at once; the end is a marker that sweeps, and right. -/
theorem marks_end {zs gs bs : List Int} (k : Nat) (h : triR zs 1 gs bs 0 = true) : ∃ all : List Int,
    stepC zs 1 gs bs 0 2000 = (2, [], all) ∧ markR zs 2 [] all 0 = true ∧
    ((stepL zs k gs bs).1 = [] → (stepL zs k gs bs).2 = all) ∧
    ((stepL zs k gs bs).1 ≠ [] → triR zs 1 (stepL zs k gs bs).1 (stepL zs k gs bs).2 0 = true ∧ stepC zs 1 (stepL zs k gs bs).1 (stepL zs k gs bs).2 0 2000 = (2, [], all)) := by
  have hm : markR zs 1 gs bs 0 = true := by
    have h' := h
    unfold triR at h'
    rw [Bool.and_eq_true] at h'
    exact h'.1
  obtain ⟨hh, _, ha⟩ := mark_one hm
  have h2 := markR_two hm
  have hz := (slabOk_iff.1 (heapR_slab hh)).1
  have run : ∀ (g b : List Int), markR zs 1 g b 0 = true → ∃ all, stepL zs 2000 g b = ([], all) ∧ stepC zs 1 g b 0 2000 = (2, [], all) := fun g b hm' => by
    have he := stepL_end hh 2000 g b (markR_two hm') (by omega)
    have e1 : stepL zs 2000 g b = ([], (stepL zs 2000 g b).2) := Prod.ext he rfl
    refine ⟨_, e1, ?_⟩
    have e2 : stepC zs 1 g b 0 2000 = (stepPh (stepL zs 2000 g b).1, stepL zs 2000 g b) := if_pos ⟨hm', rfl⟩
    rw [e2, e1]
    rfl
  obtain ⟨all, e, ec⟩ := run gs bs hm
  obtain ⟨k1, k2, k3⟩ := stepL_keeps hh 2000 gs bs h2 ha (triP_of h)
  rw [e] at k1 k2 k3
  obtain ⟨j1, j2, j3⟩ := stepL_keeps hh k gs bs h2 ha (triP_of h)
  have add1 : stepL zs (k + 2000) gs bs = ([], all) := by rw [Nat.add_comm, stepL_add, e]; exact stepL_nil _ _ _
  rw [stepL_add] at add1
  refine ⟨all, ec, swept_of hh k1 k2 k3, fun h0 => ?_, fun _ => ?_⟩
  · rw [h0, stepL_nil] at add1
    exact congrArg Prod.snd add1
  · have mk := (mark_of hh j1 j2).2
    refine ⟨tri_of mk j3, ?_⟩
    obtain ⟨all', e', ec'⟩ := run _ _ mk
    rw [add1] at e'
    have : all = all' := congrArg Prod.snd e'
    rw [ec', this]
end Go.Proofs.YtpljjeknphnnpaaGreat
namespace Go.Proofs.YtpljjeknphnnpaaGreat
open Go.RowKit

theorem MkgG.read {W : World} {B base : Nat} {ao lo : Option Addr} {cap lc : Nat} {zs gs bs : List Int} {gv : Value} (h : MkgG W B base ao lo cap lc zs gs bs gv) : MkgR W B ao lo cap lc zs gs bs gv := ⟨h.c, h.ly, h.ws⟩
set_option maxHeartbeats 16000000 in
set_option maxRecDepth 100000 in
theorem impl_MarkStep_yes (w : World) (ao ga ba : Option Addr) (cap gc bc : Nat) (zs gs bs : List Int) (n : Int) (hI : Ints w ao zs) (hl : zs.length ≤ 1048576) (hm : MkI w ga ba gc bc gs bs) (hgn : ga = none → gc = 0) (hn : -9223372036854775808 ≤ n ∧ n ≤ 9223372036854775807) (hyes : markR zs 1 gs bs 0 = true) :
    Calls Tryz.prog 15 #[.agg #[.slice ao zs.length cap], .agg (mrkV 1 ga gs.length gc ba bs.length bc 0), .int .i64 n] w fun e w' => ∃ m, e = .returned m ∧ MkG w' w.heap.size m (stepPh (stepL zs n.toNat gs bs).1) (stepL zs n.toNat gs bs).1 (stepL zs n.toNat gs bs).2 0 ∧ Kept w w' := by
  have hgl := hm.gl
  have hbl := hm.bl
  have b0 := ((Cells.new w 26 #[.slice ao zs.length cap]).alloc (.cells (mrkV 1 ga gs.length gc ba bs.length bc 0) 30)).alloc (.cells #[.int .i64 0, .slice none 0 0, .slice none 0 0, .int .i64 0] 30)
  have b1 := (Cells.new (w.alloc (.cells #[.slice ao zs.length cap] 26)) 30 (mrkV 1 ga gs.length gc ba bs.length bc 0)).alloc (.cells #[.int .i64 0, .slice none 0 0, .slice none 0 0, .int .i64 0] 30)
  have b2 := Cells.new ((w.alloc (.cells #[.slice ao zs.length cap] 26)).alloc (.cells (mrkV 1 ga gs.length gc ba bs.length bc 0) 30)) 30 #[.int .i64 0, .slice none 0 0, .slice none 0 0, .int .i64 0]
  have k0 : Kept w (((w.alloc (.cells #[.slice ao zs.length cap] 26)).alloc (.cells (mrkV 1 ga gs.length gc ba bs.length bc 0) 30)).alloc (.cells #[.int .i64 0, .slice none 0 0, .slice none 0 0, .int .i64 0] 30)) := ((Kept.alloc (Below.refl _ _) _).alloc _).alloc _
  simp only [World.size_alloc] at b1 b2
  have hMo := impl_MarkerOk_ok _ ao ga ba cap gc bc zs gs bs 1 0 (hI.kept k0) hl (hm.kept k0) hgn
  rw [hyes] at hMo
  have HMk : Hid (∀ u, Kept w u → Calls Tryz.prog 32 #[.agg #[.slice ao zs.length cap], .agg (mrkV 1 ga gs.length gc ba bs.length bc 0)] u fun e w' => ∃ v, e = .returned v ∧ MkgV u w' v ao cap zs gs bs ∧ Kept u w') := fun u hu => markingOf_ok u ao ga ba cap gc bc zs gs bs 1 0 (hI.kept hu) hl (hm.g.kept hu) (hm.b.kept hu) hgl hbl hgn
  have hsz : Hid (w.heap.size + 3 = (((w.alloc (.cells #[.slice ao zs.length cap] 26)).alloc (.cells (mrkV 1 ga gs.length gc ba bs.length bc 0) 30)).alloc (.cells #[.int .i64 0, .slice none 0 0, .slice none 0 0, .int .i64 0] 30)).heap.size) := by simp [Hid]
  obtain ⟨hh, _, hasc⟩ := mark_one hyes
  have h2 := markR_two hyes
  have hok := heapR_slab hh
  have hzl := (slabOk_iff.1 hok).1
  have HH : Hid _ := hh
  have HOk : Hid _ := hok
  have HT0 : Hid (Two zs gs bs) := h2
  have HA0 : Hid (bs.Pairwise (· < ·)) := hasc
  have HI : Hid (Ints w ao zs) := hI
  have hn1 := hn.1
  have hn2 := hn.2
  have c0 := b0.cell 0
  have m0 := b1.cell 0
  have m1 := b1.cell 1
  have m2 := b1.cell 2
  have m3 := b1.cell 3
  clear hI hm hgn hyes hh hasc h2 hok hn
  go_enter Tryz.func15, Tryz.ntmps15
  go_wp2_with fail
  refine hMo.mono ?_
  rintro e w1 ⟨rfl, k1⟩
  have s0 := (b0.kept k1).cell 0
  have n0 := (b1.kept k1).cell 0
  have n1 := (b1.kept k1).cell 1
  have n2 := (b1.kept k1).cell 2
  have n3 := (b1.kept k1).cell 3
  have K1 := k0.trans k1
  have HZ1 : Hid (Cells w1 (w.heap.size + 2) 30 #[.int .i64 0, .slice none 0 0, .slice none 0 0, .int .i64 0]) := b2.kept k1
  have hs1 : w.heap.size + 3 ≤ w1.heap.size := by have := k1.size; have := hsz.out; omega
  clear c0 m0 m1 m2 m3 hMo b0 b1 b2 hsz k0 k1
  go_wp2_with fail
  refine (HMk.out w1 K1).mono ?_
  rintro e w2 ⟨v2, rfl, hv2, hk2⟩
  obtain ⟨lo, go, ln, lc, gc2, base, rfl, _, hy2, hb1, hb2, hOg⟩ := hv2.is
  obtain ⟨rfl, hly, hlb⟩ := hy2 HOk.out
  have hcz := Cells.new w2 55 Tryz.zeroCells55
  go_upto_region 4 with (refine wpList_store_row (by rfl) 55 _ _ (by rfl) w2.heap.size _ (by rfl) (by rfl) _ _ hcz (by rw [mkC_size, colL_len]; exact infoMks) (by rw [mkC_size, colL_len]; exact zeroMk) mkC_one ?_)
  rw [World.setRow_alloc_new]
  obtain ⟨mc, hmc⟩ : ∃ mc, mkC (.slice ao zs.length cap) (.slice lo zs.length lc) (colL gs bs) (.slice go gs.length gc2) = mc := ⟨_, rfl⟩
  have kS : Kept w2 (w2.alloc (.cells mc 55)) := Kept.alloc (Below.refl _ _) _
  have cS := Cells.new w2 55 mc
  have K2 : Kept w w2 := K1.trans hk2
  have ltI : zs ≠ [] → ∀ a, ao = some a → a.block < w.heap.size := fun hn a e => Ints.lt HI.out hn e
  have hOlt : ∀ j, (Value.slice go gs.length gc2).ownBlock = some j → base ≤ j ∧ j < w2.heap.size := fun j hj => hOg.2.lt j hj
  obtain ⟨WS, hWS⟩ : ∃ WS, w2.alloc (.cells mc 55) = WS := ⟨_, rfl⟩
  have hsS : Hid (WS.heap.size = w2.heap.size + 1) := by rw [← hWS]; simp [Hid]
  rw [hWS] at kS cS
  have HS0 : Hid (MkgG WS w2.heap.size base ao lo cap lc zs gs bs (.slice go gs.length gc2)) := ⟨by rw [hmc]; exact cS, OwnG.of (OwnL.kept (row := none) hOg kS.grown (fun k e => by cases e)), hly.kept kS, Ints.kept HI.out (K2.trans kS), hlb, fun hn a e => by have := ltI hn a e; omega, hb2, fun j hj => by have := (hOlt j hj).2; omega⟩
  rw [hmc, hWS]
  have HKS : Hid (Kept w WS) := K2.trans kS
  have HZS : Hid (Cells WS (w.heap.size + 2) 30 #[.int .i64 0, .slice none 0 0, .slice none 0 0, .int .i64 0]) := Cells.kept HZ1.out (hk2.trans kS)
  have hbase : w.heap.size + 3 ≤ base := by omega
  have HBS : Hid (base ≤ WS.heap.size) := Nat.le_trans hb2 kS.size
  obtain ⟨B, hB⟩ : ∃ B, w2.heap.size = B := ⟨_, rfl⟩
  rw [hB] at HS0 hsS
  rw [hB]
  clear hmc hWS cS kS hk2 K1 K2 hv2 hOg hly hlb hy2 hcz ltI hOlt s0 n0 n1 n2 n3 hb1 hb2 hs1 HZ1 HMk hB
  go_wp2_with fail
  go_loopw [8] (fun i wr => ∃ (k : Nat) (gv : Value) (l ls : List Int), i = .int .i64 k ∧ k ≤ n.toNat ∧ Hid (stepL zs (n.toNat - k) l ls = stepL zs n.toNat gs bs) ∧ Hid (Two zs l ls) ∧ Hid (ls.Pairwise (· < ·)) ∧ Hid (MkgG wr B base ao lo cap lc zs l ls gv) ∧ Hid (Below base WS wr)) (fun i _ => n.toNat - (intOf i).toNat)
  case atStart => exact ⟨0, _, gs, bs, rfl, Nat.zero_le _, rfl, HT0.out, HA0.out, HS0.out, Below.refl _ _⟩
  case round =>
    clear HT0 HA0 HS0
    obtain ⟨k, gv, l, ls, rfl, hk, HE, HT, HA, HS, HB⟩ := hrel
    obtain ⟨so, sc, rfl, _⟩ := HS.out.g.ints
    have hll := HT.out.g.len
    have cg := HS.out.c.cell 2002
    rw [mkC_g (by rw [colL_len])] at cg
    have hEm := qempty_ok wr so l.length sc (by omega)
    have HKr : Hid (Kept w wr) := Below.trans HKS.out (Below.mono HB.out (by omega))
    have HZr : Hid (Cells wr (w.heap.size + 2) 30 #[.int .i64 0, .slice none 0 0, .slice none 0 0, .int .i64 0]) := (HB.out.block _ (by omega)).trans HZS.out
    have HS3 : Hid (w.heap.size + 3 ≤ wr.heap.size) := Nat.le_trans hbase HS.out.size
    have HCL : Hid (∀ l ls : List Int, (colC (colL l ls)).toList.length = 2000) := fun l ls => by simp [colC_size, colL_len]
    have HBd : Hid (∀ a ∈ ls, 0 ≤ a ∧ a < 2000) := met_bd HOk.out HT.out.b
    cases l with
    | nil =>
      simp only [List.length_nil, decide_true] at cg hEm
      have HR : Hid (stepL zs n.toNat gs bs = ([], ls)) := by rw [Hid, ← HE.out, stepL_nil]
      have hBl := blacks_ok wr (colL [] ls) (colL_len _ _)
      rw [blacks_col HA.out HBd.out] at hBl
      have hrg := HS.out.read.range
      have hlz := HT.out.b.len
      clear HE HT HA HS HB HBd hll
      by_cases hkn : (k : Int) < n
      all_goals (
        go_wp2_with (first
          | (go_at_call 41; refine hEm.mono ?_; rintro e w3 ⟨rfl, rfl⟩)
          | (refine wpList_load_mid (by rfl) 52 _ (by rfl) B 2 (by rfl) _ _ hrg Tryz.underlying52 rfl (by rw [HCL.out]; exact infoCol) ?_)
          | (go_at_call 43; refine hBl.mono ?_; rintro e w5 ⟨v5, rfl, hO5, hk5⟩; obtain ⟨va, vc, rfl, _⟩ := hO5.ints; have z := Cells.kept HZr.out hk5; have d0 := z.cell 0; have d1 := z.cell 1; have d2 := z.cell 2; have d3 := z.cell 3; have f0 := z.frozen 0; have f1 := z.frozen 1; have f2 := z.frozen 2; have f3 := z.frozen 3; have q := z.four (.int .i64 2) (.slice none 0 0) (.slice va ls.length vc) (.int .i64 0); have q0 := q.cell 0; have q1 := q.cell 1; have q2 := q.cell 2; have q3 := q.cell 3; clear z))
        refine bodyPost_ret (v := .agg #[.int .i64 2, .slice none 0 0, .slice va ls.length vc, .int .i64 0]) (by simp [results, Tryz.results15, go_sem, q0, q1, q2, q3]) rfl ⟨_, rfl, ?_, ?_⟩
        · rw [HR.out]
          refine MkG.of ?_
          have hsr := Below.size HKr.out
          have hs3 := HS3.out
          have M5 : MkO w5 (w.heap.size + 3) (.agg #[.int .i64 2, .slice none 0 0, .slice va ls.length vc, .int .i64 0]) 2 [] ls 0 := ⟨_, _, rfl, ⟨by simp, World.ownsRow_nil _ _ _ _⟩, ⟨hO5.1, ownsRow_base hO5.2 (by omega)⟩, fun j hj => by simp [Value.ownBlock] at hj⟩
          exact MkO.base (((((MkO.far (p := ⟨w.heap.size + 2, 0, none⟩) M5 (by simp)).far (p := ⟨w.heap.size + 2, 1, none⟩) (by simp)).far (p := ⟨w.heap.size + 2, 2, none⟩) (by simp)).far (p := ⟨w.heap.size + 2, 3, none⟩) (by simp))) (by omega)
        · exact ((((Kept.trans HKr.out hk5).set (p := ⟨w.heap.size + 2, 0, none⟩) (by simp) _).set (p := ⟨w.heap.size + 2, 1, none⟩) (by simp) _).set (p := ⟨w.heap.size + 2, 2, none⟩) (by simp) _).set (p := ⟨w.heap.size + 2, 3, none⟩) (by simp) _)
    | cons a g =>
      simp only [List.length_cons] at cg hEm hll
      rw [decide_eq_false (by omega)] at hEm
      by_cases hkn : (k : Int) < n
      · have hka := HT.out.g.2 a (by simp)
        have HE2 : Hid (stepL zs (n.toNat - (k + 1)) (shadesL (insL a ls) g (slotV zs a)) (insL a ls) = stepL zs n.toNat gs bs) := by
          rw [Hid, ← HE.out, show n.toNat - k = (n.toNat - (k + 1)) + 1 by omega]
          rfl
        have HT2 : Hid (Two zs (shadesL (insL a ls) g (slotV zs a)) (insL a ls)) := HT.out.ink.shades (leads_slots HH.out hka).1
        have HA2 : Hid ((insL a ls).Pairwise (· < ·)) := insL_asc HA.out (HT.out.n a (by simp))
        have hSt := step_ok wr B base ao lo cap lc zs g ls a _ HS.out HH.out HT.out
        have HSB : Hid (base ≤ B ∧ (∀ j, (Value.slice so (a :: g).length sc).ownBlock = some j → base ≤ j) ∧ base ≤ wr.heap.size) := ⟨HS.out.bB, fun j hj => (HS.out.g.lt j hj).1, HS.out.size⟩
        clear hka HE HT HA HBd
        go_wp2_with (go_at_call 41; refine hEm.mono ?_; rintro e w3 ⟨rfl, rfl⟩)
        refine hSt.mono ?_
        rintro e w4 ⟨rfl, gv4, hM4, hB4, _⟩
        have HM4 : Hid _ := hM4
        have HB4 : Hid _ := hB4
        clear hM4 hB4
        go_wp2_with fail
        go_roundw
        case rel => exact ⟨k + 1, gv4, _, _, by go_num, by omega, HE2.out, HT2.out, HA2.out, HM4.out, Below.trans HB.out (HB4.out.below HSB.out.1 HSB.out.2.1 HSB.out.2.2)⟩
        case measure => simp [intOf]; omega
      · have HR : Hid (stepL zs n.toNat gs bs = (a :: g, ls)) := by rw [Hid, ← HE.out, show n.toNat - k = 0 by omega]; rfl
        have HBK : Hid (blacksL (colL (a :: g) ls) 2000 = ls) := blacks_col HA.out HBd.out
        have hlz := HT.out.b.len
        clear HE HT HA HB HBd
        have kd0 : Kept wr wr.drew := (Below.refl _ wr).drew
        have HY : Hid (∀ u, Kept wr.drew u → u.cell? ⟨B, 2002, none⟩ = some (.slice so (g.length + 1) sc)) := fun u hu => by
          have h := (HS.out.c.kept (kd0.trans hu)).cell 2002
          rw [mkC_g (by rw [colL_len])] at h
          exact h
        have HRg : Hid (∀ u, Kept wr.drew u → u.rangeAt B 2 (colC (colL (a :: g) ls)).toList) := fun u hu => (HS.out.kept (kd0.trans hu)).read.range
        go_wp2_with (go_at_call 41; refine hEm.mono ?_; rintro e w3 ⟨rfl, rfl⟩)
        refine wp_region_three (by kernel_rfl) (by kernel_rfl) (by kernel_rfl) ?_
        clear cg hEm
        repeat (first
          | (refine SeqD.pure ?_ (by rfl) ?_ ?_; rotate_left; (focus (intro u hu; have c0 := HY.out u hu; go_simp; first | done | exact rfl)); simp only [Act.put, List.setIfInBounds_toArray, List.set_cons_zero, List.set_cons_succ])
          | (refine SeqD.pure (.agg (colC (colL (a :: g) ls))) (by rfl) (fun u hu => exec_load_arr 52 _ (by rfl) B 2 (by rfl) _ _ (HRg.out u hu) Tryz.underlying52 rfl (by rw [HCL.out]; exact infoCol)) ?_; simp only [Act.put, List.setIfInBounds_toArray, List.set_cons_zero, List.set_cons_succ]))
        refine SeqD.last (fun v u => OwnL u wr.heap.size v ls) (fun v u u' h hk => OwnL.kept (row := none) h hk.grown (fun k e => by cases e)) (by intro u; go_simp; first | done | exact rfl) (fun u hu => ((blacks_ok u (colL (a :: g) ls) (colL_len _ _)).mono (by rintro e w' ⟨v, rfl, hO, hk⟩; rw [HBK.out] at hO; exact ⟨v, rfl, ⟨hO.1, ownsRow_base hO.2 (kd0.trans hu).size⟩, hk⟩))) ?_
        intro v u hu hO
        obtain ⟨va, vc, rfl, hI3⟩ := hO.ints
        have ku : Kept wr u := kd0.trans hu
        have zu := Cells.kept HZr.out ku
        simp only [Act.put, List.setIfInBounds_toArray, List.set_cons_zero, List.set_cons_succ]
        refine wp_build_mr _ _ _ (by rfl) 1 so va (g.length + 1) ls.length sc vc (by rfl) (by rfl) (by rfl) ?_
        refine wp_store_row 30 _ _ (by rfl) (w.heap.size + 2) #[.int .i64 1, .slice so (g.length + 1) sc, .slice va ls.length vc, .int .i64 0] (by rfl) (by rfl) _ _ zu (by exact infoMr) (by rfl) (by simp [Value.oneCell']) ?_
        have zE := zu.row #[.int .i64 1, .slice so (g.length + 1) sc, .slice va ls.length vc, .int .i64 0]
        have gE := setRow_grown u (w.heap.size + 2) #[.int .i64 1, .slice so (g.length + 1) sc, .slice va ls.length vc, .int .i64 0]
        have kE : Kept w (u.setRow (w.heap.size + 2) #[.int .i64 1, .slice so (g.length + 1) sc, .slice va ls.length vc, .int .i64 0]) := Kept.row (Kept.trans HKr.out ku) (by omega) _
        have hM : MkG (u.setRow (w.heap.size + 2) #[.int .i64 1, .slice so (g.length + 1) sc, .slice va ls.length vc, .int .i64 0]) w.heap.size (.agg #[.int .i64 1, .slice so (g.length + 1) sc, .slice va ls.length vc, .int .i64 0]) (stepPh (stepL zs n.toNat gs bs).1) (stepL zs n.toNat gs bs).1 (stepL zs n.toNat gs bs).2 0 := by
          rw [HR.out]
          have hs3 := HS3.out
          have hg := HS.out.g
          refine ⟨.slice so (g.length + 1) sc, .slice va ls.length vc, rfl, ?_, ?_, fun j hj hj2 => ?_⟩
          · have h1 : OwnG u base (.slice so (g.length + 1) sc) (a :: g) := OwnG.kept (row := none) hg ku.grown (fun k e => by cases e)
            have h3 := OwnG.kept (row := some (w.heap.size + 2)) h1 gE (fun k e j hj => by cases e; have := (h1.lt j hj).1; omega)
            exact ⟨h3.1, h3.2.base (by omega)⟩
          · have h3 := OwnL.kept (row := some (w.heap.size + 2)) hO gE (fun k e j hj => by cases e; have := (hO.2.lt j hj).1; omega)
            exact ⟨h3.1, ownsRow_base h3.2 (by omega)⟩
          · have h1 := (hg.lt j hj).2
            have h3 := (hO.2.lt j hj2).1
            omega
        have HM : Hid _ := hM
        have HKE : Hid _ := kE
        clear gE hM kE hO hI3 zu
        go_wp2_with fail
        refine bodyPost_ret (v := .agg #[.int .i64 1, .slice so (g.length + 1) sc, .slice va ls.length vc, .int .i64 0]) (results_cell_row (by rfl) _ _ (w.heap.size + 2) _ _ _ _ (by rfl) zE underMr rfl (by exact infoMr)) rfl ⟨_, rfl, HM.out, HKE.out⟩
theorem impl_MarkStep_ok (w : World) (ao ga ba : Option Addr) (cap gc bc : Nat) (zs gs bs : List Int) (ph at' n : Int) (hI : Ints w ao zs) (hl : zs.length ≤ 1048576) (hm : MkI w ga ba gc bc gs bs) (hgn : ga = none → gc = 0) (hbn : ba = none → bc = 0) (hn : -9223372036854775808 ≤ n ∧ n ≤ 9223372036854775807) :
    Calls Tryz.prog 15 #[.agg #[.slice ao zs.length cap], .agg (mrkV ph ga gs.length gc ba bs.length bc at'), .int .i64 n] w fun e w' => ∃ m, e = .returned m ∧ MkG w' w.heap.size m (stepC zs ph gs bs at' n).1 (stepC zs ph gs bs at' n).2.1 (stepC zs ph gs bs at' n).2.2 at' ∧ Kept w w' := by
  by_cases h : markR zs ph gs bs at' = true ∧ ph = 1
  · have e : stepC zs ph gs bs at' n = (stepPh (stepL zs n.toNat gs bs).1, stepL zs n.toNat gs bs) := if_pos h
    rw [e]
    obtain ⟨h1, rfl⟩ := h
    obtain rfl := (mark_one h1).2.1
    exact impl_MarkStep_yes w ao ga ba cap gc bc zs gs bs n hI hl hm hgn hn h1
  · have e : stepC zs ph gs bs at' n = (ph, gs, bs) := if_neg h
    rw [e]
    refine (impl_MarkStep_no w ao ga ba cap gc bc zs gs bs ph at' n hI hl hm hgn hbn h).mono ?_
    rintro e w' ⟨m, rfl, hM, hk⟩
    exact ⟨m, rfl, MkG.of hM, hk⟩
end Go.Proofs.YtpljjeknphnnpaaGreat
