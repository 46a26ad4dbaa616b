/-
  Markers of one's own: l8Shade of them; the contract of chapter 8's model Start.
-/
import Derived.Test.YtblonbdagidfjaaMrkC
import Derived.Deep.RegionWith
import Derived.Deep.CutRange
namespace Go.Proofs.Ytblonbdagidfjaa
open Go.RowKit
attribute [local go_sem] Plain.and7

/-- A marker whose two lists are rows of one's own, apart from one another. -/
def MkO (W : World) (base : Nat) (v : Value) (ph : Int) (gs bs : List Int) (at' : Int) : Prop :=
  ∃ gv bv, v = .agg #[.int .i64 ph, gv, bv, .int .i64 at'] ∧ OwnL W base gv gs ∧ OwnL W base bv bs ∧ (∀ j, gv.ownBlock = some j → bv.ownBlock ≠ some j)
theorem MkO.kept {W W' : World} {base : Nat} {v : Value} {ph at' : Int} {gs bs : List Int} (h : MkO W base v ph gs bs at') (hk : Kept W W') : MkO W' base v ph gs bs at' := by
  obtain ⟨gv, bv, e, h1, h2, h3⟩ := h
  exact ⟨gv, bv, e, OwnL.kept (row := none) h1 hk.grown (fun k e => by cases e), OwnL.kept (row := none) h2 hk.grown (fun k e => by cases e), h3⟩
theorem MkO.far {W : World} {base : Nat} {v u : Value} {ph at' : Int} {gs bs : List Int} {p : Addr} (h : MkO W base v ph gs bs at') (hp : p.block < base) : MkO (W.setCell p u) base v ph gs bs at' := by
  obtain ⟨gv, bv, e, h1, h2, h3⟩ := h
  exact ⟨gv, bv, e, h1.far (fun j hj => by have := (h1.2.lt j hj).1; omega), h2.far (fun j hj => by have := (h2.2.lt j hj).1; omega), h3⟩
theorem MkO.base {W : World} {a b : Nat} {v : Value} {ph at' : Int} {gs bs : List Int} (h : MkO W b v ph gs bs at') (hab : a ≤ b) : MkO W a v ph gs bs at' := by
  obtain ⟨gv, bv, e, h1, h2, h3⟩ := h
  exact ⟨gv, bv, e, ⟨h1.1, ownsRow_base h1.2 hab⟩, ⟨h2.1, ownsRow_base h2.2 hab⟩, h3⟩
theorem l8Shade_ok (w : World) (base : Nat) (m : Value) (ph at' v : Int) (gs bs : List Int) (hm : MkO w base m ph gs bs at') (hgl : gs.length ≤ 1048576) (hbl : bs.length ≤ 1048576) (hbase : base ≤ w.heap.size) (hvb : -9223372036854775808 ≤ v ∧ v ≤ 9223372036854775807) :
    Calls Try.prog 30 #[m, .int .i64 v] w fun e w' => ∃ m', e = .returned m' ∧ MkO w' base m' ph (shadeL ph gs bs v) bs at' ∧ Below base w w' := by
  obtain ⟨gv, bv, rfl, h1, h2, h3⟩ := hm
  obtain ⟨ga, gc, rfl, hG⟩ := h1.ints
  obtain ⟨ba, bc, rfl, hB⟩ := h2.ints
  by_cases hc : ph = 1 ∧ 0 ≤ blkV v ∧ blkV v ∉ gs ∧ blkV v ∉ bs
  · obtain ⟨rfl, h0, hg, hb⟩ := hc
    refine (l8Shade_yes w base at' v ga ba gc bc gs bs h1 hB hgl hbl hbase hvb h0 hg hb).mono ?_
    rintro e w' ⟨g, c, rfl, ho, hgr, hat, hlt⟩
    have hbg : Below base w w' := ⟨hgr.os, hgr.tape, hgr.output, hgr.size, fun k hk => hgr.block k (by omega) (fun e => by have := (h1.2.lt k e.symm).1; omega)⟩
    refine ⟨_, rfl, ⟨_, _, rfl, ?_, OwnL.kept h2 hgr (fun k e j hj => fun ek => by subst ek; exact h3 _ e hj), ?_⟩, hbg⟩
    · have es : shadeL 1 gs bs v = gs ++ [blkV v] := if_pos ⟨rfl, h0, hg, hb⟩
      rw [es]
      exact ho
    · intro j hj e
      simp only [Value.ownBlock, Option.some.injEq] at hj
      subst hj
      rcases hat with h | h
      · exact h3 _ h e
      · have := (h2.2.lt _ e).2; omega
  · refine (l8Shade_no w ph at' v ga ba gc bc gs bs hG hB hgl hbl hc).mono ?_
    rintro e w' ⟨rfl, hk⟩
    have es : shadeL ph gs bs v = gs := if_neg hc
    rw [es]
    exact ⟨_, rfl, MkO.kept ⟨_, _, rfl, h1, h2, h3⟩ hk, hk.mono hbase⟩
theorem shade_add (gs : List Int) (v : Int) : shadeL 1 gs [] v = addB gs (blkV v) := by
  unfold shadeL addB
  simp
/-- What Start tells: the phase, and which are grey. -/
def startC (zs rs : List Int) : Int × List Int := if rootsR zs rs = true then (1, meetL [] rs) else (0, [])
set_option maxHeartbeats 16000000 in
set_option maxRecDepth 100000 in
theorem spec_Start_ok (w : World) (ao ro : Option Addr) (cap rc : Nat) (zs rs : List Int) (hI : Ints w ao zs) (hl : zs.length ≤ 1048576) (hR : Ints w ro rs) (hrl : rs.length ≤ 1048576) :
    Calls Try.prog 16 #[.agg #[.slice ao zs.length cap], .slice ro rs.length rc] w fun e w' => ∃ m, e = .returned m ∧ MkO w' w.heap.size m (startC zs rs).1 (startC zs rs).2 [] 0 ∧ Kept w w' := by
  have b0 := (Cells.new w 27 #[.slice ao zs.length cap]).alloc (.cells #[.int .i64 0, .slice none 0 0, .slice none 0 0, .int .i64 0] 36)
  have b1 := Cells.new (w.alloc (.cells #[.slice ao zs.length cap] 27)) 36 #[.int .i64 0, .slice none 0 0, .slice none 0 0, .int .i64 0]
  have k0 : Kept w ((w.alloc (.cells #[.slice ao zs.length cap] 27)).alloc (.cells #[.int .i64 0, .slice none 0 0, .slice none 0 0, .int .i64 0] 36)) := (Kept.alloc (Below.refl _ _) _).alloc _
  simp only [World.size_alloc] at b1
  have hRo := spec_RootsOk_ok _ ao ro cap rc zs rs (hI.kept k0) hl (hR.kept k0) hrl
  have c0 := b0.cell 0
  have nilO : ∀ (W : World) (B : Nat), OwnL W B (.slice none 0 0) [] := fun W B => ⟨by simp, World.ownsRow_nil _ _ _ _⟩
  cases hr : rootsR zs rs with
  | false =>
    have HC : Hid (startC zs rs = (0, [])) := by simp [Hid, startC, hr]
    rw [hr] at hRo
    clear hr hI hR
    go_enter Try.func16, Try.ntmps16
    go_wp2_with (go_at_call 24; refine hRo.mono ?_; rintro e w1 ⟨rfl, hk1⟩; have z1 := b1.kept hk1; have d0 := z1.cell 0; have d1 := z1.cell 1; have d2 := z1.cell 2; have d3 := z1.cell 3; have f0 := z1.frozen 0; have f1 := z1.frozen 1; have f2 := z1.frozen 2; have f3 := z1.frozen 3; have q := z1.four (.int .i64 0) (.slice none 0 0) (.slice none 0 0) (.int .i64 0); have q0 := q.cell 0; have q1 := q.cell 1; have q2 := q.cell 2; have q3 := q.cell 3)
    refine bodyPost_ret (v := .agg #[.int .i64 0, .slice none 0 0, .slice none 0 0, .int .i64 0]) (by simp [results, Try.results16, go_sem, q0, q1, q2, q3]) rfl ⟨_, rfl, ?_, ?_⟩
    · rw [HC.out]
      exact ⟨_, _, rfl, nilO _ _, nilO _ _, fun j hj => by simp [Value.ownBlock] at hj⟩
    · exact ((((k0.trans hk1).set (by simp) _).set (by simp) _).set (by simp) _).set (by simp) _
  | true =>
    have HC : Hid (startC zs rs = (1, meetL [] rs)) := by simp [Hid, startC, hr]
    rw [hr] at hRo
    have HLR : Hid _ := leads_roots hr
    have HR : Hid _ := hR
    clear hr hI hR
    go_enter Try.func16, Try.ntmps16
    go_wp2_with (go_at_call 24; refine hRo.mono ?_; rintro e w1 ⟨rfl, hk1⟩)
    have B5c := Cells.new w1 36 #[.int .i64 1, .slice none 0 0, .slice none 0 0, .int .i64 0]
    obtain ⟨WX, hWX⟩ : ∃ WX, w1.alloc (.cells #[.int .i64 1, .slice none 0 0, .slice none 0 0, .int .i64 0] 36) = WX := ⟨_, rfl⟩
    have kX : Kept w1 WX := by rw [← hWX]; exact Kept.alloc (Below.refl _ _) _
    have sX : WX.heap.size = w1.heap.size + 1 := by rw [← hWX]; simp
    rw [hWX] at B5c
    simp only [hWX]
    obtain ⟨B5, hB5⟩ : ∃ B5, w1.heap.size = B5 := ⟨_, rfl⟩
    rw [hB5] at B5c sX
    simp only [hB5]
    have HB5 : Hid (w1.heap.size = B5) := hB5
    have HK1 : Hid _ := k0.trans hk1
    have HZ1 : Hid _ := b1.kept hk1
    have HsX : Hid _ := sX
    have HBX : Hid _ := B5c
    have HkX : Hid _ := kX
    clear hRo hk1 b0 b1 k0 c0 hWX hB5 sX B5c kX
    go_loopw [6] (fun i wr => ∃ (k : Nat) (ga ba : Option Addr) (gc bc : Nat), i = .int .i64 k ∧ k ≤ rs.length ∧ Cells wr B5 36 #[.int .i64 1, .slice ga (meetL [] (rs.take k)).length gc, .slice ba 0 bc, .int .i64 0] ∧ MkO wr (B5 + 1) (.agg #[.int .i64 1, .slice ga (meetL [] (rs.take k)).length gc, .slice ba 0 bc, .int .i64 0]) 1 (meetL [] (rs.take k)) [] 0 ∧ Kept w1 wr ∧ B5 + 1 ≤ wr.heap.size) (fun i _ => rs.length - (intOf i).toNat)
    case atStart => exact ⟨0, none, none, 0, 0, rfl, Nat.zero_le _, HBX.out, ⟨_, _, rfl, nilO _ _, nilO _ _, fun j hj => by simp [Value.ownBlock] at hj⟩, HkX.out, by have := HsX.out; omega⟩
    case round =>
      obtain ⟨k, ga, ba, gc, bc, rfl, hk, hC, hM, hK, hsz⟩ := hrel
      have HMt : Hid (Met zs (meetL [] (rs.take k))) := Met.meet ⟨List.nodup_nil, by simp⟩ (fun v hv => HLR.out v (List.mem_of_mem_take hv))
      have hml := Met.len HMt.out
      by_cases hlt : k < rs.length
      · have HT : Hid (meetL [] (rs.take (k + 1)) = shadeL 1 (meetL [] (rs.take k)) [] (hz rs k)) := by rw [Hid, take_hz hlt, meetL_snoc, shade_add]
        have hvb := HR.out.1 _ (hz_mem hlt)
        obtain ⟨b5, o5, e5, hc5⟩ := Ints.at (Ints.kept HR.out (Kept.trans HK1.out hK)) hlt
        have c5 := hc5 k hlt
        have l5 : b5 < wr.heap.size := World.block_lt_of_cell? _ _ c5
        obtain ⟨gs, hgs⟩ : ∃ gs, meetL [] (rs.take k) = gs := ⟨_, rfl⟩
        rw [hgs] at HT hml hC hM
        have kd : Kept wr wr.drew := (Below.refl _ wr).drew
        have Yd := hC.kept kd
        have m0 := Yd.cell 0
        have m1 := Yd.cell 1
        have m2 := Yd.cell 2
        have m3 := Yd.cell 3
        have cr := (kd.cell (p := ⟨b5, o5 + k, none⟩) l5).trans c5
        have q1 : (k : Int) < (rs.length : Int) := by omega
        have q0 : (0 : Int) ≤ (k : Int) := by omega
        have hSh := l8Shade_ok wr.drew (B5 + 1) _ 1 0 (hz rs k) gs [] (hM.kept kd) (by omega) (by simp) (by simpa using hsz) hvb
        have HK : Hid _ := hK
        subst e5
        clear hc5 c5 hgs hC hM hvb hK
        go_wp2_with fail
        go_region_with (go_at_call 30; refine hSh.mono ?_; rintro e w5 ⟨m', rfl, hm', hb5⟩; obtain ⟨gv', bv', rfl, ho1, ho2, ho3⟩ := hm'; obtain ⟨ga', gc', rfl, _⟩ := ho1.ints; obtain ⟨ba', bc', rfl, _⟩ := ho2.ints; have y5 : Cells w5 B5 36 _ := (hb5.block B5 (by omega)).trans Yd; have d0 := y5.cell 0; have d1 := y5.cell 1; have d2 := y5.cell 2; have d3 := y5.cell 3; have f0 := y5.frozen 0; have f1 := y5.frozen 1; have f2 := y5.frozen 2; have f3 := y5.frozen 3)
        all_goals (
          have q := y5.four (.int .i64 1) (.slice ga' (shadeL 1 gs [] (hz rs k)).length gc') (.slice ba' 0 bc') (.int .i64 0)
          have hs5 := hb5.size
          have M5 : MkO w5 (B5 + 1) (.agg #[.int .i64 1, .slice ga' (shadeL 1 gs [] (hz rs k)).length gc', .slice ba' 0 bc', .int .i64 0]) 1 (shadeL 1 gs [] (hz rs k)) [] 0 := ⟨_, _, rfl, ho1, ho2, ho3⟩
          have K5 : Kept w1 w5 := Below.trans (Kept.trans HK.out kd) (hb5.mono (by have := HB5.out; omega))
          clear m0 m1 m2 m3 cr
          go_wp2_with fail
          go_roundw
          case rel =>
            refine ⟨k + 1, ga', ba', gc', bc', by go_num, by omega, ?_, ?_, ?_, by simpa using (Nat.le_trans (by simpa using hsz) hs5)⟩
            · rw [HT.out]; exact q
            · rw [HT.out]
              exact (((M5.far (p := ⟨B5, 0, none⟩) (by simp)).far (p := ⟨B5, 1, none⟩) (by simp)).far (p := ⟨B5, 2, none⟩) (by simp)).far (p := ⟨B5, 3, none⟩) (by simp)
            · have hB := HB5.out
              exact (((K5.set (p := ⟨B5, 0, none⟩) (by simp; omega) _).set (p := ⟨B5, 1, none⟩) (by simp; omega) _).set (p := ⟨B5, 2, none⟩) (by simp; omega) _).set (p := ⟨B5, 3, none⟩) (by simp; omega) _
          case measure => simp [intOf]; omega)
      · obtain rfl : k = rs.length := by omega
        rw [List.take_length] at hC hM
        have HM : Hid _ := hM
        have HK : Hid _ := hK
        have m0 := hC.cell 0
        have m1 := hC.cell 1
        have m2 := hC.cell 2
        have m3 := hC.cell 3
        have z := Cells.kept HZ1.out hK
        have d0 := z.cell 0
        have d1 := z.cell 1
        have d2 := z.cell 2
        have d3 := z.cell 3
        have f0 := z.frozen 0
        have f1 := z.frozen 1
        have f2 := z.frozen 2
        have f3 := z.frozen 3
        have q := z.four (.int .i64 1) (.slice ga (meetL [] rs).length gc) (.slice ba 0 bc) (.int .i64 0)
        have e0 := q.cell 0
        have e1 := q.cell 1
        have e2 := q.cell 2
        have e3 := q.cell 3
        clear hM hK
        go_wp2_with fail
        refine bodyPost_ret (v := .agg #[.int .i64 1, .slice ga (meetL [] rs).length gc, .slice ba 0 bc, .int .i64 0]) (by simp [results, Try.results16, go_sem, e0, e1, e2, e3]) rfl ⟨_, rfl, ?_, ?_⟩
        · rw [HC.out]
          have hB := HB5.out
          have hs1 := Below.size HK1.out
          have lz := Cells.lt HZ1.out
          exact MkO.base ((((MkO.far (p := ⟨w.heap.size + 1, 0, none⟩) HM.out (by simp; omega)).far (p := ⟨w.heap.size + 1, 1, none⟩) (by simp; omega)).far (p := ⟨w.heap.size + 1, 2, none⟩) (by simp; omega)).far (p := ⟨w.heap.size + 1, 3, none⟩) (by simp; omega)) (by omega)
        · have KK := Kept.trans HK1.out HK.out
          exact (((KK.set (p := ⟨w.heap.size + 1, 0, none⟩) (by simp) _).set (p := ⟨w.heap.size + 1, 1, none⟩) (by simp) _).set (p := ⟨w.heap.size + 1, 2, none⟩) (by simp) _).set (p := ⟨w.heap.size + 1, 3, none⟩) (by simp) _
end Go.Proofs.Ytblonbdagidfjaa
