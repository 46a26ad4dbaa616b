/-
  The contracts of meet and valuesAt (chapter 7's program).
-/
import Derived.Test.YtblonbdagidfjaaNumP
import Derived.Test.YtblonbdagidfjaaAppA
namespace Go.Proofs.Ytblonbdagidfjaa
open Go.RowKit Go.Maps
attribute [local go_sem] Plain.and7

set_option maxHeartbeats 8000000 in
set_option maxRecDepth 100000 in
theorem valuesAt_ok (w : World) (ao : Option Addr) (cap : Nat) (zs : List Int) (a : Int) (hI : Ints w ao zs) (hl : zs.length ≤ 1048576) (hh : heapR zs = true) (ha : 1 ≤ kindAt zs a) :
    Calls Try.prog 46 #[.slice ao zs.length cap, .int .i64 a] w fun e w' => ∃ v, e = .returned v ∧ OwnL w' w.heap.size v (slotV zs a) ∧ Kept w w' := by
  obtain ⟨i0, hi, hz0, hz1, hz2⟩ := info_parts infoI
  obtain ⟨n, en, hn, hg, esl, b, hbm, hbn⟩ := kind_nat ha
  have hls := leads_slots hh ha
  have hL : zs.length * 8 ≤ 140737488351232 := by omega
  have hgl := hg.le
  have hg2 := hg.sz2
  have hgk := hg.kd5
  have HV : Hid (slotV zs a = (slL n (kd zs n) (sz zs n)).map (fun j => hz zs j.toNat)) := by rw [Hid, slotV, esl]
  rw [esl] at hls
  obtain ⟨ss, hss⟩ : ∃ ss, slL n (kd zs n) (sz zs n) = ss := ⟨_, rfl⟩
  rw [hss] at HV hls
  have hml := hls.2.1
  have HLS : Hid (∀ i, i < ss.length → ∃ p : Nat, hz ss i = p ∧ p < zs.length) := hls.2.2
  have hRB := readBlock_good w ao cap zs n hI hg hL
  have hSO := fun (u : World) (hu : Kept w u) => slotsOf_ok u ao cap zs n (sz zs n) (kd zs n) (hI.kept hu) hl hgl hg2 hgk
  rw [hss] at hSO
  have HI : Hid (Ints w ao zs) := hI
  subst en
  clear hI hls hh ha esl hss
  go_enter Try.func46, Try.ntmps46
  go_wp2_with (first
    | (go_at_call 54; refine hRB.mono ?_; rintro e w1 ⟨rfl, hk1⟩; have kb : Kept w1 (w1.alloc (.cells (bkC n (sz zs n) (kd zs n)) 63)) := Kept.alloc (Below.refl _ _) _; have hS1 := hSO _ (hk1.trans kb); have k1 := hk1.trans kb; have hw1 := k1.size)
    | (go_at_call 69; refine hS1.mono ?_; rintro e w2 ⟨v2, rfl, hO2, hk2⟩; obtain ⟨sa, sc, rfl, hIs⟩ := hO2.ints; have k2 := k1.trans hk2))
  go_loopw [7, 20] (fun v i wr => ∃ (k : Nat), i = .int .i64 k ∧ k ≤ ss.length ∧ wr.ownsRow w2.heap.size 3 1 v ((ss.take k).map (fun j => hz zs j.toNat)).length (((ss.take k).map (fun j => hz zs j.toNat)).map (Value.int .i64)) ∧ Kept w2 wr ∧ w2.heap.size ≤ wr.heap.size)
    (fun _ i _ => ss.length - (intOf i).toNat)
  case atStart => exact ⟨0, rfl, Nat.zero_le _, ⟨by simp, .inl ⟨rfl, rfl⟩⟩, Below.refl _ _, Nat.le_refl _⟩
  case round =>
    obtain ⟨k, rfl, hk, hrow, hK, hsz⟩ := hrel
    have hln : ((ss.take k).map (fun j => hz zs j.toNat)).length = k := by simp; omega
    by_cases hlt : k < ss.length
    · obtain ⟨p, hp, hpl⟩ := HLS.out k hlt
      obtain ⟨b1, o1, rfl, hc1⟩ := Ints.at (hIs.kept hK) hlt
      have c1 := hc1 k hlt
      rw [hp] at c1
      obtain ⟨b2, o2, rfl, hc2⟩ := Ints.at (Ints.kept HI.out (k2.trans hK)) hpl
      have c2 := hc2 p hpl
      have q1 : (k : Int) < (ss.length : Int) := by omega
      have q0 : (0 : Int) ≤ (k : Int) := by omega
      have q2 : (p : Int) < (zs.length : Int) := by omega
      have q3 : (0 : Int) ≤ (p : Int) := by omega
      have HT : Hid ((ss.take (k + 1)).map (fun j => hz zs j.toNat) = (ss.take k).map (fun j => hz zs j.toNat) ++ [hz zs p]) := by rw [Hid, take_hz hlt, List.map_append, hp]; simp
      obtain ⟨xs, hxs⟩ : ∃ xs, (ss.take k).map (fun j => hz zs j.toNat) = xs := ⟨_, rfl⟩
      rw [hxs] at hrow hln HT
      have HK : Hid _ := hK
      clear hc1 hc2 hp hxs hK
      go_wp2_with (first | (at_builtin; refine wpList_append_own _ rfl _ _ 22 rfl w2.heap.size 3 i0 (.int .i64 0) 1 8 Try.underlying22 hi hz0 hz1 hz2 rfl (by decide) _ _ _ rfl (hrow.alloc _) ⟨wr.heap.size, 0, none⟩ 1 1 [.int .i64 (hz zs p)] rfl rfl (cell_one_new _ _ _) (by simp [Value.oneCell']) (by unfold maxLen; omega) (by omega) (by simp; omega) ?_; intro v' w5 hown' hgrow _; have kk : Below w2.heap.size wr w5 := ((Below.refl _ wr).alloc hsz _).grown hgrow (by simp; omega) (fun j ej => (hrow.lt j ej).1)))
      go_roundw
      case rel => exact ⟨k + 1, by go_num, by omega, by rw [HT.out]; simpa using hown', Below.trans HK.out (kk.mono (by omega)), Nat.le_trans hsz kk.size⟩
      case measure => simp [intOf]; omega
    · obtain rfl : k = ss.length := by omega
      have HK : Hid _ := hK
      rw [List.take_length] at hrow
      clear hK
      go_wp2
      go_ret
      refine ⟨_, rfl, ?_, k2.trans HK.out⟩
      rw [HV.out]
      refine ⟨fun z hz' => ?_, ownsRow_base hrow k2.size⟩
      obtain ⟨j, hj, rfl⟩ := List.mem_map.1 hz'
      obtain ⟨i, hi', ei⟩ := List.getElem_of_mem hj
      obtain ⟨p, hp, hpl⟩ := HLS.out i hi'
      have e1 : j = p := by rw [← hp, ← ei]; unfold hz; rw [List.getElem?_eq_getElem hi']; rfl
      rw [e1, Int.toNat_natCast]
      exact HI.out.1 _ (hz_mem hpl)
theorem _root_.Go.World.ownsRow.keptOld {W W' : World} {base : Nat} {e : TypeId} {size : Nat} {v : Value} {n b : Nat} {xs : List Value} (h : W.ownsRow base e size v n xs) (hg : W.grownBy W' (some b)) (hb : b < base) : W'.ownsRow base e size v n xs := by
  refine h.kept hg ?_
  cases hv : v.ownBlock with
  | none => exact .inl rfl
  | some j =>
    refine .inr (fun e => ?_)
    have := (h.lt j hv).1
    injection e with e
    omega
theorem _root_.Go.World.ownsRow.notOld {W : World} {base : Nat} {e : TypeId} {size : Nat} {v : Value} {n b : Nat} {xs : List Value} (h : W.ownsRow base e size v n xs) (hb : b < base) : some b ≠ v.ownBlock := by
  intro hv
  have := (h.lt b hv.symm).1
  omega
theorem _root_.Go.World.grownBy.self (w : World) (row : Option Nat) : w.grownBy w row := ⟨rfl, rfl, rfl, Nat.le_refl _, fun _ _ _ => rfl⟩
set_option maxHeartbeats 8000000 in
set_option maxRecDepth 100000 in
theorem meet_ok (w : World) (b : Nat) (va : Option Addr) (vc : Nat) (zs out vs : List Int) (hl : zs.length ≤ 1048576) (hN : NumMap w b out) (hM : Met zs out) (hI : Ints w va vs) (hvl : vs.length ≤ 1048576) (hLd : LeadsP zs vs) :
    Calls Try.prog 45 #[.map (some b), .slice va vs.length vc] w fun e w' => ∃ v, e = .returned v ∧ OwnL w' w.heap.size v (newsB out vs) ∧ NumMap w' b (meetL out vs) ∧ w.grownBy w' (some b) := by
  obtain ⟨i0, hi, hz0, hz1, hz2⟩ := info_parts infoI
  have hbw := hN.lt
  have HN0 : Hid (NumMap w b out) := hN
  have HI : Hid (Ints w va vs) := hI
  have HLd : Hid (LeadsP zs vs) := hLd
  have HM0 : Hid (Met zs out) := hM
  have hN0 : NumMap w b (meetL out (vs.take 0)) := by simpa [meetL] using hN
  have n0 : newsB out (vs.take 0) = [] := by simp [newsB, meetL]
  clear hN hI hLd hM
  go_enter Try.func45, Try.ntmps45
  go_wp2_with fail
  go_loopw [5, 13] (fun v i wr => ∃ (k : Nat), i = .int .i64 k ∧ k ≤ vs.length ∧ wr.ownsRow w.heap.size 3 1 v (newsB out (vs.take k)).length ((newsB out (vs.take k)).map (Value.int .i64)) ∧ NumMap wr b (meetL out (vs.take k)) ∧ w.grownBy wr (some b))
    (fun _ i _ => vs.length - (intOf i).toNat)
  case atStart => exact ⟨0, rfl, Nat.zero_le _, by rw [n0]; exact ⟨by simp, .inl ⟨rfl, rfl⟩⟩, hN0, World.grownBy.self _ _⟩
  case round =>
    obtain ⟨k, rfl, hk, hrow, hN, hG⟩ := hrel
    clear hN0 n0
    have hMk : Met zs (meetL out (vs.take k)) := HM0.out.meet (fun v hv => HLd.out.leads v (List.mem_of_mem_take hv))
    have hml := hMk.len
    have hnl : (newsB out (vs.take k)).length ≤ zs.length := by
      have := congrArg List.length (meetL_new out (vs.take k))
      rw [List.length_append] at this
      omega
    have hsz := hG.size
    by_cases hlt : k < vs.length
    · have hIr := Ints.past HI.out HN0.out hG
      obtain ⟨b1, o1, rfl, hc1⟩ := Ints.at hIr hlt
      have c1 := hc1 k hlt
      have hvb := HI.out.1 _ (hz_mem hlt)
      have hvL := HLd.out _ (hz_mem hlt)
      have HTk : Hid (vs.take (k + 1) = vs.take k ++ [hz vs k]) := take_hz hlt
      obtain ⟨v, hv⟩ : ∃ v, hz vs k = v := ⟨_, rfl⟩
      rw [hv] at c1 hvb hvL HTk
      have q1 : (k : Int) < (vs.length : Int) := by omega
      have q0 : (0 : Int) ≤ (k : Int) := by omega
      have HG : Hid (w.grownBy wr (some b)) := hG
      clear hv hc1 hIr hG
      have hKd := fun (u : World) => impl_Kind_ok v u
      have hNm := fun (u : World) => impl_Num_ok v u hvb.1 hvb.2
      have hLe := fun (u : World) => leads_ok (v % 8) u (by omega)
      by_cases h4 : v % 8 < 4
      · have hd : decide (4 ≤ v % 8) = false := by simp; omega
        rw [hd] at hLe
        have HS : Hid (newsB out (vs.take k ++ [v]) = newsB out (vs.take k) ∧ meetL out (vs.take k ++ [v]) = meetL out (vs.take k)) := by
          have hb : blkV v = -1 := by simp [blkV, h4]
          have hno : ¬ (0 ≤ blkV v ∧ blkV v ∉ meetL out (vs.take k)) := fun h => by rw [hb] at h; omega
          exact ⟨newsB_in hno, by rw [meetL_snoc, addB, if_neg hno]⟩
        clear hd h4 hNm
        go_wp2_with (first | (go_at_call 67; refine (hKd _).mono ?_; rintro e wx ⟨rfl, rfl⟩) | (go_at_call 66; refine (hLe _).mono ?_; rintro e wx ⟨rfl, rfl⟩))
        go_roundw
        case rel => exact ⟨k + 1, by go_num, by omega, by rw [HTk.out, HS.out.1]; exact hrow, by rw [HTk.out, HS.out.2]; exact hN, HG.out⟩
        case measure => simp [intOf]; omega
      · have hd : decide (4 ≤ v % 8) = true := by simp; omega
        rw [hd] at hLe
        have hbv : blkV v = v / 8 := by simp [blkV, h4]
        have hk1 := hvL h4
        obtain ⟨p, hp, hpl, _⟩ := kind_nat hk1
        rw [hp] at hbv hNm
        clear hp hk1
        obtain ⟨n, D, hown, hD, hn⟩ := hN
        have hhas := hD.has ((p : Int))
        by_cases hin : (p : Int) ∈ meetL out (vs.take k)
        · have HS : Hid (newsB out (vs.take k ++ [v]) = newsB out (vs.take k) ∧ meetL out (vs.take k ++ [v]) = meetL out (vs.take k)) := by
            have hno : ¬ (0 ≤ blkV v ∧ blkV v ∉ meetL out (vs.take k)) := fun h => by rw [hbv] at h; exact h.2 hin
            exact ⟨newsB_in hno, by rw [meetL_snoc, addB, if_neg hno]⟩
          have hh : Maps.has D (.int .i64 ((p : Int))) = true := by rw [hhas]; simpa using hin
          have HN : Hid (NumMap wr b (meetL out (vs.take k))) := ⟨n, D, hown, hD, hn⟩
          clear hd h4 hbv hhas hin hD hvL
          go_wp2_with (first | (go_at_call 67; refine (hKd _).mono ?_; rintro e wx ⟨rfl, rfl⟩) | (go_at_call 66; refine (hLe _).mono ?_; rintro e wx ⟨rfl, rfl⟩) | (go_at_call 68; refine (hNm _).mono ?_; rintro e wx ⟨rfl, rfl⟩) | (at_lookup; refine wpList_lookup_own_ok_int _ rfl _ _ 43 rfl 3 3 .i64 lawN Try.underlying43 Try.underlying3 (Try.zeroValue3 _) b n _ rfl hown _ _ rfl (keyOf_int_mk Try.underlying3 (WalkArith.wf_i64 (by omega))) ?_; intro c hat hwc; clear hat; rw [hh]))
          go_roundw
          case rel => exact ⟨k + 1, by go_num, by omega, by rw [HTk.out, HS.out.1]; exact hrow, by rw [HTk.out, HS.out.2]; exact HN.out, HG.out⟩
          case measure => simp [intOf]; omega
        · have HS : Hid (newsB out (vs.take k ++ [v]) = newsB out (vs.take k) ++ [(p : Int)] ∧ meetL out (vs.take k ++ [v]) = meetL out (vs.take k) ++ [(p : Int)]) := by
            have h0 : 0 ≤ blkV v := by rw [hbv]; omega
            have hni : blkV v ∉ meetL out (vs.take k) := by rw [hbv]; exact hin
            refine ⟨by rw [newsB_yes h0 hni, hbv], by rw [meetL_snoc, addB, if_pos ⟨h0, hni⟩, hbv]⟩
          have hh : Maps.has D (.int .i64 ((p : Int))) = false := by rw [hhas]; simpa using hin
          have HP : Hid (NumIs (D.put (.int .i64 ((p : Int))) (.lit (.int .i64 (meetL out (vs.take k)).length))) (meetL out (vs.take k) ++ [(p : Int)])) := hD.put (hown.tidy lawN) hin
          have hds := hD.size
          obtain ⟨cur, hcur⟩ : ∃ cur, meetL out (vs.take k) = cur := ⟨_, rfl⟩
          obtain ⟨nw, hnw⟩ : ∃ nw, newsB out (vs.take k) = nw := ⟨_, rfl⟩
          rw [hcur] at HP HS hds hn hml
          rw [hnw] at HS hrow hnl
          have HDS : Hid (Maps.size D = cur.length) := hds
          clear hd h4 hbv hhas hin hD hvL hMk hcur hnw hds
          go_wp2_with (first | (go_at_call 67; refine (hKd _).mono ?_; rintro e wx ⟨rfl, rfl⟩) | (go_at_call 66; refine (hLe _).mono ?_; rintro e wx ⟨rfl, rfl⟩) | (go_at_call 68; refine (hNm _).mono ?_; rintro e wx ⟨rfl, rfl⟩) | (at_lookup; refine wpList_lookup_own_ok_int _ rfl _ _ 43 rfl 3 3 .i64 lawN Try.underlying43 Try.underlying3 (Try.zeroValue3 _) b n _ rfl hown _ _ rfl (keyOf_int_mk Try.underlying3 (WalkArith.wf_i64 (by omega))) ?_; intro c hat hwc; clear hat; rw [hh]) | (at_len; refine wpList_len_own _ rfl _ 43 rfl 3 3 Try.underlying43 _ b n _ rfl hown ?_; rw [HDS.out]) | (at_mapUpdate; refine wpList_mapUpdate_own _ rfl _ _ _ 43 rfl 3 3 lawN Try.underlying43 _ b n _ rfl hown (by unfold maxLen; omega) _ _ _ rfl rfl (keyOf_int_mk Try.underlying3 (WalkArith.wf_i64 (by omega))) _ [] (plainElem_int Try.underlying3 (WalkArith.wf_i64 (by omega))) ?_; intro w2 hown2 hg2; have hrow2 := hrow.keptOld hg2 hbw; have hsz2 := hg2.size) | (at_builtin; refine wpList_append_own _ rfl _ _ 22 rfl w.heap.size 3 i0 (.int .i64 0) 1 8 Try.underlying22 hi hz0 hz1 hz2 rfl (by decide) _ _ _ rfl (hrow2.alloc _) ⟨w2.heap.size, 0, none⟩ 1 1 [.int .i64 ((p : Int))] rfl rfl (cell_one_new _ _ _) (by simp [Value.oneCell']) (by unfold maxLen; omega) (by omega) (by simp; omega) ?_; intro v' w5 hown' hgrow _))
          have hgr5 : w.grownBy w5 (some b) := ((HG.out.andThen hg2 (fun j hj => .inr hj)).andThen (World.grownBy_alloc w2 _ none) (fun j hj => by cases hj)).andThen hgrow (fun j ej => .inl (hrow2.lt j ej).1)
          have hN5 : NumMap w5 b (cur ++ [(p : Int)]) := ⟨n + 1, _, (hown2.alloc _).kept hgrow (hrow2.notOld hbw), HP.out, by simp; omega⟩
          go_roundw
          case rel =>
            refine ⟨k + 1, by go_num, by omega, ?_, ?_, hgr5⟩
            · rw [HTk.out, HS.out.1]; simpa using hown'
            · rw [HTk.out, HS.out.2]; exact hN5
          case measure => simp [intOf]; omega
    · obtain rfl : k = vs.length := by omega
      rw [List.take_length] at hrow hN hMk
      have HN : Hid (NumMap wr b (meetL out vs)) := hN
      have HG : Hid (w.grownBy wr (some b)) := hG
      have HB : Hid _ := hMk.bd hl
      clear hN hG
      go_wp2
      go_ret
      refine ⟨_, rfl, ⟨fun z hz => HB.out z ?_, hrow⟩, HN.out, HG.out⟩
      rw [meetL_new]
      exact List.mem_append_right _ hz
end Go.Proofs.Ytblonbdagidfjaa
