/-
  The contracts of chapter 7's models l7Block, l7In and l7Order.
-/
import Derived.Test.YtgnpllpinfhccaaGreatDoorRchP
import Derived.Test.YtgnpllpinfhccaaGreatDoorShapeQ
import Derived.Test.YtgnpllpinfhccaaGreatDoorHelpM
import Derived.Test.YtgnpllpinfhccaaGreatDoorSeq
import Derived.Deep.RegionHeld3
import Derived.Deep.AppendLies
namespace Go.Proofs.YtgnpllpinfhccaaGreatDoor
open Go.RowKit
attribute [local go_sem] Plain.and7

set_option maxHeartbeats 2000000 in
theorem l7Block_ok (v : Int) (w : World) : Calls Tryz.prog 61 #[.int .i64 v] w fun e w' => e = .returned (.int .i64 (blkV v)) ∧ w = w' := by
  by_cases h : v % 8 < 4
  · have HB : Hid (blkV v = -1) := by simp [Hid, blkV, h]
    go_enter Tryz.func61, Tryz.ntmps61
    go_wp2_with (first | (go_at_call 64; refine (spec_Kind_ok _ _).mono ?_; rintro e wx ⟨rfl, rfl⟩))
    go_ret
    exact ⟨by rw [HB.out]; rfl, rfl⟩
  · have HB : Hid (blkV v = v / 8) := by simp [Hid, blkV, h]
    go_enter Tryz.func61, Tryz.ntmps61
    go_wp2_with (first | (go_at_call 64; refine (spec_Kind_ok _ _).mono ?_; rintro e wx ⟨rfl, rfl⟩) | (go_at_call 65; refine (spec_Num_ok _ _).mono ?_; rintro e wx ⟨rfl, rfl⟩))
    go_ret
    exact ⟨by rw [HB.out]; rfl, rfl⟩
theorem hz_mem {l : List Int} {k : Nat} (h : k < l.length) : hz l k ∈ l := by
  unfold hz
  rw [List.getElem?_eq_getElem h]
  exact List.getElem_mem h
set_option maxHeartbeats 4000000 in
theorem l7In_ok (w : World) (ao : Option Addr) (cap : Nat) (l : List Int) (x : Int) (hI : Ints w ao l) (hl : l.length ≤ 1048576) :
    Calls Tryz.prog 62 #[.slice ao l.length cap, .int .i64 x] w fun e w' => e = .returned (.bool (decide (x ∈ l))) ∧ w = w' := by
  have HI : Hid _ := hI
  clear hI
  go_enter Tryz.func62, Tryz.ntmps62
  go_wp2_with fail
  go_loopw [5] (fun i wr => ∃ k : Nat, i = .int .i64 k ∧ k ≤ l.length ∧ (∀ j, j < k → hz l j ≠ x) ∧ wr = w) (fun i _ => l.length - (intOf i).toNat)
  case atStart => exact ⟨0, rfl, Nat.zero_le _, fun j hj => by omega, rfl⟩
  case round =>
    obtain ⟨k, rfl, hk, hno, rfl⟩ := hrel
    have HNo : Hid _ := hno
    clear hno
    by_cases hlt : k < l.length
    · obtain ⟨b, o, rfl, hc⟩ := Ints.at HI.out hlt
      have c1 := hc k hlt
      have q1 : (k : Int) < (l.length : Int) := by omega
      have q0 : (0 : Int) ≤ (k : Int) := by omega
      clear hc
      by_cases he : hz l k = x
      · have hm : x ∈ l := by rw [← he]; exact hz_mem hlt
        have HD : Hid (decide (x ∈ l) = true) := by simpa [Hid] using hm
        have hq : (hz l k == x) = true := by simpa using he
        clear hm he
        go_wp2_with fail
        go_ret
        exact ⟨by rw [HD.out]; rfl, rfl⟩
      · have hq : (hz l k == x) = false := by simpa using he
        have HE : Hid _ := he
        clear he
        go_wp2_with fail
        go_roundw
        case rel =>
          refine ⟨k + 1, by go_num, by omega, fun j hj => ?_, by trivial⟩
          rcases Nat.lt_or_ge j k with h | h
          · exact HNo.out j h
          · have : j = k := by omega
            subst this
            exact HE.out
        case measure => simp [intOf]; omega
    · obtain rfl : k = l.length := by omega
      have HD : Hid (decide (x ∈ l) = false) := by
        have : x ∉ l := fun hm => by
          obtain ⟨j, hj, e⟩ := List.getElem_of_mem hm
          exact HNo.out j hj (by unfold hz; rw [List.getElem?_eq_getElem hj]; exact e)
        simpa [Hid] using this
      go_wp2_with fail
      go_ret
      exact ⟨by rw [HD.out]; rfl, rfl⟩
theorem addB_yes {out : List Int} {a : Int} (h0 : 0 ≤ a) (h : decide (a ∈ out) = false) : addB out a = out ++ [a] := by
  unfold addB
  rw [if_pos ⟨h0, by simpa using h⟩]
theorem addB_in {out : List Int} {a : Int} (h : decide (a ∈ out) = true) : addB out a = out := by
  unfold addB
  rw [if_neg (fun hc => hc.2 (by simpa using h))]
theorem addB_no {out : List Int} {a : Int} (h : ¬ 0 ≤ a) : addB out a = out := by
  unfold addB
  rw [if_neg (fun hc => h hc.1)]
theorem addB_len (out : List Int) (a : Int) : out.length ≤ (addB out a).length := by
  unfold addB
  split <;> simp
theorem meetL_len : ∀ (vs out : List Int), out.length ≤ (meetL out vs).length
  | [], _ => Nat.le_refl _
  | v :: vs, out => Nat.le_trans (addB_len out (blkV v)) (meetL_len vs (addB out (blkV v)))
theorem take_hz {l : List Int} {k : Nat} (h : k < l.length) : l.take (k + 1) = l.take k ++ [hz l k] := by
  rw [List.take_succ_eq_append_getElem h]
  unfold hz
  rw [List.getElem?_eq_getElem h]
  rfl
theorem OwnL.snoc {W : World} {base : Nat} {v : Value} {l : List Int} {a : Int} (h0 : ∀ z ∈ l ++ [a], -9223372036854775808 ≤ z ∧ z ≤ 9223372036854775807) (h : W.ownsRow base 3 1 v (l.length + 1) (l.map (Value.int .i64) ++ [.int .i64 a])) : OwnL W base v (l ++ [a]) := by
  refine ⟨h0, ?_⟩
  rw [List.length_append, List.map_append]
  exact h
theorem Ints.far {W W' : World} {so : Option Addr} {l : List Int} {row : Option Nat} (h : Ints W so l) (hg : W.grownBy W' row) (hne : ∀ x, so = some x → row ≠ some x.block) : Ints W' so l := by
  refine ⟨h.1, ?_⟩
  rcases h.2 with h | ⟨b, off, rfl, hc⟩
  · exact .inl h
  · exact .inr ⟨b, off, rfl, fun j hj => (hg.cell_far ⟨b, off + j, none⟩ (World.block_lt_of_cell? _ _ (hc j hj)) (Ne.symm (hne ⟨b, off, none⟩ rfl))).trans (hc j hj)⟩
set_option maxHeartbeats 16000000 in
set_option maxRecDepth 100000 in
theorem l7Order_ok (w : World) (ao ro : Option Addr) (cap rc : Nat) (zs rs : List Int) (hI : Ints w ao zs) (hl : zs.length ≤ 1048576) (hR : Ints w ro rs) (hrl : rs.length ≤ 1048576) (hr : rootsR zs rs = true) :
    Calls Tryz.prog 37 #[.agg #[.slice ao zs.length cap], .slice ro rs.length rc] w fun e w' => ∃ v, e = .returned v ∧ OwnL w' w.heap.size v (ordL zs rs) ∧ Kept w w' := by
  obtain ⟨i0, hi, hz0, hz1, hz2⟩ := info_parts infoI
  have hh : heapR zs = true := by
    unfold rootsR at hr
    simp only [Bool.and_eq_true] at hr
    exact hr.1
  have HH : Hid _ := hh
  have HLR : Hid _ := leads_roots hr
  have HI : Hid _ := hI
  have HR : Hid _ := hR
  have b0 := (Cells.new w 26 #[.slice ao zs.length cap]).alloc (.cells #[] 3)
  have k0 : Kept w ((w.alloc (.cells #[.slice ao zs.length cap] 26)).alloc (.cells #[] 3)) := (Kept.alloc (Below.refl _ _) _).alloc _
  have o0 : OwnL ((w.alloc (.cells #[.slice ao zs.length cap] 26)).alloc (.cells #[] 3)) (w.heap.size + 1) (.slice (some ⟨w.heap.size + 1, 0, none⟩) 0 0) [] := by
    refine ⟨by simp, ?_⟩
    have := World.ownsRow_made (base := w.heap.size + 1) (e := 3) (size := 1) (w.alloc (.cells #[.slice ao zs.length cap] 26)) #[] 0 (by simp) (by unfold maxLen; omega) (by simp)
    simpa using this
  clear hr hh hI hR
  go_enter Tryz.func37, Tryz.ntmps37
  go_wp2_with fail
  go_loopw [5, 6] (fun v i wr => ∃ k : Nat, i = .int .i64 k ∧ k ≤ rs.length ∧ OwnL wr (w.heap.size + 1) v (meetL [] (rs.take k)) ∧ Cells wr w.heap.size 26 #[.slice ao zs.length cap] ∧ Kept w wr ∧ w.heap.size + 1 ≤ wr.heap.size)
    (fun _ i _ => rs.length - (intOf i).toNat)
  case atStart => exact ⟨0, rfl, Nat.zero_le _, by simpa [meetL] using o0, b0, k0, by simp⟩
  case round =>
    obtain ⟨k, rfl, hk, hO, hb, hK, hsz⟩ := hrel
    clear b0 k0 o0
    have HM : Hid (Met zs (meetL [] (rs.take k))) := Met.meet ⟨List.nodup_nil, by simp⟩ (fun v hv => HLR.out v (List.mem_of_mem_take hv))
    have hml := Met.len HM.out
    by_cases hlt : k < rs.length
    · have HT : Hid (meetL [] (rs.take (k + 1)) = addB (meetL [] (rs.take k)) (blkV (hz rs k))) := by rw [Hid, take_hz hlt, meetL_snoc]
      have HM2 : Hid (Met zs (meetL [] (rs.take (k + 1)))) := Met.meet ⟨List.nodup_nil, by simp⟩ (fun v hv => HLR.out v (List.mem_of_mem_take hv))
      obtain ⟨b1, o1, e1, hc1⟩ := Ints.at (Ints.kept HR.out hK) hlt
      have c1 := hc1 k hlt
      obtain ⟨out, hout⟩ : ∃ out, meetL [] (rs.take k) = out := ⟨_, rfl⟩
      rw [hout] at HT HM hml hO
      obtain ⟨va, vc, rfl, hIv⟩ := hO.ints
      have HO : Hid _ := hO
      have q1 : (k : Int) < (rs.length : Int) := by omega
      have q0 : (0 : Int) ≤ (k : Int) := by omega
      have hIn := l7In_ok wr va vc out (blkV (hz rs k)) hIv (by omega)
      have HK : Hid _ := hK
      obtain ⟨bv, hbv⟩ : ∃ bv, blkV (hz rs k) = bv := ⟨_, rfl⟩
      have hBk := fun (u : World) => l7Block_ok (hz rs k) u
      rw [hbv] at HT hIn hBk
      have hrow := hO.2
      have hlt' := fun j (ej : (Value.slice va out.length vc).ownBlock = some j) => (hrow.lt j ej).1
      subst e1
      clear hc1 hK hbv hout hO hIv
      by_cases h0 : (0 : Int) ≤ bv
      · have g0 : decide ((0 : Int) ≤ bv) = true := by simpa using h0
        cases hd : decide (bv ∈ out) with
        | true =>
          rw [hd] at hIn
          have HE : Hid _ := addB_in hd
          clear hd
          go_wp2_with (first | (go_at_call 61; refine (hBk _).mono ?_; rintro e wx ⟨rfl, rfl⟩) | (go_at_call 62; refine hIn.mono ?_; rintro e wx ⟨rfl, rfl⟩))
          go_roundw
          case rel => exact ⟨k + 1, by go_num, by omega, by rw [HT.out, HE.out]; exact HO.out, hb, HK.out, hsz⟩
          case measure => simp [intOf]; omega
        | false =>
          rw [hd] at hIn
          have HE : Hid _ := addB_yes h0 hd
          clear hd
          go_wp2_with (first | (go_at_call 61; refine (hBk _).mono ?_; rintro e wx ⟨rfl, rfl⟩) | (go_at_call 62; refine hIn.mono ?_; rintro e wx ⟨rfl, rfl⟩) | (at_builtin; refine wpList_append_own _ rfl _ _ 24 rfl (w.heap.size + 1) 3 i0 (.int .i64 0) 1 8 Tryz.underlying24 hi hz0 hz1 hz2 rfl (by decide) _ _ _ rfl (hrow.alloc _) ⟨wr.heap.size, 0, none⟩ 1 1 [.int .i64 bv] rfl rfl (cell_one_new _ _ _) (by simp [Value.oneCell']) (by unfold maxLen; omega) (by omega) (by simp; omega) ?_; intro v' w1 hown' hgrow _; have kk : Below (w.heap.size + 1) wr w1 := ((Below.refl _ wr).alloc hsz _).grown hgrow (by simp; omega) (fun j ej => hlt' j ej)))
          go_roundw
          case rel =>
            refine ⟨k + 1, by go_num, by omega, ?_, (kk.block w.heap.size (by omega)).trans hb, Below.trans HK.out (kk.mono (by omega)), Nat.le_trans hsz kk.size⟩
            have hbd := Met.bd HM2.out hl
            rw [HT.out, HE.out] at hbd ⊢
            exact OwnL.snoc hbd hown'
          case measure => simp [intOf]; omega
      · have g0 : decide ((0 : Int) ≤ bv) = false := by simpa using h0
        have HE : Hid _ := addB_no (out := out) h0
        clear hIn
        go_wp2_with (first | (go_at_call 61; refine (hBk _).mono ?_; rintro e wx ⟨rfl, rfl⟩))
        go_roundw
        case rel => exact ⟨k + 1, by go_num, by omega, by rw [HT.out, HE.out]; exact HO.out, hb, HK.out, hsz⟩
        case measure => simp [intOf]; omega
    · obtain rfl : k = rs.length := by omega
      rw [List.take_length] at HM hO hml
      have HOR : Hid (ordL zs rs = ordF zs (zs.length + 1 - 0) 0 (meetL [] rs)) := rfl
      obtain ⟨out0, hout⟩ : ∃ out, meetL [] rs = out := ⟨_, rfl⟩
      rw [hout] at HM hO hml HOR
      have HO : Hid _ := hO
      have HK : Hid _ := hK
      have Hb : Hid _ := hb
      have Hsz : Hid _ := hsz
      clear hout hO hK hb hsz
      go_wp2_with fail
      go_loopw [5, 8] (fun v i wr => ∃ (k : Nat) (out : List Int), i = .int .i64 k ∧ k ≤ out.length ∧ Met zs out ∧ ordL zs rs = ordF zs (zs.length + 1 - k) k out ∧ OwnL wr (w.heap.size + 1) v out ∧ Cells wr w.heap.size 26 #[.slice ao zs.length cap] ∧ Kept w wr ∧ w.heap.size + 1 ≤ wr.heap.size)
        (fun _ i _ => zs.length - (intOf i).toNat)
      case atStart => exact ⟨0, out0, rfl, Nat.zero_le _, HM.out, HOR.out, HO.out, Hb.out, HK.out, Hsz.out⟩
      case round =>
        obtain ⟨k, out, rfl, hk, hM, hOF, hO, hb, hK, hsz⟩ := hrel
        have hol := hM.len
        have HM : Hid _ := hM
        have HOF : Hid _ := hOF
        obtain ⟨va, vc, rfl, hIv⟩ := hO.ints
        have HO : Hid _ := hO
        by_cases hlt : k < out.length
        · have ek : out[k]? = some (hz out k) := by unfold hz; rw [List.getElem?_eq_getElem hlt]; rfl
          have hka := hM.2 _ (hz_mem hlt)
          obtain ⟨hLd, hsl, hsp⟩ := leads_slots HH.out hka
          obtain ⟨n, en, hn, hg, esl, _⟩ := kind_nat hka
          have HN : Hid (ordL zs rs = ordF zs (zs.length + 1 - (k + 1)) (k + 1) (meetL out (slotV zs (hz out k)))) := by
            rw [Hid, hOF, show zs.length + 1 - k = (zs.length + 1 - (k + 1)) + 1 by omega, ordF_on ek]
          have HLd : Hid _ := hLd
          have HSV : Hid (∀ i, i < (slotsL zs (hz out k)).length → hz (slotV zs (hz out k)) i = hz zs (hz (slotsL zs (hz out k)) i).toNat) := fun i hi => slotV_at hi
          have HSL : Hid ((slotV zs (hz out k)).length = (slotsL zs (hz out k)).length) := slotV_len _ _
          obtain ⟨b1, o1, e1, hc1⟩ := hIv.at hlt
          have c1 := hc1 k hlt
          rw [en] at c1
          have hL3 := fun (u : World) (hu : Kept w u) => l3Slots_ok u ao cap zs n (Ints.kept HI.out hu) hl hg
          rw [← esl] at hL3
          obtain ⟨sl, hsl0⟩ : ∃ sl, slotsL zs (hz out k) = sl := ⟨_, rfl⟩
          obtain ⟨sv, hsv0⟩ : ∃ sv, slotV zs (hz out k) = sv := ⟨_, rfl⟩
          rw [hsl0] at hL3 hsl HSV HSL hsp
          rw [hsv0] at HN HLd HSV HSL
          have HL3 : Hid _ := hL3
          have q1 : (k : Int) < (out.length : Int) := by omega
          have q0 : (0 : Int) ≤ (k : Int) := by omega
          have kd : Kept wr wr.drew := (Below.refl _ wr).drew
          have cb := (hb.kept kd).cell 0
          have lb1 : b1 < wr.heap.size := World.block_lt_of_cell? _ _ c1
          have cd := (kd.cell (p := ⟨b1, o1 + k, none⟩) lb1).trans c1
          have K2 := hK.trans kd
          subst e1
          have Hb : Hid _ := hb
          have HK : Hid _ := hK
          have HSP : Hid _ := hsp
          clear hc1 hM hOF hO hIv hka hLd en hg esl hsl0 hsv0 hL3 c1 hb hK ek hsp
          go_wp2_with fail
          go_region_held3 (fun w' => w'.cell? ⟨w.heap.size, 0, none⟩ = some (.slice ao zs.length cap) ∧ w'.cell? ⟨b1, o1 + k, none⟩ = some (.int .i64 (n : Int)))
            (first
              | exact ⟨by assumption, by assumption⟩
              | go_keep)
            (first
              | (go_at_call 63; refine (HL3.out _ K2).mono ?_; rintro e w3 ⟨v3, rfl, hO3, hk3⟩; have kx := kd.trans hk3; have cb3 := (Cells.kept Hb.out kx).cell 0; have cd3 := (hk3.cell (p := ⟨b1, o1 + k, none⟩) (by simpa using lb1)).trans cd; obtain ⟨so, sc, rfl, hI3⟩ := hO3.ints; have hbl3 := hO3.2.lt))
          all_goals (
            have O3 := OwnL.kept (row := none) HO.out (Kept.grown kx) (fun k e => by cases e)
            have b3 := Cells.kept Hb.out kx
            have K3 := Kept.trans HK.out kx
            have hs3 := kx.size
            have hvb : ∀ j, (Value.slice (some ⟨b1, o1, none⟩) out.length vc).ownBlock = some j → j < wr.heap.size := fun j e => by simp [Value.ownBlock] at e; omega
            have hso : ∀ x, so = some x → sl ≠ [] → wr.heap.size ≤ x.block ∧ x.block < w3.heap.size := fun x ex _ => by
              have := hbl3 x.block (by rw [ex]; rfl)
              simpa using this
            have HI3 : Hid _ := hI3
            have HO3 : Hid _ := O3
            have Hb3 : Hid _ := b3
            have HK3 : Hid _ := K3
            have Hso : Hid _ := hso
            have Hvb : Hid _ := hvb
            clear hI3 O3 b3 K3 hO3 hbl3 cb3 cd3 cb cd hso hvb kx kd K2
            go_wp2_with fail
            go_loopw [5, 10] (fun v i wr => ∃ j : Nat, i = .int .i64 j ∧ j ≤ sl.length ∧ OwnL wr (w.heap.size + 1) v (meetL out (sv.take j)) ∧ Ints wr so sl ∧ (∀ x, so = some x → sl ≠ [] → x.block < wr.heap.size ∧ v.ownBlock ≠ some x.block) ∧ Cells wr w.heap.size 26 #[.slice ao zs.length cap] ∧ Kept w wr ∧ w.heap.size + 1 ≤ wr.heap.size)
              (fun _ i _ => sl.length - (intOf i).toNat)
            case atStart => exact ⟨0, rfl, Nat.zero_le _, by rw [List.take_zero]; exact HO3.out, HI3.out, fun x ex hx => ⟨(Hso.out x ex hx).2, fun e => by have := Hvb.out _ e; have := (Hso.out x ex hx).1; omega⟩, Hb3.out, HK3.out, by omega⟩
            case round =>
              obtain ⟨j, rfl, hj, hO4, hI4, hso4, hb4, hK4, hsz4⟩ := hrel
              have HM4 : Hid (Met zs (meetL out (sv.take j))) := Met.meet HM.out (fun v hv => HLd.out v (List.mem_of_mem_take hv))
              have hml := Met.len HM4.out
              by_cases hlj : j < sl.length
              · obtain ⟨p, hp, hpl⟩ := HSP.out j hlj
                have evj : hz sv j = hz zs p := by rw [HSV.out j hlj, hp, Int.toNat_natCast]
                have hjv : j < sv.length := by rw [HSL.out]; exact hlj
                have HT : Hid (meetL out (sv.take (j + 1)) = addB (meetL out (sv.take j)) (blkV (hz zs p))) := by rw [Hid, take_hz hjv, meetL_snoc, evj]
                have HM5 : Hid (Met zs (meetL out (sv.take (j + 1)))) := Met.meet HM.out (fun v hv => HLd.out v (List.mem_of_mem_take hv))
                obtain ⟨b5, o5, e5, hc5⟩ := hI4.at hlj
                have c5 := hc5 j hlj
                rw [hp] at c5
                obtain ⟨b6, o6, e6, hc6⟩ := Ints.at (Ints.kept HI.out hK4) hpl
                have c6 := hc6 p hpl
                have l5 : b5 < wr.heap.size := World.block_lt_of_cell? _ _ c5
                have l6 : b6 < wr.heap.size := World.block_lt_of_cell? _ _ c6
                obtain ⟨out4, hout4⟩ : ∃ o, meetL out (sv.take j) = o := ⟨_, rfl⟩
                rw [hout4] at HT HM4 hml hO4
                obtain ⟨ua, uc, rfl, hIu⟩ := hO4.ints
                have HO4 : Hid _ := hO4
                have g1 : (j : Int) < (sl.length : Int) := by omega
                have g2 : (0 : Int) ≤ (j : Int) := by omega
                have g3 : (p : Int) < (zs.length : Int) := by omega
                have g4 : (0 : Int) ≤ (p : Int) := by omega
                have g5 : ((p : Int)).toNat = p := by omega
                have kd7 : ∀ u, Kept wr.drew u → Kept wr u := fun u hu => Kept.trans (Below.refl _ wr).drew hu
                have y0 : ∀ u, Kept wr.drew u → u.cell? ⟨w.heap.size, 0, none⟩ = some (.slice ao zs.length cap) := fun u hu => (hb4.kept (kd7 u hu)).cell 0
                have y1 : ∀ u, Kept wr.drew u → u.cell? ⟨b5, o5 + j, none⟩ = some (.int .i64 (p : Int)) := fun u hu => ((kd7 u hu).cell (p := ⟨b5, o5 + j, none⟩) l5).trans c5
                have y2 : ∀ u, Kept wr.drew u → u.cell? ⟨b6, o6 + p, none⟩ = some (.int .i64 (hz zs p)) := fun u hu => ((kd7 u hu).cell (p := ⟨b6, o6 + p, none⟩) l6).trans c6
                obtain ⟨bv, hbv⟩ : ∃ bv, blkV (hz zs p) = bv := ⟨_, rfl⟩
                have C1 : Hid (∀ u, Kept wr.drew u → Calls Tryz.prog 61 #[.int .i64 (hz zs p)] u fun e w' => e = .returned (.int .i64 bv) ∧ Kept u w') := fun u _ => calls_kept (by have := l7Block_ok (hz zs p) u; rw [hbv] at this; exact this)
                rw [hbv] at HT
                have HIu : Hid _ := hIu
                have HI4 : Hid _ := hI4
                have Hso4 : Hid _ := hso4
                have Hb4 : Hid _ := hb4
                have HK4 : Hid _ := hK4
                subst e5
                subst e6
                clear hc5 hc6 c5 c6 hout4 hbv hO4 hIu hI4 hso4 hb4 hK4 evj
                go_wp2_with fail
                refine wp_region_seqL (by kernel_rfl) (by kernel_rfl) ?_
                repeat (first
                  | (refine SeqL.skip (by rfl) ?_; simp only [Act.put, List.setIfInBounds_toArray, List.set_cons_zero, List.set_cons_succ])
                  | (refine SeqL.pure ?_ (by rfl) ?_ ?_; rotate_left; (focus (intro u hu; have y0' := y0 u hu; have y1' := y1 u hu; have y2' := y2 u hu; go_simp; first | done | exact rfl)); simp only [Act.put, List.setIfInBounds_toArray, List.set_cons_zero, List.set_cons_succ])
                  | (refine SeqL.call _ _ _ (by rfl) ?_ C1.out ?_; (focus (intro u; go_simp; done)); simp only [Act.put, List.setIfInBounds_toArray, List.set_cons_zero, List.set_cons_succ]))
                refine SeqL.nil ?_
                intro w5 hu5
                have k5 := kd7 w5 hu5
                have HO5 : Hid _ := OwnL.kept (row := none) HO4.out (Kept.grown k5) (fun k e => by cases e)
                have Hb5 : Hid _ := Cells.kept Hb4.out k5
                have HK5 : Hid _ := Kept.trans HK4.out k5
                have hs5 := k5.size
                have hIn := l7In_ok w5 ua uc out4 bv (Ints.kept HIu.out k5) (by omega)
                have HI5 : Hid _ := Ints.kept HI4.out k5
                have hrow := HO5.out.2
                have hrl5 := hrow.lt
                clear y0 y1 y2 C1 kd7
                by_cases h0 : (0 : Int) ≤ bv
                · have g0 : decide ((0 : Int) ≤ bv) = true := by simpa using h0
                  cases hd : decide (bv ∈ out4) with
                  | true =>
                    rw [hd] at hIn
                    have HE : Hid _ := addB_in hd
                    clear hd
                    go_wp2_with (first | (go_at_call 62; refine hIn.mono ?_; rintro e wx ⟨rfl, rfl⟩))
                    go_roundw
                    case rel => exact ⟨j + 1, by go_num, by omega, by rw [HT.out, HE.out]; exact HO5.out, HI5.out, fun x ex hx => ⟨by have := (Hso4.out x ex hx).1; omega, (Hso4.out x ex hx).2⟩, Hb5.out, HK5.out, by omega⟩
                    case measure => simp [intOf]; omega
                  | false =>
                    rw [hd] at hIn
                    have HE : Hid _ := addB_yes h0 hd
                    clear hd
                    go_wp2_with (first | (go_at_call 62; refine hIn.mono ?_; rintro e wx ⟨rfl, rfl⟩) | (at_builtin; refine wpList_append_lies _ rfl _ _ 24 rfl (w.heap.size + 1) 3 i0 (.int .i64 0) 1 8 Tryz.underlying24 hi hz0 hz1 hz2 rfl (by decide) _ _ _ rfl (hrow.alloc _) ⟨w5.heap.size, 0, none⟩ 1 1 [.int .i64 bv] rfl rfl (cell_one_new _ _ _) (by simp [Value.oneCell']) (by omega) (by unfold maxLen; omega) (by omega) (by simp; omega) (w5.heap.size + 1) (by simp) ?_; intro gg cg w6 hown' hgrow hat hlt6; have kk : Below (w.heap.size + 1) w5 w6 := ((Below.refl _ w5).alloc (by omega) _).grown hgrow (by simp; omega) (fun j ej => (hrl5 j ej).1)))
                    go_roundw
                    case rel =>
                      have hk6 := kk.size
                      refine ⟨j + 1, by go_num, by omega, ?_, ?_, fun x ex hx => ⟨by have := (Hso4.out x ex hx).1; omega, ?_⟩, (kk.block w.heap.size (by omega)).trans Hb5.out, Below.trans HK5.out (kk.mono (by omega)), by omega⟩
                      · have hbd := Met.bd HM5.out hl
                        rw [HT.out, HE.out] at hbd ⊢
                        exact OwnL.snoc hbd hown'
                      · refine Ints.far (Ints.kept HI5.out (Kept.alloc (Below.refl _ w5) _)) hgrow (fun x ex => ?_)
                        exact (Hso4.out x ex (fun e => by rw [e] at hlj; simp at hlj)).2
                      · have h1 := Hso4.out x ex hx
                        intro e
                        simp [Value.ownBlock] at e
                        rcases hat with h2 | h2
                        · exact h1.2 (by have h3 : (Value.slice ua out4.length uc).ownBlock = some gg := h2; rw [h3, e])
                        · omega
                    case measure => simp [intOf]; omega
                · have g0 : decide ((0 : Int) ≤ bv) = false := by simpa using h0
                  have HE : Hid _ := addB_no (out := out4) h0
                  clear hIn
                  go_wp2_with fail
                  go_roundw
                  case rel => exact ⟨j + 1, by go_num, by omega, by rw [HT.out, HE.out]; exact HO5.out, HI5.out, fun x ex hx => ⟨by have := (Hso4.out x ex hx).1; omega, (Hso4.out x ex hx).2⟩, Hb5.out, HK5.out, by omega⟩
                  case measure => simp [intOf]; omega
              · obtain rfl : j = sl.length := by omega
                rw [← HSL.out, List.take_length] at hO4
                have HO4 : Hid _ := hO4
                have HM6 : Hid (Met zs (meetL out sv)) := Met.meet HM.out HLd.out
                have HP6 : Hid (out.length ≤ (meetL out sv).length) := meetL_len _ _
                have Hb4 : Hid _ := hb4
                have HK4 : Hid _ := hK4
                clear hO4 hI4 hso4 hb4 hK4 HM4 hml
                go_wp2_with fail
                go_roundw
                case rel => exact ⟨k + 1, meetL out sv, by go_num, by have := HP6.out; omega, HM6.out, HN.out, HO4.out, Hb4.out, HK4.out, hsz4⟩
                case measure => simp [intOf]; omega)
        · obtain rfl : k = out.length := by omega
          have HE : Hid (ordL zs rs = out) := by rw [Hid, hOF, ordF_end (Nat.le_refl _)]
          have HK : Hid _ := hK
          clear hOF hIv hO hb hK hM
          go_wp2_with fail
          go_ret
          exact ⟨_, rfl, by rw [HE.out]; exact ⟨HO.out.1, ownsRow_base HO.out.2 (by omega)⟩, HK.out⟩
end Go.Proofs.YtgnpllpinfhccaaGreatDoor
