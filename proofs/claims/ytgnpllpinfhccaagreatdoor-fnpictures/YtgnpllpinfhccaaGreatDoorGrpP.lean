/-
  The contracts of chapter 8's models l8Places and l8Insert.
  Facts on lists: when a marker is right (chapter 8).
  The contract of chapter 8's model l8Swept.
  The contract of chapter 8's model MarkerOk.
  The contract of chapter 8's model TriOk.
-/
import Derived.Laws.AppendOwnNone
import Derived.Deep.RegionHeld3
import Derived.Deep.CutRange
import Derived.Test.YtgnpllpinfhccaaGreatDoorGrpB
import Derived.Test.YtgnpllpinfhccaaGreatDoorZShapeO
import Derived.Test.YtgnpllpinfhccaaGreatDoorZShapeB
import Derived.Test.YtgnpllpinfhccaaGreatDoorZShapeQ
namespace Go.Proofs.YtgnpllpinfhccaaGreatDoor
open Go.RowKit
attribute [local go_sem] Plain.and7

def plAt (zs l : List Int) (i : Nat) : Bool := decide (1 ≤ kindAt zs (hz l i)) && !decide (hz l i ∈ l.take i)
def placesR (zs l : List Int) : Bool := allR (plAt zs l) l.length
theorem hz_get {l : List Int} {i : Nat} (h : i < l.length) : hz l i = l[i] := by unfold hz; rw [List.getElem?_eq_getElem h]; rfl
theorem places_iff {zs l : List Int} : placesR zs l = true ↔ Met zs l := by
  unfold placesR
  rw [allR_iff]
  constructor
  · intro h
    refine ⟨List.pairwise_iff_getElem.2 fun i j hi hj hij e => ?_, fun a ha => ?_⟩
    · have := h j hj
      unfold plAt at this
      simp only [Bool.and_eq_true, Bool.not_eq_true', decide_eq_false_iff_not] at this
      refine this.2 ?_
      rw [hz_get hj, ← e]
      exact List.mem_take_iff_getElem.2 ⟨i, by omega, rfl⟩
    · obtain ⟨i, hi, e⟩ := List.getElem_of_mem ha
      have := h i hi
      unfold plAt at this
      simp only [Bool.and_eq_true, decide_eq_true_eq] at this
      rw [hz_get hi, e] at this
      exact this.1
  · intro h i hi
    unfold plAt
    simp only [Bool.and_eq_true, Bool.not_eq_true', decide_eq_true_eq, decide_eq_false_iff_not]
    refine ⟨h.2 _ (hz_mem hi), fun hm => ?_⟩
    obtain ⟨j, hj, e⟩ := List.mem_take_iff_getElem.1 hm
    rw [hz_get hi] at e
    have := List.pairwise_iff_getElem.1 h.1 j i (by omega) hi (by omega)
    exact this e
theorem isAt_kind {zs : List Int} {x : Int} (h : isAt zs x = true) : ∃ p : Nat, x = p ∧ p < zs.length ∧ kindAt zs x = hz zs p % 8 := by
  unfold isAt at h
  cases hb : atB zs x with
  | none => rw [hb] at h; cases h
  | some b =>
    obtain ⟨_, e, hg, _, hk, _⟩ := atB_some hb
    refine ⟨b.1.at', e.symm, hg.lt, ?_⟩
    unfold kindAt
    rw [hb, ← kdI, ← hk]
theorem isAt_no {zs : List Int} {x : Int} (h : isAt zs x = false) : ¬ 1 ≤ kindAt zs x := by
  unfold isAt at h
  cases hb : atB zs x with
  | none => unfold kindAt; rw [hb]; simp
  | some b => rw [hb] at h; cases h
theorem placesR_no {zs l : List Int} {k : Nat} (hk : k < l.length) (h : plAt zs l k = false) : placesR zs l = false := by
  cases hp : placesR zs l with
  | false => rfl
  | true =>
    have := allR_iff.1 hp k hk
    rw [h] at this
    cases this
set_option maxHeartbeats 16000000 in
set_option maxRecDepth 100000 in
theorem l8Places_ok (w : World) (ao ro : Option Addr) (cap rc : Nat) (zs l : List Int) (hI : Ints w ao zs) (hl : zs.length ≤ 1048576) (hok : slabOk zs = true) (hR : Ints w ro l) (hrl : l.length ≤ 1048576) (hrc : l.length ≤ rc) :
    Calls Tryz.prog 183 #[.agg #[.slice ao zs.length cap], .slice ro l.length rc] w fun e w' => e = .returned (.bool (placesR zs l)) ∧ Kept w w' := by
  have b0 := Cells.new w 26 #[.slice ao zs.length cap]
  have k0 : Kept w (w.alloc (.cells #[.slice ao zs.length cap] 26)) := Kept.alloc (Below.refl _ _) _
  have HI : Hid _ := hI
  have HR : Hid _ := hR
  have HO : Hid _ := hok
  clear hI hR hok
  go_enter Tryz.func183, Tryz.ntmps183
  go_wp2_with fail
  obtain ⟨WX, hWX⟩ : ∃ WX, w.alloc (.cells #[.slice ao zs.length cap] 26) = WX := ⟨_, rfl⟩
  rw [hWX] at b0 k0
  simp only [hWX]
  clear hWX
  have HbX : Hid _ := b0
  have HKX : Hid _ := k0
  clear b0 k0
  go_loopw [5] (fun i wr => ∃ k : Nat, i = .int .i64 k ∧ k ≤ l.length ∧ (∀ j, j < k → plAt zs l j = true) ∧ Kept WX wr) (fun i _ => l.length - (intOf i).toNat)
  case atStart => exact ⟨0, rfl, Nat.zero_le _, fun j hj => by omega, Below.refl _ _⟩
  case round =>
    obtain ⟨k, rfl, hk, hyes, hKX⟩ := hrel
    have HY : Hid _ := hyes
    clear hyes
    by_cases hlt : k < l.length
    · obtain ⟨b5, o5, e5, hc5⟩ := Ints.at (Ints.kept HR.out (Kept.trans HKX.out hKX)) hlt
      have c5 := hc5 k hlt
      have l5 : b5 < wr.heap.size := World.block_lt_of_cell? _ _ c5
      obtain ⟨x, hx⟩ : ∃ x, hz l k = x := ⟨_, rfl⟩
      rw [hx] at c5
      have hpl : plAt zs l k = (decide (1 ≤ kindAt zs x) && !decide (x ∈ l.take k)) := by unfold plAt; rw [hx]
      have HPl : Hid _ := hpl
      have hltk : (l.take k).length = k := by rw [List.length_take]; omega
      have HTK : Hid (Ints WX ro (l.take k)) := by
        refine ⟨fun z hz' => HR.out.1 z (List.mem_of_mem_take hz'), ?_⟩
        rcases (Ints.kept HR.out HKX.out).2 with h | ⟨b, o, e, hc⟩
        · left; rw [h]; simp
        · refine .inr ⟨b, o, e, fun j hj => ?_⟩
          rw [hltk] at hj
          rw [hc j (by omega)]
          congr 2
          unfold hz
          rw [List.getElem?_take_of_lt hj]
      have kd7 : ∀ u, Kept wr.drew u → Kept wr u := fun u hu => Kept.trans (Below.refl _ wr).drew hu
      have y0 : ∀ u, Kept wr.drew u → u.cell? ⟨w.heap.size, 0, none⟩ = some (.slice ao zs.length cap) := fun u hu => (Cells.kept HbX.out (Kept.trans hKX (kd7 u hu))).cell 0
      have y1 : ∀ u, Kept wr.drew u → u.cell? ⟨b5, o5 + k, none⟩ = some (.int .i64 x) := fun u hu => ((kd7 u hu).cell (p := ⟨b5, o5 + k, none⟩) l5).trans c5
      have KW : ∀ u, Kept wr.drew u → Kept w u := fun u hu => Kept.trans HKX.out (Kept.trans hKX (kd7 u hu))
      have HKW : Hid _ := KW
      have HKx : Hid (∀ u, Kept wr.drew u → Kept WX u) := fun u hu => Kept.trans hKX (kd7 u hu)
      have q1 : (k : Int) < (l.length : Int) := by omega
      have q0 : (0 : Int) ≤ (k : Int) := by omega
      have q2 : (k : Int) ≤ (rc : Int) := by omega
      have q3 : k ≤ rc := by omega
      have q4 : (k : Int) ≤ (l.length : Int) := by omega
      have hlk : (l.take k).length ≤ 1048576 := by omega
      subst e5
      clear hc5 c5 hx hpl KW
      cases hi : isAt zs x with
      | false =>
        have C1 : Hid (∀ u, Kept wr.drew u → Calls Tryz.prog 111 #[.agg #[.slice ao zs.length cap], .int .i64 x] u fun e w' => e = .returned (.bool false) ∧ Kept u w') := fun u hu => by have := l2Is_ok u ao cap zs x (Ints.kept HI.out (HKW.out u hu)) (by omega) HO.out; rw [hi] at this; exact this
        have HNo : Hid (placesR zs l = false) := placesR_no hlt (by rw [HPl.out]; simp [isAt_no hi])
        have HKr : Hid _ := hKX
        clear hi hltk hKX
        go_wp2_with fail
        refine wp_region_seqL (by kernel_rfl) (by kernel_rfl) ?_
        repeat (first
          | (refine SeqL.skip (by rfl) ?_; simp only [Act.put, List.setIfInBounds_toArray, List.set_cons_zero, List.set_cons_succ])
          | (refine SeqL.pure ?_ (by rfl) ?_ ?_; rotate_left; (focus (intro u hu; have y0' := y0 u hu; have y1' := y1 u hu; go_simp; first | done | exact rfl)); simp only [Act.put, List.setIfInBounds_toArray, List.set_cons_zero, List.set_cons_succ])
          | (refine SeqL.call _ _ _ (by rfl) ?_ C1.out ?_; (focus (intro u; go_simp; done)); simp only [Act.put, List.setIfInBounds_toArray, List.set_cons_zero, List.set_cons_succ]))
        refine SeqL.nil ?_
        intro w5 hu5
        have K5 := HKW.out w5 hu5
        clear y0 y1 C1 kd7
        go_wp2_with fail
        go_ret
        exact ⟨by rw [HNo.out]; rfl, K5⟩
      | true =>
        obtain ⟨p, rfl, hpl, hkd⟩ := isAt_kind hi
        have C1 : Hid (∀ u, Kept wr.drew u → Calls Tryz.prog 111 #[.agg #[.slice ao zs.length cap], .int .i64 (p : Int)] u fun e w' => e = .returned (.bool true) ∧ Kept u w') := fun u hu => by have := l2Is_ok u ao cap zs (p : Int) (Ints.kept HI.out (HKW.out u hu)) (by omega) HO.out; rw [hi] at this; exact this
        obtain ⟨b6, o6, e6, hc6⟩ := Ints.at HI.out hpl
        have c6 := hc6 p hpl
        have l6 : b6 < w.heap.size := World.block_lt_of_cell? _ _ c6
        have y2 : ∀ u, Kept wr.drew u → u.cell? ⟨b6, o6 + p, none⟩ = some (.int .i64 (hz zs p)) := fun u hu => ((HKW.out u hu).cell (p := ⟨b6, o6 + p, none⟩) l6).trans c6
        have C2 : Hid (∀ u, Kept wr.drew u → Calls Tryz.prog 67 #[.int .i64 (hz zs p)] u fun e w' => e = .returned (.int .i64 (hz zs p % 8)) ∧ Kept u w') := fun u _ => calls_kept (l2Kind_ok (hz zs p) u)
        have g3 : (p : Int) < (zs.length : Int) := by omega
        have g4 : (0 : Int) ≤ (p : Int) := by omega
        have g5 : ((p : Int)).toNat = p := by omega
        subst e6
        clear hc6 c6 hi
        by_cases hk0 : hz zs p % 8 = 0
        · have hd : (hz zs p % 8 == 0) = true := by simpa using hk0
          have HNo : Hid (placesR zs l = false) := placesR_no hlt (by rw [HPl.out, hkd, hk0]; simp)
          clear hk0 hkd hltk hKX
          go_wp2_with fail
          refine wp_region_seqL (by kernel_rfl) (by kernel_rfl) ?_
          repeat (first
            | (refine SeqL.skip (by rfl) ?_; simp only [Act.put, List.setIfInBounds_toArray, List.set_cons_zero, List.set_cons_succ])
            | (refine SeqL.pure ?_ (by rfl) ?_ ?_; rotate_left; (focus (intro u hu; have y0' := y0 u hu; have y1' := y1 u hu; have y2' := y2 u hu; go_simp; first | done | exact rfl)); simp only [Act.put, List.setIfInBounds_toArray, List.set_cons_zero, List.set_cons_succ])
            | (refine SeqL.call _ _ _ (by rfl) ?_ C1.out ?_; (focus (intro u; go_simp; done)); simp only [Act.put, List.setIfInBounds_toArray, List.set_cons_zero, List.set_cons_succ])
            | (refine SeqL.call _ _ _ (by rfl) ?_ C2.out ?_; (focus (intro u; go_simp; done)); simp only [Act.put, List.setIfInBounds_toArray, List.set_cons_zero, List.set_cons_succ]))
          refine SeqL.nil ?_
          intro w5 hu5
          have K5 := HKW.out w5 hu5
          clear y0 y1 y2 C1 C2 kd7
          go_wp2_with fail
          go_ret
          exact ⟨by rw [HNo.out]; rfl, K5⟩
        · have hd : (hz zs p % 8 == 0) = false := by simpa using hk0
          have hk1 : decide (1 ≤ kindAt zs (p : Int)) = true := by rw [hkd]; simp; omega
          obtain ⟨r, hr⟩ : ∃ r, decide ((p : Int) ∈ l.take k) = r := ⟨_, rfl⟩
          have HPl2 : Hid (plAt zs l k = !r) := by rw [Hid, HPl.out, hk1, hr]; simp
          have C3 : Hid (∀ u, Kept wr.drew u → Calls Tryz.prog 62 #[.slice (some ⟨b5, o5, none⟩) k rc, .int .i64 (p : Int)] u fun e w' => e = .returned (.bool r) ∧ Kept u w') := fun u hu => by
            have := l7In_ok u (some ⟨b5, o5, none⟩) rc (l.take k) (p : Int) (Ints.kept HTK.out (HKx.out u hu)) hlk
            rw [hltk, hr] at this
            exact calls_kept this
          have HKr : Hid _ := hKX
          clear hk0 hkd hltk hKX hk1 hr
          cases r with
          | true =>
            have HNo : Hid (placesR zs l = false) := placesR_no hlt HPl2.out
            go_wp2_with fail
            refine wp_region_seqL (by kernel_rfl) (by kernel_rfl) ?_
            repeat (first
              | (refine SeqL.skip (by rfl) ?_; simp only [Act.put, List.setIfInBounds_toArray, List.set_cons_zero, List.set_cons_succ])
              | (refine SeqL.pure ?_ (by rfl) ?_ ?_; rotate_left; (focus (intro u hu; have y0' := y0 u hu; have y1' := y1 u hu; have y2' := y2 u hu; go_simp; first | done | exact rfl)); simp only [Act.put, List.setIfInBounds_toArray, List.set_cons_zero, List.set_cons_succ])
              | (refine SeqL.call _ _ _ (by rfl) ?_ C1.out ?_; (focus (intro u; go_simp; done)); simp only [Act.put, List.setIfInBounds_toArray, List.set_cons_zero, List.set_cons_succ])
              | (refine SeqL.call _ _ _ (by rfl) ?_ C2.out ?_; (focus (intro u; go_simp; done)); simp only [Act.put, List.setIfInBounds_toArray, List.set_cons_zero, List.set_cons_succ])
              | (refine SeqL.call _ _ _ (by rfl) ?_ C3.out ?_; (focus (intro u; go_simp; done)); simp only [Act.put, List.setIfInBounds_toArray, List.set_cons_zero, List.set_cons_succ]))
            refine SeqL.nil ?_
            intro w5 hu5
            have K5 := HKW.out w5 hu5
            clear y0 y1 y2 C1 C2 C3 kd7
            go_wp2_with fail
            go_ret
            exact ⟨by rw [HNo.out]; rfl, K5⟩
          | false =>
            go_wp2_with fail
            refine wp_region_seqL (by kernel_rfl) (by kernel_rfl) ?_
            repeat (first
              | (refine SeqL.skip (by rfl) ?_; simp only [Act.put, List.setIfInBounds_toArray, List.set_cons_zero, List.set_cons_succ])
              | (refine SeqL.pure ?_ (by rfl) ?_ ?_; rotate_left; (focus (intro u hu; have y0' := y0 u hu; have y1' := y1 u hu; have y2' := y2 u hu; go_simp; first | done | exact rfl)); simp only [Act.put, List.setIfInBounds_toArray, List.set_cons_zero, List.set_cons_succ])
              | (refine SeqL.call _ _ _ (by rfl) ?_ C1.out ?_; (focus (intro u; go_simp; done)); simp only [Act.put, List.setIfInBounds_toArray, List.set_cons_zero, List.set_cons_succ])
              | (refine SeqL.call _ _ _ (by rfl) ?_ C2.out ?_; (focus (intro u; go_simp; done)); simp only [Act.put, List.setIfInBounds_toArray, List.set_cons_zero, List.set_cons_succ])
              | (refine SeqL.call _ _ _ (by rfl) ?_ C3.out ?_; (focus (intro u; go_simp; done)); simp only [Act.put, List.setIfInBounds_toArray, List.set_cons_zero, List.set_cons_succ]))
            refine SeqL.nil ?_
            intro w5 hu5
            have K5 := HKx.out w5 hu5
            clear y0 y1 y2 C1 C2 C3 kd7
            go_wp2_with fail
            go_roundw
            case rel =>
              refine ⟨k + 1, by go_num, by omega, fun j hj => ?_, K5⟩
              rcases Nat.lt_or_ge j k with h | h
              · exact HY.out j h
              · have : j = k := by omega
                subst this
                exact HPl2.out
            case measure => simp [intOf]; omega
    · obtain rfl : k = l.length := by omega
      have HYes : Hid (placesR zs l = true) := allR_iff.2 HY.out
      have HKr : Hid _ := hKX
      clear hKX
      go_wp2_with fail
      go_ret
      exact ⟨by rw [HYes.out]; rfl, Kept.trans HKX.out HKr.out⟩
end Go.Proofs.YtgnpllpinfhccaaGreatDoor
namespace Go.Proofs.YtgnpllpinfhccaaGreatDoor
open Go.RowKit

def passB (bs : List Int) (at' : Int) (a kind : Nat) : Bool := decide (at' ≤ (a : Int)) || decide (kind = 0) || decide ((a : Int) ∈ bs)
def passR (zs bs : List Int) (at' : Int) : Bool := (blocks zs).all (fun b => passB bs at' b.1.at' b.1.kind)
def Passed (zs bs : List Int) (at' : Int) (k : Nat) : Prop := ∃ pre, pre ++ blks zs k = blocks zs ∧ (∀ b ∈ pre, b.1.at' + b.1.size ≤ k) ∧ ∀ b ∈ pre, passB bs at' b.1.at' b.1.kind = true
theorem Passed.zero (zs bs : List Int) (at' : Int) : Passed zs bs at' 0 := ⟨[], rfl, by simp, by simp⟩
theorem Passed.next {zs bs : List Int} {at' : Int} {k : Nat} (h : Passed zs bs at' k) (hg : Good zs k) (hp : passB bs at' k (kd zs k) = true) : Passed zs bs at' (k + sz zs k) := by
  obtain ⟨pre, h1, h2, h3⟩ := h
  have hs2 := hg.sz2
  refine ⟨pre ++ [⟨⟨k, sz zs k, kd zs k⟩, hg.sz2, hg.le, hg.kd5⟩], ?_, fun b hb => ?_, fun b hb => ?_⟩
  · rw [← h1, blks_yes hg, List.append_assoc]; rfl
  · rcases List.mem_append.1 hb with h | h
    · have := h2 b h; omega
    · simp at h; subst h; exact Nat.le_refl _
  · rcases List.mem_append.1 hb with h | h
    · exact h3 b h
    · simp at h; subst h; exact hp
theorem blks_from (zs : List Int) : ∀ (k : Nat), ∀ b ∈ blks zs k, k ≤ b.1.at' := by
  intro k
  refine blks_ind zs (P := fun k => ∀ b ∈ blks zs k, k ≤ b.1.at') (fun k hg ih b hb => ?_) (fun k hg b hb => ?_) k
  · rw [blks_yes hg] at hb
    rcases List.mem_cons.1 hb with rfl | h
    · exact Nat.le_refl _
    · have := ih b h; omega
  · rw [blks_no hg] at hb; simp at hb
theorem Passed.ends {zs bs : List Int} {at' : Int} {k : Nat} (h : Passed zs bs at' k) (hk : at' ≤ (k : Int)) : passR zs bs at' = true := by
  obtain ⟨pre, h1, _, h3⟩ := h
  unfold passR
  rw [← h1, List.all_append, Bool.and_eq_true, List.all_eq_true, List.all_eq_true]
  refine ⟨h3, fun b hb => ?_⟩
  have := blks_from zs k b hb
  unfold passB
  have hd : decide (at' ≤ (b.1.at' : Int)) = true := by simp; omega
  rw [hd]
  rfl
theorem Passed.fails {zs bs : List Int} {at' : Int} {k : Nat} (h : Passed zs bs at' k) (hg : Good zs k) (hp : passB bs at' k (kd zs k) = false) : passR zs bs at' = false := by
  obtain ⟨pre, h1, _, _⟩ := h
  cases hq : passR zs bs at' with
  | false => rfl
  | true =>
    unfold passR at hq
    have := List.all_eq_true.1 hq ⟨⟨k, sz zs k, kd zs k⟩, hg.sz2, hg.le, hg.kd5⟩ (by rw [← h1, blks_yes hg]; simp)
    rw [hp] at this
    cases this
def amongV (bs : List Int) (v : Int) : Bool := decide (blkV v < 0) || decide (blkV v ∈ bs)
def holdR (zs bs : List Int) (a : Int) : Bool := blkR zs a.toNat (sz zs a.toNat) (kd zs a.toNat) && (slotV zs a).all (amongV bs)
def sweptR (zs gs bs : List Int) (at' : Int) : Bool := decide (gs = []) && (decide (at' = (zs.length : Int)) || isAt zs at') && passR zs bs at' && bs.all (holdR zs bs)
def blackB (gs bs : List Int) (i : Nat) : Bool := !decide (hz bs i ∈ gs) && (decide (i = 0) || decide (hz bs (i - 1) ≤ hz bs i))
def blackR (gs bs : List Int) : Bool := allR (blackB gs bs) bs.length
def markR (zs : List Int) (ph : Int) (gs bs : List Int) (at' : Int) : Bool :=
  slabOk zs && decide (0 ≤ ph ∧ ph ≤ 2) && placesR zs gs && placesR zs bs && blackR gs bs &&
    (if ph = 0 then decide (gs = [] ∧ bs = []) && decide (at' = 0) && heapR zs else if ph = 1 then decide (at' = 0) && heapR zs else sweptR zs gs bs at')
theorem slL_at {zs : List Int} {n : Nat} (hg : Good zs n) {i : Nat} (hi : i < (slL n (kd zs n) (sz zs n)).length) : ∃ p : Nat, hz (slL n (kd zs n) (sz zs n)) i = p ∧ p < zs.length := by
  have hle := hg.le
  unfold slL at hi ⊢
  rw [someL_len] at hi
  refine ⟨n + slOff (kd zs n) + i, ?_, by omega⟩
  unfold hz someL
  rw [List.getElem?_map, List.getElem?_range hi]
  rfl
end Go.Proofs.YtgnpllpinfhccaaGreatDoor
namespace Go.Proofs.YtgnpllpinfhccaaGreatDoor
open Go.RowKit
attribute [local go_sem] Plain.and7

theorem isAt_le {zs : List Int} {x : Int} (h : isAt zs x = true) : 0 ≤ x ∧ x ≤ (zs.length : Int) := by
  obtain ⟨p, e, hp, _⟩ := isAt_kind h
  omega
theorem holds_no {zs bs l : List Int} {k : Nat} (hk : k < l.length) (h : holdR zs bs (hz l k) = false) : l.all (holdR zs bs) = false := by
  cases hq : l.all (holdR zs bs) with
  | false => rfl
  | true =>
    have := List.all_eq_true.1 hq _ (hz_mem hk)
    rw [h] at this
    cases this
theorem holds_yes {zs bs l : List Int} (h : ∀ j, j < l.length → holdR zs bs (hz l j) = true) : l.all (holdR zs bs) = true := by
  rw [List.all_eq_true]
  intro x hx
  obtain ⟨j, hj, e⟩ := List.getElem_of_mem hx
  have := h j hj
  rw [hz_get hj, e] at this
  exact this
theorem among_no {bs l : List Int} {k : Nat} (hk : k < l.length) (h : amongV bs (hz l k) = false) : l.all (amongV bs) = false := by
  cases hq : l.all (amongV bs) with
  | false => rfl
  | true =>
    have := List.all_eq_true.1 hq _ (hz_mem hk)
    rw [h] at this
    cases this
theorem among_yes {bs l : List Int} (h : ∀ j, j < l.length → amongV bs (hz l j) = true) : l.all (amongV bs) = true := by
  rw [List.all_eq_true]
  intro x hx
  obtain ⟨j, hj, e⟩ := List.getElem_of_mem hx
  have := h j hj
  rw [hz_get hj, e] at this
  exact this
set_option maxHeartbeats 16000000 in
set_option maxRecDepth 100000 in
theorem l8Swept_ok (w : World) (ao ga ba : Option Addr) (cap gc bc : Nat) (zs gs bs : List Int) (ph at' : Int) (hI : Ints w ao zs) (hl : zs.length ≤ 1048576) (hok : slabOk zs = true) (hB : Ints w ba bs) (hbl : bs.length ≤ 1048576) (hM : Met zs bs) :
    Calls Tryz.prog 184 #[.agg #[.slice ao zs.length cap], .agg #[.int .i64 ph, .slice ga gs.length gc, .slice ba bs.length bc, .int .i64 at']] w fun e w' => e = .returned (.bool (sweptR zs gs bs at')) ∧ Kept w w' := by
  have hL : zs.length * 8 ≤ 140737488351232 := by omega
  have b0 := (Cells.new w 26 #[.slice ao zs.length cap]).alloc (.cells #[.int .i64 ph, .slice ga gs.length gc, .slice ba bs.length bc, .int .i64 at'] 101)
  have b1 := Cells.new (w.alloc (.cells #[.slice ao zs.length cap] 26)) 101 #[.int .i64 ph, .slice ga gs.length gc, .slice ba bs.length bc, .int .i64 at']
  have k0 : Kept w ((w.alloc (.cells #[.slice ao zs.length cap] 26)).alloc (.cells #[.int .i64 ph, .slice ga gs.length gc, .slice ba bs.length bc, .int .i64 at'] 101)) := (Kept.alloc (Below.refl _ _) _).alloc _
  simp only [World.size_alloc] at b1
  have HO : Hid (slabOk zs = true) := hok
  have HI : Hid (Ints w ao zs) := hI
  have HB : Hid (Ints w ba bs) := hB
  have HM : Hid (Met zs bs) := hM
  have HIs : Hid _ := fun (u : World) (hu : Kept w u) => l2Is_ok u ao cap zs at' (Ints.kept HI.out hu) hL HO.out
  clear hok hI hB hM
  by_cases hg : gs = []
  · subst hg
    simp only [List.length_nil] at b0 b1 k0 ⊢
    by_cases ha : at' = (zs.length : Int)
    · subst ha
      have HS2 : Hid (sweptR zs [] bs (zs.length : Int) = (passR zs bs (zs.length : Int) && bs.all (holdR zs bs))) := by rw [Hid, sweptR]; simp
      have ha0 : (0 : Int) ≤ (zs.length : Int) := by omega
      have ha1 : (zs.length : Int) ≤ (zs.length : Int) := Int.le_refl _
      clear HIs
      go_enter Tryz.func184, Tryz.ntmps184
      go_upto_region 1 with (fail)
      obtain ⟨WX, hWX⟩ : ∃ WX, (w.alloc (.cells #[.slice ao zs.length cap] 26)).alloc (.cells #[.int .i64 ph, .slice ga 0 gc, .slice ba bs.length bc, .int .i64 (zs.length : Int)] 101) = WX := ⟨_, rfl⟩
      rw [hWX] at b0 b1 k0
      simp only [hWX]
      have HX0 : Hid (∀ u, Kept WX u → Cells u w.heap.size 26 #[.slice ao zs.length cap]) := fun u hu => b0.kept hu
      have HX1 : Hid (∀ u, Kept WX u → Cells u (w.heap.size + 1) 101 #[.int .i64 ph, .slice ga 0 gc, .slice ba bs.length bc, .int .i64 (zs.length : Int)]) := fun u hu => b1.kept hu
      have HKX : Hid (Kept w WX) := k0
      have m1 := (HX1.out WX (Below.refl _ _)).cell 1
      have m3 := (HX1.out WX (Below.refl _ _)).cell 3
      have s0 := (HX0.out WX (Below.refl _ _)).cell 0
      clear hWX b0 b1 k0
      have HK0 : Kept WX WX := Below.refl _ _
      go_wp2_with fail
      clear m1 m3 s0
      go_loopw [5] (fun i wr => ∃ k : Nat, i = .int .i64 k ∧ At zs k ∧ Passed zs bs (zs.length : Int) k ∧ Kept WX wr) (fun i _ => zs.length - (intOf i).toNat)
      case atStart => exact ⟨0, rfl, At.zero zs, Passed.zero _ _ _, HK0⟩
      case round =>
        obtain ⟨k, rfl, hat, hP, hK⟩ := hrel
        have m3 := (HX1.out _ hK).cell 3
        have m2 := (HX1.out _ hK).cell 2
        have s0 := (HX0.out _ hK).cell 0
        by_cases hka : (k : Int) < (zs.length : Int)
        · have hlt : k < zs.length := by omega
          have hg := hat.good HO.out hlt
          have HA : Hid (At zs (k + sz zs k)) := hat.next hg
          have HS : Hid ((sz zs k : Int) = hz zs k / 8) := hg.szI
          have hle := hg.le
          have hs2 := hg.sz2
          have g2 := hg.2.2.1
          have g3 := hg.2.2.2
          have hkI := kdI zs k
          obtain ⟨bb, off, e, hcI⟩ := Ints.at (Ints.kept HI.out (Kept.trans HKX.out hK)) hlt
          have ck := hcI k hlt
          have q1 : (k : Int) < (zs.length : Int) := by omega
          have q0 : (0 : Int) ≤ (k : Int) := by omega
          have hpu : passB bs (zs.length : Int) k (kd zs k) = (decide (hz zs k % 8 = 0) || decide ((k : Int) ∈ bs)) := by
            unfold passB
            have e1 : decide ((zs.length : Int) ≤ (k : Int)) = false := by simp; omega
            have e2 : decide (kd zs k = 0) = decide (hz zs k % 8 = 0) := by rw [decide_eq_decide]; omega
            rw [e1, e2, Bool.false_or]
          have hIn := l7In_ok wr ba bc bs (k : Int) (Ints.kept HB.out (Kept.trans HKX.out hK)) hbl
          have l2K := fun (u : World) => l2Kind_ok (hz zs k) u
          have l2S := fun (u : World) => l2Size_ok (hz zs k) u
          have HK : Hid (Kept WX wr) := hK
          have HP : Hid (Passed zs bs (zs.length : Int) k) := hP
          have wrp : IntKind.i64.wrap ((k : Int) + hz zs k / 8) = (k : Int) + hz zs k / 8 := by rw [IntWalk.i64_left, IntWalk.wrap64_in _ (by omega)]
          subst e
          clear hcI hK hP hat hkI
          obtain ⟨x, hx⟩ : ∃ x, hz zs k = x := ⟨_, rfl⟩
          rw [hx] at ck l2K l2S hpu HS wrp g2 g3
          by_cases h0 : x % 8 = 0
          · have hd : (x % 8 != 0) = false := by simpa using h0
            have HN : Hid (Passed zs bs (zs.length : Int) (k + sz zs k)) := HP.out.next hg (by rw [hpu]; simp [h0])
            clear h0 hg hpu hx
            go_wp2_with (first | (go_at_call 67; refine (l2K _).mono ?_; rintro e wx ⟨rfl, rfl⟩) | (go_at_call 74; refine (l2S _).mono ?_; rintro e wx ⟨rfl, rfl⟩))
            go_roundw
            case rel => exact ⟨k + sz zs k, by have := HS.out; congr 1; push_cast; omega, HA.out, HN.out, HK.out⟩
            case measure => have := HS.out; simp [intOf]; omega
          · have hd : (x % 8 != 0) = true := by simpa using h0
            obtain ⟨r, hr⟩ : ∃ r, decide ((k : Int) ∈ bs) = r := ⟨_, rfl⟩
            rw [hr] at hIn hpu
            have hpu2 : passB bs (zs.length : Int) k (kd zs k) = r := by rw [hpu]; simp [h0]
            cases r with
            | true =>
              have HN : Hid (Passed zs bs (zs.length : Int) (k + sz zs k)) := HP.out.next hg hpu2
              clear h0 hg hpu hpu2 hr hx
              go_wp2_with (first | (go_at_call 67; refine (l2K _).mono ?_; rintro e wx ⟨rfl, rfl⟩) | (go_at_call 62; refine hIn.mono ?_; rintro e wx ⟨rfl, rfl⟩) | (go_at_call 74; refine (l2S _).mono ?_; rintro e wx ⟨rfl, rfl⟩))
              go_roundw
              case rel => exact ⟨k + sz zs k, by have := HS.out; congr 1; push_cast; omega, HA.out, HN.out, HK.out⟩
              case measure => have := HS.out; simp [intOf]; omega
            | false =>
              have HE : Hid (sweptR zs [] bs (zs.length : Int) = false) := by rw [Hid, HS2.out, HP.out.fails hg hpu2]; rfl
              clear h0 hg hpu hpu2 hr hx
              go_wp2_with (first | (go_at_call 67; refine (l2K _).mono ?_; rintro e wx ⟨rfl, rfl⟩) | (go_at_call 62; refine hIn.mono ?_; rintro e wx ⟨rfl, rfl⟩))
              go_ret
              exact ⟨by rw [HE.out]; rfl, Kept.trans HKX.out HK.out⟩
        · have HS3 : Hid (sweptR zs [] bs (zs.length : Int) = bs.all (holdR zs bs)) := by rw [Hid, HS2.out, hP.ends (by omega)]; rfl
          have HK1 : Hid (Kept WX wr) := hK
          clear hK hP hat
          go_wp2_with fail
          go_loopw [6] (fun i wr => ∃ k : Nat, i = .int .i64 k ∧ k ≤ bs.length ∧ Hid (∀ j, j < k → holdR zs bs (hz bs j) = true) ∧ Kept WX wr) (fun i _ => bs.length - (intOf i).toNat)
          case atStart => exact ⟨0, rfl, Nat.zero_le _, fun j hj => by omega, HK1.out⟩
          case round =>
            obtain ⟨k, rfl, hk, HY, hK⟩ := hrel
            have m2 := (HX1.out _ hK).cell 2
            have s0 := (HX0.out _ hK).cell 0
            by_cases hlt : k < bs.length
            · have hka := HM.out.2 _ (hz_mem hlt)
              obtain ⟨n, en, hn, hg, esl, b, hbm, hbn⟩ := kind_nat hka
              obtain ⟨-, -, -, hbs, hbk, -⟩ := atB_some (atB_mem HO.out hbm)
              have HH : Hid (holdR zs bs (hz bs k) = (blkR zs n (sz zs n) (kd zs n) && (slotV zs (hz bs k)).all (amongV bs))) := by rw [Hid, holdR, en, Int.toNat_natCast]
              have HSh : Hid (∀ u, Kept w u → Calls Tryz.prog 108 #[.agg #[.slice ao zs.length cap], .int .i64 (n : Int)] u fun e w' => e = .returned (.bool (blkR zs n (sz zs n) (kd zs n))) ∧ Kept u w') := fun u hu => by
                have := l3Shape_ok u ao cap zs b (Ints.kept HI.out hu) hl HO.out (by rw [hbn]; exact hg) hbs hbk
                rw [hbs, hbk, hbn] at this
                exact this
              have HL3 : Hid (∀ u, Kept w u → Calls Tryz.prog 63 #[.agg #[.slice ao zs.length cap], .int .i64 (n : Int)] u fun e w' => ∃ v, e = .returned v ∧ OwnL w' u.heap.size v (slotsL zs (hz bs k)) ∧ Kept u w') := fun u hu => by
                have := l3Slots_ok u ao cap zs n (Ints.kept HI.out hu) hl hg
                rw [← esl] at this
                exact this
              obtain ⟨b1, o1, e1, hc1⟩ := Ints.at (Ints.kept HB.out (Kept.trans HKX.out hK)) hlt
              have c1 := hc1 k hlt
              rw [en] at c1
              have lb1 : b1 < wr.heap.size := World.block_lt_of_cell? _ _ c1
              have HSV : Hid (∀ i, i < (slotsL zs (hz bs k)).length → hz (slotV zs (hz bs k)) i = hz zs (hz (slotsL zs (hz bs k)) i).toNat) := fun i hi => slotV_at hi
              have HSL : Hid ((slotV zs (hz bs k)).length = (slotsL zs (hz bs k)).length) := slotV_len _ _
              have hsl2 : (slotsL zs (hz bs k)).length ≤ zs.length := by
                rw [esl]
                have := slL_len n (kd zs n) (sz zs n)
                have := hg.le
                omega
              have HSP : Hid (∀ i, i < (slotsL zs (hz bs k)).length → ∃ p : Nat, hz (slotsL zs (hz bs k)) i = p ∧ p < zs.length) := fun i hi => by
                rw [esl] at hi ⊢
                exact slL_at hg hi
              have q1 : (k : Int) < (bs.length : Int) := by omega
              have q0 : (0 : Int) ≤ (k : Int) := by omega
              obtain ⟨sl, hsl0⟩ : ∃ sl, slotsL zs (hz bs k) = sl := ⟨_, rfl⟩
              obtain ⟨sv, hsv0⟩ : ∃ sv, slotV zs (hz bs k) = sv := ⟨_, rfl⟩
              rw [hsl0] at HL3 HSV HSL HSP hsl2
              rw [hsv0] at HH HSV HSL
              have kd7 : ∀ u, Kept wr.drew u → Kept wr u := fun u hu => Kept.trans (Below.refl _ wr).drew hu
              have y0 : ∀ u, Kept wr.drew u → u.cell? ⟨w.heap.size, 0, none⟩ = some (.slice ao zs.length cap) := fun u hu => (HX0.out u (Kept.trans hK (kd7 u hu))).cell 0
              have y1 : ∀ u, Kept wr.drew u → u.cell? ⟨w.heap.size + 1, 2, none⟩ = some (.slice (some ⟨b1, o1, none⟩) bs.length bc) := fun u hu => by
                have := (HX1.out u (Kept.trans hK (kd7 u hu))).cell 2
                rw [e1] at this
                exact this
              have y2 : ∀ u, Kept wr.drew u → u.cell? ⟨b1, o1 + k, none⟩ = some (.int .i64 (n : Int)) := fun u hu => ((kd7 u hu).cell (p := ⟨b1, o1 + k, none⟩) lb1).trans c1
              have HKW : Hid (∀ u, Kept wr.drew u → Kept WX u) := fun u hu => Kept.trans hK (kd7 u hu)
              obtain ⟨r, hr⟩ : ∃ r, blkR zs n (sz zs n) (kd zs n) = r := ⟨_, rfl⟩
              rw [hr] at HH
              have C1 : Hid (∀ u, Kept wr.drew u → Calls Tryz.prog 108 #[.agg #[.slice ao zs.length cap], .int .i64 (n : Int)] u fun e w' => e = .returned (.bool r) ∧ Kept u w') := fun u hu => by have := HSh.out u (Kept.trans HKX.out (HKW.out u hu)); rw [hr] at this; exact this
              have HC1 : Hid (wr.cell? ⟨b1, o1 + k, none⟩ = some (.int .i64 (n : Int))) := c1
              subst e1
              clear hc1 hka esl hbm hbn hbs hbk hg hr c1 hsl0 hsv0 HSh hK b
              cases r with
              | false =>
                have HE : Hid (sweptR zs [] bs (zs.length : Int) = false) := by rw [Hid, HS3.out]; exact holds_no hlt (by rw [HH.out]; rfl)
                clear en
                go_wp2_with fail
                refine wp_region_seqL (by kernel_rfl) (by kernel_rfl) ?_
                repeat (first
                  | (refine SeqL.skip (by rfl) ?_; simp only [Act.put, List.setIfInBounds_toArray, List.set_cons_zero, List.set_cons_succ])
                  | (refine SeqL.pure ?_ (by rfl) ?_ ?_; rotate_left; (focus (intro u hu; have y0' := y0 u hu; have y1' := y1 u hu; have y2' := y2 u hu; go_simp; first | done | exact rfl)); simp only [Act.put, List.setIfInBounds_toArray, List.set_cons_zero, List.set_cons_succ])
                  | (refine SeqL.call _ _ _ (by rfl) ?_ C1.out ?_; (focus (intro u; go_simp; done)); simp only [Act.put, List.setIfInBounds_toArray, List.set_cons_zero, List.set_cons_succ]))
                refine SeqL.nil ?_
                intro w5 hu5
                have K5 := Kept.trans HKX.out (HKW.out w5 hu5)
                clear y0 y1 y2 C1 kd7
                go_wp2_with fail
                go_ret
                exact ⟨by rw [HE.out]; rfl, K5⟩
              | true =>
                have HH2 : Hid (holdR zs bs (hz bs k) = sv.all (amongV bs)) := by rw [Hid, HH.out]; rfl
                clear HH en
                go_wp2_with fail
                refine wp_region_seqL (by kernel_rfl) (by kernel_rfl) ?_
                repeat (first
                  | (refine SeqL.skip (by rfl) ?_; simp only [Act.put, List.setIfInBounds_toArray, List.set_cons_zero, List.set_cons_succ])
                  | (refine SeqL.pure ?_ (by rfl) ?_ ?_; rotate_left; (focus (intro u hu; have y0' := y0 u hu; have y1' := y1 u hu; have y2' := y2 u hu; go_simp; first | done | exact rfl)); simp only [Act.put, List.setIfInBounds_toArray, List.set_cons_zero, List.set_cons_succ])
                  | (refine SeqL.call _ _ _ (by rfl) ?_ C1.out ?_; (focus (intro u; go_simp; done)); simp only [Act.put, List.setIfInBounds_toArray, List.set_cons_zero, List.set_cons_succ]))
                refine SeqL.nil ?_
                intro w5 hu5
                have hk5 := kd7 w5 hu5
                have HK5 : Hid (Kept WX w5) := HKW.out w5 hu5
                have kd : Kept w5 w5.drew := (Below.refl _ w5).drew
                have d0 : w5.drew.cell? ⟨w.heap.size, 0, none⟩ = some (.slice ao zs.length cap) := (HX0.out _ (Kept.trans HK5.out kd)).cell 0
                have d1 : w5.drew.cell? ⟨w.heap.size + 1, 2, none⟩ = some (.slice (some ⟨b1, o1, none⟩) bs.length bc) := (HX1.out _ (Kept.trans HK5.out kd)).cell 2
                have lb5 : b1 < w5.heap.size := Nat.lt_of_lt_of_le lb1 hk5.size
                have d2 : w5.drew.cell? ⟨b1, o1 + k, none⟩ = some (.int .i64 (n : Int)) := ((hk5.trans kd).cell (p := ⟨b1, o1 + k, none⟩) lb1).trans HC1.out
                have K2 : Kept w w5.drew := Kept.trans HKX.out (Kept.trans HK5.out kd)
                have HA : Hid (∀ u, Kept w5 u → u.cell? ⟨w.heap.size, 0, none⟩ = some (.slice ao zs.length cap) ∧ u.cell? ⟨w.heap.size + 1, 2, none⟩ = some (.slice (some ⟨b1, o1, none⟩) bs.length bc) ∧ u.cell? ⟨b1, o1 + k, none⟩ = some (.int .i64 (n : Int))) := fun u hu => ⟨(HX0.out _ (Kept.trans HK5.out hu)).cell 0, (HX1.out _ (Kept.trans HK5.out hu)).cell 2, ((hk5.trans hu).cell (p := ⟨b1, o1 + k, none⟩) lb1).trans HC1.out⟩
                clear y0 y1 y2 C1 kd7 hu5
                go_wp2_with fail
                go_region_held3 (fun w' => w'.cell? ⟨w.heap.size, 0, none⟩ = some (.slice ao zs.length cap) ∧ w'.cell? ⟨w.heap.size + 1, 2, none⟩ = some (.slice (some ⟨b1, o1, none⟩) bs.length bc) ∧ w'.cell? ⟨b1, o1 + k, none⟩ = some (.int .i64 (n : Int)))
                  (first | exact HA.out _ (by assumption) | go_keep)
                  ((go_at_call 63; refine (HL3.out _ K2).mono ?_; rintro e w6 ⟨v6, rfl, hO6, hk6⟩; have kx : Kept w5 w6 := kd.trans hk6; obtain ⟨so, sc, rfl, hI6⟩ := hO6.ints))
                have HI6 : Hid (Ints w6 so sl) := hI6
                have HK6 : Hid (Kept WX w6) := Kept.trans HK5.out kx
                clear hI6 hO6 kx hk6 d0 d1 d2 K2 HA HL3 kd
                go_wp2_with fail
                go_loopw [8] (fun i wr => ∃ j : Nat, i = .int .i64 j ∧ j ≤ sl.length ∧ Hid (∀ i, i < j → amongV bs (hz sv i) = true) ∧ Kept w6 wr) (fun i _ => sl.length - (intOf i).toNat)
                case atStart => exact ⟨0, rfl, Nat.zero_le _, fun i hi => by omega, Below.refl _ _⟩
                case round =>
                  obtain ⟨j, rfl, hj, HZ, hK7⟩ := hrel
                  have HK7 : Hid (Kept WX wr) := Kept.trans HK6.out hK7
                  by_cases hlj : j < sl.length
                  · obtain ⟨p, hp, hpl⟩ := HSP.out j hlj
                    have hjv : j < sv.length := by rw [HSL.out]; exact hlj
                    have evj : hz sv j = hz zs p := by rw [HSV.out j hlj, hp, Int.toNat_natCast]
                    obtain ⟨b5, o5, e5, hc5⟩ := Ints.at (Ints.kept HI6.out hK7) hlj
                    have c5 := hc5 j hlj
                    rw [hp] at c5
                    obtain ⟨b6, o6, e6, hc6⟩ := Ints.at (Ints.kept HI.out (Kept.trans HKX.out HK7.out)) hpl
                    have c6 := hc6 p hpl
                    have l5 : b5 < wr.heap.size := World.block_lt_of_cell? _ _ c5
                    have l6 : b6 < wr.heap.size := World.block_lt_of_cell? _ _ c6
                    have kd7 : ∀ u, Kept wr.drew u → Kept wr u := fun u hu => Kept.trans (Below.refl _ wr).drew hu
                    have y0 : ∀ u, Kept wr.drew u → u.cell? ⟨w.heap.size, 0, none⟩ = some (.slice (some ⟨b6, o6, none⟩) zs.length cap) := fun u hu => by
                      have := (HX0.out u (Kept.trans HK7.out (kd7 u hu))).cell 0
                      rw [e6] at this
                      exact this
                    have y1 : ∀ u, Kept wr.drew u → u.cell? ⟨b5, o5 + j, none⟩ = some (.int .i64 (p : Int)) := fun u hu => ((kd7 u hu).cell (p := ⟨b5, o5 + j, none⟩) l5).trans c5
                    have y2 : ∀ u, Kept wr.drew u → u.cell? ⟨b6, o6 + p, none⟩ = some (.int .i64 (hz zs p)) := fun u hu => ((kd7 u hu).cell (p := ⟨b6, o6 + p, none⟩) l6).trans c6
                    have g1 : (j : Int) < (sl.length : Int) := by omega
                    have g2 : (0 : Int) ≤ (j : Int) := by omega
                    have g3 : (p : Int) < (zs.length : Int) := by omega
                    have g4 : (0 : Int) ≤ (p : Int) := by omega
                    have g5 : ((p : Int)).toNat = p := by omega
                    obtain ⟨bv, hbv⟩ : ∃ bv, blkV (hz zs p) = bv := ⟨_, rfl⟩
                    have C1 : Hid (∀ u, Kept wr.drew u → Calls Tryz.prog 61 #[.int .i64 (hz zs p)] u fun e w' => e = .returned (.int .i64 bv) ∧ Kept u w') := fun u _ => calls_kept (by have := l7Block_ok (hz zs p) u; rw [hbv] at this; exact this)
                    have HAM : Hid (amongV bs (hz sv j) = (decide (bv < 0) || decide (bv ∈ bs))) := by rw [Hid, evj, amongV, hbv]
                    have HKW7 : Hid (∀ u, Kept wr.drew u → Kept w6 u) := fun u hu => Kept.trans hK7 (kd7 u hu)
                    subst e5
                    subst e6
                    clear hc5 hc6 c5 c6 hbv evj hp hK7
                    go_wp2_with fail
                    refine wp_region_seqL (by kernel_rfl) (by kernel_rfl) ?_
                    repeat (first
                      | (refine SeqL.skip (by rfl) ?_; simp only [Act.put, List.setIfInBounds_toArray, List.set_cons_zero, List.set_cons_succ])
                      | (refine SeqL.pure ?_ (by rfl) ?_ ?_; rotate_left; (focus (intro u hu; have y0' := y0 u hu; have y1' := y1 u hu; have y2' := y2 u hu; go_simp; first | done | exact rfl)); simp only [Act.put, List.setIfInBounds_toArray, List.set_cons_zero, List.set_cons_succ])
                      | (refine SeqL.call _ _ _ (by rfl) ?_ C1.out ?_; (focus (intro u; go_simp; done)); simp only [Act.put, List.setIfInBounds_toArray, List.set_cons_zero, List.set_cons_succ]))
                    refine SeqL.nil ?_
                    intro w8 hu8
                    have K8 := HKW7.out w8 hu8
                    have HK8 : Hid (Kept WX w8) := Kept.trans HK6.out K8
                    have m8 := (HX1.out _ HK8.out).cell 2
                    have hIn := l7In_ok w8 (some ⟨b1, o1, none⟩) bc bs bv (Ints.kept HB.out (Kept.trans HKX.out HK8.out)) hbl
                    have HK8' : Hid (Kept w6 w8) := K8
                    clear y0 y1 y2 C1 kd7 K8 hu8
                    by_cases h0 : (0 : Int) ≤ bv
                    · have hd0 : decide ((0 : Int) ≤ bv) = true := by simpa using h0
                      obtain ⟨r2, hr2⟩ : ∃ r2, decide (bv ∈ bs) = r2 := ⟨_, rfl⟩
                      rw [hr2] at hIn HAM
                      have HAM2 : Hid (amongV bs (hz sv j) = r2) := by
                        rw [Hid, HAM.out]
                        have : decide (bv < 0) = false := by simp; omega
                        rw [this, Bool.false_or]
                      clear h0 hr2
                      cases r2 with
                      | true =>
                        go_wp2_with (first | (go_at_call 62; refine hIn.mono ?_; rintro e wx ⟨rfl, rfl⟩))
                        go_roundw
                        case rel =>
                          refine ⟨j + 1, by go_num, by omega, fun i hi => ?_, HK8'.out⟩
                          rcases Nat.lt_or_ge i j with h | h
                          · exact HZ.out i h
                          · obtain rfl : i = j := by omega
                            exact HAM2.out
                        case measure => simp [intOf]; omega
                      | false =>
                        have HE : Hid (sweptR zs [] bs (zs.length : Int) = false) := by rw [Hid, HS3.out]; exact holds_no hlt (by rw [HH2.out]; exact among_no hjv HAM2.out)
                        go_wp2_with (first | (go_at_call 62; refine hIn.mono ?_; rintro e wx ⟨rfl, rfl⟩))
                        go_ret
                        exact ⟨by rw [HE.out]; rfl, Kept.trans HKX.out HK8.out⟩
                    · have hd0 : decide ((0 : Int) ≤ bv) = false := by simpa using h0
                      have HAM2 : Hid (amongV bs (hz sv j) = true) := by
                        rw [Hid, HAM.out]
                        have : decide (bv < 0) = true := by simp; omega
                        rw [this, Bool.true_or]
                      clear h0 hIn
                      go_wp2_with fail
                      go_roundw
                      case rel =>
                        refine ⟨j + 1, by go_num, by omega, fun i hi => ?_, HK8'.out⟩
                        rcases Nat.lt_or_ge i j with h | h
                        · exact HZ.out i h
                        · obtain rfl : i = j := by omega
                          exact HAM2.out
                      case measure => simp [intOf]; omega
                  · obtain rfl : j = sl.length := by omega
                    have HHk : Hid (holdR zs bs (hz bs k) = true) := by rw [Hid, HH2.out]; exact among_yes (fun i hi => HZ.out i (by rw [HSL.out] at hi; exact hi))
                    clear hK7
                    go_wp2_with fail
                    go_roundw
                    case rel =>
                      refine ⟨k + 1, by go_num, by omega, fun j hj => ?_, HK7.out⟩
                      rcases Nat.lt_or_ge j k with h | h
                      · exact HY.out j h
                      · obtain rfl : j = k := by omega
                        exact HHk.out
                    case measure => simp [intOf]; omega
            · obtain rfl : k = bs.length := by omega
              have HE : Hid (sweptR zs [] bs (zs.length : Int) = true) := by rw [Hid, HS3.out]; exact holds_yes HY.out
              have HK2 : Hid (Kept WX wr) := hK
              clear hK
              go_wp2_with fail
              go_ret
              exact ⟨by rw [HE.out]; rfl, Kept.trans HKX.out HK2.out⟩
    · have n1 : (at' != (zs.length : Int)) = true := by simpa using ha
      cases hr : isAt zs at' with
      | false =>
        have HE : Hid (sweptR zs [] bs at' = false) := by rw [Hid, sweptR]; simp [ha, hr]
        have hIs := fun (u : World) (hu : Kept w u) => by have := HIs.out u hu; rw [hr] at this; exact this
        clear ha hr HIs
        go_enter Tryz.func184, Tryz.ntmps184
        go_upto_region 1 with (fail)
        obtain ⟨WX, hWX⟩ : ∃ WX, (w.alloc (.cells #[.slice ao zs.length cap] 26)).alloc (.cells #[.int .i64 ph, .slice ga 0 gc, .slice ba bs.length bc, .int .i64 at'] 101) = WX := ⟨_, rfl⟩
        rw [hWX] at b0 b1 k0
        simp only [hWX]
        have HX0 : Hid (∀ u, Kept WX u → Cells u w.heap.size 26 #[.slice ao zs.length cap]) := fun u hu => b0.kept hu
        have HX1 : Hid (∀ u, Kept WX u → Cells u (w.heap.size + 1) 101 #[.int .i64 ph, .slice ga 0 gc, .slice ba bs.length bc, .int .i64 at']) := fun u hu => b1.kept hu
        have HKX : Hid (Kept w WX) := k0
        have m1 := (HX1.out WX (Below.refl _ _)).cell 1
        have m3 := (HX1.out WX (Below.refl _ _)).cell 3
        have s0 := (HX0.out WX (Below.refl _ _)).cell 0
        clear hWX b0 b1 k0
        go_wp2_with (go_at_call 111; refine (hIs _ HKX.out).mono ?_; rintro e w1 ⟨rfl, hk1⟩)
        go_ret
        exact ⟨by rw [HE.out]; rfl, Kept.trans HKX.out hk1⟩
      | true =>
        have HS2 : Hid (sweptR zs [] bs at' = (passR zs bs at' && bs.all (holdR zs bs))) := by rw [Hid, sweptR]; simp [hr]
        have hIs := fun (u : World) (hu : Kept w u) => by have := HIs.out u hu; rw [hr] at this; exact this
        obtain ⟨ha0, ha1⟩ := isAt_le hr
        clear ha hr HIs
        go_enter Tryz.func184, Tryz.ntmps184
        go_upto_region 1 with (fail)
        obtain ⟨WX, hWX⟩ : ∃ WX, (w.alloc (.cells #[.slice ao zs.length cap] 26)).alloc (.cells #[.int .i64 ph, .slice ga 0 gc, .slice ba bs.length bc, .int .i64 at'] 101) = WX := ⟨_, rfl⟩
        rw [hWX] at b0 b1 k0
        simp only [hWX]
        have HX0 : Hid (∀ u, Kept WX u → Cells u w.heap.size 26 #[.slice ao zs.length cap]) := fun u hu => b0.kept hu
        have HX1 : Hid (∀ u, Kept WX u → Cells u (w.heap.size + 1) 101 #[.int .i64 ph, .slice ga 0 gc, .slice ba bs.length bc, .int .i64 at']) := fun u hu => b1.kept hu
        have HKX : Hid (Kept w WX) := k0
        have m1 := (HX1.out WX (Below.refl _ _)).cell 1
        have m3 := (HX1.out WX (Below.refl _ _)).cell 3
        have s0 := (HX0.out WX (Below.refl _ _)).cell 0
        clear hWX b0 b1 k0
        go_upto_region 3 with (go_at_call 111; refine (hIs _ HKX.out).mono ?_; rintro e w1 ⟨rfl, HK0⟩)
        clear m1 m3 s0
        go_wp2_with fail
        go_loopw [5] (fun i wr => ∃ k : Nat, i = .int .i64 k ∧ At zs k ∧ Passed zs bs at' k ∧ Kept WX wr) (fun i _ => zs.length - (intOf i).toNat)
        case atStart => exact ⟨0, rfl, At.zero zs, Passed.zero _ _ _, HK0⟩
        case round =>
          obtain ⟨k, rfl, hat, hP, hK⟩ := hrel
          have m3 := (HX1.out _ hK).cell 3
          have m2 := (HX1.out _ hK).cell 2
          have s0 := (HX0.out _ hK).cell 0
          by_cases hka : (k : Int) < at'
          · have hlt : k < zs.length := by omega
            have hg := hat.good HO.out hlt
            have HA : Hid (At zs (k + sz zs k)) := hat.next hg
            have HS : Hid ((sz zs k : Int) = hz zs k / 8) := hg.szI
            have hle := hg.le
            have hs2 := hg.sz2
            have g2 := hg.2.2.1
            have g3 := hg.2.2.2
            have hkI := kdI zs k
            obtain ⟨bb, off, e, hcI⟩ := Ints.at (Ints.kept HI.out (Kept.trans HKX.out hK)) hlt
            have ck := hcI k hlt
            have q1 : (k : Int) < (zs.length : Int) := by omega
            have q0 : (0 : Int) ≤ (k : Int) := by omega
            have hpu : passB bs at' k (kd zs k) = (decide (hz zs k % 8 = 0) || decide ((k : Int) ∈ bs)) := by
              unfold passB
              have e1 : decide (at' ≤ (k : Int)) = false := by simp; omega
              have e2 : decide (kd zs k = 0) = decide (hz zs k % 8 = 0) := by rw [decide_eq_decide]; omega
              rw [e1, e2, Bool.false_or]
            have hIn := l7In_ok wr ba bc bs (k : Int) (Ints.kept HB.out (Kept.trans HKX.out hK)) hbl
            have l2K := fun (u : World) => l2Kind_ok (hz zs k) u
            have l2S := fun (u : World) => l2Size_ok (hz zs k) u
            have HK : Hid (Kept WX wr) := hK
            have HP : Hid (Passed zs bs at' k) := hP
            have wrp : IntKind.i64.wrap ((k : Int) + hz zs k / 8) = (k : Int) + hz zs k / 8 := by rw [IntWalk.i64_left, IntWalk.wrap64_in _ (by omega)]
            subst e
            clear hcI hK hP hat hkI
            obtain ⟨x, hx⟩ : ∃ x, hz zs k = x := ⟨_, rfl⟩
            rw [hx] at ck l2K l2S hpu HS wrp g2 g3
            by_cases h0 : x % 8 = 0
            · have hd : (x % 8 != 0) = false := by simpa using h0
              have HN : Hid (Passed zs bs at' (k + sz zs k)) := HP.out.next hg (by rw [hpu]; simp [h0])
              clear h0 hg hpu hx
              go_wp2_with (first | (go_at_call 67; refine (l2K _).mono ?_; rintro e wx ⟨rfl, rfl⟩) | (go_at_call 74; refine (l2S _).mono ?_; rintro e wx ⟨rfl, rfl⟩))
              go_roundw
              case rel => exact ⟨k + sz zs k, by have := HS.out; congr 1; push_cast; omega, HA.out, HN.out, HK.out⟩
              case measure => have := HS.out; simp [intOf]; omega
            · have hd : (x % 8 != 0) = true := by simpa using h0
              obtain ⟨r, hr⟩ : ∃ r, decide ((k : Int) ∈ bs) = r := ⟨_, rfl⟩
              rw [hr] at hIn hpu
              have hpu2 : passB bs at' k (kd zs k) = r := by rw [hpu]; simp [h0]
              cases r with
              | true =>
                have HN : Hid (Passed zs bs at' (k + sz zs k)) := HP.out.next hg hpu2
                clear h0 hg hpu hpu2 hr hx
                go_wp2_with (first | (go_at_call 67; refine (l2K _).mono ?_; rintro e wx ⟨rfl, rfl⟩) | (go_at_call 62; refine hIn.mono ?_; rintro e wx ⟨rfl, rfl⟩) | (go_at_call 74; refine (l2S _).mono ?_; rintro e wx ⟨rfl, rfl⟩))
                go_roundw
                case rel => exact ⟨k + sz zs k, by have := HS.out; congr 1; push_cast; omega, HA.out, HN.out, HK.out⟩
                case measure => have := HS.out; simp [intOf]; omega
              | false =>
                have HE : Hid (sweptR zs [] bs at' = false) := by rw [Hid, HS2.out, HP.out.fails hg hpu2]; rfl
                clear h0 hg hpu hpu2 hr hx
                go_wp2_with (first | (go_at_call 67; refine (l2K _).mono ?_; rintro e wx ⟨rfl, rfl⟩) | (go_at_call 62; refine hIn.mono ?_; rintro e wx ⟨rfl, rfl⟩))
                go_ret
                exact ⟨by rw [HE.out]; rfl, Kept.trans HKX.out HK.out⟩
          · have HS3 : Hid (sweptR zs [] bs at' = bs.all (holdR zs bs)) := by rw [Hid, HS2.out, hP.ends (by omega)]; rfl
            have HK1 : Hid (Kept WX wr) := hK
            clear hK hP hat
            go_wp2_with fail
            go_loopw [6] (fun i wr => ∃ k : Nat, i = .int .i64 k ∧ k ≤ bs.length ∧ Hid (∀ j, j < k → holdR zs bs (hz bs j) = true) ∧ Kept WX wr) (fun i _ => bs.length - (intOf i).toNat)
            case atStart => exact ⟨0, rfl, Nat.zero_le _, fun j hj => by omega, HK1.out⟩
            case round =>
              obtain ⟨k, rfl, hk, HY, hK⟩ := hrel
              have m2 := (HX1.out _ hK).cell 2
              have s0 := (HX0.out _ hK).cell 0
              by_cases hlt : k < bs.length
              · have hka := HM.out.2 _ (hz_mem hlt)
                obtain ⟨n, en, hn, hg, esl, b, hbm, hbn⟩ := kind_nat hka
                obtain ⟨-, -, -, hbs, hbk, -⟩ := atB_some (atB_mem HO.out hbm)
                have HH : Hid (holdR zs bs (hz bs k) = (blkR zs n (sz zs n) (kd zs n) && (slotV zs (hz bs k)).all (amongV bs))) := by rw [Hid, holdR, en, Int.toNat_natCast]
                have HSh : Hid (∀ u, Kept w u → Calls Tryz.prog 108 #[.agg #[.slice ao zs.length cap], .int .i64 (n : Int)] u fun e w' => e = .returned (.bool (blkR zs n (sz zs n) (kd zs n))) ∧ Kept u w') := fun u hu => by
                  have := l3Shape_ok u ao cap zs b (Ints.kept HI.out hu) hl HO.out (by rw [hbn]; exact hg) hbs hbk
                  rw [hbs, hbk, hbn] at this
                  exact this
                have HL3 : Hid (∀ u, Kept w u → Calls Tryz.prog 63 #[.agg #[.slice ao zs.length cap], .int .i64 (n : Int)] u fun e w' => ∃ v, e = .returned v ∧ OwnL w' u.heap.size v (slotsL zs (hz bs k)) ∧ Kept u w') := fun u hu => by
                  have := l3Slots_ok u ao cap zs n (Ints.kept HI.out hu) hl hg
                  rw [← esl] at this
                  exact this
                obtain ⟨b1, o1, e1, hc1⟩ := Ints.at (Ints.kept HB.out (Kept.trans HKX.out hK)) hlt
                have c1 := hc1 k hlt
                rw [en] at c1
                have lb1 : b1 < wr.heap.size := World.block_lt_of_cell? _ _ c1
                have HSV : Hid (∀ i, i < (slotsL zs (hz bs k)).length → hz (slotV zs (hz bs k)) i = hz zs (hz (slotsL zs (hz bs k)) i).toNat) := fun i hi => slotV_at hi
                have HSL : Hid ((slotV zs (hz bs k)).length = (slotsL zs (hz bs k)).length) := slotV_len _ _
                have hsl2 : (slotsL zs (hz bs k)).length ≤ zs.length := by
                  rw [esl]
                  have := slL_len n (kd zs n) (sz zs n)
                  have := hg.le
                  omega
                have HSP : Hid (∀ i, i < (slotsL zs (hz bs k)).length → ∃ p : Nat, hz (slotsL zs (hz bs k)) i = p ∧ p < zs.length) := fun i hi => by
                  rw [esl] at hi ⊢
                  exact slL_at hg hi
                have q1 : (k : Int) < (bs.length : Int) := by omega
                have q0 : (0 : Int) ≤ (k : Int) := by omega
                obtain ⟨sl, hsl0⟩ : ∃ sl, slotsL zs (hz bs k) = sl := ⟨_, rfl⟩
                obtain ⟨sv, hsv0⟩ : ∃ sv, slotV zs (hz bs k) = sv := ⟨_, rfl⟩
                rw [hsl0] at HL3 HSV HSL HSP hsl2
                rw [hsv0] at HH HSV HSL
                have kd7 : ∀ u, Kept wr.drew u → Kept wr u := fun u hu => Kept.trans (Below.refl _ wr).drew hu
                have y0 : ∀ u, Kept wr.drew u → u.cell? ⟨w.heap.size, 0, none⟩ = some (.slice ao zs.length cap) := fun u hu => (HX0.out u (Kept.trans hK (kd7 u hu))).cell 0
                have y1 : ∀ u, Kept wr.drew u → u.cell? ⟨w.heap.size + 1, 2, none⟩ = some (.slice (some ⟨b1, o1, none⟩) bs.length bc) := fun u hu => by
                  have := (HX1.out u (Kept.trans hK (kd7 u hu))).cell 2
                  rw [e1] at this
                  exact this
                have y2 : ∀ u, Kept wr.drew u → u.cell? ⟨b1, o1 + k, none⟩ = some (.int .i64 (n : Int)) := fun u hu => ((kd7 u hu).cell (p := ⟨b1, o1 + k, none⟩) lb1).trans c1
                have HKW : Hid (∀ u, Kept wr.drew u → Kept WX u) := fun u hu => Kept.trans hK (kd7 u hu)
                obtain ⟨r, hr⟩ : ∃ r, blkR zs n (sz zs n) (kd zs n) = r := ⟨_, rfl⟩
                rw [hr] at HH
                have C1 : Hid (∀ u, Kept wr.drew u → Calls Tryz.prog 108 #[.agg #[.slice ao zs.length cap], .int .i64 (n : Int)] u fun e w' => e = .returned (.bool r) ∧ Kept u w') := fun u hu => by have := HSh.out u (Kept.trans HKX.out (HKW.out u hu)); rw [hr] at this; exact this
                have HC1 : Hid (wr.cell? ⟨b1, o1 + k, none⟩ = some (.int .i64 (n : Int))) := c1
                subst e1
                clear hc1 hka esl hbm hbn hbs hbk hg hr c1 hsl0 hsv0 HSh hK b
                cases r with
                | false =>
                  have HE : Hid (sweptR zs [] bs at' = false) := by rw [Hid, HS3.out]; exact holds_no hlt (by rw [HH.out]; rfl)
                  clear en
                  go_wp2_with fail
                  refine wp_region_seqL (by kernel_rfl) (by kernel_rfl) ?_
                  repeat (first
                    | (refine SeqL.skip (by rfl) ?_; simp only [Act.put, List.setIfInBounds_toArray, List.set_cons_zero, List.set_cons_succ])
                    | (refine SeqL.pure ?_ (by rfl) ?_ ?_; rotate_left; (focus (intro u hu; have y0' := y0 u hu; have y1' := y1 u hu; have y2' := y2 u hu; go_simp; first | done | exact rfl)); simp only [Act.put, List.setIfInBounds_toArray, List.set_cons_zero, List.set_cons_succ])
                    | (refine SeqL.call _ _ _ (by rfl) ?_ C1.out ?_; (focus (intro u; go_simp; done)); simp only [Act.put, List.setIfInBounds_toArray, List.set_cons_zero, List.set_cons_succ]))
                  refine SeqL.nil ?_
                  intro w5 hu5
                  have K5 := Kept.trans HKX.out (HKW.out w5 hu5)
                  clear y0 y1 y2 C1 kd7
                  go_wp2_with fail
                  go_ret
                  exact ⟨by rw [HE.out]; rfl, K5⟩
                | true =>
                  have HH2 : Hid (holdR zs bs (hz bs k) = sv.all (amongV bs)) := by rw [Hid, HH.out]; rfl
                  clear HH en
                  go_wp2_with fail
                  refine wp_region_seqL (by kernel_rfl) (by kernel_rfl) ?_
                  repeat (first
                    | (refine SeqL.skip (by rfl) ?_; simp only [Act.put, List.setIfInBounds_toArray, List.set_cons_zero, List.set_cons_succ])
                    | (refine SeqL.pure ?_ (by rfl) ?_ ?_; rotate_left; (focus (intro u hu; have y0' := y0 u hu; have y1' := y1 u hu; have y2' := y2 u hu; go_simp; first | done | exact rfl)); simp only [Act.put, List.setIfInBounds_toArray, List.set_cons_zero, List.set_cons_succ])
                    | (refine SeqL.call _ _ _ (by rfl) ?_ C1.out ?_; (focus (intro u; go_simp; done)); simp only [Act.put, List.setIfInBounds_toArray, List.set_cons_zero, List.set_cons_succ]))
                  refine SeqL.nil ?_
                  intro w5 hu5
                  have hk5 := kd7 w5 hu5
                  have HK5 : Hid (Kept WX w5) := HKW.out w5 hu5
                  have kd : Kept w5 w5.drew := (Below.refl _ w5).drew
                  have d0 : w5.drew.cell? ⟨w.heap.size, 0, none⟩ = some (.slice ao zs.length cap) := (HX0.out _ (Kept.trans HK5.out kd)).cell 0
                  have d1 : w5.drew.cell? ⟨w.heap.size + 1, 2, none⟩ = some (.slice (some ⟨b1, o1, none⟩) bs.length bc) := (HX1.out _ (Kept.trans HK5.out kd)).cell 2
                  have lb5 : b1 < w5.heap.size := Nat.lt_of_lt_of_le lb1 hk5.size
                  have d2 : w5.drew.cell? ⟨b1, o1 + k, none⟩ = some (.int .i64 (n : Int)) := ((hk5.trans kd).cell (p := ⟨b1, o1 + k, none⟩) lb1).trans HC1.out
                  have K2 : Kept w w5.drew := Kept.trans HKX.out (Kept.trans HK5.out kd)
                  have HA : Hid (∀ u, Kept w5 u → u.cell? ⟨w.heap.size, 0, none⟩ = some (.slice ao zs.length cap) ∧ u.cell? ⟨w.heap.size + 1, 2, none⟩ = some (.slice (some ⟨b1, o1, none⟩) bs.length bc) ∧ u.cell? ⟨b1, o1 + k, none⟩ = some (.int .i64 (n : Int))) := fun u hu => ⟨(HX0.out _ (Kept.trans HK5.out hu)).cell 0, (HX1.out _ (Kept.trans HK5.out hu)).cell 2, ((hk5.trans hu).cell (p := ⟨b1, o1 + k, none⟩) lb1).trans HC1.out⟩
                  clear y0 y1 y2 C1 kd7 hu5
                  go_wp2_with fail
                  go_region_held3 (fun w' => w'.cell? ⟨w.heap.size, 0, none⟩ = some (.slice ao zs.length cap) ∧ w'.cell? ⟨w.heap.size + 1, 2, none⟩ = some (.slice (some ⟨b1, o1, none⟩) bs.length bc) ∧ w'.cell? ⟨b1, o1 + k, none⟩ = some (.int .i64 (n : Int)))
                    (first | exact HA.out _ (by assumption) | go_keep)
                    ((go_at_call 63; refine (HL3.out _ K2).mono ?_; rintro e w6 ⟨v6, rfl, hO6, hk6⟩; have kx : Kept w5 w6 := kd.trans hk6; obtain ⟨so, sc, rfl, hI6⟩ := hO6.ints))
                  have HI6 : Hid (Ints w6 so sl) := hI6
                  have HK6 : Hid (Kept WX w6) := Kept.trans HK5.out kx
                  clear hI6 hO6 kx hk6 d0 d1 d2 K2 HA HL3 kd
                  go_wp2_with fail
                  go_loopw [8] (fun i wr => ∃ j : Nat, i = .int .i64 j ∧ j ≤ sl.length ∧ Hid (∀ i, i < j → amongV bs (hz sv i) = true) ∧ Kept w6 wr) (fun i _ => sl.length - (intOf i).toNat)
                  case atStart => exact ⟨0, rfl, Nat.zero_le _, fun i hi => by omega, Below.refl _ _⟩
                  case round =>
                    obtain ⟨j, rfl, hj, HZ, hK7⟩ := hrel
                    have HK7 : Hid (Kept WX wr) := Kept.trans HK6.out hK7
                    by_cases hlj : j < sl.length
                    · obtain ⟨p, hp, hpl⟩ := HSP.out j hlj
                      have hjv : j < sv.length := by rw [HSL.out]; exact hlj
                      have evj : hz sv j = hz zs p := by rw [HSV.out j hlj, hp, Int.toNat_natCast]
                      obtain ⟨b5, o5, e5, hc5⟩ := Ints.at (Ints.kept HI6.out hK7) hlj
                      have c5 := hc5 j hlj
                      rw [hp] at c5
                      obtain ⟨b6, o6, e6, hc6⟩ := Ints.at (Ints.kept HI.out (Kept.trans HKX.out HK7.out)) hpl
                      have c6 := hc6 p hpl
                      have l5 : b5 < wr.heap.size := World.block_lt_of_cell? _ _ c5
                      have l6 : b6 < wr.heap.size := World.block_lt_of_cell? _ _ c6
                      have kd7 : ∀ u, Kept wr.drew u → Kept wr u := fun u hu => Kept.trans (Below.refl _ wr).drew hu
                      have y0 : ∀ u, Kept wr.drew u → u.cell? ⟨w.heap.size, 0, none⟩ = some (.slice (some ⟨b6, o6, none⟩) zs.length cap) := fun u hu => by
                        have := (HX0.out u (Kept.trans HK7.out (kd7 u hu))).cell 0
                        rw [e6] at this
                        exact this
                      have y1 : ∀ u, Kept wr.drew u → u.cell? ⟨b5, o5 + j, none⟩ = some (.int .i64 (p : Int)) := fun u hu => ((kd7 u hu).cell (p := ⟨b5, o5 + j, none⟩) l5).trans c5
                      have y2 : ∀ u, Kept wr.drew u → u.cell? ⟨b6, o6 + p, none⟩ = some (.int .i64 (hz zs p)) := fun u hu => ((kd7 u hu).cell (p := ⟨b6, o6 + p, none⟩) l6).trans c6
                      have g1 : (j : Int) < (sl.length : Int) := by omega
                      have g2 : (0 : Int) ≤ (j : Int) := by omega
                      have g3 : (p : Int) < (zs.length : Int) := by omega
                      have g4 : (0 : Int) ≤ (p : Int) := by omega
                      have g5 : ((p : Int)).toNat = p := by omega
                      obtain ⟨bv, hbv⟩ : ∃ bv, blkV (hz zs p) = bv := ⟨_, rfl⟩
                      have C1 : Hid (∀ u, Kept wr.drew u → Calls Tryz.prog 61 #[.int .i64 (hz zs p)] u fun e w' => e = .returned (.int .i64 bv) ∧ Kept u w') := fun u _ => calls_kept (by have := l7Block_ok (hz zs p) u; rw [hbv] at this; exact this)
                      have HAM : Hid (amongV bs (hz sv j) = (decide (bv < 0) || decide (bv ∈ bs))) := by rw [Hid, evj, amongV, hbv]
                      have HKW7 : Hid (∀ u, Kept wr.drew u → Kept w6 u) := fun u hu => Kept.trans hK7 (kd7 u hu)
                      subst e5
                      subst e6
                      clear hc5 hc6 c5 c6 hbv evj hp hK7
                      go_wp2_with fail
                      refine wp_region_seqL (by kernel_rfl) (by kernel_rfl) ?_
                      repeat (first
                        | (refine SeqL.skip (by rfl) ?_; simp only [Act.put, List.setIfInBounds_toArray, List.set_cons_zero, List.set_cons_succ])
                        | (refine SeqL.pure ?_ (by rfl) ?_ ?_; rotate_left; (focus (intro u hu; have y0' := y0 u hu; have y1' := y1 u hu; have y2' := y2 u hu; go_simp; first | done | exact rfl)); simp only [Act.put, List.setIfInBounds_toArray, List.set_cons_zero, List.set_cons_succ])
                        | (refine SeqL.call _ _ _ (by rfl) ?_ C1.out ?_; (focus (intro u; go_simp; done)); simp only [Act.put, List.setIfInBounds_toArray, List.set_cons_zero, List.set_cons_succ]))
                      refine SeqL.nil ?_
                      intro w8 hu8
                      have K8 := HKW7.out w8 hu8
                      have HK8 : Hid (Kept WX w8) := Kept.trans HK6.out K8
                      have m8 := (HX1.out _ HK8.out).cell 2
                      have hIn := l7In_ok w8 (some ⟨b1, o1, none⟩) bc bs bv (Ints.kept HB.out (Kept.trans HKX.out HK8.out)) hbl
                      have HK8' : Hid (Kept w6 w8) := K8
                      clear y0 y1 y2 C1 kd7 K8 hu8
                      by_cases h0 : (0 : Int) ≤ bv
                      · have hd0 : decide ((0 : Int) ≤ bv) = true := by simpa using h0
                        obtain ⟨r2, hr2⟩ : ∃ r2, decide (bv ∈ bs) = r2 := ⟨_, rfl⟩
                        rw [hr2] at hIn HAM
                        have HAM2 : Hid (amongV bs (hz sv j) = r2) := by
                          rw [Hid, HAM.out]
                          have : decide (bv < 0) = false := by simp; omega
                          rw [this, Bool.false_or]
                        clear h0 hr2
                        cases r2 with
                        | true =>
                          go_wp2_with (first | (go_at_call 62; refine hIn.mono ?_; rintro e wx ⟨rfl, rfl⟩))
                          go_roundw
                          case rel =>
                            refine ⟨j + 1, by go_num, by omega, fun i hi => ?_, HK8'.out⟩
                            rcases Nat.lt_or_ge i j with h | h
                            · exact HZ.out i h
                            · obtain rfl : i = j := by omega
                              exact HAM2.out
                          case measure => simp [intOf]; omega
                        | false =>
                          have HE : Hid (sweptR zs [] bs at' = false) := by rw [Hid, HS3.out]; exact holds_no hlt (by rw [HH2.out]; exact among_no hjv HAM2.out)
                          go_wp2_with (first | (go_at_call 62; refine hIn.mono ?_; rintro e wx ⟨rfl, rfl⟩))
                          go_ret
                          exact ⟨by rw [HE.out]; rfl, Kept.trans HKX.out HK8.out⟩
                      · have hd0 : decide ((0 : Int) ≤ bv) = false := by simpa using h0
                        have HAM2 : Hid (amongV bs (hz sv j) = true) := by
                          rw [Hid, HAM.out]
                          have : decide (bv < 0) = true := by simp; omega
                          rw [this, Bool.true_or]
                        clear h0 hIn
                        go_wp2_with fail
                        go_roundw
                        case rel =>
                          refine ⟨j + 1, by go_num, by omega, fun i hi => ?_, HK8'.out⟩
                          rcases Nat.lt_or_ge i j with h | h
                          · exact HZ.out i h
                          · obtain rfl : i = j := by omega
                            exact HAM2.out
                        case measure => simp [intOf]; omega
                    · obtain rfl : j = sl.length := by omega
                      have HHk : Hid (holdR zs bs (hz bs k) = true) := by rw [Hid, HH2.out]; exact among_yes (fun i hi => HZ.out i (by rw [HSL.out] at hi; exact hi))
                      clear hK7
                      go_wp2_with fail
                      go_roundw
                      case rel =>
                        refine ⟨k + 1, by go_num, by omega, fun j hj => ?_, HK7.out⟩
                        rcases Nat.lt_or_ge j k with h | h
                        · exact HY.out j h
                        · obtain rfl : j = k := by omega
                          exact HHk.out
                      case measure => simp [intOf]; omega
              · obtain rfl : k = bs.length := by omega
                have HE : Hid (sweptR zs [] bs at' = true) := by rw [Hid, HS3.out]; exact holds_yes HY.out
                have HK2 : Hid (Kept WX wr) := hK
                clear hK
                go_wp2_with fail
                go_ret
                exact ⟨by rw [HE.out]; rfl, Kept.trans HKX.out HK2.out⟩
  · have g1 : decide (0 < gs.length) = true := by
      have : gs.length ≠ 0 := fun h => hg (List.eq_nil_of_length_eq_zero h)
      simp
      omega
    have HE : Hid (sweptR zs gs bs at' = false) := by rw [Hid, sweptR]; simp [hg]
    clear hg HIs
    go_enter Tryz.func184, Tryz.ntmps184
    go_upto_region 1 with (fail)
    obtain ⟨WX, hWX⟩ : ∃ WX, (w.alloc (.cells #[.slice ao zs.length cap] 26)).alloc (.cells #[.int .i64 ph, .slice ga gs.length gc, .slice ba bs.length bc, .int .i64 at'] 101) = WX := ⟨_, rfl⟩
    rw [hWX] at b0 b1 k0
    simp only [hWX]
    have HX0 : Hid (∀ u, Kept WX u → Cells u w.heap.size 26 #[.slice ao zs.length cap]) := fun u hu => b0.kept hu
    have HX1 : Hid (∀ u, Kept WX u → Cells u (w.heap.size + 1) 101 #[.int .i64 ph, .slice ga gs.length gc, .slice ba bs.length bc, .int .i64 at']) := fun u hu => b1.kept hu
    have HKX : Hid (Kept w WX) := k0
    have m1 := (HX1.out WX (Below.refl _ _)).cell 1
    have m3 := (HX1.out WX (Below.refl _ _)).cell 3
    have s0 := (HX0.out WX (Below.refl _ _)).cell 0
    clear hWX b0 b1 k0
    go_wp2_with fail
    go_ret
    exact ⟨by rw [HE.out]; rfl, HKX.out⟩
end Go.Proofs.YtgnpllpinfhccaaGreatDoor
namespace Go.Proofs.YtgnpllpinfhccaaGreatDoor
open Go.RowKit
attribute [local go_sem] Plain.and7

theorem blackR_no {gs bs : List Int} {k : Nat} (hk : k < bs.length) (h : blackB gs bs k = false) : blackR gs bs = false := by
  cases hq : blackR gs bs with
  | false => rfl
  | true =>
    have := allR_iff.1 hq k hk
    rw [h] at this
    cases this
structure MkI (W : World) (ga ba : Option Addr) (gc bc : Nat) (gs bs : List Int) : Prop where
  g : Ints W ga gs
  b : Ints W ba bs
  gl : gs.length ≤ 1048576
  bl : bs.length ≤ 1048576
  gc : gs.length ≤ gc
  bc : bs.length ≤ bc
theorem MkI.kept {W W' : World} {ga ba : Option Addr} {gc bc : Nat} {gs bs : List Int} (h : MkI W ga ba gc bc gs bs) (hk : Kept W W') : MkI W' ga ba gc bc gs bs := ⟨h.g.kept hk, h.b.kept hk, h.gl, h.bl, h.gc, h.bc⟩
set_option maxHeartbeats 16000000 in
set_option maxRecDepth 100000 in
theorem spec_MarkerOk_ok (w : World) (ao ga ba : Option Addr) (cap gc bc : Nat) (zs gs bs : List Int) (ph at' : Int) (hI : Ints w ao zs) (hl : zs.length ≤ 1048576) (hm : MkI w ga ba gc bc gs bs) :
    Calls Tryz.prog 165 #[.agg #[.slice ao zs.length cap], .agg #[.int .i64 ph, .slice ga gs.length gc, .slice ba bs.length bc, .int .i64 at']] w fun e w' => e = .returned (.bool (markR zs ph gs bs at')) ∧ Kept w w' := by
  have hL : zs.length * 8 ≤ 140737488351232 := by omega
  have b0 := (Cells.new w 26 #[.slice ao zs.length cap]).alloc (.cells #[.int .i64 ph, .slice ga gs.length gc, .slice ba bs.length bc, .int .i64 at'] 101)
  have b1 := Cells.new (w.alloc (.cells #[.slice ao zs.length cap] 26)) 101 #[.int .i64 ph, .slice ga gs.length gc, .slice ba bs.length bc, .int .i64 at']
  have k0 : Kept w ((w.alloc (.cells #[.slice ao zs.length cap] 26)).alloc (.cells #[.int .i64 ph, .slice ga gs.length gc, .slice ba bs.length bc, .int .i64 at'] 101)) := (Kept.alloc (Below.refl _ _) _).alloc _
  simp only [World.size_alloc] at b1
  have HI : Hid (Ints w ao zs) := hI
  have HG : Hid (Ints w ga gs) := hm.g
  have HB : Hid (Ints w ba bs) := hm.b
  have hgl := hm.gl
  have hbl := hm.bl
  have hSO := fun (u : World) (hu : Kept w u) => spec_SlabOk_ok u ao cap zs (Ints.kept HI.out hu) hL
  cases hok : slabOk zs with
  | false =>
    have HE : Hid (markR zs ph gs bs at' = false) := by simp [Hid, markR, hok]
    rw [hok] at hSO
    clear hok hm hI
    go_enter Tryz.func165, Tryz.ntmps165
    go_upto_region 1 with (fail)
    obtain ⟨WX, hWX⟩ : ∃ WX, (w.alloc (.cells #[.slice ao zs.length cap] 26)).alloc (.cells #[.int .i64 ph, .slice ga gs.length gc, .slice ba bs.length bc, .int .i64 at'] 101) = WX := ⟨_, rfl⟩
    rw [hWX] at b0 b1 k0
    simp only [hWX]
    have HX0 : Hid (∀ u, Kept WX u → Cells u w.heap.size 26 #[.slice ao zs.length cap]) := fun u hu => b0.kept hu
    have HX1 : Hid (∀ u, Kept WX u → Cells u (w.heap.size + 1) 101 #[.int .i64 ph, .slice ga gs.length gc, .slice ba bs.length bc, .int .i64 at']) := fun u hu => b1.kept hu
    have HKX : Hid (Kept w WX) := k0
    have s0 := (HX0.out WX (Below.refl _ _)).cell 0
    clear hWX b0 b1 k0
    go_wp2_with (first | (go_at_call 109; refine (hSO _ HKX.out).mono ?_; rintro e w1 ⟨rfl, hk1⟩; have s1 := (HX0.out w1 hk1).cell 0; have m10 := (HX1.out w1 hk1).cell 0; have m11 := (HX1.out w1 hk1).cell 1))
    go_ret
    exact ⟨by rw [HE.out]; rfl, Kept.trans HKX.out hk1⟩
  | true =>
    rw [hok] at hSO
    by_cases hph : 0 ≤ ph ∧ ph ≤ 2
    · have hIn3 := fun (u : World) => l1In_yes ph 0 2 u hph.1 hph.2
      have hPG := fun (u : World) (hu : Kept w u) => l8Places_ok u ao ga cap gc zs gs (Ints.kept HI.out hu) hl hok (Ints.kept HG.out hu) hgl hm.gc
      have hPB := fun (u : World) (hu : Kept w u) => l8Places_ok u ao ba cap bc zs bs (Ints.kept HI.out hu) hl hok (Ints.kept HB.out hu) hbl hm.bc
      have tok1 : True := trivial
      cases hpg : placesR zs gs with
      | false =>
        have HE : Hid (markR zs ph gs bs at' = false) := by simp [Hid, markR, hpg]
        rw [hpg] at hPG
        clear hok hm hI hpg hph hPB
        go_enter Tryz.func165, Tryz.ntmps165
        go_upto_region 1 with (fail)
        obtain ⟨WX, hWX⟩ : ∃ WX, (w.alloc (.cells #[.slice ao zs.length cap] 26)).alloc (.cells #[.int .i64 ph, .slice ga gs.length gc, .slice ba bs.length bc, .int .i64 at'] 101) = WX := ⟨_, rfl⟩
        rw [hWX] at b0 b1 k0
        simp only [hWX]
        have HX0 : Hid (∀ u, Kept WX u → Cells u w.heap.size 26 #[.slice ao zs.length cap]) := fun u hu => b0.kept hu
        have HX1 : Hid (∀ u, Kept WX u → Cells u (w.heap.size + 1) 101 #[.int .i64 ph, .slice ga gs.length gc, .slice ba bs.length bc, .int .i64 at']) := fun u hu => b1.kept hu
        have HKX : Hid (Kept w WX) := k0
        have s0 := (HX0.out WX (Below.refl _ _)).cell 0
        clear hWX b0 b1 k0
        go_wp2_with (first | (go_at_call 109; refine (hSO _ HKX.out).mono ?_; rintro e w1 ⟨rfl, hk1⟩; have s1 := (HX0.out w1 hk1).cell 0; have m10 := (HX1.out w1 hk1).cell 0; have m11 := (HX1.out w1 hk1).cell 1) | (go_at_call 128; refine (hIn3 _).mono ?_; rintro e wx ⟨rfl, rfl⟩) | (go_at_call 183; have _t := tok1; refine (hPG _ (Kept.trans HKX.out hk1)).mono ?_; rintro e w2 ⟨rfl, hk2⟩; have hk12 : Kept WX w2 := Kept.trans hk1 hk2; have s2 := (HX0.out w2 hk12).cell 0; have m22 := (HX1.out w2 hk12).cell 2; clear tok1))
        go_ret
        exact ⟨by rw [HE.out]; rfl, Kept.trans HKX.out hk12⟩
      | true =>
        rw [hpg] at hPG
        cases hpb : placesR zs bs with
        | false =>
          have HE : Hid (markR zs ph gs bs at' = false) := by simp [Hid, markR, hpb]
          rw [hpb] at hPB
          clear hok hm hI hpg hpb hph
          go_enter Tryz.func165, Tryz.ntmps165
          go_upto_region 1 with (fail)
          obtain ⟨WX, hWX⟩ : ∃ WX, (w.alloc (.cells #[.slice ao zs.length cap] 26)).alloc (.cells #[.int .i64 ph, .slice ga gs.length gc, .slice ba bs.length bc, .int .i64 at'] 101) = WX := ⟨_, rfl⟩
          rw [hWX] at b0 b1 k0
          simp only [hWX]
          have HX0 : Hid (∀ u, Kept WX u → Cells u w.heap.size 26 #[.slice ao zs.length cap]) := fun u hu => b0.kept hu
          have HX1 : Hid (∀ u, Kept WX u → Cells u (w.heap.size + 1) 101 #[.int .i64 ph, .slice ga gs.length gc, .slice ba bs.length bc, .int .i64 at']) := fun u hu => b1.kept hu
          have HKX : Hid (Kept w WX) := k0
          have s0 := (HX0.out WX (Below.refl _ _)).cell 0
          clear hWX b0 b1 k0
          go_wp2_with (first | (go_at_call 109; refine (hSO _ HKX.out).mono ?_; rintro e w1 ⟨rfl, hk1⟩; have s1 := (HX0.out w1 hk1).cell 0; have m10 := (HX1.out w1 hk1).cell 0; have m11 := (HX1.out w1 hk1).cell 1) | (go_at_call 128; refine (hIn3 _).mono ?_; rintro e wx ⟨rfl, rfl⟩) | (go_at_call 183; have _t := tok1; refine (hPG _ (Kept.trans HKX.out hk1)).mono ?_; rintro e w2 ⟨rfl, hk2⟩; have hk12 : Kept WX w2 := Kept.trans hk1 hk2; have s2 := (HX0.out w2 hk12).cell 0; have m22 := (HX1.out w2 hk12).cell 2; clear tok1) | (go_at_call 183; refine (hPB _ (Kept.trans HKX.out hk12)).mono ?_; rintro e w3 ⟨rfl, hk3⟩; have hk13 : Kept WX w3 := Kept.trans hk12 hk3))
          go_ret
          exact ⟨by rw [HE.out]; rfl, Kept.trans HKX.out hk13⟩
        | true =>
          rw [hpb] at hPB
          have HR : Hid (markR zs ph gs bs at' = (blackR gs bs && (if ph = 0 then decide (gs = [] ∧ bs = []) && decide (at' = 0) && heapR zs else if ph = 1 then decide (at' = 0) && heapR zs else sweptR zs gs bs at'))) := by rw [Hid, markR, hok, hpg, hpb]; simp [hph]
          have HHe : Hid (∀ u, Kept w u → Calls Tryz.prog 59 #[.agg #[.slice ao zs.length cap]] u fun e w' => e = .returned (.bool (heapR zs)) ∧ Kept u w') := fun u hu => spec_HeapOk_ok u ao cap zs (Ints.kept HI.out hu) hl
          have HSw : Hid (∀ u, Kept w u → Calls Tryz.prog 184 #[.agg #[.slice ao zs.length cap], .agg #[.int .i64 ph, .slice ga gs.length gc, .slice ba bs.length bc, .int .i64 at']] u fun e w' => e = .returned (.bool (sweptR zs gs bs at')) ∧ Kept u w') := fun u hu => l8Swept_ok u ao ga ba cap gc bc zs gs bs ph at' (Ints.kept HI.out hu) hl hok (Ints.kept HB.out hu) hbl (places_iff.1 hpb)
          have HPh : Hid (0 ≤ ph ∧ ph ≤ 2) := hph
          clear hok hm hI hpg hpb hph
          go_enter Tryz.func165, Tryz.ntmps165
          go_upto_region 1 with (fail)
          obtain ⟨WX, hWX⟩ : ∃ WX, (w.alloc (.cells #[.slice ao zs.length cap] 26)).alloc (.cells #[.int .i64 ph, .slice ga gs.length gc, .slice ba bs.length bc, .int .i64 at'] 101) = WX := ⟨_, rfl⟩
          rw [hWX] at b0 b1 k0
          simp only [hWX]
          have HX0 : Hid (∀ u, Kept WX u → Cells u w.heap.size 26 #[.slice ao zs.length cap]) := fun u hu => b0.kept hu
          have HX1 : Hid (∀ u, Kept WX u → Cells u (w.heap.size + 1) 101 #[.int .i64 ph, .slice ga gs.length gc, .slice ba bs.length bc, .int .i64 at']) := fun u hu => b1.kept hu
          have HKX : Hid (Kept w WX) := k0
          have s0 := (HX0.out WX (Below.refl _ _)).cell 0
          clear hWX b0 b1 k0
          go_upto_region 3 with (first | (go_at_call 109; refine (hSO _ HKX.out).mono ?_; rintro e w1 ⟨rfl, hk1⟩; have s1 := (HX0.out w1 hk1).cell 0; have m10 := (HX1.out w1 hk1).cell 0; have m11 := (HX1.out w1 hk1).cell 1) | (go_at_call 128; refine (hIn3 _).mono ?_; rintro e wx ⟨rfl, rfl⟩) | (go_at_call 183; have _t := tok1; refine (hPG _ (Kept.trans HKX.out hk1)).mono ?_; rintro e w2 ⟨rfl, hk2⟩; have hk12 : Kept WX w2 := Kept.trans hk1 hk2; have s2 := (HX0.out w2 hk12).cell 0; have m22 := (HX1.out w2 hk12).cell 2; clear tok1) | (go_at_call 183; refine (hPB _ (Kept.trans HKX.out hk12)).mono ?_; rintro e w3 ⟨rfl, hk3⟩; have hk13 : Kept WX w3 := Kept.trans hk12 hk3))
          have HK3 : Hid (Kept WX w3) := hk13
          clear s0 s1 m10 m11 s2 m22 hk1 hk2 hk12 hk13 hk3 hSO hIn3 hPG hPB
          go_wp2_with fail
          go_loopw [5] (fun i wr => ∃ k : Nat, i = .int .i64 k ∧ k ≤ bs.length ∧ Hid (∀ j, j < k → blackB gs bs j = true) ∧ Kept WX wr) (fun i _ => bs.length - (intOf i).toNat)
          case atStart => exact ⟨0, rfl, Nat.zero_le _, fun j hj => by omega, HK3.out⟩
          case round =>
            obtain ⟨k, rfl, hk, HY, hK⟩ := hrel
            have m2 := (HX1.out _ hK).cell 2
            have m0 := (HX1.out _ hK).cell 0
            have m1 := (HX1.out _ hK).cell 1
            have m3 := (HX1.out _ hK).cell 3
            have s0 := (HX0.out _ hK).cell 0
            by_cases hlt : k < bs.length
            · obtain ⟨b1, o1, e1, hc1⟩ := Ints.at (Ints.kept HB.out (Kept.trans HKX.out hK)) hlt
              have c1 := hc1 k hlt
              have cp := hc1 (k - 1) (by omega)
              have lb1 : b1 < wr.heap.size := World.block_lt_of_cell? _ _ c1
              have kd7 : ∀ u, Kept wr.drew u → Kept wr u := fun u hu => Kept.trans (Below.refl _ wr).drew hu
              have y0 : ∀ u, Kept wr.drew u → u.cell? ⟨w.heap.size + 1, 1, none⟩ = some (.slice ga gs.length gc) := fun u hu => (HX1.out u (Kept.trans hK (kd7 u hu))).cell 1
              have y1 : ∀ u, Kept wr.drew u → u.cell? ⟨w.heap.size + 1, 2, none⟩ = some (.slice (some ⟨b1, o1, none⟩) bs.length bc) := fun u hu => by
                have := (HX1.out u (Kept.trans hK (kd7 u hu))).cell 2
                rw [e1] at this
                exact this
              have y2 : ∀ u, Kept wr.drew u → u.cell? ⟨b1, o1 + k, none⟩ = some (.int .i64 (hz bs k)) := fun u hu => ((kd7 u hu).cell (p := ⟨b1, o1 + k, none⟩) lb1).trans c1
              have y3 : ∀ u, Kept wr.drew u → u.cell? ⟨b1, o1 + (k - 1), none⟩ = some (.int .i64 (hz bs (k - 1))) := fun u hu => ((kd7 u hu).cell (p := ⟨b1, o1 + (k - 1), none⟩) lb1).trans cp
              have HKW : Hid (∀ u, Kept wr.drew u → Kept WX u) := fun u hu => Kept.trans hK (kd7 u hu)
              have q1 : (k : Int) < (bs.length : Int) := by omega
              have q0 : (0 : Int) ≤ (k : Int) := by omega
              obtain ⟨r, hr⟩ : ∃ r, decide (hz bs k ∈ gs) = r := ⟨_, rfl⟩
              have C1 : Hid (∀ u, Kept wr.drew u → Calls Tryz.prog 62 #[.slice ga gs.length gc, .int .i64 (hz bs k)] u fun e w' => e = .returned (.bool r) ∧ Kept u w') := fun u hu => by
                have := l7In_ok u ga gc gs (hz bs k) (Ints.kept HG.out (Kept.trans HKX.out (HKW.out u hu))) hgl
                rw [hr] at this
                exact calls_kept this
              have HBB : Hid (blackB gs bs k = (!r && (decide (k = 0) || decide (hz bs (k - 1) ≤ hz bs k)))) := by rw [Hid, blackB, hr]
              subst e1
              clear hc1 c1 cp hr hK m0 m1 m3 s0
              cases r with
              | true =>
                have HE : Hid (markR zs ph gs bs at' = false) := by rw [Hid, HR.out, blackR_no hlt (by rw [HBB.out]; rfl)]; rfl
                go_wp2_with fail
                refine wp_region_seqL (by kernel_rfl) (by kernel_rfl) ?_
                repeat (first
                  | (refine SeqL.skip (by rfl) ?_; simp only [Act.put, List.setIfInBounds_toArray, List.set_cons_zero, List.set_cons_succ])
                  | (refine SeqL.pure ?_ (by rfl) ?_ ?_; rotate_left; (focus (intro u hu; have y0' := y0 u hu; have y1' := y1 u hu; have y2' := y2 u hu; go_simp; first | done | exact rfl)); simp only [Act.put, List.setIfInBounds_toArray, List.set_cons_zero, List.set_cons_succ])
                  | (refine SeqL.call _ _ _ (by rfl) ?_ C1.out ?_; (focus (intro u; go_simp; done)); simp only [Act.put, List.setIfInBounds_toArray, List.set_cons_zero, List.set_cons_succ]))
                refine SeqL.nil ?_
                intro w5 hu5
                have K5 := Kept.trans HKX.out (HKW.out w5 hu5)
                clear y0 y1 y2 y3 C1 kd7
                go_wp2_with fail
                go_ret
                exact ⟨by rw [HE.out]; rfl, K5⟩
              | false =>
                cases k with
                | zero =>
                  have HB1 : Hid (blackB gs bs 0 = true) := by rw [Hid, HBB.out]; rfl
                  have y2z : ∀ u, Kept wr.drew u → u.cell? ⟨b1, o1, none⟩ = some (.int .i64 (hz bs 0)) := fun u hu => by simpa using y2 u hu
                  go_wp2_with fail
                  refine wp_region_seqL (by kernel_rfl) (by kernel_rfl) ?_
                  repeat (first
                    | (refine SeqL.skip (by rfl) ?_; simp only [Act.put, List.setIfInBounds_toArray, List.set_cons_zero, List.set_cons_succ])
                    | (refine SeqL.pure ?_ (by rfl) ?_ ?_; rotate_left; (focus (intro u hu; have y0' := y0 u hu; have y1' := y1 u hu; have y2' := y2 u hu; have y2z' := y2z u hu; go_simp; first | done | exact rfl)); simp only [Act.put, List.setIfInBounds_toArray, List.set_cons_zero, List.set_cons_succ])
                    | (refine SeqL.call _ _ _ (by rfl) ?_ C1.out ?_; (focus (intro u; go_simp; done)); simp only [Act.put, List.setIfInBounds_toArray, List.set_cons_zero, List.set_cons_succ]))
                  refine SeqL.nil ?_
                  intro w5 hu5
                  have K5 := HKW.out w5 hu5
                  clear y0 y1 y2 y2z y3 C1 kd7
                  go_wp2_with fail
                  go_roundw
                  case rel =>
                    refine ⟨1, by go_num, by omega, fun j hj => ?_, K5⟩
                    obtain rfl : j = 0 := by omega
                    exact HB1.out
                  case measure => simp [intOf]; omega
                | succ k =>
                  simp only [Nat.add_sub_cancel] at y3 HBB
                  have z1 : (0 : Int) < (k : Int) + 1 := by omega
                  have z2 : (k : Int) < (bs.length : Int) := by omega
                  have z3 : (0 : Int) ≤ (k : Int) := by omega
                  have wr1 : IntKind.i64.wrap ((k : Int) + 1 - 1) = (k : Int) := by rw [IntWalk.i64_left, IntWalk.wrap64_in _ (by omega)]; omega
                  have t1 : ((k : Int) + 1).toNat = k + 1 := by omega
                  have wr2 : IntKind.i64.wrap (((k + 1 : Nat) : Int) - 1) = (k : Int) := by rw [IntWalk.i64_left, IntWalk.wrap64_in _ (by omega)]; omega
                  have wr3 : IntKind.i64.wrap (k : Int) = (k : Int) := by rw [IntWalk.i64_left, IntWalk.wrap64_in _ (by omega)]
                  have t2 : ((k : Int)).toNat = k := by omega
                  by_cases hle : hz bs k ≤ hz bs (k + 1)
                  · have hd : decide (hz bs (k + 1) < hz bs k) = false := by simp; omega
                    have HB1 : Hid (blackB gs bs (k + 1) = true) := by rw [Hid, HBB.out]; simp [hle]
                    clear hle
                    go_wp2_with fail
                    refine wp_region_seqL (by kernel_rfl) (by kernel_rfl) ?_
                    repeat (first
                      | (refine SeqL.skip (by rfl) ?_; simp only [Act.put, List.setIfInBounds_toArray, List.set_cons_zero, List.set_cons_succ])
                      | (refine SeqL.pure ?_ (by rfl) ?_ ?_; rotate_left; (focus (intro u hu; have y0' := y0 u hu; have y1' := y1 u hu; have y2' := y2 u hu; have y3' := y3 u hu; go_simp; first | done | exact rfl)); simp only [Act.put, List.setIfInBounds_toArray, List.set_cons_zero, List.set_cons_succ])
                      | (refine SeqL.call _ _ _ (by rfl) ?_ C1.out ?_; (focus (intro u; go_simp; done)); simp only [Act.put, List.setIfInBounds_toArray, List.set_cons_zero, List.set_cons_succ]))
                    refine SeqL.nil ?_
                    intro w5 hu5
                    have K5 := HKW.out w5 hu5
                    clear y0 y1 y2 y3 C1 kd7
                    go_wp2_with fail
                    go_roundw
                    case rel =>
                      refine ⟨k + 1 + 1, by go_num, by omega, fun j hj => ?_, K5⟩
                      rcases Nat.lt_or_ge j (k + 1) with h | h
                      · exact HY.out j h
                      · obtain rfl : j = k + 1 := by omega
                        exact HB1.out
                    case measure => simp [intOf]; omega
                  · have hd : decide (hz bs (k + 1) < hz bs k) = true := by simp; omega
                    have HE : Hid (markR zs ph gs bs at' = false) := by rw [Hid, HR.out, blackR_no hlt (by rw [HBB.out]; simp [hle])]; rfl
                    clear hle
                    go_wp2_with fail
                    refine wp_region_seqL (by kernel_rfl) (by kernel_rfl) ?_
                    repeat (first
                      | (refine SeqL.skip (by rfl) ?_; simp only [Act.put, List.setIfInBounds_toArray, List.set_cons_zero, List.set_cons_succ])
                      | (refine SeqL.pure ?_ (by rfl) ?_ ?_; rotate_left; (focus (intro u hu; have y0' := y0 u hu; have y1' := y1 u hu; have y2' := y2 u hu; have y3' := y3 u hu; go_simp; first | done | exact rfl)); simp only [Act.put, List.setIfInBounds_toArray, List.set_cons_zero, List.set_cons_succ])
                      | (refine SeqL.call _ _ _ (by rfl) ?_ C1.out ?_; (focus (intro u; go_simp; done)); simp only [Act.put, List.setIfInBounds_toArray, List.set_cons_zero, List.set_cons_succ]))
                    refine SeqL.nil ?_
                    intro w5 hu5
                    have K5 := Kept.trans HKX.out (HKW.out w5 hu5)
                    clear y0 y1 y2 y3 C1 kd7
                    go_wp2_with fail
                    go_ret
                    exact ⟨by rw [HE.out]; rfl, K5⟩
            · obtain rfl : k = bs.length := by omega
              have HR2 : Hid (markR zs ph gs bs at' = (if ph = 0 then decide (gs = [] ∧ bs = []) && decide (at' = 0) && heapR zs else if ph = 1 then decide (at' = 0) && heapR zs else sweptR zs gs bs at')) := by
                rw [Hid, HR.out, show blackR gs bs = true from allR_iff.2 HY.out]
                rfl
              have HK5 : Hid (Kept WX wr) := hK
              have hHe := HHe.out wr (Kept.trans HKX.out hK)
              have hSw := HSw.out wr (Kept.trans HKX.out hK)
              clear hK
              rcases (show ph = 0 ∨ ph = 1 ∨ ph = 2 by have := HPh.out; omega) with h | h | h
              · have HR3 : Hid (markR zs ph gs bs at' = (decide (gs = [] ∧ bs = []) && decide (at' = 0) && heapR zs)) := by rw [Hid, HR2.out, if_pos h]
                subst h
                by_cases hg : gs = [] ∧ bs = []
                · have hsum : ((gs.length : Int) + (bs.length : Int) == 0) = true := by rw [hg.1, hg.2]; rfl
                  have g0 : gs.length = 0 := by rw [hg.1]; rfl
                  have g1 : bs.length = 0 := by rw [hg.2]; rfl
                  by_cases ha : at' = 0
                  · have hda : (at' == 0) = true := by simpa using ha
                    have HE : Hid (markR zs 0 gs bs at' = heapR zs) := by rw [Hid, HR3.out]; simp [hg, ha]
                    clear ha hg g0 g1
                    go_wp2_with (go_at_call 59; refine hHe.mono ?_; rintro e w9 ⟨rfl, hk9⟩)
                    go_ret
                    exact ⟨by rw [HE.out]; rfl, Kept.trans HKX.out (Kept.trans HK5.out hk9)⟩
                  · have hda : (at' == 0) = false := by simpa using ha
                    have HE : Hid (markR zs 0 gs bs at' = false) := by rw [Hid, HR3.out]; simp [ha]
                    clear ha hg g0 g1
                    go_wp2_with fail
                    go_ret
                    exact ⟨by rw [HE.out]; rfl, Kept.trans HKX.out HK5.out⟩
                · have hsum : ((gs.length : Int) + (bs.length : Int) == 0) = false := by
                    have : ¬ (gs.length = 0 ∧ bs.length = 0) := fun h => hg ⟨List.eq_nil_of_length_eq_zero h.1, List.eq_nil_of_length_eq_zero h.2⟩
                    simp
                    omega
                  have HE : Hid (markR zs 0 gs bs at' = false) := by rw [Hid, HR3.out]; simp [hg]
                  clear hg
                  go_wp2_with fail
                  go_ret
                  exact ⟨by rw [HE.out]; rfl, Kept.trans HKX.out HK5.out⟩
              · have HR3 : Hid (markR zs ph gs bs at' = (decide (at' = 0) && heapR zs)) := by rw [Hid, HR2.out, if_neg (by omega), if_pos h]
                subst h
                by_cases ha : at' = 0
                · have hda : (at' == 0) = true := by simpa using ha
                  have HE : Hid (markR zs 1 gs bs at' = heapR zs) := by rw [Hid, HR3.out]; simp [ha]
                  clear ha
                  go_wp2_with (go_at_call 59; refine hHe.mono ?_; rintro e w9 ⟨rfl, hk9⟩)
                  go_ret
                  exact ⟨by rw [HE.out]; rfl, Kept.trans HKX.out (Kept.trans HK5.out hk9)⟩
                · have hda : (at' == 0) = false := by simpa using ha
                  have HE : Hid (markR zs 1 gs bs at' = false) := by rw [Hid, HR3.out]; simp [ha]
                  clear ha
                  go_wp2_with fail
                  go_ret
                  exact ⟨by rw [HE.out]; rfl, Kept.trans HKX.out HK5.out⟩
              · have HE : Hid (markR zs ph gs bs at' = sweptR zs gs bs at') := by rw [Hid, HR2.out, if_neg (by omega), if_neg (by omega)]
                subst h
                go_wp2_with (go_at_call 184; refine hSw.mono ?_; rintro e w9 ⟨rfl, hk9⟩)
                go_ret
                exact ⟨by rw [HE.out]; rfl, Kept.trans HKX.out (Kept.trans HK5.out hk9)⟩
    · have hIn3 := fun (u : World) => l1In_no ph 0 2 u (by omega)
      have HE : Hid (markR zs ph gs bs at' = false) := by simp [Hid, markR, hph]
      clear hok hm hI hph
      go_enter Tryz.func165, Tryz.ntmps165
      go_upto_region 1 with (fail)
      obtain ⟨WX, hWX⟩ : ∃ WX, (w.alloc (.cells #[.slice ao zs.length cap] 26)).alloc (.cells #[.int .i64 ph, .slice ga gs.length gc, .slice ba bs.length bc, .int .i64 at'] 101) = WX := ⟨_, rfl⟩
      rw [hWX] at b0 b1 k0
      simp only [hWX]
      have HX0 : Hid (∀ u, Kept WX u → Cells u w.heap.size 26 #[.slice ao zs.length cap]) := fun u hu => b0.kept hu
      have HX1 : Hid (∀ u, Kept WX u → Cells u (w.heap.size + 1) 101 #[.int .i64 ph, .slice ga gs.length gc, .slice ba bs.length bc, .int .i64 at']) := fun u hu => b1.kept hu
      have HKX : Hid (Kept w WX) := k0
      have s0 := (HX0.out WX (Below.refl _ _)).cell 0
      clear hWX b0 b1 k0
      go_wp2_with (first | (go_at_call 109; refine (hSO _ HKX.out).mono ?_; rintro e w1 ⟨rfl, hk1⟩; have s1 := (HX0.out w1 hk1).cell 0; have m10 := (HX1.out w1 hk1).cell 0; have m11 := (HX1.out w1 hk1).cell 1) | (go_at_call 128; refine (hIn3 _).mono ?_; rintro e wx ⟨rfl, rfl⟩))
      go_ret
      exact ⟨by rw [HE.out]; rfl, Kept.trans HKX.out hk1⟩
end Go.Proofs.YtgnpllpinfhccaaGreatDoor
namespace Go.Proofs.YtgnpllpinfhccaaGreatDoor
open Go.RowKit
attribute [local go_sem] Plain.and7

theorem markR_met {zs gs bs : List Int} {ph at' : Int} (h : markR zs ph gs bs at' = true) : slabOk zs = true ∧ Met zs gs ∧ Met zs bs ∧ (0 ≤ ph ∧ ph ≤ 2) := by
  unfold markR at h
  simp only [Bool.and_eq_true, decide_eq_true_eq] at h
  exact ⟨h.1.1.1.1.1, places_iff.1 h.1.1.1.2, places_iff.1 h.1.1.2, h.1.1.1.1.2⟩
theorem markR_heap {zs gs bs : List Int} {at' : Int} (h : markR zs 1 gs bs at' = true) : heapR zs = true := by
  unfold markR at h
  simp at h
  exact h.2.2
end Go.Proofs.YtgnpllpinfhccaaGreatDoor
