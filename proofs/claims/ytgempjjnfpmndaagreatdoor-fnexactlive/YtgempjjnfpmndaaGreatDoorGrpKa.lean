/-
  The contracts of chapter 8's models l8Places and l8Insert.
  Facts on lists: when a marker is right (chapter 8).
-/
import Derived.Laws.AppendOwnNone
import Derived.Test.YtgempjjnfpmndaaGreatDoorGrpRc
namespace Go.Proofs.YtgempjjnfpmndaaGreatDoor
open Go.RowKit
attribute [local go_sem] Plain.and7

def plAt (zs l : List Int) (i : Nat) : Bool := decide (1 ≤ kindAt zs (hz l i)) && !decide (hz l i ∈ l.take i)
/-- Places of blocks that are not free, none twice. -/
def placesR (zs l : List Int) : Bool := allR (plAt zs l) l.length
theorem hz_get {l : List Int} {i : Nat} (h : i < l.length) : hz l i = l[i] := by unfold hz; rw [List.getElem?_eq_getElem h]; rfl
theorem places_iff {zs l : List Int} : placesR zs l = true ↔ Met zs l := by
  unfold placesR
  rw [allR_iff]
  constructor
  · intro h
    refine ⟨List.pairwise_iff_getElem.2 fun i j hi hj hij e => ?_, fun a ha => ?_⟩
    · have := h j hj
      unfold plAt at this
      simp only [Bool.and_eq_true, Bool.not_eq_true', decide_eq_false_iff_not] at this
      refine this.2 ?_
      rw [hz_get hj, ← e]
      exact List.mem_take_iff_getElem.2 ⟨i, by omega, rfl⟩
    · obtain ⟨i, hi, e⟩ := List.getElem_of_mem ha
      have := h i hi
      unfold plAt at this
      simp only [Bool.and_eq_true, decide_eq_true_eq] at this
      rw [hz_get hi, e] at this
      exact this.1
  · intro h i hi
    unfold plAt
    simp only [Bool.and_eq_true, Bool.not_eq_true', decide_eq_true_eq, decide_eq_false_iff_not]
    refine ⟨h.2 _ (hz_mem hi), fun hm => ?_⟩
    obtain ⟨j, hj, e⟩ := List.mem_take_iff_getElem.1 hm
    rw [hz_get hi] at e
    have := List.pairwise_iff_getElem.1 h.1 j i (by omega) hi (by omega)
    exact this e
theorem isAt_kind {zs : List Int} {x : Int} (h : isAt zs x = true) : ∃ p : Nat, x = p ∧ p < zs.length ∧ kindAt zs x = hz zs p % 8 := by
  unfold isAt at h
  cases hb : atB zs x with
  | none => rw [hb] at h; cases h
  | some b =>
    obtain ⟨_, e, hg, _, hk, _⟩ := atB_some hb
    refine ⟨b.1.at', e.symm, hg.lt, ?_⟩
    unfold kindAt
    rw [hb, ← kdI, ← hk]
theorem isAt_no {zs : List Int} {x : Int} (h : isAt zs x = false) : ¬ 1 ≤ kindAt zs x := by
  unfold isAt at h
  cases hb : atB zs x with
  | none => unfold kindAt; rw [hb]; simp
  | some b => rw [hb] at h; cases h
theorem placesR_no {zs l : List Int} {k : Nat} (hk : k < l.length) (h : plAt zs l k = false) : placesR zs l = false := by
  cases hp : placesR zs l with
  | false => rfl
  | true =>
    have := allR_iff.1 hp k hk
    rw [h] at this
    cases this
set_option maxHeartbeats 16000000 in
set_option maxRecDepth 100000 in
theorem l8Places_ok (w : World) (ao ro : Option Addr) (cap rc : Nat) (zs l : List Int) (hI : Ints w ao zs) (hl : zs.length ≤ 1048576) (hok : slabOk zs = true) (hR : Ints w ro l) (hrl : l.length ≤ 1048576) (hrc : l.length ≤ rc) :
    Calls Tryz.prog 116 #[.agg #[.slice ao zs.length cap], .slice ro l.length rc] w fun e w' => e = .returned (.bool (placesR zs l)) ∧ Kept w w' := by
  have b0 := Cells.new w 39 #[.slice ao zs.length cap]
  have k0 : Kept w (w.alloc (.cells #[.slice ao zs.length cap] 39)) := Kept.alloc (Below.refl _ _) _
  have HI : Hid _ := hI
  have HR : Hid _ := hR
  have HO : Hid _ := hok
  clear hI hR hok
  go_enter Tryz.func116, Tryz.ntmps116
  go_wp2_with fail
  obtain ⟨WX, hWX⟩ : ∃ WX, w.alloc (.cells #[.slice ao zs.length cap] 39) = WX := ⟨_, rfl⟩
  rw [hWX] at b0 k0
  simp only [hWX]
  clear hWX
  have HbX : Hid _ := b0
  have HKX : Hid _ := k0
  clear b0 k0
  go_loopw [5] (fun i wr => ∃ k : Nat, i = .int .i64 k ∧ k ≤ l.length ∧ (∀ j, j < k → plAt zs l j = true) ∧ Kept WX wr) (fun i _ => l.length - (intOf i).toNat)
  case atStart => exact ⟨0, rfl, Nat.zero_le _, fun j hj => by omega, Below.refl _ _⟩
  case round =>
    obtain ⟨k, rfl, hk, hyes, hKX⟩ := hrel
    have HY : Hid _ := hyes
    clear hyes
    by_cases hlt : k < l.length
    · obtain ⟨b5, o5, e5, hc5⟩ := Ints.at (Ints.kept HR.out (Kept.trans HKX.out hKX)) hlt
      have c5 := hc5 k hlt
      have l5 : b5 < wr.heap.size := World.block_lt_of_cell? _ _ c5
      obtain ⟨x, hx⟩ : ∃ x, hz l k = x := ⟨_, rfl⟩
      rw [hx] at c5
      have hpl : plAt zs l k = (decide (1 ≤ kindAt zs x) && !decide (x ∈ l.take k)) := by unfold plAt; rw [hx]
      have HPl : Hid _ := hpl
      have hltk : (l.take k).length = k := by rw [List.length_take]; omega
      have HTK : Hid (Ints WX ro (l.take k)) := by
        refine ⟨fun z hz' => HR.out.1 z (List.mem_of_mem_take hz'), ?_⟩
        rcases (Ints.kept HR.out HKX.out).2 with h | ⟨b, o, e, hc⟩
        · left; rw [h]; simp
        · refine .inr ⟨b, o, e, fun j hj => ?_⟩
          rw [hltk] at hj
          rw [hc j (by omega)]
          congr 2
          unfold hz
          rw [List.getElem?_take_of_lt hj]
      have kd7 : ∀ u, Kept wr.drew u → Kept wr u := fun u hu => Kept.trans (Below.refl _ wr).drew hu
      have y0 : ∀ u, Kept wr.drew u → u.cell? ⟨w.heap.size, 0, none⟩ = some (.slice ao zs.length cap) := fun u hu => (Cells.kept HbX.out (Kept.trans hKX (kd7 u hu))).cell 0
      have y1 : ∀ u, Kept wr.drew u → u.cell? ⟨b5, o5 + k, none⟩ = some (.int .i64 x) := fun u hu => ((kd7 u hu).cell (p := ⟨b5, o5 + k, none⟩) l5).trans c5
      have KW : ∀ u, Kept wr.drew u → Kept w u := fun u hu => Kept.trans HKX.out (Kept.trans hKX (kd7 u hu))
      have HKW : Hid _ := KW
      have HKx : Hid (∀ u, Kept wr.drew u → Kept WX u) := fun u hu => Kept.trans hKX (kd7 u hu)
      have q1 : (k : Int) < (l.length : Int) := by omega
      have q0 : (0 : Int) ≤ (k : Int) := by omega
      have q2 : (k : Int) ≤ (rc : Int) := by omega
      have q3 : k ≤ rc := by omega
      have q4 : (k : Int) ≤ (l.length : Int) := by omega
      have hlk : (l.take k).length ≤ 1048576 := by omega
      subst e5
      clear hc5 c5 hx hpl KW
      cases hi : isAt zs x with
      | false =>
        have C1 : Hid (∀ u, Kept wr.drew u → Calls Tryz.prog 156 #[.agg #[.slice ao zs.length cap], .int .i64 x] u fun e w' => e = .returned (.bool false) ∧ Kept u w') := fun u hu => by have := l2Is_ok u ao cap zs x (Ints.kept HI.out (HKW.out u hu)) (by omega) HO.out; rw [hi] at this; exact this
        have HNo : Hid (placesR zs l = false) := placesR_no hlt (by rw [HPl.out]; simp [isAt_no hi])
        have HKr : Hid _ := hKX
        clear hi hltk hKX
        go_wp2_with fail
        refine wp_region_seqL (by kernel_rfl) (by kernel_rfl) ?_
        repeat (first
          | (refine SeqL.skip (by rfl) ?_; simp only [Act.put, List.setIfInBounds_toArray, List.set_cons_zero, List.set_cons_succ])
          | (refine SeqL.pure ?_ (by rfl) ?_ ?_; rotate_left; (focus (intro u hu; have y0' := y0 u hu; have y1' := y1 u hu; go_simp; first | done | exact rfl)); simp only [Act.put, List.setIfInBounds_toArray, List.set_cons_zero, List.set_cons_succ])
          | (refine SeqL.call _ _ _ (by rfl) ?_ C1.out ?_; (focus (intro u; go_simp; done)); simp only [Act.put, List.setIfInBounds_toArray, List.set_cons_zero, List.set_cons_succ]))
        refine SeqL.nil ?_
        intro w5 hu5
        have K5 := HKW.out w5 hu5
        clear y0 y1 C1 kd7
        go_wp2_with fail
        go_ret
        exact ⟨by rw [HNo.out]; rfl, K5⟩
      | true =>
        obtain ⟨p, rfl, hpl, hkd⟩ := isAt_kind hi
        have C1 : Hid (∀ u, Kept wr.drew u → Calls Tryz.prog 156 #[.agg #[.slice ao zs.length cap], .int .i64 (p : Int)] u fun e w' => e = .returned (.bool true) ∧ Kept u w') := fun u hu => by have := l2Is_ok u ao cap zs (p : Int) (Ints.kept HI.out (HKW.out u hu)) (by omega) HO.out; rw [hi] at this; exact this
        obtain ⟨b6, o6, e6, hc6⟩ := Ints.at HI.out hpl
        have c6 := hc6 p hpl
        have l6 : b6 < w.heap.size := World.block_lt_of_cell? _ _ c6
        have y2 : ∀ u, Kept wr.drew u → u.cell? ⟨b6, o6 + p, none⟩ = some (.int .i64 (hz zs p)) := fun u hu => ((HKW.out u hu).cell (p := ⟨b6, o6 + p, none⟩) l6).trans c6
        have C2 : Hid (∀ u, Kept wr.drew u → Calls Tryz.prog 121 #[.int .i64 (hz zs p)] u fun e w' => e = .returned (.int .i64 (hz zs p % 8)) ∧ Kept u w') := fun u _ => calls_kept (l2Kind_ok (hz zs p) u)
        have g3 : (p : Int) < (zs.length : Int) := by omega
        have g4 : (0 : Int) ≤ (p : Int) := by omega
        have g5 : ((p : Int)).toNat = p := by omega
        subst e6
        clear hc6 c6 hi
        by_cases hk0 : hz zs p % 8 = 0
        · have hd : (hz zs p % 8 == 0) = true := by simpa using hk0
          have HNo : Hid (placesR zs l = false) := placesR_no hlt (by rw [HPl.out, hkd, hk0]; simp)
          clear hk0 hkd hltk hKX
          go_wp2_with fail
          refine wp_region_seqL (by kernel_rfl) (by kernel_rfl) ?_
          repeat (first
            | (refine SeqL.skip (by rfl) ?_; simp only [Act.put, List.setIfInBounds_toArray, List.set_cons_zero, List.set_cons_succ])
            | (refine SeqL.pure ?_ (by rfl) ?_ ?_; rotate_left; (focus (intro u hu; have y0' := y0 u hu; have y1' := y1 u hu; have y2' := y2 u hu; go_simp; first | done | exact rfl)); simp only [Act.put, List.setIfInBounds_toArray, List.set_cons_zero, List.set_cons_succ])
            | (refine SeqL.call _ _ _ (by rfl) ?_ C1.out ?_; (focus (intro u; go_simp; done)); simp only [Act.put, List.setIfInBounds_toArray, List.set_cons_zero, List.set_cons_succ])
            | (refine SeqL.call _ _ _ (by rfl) ?_ C2.out ?_; (focus (intro u; go_simp; done)); simp only [Act.put, List.setIfInBounds_toArray, List.set_cons_zero, List.set_cons_succ]))
          refine SeqL.nil ?_
          intro w5 hu5
          have K5 := HKW.out w5 hu5
          clear y0 y1 y2 C1 C2 kd7
          go_wp2_with fail
          go_ret
          exact ⟨by rw [HNo.out]; rfl, K5⟩
        · have hd : (hz zs p % 8 == 0) = false := by simpa using hk0
          have hk1 : decide (1 ≤ kindAt zs (p : Int)) = true := by rw [hkd]; simp; omega
          obtain ⟨r, hr⟩ : ∃ r, decide ((p : Int) ∈ l.take k) = r := ⟨_, rfl⟩
          have HPl2 : Hid (plAt zs l k = !r) := by rw [Hid, HPl.out, hk1, hr]; simp
          have C3 : Hid (∀ u, Kept wr.drew u → Calls Tryz.prog 76 #[.slice (some ⟨b5, o5, none⟩) k rc, .int .i64 (p : Int)] u fun e w' => e = .returned (.bool r) ∧ Kept u w') := fun u hu => by
            have := l7In_ok u (some ⟨b5, o5, none⟩) rc (l.take k) (p : Int) (Ints.kept HTK.out (HKx.out u hu)) hlk
            rw [hltk, hr] at this
            exact calls_kept this
          have HKr : Hid _ := hKX
          clear hk0 hkd hltk hKX hk1 hr
          cases r with
          | true =>
            have HNo : Hid (placesR zs l = false) := placesR_no hlt HPl2.out
            go_wp2_with fail
            refine wp_region_seqL (by kernel_rfl) (by kernel_rfl) ?_
            repeat (first
              | (refine SeqL.skip (by rfl) ?_; simp only [Act.put, List.setIfInBounds_toArray, List.set_cons_zero, List.set_cons_succ])
              | (refine SeqL.pure ?_ (by rfl) ?_ ?_; rotate_left; (focus (intro u hu; have y0' := y0 u hu; have y1' := y1 u hu; have y2' := y2 u hu; go_simp; first | done | exact rfl)); simp only [Act.put, List.setIfInBounds_toArray, List.set_cons_zero, List.set_cons_succ])
              | (refine SeqL.call _ _ _ (by rfl) ?_ C1.out ?_; (focus (intro u; go_simp; done)); simp only [Act.put, List.setIfInBounds_toArray, List.set_cons_zero, List.set_cons_succ])
              | (refine SeqL.call _ _ _ (by rfl) ?_ C2.out ?_; (focus (intro u; go_simp; done)); simp only [Act.put, List.setIfInBounds_toArray, List.set_cons_zero, List.set_cons_succ])
              | (refine SeqL.call _ _ _ (by rfl) ?_ C3.out ?_; (focus (intro u; go_simp; done)); simp only [Act.put, List.setIfInBounds_toArray, List.set_cons_zero, List.set_cons_succ]))
            refine SeqL.nil ?_
            intro w5 hu5
            have K5 := HKW.out w5 hu5
            clear y0 y1 y2 C1 C2 C3 kd7
            go_wp2_with fail
            go_ret
            exact ⟨by rw [HNo.out]; rfl, K5⟩
          | false =>
            go_wp2_with fail
            refine wp_region_seqL (by kernel_rfl) (by kernel_rfl) ?_
            repeat (first
              | (refine SeqL.skip (by rfl) ?_; simp only [Act.put, List.setIfInBounds_toArray, List.set_cons_zero, List.set_cons_succ])
              | (refine SeqL.pure ?_ (by rfl) ?_ ?_; rotate_left; (focus (intro u hu; have y0' := y0 u hu; have y1' := y1 u hu; have y2' := y2 u hu; go_simp; first | done | exact rfl)); simp only [Act.put, List.setIfInBounds_toArray, List.set_cons_zero, List.set_cons_succ])
              | (refine SeqL.call _ _ _ (by rfl) ?_ C1.out ?_; (focus (intro u; go_simp; done)); simp only [Act.put, List.setIfInBounds_toArray, List.set_cons_zero, List.set_cons_succ])
              | (refine SeqL.call _ _ _ (by rfl) ?_ C2.out ?_; (focus (intro u; go_simp; done)); simp only [Act.put, List.setIfInBounds_toArray, List.set_cons_zero, List.set_cons_succ])
              | (refine SeqL.call _ _ _ (by rfl) ?_ C3.out ?_; (focus (intro u; go_simp; done)); simp only [Act.put, List.setIfInBounds_toArray, List.set_cons_zero, List.set_cons_succ]))
            refine SeqL.nil ?_
            intro w5 hu5
            have K5 := HKx.out w5 hu5
            clear y0 y1 y2 C1 C2 C3 kd7
            go_wp2_with fail
            go_roundw
            case rel =>
              refine ⟨k + 1, by go_num, by omega, fun j hj => ?_, K5⟩
              rcases Nat.lt_or_ge j k with h | h
              · exact HY.out j h
              · have : j = k := by omega
                subst this
                exact HPl2.out
            case measure => simp [intOf]; omega
    · obtain rfl : k = l.length := by omega
      have HYes : Hid (placesR zs l = true) := allR_iff.2 HY.out
      have HKr : Hid _ := hKX
      clear hKX
      go_wp2_with fail
      go_ret
      exact ⟨by rw [HYes.out]; rfl, Kept.trans HKX.out HKr.out⟩
end Go.Proofs.YtgempjjnfpmndaaGreatDoor
namespace Go.Proofs.YtgempjjnfpmndaaGreatDoor
open Go.RowKit

/-- A block that is free, black, or not ahead of a place. -/
def passB (bs : List Int) (at' : Int) (a kind : Nat) : Bool := decide (at' ≤ (a : Int)) || decide (kind = 0) || decide ((a : Int) ∈ bs)
def passR (zs bs : List Int) (at' : Int) : Bool := (blocks zs).all (fun b => passB bs at' b.1.at' b.1.kind)
/-- Ahead of k all blocks pass. -/
def Passed (zs bs : List Int) (at' : Int) (k : Nat) : Prop := ∃ pre, pre ++ blks zs k = blocks zs ∧ (∀ b ∈ pre, b.1.at' + b.1.size ≤ k) ∧ ∀ b ∈ pre, passB bs at' b.1.at' b.1.kind = true
theorem Passed.zero (zs bs : List Int) (at' : Int) : Passed zs bs at' 0 := ⟨[], rfl, by simp, by simp⟩
theorem Passed.next {zs bs : List Int} {at' : Int} {k : Nat} (h : Passed zs bs at' k) (hg : Good zs k) (hp : passB bs at' k (kd zs k) = true) : Passed zs bs at' (k + sz zs k) := by
  obtain ⟨pre, h1, h2, h3⟩ := h
  have hs2 := hg.sz2
  refine ⟨pre ++ [⟨⟨k, sz zs k, kd zs k⟩, hg.sz2, hg.le, hg.kd5⟩], ?_, fun b hb => ?_, fun b hb => ?_⟩
  · rw [← h1, blks_yes hg, List.append_assoc]; rfl
  · rcases List.mem_append.1 hb with h | h
    · have := h2 b h; omega
    · simp at h; subst h; exact Nat.le_refl _
  · rcases List.mem_append.1 hb with h | h
    · exact h3 b h
    · simp at h; subst h; exact hp
theorem blks_from (zs : List Int) : ∀ (k : Nat), ∀ b ∈ blks zs k, k ≤ b.1.at' := by
  intro k
  refine blks_ind zs (P := fun k => ∀ b ∈ blks zs k, k ≤ b.1.at') (fun k hg ih b hb => ?_) (fun k hg b hb => ?_) k
  · rw [blks_yes hg] at hb
    rcases List.mem_cons.1 hb with rfl | h
    · exact Nat.le_refl _
    · have := ih b h; omega
  · rw [blks_no hg] at hb; simp at hb
theorem Passed.ends {zs bs : List Int} {at' : Int} {k : Nat} (h : Passed zs bs at' k) (hk : at' ≤ (k : Int)) : passR zs bs at' = true := by
  obtain ⟨pre, h1, _, h3⟩ := h
  unfold passR
  rw [← h1, List.all_append, Bool.and_eq_true, List.all_eq_true, List.all_eq_true]
  refine ⟨h3, fun b hb => ?_⟩
  have := blks_from zs k b hb
  unfold passB
  have hd : decide (at' ≤ (b.1.at' : Int)) = true := by simp; omega
  rw [hd]
  rfl
theorem Passed.fails {zs bs : List Int} {at' : Int} {k : Nat} (h : Passed zs bs at' k) (hg : Good zs k) (hp : passB bs at' k (kd zs k) = false) : passR zs bs at' = false := by
  obtain ⟨pre, h1, _, _⟩ := h
  cases hq : passR zs bs at' with
  | false => rfl
  | true =>
    unfold passR at hq
    have := List.all_eq_true.1 hq ⟨⟨k, sz zs k, kd zs k⟩, hg.sz2, hg.le, hg.kd5⟩ (by rw [← h1, blks_yes hg]; simp)
    rw [hp] at this
    cases this
/-- A value leads to nothing, or to one of these. -/
def amongV (bs : List Int) (v : Int) : Bool := decide (blkV v < 0) || decide (blkV v ∈ bs)
/-- A black block is right, and leads to black ones alone. -/
def holdR (zs bs : List Int) (a : Int) : Bool := blkR zs a.toNat (sz zs a.toNat) (kd zs a.toNat) && (slotV zs a).all (amongV bs)
def sweptR (zs gs bs : List Int) (at' : Int) : Bool := decide (gs = []) && (decide (at' = (zs.length : Int)) || isAt zs at') && passR zs bs at' && bs.all (holdR zs bs)
/-- What MarkerOk asks of black places beside that they are places. -/
def blackB (gs bs : List Int) (i : Nat) : Bool := !decide (hz bs i ∈ gs) && (decide (i = 0) || decide (hz bs (i - 1) ≤ hz bs i))
def blackR (gs bs : List Int) : Bool := allR (blackB gs bs) bs.length
/-- What MarkerOk tells. -/
def markR (zs : List Int) (ph : Int) (gs bs : List Int) (at' : Int) : Bool :=
  slabOk zs && decide (0 ≤ ph ∧ ph ≤ 2) && placesR zs gs && placesR zs bs && blackR gs bs &&
    (if ph = 0 then decide (gs = [] ∧ bs = []) && decide (at' = 0) && heapR zs else if ph = 1 then decide (at' = 0) && heapR zs else sweptR zs gs bs at')
theorem slL_at {zs : List Int} {n : Nat} (hg : Good zs n) {i : Nat} (hi : i < (slL n (kd zs n) (sz zs n)).length) : ∃ p : Nat, hz (slL n (kd zs n) (sz zs n)) i = p ∧ p < zs.length := by
  have hle := hg.le
  unfold slL at hi ⊢
  rw [someL_len] at hi
  refine ⟨n + slOff (kd zs n) + i, ?_, by omega⟩
  unfold hz someL
  rw [List.getElem?_map, List.getElem?_range hi]
  rfl
end Go.Proofs.YtgempjjnfpmndaaGreatDoor
