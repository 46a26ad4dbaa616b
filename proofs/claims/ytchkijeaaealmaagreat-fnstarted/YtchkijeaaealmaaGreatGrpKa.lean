/-
  The contracts of chapter 8's models l8Places and l8Insert.
  The contract of chapter 8's model l8Insert.
  The contract of chapter 8's model l8Shade.
  Markers of one's own: l8Shade of them; the contract of chapter 8's model Start.
-/
import Derived.Laws.AppendOwnNone
import Derived.Deep.AppendLies
import Derived.Deep.RegionWith
import Derived.Deep.CutRange
import Derived.Test.YtchkijeaaealmaaGreatGrpRc
namespace Go.Proofs.YtchkijeaaealmaaGreat
open Go.RowKit
attribute [local go_sem] Plain.and7

def plAt (zs l : List Int) (i : Nat) : Bool := decide (1 ≤ kindAt zs (hz l i)) && !decide (hz l i ∈ l.take i)
/-- Places of blocks that are not free, none twice. -/
def placesR (zs l : List Int) : Bool := allR (plAt zs l) l.length
theorem hz_get {l : List Int} {i : Nat} (h : i < l.length) : hz l i = l[i] := by unfold hz; rw [List.getElem?_eq_getElem h]; rfl
theorem places_iff {zs l : List Int} : placesR zs l = true ↔ Met zs l := by
  unfold placesR
  rw [allR_iff]
  constructor
  · intro h
    refine ⟨List.pairwise_iff_getElem.2 fun i j hi hj hij e => ?_, fun a ha => ?_⟩
    · have := h j hj
      unfold plAt at this
      simp only [Bool.and_eq_true, Bool.not_eq_true', decide_eq_false_iff_not] at this
      refine this.2 ?_
      rw [hz_get hj, ← e]
      exact List.mem_take_iff_getElem.2 ⟨i, by omega, rfl⟩
    · obtain ⟨i, hi, e⟩ := List.getElem_of_mem ha
      have := h i hi
      unfold plAt at this
      simp only [Bool.and_eq_true, decide_eq_true_eq] at this
      rw [hz_get hi, e] at this
      exact this.1
  · intro h i hi
    unfold plAt
    simp only [Bool.and_eq_true, Bool.not_eq_true', decide_eq_true_eq, decide_eq_false_iff_not]
    refine ⟨h.2 _ (hz_mem hi), fun hm => ?_⟩
    obtain ⟨j, hj, e⟩ := List.mem_take_iff_getElem.1 hm
    rw [hz_get hi] at e
    have := List.pairwise_iff_getElem.1 h.1 j i (by omega) hi (by omega)
    exact this e
theorem isAt_kind {zs : List Int} {x : Int} (h : isAt zs x = true) : ∃ p : Nat, x = p ∧ p < zs.length ∧ kindAt zs x = hz zs p % 8 := by
  unfold isAt at h
  cases hb : atB zs x with
  | none => rw [hb] at h; cases h
  | some b =>
    obtain ⟨_, e, hg, _, hk, _⟩ := atB_some hb
    refine ⟨b.1.at', e.symm, hg.lt, ?_⟩
    unfold kindAt
    rw [hb, ← kdI, ← hk]
theorem isAt_no {zs : List Int} {x : Int} (h : isAt zs x = false) : ¬ 1 ≤ kindAt zs x := by
  unfold isAt at h
  cases hb : atB zs x with
  | none => unfold kindAt; rw [hb]; simp
  | some b => rw [hb] at h; cases h
theorem placesR_no {zs l : List Int} {k : Nat} (hk : k < l.length) (h : plAt zs l k = false) : placesR zs l = false := by
  cases hp : placesR zs l with
  | false => rfl
  | true =>
    have := allR_iff.1 hp k hk
    rw [h] at this
    cases this
set_option maxHeartbeats 16000000 in
set_option maxRecDepth 100000 in
theorem l8Places_ok (w : World) (ao ro : Option Addr) (cap rc : Nat) (zs l : List Int) (hI : Ints w ao zs) (hl : zs.length ≤ 1048576) (hok : slabOk zs = true) (hR : Ints w ro l) (hrl : l.length ≤ 1048576) (hrc : l.length ≤ rc) :
    Calls Tryz.prog 40 #[.agg #[.slice ao zs.length cap], .slice ro l.length rc] w fun e w' => e = .returned (.bool (placesR zs l)) ∧ Kept w w' := by
  have b0 := Cells.new w 26 #[.slice ao zs.length cap]
  have k0 : Kept w (w.alloc (.cells #[.slice ao zs.length cap] 26)) := Kept.alloc (Below.refl _ _) _
  have HI : Hid _ := hI
  have HR : Hid _ := hR
  have HO : Hid _ := hok
  clear hI hR hok
  go_enter Tryz.func40, Tryz.ntmps40
  go_wp2_with fail
  obtain ⟨WX, hWX⟩ : ∃ WX, w.alloc (.cells #[.slice ao zs.length cap] 26) = WX := ⟨_, rfl⟩
  rw [hWX] at b0 k0
  simp only [hWX]
  clear hWX
  have HbX : Hid _ := b0
  have HKX : Hid _ := k0
  clear b0 k0
  go_loopw [5] (fun i wr => ∃ k : Nat, i = .int .i64 k ∧ k ≤ l.length ∧ (∀ j, j < k → plAt zs l j = true) ∧ Kept WX wr) (fun i _ => l.length - (intOf i).toNat)
  case atStart => exact ⟨0, rfl, Nat.zero_le _, fun j hj => by omega, Below.refl _ _⟩
  case round =>
    obtain ⟨k, rfl, hk, hyes, hKX⟩ := hrel
    have HY : Hid _ := hyes
    clear hyes
    by_cases hlt : k < l.length
    · obtain ⟨b5, o5, e5, hc5⟩ := Ints.at (Ints.kept HR.out (Kept.trans HKX.out hKX)) hlt
      have c5 := hc5 k hlt
      have l5 : b5 < wr.heap.size := World.block_lt_of_cell? _ _ c5
      obtain ⟨x, hx⟩ : ∃ x, hz l k = x := ⟨_, rfl⟩
      rw [hx] at c5
      have hpl : plAt zs l k = (decide (1 ≤ kindAt zs x) && !decide (x ∈ l.take k)) := by unfold plAt; rw [hx]
      have HPl : Hid _ := hpl
      have hltk : (l.take k).length = k := by rw [List.length_take]; omega
      have HTK : Hid (Ints WX ro (l.take k)) := by
        refine ⟨fun z hz' => HR.out.1 z (List.mem_of_mem_take hz'), ?_⟩
        rcases (Ints.kept HR.out HKX.out).2 with h | ⟨b, o, e, hc⟩
        · left; rw [h]; simp
        · refine .inr ⟨b, o, e, fun j hj => ?_⟩
          rw [hltk] at hj
          rw [hc j (by omega)]
          congr 2
          unfold hz
          rw [List.getElem?_take_of_lt hj]
      have kd7 : ∀ u, Kept wr.drew u → Kept wr u := fun u hu => Kept.trans (Below.refl _ wr).drew hu
      have y0 : ∀ u, Kept wr.drew u → u.cell? ⟨w.heap.size, 0, none⟩ = some (.slice ao zs.length cap) := fun u hu => (Cells.kept HbX.out (Kept.trans hKX (kd7 u hu))).cell 0
      have y1 : ∀ u, Kept wr.drew u → u.cell? ⟨b5, o5 + k, none⟩ = some (.int .i64 x) := fun u hu => ((kd7 u hu).cell (p := ⟨b5, o5 + k, none⟩) l5).trans c5
      have KW : ∀ u, Kept wr.drew u → Kept w u := fun u hu => Kept.trans HKX.out (Kept.trans hKX (kd7 u hu))
      have HKW : Hid _ := KW
      have HKx : Hid (∀ u, Kept wr.drew u → Kept WX u) := fun u hu => Kept.trans hKX (kd7 u hu)
      have q1 : (k : Int) < (l.length : Int) := by omega
      have q0 : (0 : Int) ≤ (k : Int) := by omega
      have q2 : (k : Int) ≤ (rc : Int) := by omega
      have q3 : k ≤ rc := by omega
      have q4 : (k : Int) ≤ (l.length : Int) := by omega
      have hlk : (l.take k).length ≤ 1048576 := by omega
      subst e5
      clear hc5 c5 hx hpl KW
      cases hi : isAt zs x with
      | false =>
        have C1 : Hid (∀ u, Kept wr.drew u → Calls Tryz.prog 74 #[.agg #[.slice ao zs.length cap], .int .i64 x] u fun e w' => e = .returned (.bool false) ∧ Kept u w') := fun u hu => by have := l2Is_ok u ao cap zs x (Ints.kept HI.out (HKW.out u hu)) (by omega) HO.out; rw [hi] at this; exact this
        have HNo : Hid (placesR zs l = false) := placesR_no hlt (by rw [HPl.out]; simp [isAt_no hi])
        have HKr : Hid _ := hKX
        clear hi hltk hKX
        go_wp2_with fail
        refine wp_region_seqL (by kernel_rfl) (by kernel_rfl) ?_
        repeat (first
          | (refine SeqL.skip (by rfl) ?_; simp only [Act.put, List.setIfInBounds_toArray, List.set_cons_zero, List.set_cons_succ])
          | (refine SeqL.pure ?_ (by rfl) ?_ ?_; rotate_left; (focus (intro u hu; have y0' := y0 u hu; have y1' := y1 u hu; go_simp; first | done | exact rfl)); simp only [Act.put, List.setIfInBounds_toArray, List.set_cons_zero, List.set_cons_succ])
          | (refine SeqL.call _ _ _ (by rfl) ?_ C1.out ?_; (focus (intro u; go_simp; done)); simp only [Act.put, List.setIfInBounds_toArray, List.set_cons_zero, List.set_cons_succ]))
        refine SeqL.nil ?_
        intro w5 hu5
        have K5 := HKW.out w5 hu5
        clear y0 y1 C1 kd7
        go_wp2_with fail
        go_ret
        exact ⟨by rw [HNo.out]; rfl, K5⟩
      | true =>
        obtain ⟨p, rfl, hpl, hkd⟩ := isAt_kind hi
        have C1 : Hid (∀ u, Kept wr.drew u → Calls Tryz.prog 74 #[.agg #[.slice ao zs.length cap], .int .i64 (p : Int)] u fun e w' => e = .returned (.bool true) ∧ Kept u w') := fun u hu => by have := l2Is_ok u ao cap zs (p : Int) (Ints.kept HI.out (HKW.out u hu)) (by omega) HO.out; rw [hi] at this; exact this
        obtain ⟨b6, o6, e6, hc6⟩ := Ints.at HI.out hpl
        have c6 := hc6 p hpl
        have l6 : b6 < w.heap.size := World.block_lt_of_cell? _ _ c6
        have y2 : ∀ u, Kept wr.drew u → u.cell? ⟨b6, o6 + p, none⟩ = some (.int .i64 (hz zs p)) := fun u hu => ((HKW.out u hu).cell (p := ⟨b6, o6 + p, none⟩) l6).trans c6
        have C2 : Hid (∀ u, Kept wr.drew u → Calls Tryz.prog 73 #[.int .i64 (hz zs p)] u fun e w' => e = .returned (.int .i64 (hz zs p % 8)) ∧ Kept u w') := fun u _ => calls_kept (l2Kind_ok (hz zs p) u)
        have g3 : (p : Int) < (zs.length : Int) := by omega
        have g4 : (0 : Int) ≤ (p : Int) := by omega
        have g5 : ((p : Int)).toNat = p := by omega
        subst e6
        clear hc6 c6 hi
        by_cases hk0 : hz zs p % 8 = 0
        · have hd : (hz zs p % 8 == 0) = true := by simpa using hk0
          have HNo : Hid (placesR zs l = false) := placesR_no hlt (by rw [HPl.out, hkd, hk0]; simp)
          clear hk0 hkd hltk hKX
          go_wp2_with fail
          refine wp_region_seqL (by kernel_rfl) (by kernel_rfl) ?_
          repeat (first
            | (refine SeqL.skip (by rfl) ?_; simp only [Act.put, List.setIfInBounds_toArray, List.set_cons_zero, List.set_cons_succ])
            | (refine SeqL.pure ?_ (by rfl) ?_ ?_; rotate_left; (focus (intro u hu; have y0' := y0 u hu; have y1' := y1 u hu; have y2' := y2 u hu; go_simp; first | done | exact rfl)); simp only [Act.put, List.setIfInBounds_toArray, List.set_cons_zero, List.set_cons_succ])
            | (refine SeqL.call _ _ _ (by rfl) ?_ C1.out ?_; (focus (intro u; go_simp; done)); simp only [Act.put, List.setIfInBounds_toArray, List.set_cons_zero, List.set_cons_succ])
            | (refine SeqL.call _ _ _ (by rfl) ?_ C2.out ?_; (focus (intro u; go_simp; done)); simp only [Act.put, List.setIfInBounds_toArray, List.set_cons_zero, List.set_cons_succ]))
          refine SeqL.nil ?_
          intro w5 hu5
          have K5 := HKW.out w5 hu5
          clear y0 y1 y2 C1 C2 kd7
          go_wp2_with fail
          go_ret
          exact ⟨by rw [HNo.out]; rfl, K5⟩
        · have hd : (hz zs p % 8 == 0) = false := by simpa using hk0
          have hk1 : decide (1 ≤ kindAt zs (p : Int)) = true := by rw [hkd]; simp; omega
          obtain ⟨r, hr⟩ : ∃ r, decide ((p : Int) ∈ l.take k) = r := ⟨_, rfl⟩
          have HPl2 : Hid (plAt zs l k = !r) := by rw [Hid, HPl.out, hk1, hr]; simp
          have C3 : Hid (∀ u, Kept wr.drew u → Calls Tryz.prog 41 #[.slice (some ⟨b5, o5, none⟩) k rc, .int .i64 (p : Int)] u fun e w' => e = .returned (.bool r) ∧ Kept u w') := fun u hu => by
            have := l7In_ok u (some ⟨b5, o5, none⟩) rc (l.take k) (p : Int) (Ints.kept HTK.out (HKx.out u hu)) hlk
            rw [hltk, hr] at this
            exact calls_kept this
          have HKr : Hid _ := hKX
          clear hk0 hkd hltk hKX hk1 hr
          cases r with
          | true =>
            have HNo : Hid (placesR zs l = false) := placesR_no hlt HPl2.out
            go_wp2_with fail
            refine wp_region_seqL (by kernel_rfl) (by kernel_rfl) ?_
            repeat (first
              | (refine SeqL.skip (by rfl) ?_; simp only [Act.put, List.setIfInBounds_toArray, List.set_cons_zero, List.set_cons_succ])
              | (refine SeqL.pure ?_ (by rfl) ?_ ?_; rotate_left; (focus (intro u hu; have y0' := y0 u hu; have y1' := y1 u hu; have y2' := y2 u hu; go_simp; first | done | exact rfl)); simp only [Act.put, List.setIfInBounds_toArray, List.set_cons_zero, List.set_cons_succ])
              | (refine SeqL.call _ _ _ (by rfl) ?_ C1.out ?_; (focus (intro u; go_simp; done)); simp only [Act.put, List.setIfInBounds_toArray, List.set_cons_zero, List.set_cons_succ])
              | (refine SeqL.call _ _ _ (by rfl) ?_ C2.out ?_; (focus (intro u; go_simp; done)); simp only [Act.put, List.setIfInBounds_toArray, List.set_cons_zero, List.set_cons_succ])
              | (refine SeqL.call _ _ _ (by rfl) ?_ C3.out ?_; (focus (intro u; go_simp; done)); simp only [Act.put, List.setIfInBounds_toArray, List.set_cons_zero, List.set_cons_succ]))
            refine SeqL.nil ?_
            intro w5 hu5
            have K5 := HKW.out w5 hu5
            clear y0 y1 y2 C1 C2 C3 kd7
            go_wp2_with fail
            go_ret
            exact ⟨by rw [HNo.out]; rfl, K5⟩
          | false =>
            go_wp2_with fail
            refine wp_region_seqL (by kernel_rfl) (by kernel_rfl) ?_
            repeat (first
              | (refine SeqL.skip (by rfl) ?_; simp only [Act.put, List.setIfInBounds_toArray, List.set_cons_zero, List.set_cons_succ])
              | (refine SeqL.pure ?_ (by rfl) ?_ ?_; rotate_left; (focus (intro u hu; have y0' := y0 u hu; have y1' := y1 u hu; have y2' := y2 u hu; go_simp; first | done | exact rfl)); simp only [Act.put, List.setIfInBounds_toArray, List.set_cons_zero, List.set_cons_succ])
              | (refine SeqL.call _ _ _ (by rfl) ?_ C1.out ?_; (focus (intro u; go_simp; done)); simp only [Act.put, List.setIfInBounds_toArray, List.set_cons_zero, List.set_cons_succ])
              | (refine SeqL.call _ _ _ (by rfl) ?_ C2.out ?_; (focus (intro u; go_simp; done)); simp only [Act.put, List.setIfInBounds_toArray, List.set_cons_zero, List.set_cons_succ])
              | (refine SeqL.call _ _ _ (by rfl) ?_ C3.out ?_; (focus (intro u; go_simp; done)); simp only [Act.put, List.setIfInBounds_toArray, List.set_cons_zero, List.set_cons_succ]))
            refine SeqL.nil ?_
            intro w5 hu5
            have K5 := HKx.out w5 hu5
            clear y0 y1 y2 C1 C2 C3 kd7
            go_wp2_with fail
            go_roundw
            case rel =>
              refine ⟨k + 1, by go_num, by omega, fun j hj => ?_, K5⟩
              rcases Nat.lt_or_ge j k with h | h
              · exact HY.out j h
              · have : j = k := by omega
                subst this
                exact HPl2.out
            case measure => simp [intOf]; omega
    · obtain rfl : k = l.length := by omega
      have HYes : Hid (placesR zs l = true) := allR_iff.2 HY.out
      have HKr : Hid _ := hKX
      clear hKX
      go_wp2_with fail
      go_ret
      exact ⟨by rw [HYes.out]; rfl, Kept.trans HKX.out HKr.out⟩
end Go.Proofs.YtchkijeaaealmaaGreat
namespace Go.Proofs.YtchkijeaaealmaaGreat
open Go.RowKit
attribute [local go_sem] Plain.and7

theorem one_new2 (wr : World) (x : Int) : ∀ (j : Nat) (u : Value), [Value.int .i64 x][j]? = some u → ((wr.alloc (.cells #[] 3)).alloc (.cells #[.int .i64 x] 3)).cell? ((⟨wr.heap.size + 1, 0, none⟩ : Addr).add j) = some u := by
  have := cell_one_new (wr.alloc (.cells #[] 3)) (.int .i64 x) 3
  rw [World.size_alloc] at this
  exact this
set_option maxHeartbeats 16000000 in
set_option maxRecDepth 100000 in
theorem l8Insert_ok (w : World) (v : Value) (base : Nat) (l : List Int) (x : Int) (hO : OwnL w base v l) (hl : l.length ≤ 1048576) (hxb : -9223372036854775808 ≤ x ∧ x ≤ 9223372036854775807) :
    Calls Tryz.prog 63 #[v, .int .i64 x] w fun e w' => ∃ v', e = .returned v' ∧ OwnL w' w.heap.size v' (insL x l) ∧ Kept w w' := by
  obtain ⟨i0, hi, hz0, hz1, hz2⟩ := info_parts infoI
  have HB : Hid _ := hO.1
  rcases hO.cases with ⟨rfl, rfl⟩ | ⟨g, c, rfl, hb, hcc, hcm, hrow⟩
  · go_enter Tryz.func63, Tryz.ntmps63
    go_wp2_with fail
    go_loopw [5] (fun i wr => i = .int .i64 0 ∧ Kept w wr) (fun _ _ => 0)
    case atStart => exact ⟨rfl, Below.refl _ _⟩
    case round =>
      obtain ⟨rfl, hK⟩ := hrel
      have HK : Hid _ := hK
      have hs5 := hK.size
      have kE : Kept wr (wr.alloc (.cells #[] 3)) := Kept.alloc (Below.refl _ _) _
      have oE : (wr.alloc (.cells #[] 3)).ownsRow wr.heap.size 3 1 (.slice (some ⟨wr.heap.size, 0, none⟩) 0 0) 0 [] := by
        have := World.ownsRow_made (base := wr.heap.size) (e := 3) (size := 1) wr #[] 0 (by simp) (by unfold maxLen; omega) (by simp)
        simpa using this
      have kF : Kept (wr.alloc (.cells #[] 3)) ((wr.alloc (.cells #[] 3)).alloc (.cells #[.int .i64 x] 3)) := Kept.alloc (Below.refl _ _) _
      clear hK hO
      go_wp2_with (first | (at_builtin; refine wpList_append_own_none rfl _ _ 24 rfl wr.heap.size 3 i0 1 Tryz.underlying24 hi _ _ _ rfl oE rfl ?_) | (at_builtin; refine wpList_append_own _ rfl _ _ 24 rfl wr.heap.size 3 i0 (.int .i64 0) 1 8 Tryz.underlying24 hi hz0 hz1 hz2 rfl (by decide) _ _ _ rfl (oE.alloc _) ⟨wr.heap.size + 1, 0, none⟩ 1 1 [.int .i64 x] rfl rfl (one_new2 wr x) (by simp [Value.oneCell']) (by unfold maxLen; omega) (by omega) (by simp; omega) ?_; intro v7 w7 own7 grow7 _; have kk7 : Kept wr w7 := Below.grown (kE.trans kF) grow7 (by simp; omega) (fun j ej => (oE.lt j ej).1)) | (at_builtin; refine wpList_append_own_none rfl _ _ 24 rfl wr.heap.size 3 i0 1 Tryz.underlying24 hi _ _ _ rfl own7 rfl ?_))
      go_ret
      refine ⟨v7, rfl, ⟨fun z hz' => ?_, ?_⟩, Kept.trans HK.out kk7⟩
      · simp [insL] at hz'
        subst hz'
        exact hxb
      · have := ownsRow_base own7 hs5
        simpa [insL] using this
  · have HRw : Hid _ := hrow
    have lg := hrow.lt
    clear hrow hO
    go_enter Tryz.func63, Tryz.ntmps63
    go_wp2_with fail
    go_loopw [5] (fun i wr => ∃ a : Nat, i = .int .i64 a ∧ a ≤ l.length ∧ (∀ j, j < a → hz l j < x) ∧ Kept w wr) (fun i _ => l.length - (intOf i).toNat)
    case atStart => exact ⟨0, rfl, Nat.zero_le _, fun j hj => by omega, Below.refl _ _⟩
    case round =>
      obtain ⟨a, rfl, ha, hlow, hK2⟩ := hrel
      have HK2 : Hid _ := hK2
      have Hlow : Hid _ := hlow
      by_cases hla : a < l.length
      · have c2 := (Row.kept HRw.out hK2).cell (j := a) hla
        have r1 : (a : Int) < (l.length : Int) := by omega
        have r0 : (0 : Int) ≤ (a : Int) := by omega
        clear hK2 hlow
        by_cases hx : hz l a < x
        · have hd : decide (hz l a < x) = true := by simpa using hx
          have HX : Hid _ := hx
          clear hx
          go_wp2_with fail
          go_roundw
          case rel =>
            refine ⟨a + 1, by go_num, by omega, fun j hj => ?_, HK2.out⟩
            rcases Nat.lt_or_ge j a with h | h
            · exact Hlow.out j h
            · have : j = a := by omega
              subst this
              exact HX.out
          case measure => simp [intOf]; omega
        · have hd : decide (hz l a < x) = false := by simpa using hx
          have Hstop : Hid (a < l.length → x ≤ hz l a) := fun _ => by omega
          clear hx
          have HT2 : Hid (insL x l = l.take a ++ x :: l.drop a) := insL_at (x := x) (out := l) ha Hlow.out Hstop.out
          have hrow5 := Row.kept HRw.out HK2.out
          have hs5 := Below.size HK2.out
          have kE : Kept wr (wr.alloc (.cells #[] 3)) := Kept.alloc (Below.refl _ _) _
          have oE : (wr.alloc (.cells #[] 3)).ownsRow wr.heap.size 3 1 (.slice (some ⟨wr.heap.size, 0, none⟩) 0 0) 0 [] := by
            have := World.ownsRow_made (base := wr.heap.size) (e := 3) (size := 1) wr #[] 0 (by simp) (by unfold maxLen; omega) (by simp)
            simpa using this
          have hrE := hrow5.kept kE
          have news1 : ∀ (j : Nat) (u : Value), ((l.take a).map (Value.int .i64))[j]? = some u → (wr.alloc (.cells #[] 3)).cell? ((⟨g, 0, none⟩ : Addr).add j) = some u := ints_news (fun j hj => by
            have hj' : j < l.length := by rw [List.length_take] at hj; omega
            have := hrE.cell (j := j) hj'
            rw [show hz (l.take a) j = hz l j by unfold hz; rw [List.getElem?_take_of_lt (by rw [List.length_take] at hj; omega)]]
            simpa using this)
          have Hlta : Hid ((l.take a).length = a) := by rw [Hid, List.length_take]; omega
          have Hltd : Hid ((l.drop a).length = l.length - a) := List.length_drop
          have g0 : (0 : Int) ≤ (a : Int) := by omega
          have g1 : (a : Int) ≤ (l.length : Int) := by omega
          have g2 : (a : Int) ≤ (c : Int) := by omega
          have g3 : ((a : Int)).toNat = a := by omega
          have g4 : a ≤ c := by omega
          have g5 : a ≤ l.length := ha
          have HR5 : Hid _ := hrow5
          clear hrow5 hrE
          go_wp2_with (first | (at_builtin; refine wpList_append_own _ rfl _ _ 24 rfl wr.heap.size 3 i0 (.int .i64 0) 1 8 Tryz.underlying24 hi hz0 hz1 hz2 rfl (by decide) _ _ _ rfl oE ⟨g, 0, none⟩ a _ ((l.take a).map (Value.int .i64)) rfl (by rw [List.length_map, Hlta.out, Nat.mul_one]) news1 (by intro u hu; obtain ⟨z, _, rfl⟩ := List.mem_map.1 hu; rfl) (by unfold maxLen; omega) (by omega) (by simp) ?_; intro v6 w6 own6 grow6 _; have kk6 : Kept wr w6 := Below.grown kE grow6 (by simp) (fun j ej => by have h3 : (Value.slice (some ⟨wr.heap.size, 0, none⟩) 0 0).ownBlock = some j := ej; simp [Value.ownBlock] at h3; omega); have kF : Kept w6 (w6.alloc (.cells #[.int .i64 x] 3)) := Kept.alloc (Below.refl _ _) _; have hs6 := kk6.size; simp only [Nat.zero_add, List.nil_append] at own6) | (at_builtin; refine wpList_append_own _ rfl _ _ 24 rfl wr.heap.size 3 i0 (.int .i64 0) 1 8 Tryz.underlying24 hi hz0 hz1 hz2 rfl (by decide) _ _ _ rfl (own6.alloc _) ⟨w6.heap.size, 0, none⟩ 1 1 [.int .i64 x] rfl rfl (cell_one_new _ _ _) (by simp [Value.oneCell']) (by unfold maxLen; omega) (by omega) (by simp; omega) ?_; intro v7 w7 own7 grow7 _; have kk7 : Kept wr w7 := Below.grown (kk6.trans kF) grow7 (by simp; omega) (fun j ej => (own6.lt j ej).1); have hs7 := kk7.size; have hr7 := Row.kept HR5.out kk7; have news3 := drop_news (a := a) hr7) | (at_builtin; refine wpList_append_own _ rfl _ _ 24 rfl wr.heap.size 3 i0 (.int .i64 0) 1 8 Tryz.underlying24 hi hz0 hz1 hz2 rfl (by decide) _ _ _ rfl own7 ⟨g, a, none⟩ (l.length - a) (c - a) ((l.drop a).map (Value.int .i64)) rfl (by rw [List.length_map, Hltd.out, Nat.mul_one]) news3 (by intro u hu; obtain ⟨z, _, rfl⟩ := List.mem_map.1 hu; rfl) (by unfold maxLen; omega) (by omega) (by omega) ?_; intro v8 w8 own8 grow8 _; have kk8 : Kept wr w8 := Below.grown kk7 grow8 (by omega) (fun j ej => (own7.lt j ej).1)))
          go_ret
          have e8 : (insL x l).length = a + 1 + (l.length - a) := by rw [HT2.out, List.length_append, List.length_cons, Hlta.out, Hltd.out]; omega
          refine ⟨_, rfl, ⟨fun z hz' => ?_, ?_⟩, Kept.trans HK2.out kk8⟩
          · rw [HT2.out] at hz'
            rcases List.mem_append.1 hz' with h | h
            · exact HB.out z (List.mem_of_mem_take h)
            · rcases List.mem_cons.1 h with rfl | h
              · exact hxb
              · exact HB.out z (List.mem_of_mem_drop h)
          · rw [e8, HT2.out, List.map_append, List.map_cons]
            have := ownsRow_base own8 hs5
            rw [List.append_assoc] at this
            exact this
      · have Hstop : Hid (a < l.length → x ≤ hz l a) := fun h => absurd h hla
        have Hla : Hid (l.length ≤ a) := by simpa [Hid] using hla
        have Hda : Hid (decide ((a : Int) < (l.length : Int)) = false) := by simp [Hid]; omega
        clear hK2 hlow
        have HT2 : Hid (insL x l = l.take a ++ x :: l.drop a) := insL_at (x := x) (out := l) ha Hlow.out Hstop.out
        have hrow5 := Row.kept HRw.out HK2.out
        have hs5 := Below.size HK2.out
        have kE : Kept wr (wr.alloc (.cells #[] 3)) := Kept.alloc (Below.refl _ _) _
        have oE : (wr.alloc (.cells #[] 3)).ownsRow wr.heap.size 3 1 (.slice (some ⟨wr.heap.size, 0, none⟩) 0 0) 0 [] := by
          have := World.ownsRow_made (base := wr.heap.size) (e := 3) (size := 1) wr #[] 0 (by simp) (by unfold maxLen; omega) (by simp)
          simpa using this
        have hrE := hrow5.kept kE
        have news1 : ∀ (j : Nat) (u : Value), ((l.take a).map (Value.int .i64))[j]? = some u → (wr.alloc (.cells #[] 3)).cell? ((⟨g, 0, none⟩ : Addr).add j) = some u := ints_news (fun j hj => by
          have hj' : j < l.length := by rw [List.length_take] at hj; omega
          have := hrE.cell (j := j) hj'
          rw [show hz (l.take a) j = hz l j by unfold hz; rw [List.getElem?_take_of_lt (by rw [List.length_take] at hj; omega)]]
          simpa using this)
        have Hlta : Hid ((l.take a).length = a) := by rw [Hid, List.length_take]; omega
        have Hltd : Hid ((l.drop a).length = l.length - a) := List.length_drop
        have g0 : (0 : Int) ≤ (a : Int) := by omega
        have g1 : (a : Int) ≤ (l.length : Int) := by omega
        have g2 : (a : Int) ≤ (c : Int) := by omega
        have g3 : ((a : Int)).toNat = a := by omega
        have g4 : a ≤ c := by omega
        have g5 : a ≤ l.length := ha
        have HR5 : Hid _ := hrow5
        clear hrow5 hrE
        rcases Nat.lt_or_ge a c with hca | hca
        · go_wp2_with (first | (at_builtin; refine wpList_append_own _ rfl _ _ 24 rfl wr.heap.size 3 i0 (.int .i64 0) 1 8 Tryz.underlying24 hi hz0 hz1 hz2 rfl (by decide) _ _ _ rfl oE ⟨g, 0, none⟩ a _ ((l.take a).map (Value.int .i64)) rfl (by rw [List.length_map, Hlta.out, Nat.mul_one]) news1 (by intro u hu; obtain ⟨z, _, rfl⟩ := List.mem_map.1 hu; rfl) (by unfold maxLen; omega) (by omega) (by simp) ?_; intro v6 w6 own6 grow6 _; have kk6 : Kept wr w6 := Below.grown kE grow6 (by simp) (fun j ej => by have h3 : (Value.slice (some ⟨wr.heap.size, 0, none⟩) 0 0).ownBlock = some j := ej; simp [Value.ownBlock] at h3; omega); have kF : Kept w6 (w6.alloc (.cells #[.int .i64 x] 3)) := Kept.alloc (Below.refl _ _) _; have hs6 := kk6.size; simp only [Nat.zero_add, List.nil_append] at own6) | (at_builtin; refine wpList_append_own _ rfl _ _ 24 rfl wr.heap.size 3 i0 (.int .i64 0) 1 8 Tryz.underlying24 hi hz0 hz1 hz2 rfl (by decide) _ _ _ rfl (own6.alloc _) ⟨w6.heap.size, 0, none⟩ 1 1 [.int .i64 x] rfl rfl (cell_one_new _ _ _) (by simp [Value.oneCell']) (by unfold maxLen; omega) (by omega) (by simp; omega) ?_; intro v7 w7 own7 grow7 _; have kk7 : Kept wr w7 := Below.grown (kk6.trans kF) grow7 (by simp; omega) (fun j ej => (own6.lt j ej).1); have hs7 := kk7.size; have hr7 := Row.kept HR5.out kk7; have news3 := drop_news (a := a) hr7) | (at_builtin; refine wpList_append_own _ rfl _ _ 24 rfl wr.heap.size 3 i0 (.int .i64 0) 1 8 Tryz.underlying24 hi hz0 hz1 hz2 rfl (by decide) _ _ _ rfl own7 ⟨g, a, none⟩ (l.length - a) (c - a) ((l.drop a).map (Value.int .i64)) rfl (by rw [List.length_map, Hltd.out, Nat.mul_one]) news3 (by intro u hu; obtain ⟨z, _, rfl⟩ := List.mem_map.1 hu; rfl) (by unfold maxLen; omega) (by omega) (by omega) ?_; intro v8 w8 own8 grow8 _; have kk8 : Kept wr w8 := Below.grown kk7 grow8 (by omega) (fun j ej => (own7.lt j ej).1)))
          go_ret
          have e8 : (insL x l).length = a + 1 + (l.length - a) := by rw [HT2.out, List.length_append, List.length_cons, Hlta.out, Hltd.out]; omega
          refine ⟨_, rfl, ⟨fun z hz' => ?_, ?_⟩, Kept.trans HK2.out kk8⟩
          · rw [HT2.out] at hz'
            rcases List.mem_append.1 hz' with h | h
            · exact HB.out z (List.mem_of_mem_take h)
            · rcases List.mem_cons.1 h with rfl | h
              · exact hxb
              · exact HB.out z (List.mem_of_mem_drop h)
          · rw [e8, HT2.out, List.map_append, List.map_cons]
            have := ownsRow_base own8 hs5
            rw [List.append_assoc] at this
            exact this
        · obtain rfl : a = c := by have := Hla.out; omega
          go_wp2_with (first | (at_builtin; refine wpList_append_own _ rfl _ _ 24 rfl wr.heap.size 3 i0 (.int .i64 0) 1 8 Tryz.underlying24 hi hz0 hz1 hz2 rfl (by decide) _ _ _ rfl oE ⟨g, 0, none⟩ a _ ((l.take a).map (Value.int .i64)) rfl (by rw [List.length_map, Hlta.out, Nat.mul_one]) news1 (by intro u hu; obtain ⟨z, _, rfl⟩ := List.mem_map.1 hu; rfl) (by unfold maxLen; omega) (by omega) (by simp) ?_; intro v6 w6 own6 grow6 _; have kk6 : Kept wr w6 := Below.grown kE grow6 (by simp) (fun j ej => by have h3 : (Value.slice (some ⟨wr.heap.size, 0, none⟩) 0 0).ownBlock = some j := ej; simp [Value.ownBlock] at h3; omega); have kF : Kept w6 (w6.alloc (.cells #[.int .i64 x] 3)) := Kept.alloc (Below.refl _ _) _; have hs6 := kk6.size; simp only [Nat.zero_add, List.nil_append] at own6) | (at_builtin; refine wpList_append_own _ rfl _ _ 24 rfl wr.heap.size 3 i0 (.int .i64 0) 1 8 Tryz.underlying24 hi hz0 hz1 hz2 rfl (by decide) _ _ _ rfl (own6.alloc _) ⟨w6.heap.size, 0, none⟩ 1 1 [.int .i64 x] rfl rfl (cell_one_new _ _ _) (by simp [Value.oneCell']) (by unfold maxLen; omega) (by omega) (by simp; omega) ?_; intro v7 w7 own7 grow7 _; have kk7 : Kept wr w7 := Below.grown (kk6.trans kF) grow7 (by simp; omega) (fun j ej => (own6.lt j ej).1); have hs7 := kk7.size; have hr7 := Row.kept HR5.out kk7; have news3 := drop_news (a := a) hr7) | (at_builtin; refine wpList_append_own _ rfl _ _ 24 rfl wr.heap.size 3 i0 (.int .i64 0) 1 8 Tryz.underlying24 hi hz0 hz1 hz2 rfl (by decide) _ _ _ rfl own7 ⟨g, 0, none⟩ _ _ ((l.drop a).map (Value.int .i64)) rfl (by first | (rw [List.length_map, Hltd.out, Nat.mul_one]; done) | (rw [List.length_map, Hltd.out]; have := Hla.out; omega)) (drop_none Hla.out) (by intro u hu; obtain ⟨z, _, rfl⟩ := List.mem_map.1 hu; rfl) (by unfold maxLen; omega) (by omega) (by omega) ?_; intro v8 w8 own8 grow8 _; have kk8 : Kept wr w8 := Below.grown kk7 grow8 (by omega) (fun j ej => (own7.lt j ej).1)))
          have hz8 : l.length - a = 0 := by have := Hla.out; omega
          replace own8 : w8.ownsRow wr.heap.size 3 1 v8 (a + 1 + (l.length - a)) (List.map (Value.int .i64) (List.take a l) ++ [Value.int .i64 x] ++ List.map (Value.int .i64) (List.drop a l)) := by rw [hz8]; exact own8
          clear hz8
          go_ret
          have e8 : (insL x l).length = a + 1 + (l.length - a) := by rw [HT2.out, List.length_append, List.length_cons, Hlta.out, Hltd.out]; omega
          refine ⟨_, rfl, ⟨fun z hz' => ?_, ?_⟩, Kept.trans HK2.out kk8⟩
          · rw [HT2.out] at hz'
            rcases List.mem_append.1 hz' with h | h
            · exact HB.out z (List.mem_of_mem_take h)
            · rcases List.mem_cons.1 h with rfl | h
              · exact hxb
              · exact HB.out z (List.mem_of_mem_drop h)
          · rw [e8, HT2.out, List.map_append, List.map_cons]
            have := ownsRow_base own8 hs5
            rw [List.append_assoc] at this
            exact this
end Go.Proofs.YtchkijeaaealmaaGreat
namespace Go.Proofs.YtchkijeaaealmaaGreat
open Go.RowKit
attribute [local go_sem] Plain.and7

/-- What Shade leaves of the grey ones. -/
def shadeL (ph : Int) (gs bs : List Int) (v : Int) : List Int := if ph = 1 ∧ 0 ≤ blkV v ∧ blkV v ∉ gs ∧ blkV v ∉ bs then gs ++ [blkV v] else gs
theorem Cells.four {W : World} {B : Nat} {t : TypeId} {x0 x1 x2 x3 : Value} (h : Cells W B t #[x0, x1, x2, x3]) (a b c d : Value) :
    Cells ((((W.setCell ⟨B, 0, none⟩ a).setCell ⟨B, 1, none⟩ b).setCell ⟨B, 2, none⟩ c).setCell ⟨B, 3, none⟩ d) B t #[a, b, c, d] := by
  have := ((((h.set 0 a).set 1 b).set 2 c).set 3 d)
  simpa using this
set_option maxHeartbeats 16000000 in
set_option maxRecDepth 100000 in
theorem l8Shade_no (w : World) (ph at' v : Int) (ga ba : Option Addr) (gc bc : Nat) (gs bs : List Int) (hG : Ints w ga gs) (hB : Ints w ba bs) (hgl : gs.length ≤ 1048576) (hbl : bs.length ≤ 1048576) (hno : ¬ (ph = 1 ∧ 0 ≤ blkV v ∧ blkV v ∉ gs ∧ blkV v ∉ bs)) :
    Calls Tryz.prog 49 #[.agg #[.int .i64 ph, .slice ga gs.length gc, .slice ba bs.length bc, .int .i64 at'], .int .i64 v] w fun e w' =>
      e = .returned (.agg #[.int .i64 ph, .slice ga gs.length gc, .slice ba bs.length bc, .int .i64 at']) ∧ Kept w w' := by
  have b0 := (Cells.new w 28 #[.int .i64 ph, .slice ga gs.length gc, .slice ba bs.length bc, .int .i64 at']).alloc (.cells #[.int .i64 0, .slice none 0 0, .slice none 0 0, .int .i64 0] 28)
  have b1 := Cells.new (w.alloc (.cells #[.int .i64 ph, .slice ga gs.length gc, .slice ba bs.length bc, .int .i64 at'] 28)) 28 #[.int .i64 0, .slice none 0 0, .slice none 0 0, .int .i64 0]
  have k0 : Kept w ((w.alloc (.cells #[.int .i64 ph, .slice ga gs.length gc, .slice ba bs.length bc, .int .i64 at'] 28)).alloc (.cells #[.int .i64 0, .slice none 0 0, .slice none 0 0, .int .i64 0] 28)) := (Kept.alloc (Below.refl _ _) _).alloc _
  simp only [World.size_alloc] at b1
  have hBk := fun (u : World) => l7Block_ok v u
  obtain ⟨x, hx⟩ : ∃ x, blkV v = x := ⟨_, rfl⟩
  have c0 := b0.cell 0
  have c1 := b0.cell 1
  have c2 := b0.cell 2
  have c3 := b0.cell 3
  rw [hx] at hBk hno
  have hIg := l7In_ok _ ga gc gs x (hG.kept k0) hgl
  have hIb := l7In_ok _ ba bc bs x (hB.kept k0) hbl
  clear hx hG hB
  by_cases h1 : ph = 1
  · subst h1
    by_cases h0 : 0 ≤ x
    · have e0 : decide (0 ≤ x) = true := by simpa using h0
      cases hg : decide (x ∈ gs) with
      | true =>
        rw [hg] at hIg
        clear hno hIb hg
        go_enter Tryz.func49, Tryz.ntmps49
        go_wp2_with (go_at_call 45; refine (hBk _).mono ?_; rintro e wx ⟨rfl, rfl⟩)
        refine hIg.mono ?_
        rintro e wx ⟨rfl, rfl⟩
        go_wp2_with fail
        refine bodyPost_ret (v := .agg #[.int .i64 1, .slice ga gs.length gc, .slice ba bs.length bc, .int .i64 at']) (by simp [results, Tryz.results49, go_sem]) rfl ⟨rfl, (Kept.alloc (Below.refl _ _) _).alloc _⟩
      | false =>
        rw [hg] at hIg
        have hb' : decide (x ∈ bs) = true := by
          have hg' : x ∉ gs := by simpa using hg
          simp only [decide_eq_true_eq]
          exact Classical.byContradiction fun h => hno ⟨rfl, h0, hg', h⟩
        rw [hb'] at hIb
        clear hno hg hb'
        go_enter Tryz.func49, Tryz.ntmps49
        go_wp2_with (go_at_call 45; refine (hBk _).mono ?_; rintro e wx ⟨rfl, rfl⟩)
        refine hIg.mono ?_
        rintro e wx ⟨rfl, rfl⟩
        go_wp2_with fail
        refine hIb.mono ?_
        rintro e wx ⟨rfl, rfl⟩
        go_wp2_with fail
        refine bodyPost_ret (v := .agg #[.int .i64 1, .slice ga gs.length gc, .slice ba bs.length bc, .int .i64 at']) (by simp [results, Tryz.results49, go_sem]) rfl ⟨rfl, (Kept.alloc (Below.refl _ _) _).alloc _⟩
    · have e0 : decide (0 ≤ x) = false := by simpa using h0
      clear hno hIg hIb
      go_enter Tryz.func49, Tryz.ntmps49
      go_wp2_with (go_at_call 45; refine (hBk _).mono ?_; rintro e wx ⟨rfl, rfl⟩)
      refine bodyPost_ret (v := .agg #[.int .i64 1, .slice ga gs.length gc, .slice ba bs.length bc, .int .i64 at']) (by simp [results, Tryz.results49, go_sem]) rfl ⟨rfl, (Kept.alloc (Below.refl _ _) _).alloc _⟩
  · have e1 : (ph == 1) = false := by simpa using h1
    clear hno hIg hIb
    go_enter Tryz.func49, Tryz.ntmps49
    go_wp2_with (go_at_call 45; refine (hBk _).mono ?_; rintro e wx ⟨rfl, rfl⟩)
    refine bodyPost_ret (v := .agg #[.int .i64 ph, .slice ga gs.length gc, .slice ba bs.length bc, .int .i64 at']) (by simp [results, Tryz.results49, go_sem]) rfl ⟨rfl, (Kept.alloc (Below.refl _ _) _).alloc _⟩
theorem grown_then {a w w' : World} {row : Option Nat} (h : Kept a w) (k : w.grownBy w' row) : a.grownBy w' row :=
  ⟨k.os.trans h.os, k.tape.trans h.tape, k.output.trans h.output, Nat.le_trans h.size k.size, fun j hj hne => (k.block j (Nat.lt_of_lt_of_le hj h.size) hne).trans (h.block j hj)⟩
theorem grown_far {a w : World} {row : Option Nat} {p : Addr} {v : Value} (h : a.grownBy w row) (hp : a.heap.size ≤ p.block) : a.grownBy (w.setCell p v) row :=
  ⟨h.os, h.tape, h.output, by rw [World.size_setCell]; exact h.size, fun k hk hne => (Below.heap_setCell _ _ _ _ (by omega)).trans (h.block k hk hne)⟩
theorem OwnL.far {W : World} {base : Nat} {v : Value} {l : List Int} {p : Addr} {u : Value} (h : OwnL W base v l) (hne : ∀ j, v.ownBlock = some j → j ≠ p.block) : OwnL (W.setCell p u) base v l :=
  OwnL.kept (row := some p.block) h ⟨rfl, rfl, rfl, by simp, fun k _ hk => Below.heap_setCell _ _ _ _ (fun e => hk (by rw [e]))⟩ (fun k e j hj => by cases e; exact hne j hj)
theorem one_new3 (w : World) (a b : Obj) (x : Int) : ∀ (j : Nat) (u : Value), [Value.int .i64 x][j]? = some u → (((w.alloc a).alloc b).alloc (.cells #[.int .i64 x] 3)).cell? ((⟨w.heap.size + 2, 0, none⟩ : Addr).add j) = some u := by
  have := cell_one_new ((w.alloc a).alloc b) (.int .i64 x) 3
  rw [World.size_alloc, World.size_alloc] at this
  exact this
set_option maxHeartbeats 16000000 in
set_option maxRecDepth 100000 in
theorem l8Shade_yes (w : World) (base : Nat) (at' v : Int) (ga ba : Option Addr) (gc bc : Nat) (gs bs : List Int) (hO : OwnL w base (.slice ga gs.length gc) gs) (hB : Ints w ba bs) (hgl : gs.length ≤ 1048576) (hbl : bs.length ≤ 1048576) (hbase : base ≤ w.heap.size) (hvb : -9223372036854775808 ≤ v ∧ v ≤ 9223372036854775807) (h0 : 0 ≤ blkV v) (hg : blkV v ∉ gs) (hb : blkV v ∉ bs) :
    Calls Tryz.prog 49 #[.agg #[.int .i64 1, .slice ga gs.length gc, .slice ba bs.length bc, .int .i64 at'], .int .i64 v] w fun e w' =>
      ∃ g c, e = .returned (.agg #[.int .i64 1, .slice (some ⟨g, 0, none⟩) (gs.length + 1) c, .slice ba bs.length bc, .int .i64 at']) ∧ OwnL w' base (.slice (some ⟨g, 0, none⟩) (gs.length + 1) c) (gs ++ [blkV v]) ∧ w.grownBy w' (Value.slice ga gs.length gc).ownBlock ∧ ((Value.slice ga gs.length gc).ownBlock = some g ∨ w.heap.size ≤ g) ∧ g < w'.heap.size := by
  obtain ⟨i0, hi, hz0, hz1, hz2⟩ := info_parts infoI
  obtain ⟨_, _, ev, hG⟩ := hO.ints
  cases ev
  have hxb := blkV_bd hvb
  obtain ⟨ph, hph⟩ : ∃ ph : Int, ph = 1 := ⟨_, rfl⟩
  rw [← hph]
  have b0 := (Cells.new w 28 #[.int .i64 ph, .slice ga gs.length gc, .slice ba bs.length bc, .int .i64 at']).alloc (.cells #[.int .i64 0, .slice none 0 0, .slice none 0 0, .int .i64 0] 28)
  have b1 := Cells.new (w.alloc (.cells #[.int .i64 ph, .slice ga gs.length gc, .slice ba bs.length bc, .int .i64 at'] 28)) 28 #[.int .i64 0, .slice none 0 0, .slice none 0 0, .int .i64 0]
  have k0 : Kept w ((w.alloc (.cells #[.int .i64 ph, .slice ga gs.length gc, .slice ba bs.length bc, .int .i64 at'] 28)).alloc (.cells #[.int .i64 0, .slice none 0 0, .slice none 0 0, .int .i64 0] 28)) := (Kept.alloc (Below.refl _ _) _).alloc _
  simp only [World.size_alloc] at b1
  have hBk := fun (u : World) => l7Block_ok v u
  obtain ⟨x, hx⟩ : ∃ x, blkV v = x := ⟨_, rfl⟩
  have c0 := b0.cell 0
  have c1 := b0.cell 1
  have c2 := b0.cell 2
  have c3 := b0.cell 3
  subst hph
  rw [hx] at hBk h0 hg hb hxb
  rw [hx]
  have hIg := l7In_ok _ ga gc gs x (hG.kept k0) hgl
  have hIb := l7In_ok _ ba bc bs x (hB.kept k0) hbl
  rw [show decide (x ∈ gs) = false by simpa using hg] at hIg
  rw [show decide (x ∈ bs) = false by simpa using hb] at hIb
  have e0 : decide (0 ≤ x) = true := by simpa using h0
  have hrow := hO.2
  have hrl := hrow.lt
  have Hhg : Hid _ := hO.1
  clear hx hG hB hg hb hO
  go_enter Tryz.func49, Tryz.ntmps49
  go_wp2_with (go_at_call 45; refine (hBk _).mono ?_; rintro e wx ⟨rfl, rfl⟩)
  refine hIg.mono ?_
  rintro e wx ⟨rfl, rfl⟩
  go_wp2_with fail
  refine hIb.mono ?_
  rintro e wx ⟨rfl, rfl⟩
  clear hIg hIb
  go_wp2_with (at_builtin; refine wpList_append_lies _ rfl _ _ 24 rfl base 3 i0 (.int .i64 0) 1 8 Tryz.underlying24 hi hz0 hz1 hz2 rfl (by decide) _ _ _ rfl (((hrow.alloc _).alloc _).alloc _) ⟨w.heap.size + 2, 0, none⟩ 1 1 [.int .i64 x] rfl rfl (one_new3 w _ _ x) (by simp [Value.oneCell']) (by omega) (by unfold maxLen; omega) (by omega) (by simp; omega) (w.heap.size + 3) (by simp) ?_; intro gg cg w6 hown' hgrow hat hlt6; have hB6 := b0.alloc (.cells #[.int .i64 x] 3); have hZ6 := b1.alloc (.cells #[.int .i64 x] 3); have y6 := hB6.grown hgrow (fun e => by have := (hrl _ e.symm).2; omega); have z6 := hZ6.grown hgrow (fun e => by have := (hrl _ e.symm).2; omega); have p1 := y6.cell 1; have p2 := y6.frozen 1; have y7 := y6.set 1 (.slice (some ⟨gg, 0, none⟩) (gs.length + 1) cg); have z7 := z6.other (p := ⟨w.heap.size, 1, none⟩) (by simp) (.slice (some ⟨gg, 0, none⟩) (gs.length + 1) cg); have m0 := y7.cell 0; have m1 := y7.cell 1; have m2 := y7.cell 2; have m3 := y7.cell 3; have d0 := z7.cell 0; have d1 := z7.cell 1; have d2 := z7.cell 2; have d3 := z7.cell 3; have f0 := z7.frozen 0; have f1 := z7.frozen 1; have f2 := z7.frozen 2; have f3 := z7.frozen 3; have q := z7.four (.int .i64 1) (.slice (some ⟨gg, 0, none⟩) (gs.length + 1) cg) (.slice ba bs.length bc) (.int .i64 at'); have q0 := q.cell 0; have q1 := q.cell 1; have q2 := q.cell 2; have q3 := q.cell 3)
  have hgg : gg ≠ w.heap.size ∧ gg ≠ w.heap.size + 1 := by
    rcases hat with h | h
    · have h3 : (Value.slice ga gs.length gc).ownBlock = some gg := h
      have := (hrl gg h3).2
      omega
    · omega
  have k3 := k0.alloc (.cells #[.int .i64 x] 3)
  have g6 := grown_then k3 hgrow
  have o6 : OwnL w6 base (.slice (some ⟨gg, 0, none⟩) (gs.length + 1) cg) (gs ++ [x]) := OwnL.snoc (fun z hz' => by
    rcases List.mem_append.1 hz' with h | h
    · exact Hhg.out z h
    · simp at h; subst h; exact hxb) hown'
  have hf0 : ∀ j, (Value.slice (some ⟨gg, 0, none⟩) (gs.length + 1) cg).ownBlock = some j → j ≠ w.heap.size := fun j e => by simp [Value.ownBlock] at e; omega
  have hf1 : ∀ j, (Value.slice (some ⟨gg, 0, none⟩) (gs.length + 1) cg).ownBlock = some j → j ≠ w.heap.size + 1 := fun j e => by simp [Value.ownBlock] at e; omega
  refine bodyPost_ret (v := .agg #[.int .i64 1, .slice (some ⟨gg, 0, none⟩) (gs.length + 1) cg, .slice ba bs.length bc, .int .i64 at']) (by simp [results, Tryz.results49, go_sem, q0, q1, q2, q3]) rfl ⟨gg, cg, rfl, ?_, ?_, ?_, ?_⟩
  · exact OwnL.far (p := ⟨w.heap.size + 1, 3, none⟩) (OwnL.far (p := ⟨w.heap.size + 1, 2, none⟩) (OwnL.far (p := ⟨w.heap.size + 1, 1, none⟩) (OwnL.far (p := ⟨w.heap.size + 1, 0, none⟩) (OwnL.far (p := ⟨w.heap.size, 1, none⟩) o6 hf0) hf1) hf1) hf1) hf1
  · exact grown_far (grown_far (grown_far (grown_far (grown_far g6 (by simp)) (by simp)) (by simp)) (by simp)) (by simp)
  · rcases hat with h | h
    · exact .inl h
    · exact .inr (by omega)
  · simpa using hlt6
end Go.Proofs.YtchkijeaaealmaaGreat
namespace Go.Proofs.YtchkijeaaealmaaGreat
open Go.RowKit
attribute [local go_sem] Plain.and7

/-- A marker whose two lists are rows of one's own, apart from one another. -/
def MkO (W : World) (base : Nat) (v : Value) (ph : Int) (gs bs : List Int) (at' : Int) : Prop :=
  ∃ gv bv, v = .agg #[.int .i64 ph, gv, bv, .int .i64 at'] ∧ OwnL W base gv gs ∧ OwnL W base bv bs ∧ (∀ j, gv.ownBlock = some j → bv.ownBlock ≠ some j)
theorem MkO.kept {W W' : World} {base : Nat} {v : Value} {ph at' : Int} {gs bs : List Int} (h : MkO W base v ph gs bs at') (hk : Kept W W') : MkO W' base v ph gs bs at' := by
  obtain ⟨gv, bv, e, h1, h2, h3⟩ := h
  exact ⟨gv, bv, e, OwnL.kept (row := none) h1 hk.grown (fun k e => by cases e), OwnL.kept (row := none) h2 hk.grown (fun k e => by cases e), h3⟩
theorem MkO.far {W : World} {base : Nat} {v u : Value} {ph at' : Int} {gs bs : List Int} {p : Addr} (h : MkO W base v ph gs bs at') (hp : p.block < base) : MkO (W.setCell p u) base v ph gs bs at' := by
  obtain ⟨gv, bv, e, h1, h2, h3⟩ := h
  exact ⟨gv, bv, e, h1.far (fun j hj => by have := (h1.2.lt j hj).1; omega), h2.far (fun j hj => by have := (h2.2.lt j hj).1; omega), h3⟩
theorem MkO.base {W : World} {a b : Nat} {v : Value} {ph at' : Int} {gs bs : List Int} (h : MkO W b v ph gs bs at') (hab : a ≤ b) : MkO W a v ph gs bs at' := by
  obtain ⟨gv, bv, e, h1, h2, h3⟩ := h
  exact ⟨gv, bv, e, ⟨h1.1, ownsRow_base h1.2 hab⟩, ⟨h2.1, ownsRow_base h2.2 hab⟩, h3⟩
theorem l8Shade_ok (w : World) (base : Nat) (m : Value) (ph at' v : Int) (gs bs : List Int) (hm : MkO w base m ph gs bs at') (hgl : gs.length ≤ 1048576) (hbl : bs.length ≤ 1048576) (hbase : base ≤ w.heap.size) (hvb : -9223372036854775808 ≤ v ∧ v ≤ 9223372036854775807) :
    Calls Tryz.prog 49 #[m, .int .i64 v] w fun e w' => ∃ m', e = .returned m' ∧ MkO w' base m' ph (shadeL ph gs bs v) bs at' ∧ Below base w w' := by
  obtain ⟨gv, bv, rfl, h1, h2, h3⟩ := hm
  obtain ⟨ga, gc, rfl, hG⟩ := h1.ints
  obtain ⟨ba, bc, rfl, hB⟩ := h2.ints
  by_cases hc : ph = 1 ∧ 0 ≤ blkV v ∧ blkV v ∉ gs ∧ blkV v ∉ bs
  · obtain ⟨rfl, h0, hg, hb⟩ := hc
    refine (l8Shade_yes w base at' v ga ba gc bc gs bs h1 hB hgl hbl hbase hvb h0 hg hb).mono ?_
    rintro e w' ⟨g, c, rfl, ho, hgr, hat, hlt⟩
    have hbg : Below base w w' := ⟨hgr.os, hgr.tape, hgr.output, hgr.size, fun k hk => hgr.block k (by omega) (fun e => by have := (h1.2.lt k e.symm).1; omega)⟩
    refine ⟨_, rfl, ⟨_, _, rfl, ?_, OwnL.kept h2 hgr (fun k e j hj => fun ek => by subst ek; exact h3 _ e hj), ?_⟩, hbg⟩
    · have es : shadeL 1 gs bs v = gs ++ [blkV v] := if_pos ⟨rfl, h0, hg, hb⟩
      rw [es]
      exact ho
    · intro j hj e
      simp only [Value.ownBlock, Option.some.injEq] at hj
      subst hj
      rcases hat with h | h
      · exact h3 _ h e
      · have := (h2.2.lt _ e).2; omega
  · refine (l8Shade_no w ph at' v ga ba gc bc gs bs hG hB hgl hbl hc).mono ?_
    rintro e w' ⟨rfl, hk⟩
    have es : shadeL ph gs bs v = gs := if_neg hc
    rw [es]
    exact ⟨_, rfl, MkO.kept ⟨_, _, rfl, h1, h2, h3⟩ hk, hk.mono hbase⟩
theorem shade_add (gs : List Int) (v : Int) : shadeL 1 gs [] v = addB gs (blkV v) := by
  unfold shadeL addB
  simp
/-- What Start tells: the phase, and which are grey. -/
def startC (zs rs : List Int) : Int × List Int := if rootsR zs rs = true then (1, meetL [] rs) else (0, [])
set_option maxHeartbeats 16000000 in
set_option maxRecDepth 100000 in
theorem spec_Start_ok (w : World) (ao ro : Option Addr) (cap rc : Nat) (zs rs : List Int) (hI : Ints w ao zs) (hl : zs.length ≤ 1048576) (hR : Ints w ro rs) (hrl : rs.length ≤ 1048576) :
    Calls Tryz.prog 17 #[.agg #[.slice ao zs.length cap], .slice ro rs.length rc] w fun e w' => ∃ m, e = .returned m ∧ MkO w' w.heap.size m (startC zs rs).1 (startC zs rs).2 [] 0 ∧ Kept w w' := by
  have b0 := (Cells.new w 26 #[.slice ao zs.length cap]).alloc (.cells #[.int .i64 0, .slice none 0 0, .slice none 0 0, .int .i64 0] 28)
  have b1 := Cells.new (w.alloc (.cells #[.slice ao zs.length cap] 26)) 28 #[.int .i64 0, .slice none 0 0, .slice none 0 0, .int .i64 0]
  have k0 : Kept w ((w.alloc (.cells #[.slice ao zs.length cap] 26)).alloc (.cells #[.int .i64 0, .slice none 0 0, .slice none 0 0, .int .i64 0] 28)) := (Kept.alloc (Below.refl _ _) _).alloc _
  simp only [World.size_alloc] at b1
  have hRo := spec_RootsOk_ok _ ao ro cap rc zs rs (hI.kept k0) hl (hR.kept k0) hrl
  have c0 := b0.cell 0
  have nilO : ∀ (W : World) (B : Nat), OwnL W B (.slice none 0 0) [] := fun W B => ⟨by simp, World.ownsRow_nil _ _ _ _⟩
  cases hr : rootsR zs rs with
  | false =>
    have HC : Hid (startC zs rs = (0, [])) := by simp [Hid, startC, hr]
    rw [hr] at hRo
    clear hr hI hR
    go_enter Tryz.func17, Tryz.ntmps17
    go_wp2_with (go_at_call 18; refine hRo.mono ?_; rintro e w1 ⟨rfl, hk1⟩; have z1 := b1.kept hk1; have d0 := z1.cell 0; have d1 := z1.cell 1; have d2 := z1.cell 2; have d3 := z1.cell 3; have f0 := z1.frozen 0; have f1 := z1.frozen 1; have f2 := z1.frozen 2; have f3 := z1.frozen 3; have q := z1.four (.int .i64 0) (.slice none 0 0) (.slice none 0 0) (.int .i64 0); have q0 := q.cell 0; have q1 := q.cell 1; have q2 := q.cell 2; have q3 := q.cell 3)
    refine bodyPost_ret (v := .agg #[.int .i64 0, .slice none 0 0, .slice none 0 0, .int .i64 0]) (by simp [results, Tryz.results17, go_sem, q0, q1, q2, q3]) rfl ⟨_, rfl, ?_, ?_⟩
    · rw [HC.out]
      exact ⟨_, _, rfl, nilO _ _, nilO _ _, fun j hj => by simp [Value.ownBlock] at hj⟩
    · exact ((((k0.trans hk1).set (by simp) _).set (by simp) _).set (by simp) _).set (by simp) _
  | true =>
    have HC : Hid (startC zs rs = (1, meetL [] rs)) := by simp [Hid, startC, hr]
    rw [hr] at hRo
    have HLR : Hid _ := leads_roots hr
    have HR : Hid _ := hR
    clear hr hI hR
    go_enter Tryz.func17, Tryz.ntmps17
    go_wp2_with (go_at_call 18; refine hRo.mono ?_; rintro e w1 ⟨rfl, hk1⟩)
    have B5c := Cells.new w1 28 #[.int .i64 1, .slice none 0 0, .slice none 0 0, .int .i64 0]
    obtain ⟨WX, hWX⟩ : ∃ WX, w1.alloc (.cells #[.int .i64 1, .slice none 0 0, .slice none 0 0, .int .i64 0] 28) = WX := ⟨_, rfl⟩
    have kX : Kept w1 WX := by rw [← hWX]; exact Kept.alloc (Below.refl _ _) _
    have sX : WX.heap.size = w1.heap.size + 1 := by rw [← hWX]; simp
    rw [hWX] at B5c
    simp only [hWX]
    obtain ⟨B5, hB5⟩ : ∃ B5, w1.heap.size = B5 := ⟨_, rfl⟩
    rw [hB5] at B5c sX
    simp only [hB5]
    have HB5 : Hid (w1.heap.size = B5) := hB5
    have HK1 : Hid _ := k0.trans hk1
    have HZ1 : Hid _ := b1.kept hk1
    have HsX : Hid _ := sX
    have HBX : Hid _ := B5c
    have HkX : Hid _ := kX
    clear hRo hk1 b0 b1 k0 c0 hWX hB5 sX B5c kX
    go_loopw [6] (fun i wr => ∃ (k : Nat) (ga ba : Option Addr) (gc bc : Nat), i = .int .i64 k ∧ k ≤ rs.length ∧ Cells wr B5 28 #[.int .i64 1, .slice ga (meetL [] (rs.take k)).length gc, .slice ba 0 bc, .int .i64 0] ∧ MkO wr (B5 + 1) (.agg #[.int .i64 1, .slice ga (meetL [] (rs.take k)).length gc, .slice ba 0 bc, .int .i64 0]) 1 (meetL [] (rs.take k)) [] 0 ∧ Kept w1 wr ∧ B5 + 1 ≤ wr.heap.size) (fun i _ => rs.length - (intOf i).toNat)
    case atStart => exact ⟨0, none, none, 0, 0, rfl, Nat.zero_le _, HBX.out, ⟨_, _, rfl, nilO _ _, nilO _ _, fun j hj => by simp [Value.ownBlock] at hj⟩, HkX.out, by have := HsX.out; omega⟩
    case round =>
      obtain ⟨k, ga, ba, gc, bc, rfl, hk, hC, hM, hK, hsz⟩ := hrel
      have HMt : Hid (Met zs (meetL [] (rs.take k))) := Met.meet ⟨List.nodup_nil, by simp⟩ (fun v hv => HLR.out v (List.mem_of_mem_take hv))
      have hml := Met.len HMt.out
      by_cases hlt : k < rs.length
      · have HT : Hid (meetL [] (rs.take (k + 1)) = shadeL 1 (meetL [] (rs.take k)) [] (hz rs k)) := by rw [Hid, take_hz hlt, meetL_snoc, shade_add]
        have hvb := HR.out.1 _ (hz_mem hlt)
        obtain ⟨b5, o5, e5, hc5⟩ := Ints.at (Ints.kept HR.out (Kept.trans HK1.out hK)) hlt
        have c5 := hc5 k hlt
        have l5 : b5 < wr.heap.size := World.block_lt_of_cell? _ _ c5
        obtain ⟨gs, hgs⟩ : ∃ gs, meetL [] (rs.take k) = gs := ⟨_, rfl⟩
        rw [hgs] at HT hml hC hM
        have kd : Kept wr wr.drew := (Below.refl _ wr).drew
        have Yd := hC.kept kd
        have m0 := Yd.cell 0
        have m1 := Yd.cell 1
        have m2 := Yd.cell 2
        have m3 := Yd.cell 3
        have cr := (kd.cell (p := ⟨b5, o5 + k, none⟩) l5).trans c5
        have q1 : (k : Int) < (rs.length : Int) := by omega
        have q0 : (0 : Int) ≤ (k : Int) := by omega
        have hSh := l8Shade_ok wr.drew (B5 + 1) _ 1 0 (hz rs k) gs [] (hM.kept kd) (by omega) (by simp) (by simpa using hsz) hvb
        have HK : Hid _ := hK
        subst e5
        clear hc5 c5 hgs hC hM hvb hK
        go_wp2_with fail
        go_region_with (go_at_call 49; refine hSh.mono ?_; rintro e w5 ⟨m', rfl, hm', hb5⟩; obtain ⟨gv', bv', rfl, ho1, ho2, ho3⟩ := hm'; obtain ⟨ga', gc', rfl, _⟩ := ho1.ints; obtain ⟨ba', bc', rfl, _⟩ := ho2.ints; have y5 : Cells w5 B5 28 _ := (hb5.block B5 (by omega)).trans Yd; have d0 := y5.cell 0; have d1 := y5.cell 1; have d2 := y5.cell 2; have d3 := y5.cell 3; have f0 := y5.frozen 0; have f1 := y5.frozen 1; have f2 := y5.frozen 2; have f3 := y5.frozen 3)
        all_goals (
          have q := y5.four (.int .i64 1) (.slice ga' (shadeL 1 gs [] (hz rs k)).length gc') (.slice ba' 0 bc') (.int .i64 0)
          have hs5 := hb5.size
          have M5 : MkO w5 (B5 + 1) (.agg #[.int .i64 1, .slice ga' (shadeL 1 gs [] (hz rs k)).length gc', .slice ba' 0 bc', .int .i64 0]) 1 (shadeL 1 gs [] (hz rs k)) [] 0 := ⟨_, _, rfl, ho1, ho2, ho3⟩
          have K5 : Kept w1 w5 := Below.trans (Kept.trans HK.out kd) (hb5.mono (by have := HB5.out; omega))
          clear m0 m1 m2 m3 cr
          go_wp2_with fail
          go_roundw
          case rel =>
            refine ⟨k + 1, ga', ba', gc', bc', by go_num, by omega, ?_, ?_, ?_, by simpa using (Nat.le_trans (by simpa using hsz) hs5)⟩
            · rw [HT.out]; exact q
            · rw [HT.out]
              exact (((M5.far (p := ⟨B5, 0, none⟩) (by simp)).far (p := ⟨B5, 1, none⟩) (by simp)).far (p := ⟨B5, 2, none⟩) (by simp)).far (p := ⟨B5, 3, none⟩) (by simp)
            · have hB := HB5.out
              exact (((K5.set (p := ⟨B5, 0, none⟩) (by simp; omega) _).set (p := ⟨B5, 1, none⟩) (by simp; omega) _).set (p := ⟨B5, 2, none⟩) (by simp; omega) _).set (p := ⟨B5, 3, none⟩) (by simp; omega) _
          case measure => simp [intOf]; omega)
      · obtain rfl : k = rs.length := by omega
        rw [List.take_length] at hC hM
        have HM : Hid _ := hM
        have HK : Hid _ := hK
        have m0 := hC.cell 0
        have m1 := hC.cell 1
        have m2 := hC.cell 2
        have m3 := hC.cell 3
        have z := Cells.kept HZ1.out hK
        have d0 := z.cell 0
        have d1 := z.cell 1
        have d2 := z.cell 2
        have d3 := z.cell 3
        have f0 := z.frozen 0
        have f1 := z.frozen 1
        have f2 := z.frozen 2
        have f3 := z.frozen 3
        have q := z.four (.int .i64 1) (.slice ga (meetL [] rs).length gc) (.slice ba 0 bc) (.int .i64 0)
        have e0 := q.cell 0
        have e1 := q.cell 1
        have e2 := q.cell 2
        have e3 := q.cell 3
        clear hM hK
        go_wp2_with fail
        refine bodyPost_ret (v := .agg #[.int .i64 1, .slice ga (meetL [] rs).length gc, .slice ba 0 bc, .int .i64 0]) (by simp [results, Tryz.results17, go_sem, e0, e1, e2, e3]) rfl ⟨_, rfl, ?_, ?_⟩
        · rw [HC.out]
          have hB := HB5.out
          have hs1 := Below.size HK1.out
          have lz := Cells.lt HZ1.out
          exact MkO.base ((((MkO.far (p := ⟨w.heap.size + 1, 0, none⟩) HM.out (by simp; omega)).far (p := ⟨w.heap.size + 1, 1, none⟩) (by simp; omega)).far (p := ⟨w.heap.size + 1, 2, none⟩) (by simp; omega)).far (p := ⟨w.heap.size + 1, 3, none⟩) (by simp; omega)) (by omega)
        · have KK := Kept.trans HK1.out HK.out
          exact (((KK.set (p := ⟨w.heap.size + 1, 0, none⟩) (by simp) _).set (p := ⟨w.heap.size + 1, 1, none⟩) (by simp) _).set (p := ⟨w.heap.size + 1, 2, none⟩) (by simp) _).set (p := ⟨w.heap.size + 1, 3, none⟩) (by simp) _
end Go.Proofs.YtchkijeaaealmaaGreat
