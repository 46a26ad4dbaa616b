/-
  The contracts of chapter 7's models Picture and SameSight.
-/
import Derived.Test.YtgnpllpinfhccaaGreatDoorRchE
namespace Go.Proofs.YtgnpllpinfhccaaGreatDoor
open Go.RowKit
attribute [local go_sem] Plain.and7

def linesL (zs order : List Int) (os : List Int) : List Int := os.flatMap (fun a => lineL zs a.toNat order)
theorem linesL_snoc (zs order os : List Int) (a : Int) : linesL zs order (os ++ [a]) = linesL zs order os ++ lineL zs a.toNat order := by simp [linesL]
/-- What Picture tells. -/
def picL (zs rs : List Int) : List Int := if rootsR zs rs = true then [114, 111, 111, 116, 115] ++ valsL rs (ordL zs rs) ++ [10] ++ linesL zs (ordL zs rs) (ordL zs rs) else []
theorem headL_len {zs : List Int} {n : Nat} (hb : ∀ z ∈ zs, -9223372036854775808 ≤ z ∧ z ≤ 9223372036854775807) (hh : heapR zs = true) (hk : 1 ≤ kindAt zs (n : Int)) : (headL zs n).length ≤ 50000 := by
  have hlen := (slabOk_iff.1 (heapR_slab hh)).1
  obtain ⟨n', en, hn, hg, esl, b, hbm, hbn⟩ := kind_nat hk
  obtain rfl : n = n' := by omega
  have hblk := heapR_blk hh hbm
  obtain ⟨-, -, -, hbs, hbk, -⟩ := atB_some (atB_mem (heapR_slab hh) hbm)
  rw [hbn] at hblk hbs hbk
  rw [hbs, hbk] at hblk
  have hgl := hg.le
  have hs2 := hg.sz2
  unfold headL
  split
  · rename_i h1
    rw [h1, blk_text] at hblk
    unfold textR at hblk
    simp only [Bool.and_eq_true, decide_eq_true_eq, bytesR_iff] at hblk
    have := byteL_len (a := n) hb (hz zs (n + 1)).toNat (by omega)
    rw [List.length_append]
    simp only [List.length_cons, List.length_nil]
    omega
  · simp
  · simp
  · have := digI_len (n := hz zs (n + 1)) (hb _ (hz_mem (by omega)))
    rw [List.length_append]
    simp only [List.length_cons, List.length_nil]
    omega
  · simp
  · simp
theorem lineL_len {zs order : List Int} {n : Nat} (hb : ∀ z ∈ zs, -9223372036854775808 ≤ z ∧ z ≤ 9223372036854775807) (hh : heapR zs = true) (hk : 1 ≤ kindAt zs (n : Int)) (hol : order.length ≤ 1048576) : (lineL zs n order).length ≤ 100000 := by
  have hlen := (slabOk_iff.1 (heapR_slab hh)).1
  have h1 := headL_len hb hh hk
  obtain ⟨_, hsl, hsp⟩ := leads_slots hh hk
  have hvb := slots_bd hb hsp
  have h2 : (valsL (toldL zs n) order).length ≤ 24 * (toldL zs n).length := valsL_len (fun v hv => by
    unfold toldL at hv
    split at hv
    · exact hvb v (List.mem_of_mem_take hv)
    · exact hvb v hv) hol
  have h3 : (toldL zs n).length ≤ zs.length := by
    unfold toldL
    split
    · rw [List.length_take, slotV_len]; omega
    · rw [slotV_len]; exact hsl
  unfold lineL
  simp only [List.length_append, List.length_cons, List.length_nil]
  omega
theorem linesL_len {zs order : List Int} (hb : ∀ z ∈ zs, -9223372036854775808 ≤ z ∧ z ≤ 9223372036854775807) (hh : heapR zs = true) (hol : order.length ≤ 1048576) : ∀ {os : List Int}, (∀ a ∈ os, 1 ≤ kindAt zs a) → (linesL zs order os).length ≤ 100000 * os.length
  | [], _ => by simp [linesL]
  | a :: os, h => by
    have h1 := linesL_len hb hh hol (os := os) (fun x hx => h x (List.mem_cons_of_mem _ hx))
    obtain ⟨n, e, _⟩ := kind_nat (h a (by simp))
    have h2 := lineL_len (order := order) (n := n) hb hh (by rw [← e]; exact h a (by simp)) hol
    have e2 : linesL zs order (a :: os) = lineL zs a.toNat order ++ linesL zs order os := by simp [linesL]
    rw [e2, List.length_append, List.length_cons, e, Int.toNat_natCast]
    omega
set_option maxHeartbeats 16000000 in
set_option maxRecDepth 100000 in
theorem spec_Picture_ok (w : World) (ao ro : Option Addr) (cap rc : Nat) (zs rs : List Int) (hI : Ints w ao zs) (hl : zs.length ≤ 1048576) (hR : Ints w ro rs) (hrl : rs.length ≤ 1048576) :
    Calls Tryz.prog 12 #[.agg #[.slice ao zs.length cap], .slice ro rs.length rc] w fun e w' => e = .returned (.string (strOfNums (picL zs rs))) ∧ Kept w w' := by
  have b0 := Cells.new w 26 #[.slice ao zs.length cap]
  have k0 : Kept w (w.alloc (.cells #[.slice ao zs.length cap] 26)) := Kept.alloc (Below.refl _ _) _
  have hRo := spec_RootsOk_ok _ ao ro cap rc zs rs (hI.kept k0) hl (hR.kept k0) hrl
  cases hr : rootsR zs rs with
  | false =>
    have HP : Hid (picL zs rs = []) := by simp [Hid, picL, hr]
    rw [hr] at hRo
    clear hr hI hR
    go_enter Tryz.func12, Tryz.ntmps12
    go_wp2_with (go_at_call 36; refine hRo.mono ?_; rintro e w1 ⟨rfl, hk1⟩)
    go_ret
    exact ⟨by rw [HP.out]; rfl, k0.trans hk1⟩
  | true =>
    have hh : heapR zs = true := by
      unfold rootsR at hr
      simp only [Bool.and_eq_true] at hr
      exact hr.1
    have hlen := (slabOk_iff.1 (heapR_slab hh)).1
    have hM := ordL_met hr
    have hol0 := hM.len
    have hOr := fun (u : World) (hu : Kept w u) => l7Order_ok u ao ro cap rc zs rs (hI.kept hu) hl (hR.kept hu) hrl hr
    have HP0 : Hid (picL zs rs = [114, 111, 111, 116, 115] ++ valsL rs (ordL zs rs) ++ [10] ++ linesL zs (ordL zs rs) (ordL zs rs)) := by rw [Hid, picL, if_pos hr]
    obtain ⟨ord, hord⟩ : ∃ ord, ordL zs rs = ord := ⟨_, rfl⟩
    rw [hord] at hM hol0 hOr HP0
    rw [hr] at hRo
    have hol : ord.length ≤ 1048576 := by omega
    have HM : Hid _ := hM
    have HOr : Hid _ := hOr
    have HI : Hid _ := hI
    have HR : Hid _ := hR
    have HH : Hid _ := hh
    clear hr hord hM hOr hI hR hh
    go_enter Tryz.func12, Tryz.ntmps12
    go_wp2_with (first | (go_at_call 36; refine hRo.mono ?_; rintro e w1 ⟨rfl, hk1⟩; have c1 := (b0.kept hk1).cell 0) | (go_at_call 37; refine (HOr.out _ (k0.trans hk1)).mono ?_; rintro e WX ⟨v2, rfl, hO2, hk2⟩; obtain ⟨oo, oc, rfl, hI2⟩ := hO2.ints))
    have HOX : Hid _ := hI2
    have HKX : Hid _ := (k0.trans hk1).trans hk2
    have HbX : Hid _ := (b0.kept hk1).kept hk2
    clear hRo c1 hI2 hO2 hk1 hk2
    go_loopw [6, 7] (fun s i wr => ∃ j : Nat, i = .int .i64 j ∧ j ≤ rs.length ∧ s = .string (strOfNums ([114, 111, 111, 116, 115] ++ valsL (rs.take j) ord)) ∧ Kept WX wr) (fun _ i _ => rs.length - (intOf i).toNat)
    case atStart => exact ⟨0, rfl, Nat.zero_le _, rfl, Below.refl _ _⟩
    case round =>
      obtain ⟨j, rfl, hj, rfl, hKX⟩ := hrel
      have hjl := valsL_len (vs := rs.take j) (order := ord) (fun v hv => HR.out.1 v (List.mem_of_mem_take hv)) hol
      have hjm : (rs.take j).length ≤ 1048576 := by rw [List.length_take]; omega
      have hcl : ([114, 111, 111, 116, 115] ++ valsL (rs.take j) ord).length ≤ 30000000 := by rw [List.length_append]; simp only [List.length_cons, List.length_nil]; omega
      by_cases hlj : j < rs.length
      · have HT : Hid (valsL (rs.take (j + 1)) ord = valsL (rs.take j) ord ++ valL (hz rs j) ord) := by rw [Hid, take_hz hlj, valsL_snoc]
        have hvb := HR.out.1 _ (hz_mem hlj)
        have hvl := valL_len hvb hol
        obtain ⟨b5, o5, e5, hc5⟩ := Ints.at (Ints.kept HR.out (Kept.trans HKX.out hKX)) hlj
        have c5 := hc5 j hlj
        have g1 : (j : Int) < (rs.length : Int) := by omega
        have g2 : (0 : Int) ≤ (j : Int) := by omega
        have hVa := l7Value_ok wr (hz rs j) oo oc ord (Ints.kept HOX.out hKX) hol hvb
        obtain ⟨T, hT⟩ : ∃ T, valL (hz rs j) ord = T := ⟨_, rfl⟩
        obtain ⟨U, hU⟩ : ∃ U, [114, 111, 111, 116, 115] ++ valsL (rs.take j) ord = U := ⟨_, rfl⟩
        have HU : Hid ([114, 111, 111, 116, 115] ++ valsL (rs.take (j + 1)) ord = U ++ T) := by rw [Hid, HT.out, hT, ← List.append_assoc, hU]
        rw [hT] at hvl hVa
        simp only [hU]
        rw [hU] at hcl
        have hsz : ¬ 9223372036854775807 < (strOfNums U).size + (strOfNums T).size := by rw [strOfNums_size, strOfNums_size]; omega
        have HSA : Hid _ := strs_app U T
        have HKw : Hid _ := hKX
        subst e5
        clear hc5 hT hU hKX hjl hvb
        go_wp2_with (go_at_call 38; refine hVa.mono ?_; rintro e w5 ⟨rfl, hk5⟩)
        go_roundw
        case rel => exact ⟨j + 1, by go_num, by omega, by rw [HU.out, ← HSA.out], Kept.trans HKw.out hk5⟩
        case measure => simp [intOf]; omega
      · obtain rfl : j = rs.length := by omega
        have HKw : Hid _ := hKX
        obtain ⟨U, hU⟩ : ∃ U, [114, 111, 111, 116, 115] ++ valsL (rs.take rs.length) ord = U := ⟨_, rfl⟩
        have HPU : Hid (picL zs rs = (U ++ [10]) ++ linesL zs ord ord) := by rw [Hid, HP0.out, ← hU, List.take_length]
        simp only [hU]
        rw [hU] at hcl
        have hsz : ¬ 9223372036854775807 < (strOfNums U).size + (ByteArray.mk #[10]).size := by rw [strOfNums_size]; show ¬ _ < _ + 1; omega
        have HSA : Hid (strOfNums U ++ ByteArray.mk #[10] = strOfNums (U ++ [10])) := strs_app U [10]
        clear hU hKX hjl
        go_wp2_with fail
        go_loopw [6, 8] (fun s i wr => ∃ j : Nat, i = .int .i64 j ∧ j ≤ ord.length ∧ s = .string (strOfNums ((U ++ [10]) ++ linesL zs ord (ord.take j))) ∧ Kept WX wr) (fun _ i _ => ord.length - (intOf i).toNat)
        case atStart => exact ⟨0, rfl, Nat.zero_le _, by show Value.string _ = Value.string (strOfNums ((U ++ [10]) ++ [])); rw [List.append_nil]; exact congrArg Value.string HSA.out, HKw.out⟩
        case round =>
          obtain ⟨j, rfl, hj, rfl, hKX⟩ := hrel
          have hjl := linesL_len (zs := zs) (order := ord) HI.out.1 HH.out hol (os := ord.take j) (fun a ha => HM.out.2 a (List.mem_of_mem_take ha))
          have hjm : (ord.take j).length ≤ 2000 := by rw [List.length_take]; omega
          have hcl2 : ((U ++ [10]) ++ linesL zs ord (ord.take j)).length ≤ 300000000 := by simp only [List.length_append, List.length_cons, List.length_nil]; omega
          by_cases hlj : j < ord.length
          · have hka := HM.out.2 _ (hz_mem hlj)
            obtain ⟨n, en, hn, _⟩ := kind_nat hka
            rw [en] at hka
            have HT : Hid (linesL zs ord (ord.take (j + 1)) = linesL zs ord (ord.take j) ++ lineL zs n ord) := by rw [Hid, take_hz hlj, linesL_snoc, en, Int.toNat_natCast]
            have hvl := lineL_len (order := ord) HI.out.1 HH.out hka hol
            obtain ⟨b5, o5, e5, hc5⟩ := Ints.at (Ints.kept HOX.out hKX) hlj
            have c5 := hc5 j hlj
            rw [en] at c5
            have l5 : b5 < wr.heap.size := World.block_lt_of_cell? _ _ c5
            have g1 : (j : Int) < (ord.length : Int) := by omega
            have g2 : (0 : Int) ≤ (j : Int) := by omega
            have kd7 : ∀ u, Kept wr.drew u → Kept wr u := fun u hu => Kept.trans (Below.refl _ wr).drew hu
            have y0 : ∀ u, Kept wr.drew u → u.cell? ⟨w.heap.size, 0, none⟩ = some (.slice ao zs.length cap) := fun u hu => (Cells.kept HbX.out (Kept.trans hKX (kd7 u hu))).cell 0
            have y1 : ∀ u, Kept wr.drew u → u.cell? ⟨b5, o5 + j, none⟩ = some (.int .i64 (n : Int)) := fun u hu => ((kd7 u hu).cell (p := ⟨b5, o5 + j, none⟩) l5).trans c5
            obtain ⟨T, hT⟩ : ∃ T, lineL zs n ord = T := ⟨_, rfl⟩
            obtain ⟨V, hV⟩ : ∃ V, (U ++ [10]) ++ linesL zs ord (ord.take j) = V := ⟨_, rfl⟩
            subst e5
            have C1 : Hid (∀ u, Kept wr.drew u → Calls Tryz.prog 39 #[.agg #[.slice ao zs.length cap], .int .i64 (n : Int), .slice (some ⟨b5, o5, none⟩) ord.length oc] u fun e w' => e = .returned (.string (strOfNums T)) ∧ Kept u w') := fun u hu => by have := l7Line_ok u ao (some ⟨b5, o5, none⟩) cap oc zs ord n (Ints.kept HI.out (Kept.trans HKX.out (Kept.trans hKX (kd7 u hu)))) (Ints.kept HOX.out (Kept.trans hKX (kd7 u hu))) hol HH.out hka; rw [hT] at this; exact this
            have HU : Hid ((U ++ [10]) ++ linesL zs ord (ord.take (j + 1)) = V ++ T) := by rw [Hid, HT.out, hT, ← List.append_assoc, hV]
            rw [hT] at hvl
            simp only [hV]
            rw [hV] at hcl2
            have hsz2 : ¬ 9223372036854775807 < (strOfNums V).size + (strOfNums T).size := by rw [strOfNums_size, strOfNums_size]; omega
            have HSB : Hid _ := strs_app V T
            have HKw2 : Hid _ := hKX
            clear hc5 c5 hT hV hKX hjl en hka
            go_wp2_with fail
            refine wp_region_seqL (by kernel_rfl) (by kernel_rfl) ?_
            repeat (first
              | (refine SeqL.skip (by rfl) ?_; simp only [Act.put, List.setIfInBounds_toArray, List.set_cons_zero, List.set_cons_succ])
              | (refine SeqL.pure ?_ (by rfl) ?_ ?_; rotate_left; (focus (intro u hu; have y0' := y0 u hu; have y1' := y1 u hu; go_simp; first | done | exact rfl)); simp only [Act.put, List.setIfInBounds_toArray, List.set_cons_zero, List.set_cons_succ])
              | (refine SeqL.call _ _ _ (by rfl) ?_ C1.out ?_; (focus (intro u; go_simp; done)); simp only [Act.put, List.setIfInBounds_toArray, List.set_cons_zero, List.set_cons_succ]))
            refine SeqL.nil ?_
            intro w5 hu5
            have K5 := Kept.trans HKw2.out (kd7 w5 hu5)
            clear y0 y1 C1 kd7
            go_wp2_with fail
            go_roundw
            case rel => exact ⟨j + 1, by go_num, by omega, by rw [HU.out, ← HSB.out], K5⟩
            case measure => simp [intOf]; omega
          · obtain rfl : j = ord.length := by omega
            have HKw2 : Hid _ := hKX
            have HPV : Hid (picL zs rs = (U ++ [10]) ++ linesL zs ord (ord.take ord.length)) := by rw [Hid, HPU.out, List.take_length]
            clear hKX hjl
            go_wp2_with fail
            go_ret
            refine ⟨?_, Kept.trans HKX.out HKw2.out⟩
            rw [HPV.out]
            rfl
theorem str_empty (xs : List Int) : (strOfNums xs).toList.isEmpty = xs.isEmpty := by
  rw [ByteArray.toList_eq, strOfNums_data]
  cases xs <;> rfl
/-- What SameSight tells. -/
def sightR (xs one ys two : List Int) : Bool := rootsR xs one && (strOfNums (picL xs one) == strOfNums (picL ys two))
set_option maxHeartbeats 8000000 in
set_option maxRecDepth 100000 in
theorem spec_SameSight_ok (w : World) (ao bo ro so : Option Addr) (ca cb cr cs : Nat) (xs one ys two : List Int) (hA : Ints w ao xs) (hB : Ints w bo ys) (hR : Ints w ro one) (hS : Ints w so two) (hl : xs.length ≤ 1048576) (hm : ys.length ≤ 1048576) (h1 : one.length ≤ 1048576) (h2 : two.length ≤ 1048576) :
    Calls Tryz.prog 9 #[.agg #[.slice ao xs.length ca], .slice ro one.length cr, .agg #[.slice bo ys.length cb], .slice so two.length cs] w fun e w' => e = .returned (.bool (sightR xs one ys two)) ∧ Kept w w' := by
  have b0 := (Cells.new w 26 #[.slice ao xs.length ca]).alloc (.cells #[.slice bo ys.length cb] 26)
  have b1 := Cells.new (w.alloc (.cells #[.slice ao xs.length ca] 26)) 26 #[.slice bo ys.length cb]
  have k0 : Kept w ((w.alloc (.cells #[.slice ao xs.length ca] 26)).alloc (.cells #[.slice bo ys.length cb] 26)) := (Kept.alloc (Below.refl _ _) _).alloc _
  simp only [World.size_alloc] at b1
  have c0 := b0.cell 0
  have hP := spec_Picture_ok _ ao ro ca cr xs one (hA.kept k0) hl (hR.kept k0) h1
  have HQ : Hid _ := fun (u : World) (hu : Kept w u) => spec_Picture_ok u bo so cb cs ys two (hB.kept hu) hm (hS.kept hu) h2
  cases hr : rootsR xs one with
  | false =>
    have HE : Hid (sightR xs one ys two = false) := by simp [Hid, sightR, hr]
    have e0 : picL xs one = [] := by simp [picL, hr]
    rw [e0] at hP
    have n1 : (strOfNums []).toList.isEmpty = true := str_empty []
    clear hr e0 hA hB hR hS
    go_enter Tryz.func9, Tryz.ntmps9
    clear HQ
    go_wp2_with fail
    refine hP.mono ?_
    rintro e w1 ⟨rfl, hk1⟩
    go_wp2_with fail
    go_ret
    exact ⟨by rw [HE.out]; rfl, k0.trans hk1⟩
  | true =>
    obtain ⟨P, hPe⟩ : ∃ P, strOfNums (picL xs one) = P := ⟨_, rfl⟩
    obtain ⟨Q, hQe⟩ : ∃ Q, strOfNums (picL ys two) = Q := ⟨_, rfl⟩
    have HE : Hid (sightR xs one ys two = (P == Q)) := by simp [Hid, sightR, hr, hPe, hQe]
    have n1 : P.toList.isEmpty = false := by rw [← hPe, str_empty, picL, if_pos hr]; rfl
    rw [hPe] at hP
    rw [hQe] at HQ
    obtain ⟨r, hrr⟩ : ∃ r, (P == Q) = r := ⟨_, rfl⟩
    have e2 : (P.toList == Q.toList) = r := by rw [← beq_toListBytes]; exact hrr
    rw [hrr] at HE
    clear hr hPe hQe hA hB hR hS
    go_enter Tryz.func9, Tryz.ntmps9
    go_wp2_with fail
    refine hP.mono ?_
    rintro e w1 ⟨rfl, hk1⟩
    have c1 := (b1.kept hk1).cell 0
    have hQ := HQ.out _ (k0.trans hk1)
    clear hP HQ c0
    go_wp2_with fail
    refine hQ.mono ?_
    rintro e w2 ⟨rfl, hk2⟩
    go_wp2_with fail
    go_ret
    exact ⟨by rw [HE.out]; rfl, (k0.trans hk1).trans hk2⟩
end Go.Proofs.YtgnpllpinfhccaaGreatDoor
