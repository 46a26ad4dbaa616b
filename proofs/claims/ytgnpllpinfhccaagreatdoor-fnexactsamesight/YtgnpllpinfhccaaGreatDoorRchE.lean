/-
  The contract of chapter 7's model l7Line.
-/
import Derived.Test.YtgnpllpinfhccaaGreatDoorRchD
namespace Go.Proofs.YtgnpllpinfhccaaGreatDoor
open Go.RowKit
attribute [local go_sem] Plain.and7

/-- How many values are left where those that are 0 are left out at the end. -/
def cutN (vs : List Int) : Nat → Nat
  | 0 => 0
  | n + 1 => if hz vs n = 0 then cutN vs n else n + 1
theorem cutN_le (vs : List Int) : ∀ n, cutN vs n ≤ n
  | 0 => Nat.le_refl _
  | n + 1 => by
    unfold cutN
    split
    · have := cutN_le vs n; omega
    · exact Nat.le_refl _
def valsL (vs order : List Int) : List Int := vs.flatMap (fun v => valL v order)
theorem valsL_snoc (vs : List Int) (v : Int) (order : List Int) : valsL (vs ++ [v]) order = valsL vs order ++ valL v order := by simp [valsL]
theorem valsL_len {order : List Int} : ∀ {vs : List Int}, (∀ v ∈ vs, -9223372036854775808 ≤ v ∧ v ≤ 9223372036854775807) → order.length ≤ 1048576 → (valsL vs order).length ≤ 24 * vs.length
  | [], _, _ => by simp [valsL]
  | v :: vs, h, hl => by
    have h1 := valsL_len (vs := vs) (fun x hx => h x (List.mem_cons_of_mem _ hx)) hl
    have h2 := valL_len (h v (by simp)) hl
    have e : valsL (v :: vs) order = valL v order ++ valsL vs order := by simp [valsL]
    rw [e, List.length_append, List.length_cons]
    omega
/-- The bytes of a text, as they are shown. -/
def byteL (zs : List Int) (a : Nat) : Nat → List Int
  | 0 => []
  | n + 1 => byteL zs a n ++ ([32] ++ digI (hz zs (a + 2 + n)))
theorem byteL_len {zs : List Int} {a : Nat} (h : ∀ z ∈ zs, -9223372036854775808 ≤ z ∧ z ≤ 9223372036854775807) : ∀ n, a + 2 + n ≤ zs.length → (byteL zs a n).length ≤ 22 * n
  | 0, _ => by simp [byteL]
  | n + 1, hn => by
    have h1 := byteL_len (a := a) h n (by omega)
    have h2 := digI_len (n := hz zs (a + 2 + n)) (h _ (hz_mem (by omega)))
    unfold byteL
    simp only [List.length_append, List.length_cons, List.length_nil]
    omega
def headL (zs : List Int) (a : Nat) : List Int := match kd zs a with
  | 1 => [116, 101, 120, 116] ++ byteL zs a (hz zs (a + 1)).toNat
  | 2 => [111, 98, 106]
  | 3 => [99, 101, 108, 108]
  | 4 => [102, 117, 110, 32] ++ digI (hz zs (a + 1))
  | 5 => [115, 99, 111, 112, 101]
  | _ => []
def toldL (zs : List Int) (a : Nat) : List Int := if kd zs a = 5 then (slotV zs a).take (cutN (slotV zs a) (slotV zs a).length) else slotV zs a
/-- A block's line. -/
def lineL (zs : List Int) (a : Nat) (order : List Int) : List Int := headL zs a ++ valsL (toldL zs a) order ++ [10]
theorem slots_bd {zs : List Int} {a : Int} (h : ∀ z ∈ zs, -9223372036854775808 ≤ z ∧ z ≤ 9223372036854775807) (hp : ∀ i, i < (slotsL zs a).length → ∃ p : Nat, hz (slotsL zs a) i = p ∧ p < zs.length) : ∀ v ∈ slotV zs a, -9223372036854775808 ≤ v ∧ v ≤ 9223372036854775807 := by
  intro v hv
  obtain ⟨i, hi, e⟩ := List.getElem_of_mem hv
  rw [slotV_len] at hi
  obtain ⟨p, e1, e2⟩ := hp i hi
  have e3 := slotV_at hi
  rw [e1, Int.toNat_natCast] at e3
  have e4 : hz (slotV zs a) i = v := by unfold hz; rw [List.getElem?_eq_getElem (by rw [slotV_len]; exact hi)]; exact e
  rw [← e4, e3]
  exact h _ (hz_mem e2)
theorem own_someE {W : World} {base : Nat} {v : Value} {l : List Int} (h : OwnL W base v l) (h1 : 1 ≤ l.length) : ∃ so sc, v = .slice so l.length sc ∧ Ints W so l ∧ l.length ≤ sc ∧ sc ≤ maxLen ∧ ∃ g, so = some ⟨g, 0, none⟩ := by
  rcases h.cases with ⟨_, e⟩ | ⟨g, cap, e, _, h2, h3, hr⟩
  · rw [e] at h1; simp at h1
  · exact ⟨_, cap, e, hr.ints, h2, h3, g, rfl⟩
set_option maxHeartbeats 32000000 in
set_option maxRecDepth 100000 in
theorem l7Line_ok (w : World) (ao oo : Option Addr) (cap oc : Nat) (zs order : List Int) (n : Nat) (hI : Ints w ao zs) (hO : Ints w oo order) (hol : order.length ≤ 1048576) (hh : heapR zs = true) (hk : 1 ≤ kindAt zs (n : Int)) :
    Calls Tryz.prog 39 #[.agg #[.slice ao zs.length cap], .int .i64 (n : Int), .slice oo order.length oc] w fun e w' => e = .returned (.string (strOfNums (lineL zs n order))) ∧ Kept w w' := by
  have hlen := (slabOk_iff.1 (heapR_slab hh)).1
  have hl : zs.length ≤ 1048576 := by omega
  obtain ⟨n', en, hn, hg, esl, b, hbm, hbn⟩ := kind_nat hk
  obtain rfl : n = n' := by omega
  obtain ⟨-, hsl, hsp⟩ := leads_slots hh hk
  have hkd : (kd zs n : Int) = kindAt zs (n : Int) := by
    have h1 := atB_mem (heapR_slab hh) hbm
    obtain ⟨_, _, _, _, h2, _⟩ := atB_some h1
    rw [hbn] at h1 h2
    unfold kindAt
    rw [h1]
    show (kd zs n : Int) = ((b.1.kind : Nat) : Int)
    rw [h2]
  have hblk := heapR_blk hh hbm
  obtain ⟨-, -, -, hbs, hbk, -⟩ := atB_some (atB_mem (heapR_slab hh) hbm)
  rw [hbn] at hblk hbs hbk
  rw [hbs, hbk] at hblk
  have hgl := hg.le
  have hk5 := hg.kd5
  have hs2 := hg.sz2
  have HSV : Hid (∀ i, i < (slotsL zs (n : Int)).length → hz (slotV zs (n : Int)) i = hz zs (hz (slotsL zs (n : Int)) i).toNat) := fun i hi => slotV_at hi
  have HSL : Hid ((slotV zs (n : Int)).length = (slotsL zs (n : Int)).length) := slotV_len _ _
  have HVB : Hid _ := slots_bd hI.1 hsp
  have HSP : Hid _ := hsp
  have HI : Hid _ := hI
  have HOr : Hid _ := hO
  have b0 := Cells.new w 26 #[.slice ao zs.length cap]
  have k0 : Kept w (w.alloc (.cells #[.slice ao zs.length cap] 26)) := Kept.alloc (Below.refl _ _) _
  have hL3 := l3Slots_ok _ ao cap zs n (hI.kept k0) hl hg
  rw [← esl] at hL3
  have HLD : Hid (lineL zs n order = headL zs n ++ valsL (toldL zs n) order ++ [10]) := rfl
  have HTD : Hid (toldL zs n = if kd zs n = 5 then (slotV zs (n : Int)).take (cutN (slotV zs (n : Int)) (slotV zs (n : Int)).length) else slotV zs (n : Int)) := rfl
  have HHD : Hid (headL zs n = match kd zs n with
    | 1 => [116, 101, 120, 116] ++ byteL zs n (hz zs (n + 1)).toNat
    | 2 => [111, 98, 106]
    | 3 => [99, 101, 108, 108]
    | 4 => [102, 117, 110, 32] ++ digI (hz zs (n + 1))
    | 5 => [115, 99, 111, 112, 101]
    | _ => []) := rfl
  have HSE : Hid (slotsL zs (n : Int) = slL n (kd zs n) (sz zs n)) := esl
  have hkI := kdI zs n
  obtain ⟨sl, hsl0⟩ : ∃ sl, slotsL zs (n : Int) = sl := ⟨_, rfl⟩
  obtain ⟨sv, hsv0⟩ : ∃ sv, slotV zs (n : Int) = sv := ⟨_, rfl⟩
  rw [hsl0] at hL3 hsl HSV HSL HSP HSE
  rw [hsv0] at HSV HSL HVB HTD
  obtain ⟨ba, ofa, ea, hca⟩ := hI.at hn
  subst ea
  have cn : ∀ (j : Nat) (u : World), j < zs.length → Kept w u → u.cell? ⟨ba, ofa + j, none⟩ = some (.int .i64 (hz zs j)) := fun j u hj hu => (hu.cell (p := ⟨ba, ofa + j, none⟩) (World.block_lt_of_cell? _ _ (hca j hj))).trans (hca j hj)
  have CN : Hid _ := cn
  have q1 : (n : Int) < (zs.length : Int) := by omega
  have q0 : (0 : Int) ≤ (n : Int) := by omega
  have HB : Hid _ := hblk
  have hl2 := fun (u : World) => l2Kind_ok (hz zs n) u
  rw [← hkI] at hl2
  obtain ⟨K, hK⟩ : ∃ K, kd zs n = K := ⟨_, rfl⟩
  rw [hK] at hl2 HB HTD HHD HSE hk5 hkd
  have hK1 : 1 ≤ K := by omega
  have Hen : Hid (n + sz zs n ≤ zs.length) := hgl
  have Hs2 : Hid (2 ≤ sz zs n) := hs2
  have Hsl : Hid (sl.length ≤ zs.length) := hsl
  have hslb : sl.length ≤ 1048576 := by omega
  clear hsl0 hsv0 esl hK hkI hh hblk cn hca hI hO hg hkd hbm hbn hsp en hk hbs hbk hgl hs2 hsl b
  rcases (show K = 1 ∨ K = 2 ∨ K = 3 ∨ K = 4 ∨ K = 5 by omega) with rfl | rfl | rfl | rfl | rfl
  · have hb := HB.out
    rw [blk_text] at hb
    unfold textR at hb
    simp only [Bool.and_eq_true, decide_eq_true_eq, bytesR_iff] at hb
    obtain ⟨t, ht⟩ : ∃ t : Nat, hz zs (n + 1) = t := ⟨(hz zs (n + 1)).toNat, by omega⟩
    have hts : n + 2 + t ≤ zs.length := by have := Hen.out; omega
    clear hb
    have htn : (hz zs (n + 1)).toNat = t := by omega
    have hbl := fun (j : Nat) (hj : j ≤ t) => byteL_len (zs := zs) (a := n) HI.out.1 j (by omega)
    have HBL : Hid _ := hbl
    have HHL : Hid ((([116, 101, 120, 116] ++ byteL zs n t) : List Int).length ≤ 50000) := by rw [Hid, List.length_append]; have := hbl t (Nat.le_refl _); simp only [List.length_cons, List.length_nil]; omega
    have HLX : Hid (lineL zs n order = ([116, 101, 120, 116] ++ byteL zs n t) ++ valsL (sv.take sl.length) order ++ [10]) := by rw [Hid, HLD.out, HHD.out, HTD.out, ← HSL.out, List.take_length, htn]; rfl
    have p1 : (n : Int) + 1 < (zs.length : Int) := by omega
    have p0 : (0 : Int) ≤ (n : Int) + 1 := by omega
    have t1 : ((n : Int) + 1).toNat = n + 1 := by omega
    have wr1 : IntKind.i64.wrap ((n : Int) + 1) = (n : Int) + 1 := by rw [IntWalk.i64_left, IntWalk.wrap64_in _ (by omega)]
    have wr2 : IntKind.i64.wrap ((n : Int) + 2) = (n : Int) + 2 := by rw [IntWalk.i64_left, IntWalk.wrap64_in _ (by omega)]
    have hn1 : n + 1 < zs.length := by omega
    clear hbl htn
    go_enter Tryz.func39, Tryz.ntmps39
    go_wp2_with (first | (go_at_call 63; refine hL3.mono ?_; rintro e WX ⟨v3, rfl, hO3, hk3⟩; have KX := k0.trans hk3; have bX := b0.kept hk3; have cX := bX.cell 0; have cN := CN.out n WX hn KX; obtain ⟨so, sc, rfl, hI3⟩ := hO3.ints) | (go_at_call 67; refine (hl2 _).mono ?_; rintro e wx ⟨rfl, rfl⟩))
    have HIX : Hid _ := hI3
    have HKX : Hid _ := KX
    have HbX : Hid _ := bX
    clear hL3 hI3 KX bX cX cN hO3
    go_loopw [7, 9] (fun s i wr => ∃ j : Nat, i = .int .i64 j ∧ j ≤ t ∧ s = .string (strOfNums ([116, 101, 120, 116] ++ byteL zs n j)) ∧ Kept WX wr) (fun _ i _ => t - (intOf i).toNat)
    case atStart => exact ⟨0, rfl, Nat.zero_le _, rfl, Below.refl _ _⟩
    case round =>
      obtain ⟨j, rfl, hj, rfl, hKX⟩ := hrel
      have hjl := HBL.out j hj
      have cS := (Cells.kept HbX.out hKX).cell 0
      have cT := CN.out (n + 1) wr hn1 (Kept.trans HKX.out hKX)
      rw [ht] at cT
      by_cases hlj : j < t
      · have hnj : n + 2 + j < zs.length := by omega
        have cJ := CN.out (n + 2 + j) wr hnj (Kept.trans HKX.out hKX)
        have g1 : (j : Int) < (t : Int) := by omega
        have p2 : (n : Int) + 2 + (j : Int) < (zs.length : Int) := by omega
        have p3 : (0 : Int) ≤ (n : Int) + 2 + (j : Int) := by omega
        have t2 : ((n : Int) + 2 + (j : Int)).toNat = n + 2 + j := by omega
        have wr3 : IntKind.i64.wrap ((n : Int) + 2 + (j : Int)) = (n : Int) + 2 + (j : Int) := by rw [IntWalk.i64_left, IntWalk.wrap64_in _ (by omega)]
        have hzb : -9223372036854775808 ≤ hz zs (n + 2 + j) ∧ hz zs (n + 2 + j) ≤ 9223372036854775807 := HI.out.1 _ (hz_mem hnj)
        have hdl := digI_len hzb
        have hDg := fun (u : World) => l7Digits_ok u (hz zs (n + 2 + j)) hzb
        obtain ⟨D, hD⟩ : ∃ D, digI (hz zs (n + 2 + j)) = D := ⟨_, rfl⟩
        obtain ⟨U, hU⟩ : ∃ U, [116, 101, 120, 116] ++ byteL zs n j = U := ⟨_, rfl⟩
        have hul : U.length ≤ 60000 := by rw [← hU, List.length_append]; simp only [List.length_cons, List.length_nil]; omega
        have HN : Hid ([116, 101, 120, 116] ++ byteL zs n (j + 1) = U ++ [32] ++ D) := by rw [Hid, ← hU, ← hD]; simp [byteL]
        rw [hD] at hdl hDg
        simp only [hU]
        have s1 : strOfNums U ++ ByteArray.mk #[32] = strOfNums (U ++ [32]) := strs_app U [32]
        have hsz : ¬ 9223372036854775807 < (strOfNums U).size + (ByteArray.mk #[32]).size := by rw [strOfNums_size]; show ¬ _ < _ + 1; omega
        have hsz2 : ¬ 9223372036854775807 < (strOfNums (U ++ [32])).size + (strOfNums D).size := by rw [strOfNums_size, strOfNums_size, List.length_append]; simp only [List.length_cons, List.length_nil]; omega
        have HSA : Hid _ := strs_app (U ++ [32]) D
        have HKw : Hid _ := hKX
        clear hD hU hKX hjl hzb
        go_wp2_with (go_at_call 66; refine (hDg _).mono ?_; rintro e w4 ⟨rfl, hk4⟩)
        go_roundw
        case rel => exact ⟨j + 1, by go_num, by omega, by rw [HN.out, ← HSA.out], Kept.trans HKw.out hk4⟩
        case measure => simp [intOf]; omega
      · obtain rfl : t = j := by omega
        have HKw : Hid _ := hKX
        clear hKX hjl
        go_wp2_with fail
        go_loopw [7, 11] (fun s i wr => ∃ j : Nat, i = .int .i64 j ∧ j ≤ sl.length ∧ s = .string (strOfNums (([116, 101, 120, 116] ++ byteL zs n t) ++ valsL (sv.take j) order)) ∧ Kept WX wr) (fun _ i _ => sl.length - (intOf i).toNat)
        case atStart => exact ⟨0, rfl, Nat.zero_le _, by show Value.string _ = Value.string (strOfNums (([116, 101, 120, 116] ++ byteL zs n t) ++ [])); first | (rw [List.append_nil]; done) | (rw [List.append_nil]; exact rfl), HKw.out⟩
        case round =>
          obtain ⟨j, rfl, hj, rfl, hKX⟩ := hrel
          have hjl := valsL_len (vs := sv.take j) (order := order) (fun v hv => HVB.out v (List.mem_of_mem_take hv)) hol
          have hjm : (sv.take j).length ≤ 4194304 := by rw [List.length_take]; have := HSL.out; omega
          have hcl : (([116, 101, 120, 116] ++ byteL zs n t) ++ valsL (sv.take j) order).length ≤ 200000000 := by rw [List.length_append]; have := HHL.out; omega
          by_cases hlj : j < sl.length
          · have hjs : j < sl.length := by omega
            obtain ⟨p, hp, hpl⟩ := HSP.out j hjs
            have evj : hz sv j = hz zs p := by rw [HSV.out j hjs, hp, Int.toNat_natCast]
            have hjv : j < sv.length := by rw [HSL.out]; exact hjs
            have HT : Hid (valsL (sv.take (j + 1)) order = valsL (sv.take j) order ++ valL (hz zs p) order) := by rw [Hid, take_hz hjv, valsL_snoc, evj]
            have hvb : -9223372036854775808 ≤ hz zs p ∧ hz zs p ≤ 9223372036854775807 := by rw [← evj]; exact HVB.out _ (hz_mem hjv)
            have hvl := valL_len hvb hol
            obtain ⟨b5, o5, e5, hc5⟩ := Ints.at (Ints.kept HIX.out hKX) hjs
            have c5 := hc5 j hjs
            rw [hp] at c5
            have c6 := CN.out p wr hpl (Kept.trans HKX.out hKX)
            have l5 : b5 < wr.heap.size := World.block_lt_of_cell? _ _ c5
            have l6 : ba < wr.heap.size := World.block_lt_of_cell? _ _ c6
            have g1 : (j : Int) < ((sl.length : Nat) : Int) := by omega
            have g2 : (0 : Int) ≤ (j : Int) := by omega
            have g3 : (p : Int) < (zs.length : Int) := by omega
            have g4 : (0 : Int) ≤ (p : Int) := by omega
            have g5 : ((p : Int)).toNat = p := by omega
            have kd7 : ∀ u, Kept wr.drew u → Kept wr u := fun u hu => Kept.trans (Below.refl _ wr).drew hu
            have y0 : ∀ u, Kept wr.drew u → u.cell? ⟨w.heap.size, 0, none⟩ = some (.slice (some ⟨ba, ofa, none⟩) zs.length cap) := fun u hu => (Cells.kept HbX.out (Kept.trans hKX (kd7 u hu))).cell 0
            have y1 : ∀ u, Kept wr.drew u → u.cell? ⟨b5, o5 + j, none⟩ = some (.int .i64 (p : Int)) := fun u hu => ((kd7 u hu).cell (p := ⟨b5, o5 + j, none⟩) l5).trans c5
            have y2 : ∀ u, Kept wr.drew u → u.cell? ⟨ba, ofa + p, none⟩ = some (.int .i64 (hz zs p)) := fun u hu => ((kd7 u hu).cell (p := ⟨ba, ofa + p, none⟩) l6).trans c6
            obtain ⟨T, hT⟩ : ∃ T, valL (hz zs p) order = T := ⟨_, rfl⟩
            obtain ⟨U, hU⟩ : ∃ U, ([116, 101, 120, 116] ++ byteL zs n t) ++ valsL (sv.take j) order = U := ⟨_, rfl⟩
            have C1 : Hid (∀ u, Kept wr.drew u → Calls Tryz.prog 38 #[.int .i64 (hz zs p), .slice oo order.length oc] u fun e w' => e = .returned (.string (strOfNums T)) ∧ Kept u w') := fun u hu => by have := l7Value_ok u (hz zs p) oo oc order (Ints.kept HOr.out (Kept.trans HKX.out (Kept.trans hKX (kd7 u hu)))) hol hvb; rw [hT] at this; exact this
            have HU : Hid (([116, 101, 120, 116] ++ byteL zs n t) ++ valsL (sv.take (j + 1)) order = U ++ T) := by rw [Hid, HT.out, hT, ← List.append_assoc, hU]
            rw [hT] at hvl
            simp only [hU]
            rw [hU] at hcl
            have hsz : ¬ 9223372036854775807 < (strOfNums U).size + (strOfNums T).size := by rw [strOfNums_size, strOfNums_size]; omega
            have HSA : Hid _ := strs_app U T
            have HKw : Hid _ := hKX
            cases e5
            try simp only [Nat.zero_add] at y1
            clear hc5 c5 c6 evj hp hT hU hKX hjl hvb
            go_wp2_with fail
            refine wp_region_seqL (by kernel_rfl) (by kernel_rfl) ?_
            repeat (first
              | (refine SeqL.skip (by rfl) ?_; simp only [Act.put, List.setIfInBounds_toArray, List.set_cons_zero, List.set_cons_succ])
              | (refine SeqL.pure ?_ (by rfl) ?_ ?_; rotate_left; (focus (intro u hu; have y0' := y0 u hu; have y1' := y1 u hu; have y2' := y2 u hu; go_simp; first | done | exact rfl)); simp only [Act.put, List.setIfInBounds_toArray, List.set_cons_zero, List.set_cons_succ])
              | (refine SeqL.call _ _ _ (by rfl) ?_ C1.out ?_; (focus (intro u; go_simp; done)); simp only [Act.put, List.setIfInBounds_toArray, List.set_cons_zero, List.set_cons_succ]))
            refine SeqL.nil ?_
            intro w5 hu5
            have K5 := Kept.trans HKw.out (kd7 w5 hu5)
            clear y0 y1 y2 C1 kd7
            go_wp2_with fail
            go_roundw
            case rel => exact ⟨j + 1, by go_num, by omega, by rw [HU.out, ← HSA.out], K5⟩
            case measure => simp [intOf]; omega
          · obtain rfl : j = sl.length := by omega
            have HKw : Hid _ := hKX
            obtain ⟨U, hU⟩ : ∃ U, ([116, 101, 120, 116] ++ byteL zs n t) ++ valsL (sv.take sl.length) order = U := ⟨_, rfl⟩
            have HLn : Hid (lineL zs n order = U ++ [10]) := by rw [Hid, ← hU]; exact HLX.out
            simp only [hU]
            rw [hU] at hcl
            have hsz : ¬ 9223372036854775807 < (strOfNums U).size + (ByteArray.mk #[10]).size := by rw [strOfNums_size]; show ¬ _ < _ + 1; omega
            have HSA : Hid (strOfNums U ++ ByteArray.mk #[10] = strOfNums (U ++ [10])) := strs_app U [10]
            clear hU hKX hjl
            go_wp2_with fail
            go_ret
            refine ⟨?_, Kept.trans HKX.out HKw.out⟩
            rw [HLn.out, ← HSA.out]
            rfl
  · have HHL : Hid (([111, 98, 106] : List Int).length ≤ 50000) := by show _ ≤ _; decide
    have HLX : Hid (lineL zs n order = [111, 98, 106] ++ valsL (sv.take sl.length) order ++ [10]) := by rw [Hid, HLD.out, HHD.out, HTD.out, ← HSL.out, List.take_length]; rfl
    go_enter Tryz.func39, Tryz.ntmps39
    go_wp2_with (first | (go_at_call 63; refine hL3.mono ?_; rintro e WX ⟨v3, rfl, hO3, hk3⟩; have KX := k0.trans hk3; have bX := b0.kept hk3; have cX := bX.cell 0; have cN := CN.out n WX hn KX; obtain ⟨so, sc, rfl, hI3⟩ := hO3.ints) | (go_at_call 67; refine (hl2 _).mono ?_; rintro e wx ⟨rfl, rfl⟩))
    have HIX : Hid _ := hI3
    have HKX : Hid _ := KX
    have HbX : Hid _ := bX
    clear hL3 hI3 KX bX cX cN hO3
    go_loopw [7, 11] (fun s i wr => ∃ j : Nat, i = .int .i64 j ∧ j ≤ sl.length ∧ s = .string (strOfNums ([111, 98, 106] ++ valsL (sv.take j) order)) ∧ Kept WX wr) (fun _ i _ => sl.length - (intOf i).toNat)
    case atStart => exact ⟨0, rfl, Nat.zero_le _, by show Value.string _ = Value.string (strOfNums ([111, 98, 106] ++ [])); first | (rw [List.append_nil]; done) | (rw [List.append_nil]; exact rfl), Below.refl _ _⟩
    case round =>
      obtain ⟨j, rfl, hj, rfl, hKX⟩ := hrel
      have hjl := valsL_len (vs := sv.take j) (order := order) (fun v hv => HVB.out v (List.mem_of_mem_take hv)) hol
      have hjm : (sv.take j).length ≤ 4194304 := by rw [List.length_take]; have := HSL.out; omega
      have hcl : ([111, 98, 106] ++ valsL (sv.take j) order).length ≤ 200000000 := by rw [List.length_append]; have := HHL.out; omega
      by_cases hlj : j < sl.length
      · have hjs : j < sl.length := by omega
        obtain ⟨p, hp, hpl⟩ := HSP.out j hjs
        have evj : hz sv j = hz zs p := by rw [HSV.out j hjs, hp, Int.toNat_natCast]
        have hjv : j < sv.length := by rw [HSL.out]; exact hjs
        have HT : Hid (valsL (sv.take (j + 1)) order = valsL (sv.take j) order ++ valL (hz zs p) order) := by rw [Hid, take_hz hjv, valsL_snoc, evj]
        have hvb : -9223372036854775808 ≤ hz zs p ∧ hz zs p ≤ 9223372036854775807 := by rw [← evj]; exact HVB.out _ (hz_mem hjv)
        have hvl := valL_len hvb hol
        obtain ⟨b5, o5, e5, hc5⟩ := Ints.at (Ints.kept HIX.out hKX) hjs
        have c5 := hc5 j hjs
        rw [hp] at c5
        have c6 := CN.out p wr hpl (Kept.trans HKX.out hKX)
        have l5 : b5 < wr.heap.size := World.block_lt_of_cell? _ _ c5
        have l6 : ba < wr.heap.size := World.block_lt_of_cell? _ _ c6
        have g1 : (j : Int) < ((sl.length : Nat) : Int) := by omega
        have g2 : (0 : Int) ≤ (j : Int) := by omega
        have g3 : (p : Int) < (zs.length : Int) := by omega
        have g4 : (0 : Int) ≤ (p : Int) := by omega
        have g5 : ((p : Int)).toNat = p := by omega
        have kd7 : ∀ u, Kept wr.drew u → Kept wr u := fun u hu => Kept.trans (Below.refl _ wr).drew hu
        have y0 : ∀ u, Kept wr.drew u → u.cell? ⟨w.heap.size, 0, none⟩ = some (.slice (some ⟨ba, ofa, none⟩) zs.length cap) := fun u hu => (Cells.kept HbX.out (Kept.trans hKX (kd7 u hu))).cell 0
        have y1 : ∀ u, Kept wr.drew u → u.cell? ⟨b5, o5 + j, none⟩ = some (.int .i64 (p : Int)) := fun u hu => ((kd7 u hu).cell (p := ⟨b5, o5 + j, none⟩) l5).trans c5
        have y2 : ∀ u, Kept wr.drew u → u.cell? ⟨ba, ofa + p, none⟩ = some (.int .i64 (hz zs p)) := fun u hu => ((kd7 u hu).cell (p := ⟨ba, ofa + p, none⟩) l6).trans c6
        obtain ⟨T, hT⟩ : ∃ T, valL (hz zs p) order = T := ⟨_, rfl⟩
        obtain ⟨U, hU⟩ : ∃ U, [111, 98, 106] ++ valsL (sv.take j) order = U := ⟨_, rfl⟩
        have C1 : Hid (∀ u, Kept wr.drew u → Calls Tryz.prog 38 #[.int .i64 (hz zs p), .slice oo order.length oc] u fun e w' => e = .returned (.string (strOfNums T)) ∧ Kept u w') := fun u hu => by have := l7Value_ok u (hz zs p) oo oc order (Ints.kept HOr.out (Kept.trans HKX.out (Kept.trans hKX (kd7 u hu)))) hol hvb; rw [hT] at this; exact this
        have HU : Hid ([111, 98, 106] ++ valsL (sv.take (j + 1)) order = U ++ T) := by rw [Hid, HT.out, hT, ← List.append_assoc, hU]
        rw [hT] at hvl
        simp only [hU]
        rw [hU] at hcl
        have hsz : ¬ 9223372036854775807 < (strOfNums U).size + (strOfNums T).size := by rw [strOfNums_size, strOfNums_size]; omega
        have HSA : Hid _ := strs_app U T
        have HKw : Hid _ := hKX
        cases e5
        try simp only [Nat.zero_add] at y1
        clear hc5 c5 c6 evj hp hT hU hKX hjl hvb
        go_wp2_with fail
        refine wp_region_seqL (by kernel_rfl) (by kernel_rfl) ?_
        repeat (first
          | (refine SeqL.skip (by rfl) ?_; simp only [Act.put, List.setIfInBounds_toArray, List.set_cons_zero, List.set_cons_succ])
          | (refine SeqL.pure ?_ (by rfl) ?_ ?_; rotate_left; (focus (intro u hu; have y0' := y0 u hu; have y1' := y1 u hu; have y2' := y2 u hu; go_simp; first | done | exact rfl)); simp only [Act.put, List.setIfInBounds_toArray, List.set_cons_zero, List.set_cons_succ])
          | (refine SeqL.call _ _ _ (by rfl) ?_ C1.out ?_; (focus (intro u; go_simp; done)); simp only [Act.put, List.setIfInBounds_toArray, List.set_cons_zero, List.set_cons_succ]))
        refine SeqL.nil ?_
        intro w5 hu5
        have K5 := Kept.trans HKw.out (kd7 w5 hu5)
        clear y0 y1 y2 C1 kd7
        go_wp2_with fail
        go_roundw
        case rel => exact ⟨j + 1, by go_num, by omega, by rw [HU.out, ← HSA.out], K5⟩
        case measure => simp [intOf]; omega
      · obtain rfl : j = sl.length := by omega
        have HKw : Hid _ := hKX
        obtain ⟨U, hU⟩ : ∃ U, [111, 98, 106] ++ valsL (sv.take sl.length) order = U := ⟨_, rfl⟩
        have HLn : Hid (lineL zs n order = U ++ [10]) := by rw [Hid, ← hU]; exact HLX.out
        simp only [hU]
        rw [hU] at hcl
        have hsz : ¬ 9223372036854775807 < (strOfNums U).size + (ByteArray.mk #[10]).size := by rw [strOfNums_size]; show ¬ _ < _ + 1; omega
        have HSA : Hid (strOfNums U ++ ByteArray.mk #[10] = strOfNums (U ++ [10])) := strs_app U [10]
        clear hU hKX hjl
        go_wp2_with fail
        go_ret
        refine ⟨?_, Kept.trans HKX.out HKw.out⟩
        rw [HLn.out, ← HSA.out]
        rfl
  · have HHL : Hid (([99, 101, 108, 108] : List Int).length ≤ 50000) := by show _ ≤ _; decide
    have HLX : Hid (lineL zs n order = [99, 101, 108, 108] ++ valsL (sv.take sl.length) order ++ [10]) := by rw [Hid, HLD.out, HHD.out, HTD.out, ← HSL.out, List.take_length]; rfl
    go_enter Tryz.func39, Tryz.ntmps39
    go_wp2_with (first | (go_at_call 63; refine hL3.mono ?_; rintro e WX ⟨v3, rfl, hO3, hk3⟩; have KX := k0.trans hk3; have bX := b0.kept hk3; have cX := bX.cell 0; have cN := CN.out n WX hn KX; obtain ⟨so, sc, rfl, hI3⟩ := hO3.ints) | (go_at_call 67; refine (hl2 _).mono ?_; rintro e wx ⟨rfl, rfl⟩))
    have HIX : Hid _ := hI3
    have HKX : Hid _ := KX
    have HbX : Hid _ := bX
    clear hL3 hI3 KX bX cX cN hO3
    go_loopw [7, 11] (fun s i wr => ∃ j : Nat, i = .int .i64 j ∧ j ≤ sl.length ∧ s = .string (strOfNums ([99, 101, 108, 108] ++ valsL (sv.take j) order)) ∧ Kept WX wr) (fun _ i _ => sl.length - (intOf i).toNat)
    case atStart => exact ⟨0, rfl, Nat.zero_le _, by show Value.string _ = Value.string (strOfNums ([99, 101, 108, 108] ++ [])); first | (rw [List.append_nil]; done) | (rw [List.append_nil]; exact rfl), Below.refl _ _⟩
    case round =>
      obtain ⟨j, rfl, hj, rfl, hKX⟩ := hrel
      have hjl := valsL_len (vs := sv.take j) (order := order) (fun v hv => HVB.out v (List.mem_of_mem_take hv)) hol
      have hjm : (sv.take j).length ≤ 4194304 := by rw [List.length_take]; have := HSL.out; omega
      have hcl : ([99, 101, 108, 108] ++ valsL (sv.take j) order).length ≤ 200000000 := by rw [List.length_append]; have := HHL.out; omega
      by_cases hlj : j < sl.length
      · have hjs : j < sl.length := by omega
        obtain ⟨p, hp, hpl⟩ := HSP.out j hjs
        have evj : hz sv j = hz zs p := by rw [HSV.out j hjs, hp, Int.toNat_natCast]
        have hjv : j < sv.length := by rw [HSL.out]; exact hjs
        have HT : Hid (valsL (sv.take (j + 1)) order = valsL (sv.take j) order ++ valL (hz zs p) order) := by rw [Hid, take_hz hjv, valsL_snoc, evj]
        have hvb : -9223372036854775808 ≤ hz zs p ∧ hz zs p ≤ 9223372036854775807 := by rw [← evj]; exact HVB.out _ (hz_mem hjv)
        have hvl := valL_len hvb hol
        obtain ⟨b5, o5, e5, hc5⟩ := Ints.at (Ints.kept HIX.out hKX) hjs
        have c5 := hc5 j hjs
        rw [hp] at c5
        have c6 := CN.out p wr hpl (Kept.trans HKX.out hKX)
        have l5 : b5 < wr.heap.size := World.block_lt_of_cell? _ _ c5
        have l6 : ba < wr.heap.size := World.block_lt_of_cell? _ _ c6
        have g1 : (j : Int) < ((sl.length : Nat) : Int) := by omega
        have g2 : (0 : Int) ≤ (j : Int) := by omega
        have g3 : (p : Int) < (zs.length : Int) := by omega
        have g4 : (0 : Int) ≤ (p : Int) := by omega
        have g5 : ((p : Int)).toNat = p := by omega
        have kd7 : ∀ u, Kept wr.drew u → Kept wr u := fun u hu => Kept.trans (Below.refl _ wr).drew hu
        have y0 : ∀ u, Kept wr.drew u → u.cell? ⟨w.heap.size, 0, none⟩ = some (.slice (some ⟨ba, ofa, none⟩) zs.length cap) := fun u hu => (Cells.kept HbX.out (Kept.trans hKX (kd7 u hu))).cell 0
        have y1 : ∀ u, Kept wr.drew u → u.cell? ⟨b5, o5 + j, none⟩ = some (.int .i64 (p : Int)) := fun u hu => ((kd7 u hu).cell (p := ⟨b5, o5 + j, none⟩) l5).trans c5
        have y2 : ∀ u, Kept wr.drew u → u.cell? ⟨ba, ofa + p, none⟩ = some (.int .i64 (hz zs p)) := fun u hu => ((kd7 u hu).cell (p := ⟨ba, ofa + p, none⟩) l6).trans c6
        obtain ⟨T, hT⟩ : ∃ T, valL (hz zs p) order = T := ⟨_, rfl⟩
        obtain ⟨U, hU⟩ : ∃ U, [99, 101, 108, 108] ++ valsL (sv.take j) order = U := ⟨_, rfl⟩
        have C1 : Hid (∀ u, Kept wr.drew u → Calls Tryz.prog 38 #[.int .i64 (hz zs p), .slice oo order.length oc] u fun e w' => e = .returned (.string (strOfNums T)) ∧ Kept u w') := fun u hu => by have := l7Value_ok u (hz zs p) oo oc order (Ints.kept HOr.out (Kept.trans HKX.out (Kept.trans hKX (kd7 u hu)))) hol hvb; rw [hT] at this; exact this
        have HU : Hid ([99, 101, 108, 108] ++ valsL (sv.take (j + 1)) order = U ++ T) := by rw [Hid, HT.out, hT, ← List.append_assoc, hU]
        rw [hT] at hvl
        simp only [hU]
        rw [hU] at hcl
        have hsz : ¬ 9223372036854775807 < (strOfNums U).size + (strOfNums T).size := by rw [strOfNums_size, strOfNums_size]; omega
        have HSA : Hid _ := strs_app U T
        have HKw : Hid _ := hKX
        cases e5
        try simp only [Nat.zero_add] at y1
        clear hc5 c5 c6 evj hp hT hU hKX hjl hvb
        go_wp2_with fail
        refine wp_region_seqL (by kernel_rfl) (by kernel_rfl) ?_
        repeat (first
          | (refine SeqL.skip (by rfl) ?_; simp only [Act.put, List.setIfInBounds_toArray, List.set_cons_zero, List.set_cons_succ])
          | (refine SeqL.pure ?_ (by rfl) ?_ ?_; rotate_left; (focus (intro u hu; have y0' := y0 u hu; have y1' := y1 u hu; have y2' := y2 u hu; go_simp; first | done | exact rfl)); simp only [Act.put, List.setIfInBounds_toArray, List.set_cons_zero, List.set_cons_succ])
          | (refine SeqL.call _ _ _ (by rfl) ?_ C1.out ?_; (focus (intro u; go_simp; done)); simp only [Act.put, List.setIfInBounds_toArray, List.set_cons_zero, List.set_cons_succ]))
        refine SeqL.nil ?_
        intro w5 hu5
        have K5 := Kept.trans HKw.out (kd7 w5 hu5)
        clear y0 y1 y2 C1 kd7
        go_wp2_with fail
        go_roundw
        case rel => exact ⟨j + 1, by go_num, by omega, by rw [HU.out, ← HSA.out], K5⟩
        case measure => simp [intOf]; omega
      · obtain rfl : j = sl.length := by omega
        have HKw : Hid _ := hKX
        obtain ⟨U, hU⟩ : ∃ U, [99, 101, 108, 108] ++ valsL (sv.take sl.length) order = U := ⟨_, rfl⟩
        have HLn : Hid (lineL zs n order = U ++ [10]) := by rw [Hid, ← hU]; exact HLX.out
        simp only [hU]
        rw [hU] at hcl
        have hsz : ¬ 9223372036854775807 < (strOfNums U).size + (ByteArray.mk #[10]).size := by rw [strOfNums_size]; show ¬ _ < _ + 1; omega
        have HSA : Hid (strOfNums U ++ ByteArray.mk #[10] = strOfNums (U ++ [10])) := strs_app U [10]
        clear hU hKX hjl
        go_wp2_with fail
        go_ret
        refine ⟨?_, Kept.trans HKX.out HKw.out⟩
        rw [HLn.out, ← HSA.out]
        rfl
  · have hb := HB.out
    rw [blk_fun] at hb
    unfold funR at hb
    simp only [Bool.and_eq_true, decide_eq_true_eq] at hb
    have hf3 : 3 ≤ sz zs n := hb.1.1.1.1.1
    have hd9 := hb.1.1.1.2
    have hz3 := Hen.out
    clear hb
    have hdl := digI_len (n := hz zs (n + 1)) (by omega)
    have HHL : Hid ((([102, 117, 110, 32] ++ digI (hz zs (n + 1))) : List Int).length ≤ 50000) := by rw [Hid, List.length_append]; simp only [List.length_cons, List.length_nil]; omega
    have HLX : Hid (lineL zs n order = ([102, 117, 110, 32] ++ digI (hz zs (n + 1))) ++ valsL (sv.take sl.length) order ++ [10]) := by rw [Hid, HLD.out, HHD.out, HTD.out, ← HSL.out, List.take_length]; rfl
    have hDg := fun (u : World) => l7Digits_ok u (hz zs (n + 1)) (by omega)
    have hsz : ¬ 9223372036854775807 < (ByteArray.mk #[102, 117, 110, 32]).size + (strOfNums (digI (hz zs (n + 1)))).size := by rw [strOfNums_size]; show ¬ _ < 4 + _; omega
    have HST : Hid (ByteArray.mk #[102, 117, 110, 32] ++ strOfNums (digI (hz zs (n + 1))) = strOfNums ([102, 117, 110, 32] ++ digI (hz zs (n + 1)))) := strs_app [102, 117, 110, 32] _
    have p1 : (n : Int) + 1 < (zs.length : Int) := by omega
    have p0 : (0 : Int) ≤ (n : Int) + 1 := by omega
    have t1 : ((n : Int) + 1).toNat = n + 1 := by omega
    have wr1 : IntKind.i64.wrap ((n : Int) + 1) = (n : Int) + 1 := by rw [IntWalk.i64_left, IntWalk.wrap64_in _ (by omega)]
    have hn1 : n + 1 < zs.length := by omega
    go_enter Tryz.func39, Tryz.ntmps39
    go_wp2_with (first | (go_at_call 63; refine hL3.mono ?_; rintro e WX ⟨v3, rfl, hO3, hk3⟩; have KX := k0.trans hk3; have bX := b0.kept hk3; have cX := bX.cell 0; have cN := CN.out n WX hn KX; obtain ⟨so, sc, rfl, hI3⟩ := hO3.ints; have cN1 := CN.out (n + 1) WX hn1 KX) | (go_at_call 67; refine (hl2 _).mono ?_; rintro e wx ⟨rfl, rfl⟩) | (go_at_call 66; refine (hDg _).mono ?_; rintro e w4 ⟨rfl, hk4⟩))
    have HIX : Hid _ := hI3
    have HKX : Hid _ := KX
    have HbX : Hid _ := bX
    clear hL3 hI3 KX bX cX cN cN1 hO3
    go_loopw [7, 11] (fun s i wr => ∃ j : Nat, i = .int .i64 j ∧ j ≤ sl.length ∧ s = .string (strOfNums (([102, 117, 110, 32] ++ digI (hz zs (n + 1))) ++ valsL (sv.take j) order)) ∧ Kept WX wr) (fun _ i _ => sl.length - (intOf i).toNat)
    case atStart => exact ⟨0, rfl, Nat.zero_le _, by show Value.string _ = Value.string (strOfNums (([102, 117, 110, 32] ++ digI (hz zs (n + 1))) ++ [])); first | (rw [List.append_nil]; done) | (rw [List.append_nil]; exact congrArg Value.string HST.out), hk4⟩
    case round =>
      obtain ⟨j, rfl, hj, rfl, hKX⟩ := hrel
      have hjl := valsL_len (vs := sv.take j) (order := order) (fun v hv => HVB.out v (List.mem_of_mem_take hv)) hol
      have hjm : (sv.take j).length ≤ 4194304 := by rw [List.length_take]; have := HSL.out; omega
      have hcl : (([102, 117, 110, 32] ++ digI (hz zs (n + 1))) ++ valsL (sv.take j) order).length ≤ 200000000 := by rw [List.length_append]; have := HHL.out; omega
      by_cases hlj : j < sl.length
      · have hjs : j < sl.length := by omega
        obtain ⟨p, hp, hpl⟩ := HSP.out j hjs
        have evj : hz sv j = hz zs p := by rw [HSV.out j hjs, hp, Int.toNat_natCast]
        have hjv : j < sv.length := by rw [HSL.out]; exact hjs
        have HT : Hid (valsL (sv.take (j + 1)) order = valsL (sv.take j) order ++ valL (hz zs p) order) := by rw [Hid, take_hz hjv, valsL_snoc, evj]
        have hvb : -9223372036854775808 ≤ hz zs p ∧ hz zs p ≤ 9223372036854775807 := by rw [← evj]; exact HVB.out _ (hz_mem hjv)
        have hvl := valL_len hvb hol
        obtain ⟨b5, o5, e5, hc5⟩ := Ints.at (Ints.kept HIX.out hKX) hjs
        have c5 := hc5 j hjs
        rw [hp] at c5
        have c6 := CN.out p wr hpl (Kept.trans HKX.out hKX)
        have l5 : b5 < wr.heap.size := World.block_lt_of_cell? _ _ c5
        have l6 : ba < wr.heap.size := World.block_lt_of_cell? _ _ c6
        have g1 : (j : Int) < ((sl.length : Nat) : Int) := by omega
        have g2 : (0 : Int) ≤ (j : Int) := by omega
        have g3 : (p : Int) < (zs.length : Int) := by omega
        have g4 : (0 : Int) ≤ (p : Int) := by omega
        have g5 : ((p : Int)).toNat = p := by omega
        have kd7 : ∀ u, Kept wr.drew u → Kept wr u := fun u hu => Kept.trans (Below.refl _ wr).drew hu
        have y0 : ∀ u, Kept wr.drew u → u.cell? ⟨w.heap.size, 0, none⟩ = some (.slice (some ⟨ba, ofa, none⟩) zs.length cap) := fun u hu => (Cells.kept HbX.out (Kept.trans hKX (kd7 u hu))).cell 0
        have y1 : ∀ u, Kept wr.drew u → u.cell? ⟨b5, o5 + j, none⟩ = some (.int .i64 (p : Int)) := fun u hu => ((kd7 u hu).cell (p := ⟨b5, o5 + j, none⟩) l5).trans c5
        have y2 : ∀ u, Kept wr.drew u → u.cell? ⟨ba, ofa + p, none⟩ = some (.int .i64 (hz zs p)) := fun u hu => ((kd7 u hu).cell (p := ⟨ba, ofa + p, none⟩) l6).trans c6
        obtain ⟨T, hT⟩ : ∃ T, valL (hz zs p) order = T := ⟨_, rfl⟩
        obtain ⟨U, hU⟩ : ∃ U, ([102, 117, 110, 32] ++ digI (hz zs (n + 1))) ++ valsL (sv.take j) order = U := ⟨_, rfl⟩
        have C1 : Hid (∀ u, Kept wr.drew u → Calls Tryz.prog 38 #[.int .i64 (hz zs p), .slice oo order.length oc] u fun e w' => e = .returned (.string (strOfNums T)) ∧ Kept u w') := fun u hu => by have := l7Value_ok u (hz zs p) oo oc order (Ints.kept HOr.out (Kept.trans HKX.out (Kept.trans hKX (kd7 u hu)))) hol hvb; rw [hT] at this; exact this
        have HU : Hid (([102, 117, 110, 32] ++ digI (hz zs (n + 1))) ++ valsL (sv.take (j + 1)) order = U ++ T) := by rw [Hid, HT.out, hT, ← List.append_assoc, hU]
        rw [hT] at hvl
        simp only [hU]
        rw [hU] at hcl
        have hsz : ¬ 9223372036854775807 < (strOfNums U).size + (strOfNums T).size := by rw [strOfNums_size, strOfNums_size]; omega
        have HSA : Hid _ := strs_app U T
        have HKw : Hid _ := hKX
        cases e5
        try simp only [Nat.zero_add] at y1
        clear hc5 c5 c6 evj hp hT hU hKX hjl hvb
        go_wp2_with fail
        refine wp_region_seqL (by kernel_rfl) (by kernel_rfl) ?_
        repeat (first
          | (refine SeqL.skip (by rfl) ?_; simp only [Act.put, List.setIfInBounds_toArray, List.set_cons_zero, List.set_cons_succ])
          | (refine SeqL.pure ?_ (by rfl) ?_ ?_; rotate_left; (focus (intro u hu; have y0' := y0 u hu; have y1' := y1 u hu; have y2' := y2 u hu; go_simp; first | done | exact rfl)); simp only [Act.put, List.setIfInBounds_toArray, List.set_cons_zero, List.set_cons_succ])
          | (refine SeqL.call _ _ _ (by rfl) ?_ C1.out ?_; (focus (intro u; go_simp; done)); simp only [Act.put, List.setIfInBounds_toArray, List.set_cons_zero, List.set_cons_succ]))
        refine SeqL.nil ?_
        intro w5 hu5
        have K5 := Kept.trans HKw.out (kd7 w5 hu5)
        clear y0 y1 y2 C1 kd7
        go_wp2_with fail
        go_roundw
        case rel => exact ⟨j + 1, by go_num, by omega, by rw [HU.out, ← HSA.out], K5⟩
        case measure => simp [intOf]; omega
      · obtain rfl : j = sl.length := by omega
        have HKw : Hid _ := hKX
        obtain ⟨U, hU⟩ : ∃ U, ([102, 117, 110, 32] ++ digI (hz zs (n + 1))) ++ valsL (sv.take sl.length) order = U := ⟨_, rfl⟩
        have HLn : Hid (lineL zs n order = U ++ [10]) := by rw [Hid, ← hU]; exact HLX.out
        simp only [hU]
        rw [hU] at hcl
        have hsz : ¬ 9223372036854775807 < (strOfNums U).size + (ByteArray.mk #[10]).size := by rw [strOfNums_size]; show ¬ _ < _ + 1; omega
        have HSA : Hid (strOfNums U ++ ByteArray.mk #[10] = strOfNums (U ++ [10])) := strs_app U [10]
        clear hU hKX hjl
        go_wp2_with fail
        go_ret
        refine ⟨?_, Kept.trans HKX.out HKw.out⟩
        rw [HLn.out, ← HSA.out]
        rfl
  · have HHL : Hid (([115, 99, 111, 112, 101] : List Int).length ≤ 50000) := by show _ ≤ _; decide
    have HT5 : Hid (toldL zs n = sv.take (cutN sv sv.length)) := by rw [Hid, HTD.out]; simp
    have hsl1 : 1 ≤ sl.length := by rw [HSE.out, slL, someL_len]; have := Hs2.out; have e1 : slOff 5 = 1 := rfl; have e2 : slMany 5 = 4194304 := rfl; rw [e1, e2]; omega
    go_enter Tryz.func39, Tryz.ntmps39
    go_wp2_with (first | (go_at_call 63; refine hL3.mono ?_; rintro e WX ⟨v3, rfl, hO3, hk3⟩; have KX := k0.trans hk3; have bX := b0.kept hk3; have cX := bX.cell 0; have cN := CN.out n WX hn KX; obtain ⟨so, sc, ev3, hI3, hcap, hscm, hsoE⟩ := own_someE hO3 hsl1; subst ev3) | (go_at_call 67; refine (hl2 _).mono ?_; rintro e wx ⟨rfl, rfl⟩))
    have HIX : Hid _ := hI3
    have HKX : Hid _ := KX
    have HbX : Hid _ := bX
    clear hL3 hI3 KX bX cX cN hO3
    go_loopw [10] (fun c wr => ∃ m : Nat, c = .int .i64 m ∧ m ≤ sl.length ∧ cutN sv sl.length = cutN sv m ∧ Kept WX wr) (fun c _ => (intOf c).toNat)
    case atStart => exact ⟨sl.length, rfl, Nat.le_refl _, rfl, Below.refl _ _⟩
    case round =>
      obtain ⟨m, rfl, hm, hcut, hKX⟩ := hrel
      have HCut : Hid _ := hcut
      have HKw : Hid _ := hKX
      by_cases h0 : m = 0
      · subst h0
        have HM : Hid (cutN sv 0 = 0) := rfl
        clear hcut hKX
        go_wp2_with fail
        refine wp_region_seqL (by kernel_rfl) (by kernel_rfl) ?_
        repeat (first
          | (refine SeqL.skip (by rfl) ?_; simp only [Act.put, List.setIfInBounds_toArray, List.set_cons_zero, List.set_cons_succ])
          | (refine SeqL.pure ?_ (by rfl) ?_ ?_; rotate_left; (focus (intro u hu; go_simp; first | done | exact rfl)); simp only [Act.put, List.setIfInBounds_toArray, List.set_cons_zero, List.set_cons_succ])
        )
        refine SeqL.nil ?_
        intro w5 hu5
        have K5 := Kept.trans HKw.out (Kept.trans (Below.refl _ wr).drew hu5)
        have HLX : Hid (lineL zs n order = [115, 99, 111, 112, 101] ++ valsL (sv.take 0) order ++ [10]) := by rw [Hid, HLD.out, HHD.out, HT5.out, HSL.out, HCut.out, HM.out]
        have f1 : ((0 : Nat) : Int) ≤ (sc : Int) := by omega
        have f2 : 0 ≤ sc := by omega
        have f3 : (0 : Int) ≤ ((0 : Nat) : Int) := by omega
        obtain ⟨gS, hgS⟩ := hsoE
        subst hgS
        go_wp2_with fail
        go_loopw [7, 11] (fun s i wr => ∃ j : Nat, i = .int .i64 j ∧ j ≤ 0 ∧ s = .string (strOfNums ([115, 99, 111, 112, 101] ++ valsL (sv.take j) order)) ∧ Kept WX wr) (fun _ i _ => 0 - (intOf i).toNat)
        case atStart => exact ⟨0, rfl, Nat.zero_le _, by show Value.string _ = Value.string (strOfNums ([115, 99, 111, 112, 101] ++ [])); first | (rw [List.append_nil]; done) | (rw [List.append_nil]; exact rfl), K5⟩
        case round =>
          obtain ⟨j, rfl, hj, rfl, hKX⟩ := hrel
          have hjl := valsL_len (vs := sv.take j) (order := order) (fun v hv => HVB.out v (List.mem_of_mem_take hv)) hol
          have hjm : (sv.take j).length ≤ 4194304 := by rw [List.length_take]; have := HSL.out; omega
          have hcl : ([115, 99, 111, 112, 101] ++ valsL (sv.take j) order).length ≤ 200000000 := by rw [List.length_append]; have := HHL.out; omega
          by_cases hlj : j < 0
          · exact absurd hlj (by omega)
          · obtain rfl : j = 0 := by omega
            have HKw : Hid _ := hKX
            obtain ⟨U, hU⟩ : ∃ U, [115, 99, 111, 112, 101] ++ valsL (sv.take 0) order = U := ⟨_, rfl⟩
            have HLn : Hid (lineL zs n order = U ++ [10]) := by rw [Hid, ← hU]; exact HLX.out
            simp only [hU]
            rw [hU] at hcl
            have hsz : ¬ 9223372036854775807 < (strOfNums U).size + (ByteArray.mk #[10]).size := by rw [strOfNums_size]; show ¬ _ < _ + 1; omega
            have HSA : Hid (strOfNums U ++ ByteArray.mk #[10] = strOfNums (U ++ [10])) := strs_app U [10]
            clear hU hKX hjl
            go_wp2_with fail
            go_ret
            refine ⟨?_, Kept.trans HKX.out HKw.out⟩
            rw [HLn.out, ← HSA.out]
            rfl
      · obtain ⟨q, hqm⟩ : ∃ q, m = q + 1 := ⟨m - 1, by omega⟩
        have HQM : Hid _ := hqm
        have hqs : q < sl.length := by omega
        obtain ⟨p, hp, hpl⟩ := HSP.out q hqs
        have evq : hz sv q = hz zs p := by rw [HSV.out q hqs, hp, Int.toNat_natCast]
        obtain ⟨b5, o5, e5, hc5⟩ := Ints.at (Ints.kept HIX.out hKX) hqs
        have c5 := hc5 q hqs
        rw [hp] at c5
        have c6 := CN.out p wr hpl (Kept.trans HKX.out hKX)
        have l5 : b5 < wr.heap.size := World.block_lt_of_cell? _ _ c5
        have l6 : ba < wr.heap.size := World.block_lt_of_cell? _ _ c6
        have g0 : (0 : Int) < (m : Int) := by omega
        have g0n : 0 < m := by omega
        have g1 : (q : Int) < (sl.length : Int) := by omega
        have g2 : (0 : Int) ≤ (q : Int) := by omega
        have g3 : (p : Int) < (zs.length : Int) := by omega
        have g4 : (0 : Int) ≤ (p : Int) := by omega
        have g5 : ((p : Int)).toNat = p := by omega
        have wq : IntKind.i64.wrap ((m : Int) - 1) = (q : Int) := by rw [IntWalk.i64_left, IntWalk.wrap64_in _ (by omega)]; omega
        have kd7 : ∀ u, Kept wr.drew u → Kept wr u := fun u hu => Kept.trans (Below.refl _ wr).drew hu
        have y0 : ∀ u, Kept wr.drew u → u.cell? ⟨w.heap.size, 0, none⟩ = some (.slice (some ⟨ba, ofa, none⟩) zs.length cap) := fun u hu => (Cells.kept HbX.out (Kept.trans hKX (kd7 u hu))).cell 0
        have y1 : ∀ u, Kept wr.drew u → u.cell? ⟨b5, o5 + q, none⟩ = some (.int .i64 (p : Int)) := fun u hu => ((kd7 u hu).cell (p := ⟨b5, o5 + q, none⟩) l5).trans c5
        have y2 : ∀ u, Kept wr.drew u → u.cell? ⟨ba, ofa + p, none⟩ = some (.int .i64 (hz zs p)) := fun u hu => ((kd7 u hu).cell (p := ⟨ba, ofa + p, none⟩) l6).trans c6
        have HSo : Hid _ := hsoE
        obtain ⟨gS, hgS⟩ := hsoE
        subst hgS
        cases e5
        simp only [Nat.zero_add] at y1
        have hqb : q < m := by omega
        clear hc5 c5 c6 hp hcut hKX hqm
        by_cases hx : hz zs p = 0
        · have hd : (hz zs p == 0) = true := by simpa using hx
          have HM : Hid (cutN sv m = cutN sv q) := by rw [Hid, HQM.out, cutN, if_pos (evq.trans hx)]
          clear hx evq
          go_wp2_with fail
          refine wp_region_seqL (by kernel_rfl) (by kernel_rfl) ?_
          repeat (first
            | (refine SeqL.skip (by rfl) ?_; simp only [Act.put, List.setIfInBounds_toArray, List.set_cons_zero, List.set_cons_succ])
            | (refine SeqL.pure ?_ (by rfl) ?_ ?_; rotate_left; (focus (intro u hu; have y0' := y0 u hu; have y1' := y1 u hu; have y2' := y2 u hu; go_simp; first | done | exact rfl)); simp only [Act.put, List.setIfInBounds_toArray, List.set_cons_zero, List.set_cons_succ])
          )
          refine SeqL.nil ?_
          intro w5 hu5
          have K5 := Kept.trans HKw.out (kd7 w5 hu5)
          clear y0 y1 y2 kd7
          go_wp2_with fail
          go_roundw
          case rel => exact ⟨q, by go_num, by omega, HCut.out.trans HM.out, K5⟩
          case measure => simp [intOf]; omega
        · have hd : (hz zs p == 0) = false := by simpa using hx
          have HM : Hid (cutN sv m = m) := by rw [Hid, HQM.out, cutN, if_neg (by rw [evq]; exact hx)]
          clear hx evq
          go_wp2_with fail
          refine wp_region_seqL (by kernel_rfl) (by kernel_rfl) ?_
          repeat (first
            | (refine SeqL.skip (by rfl) ?_; simp only [Act.put, List.setIfInBounds_toArray, List.set_cons_zero, List.set_cons_succ])
            | (refine SeqL.pure ?_ (by rfl) ?_ ?_; rotate_left; (focus (intro u hu; have y0' := y0 u hu; have y1' := y1 u hu; have y2' := y2 u hu; go_simp; first | done | exact rfl)); simp only [Act.put, List.setIfInBounds_toArray, List.set_cons_zero, List.set_cons_succ])
          )
          refine SeqL.nil ?_
          intro w5 hu5
          have K5 := Kept.trans HKw.out (kd7 w5 hu5)
          clear y0 y1 y2 kd7
          have HLX : Hid (lineL zs n order = [115, 99, 111, 112, 101] ++ valsL (sv.take m) order ++ [10]) := by rw [Hid, HLD.out, HHD.out, HT5.out, HSL.out, HCut.out, HM.out]
          have f1 : ((m : Nat) : Int) ≤ (sc : Int) := by omega
          have f2 : m ≤ sc := by omega
          have f3 : (0 : Int) ≤ ((m : Nat) : Int) := by omega
          go_wp2_with fail
          go_loopw [7, 11] (fun s i wr => ∃ j : Nat, i = .int .i64 j ∧ j ≤ m ∧ s = .string (strOfNums ([115, 99, 111, 112, 101] ++ valsL (sv.take j) order)) ∧ Kept WX wr) (fun _ i _ => m - (intOf i).toNat)
          case atStart => exact ⟨0, rfl, Nat.zero_le _, by show Value.string _ = Value.string (strOfNums ([115, 99, 111, 112, 101] ++ [])); first | (rw [List.append_nil]; done) | (rw [List.append_nil]; exact rfl), K5⟩
          case round =>
            obtain ⟨j, rfl, hj, rfl, hKX⟩ := hrel
            have hjl := valsL_len (vs := sv.take j) (order := order) (fun v hv => HVB.out v (List.mem_of_mem_take hv)) hol
            have hjm : (sv.take j).length ≤ 4194304 := by rw [List.length_take]; have := HSL.out; omega
            have hcl : ([115, 99, 111, 112, 101] ++ valsL (sv.take j) order).length ≤ 200000000 := by rw [List.length_append]; have := HHL.out; omega
            by_cases hlj : j < m
            · have hjs : j < sl.length := by omega
              obtain ⟨p, hp, hpl⟩ := HSP.out j hjs
              have evj : hz sv j = hz zs p := by rw [HSV.out j hjs, hp, Int.toNat_natCast]
              have hjv : j < sv.length := by rw [HSL.out]; exact hjs
              have HT : Hid (valsL (sv.take (j + 1)) order = valsL (sv.take j) order ++ valL (hz zs p) order) := by rw [Hid, take_hz hjv, valsL_snoc, evj]
              have hvb : -9223372036854775808 ≤ hz zs p ∧ hz zs p ≤ 9223372036854775807 := by rw [← evj]; exact HVB.out _ (hz_mem hjv)
              have hvl := valL_len hvb hol
              obtain ⟨b5, o5, e5, hc5⟩ := Ints.at (Ints.kept HIX.out hKX) hjs
              have c5 := hc5 j hjs
              rw [hp] at c5
              have c6 := CN.out p wr hpl (Kept.trans HKX.out hKX)
              have l5 : b5 < wr.heap.size := World.block_lt_of_cell? _ _ c5
              have l6 : ba < wr.heap.size := World.block_lt_of_cell? _ _ c6
              have g1 : (j : Int) < ((m : Nat) : Int) := by omega
              have g2 : (0 : Int) ≤ (j : Int) := by omega
              have g3 : (p : Int) < (zs.length : Int) := by omega
              have g4 : (0 : Int) ≤ (p : Int) := by omega
              have g5 : ((p : Int)).toNat = p := by omega
              have kd7 : ∀ u, Kept wr.drew u → Kept wr u := fun u hu => Kept.trans (Below.refl _ wr).drew hu
              have y0 : ∀ u, Kept wr.drew u → u.cell? ⟨w.heap.size, 0, none⟩ = some (.slice (some ⟨ba, ofa, none⟩) zs.length cap) := fun u hu => (Cells.kept HbX.out (Kept.trans hKX (kd7 u hu))).cell 0
              have y1 : ∀ u, Kept wr.drew u → u.cell? ⟨b5, o5 + j, none⟩ = some (.int .i64 (p : Int)) := fun u hu => ((kd7 u hu).cell (p := ⟨b5, o5 + j, none⟩) l5).trans c5
              have y2 : ∀ u, Kept wr.drew u → u.cell? ⟨ba, ofa + p, none⟩ = some (.int .i64 (hz zs p)) := fun u hu => ((kd7 u hu).cell (p := ⟨ba, ofa + p, none⟩) l6).trans c6
              obtain ⟨T, hT⟩ : ∃ T, valL (hz zs p) order = T := ⟨_, rfl⟩
              obtain ⟨U, hU⟩ : ∃ U, [115, 99, 111, 112, 101] ++ valsL (sv.take j) order = U := ⟨_, rfl⟩
              have C1 : Hid (∀ u, Kept wr.drew u → Calls Tryz.prog 38 #[.int .i64 (hz zs p), .slice oo order.length oc] u fun e w' => e = .returned (.string (strOfNums T)) ∧ Kept u w') := fun u hu => by have := l7Value_ok u (hz zs p) oo oc order (Ints.kept HOr.out (Kept.trans HKX.out (Kept.trans hKX (kd7 u hu)))) hol hvb; rw [hT] at this; exact this
              have HU : Hid ([115, 99, 111, 112, 101] ++ valsL (sv.take (j + 1)) order = U ++ T) := by rw [Hid, HT.out, hT, ← List.append_assoc, hU]
              rw [hT] at hvl
              simp only [hU]
              rw [hU] at hcl
              have hsz : ¬ 9223372036854775807 < (strOfNums U).size + (strOfNums T).size := by rw [strOfNums_size, strOfNums_size]; omega
              have HSA : Hid _ := strs_app U T
              have HKw : Hid _ := hKX
              cases e5
              try simp only [Nat.zero_add] at y1
              clear hc5 c5 c6 evj hp hT hU hKX hjl hvb
              go_wp2_with fail
              refine wp_region_seqL (by kernel_rfl) (by kernel_rfl) ?_
              repeat (first
                | (refine SeqL.skip (by rfl) ?_; simp only [Act.put, List.setIfInBounds_toArray, List.set_cons_zero, List.set_cons_succ])
                | (refine SeqL.pure ?_ (by rfl) ?_ ?_; rotate_left; (focus (intro u hu; have y0' := y0 u hu; have y1' := y1 u hu; have y2' := y2 u hu; go_simp; first | done | exact rfl)); simp only [Act.put, List.setIfInBounds_toArray, List.set_cons_zero, List.set_cons_succ])
                | (refine SeqL.call _ _ _ (by rfl) ?_ C1.out ?_; (focus (intro u; go_simp; done)); simp only [Act.put, List.setIfInBounds_toArray, List.set_cons_zero, List.set_cons_succ]))
              refine SeqL.nil ?_
              intro w5 hu5
              have K5 := Kept.trans HKw.out (kd7 w5 hu5)
              clear y0 y1 y2 C1 kd7
              go_wp2_with fail
              go_roundw
              case rel => exact ⟨j + 1, by go_num, by omega, by rw [HU.out, ← HSA.out], K5⟩
              case measure => simp [intOf]; omega
            · obtain rfl : m = j := by omega
              have HKw : Hid _ := hKX
              obtain ⟨U, hU⟩ : ∃ U, [115, 99, 111, 112, 101] ++ valsL (sv.take m) order = U := ⟨_, rfl⟩
              have HLn : Hid (lineL zs n order = U ++ [10]) := by rw [Hid, ← hU]; exact HLX.out
              simp only [hU]
              rw [hU] at hcl
              have hsz : ¬ 9223372036854775807 < (strOfNums U).size + (ByteArray.mk #[10]).size := by rw [strOfNums_size]; show ¬ _ < _ + 1; omega
              have HSA : Hid (strOfNums U ++ ByteArray.mk #[10] = strOfNums (U ++ [10])) := strs_app U [10]
              clear hU hKX hjl
              go_wp2_with fail
              go_ret
              refine ⟨?_, Kept.trans HKX.out HKw.out⟩
              rw [HLn.out, ← HSA.out]
              rfl
end Go.Proofs.YtgnpllpinfhccaaGreatDoor
