/-
  The contract of chapter 7's model l7Line.
  The contract of word (chapter 7's program).
  The contract of line (chapter 7's program).
  The contracts of withoutLastUndef and textHead (chapter 7's program).
  The contracts of the program's readText and TextOf.
  The contracts of chapter 7's models Picture and SameSight.
  The contracts of headAt, blockLine and inOrder (chapter 7's program).
  The contract of the program's Picture (chapter 7).
  The contract of the program's SameSight (chapter 7).
  Facts on what Picture tells (lists): it is empty just where the roots are not right, it has a line for each block and one more, and SameSight does not care which is first.
-/
import Derived.Lib.OthersKept
import Derived.Test.YtgnpllpinfhccaaGreatDoorGrpB
import Derived.Test.YtgnpllpinfhccaaGreatDoorGrpA
import Derived.Test.YtgnpllpinfhccaaGreatDoorGrpS
import Derived.Test.YtgnpllpinfhccaaGreatDoorGrpL
import Derived.Test.YtgnpllpinfhccaaGreatDoorZSeq
import Derived.Test.YtgnpllpinfhccaaGreatDoorZShapeQ
namespace Go.Proofs.YtgnpllpinfhccaaGreatDoor
open Go.RowKit
attribute [local go_sem] Plain.and7

def cutN (vs : List Int) : Nat → Nat
  | 0 => 0
  | n + 1 => if hz vs n = 0 then cutN vs n else n + 1
theorem cutN_le (vs : List Int) : ∀ n, cutN vs n ≤ n
  | 0 => Nat.le_refl _
  | n + 1 => by
    unfold cutN
    split
    · have := cutN_le vs n; omega
    · exact Nat.le_refl _
def valsL (vs order : List Int) : List Int := vs.flatMap (fun v => valL v order)
theorem valsL_snoc (vs : List Int) (v : Int) (order : List Int) : valsL (vs ++ [v]) order = valsL vs order ++ valL v order := by simp [valsL]
theorem valsL_len {order : List Int} : ∀ {vs : List Int}, (∀ v ∈ vs, -9223372036854775808 ≤ v ∧ v ≤ 9223372036854775807) → order.length ≤ 1048576 → (valsL vs order).length ≤ 24 * vs.length
  | [], _, _ => by simp [valsL]
  | v :: vs, h, hl => by
    have h1 := valsL_len (vs := vs) (fun x hx => h x (List.mem_cons_of_mem _ hx)) hl
    have h2 := valL_len (h v (by simp)) hl
    have e : valsL (v :: vs) order = valL v order ++ valsL vs order := by simp [valsL]
    rw [e, List.length_append, List.length_cons]
    omega
def byteL (zs : List Int) (a : Nat) : Nat → List Int
  | 0 => []
  | n + 1 => byteL zs a n ++ ([32] ++ digI (hz zs (a + 2 + n)))
theorem byteL_len {zs : List Int} {a : Nat} (h : ∀ z ∈ zs, -9223372036854775808 ≤ z ∧ z ≤ 9223372036854775807) : ∀ n, a + 2 + n ≤ zs.length → (byteL zs a n).length ≤ 22 * n
  | 0, _ => by simp [byteL]
  | n + 1, hn => by
    have h1 := byteL_len (a := a) h n (by omega)
    have h2 := digI_len (n := hz zs (a + 2 + n)) (h _ (hz_mem (by omega)))
    unfold byteL
    simp only [List.length_append, List.length_cons, List.length_nil]
    omega
def headL (zs : List Int) (a : Nat) : List Int := match kd zs a with
  | 1 => [116, 101, 120, 116] ++ byteL zs a (hz zs (a + 1)).toNat
  | 2 => [111, 98, 106]
  | 3 => [99, 101, 108, 108]
  | 4 => [102, 117, 110, 32] ++ digI (hz zs (a + 1))
  | 5 => [115, 99, 111, 112, 101]
  | _ => []
def toldL (zs : List Int) (a : Nat) : List Int := if kd zs a = 5 then (slotV zs a).take (cutN (slotV zs a) (slotV zs a).length) else slotV zs a
def lineL (zs : List Int) (a : Nat) (order : List Int) : List Int := headL zs a ++ valsL (toldL zs a) order ++ [10]
theorem slots_bd {zs : List Int} {a : Int} (h : ∀ z ∈ zs, -9223372036854775808 ≤ z ∧ z ≤ 9223372036854775807) (hp : ∀ i, i < (slotsL zs a).length → ∃ p : Nat, hz (slotsL zs a) i = p ∧ p < zs.length) : ∀ v ∈ slotV zs a, -9223372036854775808 ≤ v ∧ v ≤ 9223372036854775807 := by
  intro v hv
  obtain ⟨i, hi, e⟩ := List.getElem_of_mem hv
  rw [slotV_len] at hi
  obtain ⟨p, e1, e2⟩ := hp i hi
  have e3 := slotV_at hi
  rw [e1, Int.toNat_natCast] at e3
  have e4 : hz (slotV zs a) i = v := by unfold hz; rw [List.getElem?_eq_getElem (by rw [slotV_len]; exact hi)]; exact e
  rw [← e4, e3]
  exact h _ (hz_mem e2)
theorem own_someE {W : World} {base : Nat} {v : Value} {l : List Int} (h : OwnL W base v l) (h1 : 1 ≤ l.length) : ∃ so sc, v = .slice so l.length sc ∧ Ints W so l ∧ l.length ≤ sc ∧ sc ≤ maxLen ∧ ∃ g, so = some ⟨g, 0, none⟩ := by
  rcases h.cases with ⟨_, e⟩ | ⟨g, cap, e, _, h2, h3, hr⟩
  · rw [e] at h1; simp at h1
  · exact ⟨_, cap, e, hr.ints, h2, h3, g, rfl⟩
set_option maxHeartbeats 32000000 in
set_option maxRecDepth 100000 in
theorem l7Line_ok (w : World) (ao oo : Option Addr) (cap oc : Nat) (zs order : List Int) (n : Nat) (hI : Ints w ao zs) (hO : Ints w oo order) (hol : order.length ≤ 1048576) (hh : heapR zs = true) (hk : 1 ≤ kindAt zs (n : Int)) :
    Calls Tryz.prog 39 #[.agg #[.slice ao zs.length cap], .int .i64 (n : Int), .slice oo order.length oc] w fun e w' => e = .returned (.string (strOfNums (lineL zs n order))) ∧ Kept w w' := by
  have hlen := (slabOk_iff.1 (heapR_slab hh)).1
  have hl : zs.length ≤ 1048576 := by omega
  obtain ⟨n', en, hn, hg, esl, b, hbm, hbn⟩ := kind_nat hk
  obtain rfl : n = n' := by omega
  obtain ⟨-, hsl, hsp⟩ := leads_slots hh hk
  have hkd : (kd zs n : Int) = kindAt zs (n : Int) := by
    have h1 := atB_mem (heapR_slab hh) hbm
    obtain ⟨_, _, _, _, h2, _⟩ := atB_some h1
    rw [hbn] at h1 h2
    unfold kindAt
    rw [h1]
    show (kd zs n : Int) = ((b.1.kind : Nat) : Int)
    rw [h2]
  have hblk := heapR_blk hh hbm
  obtain ⟨-, -, -, hbs, hbk, -⟩ := atB_some (atB_mem (heapR_slab hh) hbm)
  rw [hbn] at hblk hbs hbk
  rw [hbs, hbk] at hblk
  have hgl := hg.le
  have hk5 := hg.kd5
  have hs2 := hg.sz2
  have HSV : Hid (∀ i, i < (slotsL zs (n : Int)).length → hz (slotV zs (n : Int)) i = hz zs (hz (slotsL zs (n : Int)) i).toNat) := fun i hi => slotV_at hi
  have HSL : Hid ((slotV zs (n : Int)).length = (slotsL zs (n : Int)).length) := slotV_len _ _
  have HVB : Hid _ := slots_bd hI.1 hsp
  have HSP : Hid _ := hsp
  have HI : Hid _ := hI
  have HOr : Hid _ := hO
  have b0 := Cells.new w 26 #[.slice ao zs.length cap]
  have k0 : Kept w (w.alloc (.cells #[.slice ao zs.length cap] 26)) := Kept.alloc (Below.refl _ _) _
  have hL3 := l3Slots_ok _ ao cap zs n (hI.kept k0) hl hg
  rw [← esl] at hL3
  have HLD : Hid (lineL zs n order = headL zs n ++ valsL (toldL zs n) order ++ [10]) := rfl
  have HTD : Hid (toldL zs n = if kd zs n = 5 then (slotV zs (n : Int)).take (cutN (slotV zs (n : Int)) (slotV zs (n : Int)).length) else slotV zs (n : Int)) := rfl
  have HHD : Hid (headL zs n = match kd zs n with
    | 1 => [116, 101, 120, 116] ++ byteL zs n (hz zs (n + 1)).toNat
    | 2 => [111, 98, 106]
    | 3 => [99, 101, 108, 108]
    | 4 => [102, 117, 110, 32] ++ digI (hz zs (n + 1))
    | 5 => [115, 99, 111, 112, 101]
    | _ => []) := rfl
  have HSE : Hid (slotsL zs (n : Int) = slL n (kd zs n) (sz zs n)) := esl
  have hkI := kdI zs n
  obtain ⟨sl, hsl0⟩ : ∃ sl, slotsL zs (n : Int) = sl := ⟨_, rfl⟩
  obtain ⟨sv, hsv0⟩ : ∃ sv, slotV zs (n : Int) = sv := ⟨_, rfl⟩
  rw [hsl0] at hL3 hsl HSV HSL HSP HSE
  rw [hsv0] at HSV HSL HVB HTD
  obtain ⟨ba, ofa, ea, hca⟩ := hI.at hn
  subst ea
  have cn : ∀ (j : Nat) (u : World), j < zs.length → Kept w u → u.cell? ⟨ba, ofa + j, none⟩ = some (.int .i64 (hz zs j)) := fun j u hj hu => (hu.cell (p := ⟨ba, ofa + j, none⟩) (World.block_lt_of_cell? _ _ (hca j hj))).trans (hca j hj)
  have CN : Hid _ := cn
  have q1 : (n : Int) < (zs.length : Int) := by omega
  have q0 : (0 : Int) ≤ (n : Int) := by omega
  have HB : Hid _ := hblk
  have hl2 := fun (u : World) => l2Kind_ok (hz zs n) u
  rw [← hkI] at hl2
  obtain ⟨K, hK⟩ : ∃ K, kd zs n = K := ⟨_, rfl⟩
  rw [hK] at hl2 HB HTD HHD HSE hk5 hkd
  have hK1 : 1 ≤ K := by omega
  have Hen : Hid (n + sz zs n ≤ zs.length) := hgl
  have Hs2 : Hid (2 ≤ sz zs n) := hs2
  have Hsl : Hid (sl.length ≤ zs.length) := hsl
  have hslb : sl.length ≤ 1048576 := by omega
  clear hsl0 hsv0 esl hK hkI hh hblk cn hca hI hO hg hkd hbm hbn hsp en hk hbs hbk hgl hs2 hsl b
  rcases (show K = 1 ∨ K = 2 ∨ K = 3 ∨ K = 4 ∨ K = 5 by omega) with rfl | rfl | rfl | rfl | rfl
  · have hb := HB.out
    rw [blk_text] at hb
    unfold textR at hb
    simp only [Bool.and_eq_true, decide_eq_true_eq, bytesR_iff] at hb
    obtain ⟨t, ht⟩ : ∃ t : Nat, hz zs (n + 1) = t := ⟨(hz zs (n + 1)).toNat, by omega⟩
    have hts : n + 2 + t ≤ zs.length := by have := Hen.out; omega
    clear hb
    have htn : (hz zs (n + 1)).toNat = t := by omega
    have hbl := fun (j : Nat) (hj : j ≤ t) => byteL_len (zs := zs) (a := n) HI.out.1 j (by omega)
    have HBL : Hid _ := hbl
    have HHL : Hid ((([116, 101, 120, 116] ++ byteL zs n t) : List Int).length ≤ 50000) := by rw [Hid, List.length_append]; have := hbl t (Nat.le_refl _); simp only [List.length_cons, List.length_nil]; omega
    have HLX : Hid (lineL zs n order = ([116, 101, 120, 116] ++ byteL zs n t) ++ valsL (sv.take sl.length) order ++ [10]) := by rw [Hid, HLD.out, HHD.out, HTD.out, ← HSL.out, List.take_length, htn]; rfl
    have p1 : (n : Int) + 1 < (zs.length : Int) := by omega
    have p0 : (0 : Int) ≤ (n : Int) + 1 := by omega
    have t1 : ((n : Int) + 1).toNat = n + 1 := by omega
    have wr1 : IntKind.i64.wrap ((n : Int) + 1) = (n : Int) + 1 := by rw [IntWalk.i64_left, IntWalk.wrap64_in _ (by omega)]
    have wr2 : IntKind.i64.wrap ((n : Int) + 2) = (n : Int) + 2 := by rw [IntWalk.i64_left, IntWalk.wrap64_in _ (by omega)]
    have hn1 : n + 1 < zs.length := by omega
    clear hbl htn
    go_enter Tryz.func39, Tryz.ntmps39
    go_wp2_with (first | (go_at_call 63; refine hL3.mono ?_; rintro e WX ⟨v3, rfl, hO3, hk3⟩; have KX := k0.trans hk3; have bX := b0.kept hk3; have cX := bX.cell 0; have cN := CN.out n WX hn KX; obtain ⟨so, sc, rfl, hI3⟩ := hO3.ints) | (go_at_call 67; refine (hl2 _).mono ?_; rintro e wx ⟨rfl, rfl⟩))
    have HIX : Hid _ := hI3
    have HKX : Hid _ := KX
    have HbX : Hid _ := bX
    clear hL3 hI3 KX bX cX cN hO3
    go_loopw [7, 9] (fun s i wr => ∃ j : Nat, i = .int .i64 j ∧ j ≤ t ∧ s = .string (strOfNums ([116, 101, 120, 116] ++ byteL zs n j)) ∧ Kept WX wr) (fun _ i _ => t - (intOf i).toNat)
    case atStart => exact ⟨0, rfl, Nat.zero_le _, rfl, Below.refl _ _⟩
    case round =>
      obtain ⟨j, rfl, hj, rfl, hKX⟩ := hrel
      have hjl := HBL.out j hj
      have cS := (Cells.kept HbX.out hKX).cell 0
      have cT := CN.out (n + 1) wr hn1 (Kept.trans HKX.out hKX)
      rw [ht] at cT
      by_cases hlj : j < t
      · have hnj : n + 2 + j < zs.length := by omega
        have cJ := CN.out (n + 2 + j) wr hnj (Kept.trans HKX.out hKX)
        have g1 : (j : Int) < (t : Int) := by omega
        have p2 : (n : Int) + 2 + (j : Int) < (zs.length : Int) := by omega
        have p3 : (0 : Int) ≤ (n : Int) + 2 + (j : Int) := by omega
        have t2 : ((n : Int) + 2 + (j : Int)).toNat = n + 2 + j := by omega
        have wr3 : IntKind.i64.wrap ((n : Int) + 2 + (j : Int)) = (n : Int) + 2 + (j : Int) := by rw [IntWalk.i64_left, IntWalk.wrap64_in _ (by omega)]
        have hzb : -9223372036854775808 ≤ hz zs (n + 2 + j) ∧ hz zs (n + 2 + j) ≤ 9223372036854775807 := HI.out.1 _ (hz_mem hnj)
        have hdl := digI_len hzb
        have hDg := fun (u : World) => l7Digits_ok u (hz zs (n + 2 + j)) hzb
        obtain ⟨D, hD⟩ : ∃ D, digI (hz zs (n + 2 + j)) = D := ⟨_, rfl⟩
        obtain ⟨U, hU⟩ : ∃ U, [116, 101, 120, 116] ++ byteL zs n j = U := ⟨_, rfl⟩
        have hul : U.length ≤ 60000 := by rw [← hU, List.length_append]; simp only [List.length_cons, List.length_nil]; omega
        have HN : Hid ([116, 101, 120, 116] ++ byteL zs n (j + 1) = U ++ [32] ++ D) := by rw [Hid, ← hU, ← hD]; simp [byteL]
        rw [hD] at hdl hDg
        simp only [hU]
        have s1 : strOfNums U ++ ByteArray.mk #[32] = strOfNums (U ++ [32]) := strs_app U [32]
        have hsz : ¬ 9223372036854775807 < (strOfNums U).size + (ByteArray.mk #[32]).size := by rw [strOfNums_size]; show ¬ _ < _ + 1; omega
        have hsz2 : ¬ 9223372036854775807 < (strOfNums (U ++ [32])).size + (strOfNums D).size := by rw [strOfNums_size, strOfNums_size, List.length_append]; simp only [List.length_cons, List.length_nil]; omega
        have HSA : Hid _ := strs_app (U ++ [32]) D
        have HKw : Hid _ := hKX
        clear hD hU hKX hjl hzb
        go_wp2_with (go_at_call 66; refine (hDg _).mono ?_; rintro e w4 ⟨rfl, hk4⟩)
        go_roundw
        case rel => exact ⟨j + 1, by go_num, by omega, by rw [HN.out, ← HSA.out], Kept.trans HKw.out hk4⟩
        case measure => simp [intOf]; omega
      · obtain rfl : t = j := by omega
        have HKw : Hid _ := hKX
        clear hKX hjl
        go_wp2_with fail
        go_loopw [7, 11] (fun s i wr => ∃ j : Nat, i = .int .i64 j ∧ j ≤ sl.length ∧ s = .string (strOfNums (([116, 101, 120, 116] ++ byteL zs n t) ++ valsL (sv.take j) order)) ∧ Kept WX wr) (fun _ i _ => sl.length - (intOf i).toNat)
        case atStart => exact ⟨0, rfl, Nat.zero_le _, by show Value.string _ = Value.string (strOfNums (([116, 101, 120, 116] ++ byteL zs n t) ++ [])); first | (rw [List.append_nil]; done) | (rw [List.append_nil]; exact rfl), HKw.out⟩
        case round =>
          obtain ⟨j, rfl, hj, rfl, hKX⟩ := hrel
          have hjl := valsL_len (vs := sv.take j) (order := order) (fun v hv => HVB.out v (List.mem_of_mem_take hv)) hol
          have hjm : (sv.take j).length ≤ 4194304 := by rw [List.length_take]; have := HSL.out; omega
          have hcl : (([116, 101, 120, 116] ++ byteL zs n t) ++ valsL (sv.take j) order).length ≤ 200000000 := by rw [List.length_append]; have := HHL.out; omega
          by_cases hlj : j < sl.length
          · have hjs : j < sl.length := by omega
            obtain ⟨p, hp, hpl⟩ := HSP.out j hjs
            have evj : hz sv j = hz zs p := by rw [HSV.out j hjs, hp, Int.toNat_natCast]
            have hjv : j < sv.length := by rw [HSL.out]; exact hjs
            have HT : Hid (valsL (sv.take (j + 1)) order = valsL (sv.take j) order ++ valL (hz zs p) order) := by rw [Hid, take_hz hjv, valsL_snoc, evj]
            have hvb : -9223372036854775808 ≤ hz zs p ∧ hz zs p ≤ 9223372036854775807 := by rw [← evj]; exact HVB.out _ (hz_mem hjv)
            have hvl := valL_len hvb hol
            obtain ⟨b5, o5, e5, hc5⟩ := Ints.at (Ints.kept HIX.out hKX) hjs
            have c5 := hc5 j hjs
            rw [hp] at c5
            have c6 := CN.out p wr hpl (Kept.trans HKX.out hKX)
            have l5 : b5 < wr.heap.size := World.block_lt_of_cell? _ _ c5
            have l6 : ba < wr.heap.size := World.block_lt_of_cell? _ _ c6
            have g1 : (j : Int) < ((sl.length : Nat) : Int) := by omega
            have g2 : (0 : Int) ≤ (j : Int) := by omega
            have g3 : (p : Int) < (zs.length : Int) := by omega
            have g4 : (0 : Int) ≤ (p : Int) := by omega
            have g5 : ((p : Int)).toNat = p := by omega
            have kd7 : ∀ u, Kept wr.drew u → Kept wr u := fun u hu => Kept.trans (Below.refl _ wr).drew hu
            have y0 : ∀ u, Kept wr.drew u → u.cell? ⟨w.heap.size, 0, none⟩ = some (.slice (some ⟨ba, ofa, none⟩) zs.length cap) := fun u hu => (Cells.kept HbX.out (Kept.trans hKX (kd7 u hu))).cell 0
            have y1 : ∀ u, Kept wr.drew u → u.cell? ⟨b5, o5 + j, none⟩ = some (.int .i64 (p : Int)) := fun u hu => ((kd7 u hu).cell (p := ⟨b5, o5 + j, none⟩) l5).trans c5
            have y2 : ∀ u, Kept wr.drew u → u.cell? ⟨ba, ofa + p, none⟩ = some (.int .i64 (hz zs p)) := fun u hu => ((kd7 u hu).cell (p := ⟨ba, ofa + p, none⟩) l6).trans c6
            obtain ⟨T, hT⟩ : ∃ T, valL (hz zs p) order = T := ⟨_, rfl⟩
            obtain ⟨U, hU⟩ : ∃ U, ([116, 101, 120, 116] ++ byteL zs n t) ++ valsL (sv.take j) order = U := ⟨_, rfl⟩
            have C1 : Hid (∀ u, Kept wr.drew u → Calls Tryz.prog 38 #[.int .i64 (hz zs p), .slice oo order.length oc] u fun e w' => e = .returned (.string (strOfNums T)) ∧ Kept u w') := fun u hu => by have := l7Value_ok u (hz zs p) oo oc order (Ints.kept HOr.out (Kept.trans HKX.out (Kept.trans hKX (kd7 u hu)))) hol hvb; rw [hT] at this; exact this
            have HU : Hid (([116, 101, 120, 116] ++ byteL zs n t) ++ valsL (sv.take (j + 1)) order = U ++ T) := by rw [Hid, HT.out, hT, ← List.append_assoc, hU]
            rw [hT] at hvl
            simp only [hU]
            rw [hU] at hcl
            have hsz : ¬ 9223372036854775807 < (strOfNums U).size + (strOfNums T).size := by rw [strOfNums_size, strOfNums_size]; omega
            have HSA : Hid _ := strs_app U T
            have HKw : Hid _ := hKX
            cases e5
            try simp only [Nat.zero_add] at y1
            clear hc5 c5 c6 evj hp hT hU hKX hjl hvb
            go_wp2_with fail
            refine wp_region_seqL (by kernel_rfl) (by kernel_rfl) ?_
            repeat (first
              | (refine SeqL.skip (by rfl) ?_; simp only [Act.put, List.setIfInBounds_toArray, List.set_cons_zero, List.set_cons_succ])
              | (refine SeqL.pure ?_ (by rfl) ?_ ?_; rotate_left; (focus (intro u hu; have y0' := y0 u hu; have y1' := y1 u hu; have y2' := y2 u hu; go_simp; first | done | exact rfl)); simp only [Act.put, List.setIfInBounds_toArray, List.set_cons_zero, List.set_cons_succ])
              | (refine SeqL.call _ _ _ (by rfl) ?_ C1.out ?_; (focus (intro u; go_simp; done)); simp only [Act.put, List.setIfInBounds_toArray, List.set_cons_zero, List.set_cons_succ]))
            refine SeqL.nil ?_
            intro w5 hu5
            have K5 := Kept.trans HKw.out (kd7 w5 hu5)
            clear y0 y1 y2 C1 kd7
            go_wp2_with fail
            go_roundw
            case rel => exact ⟨j + 1, by go_num, by omega, by rw [HU.out, ← HSA.out], K5⟩
            case measure => simp [intOf]; omega
          · obtain rfl : j = sl.length := by omega
            have HKw : Hid _ := hKX
            obtain ⟨U, hU⟩ : ∃ U, ([116, 101, 120, 116] ++ byteL zs n t) ++ valsL (sv.take sl.length) order = U := ⟨_, rfl⟩
            have HLn : Hid (lineL zs n order = U ++ [10]) := by rw [Hid, ← hU]; exact HLX.out
            simp only [hU]
            rw [hU] at hcl
            have hsz : ¬ 9223372036854775807 < (strOfNums U).size + (ByteArray.mk #[10]).size := by rw [strOfNums_size]; show ¬ _ < _ + 1; omega
            have HSA : Hid (strOfNums U ++ ByteArray.mk #[10] = strOfNums (U ++ [10])) := strs_app U [10]
            clear hU hKX hjl
            go_wp2_with fail
            go_ret
            refine ⟨?_, Kept.trans HKX.out HKw.out⟩
            rw [HLn.out, ← HSA.out]
            rfl
  · have HHL : Hid (([111, 98, 106] : List Int).length ≤ 50000) := by show _ ≤ _; decide
    have HLX : Hid (lineL zs n order = [111, 98, 106] ++ valsL (sv.take sl.length) order ++ [10]) := by rw [Hid, HLD.out, HHD.out, HTD.out, ← HSL.out, List.take_length]; rfl
    go_enter Tryz.func39, Tryz.ntmps39
    go_wp2_with (first | (go_at_call 63; refine hL3.mono ?_; rintro e WX ⟨v3, rfl, hO3, hk3⟩; have KX := k0.trans hk3; have bX := b0.kept hk3; have cX := bX.cell 0; have cN := CN.out n WX hn KX; obtain ⟨so, sc, rfl, hI3⟩ := hO3.ints) | (go_at_call 67; refine (hl2 _).mono ?_; rintro e wx ⟨rfl, rfl⟩))
    have HIX : Hid _ := hI3
    have HKX : Hid _ := KX
    have HbX : Hid _ := bX
    clear hL3 hI3 KX bX cX cN hO3
    go_loopw [7, 11] (fun s i wr => ∃ j : Nat, i = .int .i64 j ∧ j ≤ sl.length ∧ s = .string (strOfNums ([111, 98, 106] ++ valsL (sv.take j) order)) ∧ Kept WX wr) (fun _ i _ => sl.length - (intOf i).toNat)
    case atStart => exact ⟨0, rfl, Nat.zero_le _, by show Value.string _ = Value.string (strOfNums ([111, 98, 106] ++ [])); first | (rw [List.append_nil]; done) | (rw [List.append_nil]; exact rfl), Below.refl _ _⟩
    case round =>
      obtain ⟨j, rfl, hj, rfl, hKX⟩ := hrel
      have hjl := valsL_len (vs := sv.take j) (order := order) (fun v hv => HVB.out v (List.mem_of_mem_take hv)) hol
      have hjm : (sv.take j).length ≤ 4194304 := by rw [List.length_take]; have := HSL.out; omega
      have hcl : ([111, 98, 106] ++ valsL (sv.take j) order).length ≤ 200000000 := by rw [List.length_append]; have := HHL.out; omega
      by_cases hlj : j < sl.length
      · have hjs : j < sl.length := by omega
        obtain ⟨p, hp, hpl⟩ := HSP.out j hjs
        have evj : hz sv j = hz zs p := by rw [HSV.out j hjs, hp, Int.toNat_natCast]
        have hjv : j < sv.length := by rw [HSL.out]; exact hjs
        have HT : Hid (valsL (sv.take (j + 1)) order = valsL (sv.take j) order ++ valL (hz zs p) order) := by rw [Hid, take_hz hjv, valsL_snoc, evj]
        have hvb : -9223372036854775808 ≤ hz zs p ∧ hz zs p ≤ 9223372036854775807 := by rw [← evj]; exact HVB.out _ (hz_mem hjv)
        have hvl := valL_len hvb hol
        obtain ⟨b5, o5, e5, hc5⟩ := Ints.at (Ints.kept HIX.out hKX) hjs
        have c5 := hc5 j hjs
        rw [hp] at c5
        have c6 := CN.out p wr hpl (Kept.trans HKX.out hKX)
        have l5 : b5 < wr.heap.size := World.block_lt_of_cell? _ _ c5
        have l6 : ba < wr.heap.size := World.block_lt_of_cell? _ _ c6
        have g1 : (j : Int) < ((sl.length : Nat) : Int) := by omega
        have g2 : (0 : Int) ≤ (j : Int) := by omega
        have g3 : (p : Int) < (zs.length : Int) := by omega
        have g4 : (0 : Int) ≤ (p : Int) := by omega
        have g5 : ((p : Int)).toNat = p := by omega
        have kd7 : ∀ u, Kept wr.drew u → Kept wr u := fun u hu => Kept.trans (Below.refl _ wr).drew hu
        have y0 : ∀ u, Kept wr.drew u → u.cell? ⟨w.heap.size, 0, none⟩ = some (.slice (some ⟨ba, ofa, none⟩) zs.length cap) := fun u hu => (Cells.kept HbX.out (Kept.trans hKX (kd7 u hu))).cell 0
        have y1 : ∀ u, Kept wr.drew u → u.cell? ⟨b5, o5 + j, none⟩ = some (.int .i64 (p : Int)) := fun u hu => ((kd7 u hu).cell (p := ⟨b5, o5 + j, none⟩) l5).trans c5
        have y2 : ∀ u, Kept wr.drew u → u.cell? ⟨ba, ofa + p, none⟩ = some (.int .i64 (hz zs p)) := fun u hu => ((kd7 u hu).cell (p := ⟨ba, ofa + p, none⟩) l6).trans c6
        obtain ⟨T, hT⟩ : ∃ T, valL (hz zs p) order = T := ⟨_, rfl⟩
        obtain ⟨U, hU⟩ : ∃ U, [111, 98, 106] ++ valsL (sv.take j) order = U := ⟨_, rfl⟩
        have C1 : Hid (∀ u, Kept wr.drew u → Calls Tryz.prog 38 #[.int .i64 (hz zs p), .slice oo order.length oc] u fun e w' => e = .returned (.string (strOfNums T)) ∧ Kept u w') := fun u hu => by have := l7Value_ok u (hz zs p) oo oc order (Ints.kept HOr.out (Kept.trans HKX.out (Kept.trans hKX (kd7 u hu)))) hol hvb; rw [hT] at this; exact this
        have HU : Hid ([111, 98, 106] ++ valsL (sv.take (j + 1)) order = U ++ T) := by rw [Hid, HT.out, hT, ← List.append_assoc, hU]
        rw [hT] at hvl
        simp only [hU]
        rw [hU] at hcl
        have hsz : ¬ 9223372036854775807 < (strOfNums U).size + (strOfNums T).size := by rw [strOfNums_size, strOfNums_size]; omega
        have HSA : Hid _ := strs_app U T
        have HKw : Hid _ := hKX
        cases e5
        try simp only [Nat.zero_add] at y1
        clear hc5 c5 c6 evj hp hT hU hKX hjl hvb
        go_wp2_with fail
        refine wp_region_seqL (by kernel_rfl) (by kernel_rfl) ?_
        repeat (first
          | (refine SeqL.skip (by rfl) ?_; simp only [Act.put, List.setIfInBounds_toArray, List.set_cons_zero, List.set_cons_succ])
          | (refine SeqL.pure ?_ (by rfl) ?_ ?_; rotate_left; (focus (intro u hu; have y0' := y0 u hu; have y1' := y1 u hu; have y2' := y2 u hu; go_simp; first | done | exact rfl)); simp only [Act.put, List.setIfInBounds_toArray, List.set_cons_zero, List.set_cons_succ])
          | (refine SeqL.call _ _ _ (by rfl) ?_ C1.out ?_; (focus (intro u; go_simp; done)); simp only [Act.put, List.setIfInBounds_toArray, List.set_cons_zero, List.set_cons_succ]))
        refine SeqL.nil ?_
        intro w5 hu5
        have K5 := Kept.trans HKw.out (kd7 w5 hu5)
        clear y0 y1 y2 C1 kd7
        go_wp2_with fail
        go_roundw
        case rel => exact ⟨j + 1, by go_num, by omega, by rw [HU.out, ← HSA.out], K5⟩
        case measure => simp [intOf]; omega
      · obtain rfl : j = sl.length := by omega
        have HKw : Hid _ := hKX
        obtain ⟨U, hU⟩ : ∃ U, [111, 98, 106] ++ valsL (sv.take sl.length) order = U := ⟨_, rfl⟩
        have HLn : Hid (lineL zs n order = U ++ [10]) := by rw [Hid, ← hU]; exact HLX.out
        simp only [hU]
        rw [hU] at hcl
        have hsz : ¬ 9223372036854775807 < (strOfNums U).size + (ByteArray.mk #[10]).size := by rw [strOfNums_size]; show ¬ _ < _ + 1; omega
        have HSA : Hid (strOfNums U ++ ByteArray.mk #[10] = strOfNums (U ++ [10])) := strs_app U [10]
        clear hU hKX hjl
        go_wp2_with fail
        go_ret
        refine ⟨?_, Kept.trans HKX.out HKw.out⟩
        rw [HLn.out, ← HSA.out]
        rfl
  · have HHL : Hid (([99, 101, 108, 108] : List Int).length ≤ 50000) := by show _ ≤ _; decide
    have HLX : Hid (lineL zs n order = [99, 101, 108, 108] ++ valsL (sv.take sl.length) order ++ [10]) := by rw [Hid, HLD.out, HHD.out, HTD.out, ← HSL.out, List.take_length]; rfl
    go_enter Tryz.func39, Tryz.ntmps39
    go_wp2_with (first | (go_at_call 63; refine hL3.mono ?_; rintro e WX ⟨v3, rfl, hO3, hk3⟩; have KX := k0.trans hk3; have bX := b0.kept hk3; have cX := bX.cell 0; have cN := CN.out n WX hn KX; obtain ⟨so, sc, rfl, hI3⟩ := hO3.ints) | (go_at_call 67; refine (hl2 _).mono ?_; rintro e wx ⟨rfl, rfl⟩))
    have HIX : Hid _ := hI3
    have HKX : Hid _ := KX
    have HbX : Hid _ := bX
    clear hL3 hI3 KX bX cX cN hO3
    go_loopw [7, 11] (fun s i wr => ∃ j : Nat, i = .int .i64 j ∧ j ≤ sl.length ∧ s = .string (strOfNums ([99, 101, 108, 108] ++ valsL (sv.take j) order)) ∧ Kept WX wr) (fun _ i _ => sl.length - (intOf i).toNat)
    case atStart => exact ⟨0, rfl, Nat.zero_le _, by show Value.string _ = Value.string (strOfNums ([99, 101, 108, 108] ++ [])); first | (rw [List.append_nil]; done) | (rw [List.append_nil]; exact rfl), Below.refl _ _⟩
    case round =>
      obtain ⟨j, rfl, hj, rfl, hKX⟩ := hrel
      have hjl := valsL_len (vs := sv.take j) (order := order) (fun v hv => HVB.out v (List.mem_of_mem_take hv)) hol
      have hjm : (sv.take j).length ≤ 4194304 := by rw [List.length_take]; have := HSL.out; omega
      have hcl : ([99, 101, 108, 108] ++ valsL (sv.take j) order).length ≤ 200000000 := by rw [List.length_append]; have := HHL.out; omega
      by_cases hlj : j < sl.length
      · have hjs : j < sl.length := by omega
        obtain ⟨p, hp, hpl⟩ := HSP.out j hjs
        have evj : hz sv j = hz zs p := by rw [HSV.out j hjs, hp, Int.toNat_natCast]
        have hjv : j < sv.length := by rw [HSL.out]; exact hjs
        have HT : Hid (valsL (sv.take (j + 1)) order = valsL (sv.take j) order ++ valL (hz zs p) order) := by rw [Hid, take_hz hjv, valsL_snoc, evj]
        have hvb : -9223372036854775808 ≤ hz zs p ∧ hz zs p ≤ 9223372036854775807 := by rw [← evj]; exact HVB.out _ (hz_mem hjv)
        have hvl := valL_len hvb hol
        obtain ⟨b5, o5, e5, hc5⟩ := Ints.at (Ints.kept HIX.out hKX) hjs
        have c5 := hc5 j hjs
        rw [hp] at c5
        have c6 := CN.out p wr hpl (Kept.trans HKX.out hKX)
        have l5 : b5 < wr.heap.size := World.block_lt_of_cell? _ _ c5
        have l6 : ba < wr.heap.size := World.block_lt_of_cell? _ _ c6
        have g1 : (j : Int) < ((sl.length : Nat) : Int) := by omega
        have g2 : (0 : Int) ≤ (j : Int) := by omega
        have g3 : (p : Int) < (zs.length : Int) := by omega
        have g4 : (0 : Int) ≤ (p : Int) := by omega
        have g5 : ((p : Int)).toNat = p := by omega
        have kd7 : ∀ u, Kept wr.drew u → Kept wr u := fun u hu => Kept.trans (Below.refl _ wr).drew hu
        have y0 : ∀ u, Kept wr.drew u → u.cell? ⟨w.heap.size, 0, none⟩ = some (.slice (some ⟨ba, ofa, none⟩) zs.length cap) := fun u hu => (Cells.kept HbX.out (Kept.trans hKX (kd7 u hu))).cell 0
        have y1 : ∀ u, Kept wr.drew u → u.cell? ⟨b5, o5 + j, none⟩ = some (.int .i64 (p : Int)) := fun u hu => ((kd7 u hu).cell (p := ⟨b5, o5 + j, none⟩) l5).trans c5
        have y2 : ∀ u, Kept wr.drew u → u.cell? ⟨ba, ofa + p, none⟩ = some (.int .i64 (hz zs p)) := fun u hu => ((kd7 u hu).cell (p := ⟨ba, ofa + p, none⟩) l6).trans c6
        obtain ⟨T, hT⟩ : ∃ T, valL (hz zs p) order = T := ⟨_, rfl⟩
        obtain ⟨U, hU⟩ : ∃ U, [99, 101, 108, 108] ++ valsL (sv.take j) order = U := ⟨_, rfl⟩
        have C1 : Hid (∀ u, Kept wr.drew u → Calls Tryz.prog 38 #[.int .i64 (hz zs p), .slice oo order.length oc] u fun e w' => e = .returned (.string (strOfNums T)) ∧ Kept u w') := fun u hu => by have := l7Value_ok u (hz zs p) oo oc order (Ints.kept HOr.out (Kept.trans HKX.out (Kept.trans hKX (kd7 u hu)))) hol hvb; rw [hT] at this; exact this
        have HU : Hid ([99, 101, 108, 108] ++ valsL (sv.take (j + 1)) order = U ++ T) := by rw [Hid, HT.out, hT, ← List.append_assoc, hU]
        rw [hT] at hvl
        simp only [hU]
        rw [hU] at hcl
        have hsz : ¬ 9223372036854775807 < (strOfNums U).size + (strOfNums T).size := by rw [strOfNums_size, strOfNums_size]; omega
        have HSA : Hid _ := strs_app U T
        have HKw : Hid _ := hKX
        cases e5
        try simp only [Nat.zero_add] at y1
        clear hc5 c5 c6 evj hp hT hU hKX hjl hvb
        go_wp2_with fail
        refine wp_region_seqL (by kernel_rfl) (by kernel_rfl) ?_
        repeat (first
          | (refine SeqL.skip (by rfl) ?_; simp only [Act.put, List.setIfInBounds_toArray, List.set_cons_zero, List.set_cons_succ])
          | (refine SeqL.pure ?_ (by rfl) ?_ ?_; rotate_left; (focus (intro u hu; have y0' := y0 u hu; have y1' := y1 u hu; have y2' := y2 u hu; go_simp; first | done | exact rfl)); simp only [Act.put, List.setIfInBounds_toArray, List.set_cons_zero, List.set_cons_succ])
          | (refine SeqL.call _ _ _ (by rfl) ?_ C1.out ?_; (focus (intro u; go_simp; done)); simp only [Act.put, List.setIfInBounds_toArray, List.set_cons_zero, List.set_cons_succ]))
        refine SeqL.nil ?_
        intro w5 hu5
        have K5 := Kept.trans HKw.out (kd7 w5 hu5)
        clear y0 y1 y2 C1 kd7
        go_wp2_with fail
        go_roundw
        case rel => exact ⟨j + 1, by go_num, by omega, by rw [HU.out, ← HSA.out], K5⟩
        case measure => simp [intOf]; omega
      · obtain rfl : j = sl.length := by omega
        have HKw : Hid _ := hKX
        obtain ⟨U, hU⟩ : ∃ U, [99, 101, 108, 108] ++ valsL (sv.take sl.length) order = U := ⟨_, rfl⟩
        have HLn : Hid (lineL zs n order = U ++ [10]) := by rw [Hid, ← hU]; exact HLX.out
        simp only [hU]
        rw [hU] at hcl
        have hsz : ¬ 9223372036854775807 < (strOfNums U).size + (ByteArray.mk #[10]).size := by rw [strOfNums_size]; show ¬ _ < _ + 1; omega
        have HSA : Hid (strOfNums U ++ ByteArray.mk #[10] = strOfNums (U ++ [10])) := strs_app U [10]
        clear hU hKX hjl
        go_wp2_with fail
        go_ret
        refine ⟨?_, Kept.trans HKX.out HKw.out⟩
        rw [HLn.out, ← HSA.out]
        rfl
  · have hb := HB.out
    rw [blk_fun] at hb
    unfold funR at hb
    simp only [Bool.and_eq_true, decide_eq_true_eq] at hb
    have hf3 : 3 ≤ sz zs n := hb.1.1.1.1.1
    have hd9 := hb.1.1.1.2
    have hz3 := Hen.out
    clear hb
    have hdl := digI_len (n := hz zs (n + 1)) (by omega)
    have HHL : Hid ((([102, 117, 110, 32] ++ digI (hz zs (n + 1))) : List Int).length ≤ 50000) := by rw [Hid, List.length_append]; simp only [List.length_cons, List.length_nil]; omega
    have HLX : Hid (lineL zs n order = ([102, 117, 110, 32] ++ digI (hz zs (n + 1))) ++ valsL (sv.take sl.length) order ++ [10]) := by rw [Hid, HLD.out, HHD.out, HTD.out, ← HSL.out, List.take_length]; rfl
    have hDg := fun (u : World) => l7Digits_ok u (hz zs (n + 1)) (by omega)
    have hsz : ¬ 9223372036854775807 < (ByteArray.mk #[102, 117, 110, 32]).size + (strOfNums (digI (hz zs (n + 1)))).size := by rw [strOfNums_size]; show ¬ _ < 4 + _; omega
    have HST : Hid (ByteArray.mk #[102, 117, 110, 32] ++ strOfNums (digI (hz zs (n + 1))) = strOfNums ([102, 117, 110, 32] ++ digI (hz zs (n + 1)))) := strs_app [102, 117, 110, 32] _
    have p1 : (n : Int) + 1 < (zs.length : Int) := by omega
    have p0 : (0 : Int) ≤ (n : Int) + 1 := by omega
    have t1 : ((n : Int) + 1).toNat = n + 1 := by omega
    have wr1 : IntKind.i64.wrap ((n : Int) + 1) = (n : Int) + 1 := by rw [IntWalk.i64_left, IntWalk.wrap64_in _ (by omega)]
    have hn1 : n + 1 < zs.length := by omega
    go_enter Tryz.func39, Tryz.ntmps39
    go_wp2_with (first | (go_at_call 63; refine hL3.mono ?_; rintro e WX ⟨v3, rfl, hO3, hk3⟩; have KX := k0.trans hk3; have bX := b0.kept hk3; have cX := bX.cell 0; have cN := CN.out n WX hn KX; obtain ⟨so, sc, rfl, hI3⟩ := hO3.ints; have cN1 := CN.out (n + 1) WX hn1 KX) | (go_at_call 67; refine (hl2 _).mono ?_; rintro e wx ⟨rfl, rfl⟩) | (go_at_call 66; refine (hDg _).mono ?_; rintro e w4 ⟨rfl, hk4⟩))
    have HIX : Hid _ := hI3
    have HKX : Hid _ := KX
    have HbX : Hid _ := bX
    clear hL3 hI3 KX bX cX cN cN1 hO3
    go_loopw [7, 11] (fun s i wr => ∃ j : Nat, i = .int .i64 j ∧ j ≤ sl.length ∧ s = .string (strOfNums (([102, 117, 110, 32] ++ digI (hz zs (n + 1))) ++ valsL (sv.take j) order)) ∧ Kept WX wr) (fun _ i _ => sl.length - (intOf i).toNat)
    case atStart => exact ⟨0, rfl, Nat.zero_le _, by show Value.string _ = Value.string (strOfNums (([102, 117, 110, 32] ++ digI (hz zs (n + 1))) ++ [])); first | (rw [List.append_nil]; done) | (rw [List.append_nil]; exact congrArg Value.string HST.out), hk4⟩
    case round =>
      obtain ⟨j, rfl, hj, rfl, hKX⟩ := hrel
      have hjl := valsL_len (vs := sv.take j) (order := order) (fun v hv => HVB.out v (List.mem_of_mem_take hv)) hol
      have hjm : (sv.take j).length ≤ 4194304 := by rw [List.length_take]; have := HSL.out; omega
      have hcl : (([102, 117, 110, 32] ++ digI (hz zs (n + 1))) ++ valsL (sv.take j) order).length ≤ 200000000 := by rw [List.length_append]; have := HHL.out; omega
      by_cases hlj : j < sl.length
      · have hjs : j < sl.length := by omega
        obtain ⟨p, hp, hpl⟩ := HSP.out j hjs
        have evj : hz sv j = hz zs p := by rw [HSV.out j hjs, hp, Int.toNat_natCast]
        have hjv : j < sv.length := by rw [HSL.out]; exact hjs
        have HT : Hid (valsL (sv.take (j + 1)) order = valsL (sv.take j) order ++ valL (hz zs p) order) := by rw [Hid, take_hz hjv, valsL_snoc, evj]
        have hvb : -9223372036854775808 ≤ hz zs p ∧ hz zs p ≤ 9223372036854775807 := by rw [← evj]; exact HVB.out _ (hz_mem hjv)
        have hvl := valL_len hvb hol
        obtain ⟨b5, o5, e5, hc5⟩ := Ints.at (Ints.kept HIX.out hKX) hjs
        have c5 := hc5 j hjs
        rw [hp] at c5
        have c6 := CN.out p wr hpl (Kept.trans HKX.out hKX)
        have l5 : b5 < wr.heap.size := World.block_lt_of_cell? _ _ c5
        have l6 : ba < wr.heap.size := World.block_lt_of_cell? _ _ c6
        have g1 : (j : Int) < ((sl.length : Nat) : Int) := by omega
        have g2 : (0 : Int) ≤ (j : Int) := by omega
        have g3 : (p : Int) < (zs.length : Int) := by omega
        have g4 : (0 : Int) ≤ (p : Int) := by omega
        have g5 : ((p : Int)).toNat = p := by omega
        have kd7 : ∀ u, Kept wr.drew u → Kept wr u := fun u hu => Kept.trans (Below.refl _ wr).drew hu
        have y0 : ∀ u, Kept wr.drew u → u.cell? ⟨w.heap.size, 0, none⟩ = some (.slice (some ⟨ba, ofa, none⟩) zs.length cap) := fun u hu => (Cells.kept HbX.out (Kept.trans hKX (kd7 u hu))).cell 0
        have y1 : ∀ u, Kept wr.drew u → u.cell? ⟨b5, o5 + j, none⟩ = some (.int .i64 (p : Int)) := fun u hu => ((kd7 u hu).cell (p := ⟨b5, o5 + j, none⟩) l5).trans c5
        have y2 : ∀ u, Kept wr.drew u → u.cell? ⟨ba, ofa + p, none⟩ = some (.int .i64 (hz zs p)) := fun u hu => ((kd7 u hu).cell (p := ⟨ba, ofa + p, none⟩) l6).trans c6
        obtain ⟨T, hT⟩ : ∃ T, valL (hz zs p) order = T := ⟨_, rfl⟩
        obtain ⟨U, hU⟩ : ∃ U, ([102, 117, 110, 32] ++ digI (hz zs (n + 1))) ++ valsL (sv.take j) order = U := ⟨_, rfl⟩
        have C1 : Hid (∀ u, Kept wr.drew u → Calls Tryz.prog 38 #[.int .i64 (hz zs p), .slice oo order.length oc] u fun e w' => e = .returned (.string (strOfNums T)) ∧ Kept u w') := fun u hu => by have := l7Value_ok u (hz zs p) oo oc order (Ints.kept HOr.out (Kept.trans HKX.out (Kept.trans hKX (kd7 u hu)))) hol hvb; rw [hT] at this; exact this
        have HU : Hid (([102, 117, 110, 32] ++ digI (hz zs (n + 1))) ++ valsL (sv.take (j + 1)) order = U ++ T) := by rw [Hid, HT.out, hT, ← List.append_assoc, hU]
        rw [hT] at hvl
        simp only [hU]
        rw [hU] at hcl
        have hsz : ¬ 9223372036854775807 < (strOfNums U).size + (strOfNums T).size := by rw [strOfNums_size, strOfNums_size]; omega
        have HSA : Hid _ := strs_app U T
        have HKw : Hid _ := hKX
        cases e5
        try simp only [Nat.zero_add] at y1
        clear hc5 c5 c6 evj hp hT hU hKX hjl hvb
        go_wp2_with fail
        refine wp_region_seqL (by kernel_rfl) (by kernel_rfl) ?_
        repeat (first
          | (refine SeqL.skip (by rfl) ?_; simp only [Act.put, List.setIfInBounds_toArray, List.set_cons_zero, List.set_cons_succ])
          | (refine SeqL.pure ?_ (by rfl) ?_ ?_; rotate_left; (focus (intro u hu; have y0' := y0 u hu; have y1' := y1 u hu; have y2' := y2 u hu; go_simp; first | done | exact rfl)); simp only [Act.put, List.setIfInBounds_toArray, List.set_cons_zero, List.set_cons_succ])
          | (refine SeqL.call _ _ _ (by rfl) ?_ C1.out ?_; (focus (intro u; go_simp; done)); simp only [Act.put, List.setIfInBounds_toArray, List.set_cons_zero, List.set_cons_succ]))
        refine SeqL.nil ?_
        intro w5 hu5
        have K5 := Kept.trans HKw.out (kd7 w5 hu5)
        clear y0 y1 y2 C1 kd7
        go_wp2_with fail
        go_roundw
        case rel => exact ⟨j + 1, by go_num, by omega, by rw [HU.out, ← HSA.out], K5⟩
        case measure => simp [intOf]; omega
      · obtain rfl : j = sl.length := by omega
        have HKw : Hid _ := hKX
        obtain ⟨U, hU⟩ : ∃ U, ([102, 117, 110, 32] ++ digI (hz zs (n + 1))) ++ valsL (sv.take sl.length) order = U := ⟨_, rfl⟩
        have HLn : Hid (lineL zs n order = U ++ [10]) := by rw [Hid, ← hU]; exact HLX.out
        simp only [hU]
        rw [hU] at hcl
        have hsz : ¬ 9223372036854775807 < (strOfNums U).size + (ByteArray.mk #[10]).size := by rw [strOfNums_size]; show ¬ _ < _ + 1; omega
        have HSA : Hid (strOfNums U ++ ByteArray.mk #[10] = strOfNums (U ++ [10])) := strs_app U [10]
        clear hU hKX hjl
        go_wp2_with fail
        go_ret
        refine ⟨?_, Kept.trans HKX.out HKw.out⟩
        rw [HLn.out, ← HSA.out]
        rfl
  · have HHL : Hid (([115, 99, 111, 112, 101] : List Int).length ≤ 50000) := by show _ ≤ _; decide
    have HT5 : Hid (toldL zs n = sv.take (cutN sv sv.length)) := by rw [Hid, HTD.out]; simp
    have hsl1 : 1 ≤ sl.length := by rw [HSE.out, slL, someL_len]; have := Hs2.out; have e1 : slOff 5 = 1 := rfl; have e2 : slMany 5 = 4194304 := rfl; rw [e1, e2]; omega
    go_enter Tryz.func39, Tryz.ntmps39
    go_wp2_with (first | (go_at_call 63; refine hL3.mono ?_; rintro e WX ⟨v3, rfl, hO3, hk3⟩; have KX := k0.trans hk3; have bX := b0.kept hk3; have cX := bX.cell 0; have cN := CN.out n WX hn KX; obtain ⟨so, sc, ev3, hI3, hcap, hscm, hsoE⟩ := own_someE hO3 hsl1; subst ev3) | (go_at_call 67; refine (hl2 _).mono ?_; rintro e wx ⟨rfl, rfl⟩))
    have HIX : Hid _ := hI3
    have HKX : Hid _ := KX
    have HbX : Hid _ := bX
    clear hL3 hI3 KX bX cX cN hO3
    go_loopw [10] (fun c wr => ∃ m : Nat, c = .int .i64 m ∧ m ≤ sl.length ∧ cutN sv sl.length = cutN sv m ∧ Kept WX wr) (fun c _ => (intOf c).toNat)
    case atStart => exact ⟨sl.length, rfl, Nat.le_refl _, rfl, Below.refl _ _⟩
    case round =>
      obtain ⟨m, rfl, hm, hcut, hKX⟩ := hrel
      have HCut : Hid _ := hcut
      have HKw : Hid _ := hKX
      by_cases h0 : m = 0
      · subst h0
        have HM : Hid (cutN sv 0 = 0) := rfl
        clear hcut hKX
        go_wp2_with fail
        refine wp_region_seqL (by kernel_rfl) (by kernel_rfl) ?_
        repeat (first
          | (refine SeqL.skip (by rfl) ?_; simp only [Act.put, List.setIfInBounds_toArray, List.set_cons_zero, List.set_cons_succ])
          | (refine SeqL.pure ?_ (by rfl) ?_ ?_; rotate_left; (focus (intro u hu; go_simp; first | done | exact rfl)); simp only [Act.put, List.setIfInBounds_toArray, List.set_cons_zero, List.set_cons_succ])
        )
        refine SeqL.nil ?_
        intro w5 hu5
        have K5 := Kept.trans HKw.out (Kept.trans (Below.refl _ wr).drew hu5)
        have HLX : Hid (lineL zs n order = [115, 99, 111, 112, 101] ++ valsL (sv.take 0) order ++ [10]) := by rw [Hid, HLD.out, HHD.out, HT5.out, HSL.out, HCut.out, HM.out]
        have f1 : ((0 : Nat) : Int) ≤ (sc : Int) := by omega
        have f2 : 0 ≤ sc := by omega
        have f3 : (0 : Int) ≤ ((0 : Nat) : Int) := by omega
        obtain ⟨gS, hgS⟩ := hsoE
        subst hgS
        go_wp2_with fail
        go_loopw [7, 11] (fun s i wr => ∃ j : Nat, i = .int .i64 j ∧ j ≤ 0 ∧ s = .string (strOfNums ([115, 99, 111, 112, 101] ++ valsL (sv.take j) order)) ∧ Kept WX wr) (fun _ i _ => 0 - (intOf i).toNat)
        case atStart => exact ⟨0, rfl, Nat.zero_le _, by show Value.string _ = Value.string (strOfNums ([115, 99, 111, 112, 101] ++ [])); first | (rw [List.append_nil]; done) | (rw [List.append_nil]; exact rfl), K5⟩
        case round =>
          obtain ⟨j, rfl, hj, rfl, hKX⟩ := hrel
          have hjl := valsL_len (vs := sv.take j) (order := order) (fun v hv => HVB.out v (List.mem_of_mem_take hv)) hol
          have hjm : (sv.take j).length ≤ 4194304 := by rw [List.length_take]; have := HSL.out; omega
          have hcl : ([115, 99, 111, 112, 101] ++ valsL (sv.take j) order).length ≤ 200000000 := by rw [List.length_append]; have := HHL.out; omega
          by_cases hlj : j < 0
          · exact absurd hlj (by omega)
          · obtain rfl : j = 0 := by omega
            have HKw : Hid _ := hKX
            obtain ⟨U, hU⟩ : ∃ U, [115, 99, 111, 112, 101] ++ valsL (sv.take 0) order = U := ⟨_, rfl⟩
            have HLn : Hid (lineL zs n order = U ++ [10]) := by rw [Hid, ← hU]; exact HLX.out
            simp only [hU]
            rw [hU] at hcl
            have hsz : ¬ 9223372036854775807 < (strOfNums U).size + (ByteArray.mk #[10]).size := by rw [strOfNums_size]; show ¬ _ < _ + 1; omega
            have HSA : Hid (strOfNums U ++ ByteArray.mk #[10] = strOfNums (U ++ [10])) := strs_app U [10]
            clear hU hKX hjl
            go_wp2_with fail
            go_ret
            refine ⟨?_, Kept.trans HKX.out HKw.out⟩
            rw [HLn.out, ← HSA.out]
            rfl
      · obtain ⟨q, hqm⟩ : ∃ q, m = q + 1 := ⟨m - 1, by omega⟩
        have HQM : Hid _ := hqm
        have hqs : q < sl.length := by omega
        obtain ⟨p, hp, hpl⟩ := HSP.out q hqs
        have evq : hz sv q = hz zs p := by rw [HSV.out q hqs, hp, Int.toNat_natCast]
        obtain ⟨b5, o5, e5, hc5⟩ := Ints.at (Ints.kept HIX.out hKX) hqs
        have c5 := hc5 q hqs
        rw [hp] at c5
        have c6 := CN.out p wr hpl (Kept.trans HKX.out hKX)
        have l5 : b5 < wr.heap.size := World.block_lt_of_cell? _ _ c5
        have l6 : ba < wr.heap.size := World.block_lt_of_cell? _ _ c6
        have g0 : (0 : Int) < (m : Int) := by omega
        have g0n : 0 < m := by omega
        have g1 : (q : Int) < (sl.length : Int) := by omega
        have g2 : (0 : Int) ≤ (q : Int) := by omega
        have g3 : (p : Int) < (zs.length : Int) := by omega
        have g4 : (0 : Int) ≤ (p : Int) := by omega
        have g5 : ((p : Int)).toNat = p := by omega
        have wq : IntKind.i64.wrap ((m : Int) - 1) = (q : Int) := by rw [IntWalk.i64_left, IntWalk.wrap64_in _ (by omega)]; omega
        have kd7 : ∀ u, Kept wr.drew u → Kept wr u := fun u hu => Kept.trans (Below.refl _ wr).drew hu
        have y0 : ∀ u, Kept wr.drew u → u.cell? ⟨w.heap.size, 0, none⟩ = some (.slice (some ⟨ba, ofa, none⟩) zs.length cap) := fun u hu => (Cells.kept HbX.out (Kept.trans hKX (kd7 u hu))).cell 0
        have y1 : ∀ u, Kept wr.drew u → u.cell? ⟨b5, o5 + q, none⟩ = some (.int .i64 (p : Int)) := fun u hu => ((kd7 u hu).cell (p := ⟨b5, o5 + q, none⟩) l5).trans c5
        have y2 : ∀ u, Kept wr.drew u → u.cell? ⟨ba, ofa + p, none⟩ = some (.int .i64 (hz zs p)) := fun u hu => ((kd7 u hu).cell (p := ⟨ba, ofa + p, none⟩) l6).trans c6
        have HSo : Hid _ := hsoE
        obtain ⟨gS, hgS⟩ := hsoE
        subst hgS
        cases e5
        simp only [Nat.zero_add] at y1
        have hqb : q < m := by omega
        clear hc5 c5 c6 hp hcut hKX hqm
        by_cases hx : hz zs p = 0
        · have hd : (hz zs p == 0) = true := by simpa using hx
          have HM : Hid (cutN sv m = cutN sv q) := by rw [Hid, HQM.out, cutN, if_pos (evq.trans hx)]
          clear hx evq
          go_wp2_with fail
          refine wp_region_seqL (by kernel_rfl) (by kernel_rfl) ?_
          repeat (first
            | (refine SeqL.skip (by rfl) ?_; simp only [Act.put, List.setIfInBounds_toArray, List.set_cons_zero, List.set_cons_succ])
            | (refine SeqL.pure ?_ (by rfl) ?_ ?_; rotate_left; (focus (intro u hu; have y0' := y0 u hu; have y1' := y1 u hu; have y2' := y2 u hu; go_simp; first | done | exact rfl)); simp only [Act.put, List.setIfInBounds_toArray, List.set_cons_zero, List.set_cons_succ])
          )
          refine SeqL.nil ?_
          intro w5 hu5
          have K5 := Kept.trans HKw.out (kd7 w5 hu5)
          clear y0 y1 y2 kd7
          go_wp2_with fail
          go_roundw
          case rel => exact ⟨q, by go_num, by omega, HCut.out.trans HM.out, K5⟩
          case measure => simp [intOf]; omega
        · have hd : (hz zs p == 0) = false := by simpa using hx
          have HM : Hid (cutN sv m = m) := by rw [Hid, HQM.out, cutN, if_neg (by rw [evq]; exact hx)]
          clear hx evq
          go_wp2_with fail
          refine wp_region_seqL (by kernel_rfl) (by kernel_rfl) ?_
          repeat (first
            | (refine SeqL.skip (by rfl) ?_; simp only [Act.put, List.setIfInBounds_toArray, List.set_cons_zero, List.set_cons_succ])
            | (refine SeqL.pure ?_ (by rfl) ?_ ?_; rotate_left; (focus (intro u hu; have y0' := y0 u hu; have y1' := y1 u hu; have y2' := y2 u hu; go_simp; first | done | exact rfl)); simp only [Act.put, List.setIfInBounds_toArray, List.set_cons_zero, List.set_cons_succ])
          )
          refine SeqL.nil ?_
          intro w5 hu5
          have K5 := Kept.trans HKw.out (kd7 w5 hu5)
          clear y0 y1 y2 kd7
          have HLX : Hid (lineL zs n order = [115, 99, 111, 112, 101] ++ valsL (sv.take m) order ++ [10]) := by rw [Hid, HLD.out, HHD.out, HT5.out, HSL.out, HCut.out, HM.out]
          have f1 : ((m : Nat) : Int) ≤ (sc : Int) := by omega
          have f2 : m ≤ sc := by omega
          have f3 : (0 : Int) ≤ ((m : Nat) : Int) := by omega
          go_wp2_with fail
          go_loopw [7, 11] (fun s i wr => ∃ j : Nat, i = .int .i64 j ∧ j ≤ m ∧ s = .string (strOfNums ([115, 99, 111, 112, 101] ++ valsL (sv.take j) order)) ∧ Kept WX wr) (fun _ i _ => m - (intOf i).toNat)
          case atStart => exact ⟨0, rfl, Nat.zero_le _, by show Value.string _ = Value.string (strOfNums ([115, 99, 111, 112, 101] ++ [])); first | (rw [List.append_nil]; done) | (rw [List.append_nil]; exact rfl), K5⟩
          case round =>
            obtain ⟨j, rfl, hj, rfl, hKX⟩ := hrel
            have hjl := valsL_len (vs := sv.take j) (order := order) (fun v hv => HVB.out v (List.mem_of_mem_take hv)) hol
            have hjm : (sv.take j).length ≤ 4194304 := by rw [List.length_take]; have := HSL.out; omega
            have hcl : ([115, 99, 111, 112, 101] ++ valsL (sv.take j) order).length ≤ 200000000 := by rw [List.length_append]; have := HHL.out; omega
            by_cases hlj : j < m
            · have hjs : j < sl.length := by omega
              obtain ⟨p, hp, hpl⟩ := HSP.out j hjs
              have evj : hz sv j = hz zs p := by rw [HSV.out j hjs, hp, Int.toNat_natCast]
              have hjv : j < sv.length := by rw [HSL.out]; exact hjs
              have HT : Hid (valsL (sv.take (j + 1)) order = valsL (sv.take j) order ++ valL (hz zs p) order) := by rw [Hid, take_hz hjv, valsL_snoc, evj]
              have hvb : -9223372036854775808 ≤ hz zs p ∧ hz zs p ≤ 9223372036854775807 := by rw [← evj]; exact HVB.out _ (hz_mem hjv)
              have hvl := valL_len hvb hol
              obtain ⟨b5, o5, e5, hc5⟩ := Ints.at (Ints.kept HIX.out hKX) hjs
              have c5 := hc5 j hjs
              rw [hp] at c5
              have c6 := CN.out p wr hpl (Kept.trans HKX.out hKX)
              have l5 : b5 < wr.heap.size := World.block_lt_of_cell? _ _ c5
              have l6 : ba < wr.heap.size := World.block_lt_of_cell? _ _ c6
              have g1 : (j : Int) < ((m : Nat) : Int) := by omega
              have g2 : (0 : Int) ≤ (j : Int) := by omega
              have g3 : (p : Int) < (zs.length : Int) := by omega
              have g4 : (0 : Int) ≤ (p : Int) := by omega
              have g5 : ((p : Int)).toNat = p := by omega
              have kd7 : ∀ u, Kept wr.drew u → Kept wr u := fun u hu => Kept.trans (Below.refl _ wr).drew hu
              have y0 : ∀ u, Kept wr.drew u → u.cell? ⟨w.heap.size, 0, none⟩ = some (.slice (some ⟨ba, ofa, none⟩) zs.length cap) := fun u hu => (Cells.kept HbX.out (Kept.trans hKX (kd7 u hu))).cell 0
              have y1 : ∀ u, Kept wr.drew u → u.cell? ⟨b5, o5 + j, none⟩ = some (.int .i64 (p : Int)) := fun u hu => ((kd7 u hu).cell (p := ⟨b5, o5 + j, none⟩) l5).trans c5
              have y2 : ∀ u, Kept wr.drew u → u.cell? ⟨ba, ofa + p, none⟩ = some (.int .i64 (hz zs p)) := fun u hu => ((kd7 u hu).cell (p := ⟨ba, ofa + p, none⟩) l6).trans c6
              obtain ⟨T, hT⟩ : ∃ T, valL (hz zs p) order = T := ⟨_, rfl⟩
              obtain ⟨U, hU⟩ : ∃ U, [115, 99, 111, 112, 101] ++ valsL (sv.take j) order = U := ⟨_, rfl⟩
              have C1 : Hid (∀ u, Kept wr.drew u → Calls Tryz.prog 38 #[.int .i64 (hz zs p), .slice oo order.length oc] u fun e w' => e = .returned (.string (strOfNums T)) ∧ Kept u w') := fun u hu => by have := l7Value_ok u (hz zs p) oo oc order (Ints.kept HOr.out (Kept.trans HKX.out (Kept.trans hKX (kd7 u hu)))) hol hvb; rw [hT] at this; exact this
              have HU : Hid ([115, 99, 111, 112, 101] ++ valsL (sv.take (j + 1)) order = U ++ T) := by rw [Hid, HT.out, hT, ← List.append_assoc, hU]
              rw [hT] at hvl
              simp only [hU]
              rw [hU] at hcl
              have hsz : ¬ 9223372036854775807 < (strOfNums U).size + (strOfNums T).size := by rw [strOfNums_size, strOfNums_size]; omega
              have HSA : Hid _ := strs_app U T
              have HKw : Hid _ := hKX
              cases e5
              try simp only [Nat.zero_add] at y1
              clear hc5 c5 c6 evj hp hT hU hKX hjl hvb
              go_wp2_with fail
              refine wp_region_seqL (by kernel_rfl) (by kernel_rfl) ?_
              repeat (first
                | (refine SeqL.skip (by rfl) ?_; simp only [Act.put, List.setIfInBounds_toArray, List.set_cons_zero, List.set_cons_succ])
                | (refine SeqL.pure ?_ (by rfl) ?_ ?_; rotate_left; (focus (intro u hu; have y0' := y0 u hu; have y1' := y1 u hu; have y2' := y2 u hu; go_simp; first | done | exact rfl)); simp only [Act.put, List.setIfInBounds_toArray, List.set_cons_zero, List.set_cons_succ])
                | (refine SeqL.call _ _ _ (by rfl) ?_ C1.out ?_; (focus (intro u; go_simp; done)); simp only [Act.put, List.setIfInBounds_toArray, List.set_cons_zero, List.set_cons_succ]))
              refine SeqL.nil ?_
              intro w5 hu5
              have K5 := Kept.trans HKw.out (kd7 w5 hu5)
              clear y0 y1 y2 C1 kd7
              go_wp2_with fail
              go_roundw
              case rel => exact ⟨j + 1, by go_num, by omega, by rw [HU.out, ← HSA.out], K5⟩
              case measure => simp [intOf]; omega
            · obtain rfl : m = j := by omega
              have HKw : Hid _ := hKX
              obtain ⟨U, hU⟩ : ∃ U, [115, 99, 111, 112, 101] ++ valsL (sv.take m) order = U := ⟨_, rfl⟩
              have HLn : Hid (lineL zs n order = U ++ [10]) := by rw [Hid, ← hU]; exact HLX.out
              simp only [hU]
              rw [hU] at hcl
              have hsz : ¬ 9223372036854775807 < (strOfNums U).size + (ByteArray.mk #[10]).size := by rw [strOfNums_size]; show ¬ _ < _ + 1; omega
              have HSA : Hid (strOfNums U ++ ByteArray.mk #[10] = strOfNums (U ++ [10])) := strs_app U [10]
              clear hU hKX hjl
              go_wp2_with fail
              go_ret
              refine ⟨?_, Kept.trans HKX.out HKw.out⟩
              rw [HLn.out, ← HSA.out]
              rfl
end Go.Proofs.YtgnpllpinfhccaaGreatDoor
namespace Go.Proofs.YtgnpllpinfhccaaGreatDoor
open Go.RowKit Go.Maps
attribute [local go_sem] Plain.and7

set_option maxHeartbeats 8000000 in
set_option maxRecDepth 100000 in
theorem word_ok (w : World) (b : Nat) (out : List Int) (v : Int) (hT : Tab w) (hN : NumMap w b out) (hol : out.length ≤ 1048576) (hv : -9223372036854775808 ≤ v ∧ v ≤ 9223372036854775807) (hin : ¬ v % 8 < 4 → v / 8 ∈ out) :
    Calls Tryz.prog 54 #[.map (some b), .int .i64 v] w fun e w' => e = .returned (.string (strOfNums (wordL v out))) ∧ Kept w w' := by
  have hKd := fun (u : World) => impl_Kind_ok v u
  rcases (show v % 8 = 0 ∨ v % 8 = 1 ∨ v % 8 = 2 ∨ v % 8 = 3 ∨ (¬ v % 8 < 4) by omega) with h | h | h | h | h
  · have HW : Hid (wordL v out = [117, 110, 100, 101, 102]) := by simp [Hid, wordL, h]
    rw [h] at hKd
    clear h hin hN hT
    go_enter Tryz.func54, Tryz.ntmps54
    go_wp2_with (first | (go_at_call 93; refine (hKd _).mono ?_; rintro e wx ⟨rfl, rfl⟩))
    go_ret
    exact ⟨by rw [HW.out]; rfl, Below.refl _ _⟩
  · have HW : Hid (wordL v out = [110, 117, 108, 108]) := by simp [Hid, wordL, h]
    rw [h] at hKd
    clear h hin hN hT
    go_enter Tryz.func54, Tryz.ntmps54
    go_wp2_with (first | (go_at_call 93; refine (hKd _).mono ?_; rintro e wx ⟨rfl, rfl⟩))
    go_ret
    exact ⟨by rw [HW.out]; rfl, Below.refl _ _⟩
  · have HW : Hid (wordL v out = if (v == 10) then [116, 114, 117, 101] else [102, 97, 108, 115, 101]) := by
      have e : (v / 8 = 1) ↔ (v == 10) = true := by simp; omega
      simp only [Hid, wordL, h]
      by_cases h1 : v / 8 = 1
      · rw [if_pos h1, if_pos (e.1 h1)]; rfl
      · rw [if_neg h1, if_neg (fun hh => h1 (e.2 hh))]; rfl
    rw [h] at hKd
    have hBo := fun (u : World) => impl_BoolOf_ok true u
    clear h hin hN hT
    go_enter Tryz.func54, Tryz.ntmps54
    go_wp2_with (first | (go_at_call 93; refine (hKd _).mono ?_; rintro e wx ⟨rfl, rfl⟩) | (go_at_call 98; refine (hBo _).mono ?_; rintro e wx ⟨rfl, rfl⟩) | (go_at_call 97; refine (lib_strconv_FormatBool _ _).mono ?_; rintro e wx ⟨rfl, rfl⟩))
    go_ret
    exact ⟨by rw [HW.out, ← strs_bool]; rfl, Below.refl _ _⟩
  · have HW : Hid (wordL v out = digI (v / 8)) := by simp [Hid, wordL, h]
    have hIt := fun (u : World) (hu : Tab u) => Itoa_ok (v / 8) (by omega) u hu
    have hNm := fun (u : World) => impl_Num_ok v u hv.1 hv.2
    rw [h] at hKd
    clear h hin hN
    go_enter Tryz.func54, Tryz.ntmps54
    go_wp2_with (first | (go_at_call 93; refine (hKd _).mono ?_; rintro e wx ⟨rfl, rfl⟩) | (go_at_call 94; refine (hNm _).mono ?_; rintro e wx ⟨rfl, rfl⟩) | (go_at_call 99; refine (hIt _ hT).mono ?_; rintro e w1 ⟨rfl, hk1⟩))
    go_ret
    exact ⟨by rw [HW.out]; rfl, hk1⟩
  · obtain ⟨n, D, hown, hD, hn⟩ := hN
    have hx := hin h
    obtain ⟨k, hk, ek⟩ := List.getElem_of_mem hx
    have hs : out[k]? = some (v / 8) := by rw [List.getElem?_eq_getElem hk, ek]
    have HV : Hid (∀ z, D.atKey (.int .i64 (v / 8)) z = .lit (.int .i64 k)) := hD.val k _ hs
    have HW : Hid (wordL v out = [64] ++ digI (k : Nat)) := by
      unfold Hid wordL
      rw [if_neg (by omega), if_neg (by omega), if_neg (by omega), if_neg (by omega), find_nodup hD.nodup hs]
    have hIt := fun (u : World) (hu : Tab u) => Itoa_ok (k : Int) (by omega) u hu
    have hNm := fun (u : World) => impl_Num_ok v u hv.1 hv.2
    have hdl := digI_len (n := (k : Int)) (by omega)
    obtain ⟨ds, hds⟩ : ∃ ds, digI (k : Int) = ds := ⟨_, rfl⟩
    rw [hds] at hIt hdl HW
    have hsz : ¬ 9223372036854775807 < (ByteArray.mk #[64]).size + (strOfNums ds).size := by rw [strOfNums_size]; show ¬ _ < 1 + _; omega
    have HSB : Hid ((ByteArray.mk #[64] ++ strOfNums ds) = strOfNums ([64] ++ ds)) := strs_app [64] ds
    have n0 : (v % 8 == 0) = false := by simp; omega
    have n1 : (v % 8 == 1) = false := by simp; omega
    have n2 : (v % 8 == 2) = false := by simp; omega
    have n3 : (v % 8 == 3) = false := by simp; omega
    have hvb1 : -9223372036854775808 ≤ v / 8 := by omega
    have hvb2 : v / 8 ≤ 9223372036854775807 := by omega
    clear h hin hx ek hs hds hD
    go_enter Tryz.func54, Tryz.ntmps54
    go_wp2_with (first | (go_at_call 93; refine (hKd _).mono ?_; rintro e wx ⟨rfl, rfl⟩) | (go_at_call 94; refine (hNm _).mono ?_; rintro e wx ⟨rfl, rfl⟩) | (at_lookup; refine wpList_lookup_own_int _ rfl _ _ 51 rfl 3 3 .i64 lawN Tryz.underlying51 Tryz.underlying3 (Tryz.zeroValue3 _) b n _ rfl hown _ _ rfl (keyOf_int_mk Tryz.underlying3 (WalkArith.wf_i64 ⟨hvb1, hvb2⟩)) ?_; intro c hat hwc; rw [HV.out] at hat; injection hat with hat; injection hat with _ hat; subst hat) | (go_at_call 99; refine (hIt _ hT).mono ?_; rintro e w1 ⟨rfl, hk1⟩))
    go_ret
    exact ⟨by rw [HW.out, ← HSB.out]; rfl, hk1⟩
end Go.Proofs.YtgnpllpinfhccaaGreatDoor
namespace Go.Proofs.YtgnpllpinfhccaaGreatDoor
open Go.RowKit Go.Maps
attribute [local go_sem] Plain.and7

theorem infoS7 : (Tryz.prog.info? 9).map (fun i => (i.zero, i.size, i.bytes)) = some (some (.string ⟨#[]⟩), 1, 16) := by kernel_rfl
theorem nums_app (xs ys : List Int) : ((xs ++ ys).map fun n => UInt8.ofNat n.toNat) = (xs.map fun n => UInt8.ofNat n.toNat) ++ (ys.map fun n => UInt8.ofNat n.toNat) := List.map_append
def wordsS (hd vs out : List Int) : List ByteArray := strOfNums hd :: vs.map (fun v => strOfNums (wordL v out))
theorem wordsS_len (hd vs out : List Int) : (wordsS hd vs out).length = vs.length + 1 := by simp [wordsS]
theorem wordsS_snoc (hd vs out : List Int) (v : Int) : wordsS hd (vs ++ [v]) out = wordsS hd vs out ++ [strOfNums (wordL v out)] := by simp [wordsS]
theorem joinTail_vals (out : List Int) : ∀ (vs : List Int), Lib.joinTail [32] ((vs.map (fun v => strOfNums (wordL v out))).map (·.data.toList)) = (valsL vs out).map fun n => UInt8.ofNat n.toNat
  | [] => rfl
  | v :: vs => by
    have ih := joinTail_vals out vs
    have e : valsL (v :: vs) out = valL v out ++ valsL vs out := by simp [valsL]
    rw [e, nums_app, ← ih, valL_word, nums_app]
    rfl
theorem join_words (hd vs out : List Int) : (⟨(Lib.join ((wordsS hd vs out).map (·.data.toList)) [32]).toArray⟩ : ByteArray) = strOfNums (hd ++ valsL vs out) := by
  unfold wordsS
  rw [List.map_cons, Lib.join_cons, joinTail_vals]
  unfold strOfNums
  rw [nums_app]
theorem join_len (hd vs out : List Int) : (Lib.join ((wordsS hd vs out).map (·.data.toList)) [32]).length = hd.length + (valsL vs out).length := by
  unfold wordsS
  rw [List.map_cons, Lib.join_cons, joinTail_vals, List.length_append]
  simp [strOfNums]
set_option maxHeartbeats 8000000 in
set_option maxRecDepth 100000 in
theorem line_ok (w : World) (b : Nat) (out hd : List Int) (va : Option Addr) (vc : Nat) (vs : List Int) (hT : Tab w) (hN : NumMap w b out) (hol : out.length ≤ 1048576) (hI : Ints w va vs) (hvl : vs.length ≤ 1048576) (hin : ∀ v ∈ vs, ¬ v % 8 < 4 → v / 8 ∈ out) (hhd : hd.length ≤ 100000000) :
    Calls Tryz.prog 32 #[.map (some b), .string (strOfNums hd), .slice va vs.length vc] w fun e w' => e = .returned (.string (strOfNums (hd ++ valsL vs out ++ [10]))) ∧ Kept w w' := by
  obtain ⟨i0, hi, hz0, hz1, hz2⟩ := info_parts infoS7
  have k0 : Kept w (w.alloc (.cells #[.string (strOfNums hd)] 9)) := Kept.alloc (Below.refl _ _) _
  have o0 : (w.alloc (.cells #[.string (strOfNums hd)] 9)).ownsRow w.heap.size 9 1 (.slice (some ⟨w.heap.size, 0, none⟩) 1 1) (wordsS hd (vs.take 0) out).length ((wordsS hd (vs.take 0) out).map Value.string) := by
    have := World.ownsRow_lit (base := w.heap.size) (e := 9) (size := 1) w #[.string (strOfNums hd)] 1 (Nat.le_refl _) (by unfold maxLen; omega) (by simp)
    simpa [wordsS] using this
  have HI : Hid (Ints w va vs) := hI
  have HT : Hid (Tab w) := hT
  have HN : Hid (NumMap w b out) := hN
  have HIN : Hid (∀ v ∈ vs, ¬ v % 8 < 4 → v / 8 ∈ out) := hin
  have hvt : (valsL vs out).length ≤ 24 * vs.length := valsL_len hI.1 hol
  clear hI hT hN hin
  go_enter Tryz.func32, Tryz.ntmps32
  go_wp2_with fail
  go_loopw [7, 14] (fun v i wr => ∃ (k : Nat), i = .int .i64 k ∧ k ≤ vs.length ∧ wr.ownsRow w.heap.size 9 1 v (wordsS hd (vs.take k) out).length ((wordsS hd (vs.take k) out).map Value.string) ∧ Kept w wr)
    (fun _ i _ => vs.length - (intOf i).toNat)
  case atStart => exact ⟨0, rfl, Nat.zero_le _, o0, k0⟩
  case round =>
    obtain ⟨k, rfl, hk, hrow, hK⟩ := hrel
    clear o0 k0
    have hln := wordsS_len hd (vs.take k) out
    rw [List.length_take, Nat.min_eq_left hk] at hln
    have hsz := hK.size
    by_cases hlt : k < vs.length
    · obtain ⟨b1, o1, rfl, hc1⟩ := Ints.at (Ints.kept HI.out hK) hlt
      have c1 := hc1 k hlt
      have hvb := HI.out.1 _ (hz_mem hlt)
      have hvi := HIN.out _ (hz_mem hlt)
      have HS : Hid (wordsS hd (vs.take (k + 1)) out = wordsS hd (vs.take k) out ++ [strOfNums (wordL (hz vs k) out)]) := by rw [Hid, take_hz hlt, wordsS_snoc]
      obtain ⟨v, hv⟩ : ∃ v, hz vs k = v := ⟨_, rfl⟩
      rw [hv] at c1 hvb hvi HS
      have q1 : (k : Int) < (vs.length : Int) := by omega
      have q0 : (0 : Int) ≤ (k : Int) := by omega
      have hWo := word_ok wr b out v (HT.out.kept hK) (HN.out.kept (Kept.grown hK) (by simp)) hol hvb (fun h => hvi (by omega))
      obtain ⟨ws, hws⟩ : ∃ ws, wordsS hd (vs.take k) out = ws := ⟨_, rfl⟩
      rw [hws] at hln hrow HS
      have HK : Hid (Kept w wr) := hK
      obtain ⟨wd, hwd⟩ : ∃ wd, strOfNums (wordL v out) = wd := ⟨_, rfl⟩
      rw [hwd] at hWo HS
      clear hv hc1 hvi hws hwd hK
      go_wp2_with (first | (go_at_call 54; refine hWo.mono ?_; rintro e w1 ⟨rfl, hk1⟩; have hrow1 := hrow.kept4 hk1; have hsz1 := Nat.le_trans hsz hk1.size) | (at_builtin; refine wpList_append_own _ rfl _ _ 77 rfl w.heap.size 9 i0 (.string ⟨#[]⟩) 1 16 Tryz.underlying77 hi hz0 hz1 hz2 rfl (by decide) _ _ _ rfl (hrow1.alloc _) ⟨w1.heap.size, 0, none⟩ 1 1 [.string wd] rfl rfl (cell_one_new _ _ _) (by simp [Value.oneCell']) (by unfold maxLen; omega) (by omega) (by simp; omega) ?_; intro v' w5 hown' hgrow _; have kk : Below w.heap.size w1 w5 := ((Below.refl _ w1).alloc hsz1 _).grown hgrow (by simp; omega) (fun j ej => (hrow1.lt j ej).1)))
      go_roundw
      case rel => exact ⟨k + 1, by go_num, by omega, by rw [HS.out]; simpa using hown', Below.trans (Kept.trans HK.out hk1) kk⟩
      case measure => simp [intOf]; omega
    · obtain rfl : k = vs.length := by omega
      rw [List.take_length] at hrow hln
      rcases (id hrow.2) with ⟨rfl, h0⟩ | ⟨g, cp, cur, rfl, hbg, hgg, hnc, hcm, hcs, htk⟩
      · omega
      have hgw := (Array.getElem?_eq_some_iff.1 hgg).1
      have hJ := lib_strings_Join g 0 cp (wordsS hd vs out) ⟨#[32]⟩ wr (fun j x hx => by
        have := hrow.cells (g := g) rfl j (.string x) (by rw [List.getElem?_map, hx]; rfl)
        simpa [Addr.add_lit] using this) hgw (by omega) hnc (by rw [show (⟨#[32]⟩ : ByteArray).data.toList = [32] from rfl, join_len]; omega)
      rw [show (⟨#[32]⟩ : ByteArray).data.toList = [32] from rfl, join_words] at hJ
      obtain ⟨ys, hys⟩ : ∃ ys, hd ++ valsL vs out = ys := ⟨_, rfl⟩
      have hyl : ys.length ≤ 200000000 := by rw [← hys, List.length_append]; omega
      rw [hys, hln] at hJ
      have HY : Hid (strOfNums (hd ++ valsL vs out ++ [10]) = strOfNums ys ++ (ByteArray.mk #[10])) := by
        rw [Hid, hys]
        exact (strs_app ys [10]).symm
      have hszs : ¬ 9223372036854775807 < (strOfNums ys).size + (ByteArray.mk #[10]).size := by rw [strOfNums_size]; show ¬ _ < _ + 1; omega
      have HK : Hid (Kept w wr) := hK
      clear hrow htk hcs hcm hgg hys hK
      go_wp2_with (first | (go_at_call 55; refine hJ.mono ?_; rintro e w1 ⟨rfl, hk1⟩))
      go_ret
      exact ⟨by rw [HY.out]; rfl, Kept.trans HK.out hk1⟩
end Go.Proofs.YtgnpllpinfhccaaGreatDoor
namespace Go.Proofs.YtgnpllpinfhccaaGreatDoor
open Go.RowKit Go.Maps
attribute [local go_sem] Plain.and7

def lenV : Value → Nat | .slice _ n _ => n | _ => 0
set_option maxHeartbeats 8000000 in
set_option maxRecDepth 100000 in
theorem withoutLast_ok (w : World) (va : Option Addr) (vc : Nat) (vs : List Int) (hI : Ints w va vs) (hvc : vs.length ≤ vc) (hcm : vc ≤ maxLen) :
    Calls Tryz.prog 57 #[.slice va vs.length vc] w fun e w' => e = .returned (.slice va (cutN vs vs.length) vc) ∧ w = w' := by
  have hcm2 : vc ≤ 9223372036854775807 := by unfold maxLen at hcm; omega
  have HI : Hid (Ints w va vs) := hI
  clear hI hcm
  go_enter Tryz.func57, Tryz.ntmps57
  go_wp2_with fail
  go_loopw [0] (fun v wr => ∃ k : Nat, v = .slice va k vc ∧ k ≤ vs.length ∧ cutN vs k = cutN vs vs.length ∧ wr = w) (fun v _ => lenV v)
  case atStart => exact ⟨vs.length, rfl, Nat.le_refl _, rfl, rfl⟩
  case round =>
    obtain ⟨k, rfl, hk, hcut, rfl⟩ := hrel
    have HC : Hid (cutN vs k = cutN vs vs.length) := hcut
    clear hcut
    cases k with
    | zero =>
      go_wp2_with fail
      go_ret
      exact ⟨by rw [← HC.out]; rfl, rfl⟩
    | succ k =>
      have hlt : k < vs.length := by omega
      obtain ⟨b1, o1, rfl, hc1⟩ := Ints.at HI.out hlt
      have c1 := hc1 k hlt
      have z1 : (0 : Int) < (k : Int) + 1 := by omega
      have z2 : (k : Int) < (k : Int) + 1 := by omega
      have z3 : (0 : Int) ≤ (k : Int) := by omega
      have z4 : (k : Int) ≤ (vc : Int) := by omega
      have wr1 : IntKind.i64.wrap ((k : Int) + 1 - 1) = (k : Int) := by rw [IntWalk.i64_left, IntWalk.wrap64_in _ (by omega)]; omega
      by_cases h0 : hz vs k = 0
      · have HC2 : Hid (cutN vs k = cutN vs vs.length) := by
          have := HC.out
          rw [cutN, if_pos h0] at this
          exact this
        rw [h0] at c1
        clear hc1 h0
        go_wp2_with fail
        go_roundw
        case rel => exact ⟨k, rfl, by omega, HC2.out, by trivial⟩
        case measure => simp [lenV]
      · have hd : (hz vs k == 0) = false := by simpa using h0
        have HC2 : Hid (cutN vs vs.length = k + 1) := by
          have := HC.out
          rw [cutN, if_neg h0] at this
          exact this.symm
        clear hc1 h0
        go_wp2_with fail
        go_ret
        exact ⟨by rw [HC2.out]; rfl, rfl⟩
def bytesV (t : ByteArray) (k : Nat) : List Int := (List.range k).flatMap (fun i => [32] ++ digI (byteN t i))
theorem bytesV_succ (t : ByteArray) (k : Nat) : bytesV t (k + 1) = bytesV t k ++ ([32] ++ digI (byteN t k)) := by simp [bytesV, List.range_succ]
theorem bytesV_len (t : ByteArray) : ∀ k, (bytesV t k).length ≤ 22 * k
  | 0 => by simp [bytesV]
  | k + 1 => by
    have h1 := bytesV_len t k
    have h2 := byteN_in t k
    have h3 := digI_len (n := byteN t k) (by omega)
    rw [bytesV_succ]
    simp only [List.length_append, List.length_cons, List.length_nil]
    omega
def BldS (w : World) (B : Nat) (ys : List Int) : Prop := Lib.IsBuilderF 55 5 B B (Lib.byteCells (ys.map fun n => UInt8.ofNat n.toNat)) w
theorem BldS.new (w : World) : BldS (w.alloc (.cells #[.pointer none, .slice none 0 0] 55)) w.heap.size [] := Lib.IsBuilderF.of (Lib.fresh_isBuilder 55 5 w)
theorem BldS.kept {w w' : World} {B : Nat} {ys : List Int} (h : BldS w B ys) (hk : Kept w w') : BldS w' B ys := by
  have key : ∀ p, Lib.BuilderAtF 55 5 B B p (Lib.byteCells (ys.map fun n => UInt8.ofNat n.toNat)) w → Lib.BuilderAtF 55 5 B B p (Lib.byteCells (ys.map fun n => UInt8.ofNat n.toNat)) w' := by
    intro p hp
    have hlt := hp.lt
    obtain ⟨hB, v, hb, hown, hne⟩ := hp
    exact ⟨hB, v, (hk.block B hlt).trans hb, hown.kept (Kept.grown hk) (by cases hv : v.ownBlock <;> simp), hne⟩
  exact h.elim (fun x => .inl (key _ x)) (fun x => .inr (key _ x))
theorem BldS.lt {w : World} {B : Nat} {ys : List Int} (h : BldS w B ys) : B < w.heap.size := h.elim (fun x => x.lt) (fun x => x.lt)
theorem WriteString_ok (w : World) (B : Nat) (ys zs : List Int) (h : BldS w B ys) (hlen : ys.length + zs.length ≤ 140737488355328) :
    Calls Tryz.prog 31 #[.pointer (some ⟨B, 0, none⟩), .string (strOfNums zs)] w fun e w' => e = .returned (.tuple #[.int .i64 zs.length, .nilIface]) ∧ BldS w' B (ys ++ zs) ∧ Below B w w' ∧ Lib.OthersKept 5 (some B) w w' := by
  refine (lib_Builder_WriteString_k B B _ (strOfNums zs) w h (by rw [Lib.byteCells_length, List.length_map, strOfNums_size]; exact hlen) (Nat.le_of_lt h.lt)).mono ?_
  rintro e w' ⟨rfl, h1, h2, h3⟩
  refine ⟨by rw [strOfNums_size], .inr ?_, h2, h3⟩
  have e1 : Lib.byteCells (ys.map fun n => UInt8.ofNat n.toNat) ++ Lib.strCells (strOfNums zs) = Lib.byteCells ((ys ++ zs).map fun n => UInt8.ofNat n.toNat) := by
    rw [List.map_append, Lib.byteCells_append]
    rfl
  rw [e1] at h1
  exact h1
theorem String_ok (w : World) (B : Nat) (ys : List Int) (h : BldS w B ys) :
    Calls Tryz.prog 35 #[.pointer (some ⟨B, 0, none⟩)] w fun e w' => e = .returned (.string (strOfNums ys)) ∧ Below B w w' := by
  refine (lib_Builder_String_any_k B B _ w h (Nat.le_of_lt h.lt)).mono ?_
  rintro e w' ⟨rfl, h1, h2, h3⟩
  exact ⟨rfl, h2⟩
set_option maxHeartbeats 8000000 in
set_option maxRecDepth 100000 in
theorem textHead_ok (w : World) (t : ByteArray) (hT : Tab w) (ht : t.size ≤ 1048576) :
    Calls Tryz.prog 105 #[.string t] w fun e w' => e = .returned (.string (strOfNums ([116, 101, 120, 116] ++ bytesV t t.size))) ∧ Kept w w' := by
  have k0 : Kept w (w.alloc (.cells #[.pointer none, .slice none 0 0] 55)) := Kept.alloc (Below.refl _ _) _
  have hW0 := WriteString_ok _ w.heap.size [] [116, 101, 120, 116] (BldS.new w) (by simp)
  have e0 : strOfNums [116, 101, 120, 116] = ByteArray.mk #[116, 101, 120, 116] := rfl
  rw [e0] at hW0
  have HT : Hid (Tab w) := hT
  clear e0 hT
  go_enter Tryz.func105, Tryz.ntmps105
  go_wp2_with (go_at_call 31; refine hW0.mono ?_; rintro e w1 ⟨rfl, hB1, hb1, ho1⟩)
  have k1 : Kept w w1 := Below.trans k0 hb1
  clear hW0 hb1 ho1 k0
  go_loopw [8] (fun i wr => ∃ k : Nat, i = .int .i64 k ∧ k ≤ t.size ∧ BldS wr w.heap.size ([116, 101, 120, 116] ++ bytesV t k) ∧ Kept w wr) (fun i _ => t.size - (intOf i).toNat)
  case atStart => exact ⟨0, rfl, Nat.zero_le _, by simpa [bytesV] using hB1, k1⟩
  case round =>
    obtain ⟨k, rfl, hk, hB, hK⟩ := hrel
    clear hB1 k1
    by_cases hlt : k < t.size
    · have hbb := byteN_in t k
      have hdl := digI_len (n := byteN t k) (by omega)
      have hbl := bytesV_len t k
      have HS : Hid ([116, 101, 120, 116] ++ bytesV t (k + 1) = ([116, 101, 120, 116] ++ bytesV t k) ++ ([32] ++ digI (byteN t k))) := by rw [Hid, bytesV_succ, List.append_assoc]
      have hIt := Itoa_ok (byteN t k) (by omega) wr (HT.out.kept hK)
      obtain ⟨ds, hds⟩ : ∃ ds, digI (byteN t k) = ds := ⟨_, rfl⟩
      rw [hds] at hIt hdl HS
      obtain ⟨ys, hys⟩ : ∃ ys, [116, 101, 120, 116] ++ bytesV t k = ys := ⟨_, rfl⟩
      have hyl : ys.length ≤ 100000000 := by rw [← hys]; simp only [List.length_append, List.length_cons, List.length_nil]; omega
      rw [hys] at HS hB
      have hsz : ¬ 9223372036854775807 < (ByteArray.mk #[32]).size + (strOfNums ds).size := by rw [strOfNums_size]; show ¬ _ < 1 + _; omega
      have hsb : (ByteArray.mk #[32] ++ strOfNums ds) = strOfNums ([32] ++ ds) := strs_app [32] ds
      have HWS : Hid (∀ u, Kept wr u → Calls Tryz.prog 31 #[.pointer (some ⟨w.heap.size, 0, none⟩), .string (ByteArray.mk #[32] ++ strOfNums ds)] u fun e w' => e = .returned (.tuple #[.int .i64 (([32] ++ ds).length : Nat), .nilIface]) ∧ BldS w' w.heap.size (ys ++ ([32] ++ ds)) ∧ Below w.heap.size u w' ∧ Lib.OthersKept 5 (some w.heap.size) u w') := fun u hu => by
        rw [hsb]
        exact WriteString_ok u w.heap.size ys ([32] ++ ds) (hB.kept hu) (by simp only [List.length_append, List.length_cons, List.length_nil]; omega)
      have q1 : (k : Int) < (t.size : Int) := by omega
      have q0 : (0 : Int) ≤ (k : Int) := by omega
      have HK : Hid (Kept w wr) := hK
      clear hsb hds hys hK hB
      go_wp2_with fail
      rw [byteN_get t k hlt, IntWalk.wrap64_in _ (by omega)]
      refine hIt.mono ?_
      rintro e w2 ⟨rfl, hk2⟩
      go_wp2_with (go_at_call 31; refine (HWS.out _ hk2).mono ?_; rintro e w3 ⟨rfl, hB3, hb3, ho3⟩)
      go_roundw
      case rel => exact ⟨k + 1, by go_num, by omega, by rw [HS.out]; exact hB3, Below.trans (Kept.trans HK.out hk2) hb3⟩
      case measure => simp [intOf]; omega
    · obtain rfl : k = t.size := by omega
      have hS := String_ok wr w.heap.size _ hB
      have HK : Hid (Kept w wr) := hK
      clear hB hK
      go_wp2_with (go_at_call 35; refine hS.mono ?_; rintro e w3 ⟨rfl, hb3⟩)
      go_ret
      exact ⟨rfl, Below.trans HK.out hb3⟩
end Go.Proofs.YtgnpllpinfhccaaGreatDoor
namespace Go.Proofs.YtgnpllpinfhccaaGreatDoor
open Go.RowKit
attribute [local go_sem] Plain.and7

theorem infoB7 : (Tryz.prog.info? 5).map (fun i => (i.zero, i.size, i.bytes)) = some (some (.int .u8 0), 1, 1) := by kernel_rfl
theorem own_fullB {W : World} {base n g : Nat} {xs : List Value} (h : W.ownsRow base 5 1 (.slice (some ⟨g, 0, none⟩) n n) n xs) : Cells W g 5 xs.toArray := by
  rcases h.2 with ⟨e, _⟩ | ⟨g', cap, cur, e, _, hc, _, _, hs, ht⟩
  · cases e
  · cases e
    have : cur.toList = xs := by rw [← ht, List.take_of_length_le (by simp; omega)]
    show W.heap[g]? = _
    rw [hc, ← this]
theorem madeBytes (n : Nat) : (madeCells (Value.int .u8 0).cells (n * 1)).toList = (List.replicate n (0 : Int)).map (Value.int .u8) := by
  apply List.ext_getElem
  · simp [madeCells]
  · intro i h1 h2
    simp [madeCells, Value.cells, Nat.mod_one]
def mixB (zs : List Int) (f n k : Nat) : List Int := (List.range n).map (fun i => if i < k then hz zs (f + i) else 0)
theorem mixB_len (zs : List Int) (f n k : Nat) : (mixB zs f n k).length = n := by simp [mixB]
theorem mixB_zero (zs : List Int) (f n : Nat) : mixB zs f n 0 = List.replicate n 0 := by
  apply List.ext_getElem
  · simp [mixB]
  · intro i h1 h2; simp [mixB]
theorem mixB_all (zs : List Int) (f n : Nat) : mixB zs f n n = bytesL zs f n := by
  apply List.ext_getElem
  · simp [mixB, bytesL]
  · intro i h1 h2
    have : i < n := by simpa [mixB] using h1
    simp [mixB, bytesL, this]
theorem mixB_succ (zs : List Int) (f n k : Nat) : (mixB zs f n k).set k (hz zs (f + k)) = mixB zs f n (k + 1) := by
  apply List.ext_getElem
  · simp [mixB]
  · intro i h1 h2
    rw [List.getElem_set]
    simp only [mixB, List.getElem_map, List.getElem_range]
    by_cases h : k = i
    · subst h; simp
    · rw [if_neg h]
      by_cases hi : i < k
      · rw [if_pos hi, if_pos (by omega)]
      · rw [if_neg hi, if_neg (by omega)]
abbrev rowB (xs : List Int) : Array Value := (xs.map (Value.int .u8)).toArray
theorem rowB_cell {W : World} {g : Nat} {xs : List Int} (h : Cells W g 5 (rowB xs)) {j : Nat} (hj : j < xs.length) : W.cell? ⟨g, j, none⟩ = some (.int .u8 (xs.getD j 0)) := by
  rw [h.cell j]; simp [hj]
theorem rowB_set {W : World} {g : Nat} {xs : List Int} (h : Cells W g 5 (rowB xs)) (j : Nat) (v : Int) : Cells (W.setCell ⟨g, j, none⟩ (.int .u8 v)) g 5 (rowB (xs.set j v)) := by
  have := h.set j (.int .u8 v)
  simpa [rowB, List.map_set] using this
theorem conv_row {W : World} {g cap : Nat} {xs : List Int} (h : Cells W g 5 (rowB xs)) : (convert 22 9 (.slice (some ⟨g, 0, none⟩) xs.length cap)).run Tryz.prog W = .ok (.string (strOfNums xs)) W :=
  run_convert_bytes_arg W 22 5 Tryz.underlying22 Tryz.underlying5 g 0 xs.length cap xs rfl (fun j hj => by rw [Nat.zero_add]; exact rowB_cell h hj) 9 Tryz.underlying9

set_option maxHeartbeats 4000000 in
set_option maxRecDepth 100000 in
theorem readText_ok (w : World) (ao : Option Addr) (cap : Nat) (zs : List Int) (a n : Nat) (hI : Ints w ao zs) (hl : zs.length ≤ 1048576) (hn : hz zs (a + 1) = (n : Int)) (hbx : a + 2 + n ≤ zs.length) (hby : ∀ k, k < n → 0 ≤ hz zs (a + 2 + k) ∧ hz zs (a + 2 + k) ≤ 255) :
    Calls Tryz.prog 106 #[.slice ao zs.length cap, .int .i64 (a : Int)] w fun e w' => e = .returned (.string (strOfNums (bytesL zs (a + 2) n))) ∧ Kept w w' := by
  obtain ⟨i0, hi, hz0, hz1, hz2⟩ := info_parts infoB7
  obtain ⟨bb, off, rfl, hc⟩ := hI.at (k := 0) (by omega)
  have hbl : bb < w.heap.size := World.block_lt_of_cell? _ _ (hc 0 (by omega))
  have h1 : w.cell? ⟨bb, off + (a + 1), none⟩ = some (.int .i64 (n : Int)) := by rw [← hn]; exact hc (a + 1) (by omega)
  have hw : ∀ k, k < n → w.cell? ⟨bb, off + (a + 2 + k), none⟩ = some (.int .i64 (hz zs (a + 2 + k))) := fun k hk => hc (a + 2 + k) (by omega)
  have t1 : ((a : Int) + 1).toNat = a + 1 := by omega
  have p1 : (a : Int) + 1 < (zs.length : Int) := by omega
  clear hc hn hI
  go_enter Tryz.func106, Tryz.ntmps106
  go_wp2_with (at_make; refine wpList_make_full _ rfl _ _ 22 rfl w.heap.size 5 i0 (.int .u8 0) 1 Tryz.underlying22 hi hz0 hz1 .i64 .i64 _ _ n rfl rfl rfl rfl (by rw [hz2]; omega) (by unfold maxLen; omega) (by simp) ?_; intro w2 hown hgrow)
  rw [madeBytes, ← mixB_zero zs (a + 2)] at hown
  have hc2 : Cells w2 w.heap.size 5 (rowB (mixB zs (a + 2) n 0)) := own_fullB hown
  have hK2 : Kept w w2 := (Below.refl _ _).grown hgrow (Nat.le_refl _) (by simp)
  obtain ⟨g, hg⟩ : ∃ g, w.heap.size = g := ⟨_, rfl⟩
  have hgl : bb < g := by omega
  rw [hg] at hc2 ⊢
  clear hown hgrow h1 t1 p1
  go_wp2_with fail
  go_loopw [15] (fun i wr => ∃ k : Nat, i = .int .i64 k ∧ k ≤ n ∧ Cells wr g 5 (rowB (mixB zs (a + 2) n k)) ∧ Kept w wr) (fun i _ => n - (intOf i).toNat)
  case atStart => exact ⟨0, rfl, Nat.zero_le _, hc2, hK2⟩
  case round =>
    obtain ⟨k, rfl, hk, hrow, hK⟩ := hrel
    clear hc2 hK2
    have HK : Hid (Kept w wr) := hK
    by_cases hlt : k < n
    · have cw2 := (hK.cell (p := ⟨bb, off + (a + 2 + k), none⟩) hbl).trans (hw k hlt)
      have t2 : ((a : Int) + 2 + (k : Int)).toNat = a + 2 + k := by omega
      have p2 : (a : Int) + 2 + (k : Int) < (zs.length : Int) := by have := hbx; omega
      have p0 : (0 : Int) ≤ (a : Int) + 2 + (k : Int) := by omega
      have u8 := IntWalk.u8_in _ (hby k hlt)
      have g0 := (hby k hlt).1
      have g1 := (hby k hlt).2
      have cg := rowB_cell hrow (j := k) (by rw [mixB_len]; exact hlt)
      have fg := hrow.frozen k
      have HR2 : Hid _ := rowB_set hrow k (hz zs (a + 2 + k))
      have q1 : (k : Int) < (n : Int) := by omega
      clear hK hrow
      go_wp2_with fail
      go_roundw
      case rel => exact ⟨k + 1, by go_num, by omega, by rw [← mixB_succ]; exact HR2.out, HK.out.set (p := ⟨g, k, none⟩) (by simp; omega) _⟩
      case measure => simp [intOf]; omega
    · obtain rfl : n = k := by omega
      rw [mixB_all] at hrow
      have hcv := conv_row (cap := n) hrow
      rw [bytesL_len] at hcv
      clear hK hrow
      go_wp2
      go_ret
      exact ⟨rfl, HK.out⟩
end Go.Proofs.YtgnpllpinfhccaaGreatDoor
namespace Go.Proofs.YtgnpllpinfhccaaGreatDoor
open Go.RowKit
attribute [local go_sem] Plain.and7

def linesL (zs order : List Int) (os : List Int) : List Int := os.flatMap (fun a => lineL zs a.toNat order)
theorem linesL_snoc (zs order os : List Int) (a : Int) : linesL zs order (os ++ [a]) = linesL zs order os ++ lineL zs a.toNat order := by simp [linesL]
def picL (zs rs : List Int) : List Int := if rootsR zs rs = true then [114, 111, 111, 116, 115] ++ valsL rs (ordL zs rs) ++ [10] ++ linesL zs (ordL zs rs) (ordL zs rs) else []
theorem headL_len {zs : List Int} {n : Nat} (hb : ∀ z ∈ zs, -9223372036854775808 ≤ z ∧ z ≤ 9223372036854775807) (hh : heapR zs = true) (hk : 1 ≤ kindAt zs (n : Int)) : (headL zs n).length ≤ 50000 := by
  have hlen := (slabOk_iff.1 (heapR_slab hh)).1
  obtain ⟨n', en, hn, hg, esl, b, hbm, hbn⟩ := kind_nat hk
  obtain rfl : n = n' := by omega
  have hblk := heapR_blk hh hbm
  obtain ⟨-, -, -, hbs, hbk, -⟩ := atB_some (atB_mem (heapR_slab hh) hbm)
  rw [hbn] at hblk hbs hbk
  rw [hbs, hbk] at hblk
  have hgl := hg.le
  have hs2 := hg.sz2
  unfold headL
  split
  · rename_i h1
    rw [h1, blk_text] at hblk
    unfold textR at hblk
    simp only [Bool.and_eq_true, decide_eq_true_eq, bytesR_iff] at hblk
    have := byteL_len (a := n) hb (hz zs (n + 1)).toNat (by omega)
    rw [List.length_append]
    simp only [List.length_cons, List.length_nil]
    omega
  · simp
  · simp
  · have := digI_len (n := hz zs (n + 1)) (hb _ (hz_mem (by omega)))
    rw [List.length_append]
    simp only [List.length_cons, List.length_nil]
    omega
  · simp
  · simp
theorem lineL_len {zs order : List Int} {n : Nat} (hb : ∀ z ∈ zs, -9223372036854775808 ≤ z ∧ z ≤ 9223372036854775807) (hh : heapR zs = true) (hk : 1 ≤ kindAt zs (n : Int)) (hol : order.length ≤ 1048576) : (lineL zs n order).length ≤ 100000 := by
  have hlen := (slabOk_iff.1 (heapR_slab hh)).1
  have h1 := headL_len hb hh hk
  obtain ⟨_, hsl, hsp⟩ := leads_slots hh hk
  have hvb := slots_bd hb hsp
  have h2 : (valsL (toldL zs n) order).length ≤ 24 * (toldL zs n).length := valsL_len (fun v hv => by
    unfold toldL at hv
    split at hv
    · exact hvb v (List.mem_of_mem_take hv)
    · exact hvb v hv) hol
  have h3 : (toldL zs n).length ≤ zs.length := by
    unfold toldL
    split
    · rw [List.length_take, slotV_len]; omega
    · rw [slotV_len]; exact hsl
  unfold lineL
  simp only [List.length_append, List.length_cons, List.length_nil]
  omega
theorem linesL_len {zs order : List Int} (hb : ∀ z ∈ zs, -9223372036854775808 ≤ z ∧ z ≤ 9223372036854775807) (hh : heapR zs = true) (hol : order.length ≤ 1048576) : ∀ {os : List Int}, (∀ a ∈ os, 1 ≤ kindAt zs a) → (linesL zs order os).length ≤ 100000 * os.length
  | [], _ => by simp [linesL]
  | a :: os, h => by
    have h1 := linesL_len hb hh hol (os := os) (fun x hx => h x (List.mem_cons_of_mem _ hx))
    obtain ⟨n, e, _⟩ := kind_nat (h a (by simp))
    have h2 := lineL_len (order := order) (n := n) hb hh (by rw [← e]; exact h a (by simp)) hol
    have e2 : linesL zs order (a :: os) = lineL zs a.toNat order ++ linesL zs order os := by simp [linesL]
    rw [e2, List.length_append, List.length_cons, e, Int.toNat_natCast]
    omega
set_option maxHeartbeats 16000000 in
set_option maxRecDepth 100000 in
theorem spec_Picture_ok (w : World) (ao ro : Option Addr) (cap rc : Nat) (zs rs : List Int) (hI : Ints w ao zs) (hl : zs.length ≤ 1048576) (hR : Ints w ro rs) (hrl : rs.length ≤ 1048576) :
    Calls Tryz.prog 12 #[.agg #[.slice ao zs.length cap], .slice ro rs.length rc] w fun e w' => e = .returned (.string (strOfNums (picL zs rs))) ∧ Kept w w' := by
  have b0 := Cells.new w 26 #[.slice ao zs.length cap]
  have k0 : Kept w (w.alloc (.cells #[.slice ao zs.length cap] 26)) := Kept.alloc (Below.refl _ _) _
  have hRo := spec_RootsOk_ok _ ao ro cap rc zs rs (hI.kept k0) hl (hR.kept k0) hrl
  cases hr : rootsR zs rs with
  | false =>
    have HP : Hid (picL zs rs = []) := by simp [Hid, picL, hr]
    rw [hr] at hRo
    clear hr hI hR
    go_enter Tryz.func12, Tryz.ntmps12
    go_wp2_with (go_at_call 36; refine hRo.mono ?_; rintro e w1 ⟨rfl, hk1⟩)
    go_ret
    exact ⟨by rw [HP.out]; rfl, k0.trans hk1⟩
  | true =>
    have hh : heapR zs = true := by
      unfold rootsR at hr
      simp only [Bool.and_eq_true] at hr
      exact hr.1
    have hlen := (slabOk_iff.1 (heapR_slab hh)).1
    have hM := ordL_met hr
    have hol0 := hM.len
    have hOr := fun (u : World) (hu : Kept w u) => l7Order_ok u ao ro cap rc zs rs (hI.kept hu) hl (hR.kept hu) hrl hr
    have HP0 : Hid (picL zs rs = [114, 111, 111, 116, 115] ++ valsL rs (ordL zs rs) ++ [10] ++ linesL zs (ordL zs rs) (ordL zs rs)) := by rw [Hid, picL, if_pos hr]
    obtain ⟨ord, hord⟩ : ∃ ord, ordL zs rs = ord := ⟨_, rfl⟩
    rw [hord] at hM hol0 hOr HP0
    rw [hr] at hRo
    have hol : ord.length ≤ 1048576 := by omega
    have HM : Hid _ := hM
    have HOr : Hid _ := hOr
    have HI : Hid _ := hI
    have HR : Hid _ := hR
    have HH : Hid _ := hh
    clear hr hord hM hOr hI hR hh
    go_enter Tryz.func12, Tryz.ntmps12
    go_wp2_with (first | (go_at_call 36; refine hRo.mono ?_; rintro e w1 ⟨rfl, hk1⟩; have c1 := (b0.kept hk1).cell 0) | (go_at_call 37; refine (HOr.out _ (k0.trans hk1)).mono ?_; rintro e WX ⟨v2, rfl, hO2, hk2⟩; obtain ⟨oo, oc, rfl, hI2⟩ := hO2.ints))
    have HOX : Hid _ := hI2
    have HKX : Hid _ := (k0.trans hk1).trans hk2
    have HbX : Hid _ := (b0.kept hk1).kept hk2
    clear hRo c1 hI2 hO2 hk1 hk2
    go_loopw [6, 7] (fun s i wr => ∃ j : Nat, i = .int .i64 j ∧ j ≤ rs.length ∧ s = .string (strOfNums ([114, 111, 111, 116, 115] ++ valsL (rs.take j) ord)) ∧ Kept WX wr) (fun _ i _ => rs.length - (intOf i).toNat)
    case atStart => exact ⟨0, rfl, Nat.zero_le _, rfl, Below.refl _ _⟩
    case round =>
      obtain ⟨j, rfl, hj, rfl, hKX⟩ := hrel
      have hjl := valsL_len (vs := rs.take j) (order := ord) (fun v hv => HR.out.1 v (List.mem_of_mem_take hv)) hol
      have hjm : (rs.take j).length ≤ 1048576 := by rw [List.length_take]; omega
      have hcl : ([114, 111, 111, 116, 115] ++ valsL (rs.take j) ord).length ≤ 30000000 := by rw [List.length_append]; simp only [List.length_cons, List.length_nil]; omega
      by_cases hlj : j < rs.length
      · have HT : Hid (valsL (rs.take (j + 1)) ord = valsL (rs.take j) ord ++ valL (hz rs j) ord) := by rw [Hid, take_hz hlj, valsL_snoc]
        have hvb := HR.out.1 _ (hz_mem hlj)
        have hvl := valL_len hvb hol
        obtain ⟨b5, o5, e5, hc5⟩ := Ints.at (Ints.kept HR.out (Kept.trans HKX.out hKX)) hlj
        have c5 := hc5 j hlj
        have g1 : (j : Int) < (rs.length : Int) := by omega
        have g2 : (0 : Int) ≤ (j : Int) := by omega
        have hVa := l7Value_ok wr (hz rs j) oo oc ord (Ints.kept HOX.out hKX) hol hvb
        obtain ⟨T, hT⟩ : ∃ T, valL (hz rs j) ord = T := ⟨_, rfl⟩
        obtain ⟨U, hU⟩ : ∃ U, [114, 111, 111, 116, 115] ++ valsL (rs.take j) ord = U := ⟨_, rfl⟩
        have HU : Hid ([114, 111, 111, 116, 115] ++ valsL (rs.take (j + 1)) ord = U ++ T) := by rw [Hid, HT.out, hT, ← List.append_assoc, hU]
        rw [hT] at hvl hVa
        simp only [hU]
        rw [hU] at hcl
        have hsz : ¬ 9223372036854775807 < (strOfNums U).size + (strOfNums T).size := by rw [strOfNums_size, strOfNums_size]; omega
        have HSA : Hid _ := strs_app U T
        have HKw : Hid _ := hKX
        subst e5
        clear hc5 hT hU hKX hjl hvb
        go_wp2_with (go_at_call 38; refine hVa.mono ?_; rintro e w5 ⟨rfl, hk5⟩)
        go_roundw
        case rel => exact ⟨j + 1, by go_num, by omega, by rw [HU.out, ← HSA.out], Kept.trans HKw.out hk5⟩
        case measure => simp [intOf]; omega
      · obtain rfl : j = rs.length := by omega
        have HKw : Hid _ := hKX
        obtain ⟨U, hU⟩ : ∃ U, [114, 111, 111, 116, 115] ++ valsL (rs.take rs.length) ord = U := ⟨_, rfl⟩
        have HPU : Hid (picL zs rs = (U ++ [10]) ++ linesL zs ord ord) := by rw [Hid, HP0.out, ← hU, List.take_length]
        simp only [hU]
        rw [hU] at hcl
        have hsz : ¬ 9223372036854775807 < (strOfNums U).size + (ByteArray.mk #[10]).size := by rw [strOfNums_size]; show ¬ _ < _ + 1; omega
        have HSA : Hid (strOfNums U ++ ByteArray.mk #[10] = strOfNums (U ++ [10])) := strs_app U [10]
        clear hU hKX hjl
        go_wp2_with fail
        go_loopw [6, 8] (fun s i wr => ∃ j : Nat, i = .int .i64 j ∧ j ≤ ord.length ∧ s = .string (strOfNums ((U ++ [10]) ++ linesL zs ord (ord.take j))) ∧ Kept WX wr) (fun _ i _ => ord.length - (intOf i).toNat)
        case atStart => exact ⟨0, rfl, Nat.zero_le _, by show Value.string _ = Value.string (strOfNums ((U ++ [10]) ++ [])); rw [List.append_nil]; exact congrArg Value.string HSA.out, HKw.out⟩
        case round =>
          obtain ⟨j, rfl, hj, rfl, hKX⟩ := hrel
          have hjl := linesL_len (zs := zs) (order := ord) HI.out.1 HH.out hol (os := ord.take j) (fun a ha => HM.out.2 a (List.mem_of_mem_take ha))
          have hjm : (ord.take j).length ≤ 2000 := by rw [List.length_take]; omega
          have hcl2 : ((U ++ [10]) ++ linesL zs ord (ord.take j)).length ≤ 300000000 := by simp only [List.length_append, List.length_cons, List.length_nil]; omega
          by_cases hlj : j < ord.length
          · have hka := HM.out.2 _ (hz_mem hlj)
            obtain ⟨n, en, hn, _⟩ := kind_nat hka
            rw [en] at hka
            have HT : Hid (linesL zs ord (ord.take (j + 1)) = linesL zs ord (ord.take j) ++ lineL zs n ord) := by rw [Hid, take_hz hlj, linesL_snoc, en, Int.toNat_natCast]
            have hvl := lineL_len (order := ord) HI.out.1 HH.out hka hol
            obtain ⟨b5, o5, e5, hc5⟩ := Ints.at (Ints.kept HOX.out hKX) hlj
            have c5 := hc5 j hlj
            rw [en] at c5
            have l5 : b5 < wr.heap.size := World.block_lt_of_cell? _ _ c5
            have g1 : (j : Int) < (ord.length : Int) := by omega
            have g2 : (0 : Int) ≤ (j : Int) := by omega
            have kd7 : ∀ u, Kept wr.drew u → Kept wr u := fun u hu => Kept.trans (Below.refl _ wr).drew hu
            have y0 : ∀ u, Kept wr.drew u → u.cell? ⟨w.heap.size, 0, none⟩ = some (.slice ao zs.length cap) := fun u hu => (Cells.kept HbX.out (Kept.trans hKX (kd7 u hu))).cell 0
            have y1 : ∀ u, Kept wr.drew u → u.cell? ⟨b5, o5 + j, none⟩ = some (.int .i64 (n : Int)) := fun u hu => ((kd7 u hu).cell (p := ⟨b5, o5 + j, none⟩) l5).trans c5
            obtain ⟨T, hT⟩ : ∃ T, lineL zs n ord = T := ⟨_, rfl⟩
            obtain ⟨V, hV⟩ : ∃ V, (U ++ [10]) ++ linesL zs ord (ord.take j) = V := ⟨_, rfl⟩
            subst e5
            have C1 : Hid (∀ u, Kept wr.drew u → Calls Tryz.prog 39 #[.agg #[.slice ao zs.length cap], .int .i64 (n : Int), .slice (some ⟨b5, o5, none⟩) ord.length oc] u fun e w' => e = .returned (.string (strOfNums T)) ∧ Kept u w') := fun u hu => by have := l7Line_ok u ao (some ⟨b5, o5, none⟩) cap oc zs ord n (Ints.kept HI.out (Kept.trans HKX.out (Kept.trans hKX (kd7 u hu)))) (Ints.kept HOX.out (Kept.trans hKX (kd7 u hu))) hol HH.out hka; rw [hT] at this; exact this
            have HU : Hid ((U ++ [10]) ++ linesL zs ord (ord.take (j + 1)) = V ++ T) := by rw [Hid, HT.out, hT, ← List.append_assoc, hV]
            rw [hT] at hvl
            simp only [hV]
            rw [hV] at hcl2
            have hsz2 : ¬ 9223372036854775807 < (strOfNums V).size + (strOfNums T).size := by rw [strOfNums_size, strOfNums_size]; omega
            have HSB : Hid _ := strs_app V T
            have HKw2 : Hid _ := hKX
            clear hc5 c5 hT hV hKX hjl en hka
            go_wp2_with fail
            refine wp_region_seqL (by kernel_rfl) (by kernel_rfl) ?_
            repeat (first
              | (refine SeqL.skip (by rfl) ?_; simp only [Act.put, List.setIfInBounds_toArray, List.set_cons_zero, List.set_cons_succ])
              | (refine SeqL.pure ?_ (by rfl) ?_ ?_; rotate_left; (focus (intro u hu; have y0' := y0 u hu; have y1' := y1 u hu; go_simp; first | done | exact rfl)); simp only [Act.put, List.setIfInBounds_toArray, List.set_cons_zero, List.set_cons_succ])
              | (refine SeqL.call _ _ _ (by rfl) ?_ C1.out ?_; (focus (intro u; go_simp; done)); simp only [Act.put, List.setIfInBounds_toArray, List.set_cons_zero, List.set_cons_succ]))
            refine SeqL.nil ?_
            intro w5 hu5
            have K5 := Kept.trans HKw2.out (kd7 w5 hu5)
            clear y0 y1 C1 kd7
            go_wp2_with fail
            go_roundw
            case rel => exact ⟨j + 1, by go_num, by omega, by rw [HU.out, ← HSB.out], K5⟩
            case measure => simp [intOf]; omega
          · obtain rfl : j = ord.length := by omega
            have HKw2 : Hid _ := hKX
            have HPV : Hid (picL zs rs = (U ++ [10]) ++ linesL zs ord (ord.take ord.length)) := by rw [Hid, HPU.out, List.take_length]
            clear hKX hjl
            go_wp2_with fail
            go_ret
            refine ⟨?_, Kept.trans HKX.out HKw2.out⟩
            rw [HPV.out]
            rfl
theorem str_empty (xs : List Int) : (strOfNums xs).toList.isEmpty = xs.isEmpty := by
  rw [ByteArray.toList_eq, strOfNums_data]
  cases xs <;> rfl
def sightR (xs one ys two : List Int) : Bool := rootsR xs one && (strOfNums (picL xs one) == strOfNums (picL ys two))
set_option maxHeartbeats 8000000 in
set_option maxRecDepth 100000 in
theorem spec_SameSight_ok (w : World) (ao bo ro so : Option Addr) (ca cb cr cs : Nat) (xs one ys two : List Int) (hA : Ints w ao xs) (hB : Ints w bo ys) (hR : Ints w ro one) (hS : Ints w so two) (hl : xs.length ≤ 1048576) (hm : ys.length ≤ 1048576) (h1 : one.length ≤ 1048576) (h2 : two.length ≤ 1048576) :
    Calls Tryz.prog 9 #[.agg #[.slice ao xs.length ca], .slice ro one.length cr, .agg #[.slice bo ys.length cb], .slice so two.length cs] w fun e w' => e = .returned (.bool (sightR xs one ys two)) ∧ Kept w w' := by
  have b0 := (Cells.new w 26 #[.slice ao xs.length ca]).alloc (.cells #[.slice bo ys.length cb] 26)
  have b1 := Cells.new (w.alloc (.cells #[.slice ao xs.length ca] 26)) 26 #[.slice bo ys.length cb]
  have k0 : Kept w ((w.alloc (.cells #[.slice ao xs.length ca] 26)).alloc (.cells #[.slice bo ys.length cb] 26)) := (Kept.alloc (Below.refl _ _) _).alloc _
  simp only [World.size_alloc] at b1
  have c0 := b0.cell 0
  have hP := spec_Picture_ok _ ao ro ca cr xs one (hA.kept k0) hl (hR.kept k0) h1
  have HQ : Hid _ := fun (u : World) (hu : Kept w u) => spec_Picture_ok u bo so cb cs ys two (hB.kept hu) hm (hS.kept hu) h2
  cases hr : rootsR xs one with
  | false =>
    have HE : Hid (sightR xs one ys two = false) := by simp [Hid, sightR, hr]
    have e0 : picL xs one = [] := by simp [picL, hr]
    rw [e0] at hP
    have n1 : (strOfNums []).toList.isEmpty = true := str_empty []
    clear hr e0 hA hB hR hS
    go_enter Tryz.func9, Tryz.ntmps9
    clear HQ
    go_wp2_with fail
    refine hP.mono ?_
    rintro e w1 ⟨rfl, hk1⟩
    go_wp2_with fail
    go_ret
    exact ⟨by rw [HE.out]; rfl, k0.trans hk1⟩
  | true =>
    obtain ⟨P, hPe⟩ : ∃ P, strOfNums (picL xs one) = P := ⟨_, rfl⟩
    obtain ⟨Q, hQe⟩ : ∃ Q, strOfNums (picL ys two) = Q := ⟨_, rfl⟩
    have HE : Hid (sightR xs one ys two = (P == Q)) := by simp [Hid, sightR, hr, hPe, hQe]
    have n1 : P.toList.isEmpty = false := by rw [← hPe, str_empty, picL, if_pos hr]; rfl
    rw [hPe] at hP
    rw [hQe] at HQ
    obtain ⟨r, hrr⟩ : ∃ r, (P == Q) = r := ⟨_, rfl⟩
    have e2 : (P.toList == Q.toList) = r := by rw [← beq_toListBytes]; exact hrr
    rw [hrr] at HE
    clear hr hPe hQe hA hB hR hS
    go_enter Tryz.func9, Tryz.ntmps9
    go_wp2_with fail
    refine hP.mono ?_
    rintro e w1 ⟨rfl, hk1⟩
    have c1 := (b1.kept hk1).cell 0
    have hQ := HQ.out _ (k0.trans hk1)
    clear hP HQ c0
    go_wp2_with fail
    refine hQ.mono ?_
    rintro e w2 ⟨rfl, hk2⟩
    go_wp2_with fail
    go_ret
    exact ⟨by rw [HE.out]; rfl, (k0.trans hk1).trans hk2⟩
end Go.Proofs.YtgnpllpinfhccaaGreatDoor
namespace Go.Proofs.YtgnpllpinfhccaaGreatDoor
open Go.RowKit Go.Maps
attribute [local go_sem] Plain.and7

theorem byteN_nums {xs : List Int} {i : Nat} (h : i < xs.length) (hb : 0 ≤ xs.getD i 0 ∧ xs.getD i 0 ≤ 255) : byteN (strOfNums xs) i = xs.getD i 0 := by
  unfold byteN strOfNums
  rw [Array.getD_eq_getD_getElem?, List.getElem?_toArray, List.getElem?_map]
  have e : xs[i]? = some (xs.getD i 0) := by rw [List.getD_eq_getElem?_getD, List.getElem?_eq_getElem h]; rfl
  rw [e]
  simp only [Option.map_some, Option.getD_some]
  rw [UInt8.toNat_ofNat']
  omega
theorem bytesV_is {zs : List Int} {a n : Nat} (hby : ∀ k, k < n → 0 ≤ hz zs (a + 2 + k) ∧ hz zs (a + 2 + k) ≤ 255) : ∀ k, k ≤ n → bytesV (strOfNums (bytesL zs (a + 2) n)) k = byteL zs a k
  | 0, _ => rfl
  | k + 1, hk => by
    have hkn : k < n := by omega
    rw [bytesV_succ, bytesV_is hby k (by omega)]
    show _ = byteL zs a k ++ ([32] ++ digI (hz zs (a + 2 + k)))
    have e := bytesL_at (zs := zs) (f := a + 2) hkn
    rw [byteN_nums (by rw [bytesL_len]; exact hkn) (by rw [e]; exact hby k hkn), e]
set_option maxHeartbeats 8000000 in
set_option maxRecDepth 100000 in
theorem headAt_ok (w : World) (ao : Option Addr) (cap : Nat) (zs : List Int) (n : Nat) (hI : Ints w ao zs) (hT : Tab w) (hh : heapR zs = true) (hk : 1 ≤ kindAt zs (n : Int)) :
    Calls Tryz.prog 58 #[.slice ao zs.length cap, .int .i64 (n : Int)] w fun e w' => e = .returned (.string (strOfNums (headL zs n))) ∧ Kept w w' := by
  have hlen := (slabOk_iff.1 (heapR_slab hh)).1
  have hl : zs.length ≤ 1048576 := by omega
  have hL : zs.length * 8 ≤ 140737488351232 := by omega
  obtain ⟨n', en, hn, hg, esl, b, hbm, hbn⟩ := kind_nat hk
  obtain rfl : n = n' := by omega
  have hkd : (kd zs n : Int) = kindAt zs (n : Int) := by
    have h1 := atB_mem (heapR_slab hh) hbm
    obtain ⟨_, _, _, _, h2, _⟩ := atB_some h1
    rw [hbn] at h1 h2
    unfold kindAt
    rw [h1]
    show (kd zs n : Int) = ((b.1.kind : Nat) : Int)
    rw [h2]
  obtain ⟨-, -, -, hbs, hbk, -⟩ := atB_some (atB_mem (heapR_slab hh) hbm)
  rw [hbn] at hbs hbk
  have HTX : Hid (kd zs n = 1 → ∃ m : Nat, hz zs (n + 1) = (m : Int) ∧ n + 2 + m ≤ zs.length ∧ ∀ i, i < m → 0 ≤ hz zs (n + 2 + i) ∧ hz zs (n + 2 + i) ≤ 255) := fun h1 => by
    have := text_facts hh hbm (by rw [hbk]; exact h1)
    rw [hbn] at this
    obtain ⟨m, e1, e2, e3⟩ := this
    have := hg.le
    exact ⟨m, e1, by omega, e3⟩
  have hgl := hg.le
  have hs2 := hg.sz2
  have hk5 := hg.kd5
  have HHD : Hid (headL zs n = match kd zs n with
    | 1 => [116, 101, 120, 116] ++ byteL zs n (hz zs (n + 1)).toNat
    | 2 => [111, 98, 106]
    | 3 => [99, 101, 108, 108]
    | 4 => [102, 117, 110, 32] ++ digI (hz zs (n + 1))
    | 5 => [115, 99, 111, 112, 101]
    | _ => []) := rfl
  have hRB := readBlock_good w ao cap zs n hI hg hL
  have HI : Hid (Ints w ao zs) := hI
  have HT : Hid (Tab w) := hT
  obtain ⟨S, hS⟩ : ∃ S, sz zs n = S := ⟨_, rfl⟩
  obtain ⟨K, hK⟩ : ∃ K, kd zs n = K := ⟨_, rfl⟩
  rw [hK] at hRB HHD hk5 hkd HTX
  rw [hS] at hRB
  have hK1 : 1 ≤ K := by omega
  have hn1 : n + 1 < zs.length := by omega
  clear hK hS hkd hbs hbk hbm hbn en hk hg hgl hs2 hI hT b
  rcases (show K = 1 ∨ K = 2 ∨ K = 3 ∨ K = 4 ∨ K = 5 by omega) with rfl | rfl | rfl | rfl | rfl
  · obtain ⟨m, e1, e2, e3⟩ := HTX.out rfl
    have HRT : Hid _ := fun (u : World) (hu : Kept w u) => readText_ok u ao cap zs n m (Ints.kept HI.out hu) hl e1 e2 e3
    have HE : Hid ([116, 101, 120, 116] ++ bytesV (strOfNums (bytesL zs (n + 2) m)) (strOfNums (bytesL zs (n + 2) m)).size = headL zs n) := by
      rw [Hid, HHD.out, strOfNums_size, bytesL_len, bytesV_is e3 m (Nat.le_refl _), show (hz zs (n + 1)).toNat = m by omega]
      rfl
    have HTH : Hid (∀ u, Kept w u → Calls Tryz.prog 105 #[.string (strOfNums (bytesL zs (n + 2) m))] u fun e w' => e = .returned (.string (strOfNums (headL zs n))) ∧ Kept u w') := fun u hu => by
      have := textHead_ok u (strOfNums (bytesL zs (n + 2) m)) (HT.out.kept hu) (by rw [strOfNums_size, bytesL_len]; omega)
      rw [HE.out] at this
      exact this
    clear e1 e2 e3
    go_enter Tryz.func58, Tryz.ntmps58
    go_wp2_with (first | (go_at_call 56; refine hRB.mono ?_; rintro e w1 ⟨rfl, hk1⟩; have k1 : Kept w (w1.alloc (.cells (bkC n S (1 : Nat)) 81)) := hk1.alloc _; have c1 := (Cells.new w1 81 (bkC n S (1 : Nat))).cell 2) | (go_at_call 106; refine (HRT.out _ k1).mono ?_; rintro e w2 ⟨rfl, hk2⟩; have k2 := k1.trans hk2) | (go_at_call 105; refine (HTH.out _ k2).mono ?_; rintro e w3 ⟨rfl, hk3⟩))
    go_ret
    exact ⟨rfl, k2.trans hk3⟩
  · go_enter Tryz.func58, Tryz.ntmps58
    go_wp2_with (first | (go_at_call 56; refine hRB.mono ?_; rintro e w1 ⟨rfl, hk1⟩; have k1 : Kept w (w1.alloc (.cells (bkC n S (2 : Nat)) 81)) := hk1.alloc _; have c1 := (Cells.new w1 81 (bkC n S (2 : Nat))).cell 2))
    go_ret
    exact ⟨by rw [HHD.out]; rfl, k1⟩
  · go_enter Tryz.func58, Tryz.ntmps58
    go_wp2_with (first | (go_at_call 56; refine hRB.mono ?_; rintro e w1 ⟨rfl, hk1⟩; have k1 : Kept w (w1.alloc (.cells (bkC n S (3 : Nat)) 81)) := hk1.alloc _; have c1 := (Cells.new w1 81 (bkC n S (3 : Nat))).cell 2))
    go_ret
    exact ⟨by rw [HHD.out]; rfl, k1⟩
  · obtain ⟨bb, oo, ea, hca⟩ := HI.out.at hn1
    subst ea
    have cn := hca (n + 1) hn1
    have lb : bb < w.heap.size := World.block_lt_of_cell? _ _ cn
    have hzb := HI.out.1 _ (hz_mem hn1)
    have hIt := fun (u : World) (hu : Kept w u) => Itoa_ok (hz zs (n + 1)) hzb u (HT.out.kept hu)
    have hdl := digI_len (n := hz zs (n + 1)) hzb
    obtain ⟨x, hx⟩ : ∃ x, hz zs (n + 1) = x := ⟨_, rfl⟩
    rw [hx] at cn hIt hdl HHD
    obtain ⟨ds, hds⟩ : ∃ ds, digI x = ds := ⟨_, rfl⟩
    rw [hds] at hIt hdl HHD
    have HE : Hid (strOfNums (headL zs n) = ByteArray.mk #[102, 117, 110, 32] ++ strOfNums ds) := by
      rw [Hid, HHD.out]
      exact (strs_app [102, 117, 110, 32] ds).symm
    have hsz : ¬ 9223372036854775807 < (ByteArray.mk #[102, 117, 110, 32]).size + (strOfNums ds).size := by rw [strOfNums_size]; show ¬ _ < 4 + _; omega
    have q1 : (n : Int) + 1 < (zs.length : Int) := by omega
    have q0 : (0 : Int) ≤ (n : Int) + 1 := by omega
    have t1 : ((n : Int) + 1).toNat = n + 1 := by omega
    have wr1 : IntKind.i64.wrap ((n : Int) + 1) = (n : Int) + 1 := by rw [IntWalk.i64_left, IntWalk.wrap64_in _ (by omega)]
    clear hca hx hds hzb
    go_enter Tryz.func58, Tryz.ntmps58
    go_wp2_with (first | (go_at_call 56; refine hRB.mono ?_; rintro e w1 ⟨rfl, hk1⟩; have k1 : Kept w (w1.alloc (.cells (bkC n S (4 : Nat)) 81)) := hk1.alloc _; have c1 := (Cells.new w1 81 (bkC n S (4 : Nat))).cell 2; have cn1 := (hk1.cell (p := ⟨bb, oo + (n + 1), none⟩) lb).trans cn; have lb1 : bb < w1.heap.size := Nat.lt_of_lt_of_le lb hk1.size) | (go_at_call 99; refine (hIt _ k1).mono ?_; rintro e w2 ⟨rfl, hk2⟩))
    go_ret
    exact ⟨by rw [HE.out]; rfl, k1.trans hk2⟩
  · go_enter Tryz.func58, Tryz.ntmps58
    go_wp2_with (first | (go_at_call 56; refine hRB.mono ?_; rintro e w1 ⟨rfl, hk1⟩; have k1 : Kept w (w1.alloc (.cells (bkC n S (5 : Nat)) 81)) := hk1.alloc _; have c1 := (Cells.new w1 81 (bkC n S (5 : Nat))).cell 2))
    go_ret
    exact ⟨by rw [HHD.out]; rfl, k1⟩
theorem OwnL.full {W : World} {base : Nat} {v : Value} {l : List Int} (h : OwnL W base v l) : ∃ so sc, v = .slice so l.length sc ∧ Ints W so l ∧ l.length ≤ sc ∧ sc ≤ maxLen := by
  obtain ⟨so, sc, rfl, hI⟩ := h.ints
  rcases h.2.2 with ⟨e, h0⟩ | ⟨g, cap, cur, e, _, _, h1, h2, _⟩
  · injection e with e1 e2 e3
    exact ⟨so, sc, rfl, hI, by omega, by unfold maxLen; omega⟩
  · injection e with e1 e2 e3
    exact ⟨so, sc, rfl, hI, by omega, by omega⟩
theorem Ints.take {W : World} {so : Option Addr} {l : List Int} (h : Ints W so l) (k : Nat) : Ints W so (l.take k) := by
  refine ⟨fun z hz => h.1 z (List.mem_of_mem_take hz), ?_⟩
  rcases h.2 with h | ⟨b, off, rfl, hc⟩
  · exact .inl (by rw [h]; simp)
  · refine .inr ⟨b, off, rfl, fun j hj => ?_⟩
    rw [List.length_take] at hj
    rw [hc j (by omega)]
    congr 2
    unfold hz
    rw [List.getElem?_take_of_lt (by omega)]
set_option maxHeartbeats 8000000 in
set_option maxRecDepth 100000 in
theorem blockLine_ok (w : World) (b : Nat) (out : List Int) (ao : Option Addr) (cap : Nat) (zs : List Int) (n : Nat) (hI : Ints w ao zs) (hT : Tab w) (hN : NumMap w b out) (hol : out.length ≤ 1048576) (hh : heapR zs = true) (hk : 1 ≤ kindAt zs (n : Int)) (hin : ∀ v ∈ slotV zs (n : Int), ¬ v % 8 < 4 → v / 8 ∈ out) :
    Calls Tryz.prog 34 #[.map (some b), .slice ao zs.length cap, .int .i64 (n : Int)] w fun e w' => e = .returned (.string (strOfNums (lineL zs n out))) ∧ Kept w w' := by
  have hlen := (slabOk_iff.1 (heapR_slab hh)).1
  have hl : zs.length ≤ 1048576 := by omega
  have hL : zs.length * 8 ≤ 140737488351232 := by omega
  obtain ⟨n', en, hn, hg, esl, bq, hbm, hbn⟩ := kind_nat hk
  obtain rfl : n = n' := by omega
  have hsl := (leads_slots hh hk).2.1
  have hk5 := hg.kd5
  have HHL : Hid ((headL zs n).length ≤ 100000000) := by have := headL_len hI.1 hh hk; rw [Hid]; omega
  have hVA := valuesAt_ok w ao cap zs n hI hl hh hk
  have HRB : Hid (∀ u, Kept w u → Calls Tryz.prog 56 #[.slice ao zs.length cap, .int .i64 (n : Int)] u fun e w' => e = .returned (.tuple #[bkV n (sz zs n) (kd zs n), .bool true]) ∧ Kept u w') := fun u hu => readBlock_good u ao cap zs n (hI.kept hu) hg hL
  have HHA : Hid (∀ u, Kept w u → Calls Tryz.prog 58 #[.slice ao zs.length cap, .int .i64 (n : Int)] u fun e w' => e = .returned (.string (strOfNums (headL zs n))) ∧ Kept u w') := fun u hu => headAt_ok u ao cap zs n (hI.kept hu) (hT.kept hu) hh hk
  have HLN : Hid (∀ (u : World) (va : Option Addr) (vc : Nat) (vs : List Int), Kept w u → Ints u va vs → vs.length ≤ 1048576 → (∀ v ∈ vs, v ∈ slotV zs (n : Int)) → Calls Tryz.prog 32 #[.map (some b), .string (strOfNums (headL zs n)), .slice va vs.length vc] u fun e w' => e = .returned (.string (strOfNums (headL zs n ++ valsL vs out ++ [10]))) ∧ Kept u w') := fun u va vc vs hu hv hvl hm => line_ok u b out (headL zs n) va vc vs (hT.kept hu) (hN.kept hu.grown (by simp)) hol hv hvl (fun v hv => hin v (hm v hv)) HHL.out
  have HLD : Hid (lineL zs n out = headL zs n ++ valsL (toldL zs n) out ++ [10]) := rfl
  have HTD : Hid (toldL zs n = if kd zs n = 5 then (slotV zs (n : Int)).take (cutN (slotV zs (n : Int)) (slotV zs (n : Int)).length) else slotV zs (n : Int)) := rfl
  have hvl : (slotV zs (n : Int)).length ≤ 1048576 := by rw [slotV_len]; omega
  obtain ⟨sv, hsv⟩ : ∃ sv, slotV zs (n : Int) = sv := ⟨_, rfl⟩
  rw [hsv] at hVA HTD hvl HLN
  obtain ⟨S, hS⟩ : ∃ S, sz zs n = S := ⟨_, rfl⟩
  obtain ⟨K, hK⟩ : ∃ K, kd zs n = K := ⟨_, rfl⟩
  obtain ⟨hd, hhd⟩ : ∃ hd, headL zs n = hd := ⟨_, rfl⟩
  rw [hK] at HRB HTD hk5
  rw [hS] at HRB
  rw [hhd] at HHA HLN HLD
  clear hsv hS hK hhd hg esl hbm hbn en hk hh hI hT hN hin HHL bq
  by_cases h5 : K = 5
  · subst h5
    have HTK : Hid (toldL zs n = sv.take (cutN sv sv.length)) := by rw [Hid, HTD.out, if_pos rfl]
    have hcl := cutN_le sv sv.length
    have HCL : Hid ((sv.take (cutN sv sv.length)).length = cutN sv sv.length) := by rw [Hid, List.length_take]; omega
    go_enter Tryz.func34, Tryz.ntmps34
    go_wp2_with (first | (go_at_call 52; refine hVA.mono ?_; rintro e w1 ⟨v1, rfl, hO1, hk1⟩; obtain ⟨so, sc, rfl, hI1, hsc1, hsc2⟩ := hO1.full) | (go_at_call 56; refine (HRB.out _ hk1).mono ?_; rintro e w2 ⟨rfl, hk2⟩; have kb : Kept w2 (w2.alloc (.cells (bkC n S (5 : Nat)) 81)) := Kept.alloc (Below.refl _ _) _; have k2 := (hk1.trans hk2).trans kb; have c2 := (Cells.new w2 81 (bkC n S (5 : Nat))).cell 2; have hI2 := (hI1.kept hk2).kept kb; have hWL := withoutLast_ok _ so sc sv hI2 hsc1 hsc2) | (go_at_call 57; refine hWL.mono ?_; rintro e w3 ⟨rfl, rfl⟩) | (go_at_call 58; refine (HHA.out _ k2).mono ?_; rintro e w4 ⟨rfl, hk4⟩; have hLi := HLN.out w4 so sc (sv.take (cutN sv sv.length)) (k2.trans hk4) ((hI2.kept hk4).take _) (by rw [HCL.out]; omega) (fun v hv => List.mem_of_mem_take hv); rw [HCL.out] at hLi) | (go_at_call 32; refine hLi.mono ?_; rintro e w5 ⟨rfl, hk5⟩))
    go_ret
    exact ⟨by rw [HLD.out, HTK.out, List.append_assoc]; rfl, (k2.trans hk4).trans hk5⟩
  · have HTK : Hid (toldL zs n = sv) := by rw [Hid, HTD.out, if_neg h5]
    have hd5 : ((K : Int) == 5) = false := by simp; omega
    clear h5
    go_enter Tryz.func34, Tryz.ntmps34
    go_wp2_with (first | (go_at_call 52; refine hVA.mono ?_; rintro e w1 ⟨v1, rfl, hO1, hk1⟩; obtain ⟨so, sc, rfl, hI1, hsc1, hsc2⟩ := hO1.full) | (go_at_call 56; refine (HRB.out _ hk1).mono ?_; rintro e w2 ⟨rfl, hk2⟩; have kb : Kept w2 (w2.alloc (.cells (bkC n S K) 81)) := Kept.alloc (Below.refl _ _) _; have k2 := (hk1.trans hk2).trans kb; have c2 := (Cells.new w2 81 (bkC n S K)).cell 2; have hI2 := (hI1.kept hk2).kept kb) | (go_at_call 58; refine (HHA.out _ k2).mono ?_; rintro e w4 ⟨rfl, hk4⟩; have hLi := HLN.out w4 so sc sv (k2.trans hk4) (hI2.kept hk4) hvl (fun v hv => hv)) | (go_at_call 32; refine hLi.mono ?_; rintro e w5 ⟨rfl, hk5⟩))
    go_ret
    exact ⟨by rw [HLD.out, HTK.out, List.append_assoc]; rfl, (k2.trans hk4).trans hk5⟩
def Placed (out : List Int) (left : Lit → Bool) (ys : List Int) : Prop := ys.length = out.length ∧ ∀ (k : Nat) (a : Int), out[k]? = some a → left (.int .i64 a) = false → ys[k]? = some a
theorem Placed.start {D : DataW Unit} {out : List Int} (h : NumIs D out) {ys : List Int} (hy : ys.length = out.length) : Placed out (Maps.has D) ys := ⟨hy, fun k a ha hl => by
  rw [h.has] at hl
  have := List.mem_of_getElem? ha
  simp [this] at hl⟩
theorem Placed.step {out ys : List Int} {left : Lit → Bool} (h : Placed out left ys) (hd : out.Nodup) {x : Int} {k : Nat} (hk : out[k]? = some x) : Placed out (fun z => left z && !z.sameKey (.int .i64 x)) (ys.set k x) := by
  refine ⟨by rw [List.length_set]; exact h.1, fun j a ha hl => ?_⟩
  have hkl := (List.getElem?_eq_some_iff.1 hk).1
  have hjl := (List.getElem?_eq_some_iff.1 ha).1
  rw [List.getElem?_set]
  by_cases e : k = j
  · subst e
    rw [hk] at ha
    cases ha
    rw [if_pos rfl, if_pos (by rw [h.1]; exact hkl)]
  · rw [if_neg e]
    refine h.2 j a ha ?_
    have hne : a ≠ x := by
      intro e2
      subst e2
      rcases Nat.lt_or_gt_of_ne e with hlt | hlt
      · exact nodup_at hd hlt hk ha
      · exact nodup_at hd hlt ha hk
    simp only [sameN_key, Bool.and_eq_false_iff, Bool.not_eq_false', decide_eq_true_eq] at hl
    rcases hl with hl | hl
    · exact hl
    · exact absurd hl hne
theorem Placed.ends {out ys : List Int} {left : Lit → Bool} (h : Placed out left ys) (hl : ∀ kl, left kl = false) : ys = out := by
  apply List.ext_getElem?
  intro j
  rcases Nat.lt_or_ge j out.length with hj | hj
  · rw [List.getElem?_eq_getElem hj]
    exact h.2 j _ (List.getElem?_eq_getElem hj) (hl _)
  · rw [List.getElem?_eq_none hj, List.getElem?_eq_none (by rw [h.1]; exact hj)]
theorem NumIs.met7 {D : DataW Unit} {out : List Int} (h : NumIs D out) {x c : Int} (hat : ∀ zd, D.atKey (.int .i64 x) zd = .lit (.int .i64 c)) : ∃ k : Nat, c = k ∧ out[k]? = some x := by
  have hh := has_true_of_atKey hat
  rw [h.has] at hh
  have hx : x ∈ out := by simpa using hh
  obtain ⟨k, hk, e⟩ := List.getElem_of_mem hx
  have hs : out[k]? = some x := by rw [List.getElem?_eq_getElem hk, e]
  refine ⟨k, ?_, hs⟩
  have := h.val k x hs (.map [])
  rw [hat] at this
  injection this with this
  injection this
set_option maxHeartbeats 8000000 in
set_option maxRecDepth 100000 in
theorem inOrder_ok (w : World) (b : Nat) (out : List Int) (hol : out.length ≤ 1048576) (hob : ∀ a ∈ out, -9223372036854775808 ≤ a ∧ a ≤ 9223372036854775807) (hN : NumMap w b out) :
    Calls Tryz.prog 33 #[.map (some b)] w fun e w' => e = .returned (.slice (some ⟨w.heap.size, 0, none⟩) out.length out.length) ∧ Row w' w.heap.size out ∧ Kept w w' := by
  obtain ⟨i0, hi, hz0, hz1, hz2⟩ := info_parts infoI
  obtain ⟨n, D, hown, hD, hn⟩ := hN
  have hbw := hown.lt
  have HDS : Hid (Maps.size D = out.length) := hD.size
  go_enter Tryz.func33, Tryz.ntmps33
  go_wp2_with (first
    | (at_len; refine wpList_len_own _ rfl _ 51 rfl 3 3 Tryz.underlying51 _ b n _ rfl hown ?_; rw [HDS.out])
    | (at_make; refine wpList_make_full _ rfl _ _ 24 rfl w.heap.size 3 i0 (.int .i64 0) 1 Tryz.underlying24 hi hz0 hz1 .i64 .i64 _ _ out.length rfl rfl rfl rfl (by rw [hz2]; omega) (by unfold maxLen; omega) (Nat.le_refl _) ?_; intro w1 hown1 hgrow)
    | (at_range; refine wpList_range_own _ rfl _ 51 rfl 3 3 lawN Tryz.underlying51 _ b n _ rfl (hown.kept hgrow (by simp)) ?_; intro w0 hrg0 hg0 hs0)
    | go_in)
  go_frame
  rw [madeInts] at hown1
  have hR := (Row.of_owns hown1 (by simp)).1
  have hK1 : Kept w w1 := (Below.refl _ w).grown hgrow (Nat.le_refl _) (by simp)
  have hK0 : Kept w w0 := (Below.refl _ w).grown (hgrow.andThen hg0 (by simp)) (Nat.le_refl _) (by simp)
  have hgw := hR.lt
  have hR0 : Row w0 w.heap.size (List.replicate out.length 0) := hR.grown hg0 (by simp)
  clear hown1 hgrow hR hown hg0 hs0
  go_loopw [4] (fun _ wr => ∃ (left : Lit → Bool) (cnt : Nat) (ys : List Int), wr.ranges Tryz.prog 3 (plainElem Tryz.prog 3) b w1.heap.size n D left cnt ∧ Placed out left ys ∧ Row wr w.heap.size ys ∧ Kept w wr)
    (fun _ wr => wr.rangeLeft b w1.heap.size)
  case atStart => exact ⟨_, _, _, hrg0, Placed.start hD (by simp), hR0, hK0⟩
  case round =>
    obtain ⟨left, cnt, ys, hrg, hP, hRk, hK⟩ := hrel
    clear hrg0 hR0 hK0
    go_wp2_with (first
      | (at_next; refine wpList_next_ranges_ii _ rfl _ rfl 3 3 .i64 .i64 lawN Tryz.underlying3 Tryz.underlying3 b w1.heap.size n _ _ _ rfl hrg ?_ ?_)
      | go_in)
    · intro _ hl0
      have HE : Hid (ys = out) := hP.ends hl0
      clear hl0 hP
      go_wp2
      go_ret
      exact ⟨rfl, by rw [← HE.out]; exact hRk, hK⟩
    · intro x c w2 cnt1 hwx hwc hlx hat hrg1 hlt hg1 hs1 hen
      obtain ⟨k, rfl, hkx⟩ := hD.met7 hat
      have hkl := (List.getElem?_eq_some_iff.1 hkx).1
      have HP : Hid (Placed out (fun z => left z && !z.sameKey (.int .i64 x)) (ys.set k x)) := hP.step hD.nodup hkx
      have hxb := hob x (List.mem_of_getElem? hkx)
      have hyl := hP.1
      have hR2 : Row w2 w.heap.size ys := hRk.grown hg1 (by intro e; injection e with e; omega)
      have hK2 : Kept w w2 := Kept.grownRow hK hg1 (fun j hj => by cases hj; omega)
      have hcg := hR2.cell (j := k) (by omega)
      have hfg := hR2.frozen k
      have HR : Hid _ := hR2.set (k := k) (v := x) (by omega) hxb
      have HK : Hid (Kept w _) := hK2.setCell (p := ⟨w.heap.size, k, none⟩) (Nat.le_refl _) (.int .i64 x)
      have HG : Hid _ := grown_set (g := w.heap.size) (k := k) (World.grownBy.self w2 (some w.heap.size)) (.int .i64 x)
      have q1 : (k : Int) < (out.length : Int) := by omega
      have q0 : (0 : Int) ≤ (k : Int) := by omega
      have hrg2 := hrg1.kept HG.out (by intro e; injection e with e; omega) (by intro e; injection e with e; omega)
      clear hat hkx hP hRk hK hs1 hR2 hK2
      go_wp2
      go_roundw
      case rel => exact ⟨_, cnt1, ys.set k x, hrg2, HP.out, HR.out, HK.out⟩
      case measure => rw [hrg2.left_eq, hrg.left_eq]; exact hlt
end Go.Proofs.YtgnpllpinfhccaaGreatDoor
namespace Go.Proofs.YtgnpllpinfhccaaGreatDoor
open Go.RowKit Go.Maps
attribute [local go_sem] Plain.and7

theorem NumMap.block {w w' : World} {b : Nat} {out : List Int} (h : NumMap w b out) (e : w'.heap[b]? = w.heap[b]?) : NumMap w' b out := by
  obtain ⟨n, D, ⟨es, clock, hb, rest⟩, h2⟩ := h
  exact ⟨n, D, ⟨es, clock, e.trans hb, rest⟩, h2⟩
theorem Row.others {w w' : World} {g B : Nat} {zs : List Int} (h : Row w g zs) (ho : Lib.OthersKept 5 (some B) w w') (hne : g ≠ B) : Row w' g zs := by
  have h' := h
  obtain ⟨_, cur, hc, _⟩ := h'
  refine h.block ?_
  rw [ho g _ hc (by intro e; injection e with e; exact hne e) (by intro c fz e; injection e with _ e; exact absurd e (by decide))]
  exact hc.symm
set_option maxHeartbeats 16000000 in
set_option maxRecDepth 100000 in
theorem impl_Picture_ok (w : World) (ao ro : Option Addr) (cap rc : Nat) (zs rs : List Int) (hI : Ints w ao zs) (hl : zs.length ≤ 1048576) (hR : Ints w ro rs) (hrl : rs.length ≤ 1048576) (hT : Tab w) :
    Calls Tryz.prog 11 #[.agg #[.slice ao zs.length cap], .slice ro rs.length rc] w fun e w' => e = .returned (.string (strOfNums (picL zs rs))) ∧ Kept w w' := by
  have b0 := Cells.new w 26 #[.slice ao zs.length cap]
  have k0 : Kept w (w.alloc (.cells #[.slice ao zs.length cap] 26)) := Kept.alloc (Below.refl _ _) _
  have hRo := impl_RootsOk_ok _ ao ro cap rc zs rs (hI.kept k0) hl (hR.kept k0) hrl
  cases hr : rootsR zs rs with
  | false =>
    have HR : Hid (picL zs rs = []) := by simp [Hid, picL, hr]
    rw [hr] at hRo
    clear hr hI hR
    go_enter Tryz.func11, Tryz.ntmps11
    go_wp2_with (go_at_call 13; refine hRo.mono ?_; rintro e w1 ⟨rfl, hk1⟩)
    go_ret
    exact ⟨by rw [HR.out]; rfl, k0.trans hk1⟩
  | true =>
    have hh : heapR zs = true := by
      have := hr
      unfold rootsR at this
      simp only [Bool.and_eq_true] at this
      exact this.1
    have hlen := (slabOk_iff.1 (heapR_slab hh)).1
    rw [hr] at hRo
    have hM := ordL_met hr
    have hS := ordL_shut hr
    have HPic : Hid (picL zs rs = ([114, 111, 111, 116, 115] ++ valsL rs (ordL zs rs) ++ [10]) ++ linesL zs (ordL zs rs) (ordL zs rs)) := by rw [Hid, picL, if_pos hr]
    have HMF : Hid _ := fun (u : World) (hu : Kept w u) => metFrom_ok u ao ro cap rc zs rs (hI.kept hu) hl (hR.kept hu) hrl hr
    obtain ⟨order, hor⟩ : ∃ order, ordL zs rs = order := ⟨_, rfl⟩
    rw [hor] at hM hS HPic HMF
    have hol : order.length ≤ 2000 := Nat.le_trans hM.len hlen
    have HOB : Hid (∀ a ∈ order, -9223372036854775808 ≤ a ∧ a ≤ 9223372036854775807) := hM.bd hl
    have HOK : Hid (∀ a ∈ order, 1 ≤ kindAt zs a) := hM.2
    have HSR : Hid (∀ v ∈ rs, ¬ v % 8 < 4 → v / 8 ∈ order) := hS.1
    have HSS : Hid (∀ a ∈ order, Shut zs order a) := hS.2
    have hvl : (valsL rs order).length ≤ 24 * rs.length := valsL_len hR.1 (by omega)
    have HLL : Hid (∀ k, (linesL zs order (order.take k)).length ≤ 100000 * order.length) := fun k => by
      have := linesL_len (order := order) (os := order.take k) hI.1 hh (by omega) (fun a ha => hM.2 a (List.mem_of_mem_take ha))
      rw [List.length_take] at this
      exact Nat.le_trans this (Nat.mul_le_mul_left _ (Nat.min_le_right _ _))
    have HI : Hid (Ints w ao zs) := hI
    have HR : Hid (Ints w ro rs) := hR
    have HT : Hid (Tab w) := hT
    have HH : Hid (heapR zs = true) := hh
    obtain ⟨rl, hrlE⟩ : ∃ rl, [114, 111, 111, 116, 115] ++ valsL rs order ++ [10] = rl := ⟨_, rfl⟩
    have hrll : rl.length ≤ 100000000 := by rw [← hrlE]; simp only [List.length_append, List.length_cons, List.length_nil]; omega
    have hstr : strOfNums [114, 111, 111, 116, 115] = ByteArray.mk #[114, 111, 111, 116, 115] := rfl
    have HLi : Hid (∀ (u : World) (b : Nat), Kept w u → NumMap u b order → Calls Tryz.prog 32 #[.map (some b), .string (ByteArray.mk #[114, 111, 111, 116, 115]), .slice ro rs.length rc] u fun e w' => e = .returned (.string (strOfNums rl)) ∧ Kept u w') := fun u b hu hN => by
      have := line_ok u b order [114, 111, 111, 116, 115] ro rc rs (HT.out.kept hu) hN (by omega) (Ints.kept HR.out hu) hrl HSR.out (by simp)
      rw [hstr, hrlE] at this
      exact this
    rw [hrlE] at HPic
    clear hr hI hR hM hS hT hh hor hstr hrlE
    go_enter Tryz.func11, Tryz.ntmps11
    go_wp2_with (first | (go_at_call 13; refine hRo.mono ?_; rintro e w1 ⟨rfl, hk1⟩; have c1 := (b0.kept hk1).cell 0) | (go_at_call 30; refine (HMF.out _ (k0.trans hk1)).mono ?_; rintro e w2 ⟨b2, rfl, hb2, hN2, hk2⟩; have K2 := (k0.trans hk1).trans hk2; have kB : Kept w2 (w2.alloc (.cells #[.pointer none, .slice none 0 0] 55)) := Kept.alloc (Below.refl _ _) _; have lb2 := hN2.lt; have x2 := (b0.kept hk1).kept hk2; have hB0 := BldS.new w2; have hNB := hN2.kept kB.grown (by simp)) | (go_at_call 32; refine (HLi.out _ b2 (K2.trans kB) hNB).mono ?_; rintro e w3 ⟨rfl, hk3⟩; have hWS := WriteString_ok w3 w2.heap.size [] rl (hB0.kept hk3) (by simp only [List.length_nil]; omega)) | (go_at_call 31; refine hWS.mono ?_; rintro e w4 ⟨rfl, hB4, hb4, ho4⟩; have kB3 := kB.trans hk3; have K4 : Kept w w4 := Below.trans (K2.trans kB3) (hb4.mono K2.size); have hN4 : NumMap w4 b2 order := (hN2.kept kB3.grown (by simp)).block (hb4.block b2 (Nat.lt_of_lt_of_le lb2 (Nat.le_refl _))); have hIO := inOrder_ok w4 b2 order (by omega) HOB.out hN4) | (go_at_call 33; refine hIO.mono ?_; rintro e w5 ⟨rfl, hR5, hk5⟩))
    have lB4 : w2.heap.size < w4.heap.size := hB4.lt
    have hB5 : BldS w5 w2.heap.size (rl ++ linesL zs order (order.take 0)) := by simpa [linesL] using hB4.kept hk5
    have hN5 : NumMap w5 b2 order := hN4.kept hk5.grown (by simp)
    have x5 : Cells w5 w.heap.size 26 #[.slice ao zs.length cap] := Cells.kept ((hb4.block w.heap.size x2.lt).trans (x2.kept kB3)) hk5
    have K5 := K4.trans hk5
    have lbB : b2 < w2.heap.size := lb2
    have lsB : w.heap.size < w2.heap.size := x2.lt
    clear c1 hB0 hNB hWS hB4 hb4 ho4 hN4 hIO hk5 hk3 kB3 kB hk2 hk1 hN2 x2 K4 hRo b0 k0
    go_loopw [24] (fun i wr => ∃ k : Nat, i = .int .i64 k ∧ k ≤ order.length ∧ BldS wr w2.heap.size (rl ++ linesL zs order (order.take k)) ∧ NumMap wr b2 order ∧ Row wr w4.heap.size order ∧ Cells wr w.heap.size 26 #[.slice ao zs.length cap] ∧ Kept w wr) (fun i _ => order.length - (intOf i).toNat)
    case atStart => exact ⟨0, rfl, Nat.zero_le _, hB5, hN5, hR5, x5, K5⟩
    case round =>
      obtain ⟨k, rfl, hk, hB, hN, hRr, hx, hK⟩ := hrel
      clear hB5 hN5 hR5 x5 K5
      have hll := HLL.out k
      by_cases hlt : k < order.length
      · have hka := HOK.out _ (hz_mem hlt)
        obtain ⟨n, en, hnl, _⟩ := kind_nat hka
        have ck := hRr.cell (j := k) hlt
        rw [en] at ck hka
        have hsh : ∀ v ∈ slotV zs (n : Int), ¬ v % 8 < 4 → v / 8 ∈ order := by
          have := HSS.out _ (hz_mem hlt)
          rw [en] at this
          exact this
        have HLS : Hid (linesL zs order (order.take (k + 1)) = linesL zs order (order.take k) ++ lineL zs n order) := by rw [Hid, take_hz hlt, linesL_snoc, en, Int.toNat_natCast]
        have hll2 : (lineL zs n order).length ≤ 100000 := lineL_len HI.out.1 HH.out hka (by omega)
        have hBL := blockLine_ok wr b2 order ao cap zs n (Ints.kept HI.out hK) (HT.out.kept hK) hN (by omega) HH.out hka hsh
        obtain ⟨ln, hln⟩ : ∃ ln, lineL zs n order = ln := ⟨_, rfl⟩
        obtain ⟨ys, hys⟩ : ∃ ys, rl ++ linesL zs order (order.take k) = ys := ⟨_, rfl⟩
        have hyl : ys.length ≤ 1000000000 := by rw [← hys, List.length_append]; omega
        rw [hln] at hBL HLS hll2
        have HYS : Hid (rl ++ linesL zs order (order.take (k + 1)) = ys ++ ln) := by rw [Hid, HLS.out, ← List.append_assoc, hys]
        rw [hys] at hB
        have cs := hx.cell 0
        have q1 : (k : Int) < (order.length : Int) := by omega
        have q0 : (0 : Int) ≤ (k : Int) := by omega
        have HB : Hid (BldS wr w2.heap.size ys) := hB
        have HN : Hid (NumMap wr b2 order) := hN
        have HRr : Hid (Row wr w4.heap.size order) := hRr
        have HX : Hid (Cells wr w.heap.size 26 #[.slice ao zs.length cap]) := hx
        have HK : Hid (Kept w wr) := hK
        clear en hka hsh hln hys hB hN hRr hx hK HLS
        go_wp2_with (first | (go_at_call 34; refine hBL.mono ?_; rintro e w6 ⟨rfl, hk6⟩; have hWS := WriteString_ok w6 w2.heap.size ys ln (HB.out.kept hk6) (by omega)) | (go_at_call 31; refine hWS.mono ?_; rintro e w7 ⟨rfl, hB7, hb7, ho7⟩))
        have hN7 : NumMap w7 b2 order := (HN.out.kept hk6.grown (by simp)).block (hb7.block b2 lbB)
        have hR7 : Row w7 w4.heap.size order := (HRr.out.kept hk6).others ho7 (by omega)
        have hx7 : Cells w7 w.heap.size 26 #[.slice ao zs.length cap] := (hb7.block w.heap.size lsB).trans (HX.out.kept hk6)
        have K7 : Kept w w7 := Below.trans (Kept.trans HK.out hk6) (hb7.mono (Nat.le_of_lt lsB))
        go_roundw
        case rel => exact ⟨k + 1, by go_num, by omega, by rw [HYS.out]; exact hB7, hN7, hR7, hx7, K7⟩
        case measure => simp [intOf]; omega
      · obtain rfl : k = order.length := by omega
        rw [List.take_length] at hB
        rw [← HPic.out] at hB
        have hStr := String_ok wr w2.heap.size _ hB
        have HK : Hid (Kept w wr) := hK
        clear hB hN hRr hx hK
        go_wp2_with (go_at_call 35; refine hStr.mono ?_; rintro e w3 ⟨rfl, hb3⟩)
        go_ret
        exact ⟨rfl, Below.trans HK.out (hb3.mono (Nat.le_of_lt lsB))⟩
end Go.Proofs.YtgnpllpinfhccaaGreatDoor
namespace Go.Proofs.YtgnpllpinfhccaaGreatDoor
open Go.RowKit Go.Maps
attribute [local go_sem] Plain.and7

set_option maxHeartbeats 16000000 in
set_option maxRecDepth 100000 in
theorem impl_SameSight_ok (w : World) (ao bo ro so : Option Addr) (ca cb cr cs : Nat) (xs one ys two : List Int) (hA : Ints w ao xs) (hB : Ints w bo ys) (hR : Ints w ro one) (hS : Ints w so two) (hl : xs.length ≤ 1048576) (hm : ys.length ≤ 1048576) (h1 : one.length ≤ 1048576) (h2 : two.length ≤ 1048576) (hT : Tab w) :
    Calls Tryz.prog 8 #[.agg #[.slice ao xs.length ca], .slice ro one.length cr, .agg #[.slice bo ys.length cb], .slice so two.length cs] w fun e w' => e = .returned (.bool (sightR xs one ys two)) ∧ Kept w w' := by
  have b0 := (Cells.new w 26 #[.slice ao xs.length ca]).alloc (.cells #[.slice bo ys.length cb] 26)
  have b1 := Cells.new (w.alloc (.cells #[.slice ao xs.length ca] 26)) 26 #[.slice bo ys.length cb]
  have k0 : Kept w ((w.alloc (.cells #[.slice ao xs.length ca] 26)).alloc (.cells #[.slice bo ys.length cb] 26)) := (Kept.alloc (Below.refl _ _) _).alloc _
  simp only [World.size_alloc] at b1
  go_enter Tryz.func8, Tryz.ntmps8
  go_wp2_with fail
  obtain ⟨WX, hWX⟩ : ∃ WX, (w.alloc (.cells #[.slice ao xs.length ca] 26)).alloc (.cells #[.slice bo ys.length cb] 26) = WX := ⟨_, rfl⟩
  rw [hWX] at b0 b1 k0
  simp only [hWX]
  have kd7 : ∀ u, Kept WX.drew u → Kept WX u := fun u hu => Kept.trans (Below.refl _ WX).drew hu
  have y0 : ∀ u, Kept WX.drew u → u.cell? ⟨w.heap.size, 0, none⟩ = some (.slice ao xs.length ca) := fun u hu => (b0.kept (kd7 u hu)).cell 0
  have y1 : ∀ u, Kept WX.drew u → u.cell? ⟨w.heap.size + 1, 0, none⟩ = some (.slice bo ys.length cb) := fun u hu => (b1.kept (kd7 u hu)).cell 0
  have HKW : Hid (∀ u, Kept WX.drew u → Kept w u) := fun u hu => Kept.trans k0 (kd7 u hu)
  have HC1 : Hid (∀ u, Kept WX.drew u → Calls Tryz.prog 13 #[.agg #[.slice ao xs.length ca], .slice ro one.length cr] u fun e w' => e = .returned (.bool (rootsR xs one)) ∧ Kept u w') := fun u hu => impl_RootsOk_ok u ao ro ca cr xs one (hA.kept (HKW.out u hu)) hl (hR.kept (HKW.out u hu)) h1
  have HC2 : Hid (∀ u, Kept WX.drew u → Calls Tryz.prog 13 #[.agg #[.slice bo ys.length cb], .slice so two.length cs] u fun e w' => e = .returned (.bool (rootsR ys two)) ∧ Kept u w') := fun u hu => impl_RootsOk_ok u bo so cb cs ys two (hB.kept (HKW.out u hu)) hm (hS.kept (HKW.out u hu)) h2
  have C3 : Hid (∀ u, Kept WX.drew u → Calls Tryz.prog 11 #[.agg #[.slice ao xs.length ca], .slice ro one.length cr] u fun e w' => e = .returned (.string (strOfNums (picL xs one))) ∧ Kept u w') := fun u hu => impl_Picture_ok u ao ro ca cr xs one (hA.kept (HKW.out u hu)) hl (hR.kept (HKW.out u hu)) h1 (hT.kept (HKW.out u hu))
  have C4 : Hid (∀ u, Kept WX.drew u → Calls Tryz.prog 11 #[.agg #[.slice bo ys.length cb], .slice so two.length cs] u fun e w' => e = .returned (.string (strOfNums (picL ys two))) ∧ Kept u w') := fun u hu => impl_Picture_ok u bo so cb cs ys two (hB.kept (HKW.out u hu)) hm (hS.kept (HKW.out u hu)) h2 (hT.kept (HKW.out u hu))
  cases hr : rootsR xs one with
  | false =>
    have HE : Hid (sightR xs one ys two = false) := by simp [Hid, sightR, hr]
    have C1 : Hid (∀ u, Kept WX.drew u → Calls Tryz.prog 13 #[.agg #[.slice ao xs.length ca], .slice ro one.length cr] u fun e w' => e = .returned (.bool false) ∧ Kept u w') := fun u hu => by have := HC1.out u hu; rw [hr] at this; exact this
    clear hr hA hB hR hS hT HC1 HC2 C3 C4 hWX b0 b1 k0
    refine wp_region_seqL (by kernel_rfl) (by kernel_rfl) ?_
    repeat (first
      | (refine SeqL.skip (by rfl) ?_; simp only [Act.put, List.setIfInBounds_toArray, List.set_cons_zero, List.set_cons_succ])
      | (refine SeqL.pure ?_ (by rfl) ?_ ?_; rotate_left; (focus (intro u hu; have y0' := y0 u hu; have y1' := y1 u hu; go_simp; first | done | exact rfl)); simp only [Act.put, List.setIfInBounds_toArray, List.set_cons_zero, List.set_cons_succ])
      | (refine SeqL.call _ _ _ (by rfl) ?_ C1.out ?_; (focus (intro u; go_simp; done)); simp only [Act.put, List.setIfInBounds_toArray, List.set_cons_zero, List.set_cons_succ]))
    refine SeqL.nil ?_
    intro w5 hu5
    have K5 := HKW.out w5 hu5
    clear y0 y1 C1 kd7
    go_wp2_with fail
    go_ret
    exact ⟨by rw [HE.out]; rfl, K5⟩
  | true =>
    have C1 : Hid (∀ u, Kept WX.drew u → Calls Tryz.prog 13 #[.agg #[.slice ao xs.length ca], .slice ro one.length cr] u fun e w' => e = .returned (.bool true) ∧ Kept u w') := fun u hu => by have := HC1.out u hu; rw [hr] at this; exact this
    cases hs : rootsR ys two with
    | false =>
      have HE : Hid (sightR xs one ys two = false) := by
        have e1 : picL ys two = [] := by simp [picL, hs]
        have e2 : ∃ c l, picL xs one = c :: l := ⟨114, _, by rw [picL, if_pos hr]; rfl⟩
        obtain ⟨c, l, e2⟩ := e2
        rw [Hid, sightR, hr, e1, e2, Bool.true_and]
        rw [beq_toListBytes, ByteArray.toList_eq, ByteArray.toList_eq, strOfNums_data, strOfNums_data]
        rfl
      have C2 : Hid (∀ u, Kept WX.drew u → Calls Tryz.prog 13 #[.agg #[.slice bo ys.length cb], .slice so two.length cs] u fun e w' => e = .returned (.bool false) ∧ Kept u w') := fun u hu => by have := HC2.out u hu; rw [hs] at this; exact this
      clear hr hs hA hB hR hS hT HC1 HC2 C3 C4 hWX b0 b1 k0
      refine wp_region_seqL (by kernel_rfl) (by kernel_rfl) ?_
      repeat (first
        | (refine SeqL.skip (by rfl) ?_; simp only [Act.put, List.setIfInBounds_toArray, List.set_cons_zero, List.set_cons_succ])
        | (refine SeqL.pure ?_ (by rfl) ?_ ?_; rotate_left; (focus (intro u hu; have y0' := y0 u hu; have y1' := y1 u hu; go_simp; first | done | exact rfl)); simp only [Act.put, List.setIfInBounds_toArray, List.set_cons_zero, List.set_cons_succ])
        | (refine SeqL.call _ _ _ (by rfl) ?_ C1.out ?_; (focus (intro u; go_simp; done)); simp only [Act.put, List.setIfInBounds_toArray, List.set_cons_zero, List.set_cons_succ])
        | (refine SeqL.call _ _ _ (by rfl) ?_ C2.out ?_; (focus (intro u; go_simp; done)); simp only [Act.put, List.setIfInBounds_toArray, List.set_cons_zero, List.set_cons_succ]))
      refine SeqL.nil ?_
      intro w5 hu5
      have K5 := HKW.out w5 hu5
      clear y0 y1 C1 C2 kd7
      go_wp2_with fail
      go_ret
      exact ⟨by rw [HE.out]; rfl, K5⟩
    | true =>
      have C2 : Hid (∀ u, Kept WX.drew u → Calls Tryz.prog 13 #[.agg #[.slice bo ys.length cb], .slice so two.length cs] u fun e w' => e = .returned (.bool true) ∧ Kept u w') := fun u hu => by have := HC2.out u hu; rw [hs] at this; exact this
      obtain ⟨P, hP⟩ : ∃ P, strOfNums (picL xs one) = P := ⟨_, rfl⟩
      obtain ⟨Q, hQ⟩ : ∃ Q, strOfNums (picL ys two) = Q := ⟨_, rfl⟩
      have HE : Hid (sightR xs one ys two = (P == Q)) := by simp [Hid, sightR, hr, hP, hQ]
      obtain ⟨r, hrr⟩ : ∃ r, (P == Q) = r := ⟨_, rfl⟩
      have e2 : (P.toList == Q.toList) = r := by rw [← beq_toListBytes]; exact hrr
      rw [hrr] at HE
      rw [hP] at C3
      rw [hQ] at C4
      clear hr hs hP hQ hrr hA hB hR hS hT HC1 HC2 hWX b0 b1 k0
      refine wp_region_seqL (by kernel_rfl) (by kernel_rfl) ?_
      repeat (first
        | (refine SeqL.skip (by rfl) ?_; simp only [Act.put, List.setIfInBounds_toArray, List.set_cons_zero, List.set_cons_succ])
        | (refine SeqL.pure ?_ (by rfl) ?_ ?_; rotate_left; (focus (intro u hu; have y0' := y0 u hu; have y1' := y1 u hu; go_simp; first | done | exact rfl)); simp only [Act.put, List.setIfInBounds_toArray, List.set_cons_zero, List.set_cons_succ])
        | (refine SeqL.call _ _ _ (by rfl) ?_ C1.out ?_; (focus (intro u; go_simp; done)); simp only [Act.put, List.setIfInBounds_toArray, List.set_cons_zero, List.set_cons_succ])
        | (refine SeqL.call _ _ _ (by rfl) ?_ C2.out ?_; (focus (intro u; go_simp; done)); simp only [Act.put, List.setIfInBounds_toArray, List.set_cons_zero, List.set_cons_succ])
        | (refine SeqL.call _ _ _ (by rfl) ?_ C3.out ?_; (focus (intro u; go_simp; done)); simp only [Act.put, List.setIfInBounds_toArray, List.set_cons_zero, List.set_cons_succ])
        | (refine SeqL.call _ _ _ (by rfl) ?_ C4.out ?_; (focus (intro u; go_simp; done)); simp only [Act.put, List.setIfInBounds_toArray, List.set_cons_zero, List.set_cons_succ]))
      refine SeqL.nil ?_
      intro w5 hu5
      have K5 := HKW.out w5 hu5
      clear y0 y1 C1 C2 C3 C4 kd7
      go_wp2_with fail
      go_ret
      exact ⟨by rw [HE.out]; rfl, K5⟩
end Go.Proofs.YtgnpllpinfhccaaGreatDoor
namespace Go.Proofs.YtgnpllpinfhccaaGreatDoor
open Go.RowKit

def Vis (l : List Int) : Prop := ∀ x ∈ l, 32 ≤ x ∧ x ≤ 126
theorem Vis.app {a b : List Int} (h : Vis a) (h' : Vis b) : Vis (a ++ b) := fun x hx => by
  rcases List.mem_append.1 hx with hx | hx
  · exact h x hx
  · exact h' x hx
theorem Vis.flat {l : List Int} {f : Int → List Int} (h : ∀ x ∈ l, Vis (f x)) : Vis (l.flatMap f) := fun x hx => by
  obtain ⟨y, hy, hx⟩ := List.mem_flatMap.1 hx
  exact h y hy x hx
theorem Vis.count {l : List Int} (h : Vis l) : l.count 10 = 0 := List.count_eq_zero.2 fun hx => by
  have := h 10 hx
  omega
theorem digN_vis (m : Nat) : Vis (digN m) := by
  induction m using Nat.strongRecOn with
  | ind m ih =>
    by_cases h : m = 0
    · rw [h, digN_zero]; intro x hx; cases hx
    · rw [digN_pos h]
      refine (ih (m / 10) (by omega)).app (fun x hx => ?_)
      simp only [List.mem_singleton] at hx
      omega
theorem digI_vis (n : Int) : Vis (digI n) := by
  unfold digI
  split
  · intro x hx; simp at hx; omega
  · refine Vis.app ?_ (digN_vis _)
    split
    · intro x hx; simp at hx; omega
    · intro x hx; cases hx
theorem lit_vis {l : List Int} (h : (l.all fun x => decide (32 ≤ x) && decide (x ≤ 126)) = true) : Vis l := fun x hx => by
  have := List.all_eq_true.1 h x hx
  simpa using this
theorem numL_vis (order : List Int) (x : Int) : Vis (numL order x) := by
  unfold numL
  split
  · exact (lit_vis (by decide)).app (digI_vis _)
  · exact lit_vis (by decide)
theorem valL_vis (v : Int) (order : List Int) : Vis (valL v order) := by
  unfold valL
  repeat' split
  all_goals first
    | exact lit_vis (by decide)
    | exact (lit_vis (by decide)).app (digI_vis _)
    | exact numL_vis _ _
theorem valsL_vis (vs order : List Int) : Vis (valsL vs order) := Vis.flat fun v _ => valL_vis v order
theorem byteL_vis (zs : List Int) (a : Nat) : ∀ n, Vis (byteL zs a n)
  | 0 => fun x hx => by cases hx
  | n + 1 => by
    unfold byteL
    exact (byteL_vis zs a n).app ((lit_vis (by decide)).app (digI_vis _))
theorem headL_vis (zs : List Int) (a : Nat) : Vis (headL zs a) := by
  unfold headL
  split
  all_goals first
    | exact (lit_vis (by decide)).app (byteL_vis _ _ _)
    | exact (lit_vis (by decide)).app (digI_vis _)
    | exact lit_vis (by decide)
theorem lineL_count (zs : List Int) (a : Nat) (order : List Int) : (lineL zs a order).count 10 = 1 := by
  unfold lineL
  rw [List.count_append, ((headL_vis zs a).app (valsL_vis _ order)).count]
  rfl
theorem linesL_count (zs order : List Int) : ∀ os : List Int, (linesL zs order os).count 10 = os.length
  | [] => rfl
  | a :: os => by
    have e2 : linesL zs order (a :: os) = lineL zs a.toNat order ++ linesL zs order os := by simp [linesL]
    rw [e2, List.count_append, lineL_count, linesL_count zs order os, List.length_cons]
    omega
theorem picL_count {zs rs : List Int} (h : rootsR zs rs = true) : (picL zs rs).count 10 = (ordL zs rs).length + 1 := by
  unfold picL
  rw [if_pos h, List.count_append, List.count_append, linesL_count, ((lit_vis (l := [114, 111, 111, 116, 115]) (by decide)).app (valsL_vis rs (ordL zs rs))).count]
  show 0 + 1 + _ = _
  omega
def Byt (l : List Int) : Prop := ∀ x ∈ l, 0 ≤ x ∧ x ≤ 255
theorem Vis.byt {l : List Int} (h : Vis l) : Byt l := fun x hx => by have := h x hx; omega
theorem Byt.app {a b : List Int} (h : Byt a) (h' : Byt b) : Byt (a ++ b) := fun x hx => by
  rcases List.mem_append.1 hx with hx | hx
  · exact h x hx
  · exact h' x hx
theorem byt_ten : Byt [10] := fun x hx => by simp only [List.mem_singleton] at hx; omega
theorem picL_byt (zs rs : List Int) : Byt (picL zs rs) := by
  unfold picL
  split
  · refine ((((lit_vis (by decide)).app (valsL_vis _ _)).byt.app byt_ten)).app (fun x hx => ?_)
    obtain ⟨a, _, hx⟩ := List.mem_flatMap.1 hx
    exact (((headL_vis _ _).app (valsL_vis _ _)).byt.app byt_ten) x hx
  · intro x hx; cases hx
theorem reachL_len {zs rs : List Int} (h : rootsR zs rs = true) : (reachL zs rs).length = (ordL zs rs).length := by
  unfold reachL sortL
  rw [if_pos h, sortF_len]
  simp
theorem picL_nil (zs rs : List Int) : (picL zs rs).isEmpty = !rootsR zs rs := by
  unfold picL
  cases h : rootsR zs rs <;> simp
theorem strs_inj {xs ys : List Int} (h : strOfNums xs = strOfNums ys) : xs.length = ys.length := by
  have := congrArg (fun b : ByteArray => b.data.toList.length) h
  simpa [strOfNums] using this
theorem ba_eq {a b : ByteArray} (h : (a == b) = true) : a = b := by
  cases a with | mk x => cases b with | mk y =>
  have : (x == y) = true := h
  rw [eq_of_beq this]
theorem ba_refl (a : ByteArray) : (a == a) = true := by
  cases a with | mk x =>
  show (x == x) = true
  exact beq_self_eq_true x
theorem sight_comm (xs one ys two : List Int) : sightR xs one ys two = sightR ys two xs one := by
  unfold sightR
  rw [Bool.eq_iff_iff]
  simp only [Bool.and_eq_true]
  have key : ∀ {xs one ys two : List Int}, rootsR xs one = true → strOfNums (picL xs one) = strOfNums (picL ys two) → rootsR ys two = true := by
    intro xs one ys two h e
    have h1 := picL_nil xs one
    have h2 := picL_nil ys two
    have hl := strs_inj e
    cases hy : rootsR ys two with
    | true => rfl
    | false =>
      exfalso
      rw [hy] at h2
      rw [h] at h1
      have h3 : picL ys two = [] := by simpa using h2
      rw [h3] at hl
      have h4 : picL xs one = [] := List.length_eq_zero_iff.1 (by simpa using hl)
      rw [h4] at h1
      simp at h1
  constructor
  · rintro ⟨h, e⟩; exact ⟨key h (ba_eq e), by rw [ba_eq e]; exact ba_refl _⟩
  · rintro ⟨h, e⟩; exact ⟨key h (ba_eq e), by rw [ba_eq e]; exact ba_refl _⟩
theorem picL_len {zs rs : List Int} (hb : ∀ z ∈ zs, -9223372036854775808 ≤ z ∧ z ≤ 9223372036854775807) (hr : ∀ z ∈ rs, -9223372036854775808 ≤ z ∧ z ≤ 9223372036854775807) (hrl : rs.length ≤ 1048576) : (picL zs rs).length ≤ 1099511627776 := by
  unfold picL
  split
  · rename_i h
    have hh : heapR zs = true := by
      have h' := h
      unfold rootsR at h'
      rw [Bool.and_eq_true] at h'
      exact h'.1
    have hz := (slabOk_iff.1 (heapR_slab hh)).1
    have hm := ordL_met h
    have hol := hm.len
    have h1 := linesL_len (order := ordL zs rs) hb hh (by omega) (os := ordL zs rs) hm.2
    have h2 := valsL_len (order := ordL zs rs) hr (by omega)
    simp only [List.length_append, List.length_cons, List.length_nil]
    omega
  · simp
end Go.Proofs.YtgnpllpinfhccaaGreatDoor
