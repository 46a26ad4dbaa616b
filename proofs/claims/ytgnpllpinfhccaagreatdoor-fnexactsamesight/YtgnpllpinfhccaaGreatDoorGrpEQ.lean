/-
  The contract of word (chapter 7's program).
  The contract of line (chapter 7's program).
  The contracts of withoutLastUndef and textHead (chapter 7's program).
  The contracts of headAt, blockLine and inOrder (chapter 7's program).
  The contract of the program's Picture (chapter 7).
  The contract of the program's SameSight (chapter 7).
-/
import Derived.Lib.OthersKept
import Derived.Test.YtgnpllpinfhccaaGreatDoorPicP
import Derived.Test.YtgnpllpinfhccaaGreatDoorGrpEN
import Derived.Test.YtgnpllpinfhccaaGreatDoorRchE
import Derived.Test.YtgnpllpinfhccaaGreatDoorTextF
import Derived.Test.YtgnpllpinfhccaaGreatDoorTextB
import Derived.Test.YtgnpllpinfhccaaGreatDoorRchF
import Derived.Test.YtgnpllpinfhccaaGreatDoorShapeQ
import Derived.Test.YtgnpllpinfhccaaGreatDoorSeq
namespace Go.Proofs.YtgnpllpinfhccaaGreatDoor
open Go.RowKit Go.Maps
attribute [local go_sem] Plain.and7

set_option maxHeartbeats 8000000 in
set_option maxRecDepth 100000 in
theorem word_ok (w : World) (b : Nat) (out : List Int) (v : Int) (hT : Tab w) (hN : NumMap w b out) (hol : out.length ≤ 1048576) (hv : -9223372036854775808 ≤ v ∧ v ≤ 9223372036854775807) (hin : ¬ v % 8 < 4 → v / 8 ∈ out) :
    Calls Tryz.prog 54 #[.map (some b), .int .i64 v] w fun e w' => e = .returned (.string (strOfNums (wordL v out))) ∧ Kept w w' := by
  have hKd := fun (u : World) => impl_Kind_ok v u
  rcases (show v % 8 = 0 ∨ v % 8 = 1 ∨ v % 8 = 2 ∨ v % 8 = 3 ∨ (¬ v % 8 < 4) by omega) with h | h | h | h | h
  · have HW : Hid (wordL v out = [117, 110, 100, 101, 102]) := by simp [Hid, wordL, h]
    rw [h] at hKd
    clear h hin hN hT
    go_enter Tryz.func54, Tryz.ntmps54
    go_wp2_with (first | (go_at_call 93; refine (hKd _).mono ?_; rintro e wx ⟨rfl, rfl⟩))
    go_ret
    exact ⟨by rw [HW.out]; rfl, Below.refl _ _⟩
  · have HW : Hid (wordL v out = [110, 117, 108, 108]) := by simp [Hid, wordL, h]
    rw [h] at hKd
    clear h hin hN hT
    go_enter Tryz.func54, Tryz.ntmps54
    go_wp2_with (first | (go_at_call 93; refine (hKd _).mono ?_; rintro e wx ⟨rfl, rfl⟩))
    go_ret
    exact ⟨by rw [HW.out]; rfl, Below.refl _ _⟩
  · have HW : Hid (wordL v out = if (v == 10) then [116, 114, 117, 101] else [102, 97, 108, 115, 101]) := by
      have e : (v / 8 = 1) ↔ (v == 10) = true := by simp; omega
      simp only [Hid, wordL, h]
      by_cases h1 : v / 8 = 1
      · rw [if_pos h1, if_pos (e.1 h1)]; rfl
      · rw [if_neg h1, if_neg (fun hh => h1 (e.2 hh))]; rfl
    rw [h] at hKd
    have hBo := fun (u : World) => impl_BoolOf_ok true u
    clear h hin hN hT
    go_enter Tryz.func54, Tryz.ntmps54
    go_wp2_with (first | (go_at_call 93; refine (hKd _).mono ?_; rintro e wx ⟨rfl, rfl⟩) | (go_at_call 98; refine (hBo _).mono ?_; rintro e wx ⟨rfl, rfl⟩) | (go_at_call 97; refine (lib_strconv_FormatBool _ _).mono ?_; rintro e wx ⟨rfl, rfl⟩))
    go_ret
    exact ⟨by rw [HW.out, ← strs_bool]; rfl, Below.refl _ _⟩
  · have HW : Hid (wordL v out = digI (v / 8)) := by simp [Hid, wordL, h]
    have hIt := fun (u : World) (hu : Tab u) => Itoa_ok (v / 8) (by omega) u hu
    have hNm := fun (u : World) => impl_Num_ok v u hv.1 hv.2
    rw [h] at hKd
    clear h hin hN
    go_enter Tryz.func54, Tryz.ntmps54
    go_wp2_with (first | (go_at_call 93; refine (hKd _).mono ?_; rintro e wx ⟨rfl, rfl⟩) | (go_at_call 94; refine (hNm _).mono ?_; rintro e wx ⟨rfl, rfl⟩) | (go_at_call 99; refine (hIt _ hT).mono ?_; rintro e w1 ⟨rfl, hk1⟩))
    go_ret
    exact ⟨by rw [HW.out]; rfl, hk1⟩
  · obtain ⟨n, D, hown, hD, hn⟩ := hN
    have hx := hin h
    obtain ⟨k, hk, ek⟩ := List.getElem_of_mem hx
    have hs : out[k]? = some (v / 8) := by rw [List.getElem?_eq_getElem hk, ek]
    have HV : Hid (∀ z, D.atKey (.int .i64 (v / 8)) z = .lit (.int .i64 k)) := hD.val k _ hs
    have HW : Hid (wordL v out = [64] ++ digI (k : Nat)) := by
      unfold Hid wordL
      rw [if_neg (by omega), if_neg (by omega), if_neg (by omega), if_neg (by omega), find_nodup hD.nodup hs]
    have hIt := fun (u : World) (hu : Tab u) => Itoa_ok (k : Int) (by omega) u hu
    have hNm := fun (u : World) => impl_Num_ok v u hv.1 hv.2
    have hdl := digI_len (n := (k : Int)) (by omega)
    obtain ⟨ds, hds⟩ : ∃ ds, digI (k : Int) = ds := ⟨_, rfl⟩
    rw [hds] at hIt hdl HW
    have hsz : ¬ 9223372036854775807 < (ByteArray.mk #[64]).size + (strOfNums ds).size := by rw [strOfNums_size]; show ¬ _ < 1 + _; omega
    have HSB : Hid ((ByteArray.mk #[64] ++ strOfNums ds) = strOfNums ([64] ++ ds)) := strs_app [64] ds
    have n0 : (v % 8 == 0) = false := by simp; omega
    have n1 : (v % 8 == 1) = false := by simp; omega
    have n2 : (v % 8 == 2) = false := by simp; omega
    have n3 : (v % 8 == 3) = false := by simp; omega
    have hvb1 : -9223372036854775808 ≤ v / 8 := by omega
    have hvb2 : v / 8 ≤ 9223372036854775807 := by omega
    clear h hin hx ek hs hds hD
    go_enter Tryz.func54, Tryz.ntmps54
    go_wp2_with (first | (go_at_call 93; refine (hKd _).mono ?_; rintro e wx ⟨rfl, rfl⟩) | (go_at_call 94; refine (hNm _).mono ?_; rintro e wx ⟨rfl, rfl⟩) | (at_lookup; refine wpList_lookup_own_int _ rfl _ _ 51 rfl 3 3 .i64 lawN Tryz.underlying51 Tryz.underlying3 (Tryz.zeroValue3 _) b n _ rfl hown _ _ rfl (keyOf_int_mk Tryz.underlying3 (WalkArith.wf_i64 ⟨hvb1, hvb2⟩)) ?_; intro c hat hwc; rw [HV.out] at hat; injection hat with hat; injection hat with _ hat; subst hat) | (go_at_call 99; refine (hIt _ hT).mono ?_; rintro e w1 ⟨rfl, hk1⟩))
    go_ret
    exact ⟨by rw [HW.out, ← HSB.out]; rfl, hk1⟩
end Go.Proofs.YtgnpllpinfhccaaGreatDoor
namespace Go.Proofs.YtgnpllpinfhccaaGreatDoor
open Go.RowKit Go.Maps
attribute [local go_sem] Plain.and7

theorem infoS7 : (Tryz.prog.info? 9).map (fun i => (i.zero, i.size, i.bytes)) = some (some (.string ⟨#[]⟩), 1, 16) := by kernel_rfl
theorem nums_app (xs ys : List Int) : ((xs ++ ys).map fun n => UInt8.ofNat n.toNat) = (xs.map fun n => UInt8.ofNat n.toNat) ++ (ys.map fun n => UInt8.ofNat n.toNat) := List.map_append
/-- The words of a line, one behind the other. -/
def wordsS (hd vs out : List Int) : List ByteArray := strOfNums hd :: vs.map (fun v => strOfNums (wordL v out))
theorem wordsS_len (hd vs out : List Int) : (wordsS hd vs out).length = vs.length + 1 := by simp [wordsS]
theorem wordsS_snoc (hd vs out : List Int) (v : Int) : wordsS hd (vs ++ [v]) out = wordsS hd vs out ++ [strOfNums (wordL v out)] := by simp [wordsS]
theorem joinTail_vals (out : List Int) : ∀ (vs : List Int), Lib.joinTail [32] ((vs.map (fun v => strOfNums (wordL v out))).map (·.data.toList)) = (valsL vs out).map fun n => UInt8.ofNat n.toNat
  | [] => rfl
  | v :: vs => by
    have ih := joinTail_vals out vs
    have e : valsL (v :: vs) out = valL v out ++ valsL vs out := by simp [valsL]
    rw [e, nums_app, ← ih, valL_word, nums_app]
    rfl
theorem join_words (hd vs out : List Int) : (⟨(Lib.join ((wordsS hd vs out).map (·.data.toList)) [32]).toArray⟩ : ByteArray) = strOfNums (hd ++ valsL vs out) := by
  unfold wordsS
  rw [List.map_cons, Lib.join_cons, joinTail_vals]
  unfold strOfNums
  rw [nums_app]
theorem join_len (hd vs out : List Int) : (Lib.join ((wordsS hd vs out).map (·.data.toList)) [32]).length = hd.length + (valsL vs out).length := by
  unfold wordsS
  rw [List.map_cons, Lib.join_cons, joinTail_vals, List.length_append]
  simp [strOfNums]
set_option maxHeartbeats 8000000 in
set_option maxRecDepth 100000 in
theorem line_ok (w : World) (b : Nat) (out hd : List Int) (va : Option Addr) (vc : Nat) (vs : List Int) (hT : Tab w) (hN : NumMap w b out) (hol : out.length ≤ 1048576) (hI : Ints w va vs) (hvl : vs.length ≤ 1048576) (hin : ∀ v ∈ vs, ¬ v % 8 < 4 → v / 8 ∈ out) (hhd : hd.length ≤ 100000000) :
    Calls Tryz.prog 32 #[.map (some b), .string (strOfNums hd), .slice va vs.length vc] w fun e w' => e = .returned (.string (strOfNums (hd ++ valsL vs out ++ [10]))) ∧ Kept w w' := by
  obtain ⟨i0, hi, hz0, hz1, hz2⟩ := info_parts infoS7
  have k0 : Kept w (w.alloc (.cells #[.string (strOfNums hd)] 9)) := Kept.alloc (Below.refl _ _) _
  have o0 : (w.alloc (.cells #[.string (strOfNums hd)] 9)).ownsRow w.heap.size 9 1 (.slice (some ⟨w.heap.size, 0, none⟩) 1 1) (wordsS hd (vs.take 0) out).length ((wordsS hd (vs.take 0) out).map Value.string) := by
    have := World.ownsRow_lit (base := w.heap.size) (e := 9) (size := 1) w #[.string (strOfNums hd)] 1 (Nat.le_refl _) (by unfold maxLen; omega) (by simp)
    simpa [wordsS] using this
  have HI : Hid (Ints w va vs) := hI
  have HT : Hid (Tab w) := hT
  have HN : Hid (NumMap w b out) := hN
  have HIN : Hid (∀ v ∈ vs, ¬ v % 8 < 4 → v / 8 ∈ out) := hin
  have hvt : (valsL vs out).length ≤ 24 * vs.length := valsL_len hI.1 hol
  clear hI hT hN hin
  go_enter Tryz.func32, Tryz.ntmps32
  go_wp2_with fail
  go_loopw [7, 14] (fun v i wr => ∃ (k : Nat), i = .int .i64 k ∧ k ≤ vs.length ∧ wr.ownsRow w.heap.size 9 1 v (wordsS hd (vs.take k) out).length ((wordsS hd (vs.take k) out).map Value.string) ∧ Kept w wr)
    (fun _ i _ => vs.length - (intOf i).toNat)
  case atStart => exact ⟨0, rfl, Nat.zero_le _, o0, k0⟩
  case round =>
    obtain ⟨k, rfl, hk, hrow, hK⟩ := hrel
    clear o0 k0
    have hln := wordsS_len hd (vs.take k) out
    rw [List.length_take, Nat.min_eq_left hk] at hln
    have hsz := hK.size
    by_cases hlt : k < vs.length
    · obtain ⟨b1, o1, rfl, hc1⟩ := Ints.at (Ints.kept HI.out hK) hlt
      have c1 := hc1 k hlt
      have hvb := HI.out.1 _ (hz_mem hlt)
      have hvi := HIN.out _ (hz_mem hlt)
      have HS : Hid (wordsS hd (vs.take (k + 1)) out = wordsS hd (vs.take k) out ++ [strOfNums (wordL (hz vs k) out)]) := by rw [Hid, take_hz hlt, wordsS_snoc]
      obtain ⟨v, hv⟩ : ∃ v, hz vs k = v := ⟨_, rfl⟩
      rw [hv] at c1 hvb hvi HS
      have q1 : (k : Int) < (vs.length : Int) := by omega
      have q0 : (0 : Int) ≤ (k : Int) := by omega
      have hWo := word_ok wr b out v (HT.out.kept hK) (HN.out.kept (Kept.grown hK) (by simp)) hol hvb (fun h => hvi (by omega))
      obtain ⟨ws, hws⟩ : ∃ ws, wordsS hd (vs.take k) out = ws := ⟨_, rfl⟩
      rw [hws] at hln hrow HS
      have HK : Hid (Kept w wr) := hK
      obtain ⟨wd, hwd⟩ : ∃ wd, strOfNums (wordL v out) = wd := ⟨_, rfl⟩
      rw [hwd] at hWo HS
      clear hv hc1 hvi hws hwd hK
      go_wp2_with (first | (go_at_call 54; refine hWo.mono ?_; rintro e w1 ⟨rfl, hk1⟩; have hrow1 := hrow.kept4 hk1; have hsz1 := Nat.le_trans hsz hk1.size) | (at_builtin; refine wpList_append_own _ rfl _ _ 77 rfl w.heap.size 9 i0 (.string ⟨#[]⟩) 1 16 Tryz.underlying77 hi hz0 hz1 hz2 rfl (by decide) _ _ _ rfl (hrow1.alloc _) ⟨w1.heap.size, 0, none⟩ 1 1 [.string wd] rfl rfl (cell_one_new _ _ _) (by simp [Value.oneCell']) (by unfold maxLen; omega) (by omega) (by simp; omega) ?_; intro v' w5 hown' hgrow _; have kk : Below w.heap.size w1 w5 := ((Below.refl _ w1).alloc hsz1 _).grown hgrow (by simp; omega) (fun j ej => (hrow1.lt j ej).1)))
      go_roundw
      case rel => exact ⟨k + 1, by go_num, by omega, by rw [HS.out]; simpa using hown', Below.trans (Kept.trans HK.out hk1) kk⟩
      case measure => simp [intOf]; omega
    · obtain rfl : k = vs.length := by omega
      rw [List.take_length] at hrow hln
      rcases (id hrow.2) with ⟨rfl, h0⟩ | ⟨g, cp, cur, rfl, hbg, hgg, hnc, hcm, hcs, htk⟩
      · omega
      have hgw := (Array.getElem?_eq_some_iff.1 hgg).1
      have hJ := lib_strings_Join g 0 cp (wordsS hd vs out) ⟨#[32]⟩ wr (fun j x hx => by
        have := hrow.cells (g := g) rfl j (.string x) (by rw [List.getElem?_map, hx]; rfl)
        simpa [Addr.add_lit] using this) hgw (by omega) hnc (by rw [show (⟨#[32]⟩ : ByteArray).data.toList = [32] from rfl, join_len]; omega)
      rw [show (⟨#[32]⟩ : ByteArray).data.toList = [32] from rfl, join_words] at hJ
      obtain ⟨ys, hys⟩ : ∃ ys, hd ++ valsL vs out = ys := ⟨_, rfl⟩
      have hyl : ys.length ≤ 200000000 := by rw [← hys, List.length_append]; omega
      rw [hys, hln] at hJ
      have HY : Hid (strOfNums (hd ++ valsL vs out ++ [10]) = strOfNums ys ++ (ByteArray.mk #[10])) := by
        rw [Hid, hys]
        exact (strs_app ys [10]).symm
      have hszs : ¬ 9223372036854775807 < (strOfNums ys).size + (ByteArray.mk #[10]).size := by rw [strOfNums_size]; show ¬ _ < _ + 1; omega
      have HK : Hid (Kept w wr) := hK
      clear hrow htk hcs hcm hgg hys hK
      go_wp2_with (first | (go_at_call 55; refine hJ.mono ?_; rintro e w1 ⟨rfl, hk1⟩))
      go_ret
      exact ⟨by rw [HY.out]; rfl, Kept.trans HK.out hk1⟩
end Go.Proofs.YtgnpllpinfhccaaGreatDoor
namespace Go.Proofs.YtgnpllpinfhccaaGreatDoor
open Go.RowKit Go.Maps
attribute [local go_sem] Plain.and7

def lenV : Value → Nat | .slice _ n _ => n | _ => 0
set_option maxHeartbeats 8000000 in
set_option maxRecDepth 100000 in
theorem withoutLast_ok (w : World) (va : Option Addr) (vc : Nat) (vs : List Int) (hI : Ints w va vs) (hvc : vs.length ≤ vc) (hcm : vc ≤ maxLen) :
    Calls Tryz.prog 57 #[.slice va vs.length vc] w fun e w' => e = .returned (.slice va (cutN vs vs.length) vc) ∧ w = w' := by
  have hcm2 : vc ≤ 9223372036854775807 := by unfold maxLen at hcm; omega
  have HI : Hid (Ints w va vs) := hI
  clear hI hcm
  go_enter Tryz.func57, Tryz.ntmps57
  go_wp2_with fail
  go_loopw [0] (fun v wr => ∃ k : Nat, v = .slice va k vc ∧ k ≤ vs.length ∧ cutN vs k = cutN vs vs.length ∧ wr = w) (fun v _ => lenV v)
  case atStart => exact ⟨vs.length, rfl, Nat.le_refl _, rfl, rfl⟩
  case round =>
    obtain ⟨k, rfl, hk, hcut, rfl⟩ := hrel
    have HC : Hid (cutN vs k = cutN vs vs.length) := hcut
    clear hcut
    cases k with
    | zero =>
      go_wp2_with fail
      go_ret
      exact ⟨by rw [← HC.out]; rfl, rfl⟩
    | succ k =>
      have hlt : k < vs.length := by omega
      obtain ⟨b1, o1, rfl, hc1⟩ := Ints.at HI.out hlt
      have c1 := hc1 k hlt
      have z1 : (0 : Int) < (k : Int) + 1 := by omega
      have z2 : (k : Int) < (k : Int) + 1 := by omega
      have z3 : (0 : Int) ≤ (k : Int) := by omega
      have z4 : (k : Int) ≤ (vc : Int) := by omega
      have wr1 : IntKind.i64.wrap ((k : Int) + 1 - 1) = (k : Int) := by rw [IntWalk.i64_left, IntWalk.wrap64_in _ (by omega)]; omega
      by_cases h0 : hz vs k = 0
      · have HC2 : Hid (cutN vs k = cutN vs vs.length) := by
          have := HC.out
          rw [cutN, if_pos h0] at this
          exact this
        rw [h0] at c1
        clear hc1 h0
        go_wp2_with fail
        go_roundw
        case rel => exact ⟨k, rfl, by omega, HC2.out, by trivial⟩
        case measure => simp [lenV]
      · have hd : (hz vs k == 0) = false := by simpa using h0
        have HC2 : Hid (cutN vs vs.length = k + 1) := by
          have := HC.out
          rw [cutN, if_neg h0] at this
          exact this.symm
        clear hc1 h0
        go_wp2_with fail
        go_ret
        exact ⟨by rw [HC2.out]; rfl, rfl⟩
/-- The bytes of a text, as they are shown. -/
def bytesV (t : ByteArray) (k : Nat) : List Int := (List.range k).flatMap (fun i => [32] ++ digI (byteN t i))
theorem bytesV_succ (t : ByteArray) (k : Nat) : bytesV t (k + 1) = bytesV t k ++ ([32] ++ digI (byteN t k)) := by simp [bytesV, List.range_succ]
theorem bytesV_len (t : ByteArray) : ∀ k, (bytesV t k).length ≤ 22 * k
  | 0 => by simp [bytesV]
  | k + 1 => by
    have h1 := bytesV_len t k
    have h2 := byteN_in t k
    have h3 := digI_len (n := byteN t k) (by omega)
    rw [bytesV_succ]
    simp only [List.length_append, List.length_cons, List.length_nil]
    omega
/-- A builder that holds a text. -/
def BldS (w : World) (B : Nat) (ys : List Int) : Prop := Lib.IsBuilderF 55 5 B B (Lib.byteCells (ys.map fun n => UInt8.ofNat n.toNat)) w
theorem BldS.new (w : World) : BldS (w.alloc (.cells #[.pointer none, .slice none 0 0] 55)) w.heap.size [] := Lib.IsBuilderF.of (Lib.fresh_isBuilder 55 5 w)
theorem BldS.kept {w w' : World} {B : Nat} {ys : List Int} (h : BldS w B ys) (hk : Kept w w') : BldS w' B ys := by
  have key : ∀ p, Lib.BuilderAtF 55 5 B B p (Lib.byteCells (ys.map fun n => UInt8.ofNat n.toNat)) w → Lib.BuilderAtF 55 5 B B p (Lib.byteCells (ys.map fun n => UInt8.ofNat n.toNat)) w' := by
    intro p hp
    have hlt := hp.lt
    obtain ⟨hB, v, hb, hown, hne⟩ := hp
    exact ⟨hB, v, (hk.block B hlt).trans hb, hown.kept (Kept.grown hk) (by cases hv : v.ownBlock <;> simp), hne⟩
  exact h.elim (fun x => .inl (key _ x)) (fun x => .inr (key _ x))
theorem BldS.lt {w : World} {B : Nat} {ys : List Int} (h : BldS w B ys) : B < w.heap.size := h.elim (fun x => x.lt) (fun x => x.lt)
theorem WriteString_ok (w : World) (B : Nat) (ys zs : List Int) (h : BldS w B ys) (hlen : ys.length + zs.length ≤ 140737488355328) :
    Calls Tryz.prog 31 #[.pointer (some ⟨B, 0, none⟩), .string (strOfNums zs)] w fun e w' => e = .returned (.tuple #[.int .i64 zs.length, .nilIface]) ∧ BldS w' B (ys ++ zs) ∧ Below B w w' ∧ Lib.OthersKept 5 (some B) w w' := by
  refine (lib_Builder_WriteString_k B B _ (strOfNums zs) w h (by rw [Lib.byteCells_length, List.length_map, strOfNums_size]; exact hlen) (Nat.le_of_lt h.lt)).mono ?_
  rintro e w' ⟨rfl, h1, h2, h3⟩
  refine ⟨by rw [strOfNums_size], .inr ?_, h2, h3⟩
  have e1 : Lib.byteCells (ys.map fun n => UInt8.ofNat n.toNat) ++ Lib.strCells (strOfNums zs) = Lib.byteCells ((ys ++ zs).map fun n => UInt8.ofNat n.toNat) := by
    rw [List.map_append, Lib.byteCells_append]
    rfl
  rw [e1] at h1
  exact h1
theorem String_ok (w : World) (B : Nat) (ys : List Int) (h : BldS w B ys) :
    Calls Tryz.prog 35 #[.pointer (some ⟨B, 0, none⟩)] w fun e w' => e = .returned (.string (strOfNums ys)) ∧ Below B w w' := by
  refine (lib_Builder_String_any_k B B _ w h (Nat.le_of_lt h.lt)).mono ?_
  rintro e w' ⟨rfl, h1, h2, h3⟩
  exact ⟨rfl, h2⟩
set_option maxHeartbeats 8000000 in
set_option maxRecDepth 100000 in
theorem textHead_ok (w : World) (t : ByteArray) (hT : Tab w) (ht : t.size ≤ 1048576) :
    Calls Tryz.prog 105 #[.string t] w fun e w' => e = .returned (.string (strOfNums ([116, 101, 120, 116] ++ bytesV t t.size))) ∧ Kept w w' := by
  have k0 : Kept w (w.alloc (.cells #[.pointer none, .slice none 0 0] 55)) := Kept.alloc (Below.refl _ _) _
  have hW0 := WriteString_ok _ w.heap.size [] [116, 101, 120, 116] (BldS.new w) (by simp)
  have e0 : strOfNums [116, 101, 120, 116] = ByteArray.mk #[116, 101, 120, 116] := rfl
  rw [e0] at hW0
  have HT : Hid (Tab w) := hT
  clear e0 hT
  go_enter Tryz.func105, Tryz.ntmps105
  go_wp2_with (go_at_call 31; refine hW0.mono ?_; rintro e w1 ⟨rfl, hB1, hb1, ho1⟩)
  have k1 : Kept w w1 := Below.trans k0 hb1
  clear hW0 hb1 ho1 k0
  go_loopw [8] (fun i wr => ∃ k : Nat, i = .int .i64 k ∧ k ≤ t.size ∧ BldS wr w.heap.size ([116, 101, 120, 116] ++ bytesV t k) ∧ Kept w wr) (fun i _ => t.size - (intOf i).toNat)
  case atStart => exact ⟨0, rfl, Nat.zero_le _, by simpa [bytesV] using hB1, k1⟩
  case round =>
    obtain ⟨k, rfl, hk, hB, hK⟩ := hrel
    clear hB1 k1
    by_cases hlt : k < t.size
    · have hbb := byteN_in t k
      have hdl := digI_len (n := byteN t k) (by omega)
      have hbl := bytesV_len t k
      have HS : Hid ([116, 101, 120, 116] ++ bytesV t (k + 1) = ([116, 101, 120, 116] ++ bytesV t k) ++ ([32] ++ digI (byteN t k))) := by rw [Hid, bytesV_succ, List.append_assoc]
      have hIt := Itoa_ok (byteN t k) (by omega) wr (HT.out.kept hK)
      obtain ⟨ds, hds⟩ : ∃ ds, digI (byteN t k) = ds := ⟨_, rfl⟩
      rw [hds] at hIt hdl HS
      obtain ⟨ys, hys⟩ : ∃ ys, [116, 101, 120, 116] ++ bytesV t k = ys := ⟨_, rfl⟩
      have hyl : ys.length ≤ 100000000 := by rw [← hys]; simp only [List.length_append, List.length_cons, List.length_nil]; omega
      rw [hys] at HS hB
      have hsz : ¬ 9223372036854775807 < (ByteArray.mk #[32]).size + (strOfNums ds).size := by rw [strOfNums_size]; show ¬ _ < 1 + _; omega
      have hsb : (ByteArray.mk #[32] ++ strOfNums ds) = strOfNums ([32] ++ ds) := strs_app [32] ds
      have HWS : Hid (∀ u, Kept wr u → Calls Tryz.prog 31 #[.pointer (some ⟨w.heap.size, 0, none⟩), .string (ByteArray.mk #[32] ++ strOfNums ds)] u fun e w' => e = .returned (.tuple #[.int .i64 (([32] ++ ds).length : Nat), .nilIface]) ∧ BldS w' w.heap.size (ys ++ ([32] ++ ds)) ∧ Below w.heap.size u w' ∧ Lib.OthersKept 5 (some w.heap.size) u w') := fun u hu => by
        rw [hsb]
        exact WriteString_ok u w.heap.size ys ([32] ++ ds) (hB.kept hu) (by simp only [List.length_append, List.length_cons, List.length_nil]; omega)
      have q1 : (k : Int) < (t.size : Int) := by omega
      have q0 : (0 : Int) ≤ (k : Int) := by omega
      have HK : Hid (Kept w wr) := hK
      clear hsb hds hys hK hB
      go_wp2_with fail
      rw [byteN_get t k hlt, IntWalk.wrap64_in _ (by omega)]
      refine hIt.mono ?_
      rintro e w2 ⟨rfl, hk2⟩
      go_wp2_with (go_at_call 31; refine (HWS.out _ hk2).mono ?_; rintro e w3 ⟨rfl, hB3, hb3, ho3⟩)
      go_roundw
      case rel => exact ⟨k + 1, by go_num, by omega, by rw [HS.out]; exact hB3, Below.trans (Kept.trans HK.out hk2) hb3⟩
      case measure => simp [intOf]; omega
    · obtain rfl : k = t.size := by omega
      have hS := String_ok wr w.heap.size _ hB
      have HK : Hid (Kept w wr) := hK
      clear hB hK
      go_wp2_with (go_at_call 35; refine hS.mono ?_; rintro e w3 ⟨rfl, hb3⟩)
      go_ret
      exact ⟨rfl, Below.trans HK.out hb3⟩
end Go.Proofs.YtgnpllpinfhccaaGreatDoor
namespace Go.Proofs.YtgnpllpinfhccaaGreatDoor
open Go.RowKit Go.Maps
attribute [local go_sem] Plain.and7

theorem byteN_nums {xs : List Int} {i : Nat} (h : i < xs.length) (hb : 0 ≤ xs.getD i 0 ∧ xs.getD i 0 ≤ 255) : byteN (strOfNums xs) i = xs.getD i 0 := by
  unfold byteN strOfNums
  rw [Array.getD_eq_getD_getElem?, List.getElem?_toArray, List.getElem?_map]
  have e : xs[i]? = some (xs.getD i 0) := by rw [List.getD_eq_getElem?_getD, List.getElem?_eq_getElem h]; rfl
  rw [e]
  simp only [Option.map_some, Option.getD_some]
  rw [UInt8.toNat_ofNat']
  omega
theorem bytesV_is {zs : List Int} {a n : Nat} (hby : ∀ k, k < n → 0 ≤ hz zs (a + 2 + k) ∧ hz zs (a + 2 + k) ≤ 255) : ∀ k, k ≤ n → bytesV (strOfNums (bytesL zs (a + 2) n)) k = byteL zs a k
  | 0, _ => rfl
  | k + 1, hk => by
    have hkn : k < n := by omega
    rw [bytesV_succ, bytesV_is hby k (by omega)]
    show _ = byteL zs a k ++ ([32] ++ digI (hz zs (a + 2 + k)))
    have e := bytesL_at (zs := zs) (f := a + 2) hkn
    rw [byteN_nums (by rw [bytesL_len]; exact hkn) (by rw [e]; exact hby k hkn), e]
set_option maxHeartbeats 8000000 in
set_option maxRecDepth 100000 in
theorem headAt_ok (w : World) (ao : Option Addr) (cap : Nat) (zs : List Int) (n : Nat) (hI : Ints w ao zs) (hT : Tab w) (hh : heapR zs = true) (hk : 1 ≤ kindAt zs (n : Int)) :
    Calls Tryz.prog 58 #[.slice ao zs.length cap, .int .i64 (n : Int)] w fun e w' => e = .returned (.string (strOfNums (headL zs n))) ∧ Kept w w' := by
  have hlen := (slabOk_iff.1 (heapR_slab hh)).1
  have hl : zs.length ≤ 1048576 := by omega
  have hL : zs.length * 8 ≤ 140737488351232 := by omega
  obtain ⟨n', en, hn, hg, esl, b, hbm, hbn⟩ := kind_nat hk
  obtain rfl : n = n' := by omega
  have hkd : (kd zs n : Int) = kindAt zs (n : Int) := by
    have h1 := atB_mem (heapR_slab hh) hbm
    obtain ⟨_, _, _, _, h2, _⟩ := atB_some h1
    rw [hbn] at h1 h2
    unfold kindAt
    rw [h1]
    show (kd zs n : Int) = ((b.1.kind : Nat) : Int)
    rw [h2]
  obtain ⟨-, -, -, hbs, hbk, -⟩ := atB_some (atB_mem (heapR_slab hh) hbm)
  rw [hbn] at hbs hbk
  have HTX : Hid (kd zs n = 1 → ∃ m : Nat, hz zs (n + 1) = (m : Int) ∧ n + 2 + m ≤ zs.length ∧ ∀ i, i < m → 0 ≤ hz zs (n + 2 + i) ∧ hz zs (n + 2 + i) ≤ 255) := fun h1 => by
    have := text_facts hh hbm (by rw [hbk]; exact h1)
    rw [hbn] at this
    obtain ⟨m, e1, e2, e3⟩ := this
    have := hg.le
    exact ⟨m, e1, by omega, e3⟩
  have hgl := hg.le
  have hs2 := hg.sz2
  have hk5 := hg.kd5
  have HHD : Hid (headL zs n = match kd zs n with
    | 1 => [116, 101, 120, 116] ++ byteL zs n (hz zs (n + 1)).toNat
    | 2 => [111, 98, 106]
    | 3 => [99, 101, 108, 108]
    | 4 => [102, 117, 110, 32] ++ digI (hz zs (n + 1))
    | 5 => [115, 99, 111, 112, 101]
    | _ => []) := rfl
  have hRB := readBlock_good w ao cap zs n hI hg hL
  have HI : Hid (Ints w ao zs) := hI
  have HT : Hid (Tab w) := hT
  obtain ⟨S, hS⟩ : ∃ S, sz zs n = S := ⟨_, rfl⟩
  obtain ⟨K, hK⟩ : ∃ K, kd zs n = K := ⟨_, rfl⟩
  rw [hK] at hRB HHD hk5 hkd HTX
  rw [hS] at hRB
  have hK1 : 1 ≤ K := by omega
  have hn1 : n + 1 < zs.length := by omega
  clear hK hS hkd hbs hbk hbm hbn en hk hg hgl hs2 hI hT b
  rcases (show K = 1 ∨ K = 2 ∨ K = 3 ∨ K = 4 ∨ K = 5 by omega) with rfl | rfl | rfl | rfl | rfl
  · obtain ⟨m, e1, e2, e3⟩ := HTX.out rfl
    have HRT : Hid _ := fun (u : World) (hu : Kept w u) => readText_ok u ao cap zs n m (Ints.kept HI.out hu) hl e1 e2 e3
    have HE : Hid ([116, 101, 120, 116] ++ bytesV (strOfNums (bytesL zs (n + 2) m)) (strOfNums (bytesL zs (n + 2) m)).size = headL zs n) := by
      rw [Hid, HHD.out, strOfNums_size, bytesL_len, bytesV_is e3 m (Nat.le_refl _), show (hz zs (n + 1)).toNat = m by omega]
      rfl
    have HTH : Hid (∀ u, Kept w u → Calls Tryz.prog 105 #[.string (strOfNums (bytesL zs (n + 2) m))] u fun e w' => e = .returned (.string (strOfNums (headL zs n))) ∧ Kept u w') := fun u hu => by
      have := textHead_ok u (strOfNums (bytesL zs (n + 2) m)) (HT.out.kept hu) (by rw [strOfNums_size, bytesL_len]; omega)
      rw [HE.out] at this
      exact this
    clear e1 e2 e3
    go_enter Tryz.func58, Tryz.ntmps58
    go_wp2_with (first | (go_at_call 56; refine hRB.mono ?_; rintro e w1 ⟨rfl, hk1⟩; have k1 : Kept w (w1.alloc (.cells (bkC n S (1 : Nat)) 81)) := hk1.alloc _; have c1 := (Cells.new w1 81 (bkC n S (1 : Nat))).cell 2) | (go_at_call 106; refine (HRT.out _ k1).mono ?_; rintro e w2 ⟨rfl, hk2⟩; have k2 := k1.trans hk2) | (go_at_call 105; refine (HTH.out _ k2).mono ?_; rintro e w3 ⟨rfl, hk3⟩))
    go_ret
    exact ⟨rfl, k2.trans hk3⟩
  · go_enter Tryz.func58, Tryz.ntmps58
    go_wp2_with (first | (go_at_call 56; refine hRB.mono ?_; rintro e w1 ⟨rfl, hk1⟩; have k1 : Kept w (w1.alloc (.cells (bkC n S (2 : Nat)) 81)) := hk1.alloc _; have c1 := (Cells.new w1 81 (bkC n S (2 : Nat))).cell 2))
    go_ret
    exact ⟨by rw [HHD.out]; rfl, k1⟩
  · go_enter Tryz.func58, Tryz.ntmps58
    go_wp2_with (first | (go_at_call 56; refine hRB.mono ?_; rintro e w1 ⟨rfl, hk1⟩; have k1 : Kept w (w1.alloc (.cells (bkC n S (3 : Nat)) 81)) := hk1.alloc _; have c1 := (Cells.new w1 81 (bkC n S (3 : Nat))).cell 2))
    go_ret
    exact ⟨by rw [HHD.out]; rfl, k1⟩
  · obtain ⟨bb, oo, ea, hca⟩ := HI.out.at hn1
    subst ea
    have cn := hca (n + 1) hn1
    have lb : bb < w.heap.size := World.block_lt_of_cell? _ _ cn
    have hzb := HI.out.1 _ (hz_mem hn1)
    have hIt := fun (u : World) (hu : Kept w u) => Itoa_ok (hz zs (n + 1)) hzb u (HT.out.kept hu)
    have hdl := digI_len (n := hz zs (n + 1)) hzb
    obtain ⟨x, hx⟩ : ∃ x, hz zs (n + 1) = x := ⟨_, rfl⟩
    rw [hx] at cn hIt hdl HHD
    obtain ⟨ds, hds⟩ : ∃ ds, digI x = ds := ⟨_, rfl⟩
    rw [hds] at hIt hdl HHD
    have HE : Hid (strOfNums (headL zs n) = ByteArray.mk #[102, 117, 110, 32] ++ strOfNums ds) := by
      rw [Hid, HHD.out]
      exact (strs_app [102, 117, 110, 32] ds).symm
    have hsz : ¬ 9223372036854775807 < (ByteArray.mk #[102, 117, 110, 32]).size + (strOfNums ds).size := by rw [strOfNums_size]; show ¬ _ < 4 + _; omega
    have q1 : (n : Int) + 1 < (zs.length : Int) := by omega
    have q0 : (0 : Int) ≤ (n : Int) + 1 := by omega
    have t1 : ((n : Int) + 1).toNat = n + 1 := by omega
    have wr1 : IntKind.i64.wrap ((n : Int) + 1) = (n : Int) + 1 := by rw [IntWalk.i64_left, IntWalk.wrap64_in _ (by omega)]
    clear hca hx hds hzb
    go_enter Tryz.func58, Tryz.ntmps58
    go_wp2_with (first | (go_at_call 56; refine hRB.mono ?_; rintro e w1 ⟨rfl, hk1⟩; have k1 : Kept w (w1.alloc (.cells (bkC n S (4 : Nat)) 81)) := hk1.alloc _; have c1 := (Cells.new w1 81 (bkC n S (4 : Nat))).cell 2; have cn1 := (hk1.cell (p := ⟨bb, oo + (n + 1), none⟩) lb).trans cn; have lb1 : bb < w1.heap.size := Nat.lt_of_lt_of_le lb hk1.size) | (go_at_call 99; refine (hIt _ k1).mono ?_; rintro e w2 ⟨rfl, hk2⟩))
    go_ret
    exact ⟨by rw [HE.out]; rfl, k1.trans hk2⟩
  · go_enter Tryz.func58, Tryz.ntmps58
    go_wp2_with (first | (go_at_call 56; refine hRB.mono ?_; rintro e w1 ⟨rfl, hk1⟩; have k1 : Kept w (w1.alloc (.cells (bkC n S (5 : Nat)) 81)) := hk1.alloc _; have c1 := (Cells.new w1 81 (bkC n S (5 : Nat))).cell 2))
    go_ret
    exact ⟨by rw [HHD.out]; rfl, k1⟩
theorem OwnL.full {W : World} {base : Nat} {v : Value} {l : List Int} (h : OwnL W base v l) : ∃ so sc, v = .slice so l.length sc ∧ Ints W so l ∧ l.length ≤ sc ∧ sc ≤ maxLen := by
  obtain ⟨so, sc, rfl, hI⟩ := h.ints
  rcases h.2.2 with ⟨e, h0⟩ | ⟨g, cap, cur, e, _, _, h1, h2, _⟩
  · injection e with e1 e2 e3
    exact ⟨so, sc, rfl, hI, by omega, by unfold maxLen; omega⟩
  · injection e with e1 e2 e3
    exact ⟨so, sc, rfl, hI, by omega, by omega⟩
theorem Ints.take {W : World} {so : Option Addr} {l : List Int} (h : Ints W so l) (k : Nat) : Ints W so (l.take k) := by
  refine ⟨fun z hz => h.1 z (List.mem_of_mem_take hz), ?_⟩
  rcases h.2 with h | ⟨b, off, rfl, hc⟩
  · exact .inl (by rw [h]; simp)
  · refine .inr ⟨b, off, rfl, fun j hj => ?_⟩
    rw [List.length_take] at hj
    rw [hc j (by omega)]
    congr 2
    unfold hz
    rw [List.getElem?_take_of_lt (by omega)]
set_option maxHeartbeats 8000000 in
set_option maxRecDepth 100000 in
theorem blockLine_ok (w : World) (b : Nat) (out : List Int) (ao : Option Addr) (cap : Nat) (zs : List Int) (n : Nat) (hI : Ints w ao zs) (hT : Tab w) (hN : NumMap w b out) (hol : out.length ≤ 1048576) (hh : heapR zs = true) (hk : 1 ≤ kindAt zs (n : Int)) (hin : ∀ v ∈ slotV zs (n : Int), ¬ v % 8 < 4 → v / 8 ∈ out) :
    Calls Tryz.prog 34 #[.map (some b), .slice ao zs.length cap, .int .i64 (n : Int)] w fun e w' => e = .returned (.string (strOfNums (lineL zs n out))) ∧ Kept w w' := by
  have hlen := (slabOk_iff.1 (heapR_slab hh)).1
  have hl : zs.length ≤ 1048576 := by omega
  have hL : zs.length * 8 ≤ 140737488351232 := by omega
  obtain ⟨n', en, hn, hg, esl, bq, hbm, hbn⟩ := kind_nat hk
  obtain rfl : n = n' := by omega
  have hsl := (leads_slots hh hk).2.1
  have hk5 := hg.kd5
  have HHL : Hid ((headL zs n).length ≤ 100000000) := by have := headL_len hI.1 hh hk; rw [Hid]; omega
  have hVA := valuesAt_ok w ao cap zs n hI hl hh hk
  have HRB : Hid (∀ u, Kept w u → Calls Tryz.prog 56 #[.slice ao zs.length cap, .int .i64 (n : Int)] u fun e w' => e = .returned (.tuple #[bkV n (sz zs n) (kd zs n), .bool true]) ∧ Kept u w') := fun u hu => readBlock_good u ao cap zs n (hI.kept hu) hg hL
  have HHA : Hid (∀ u, Kept w u → Calls Tryz.prog 58 #[.slice ao zs.length cap, .int .i64 (n : Int)] u fun e w' => e = .returned (.string (strOfNums (headL zs n))) ∧ Kept u w') := fun u hu => headAt_ok u ao cap zs n (hI.kept hu) (hT.kept hu) hh hk
  have HLN : Hid (∀ (u : World) (va : Option Addr) (vc : Nat) (vs : List Int), Kept w u → Ints u va vs → vs.length ≤ 1048576 → (∀ v ∈ vs, v ∈ slotV zs (n : Int)) → Calls Tryz.prog 32 #[.map (some b), .string (strOfNums (headL zs n)), .slice va vs.length vc] u fun e w' => e = .returned (.string (strOfNums (headL zs n ++ valsL vs out ++ [10]))) ∧ Kept u w') := fun u va vc vs hu hv hvl hm => line_ok u b out (headL zs n) va vc vs (hT.kept hu) (hN.kept hu.grown (by simp)) hol hv hvl (fun v hv => hin v (hm v hv)) HHL.out
  have HLD : Hid (lineL zs n out = headL zs n ++ valsL (toldL zs n) out ++ [10]) := rfl
  have HTD : Hid (toldL zs n = if kd zs n = 5 then (slotV zs (n : Int)).take (cutN (slotV zs (n : Int)) (slotV zs (n : Int)).length) else slotV zs (n : Int)) := rfl
  have hvl : (slotV zs (n : Int)).length ≤ 1048576 := by rw [slotV_len]; omega
  obtain ⟨sv, hsv⟩ : ∃ sv, slotV zs (n : Int) = sv := ⟨_, rfl⟩
  rw [hsv] at hVA HTD hvl HLN
  obtain ⟨S, hS⟩ : ∃ S, sz zs n = S := ⟨_, rfl⟩
  obtain ⟨K, hK⟩ : ∃ K, kd zs n = K := ⟨_, rfl⟩
  obtain ⟨hd, hhd⟩ : ∃ hd, headL zs n = hd := ⟨_, rfl⟩
  rw [hK] at HRB HTD hk5
  rw [hS] at HRB
  rw [hhd] at HHA HLN HLD
  clear hsv hS hK hhd hg esl hbm hbn en hk hh hI hT hN hin HHL bq
  by_cases h5 : K = 5
  · subst h5
    have HTK : Hid (toldL zs n = sv.take (cutN sv sv.length)) := by rw [Hid, HTD.out, if_pos rfl]
    have hcl := cutN_le sv sv.length
    have HCL : Hid ((sv.take (cutN sv sv.length)).length = cutN sv sv.length) := by rw [Hid, List.length_take]; omega
    go_enter Tryz.func34, Tryz.ntmps34
    go_wp2_with (first | (go_at_call 52; refine hVA.mono ?_; rintro e w1 ⟨v1, rfl, hO1, hk1⟩; obtain ⟨so, sc, rfl, hI1, hsc1, hsc2⟩ := hO1.full) | (go_at_call 56; refine (HRB.out _ hk1).mono ?_; rintro e w2 ⟨rfl, hk2⟩; have kb : Kept w2 (w2.alloc (.cells (bkC n S (5 : Nat)) 81)) := Kept.alloc (Below.refl _ _) _; have k2 := (hk1.trans hk2).trans kb; have c2 := (Cells.new w2 81 (bkC n S (5 : Nat))).cell 2; have hI2 := (hI1.kept hk2).kept kb; have hWL := withoutLast_ok _ so sc sv hI2 hsc1 hsc2) | (go_at_call 57; refine hWL.mono ?_; rintro e w3 ⟨rfl, rfl⟩) | (go_at_call 58; refine (HHA.out _ k2).mono ?_; rintro e w4 ⟨rfl, hk4⟩; have hLi := HLN.out w4 so sc (sv.take (cutN sv sv.length)) (k2.trans hk4) ((hI2.kept hk4).take _) (by rw [HCL.out]; omega) (fun v hv => List.mem_of_mem_take hv); rw [HCL.out] at hLi) | (go_at_call 32; refine hLi.mono ?_; rintro e w5 ⟨rfl, hk5⟩))
    go_ret
    exact ⟨by rw [HLD.out, HTK.out, List.append_assoc]; rfl, (k2.trans hk4).trans hk5⟩
  · have HTK : Hid (toldL zs n = sv) := by rw [Hid, HTD.out, if_neg h5]
    have hd5 : ((K : Int) == 5) = false := by simp; omega
    clear h5
    go_enter Tryz.func34, Tryz.ntmps34
    go_wp2_with (first | (go_at_call 52; refine hVA.mono ?_; rintro e w1 ⟨v1, rfl, hO1, hk1⟩; obtain ⟨so, sc, rfl, hI1, hsc1, hsc2⟩ := hO1.full) | (go_at_call 56; refine (HRB.out _ hk1).mono ?_; rintro e w2 ⟨rfl, hk2⟩; have kb : Kept w2 (w2.alloc (.cells (bkC n S K) 81)) := Kept.alloc (Below.refl _ _) _; have k2 := (hk1.trans hk2).trans kb; have c2 := (Cells.new w2 81 (bkC n S K)).cell 2; have hI2 := (hI1.kept hk2).kept kb) | (go_at_call 58; refine (HHA.out _ k2).mono ?_; rintro e w4 ⟨rfl, hk4⟩; have hLi := HLN.out w4 so sc sv (k2.trans hk4) (hI2.kept hk4) hvl (fun v hv => hv)) | (go_at_call 32; refine hLi.mono ?_; rintro e w5 ⟨rfl, hk5⟩))
    go_ret
    exact ⟨by rw [HLD.out, HTK.out, List.append_assoc]; rfl, (k2.trans hk4).trans hk5⟩
/-- Those that were met lie at their numbers. -/
def Placed (out : List Int) (left : Lit → Bool) (ys : List Int) : Prop := ys.length = out.length ∧ ∀ (k : Nat) (a : Int), out[k]? = some a → left (.int .i64 a) = false → ys[k]? = some a
theorem Placed.start {D : DataW Unit} {out : List Int} (h : NumIs D out) {ys : List Int} (hy : ys.length = out.length) : Placed out (Maps.has D) ys := ⟨hy, fun k a ha hl => by
  rw [h.has] at hl
  have := List.mem_of_getElem? ha
  simp [this] at hl⟩
theorem Placed.step {out ys : List Int} {left : Lit → Bool} (h : Placed out left ys) (hd : out.Nodup) {x : Int} {k : Nat} (hk : out[k]? = some x) : Placed out (fun z => left z && !z.sameKey (.int .i64 x)) (ys.set k x) := by
  refine ⟨by rw [List.length_set]; exact h.1, fun j a ha hl => ?_⟩
  have hkl := (List.getElem?_eq_some_iff.1 hk).1
  have hjl := (List.getElem?_eq_some_iff.1 ha).1
  rw [List.getElem?_set]
  by_cases e : k = j
  · subst e
    rw [hk] at ha
    cases ha
    rw [if_pos rfl, if_pos (by rw [h.1]; exact hkl)]
  · rw [if_neg e]
    refine h.2 j a ha ?_
    have hne : a ≠ x := by
      intro e2
      subst e2
      rcases Nat.lt_or_gt_of_ne e with hlt | hlt
      · exact nodup_at hd hlt hk ha
      · exact nodup_at hd hlt ha hk
    simp only [sameN_key, Bool.and_eq_false_iff, Bool.not_eq_false', decide_eq_true_eq] at hl
    rcases hl with hl | hl
    · exact hl
    · exact absurd hl hne
theorem Placed.ends {out ys : List Int} {left : Lit → Bool} (h : Placed out left ys) (hl : ∀ kl, left kl = false) : ys = out := by
  apply List.ext_getElem?
  intro j
  rcases Nat.lt_or_ge j out.length with hj | hj
  · rw [List.getElem?_eq_getElem hj]
    exact h.2 j _ (List.getElem?_eq_getElem hj) (hl _)
  · rw [List.getElem?_eq_none hj, List.getElem?_eq_none (by rw [h.1]; exact hj)]
theorem NumIs.met7 {D : DataW Unit} {out : List Int} (h : NumIs D out) {x c : Int} (hat : ∀ zd, D.atKey (.int .i64 x) zd = .lit (.int .i64 c)) : ∃ k : Nat, c = k ∧ out[k]? = some x := by
  have hh := has_true_of_atKey hat
  rw [h.has] at hh
  have hx : x ∈ out := by simpa using hh
  obtain ⟨k, hk, e⟩ := List.getElem_of_mem hx
  have hs : out[k]? = some x := by rw [List.getElem?_eq_getElem hk, e]
  refine ⟨k, ?_, hs⟩
  have := h.val k x hs (.map [])
  rw [hat] at this
  injection this with this
  injection this
set_option maxHeartbeats 8000000 in
set_option maxRecDepth 100000 in
theorem inOrder_ok (w : World) (b : Nat) (out : List Int) (hol : out.length ≤ 1048576) (hob : ∀ a ∈ out, -9223372036854775808 ≤ a ∧ a ≤ 9223372036854775807) (hN : NumMap w b out) :
    Calls Tryz.prog 33 #[.map (some b)] w fun e w' => e = .returned (.slice (some ⟨w.heap.size, 0, none⟩) out.length out.length) ∧ Row w' w.heap.size out ∧ Kept w w' := by
  obtain ⟨i0, hi, hz0, hz1, hz2⟩ := info_parts infoI
  obtain ⟨n, D, hown, hD, hn⟩ := hN
  have hbw := hown.lt
  have HDS : Hid (Maps.size D = out.length) := hD.size
  go_enter Tryz.func33, Tryz.ntmps33
  go_wp2_with (first
    | (at_len; refine wpList_len_own _ rfl _ 51 rfl 3 3 Tryz.underlying51 _ b n _ rfl hown ?_; rw [HDS.out])
    | (at_make; refine wpList_make_full _ rfl _ _ 24 rfl w.heap.size 3 i0 (.int .i64 0) 1 Tryz.underlying24 hi hz0 hz1 .i64 .i64 _ _ out.length rfl rfl rfl rfl (by rw [hz2]; omega) (by unfold maxLen; omega) (Nat.le_refl _) ?_; intro w1 hown1 hgrow)
    | (at_range; refine wpList_range_own _ rfl _ 51 rfl 3 3 lawN Tryz.underlying51 _ b n _ rfl (hown.kept hgrow (by simp)) ?_; intro w0 hrg0 hg0 hs0)
    | go_in)
  go_frame
  rw [madeInts] at hown1
  have hR := (Row.of_owns hown1 (by simp)).1
  have hK1 : Kept w w1 := (Below.refl _ w).grown hgrow (Nat.le_refl _) (by simp)
  have hK0 : Kept w w0 := (Below.refl _ w).grown (hgrow.andThen hg0 (by simp)) (Nat.le_refl _) (by simp)
  have hgw := hR.lt
  have hR0 : Row w0 w.heap.size (List.replicate out.length 0) := hR.grown hg0 (by simp)
  clear hown1 hgrow hR hown hg0 hs0
  go_loopw [4] (fun _ wr => ∃ (left : Lit → Bool) (cnt : Nat) (ys : List Int), wr.ranges Tryz.prog 3 (plainElem Tryz.prog 3) b w1.heap.size n D left cnt ∧ Placed out left ys ∧ Row wr w.heap.size ys ∧ Kept w wr)
    (fun _ wr => wr.rangeLeft b w1.heap.size)
  case atStart => exact ⟨_, _, _, hrg0, Placed.start hD (by simp), hR0, hK0⟩
  case round =>
    obtain ⟨left, cnt, ys, hrg, hP, hRk, hK⟩ := hrel
    clear hrg0 hR0 hK0
    go_wp2_with (first
      | (at_next; refine wpList_next_ranges_ii _ rfl _ rfl 3 3 .i64 .i64 lawN Tryz.underlying3 Tryz.underlying3 b w1.heap.size n _ _ _ rfl hrg ?_ ?_)
      | go_in)
    · intro _ hl0
      have HE : Hid (ys = out) := hP.ends hl0
      clear hl0 hP
      go_wp2
      go_ret
      exact ⟨rfl, by rw [← HE.out]; exact hRk, hK⟩
    · intro x c w2 cnt1 hwx hwc hlx hat hrg1 hlt hg1 hs1 hen
      obtain ⟨k, rfl, hkx⟩ := hD.met7 hat
      have hkl := (List.getElem?_eq_some_iff.1 hkx).1
      have HP : Hid (Placed out (fun z => left z && !z.sameKey (.int .i64 x)) (ys.set k x)) := hP.step hD.nodup hkx
      have hxb := hob x (List.mem_of_getElem? hkx)
      have hyl := hP.1
      have hR2 : Row w2 w.heap.size ys := hRk.grown hg1 (by intro e; injection e with e; omega)
      have hK2 : Kept w w2 := Kept.grownRow hK hg1 (fun j hj => by cases hj; omega)
      have hcg := hR2.cell (j := k) (by omega)
      have hfg := hR2.frozen k
      have HR : Hid _ := hR2.set (k := k) (v := x) (by omega) hxb
      have HK : Hid (Kept w _) := hK2.setCell (p := ⟨w.heap.size, k, none⟩) (Nat.le_refl _) (.int .i64 x)
      have HG : Hid _ := grown_set (g := w.heap.size) (k := k) (World.grownBy.self w2 (some w.heap.size)) (.int .i64 x)
      have q1 : (k : Int) < (out.length : Int) := by omega
      have q0 : (0 : Int) ≤ (k : Int) := by omega
      have hrg2 := hrg1.kept HG.out (by intro e; injection e with e; omega) (by intro e; injection e with e; omega)
      clear hat hkx hP hRk hK hs1 hR2 hK2
      go_wp2
      go_roundw
      case rel => exact ⟨_, cnt1, ys.set k x, hrg2, HP.out, HR.out, HK.out⟩
      case measure => rw [hrg2.left_eq, hrg.left_eq]; exact hlt
end Go.Proofs.YtgnpllpinfhccaaGreatDoor
namespace Go.Proofs.YtgnpllpinfhccaaGreatDoor
open Go.RowKit Go.Maps
attribute [local go_sem] Plain.and7

theorem NumMap.block {w w' : World} {b : Nat} {out : List Int} (h : NumMap w b out) (e : w'.heap[b]? = w.heap[b]?) : NumMap w' b out := by
  obtain ⟨n, D, ⟨es, clock, hb, rest⟩, h2⟩ := h
  exact ⟨n, D, ⟨es, clock, e.trans hb, rest⟩, h2⟩
theorem Row.others {w w' : World} {g B : Nat} {zs : List Int} (h : Row w g zs) (ho : Lib.OthersKept 5 (some B) w w') (hne : g ≠ B) : Row w' g zs := by
  have h' := h
  obtain ⟨_, cur, hc, _⟩ := h'
  refine h.block ?_
  rw [ho g _ hc (by intro e; injection e with e; exact hne e) (by intro c fz e; injection e with _ e; exact absurd e (by decide))]
  exact hc.symm
set_option maxHeartbeats 16000000 in
set_option maxRecDepth 100000 in
theorem impl_Picture_ok (w : World) (ao ro : Option Addr) (cap rc : Nat) (zs rs : List Int) (hI : Ints w ao zs) (hl : zs.length ≤ 1048576) (hR : Ints w ro rs) (hrl : rs.length ≤ 1048576) (hT : Tab w) :
    Calls Tryz.prog 11 #[.agg #[.slice ao zs.length cap], .slice ro rs.length rc] w fun e w' => e = .returned (.string (strOfNums (picL zs rs))) ∧ Kept w w' := by
  have b0 := Cells.new w 26 #[.slice ao zs.length cap]
  have k0 : Kept w (w.alloc (.cells #[.slice ao zs.length cap] 26)) := Kept.alloc (Below.refl _ _) _
  have hRo := impl_RootsOk_ok _ ao ro cap rc zs rs (hI.kept k0) hl (hR.kept k0) hrl
  cases hr : rootsR zs rs with
  | false =>
    have HR : Hid (picL zs rs = []) := by simp [Hid, picL, hr]
    rw [hr] at hRo
    clear hr hI hR
    go_enter Tryz.func11, Tryz.ntmps11
    go_wp2_with (go_at_call 13; refine hRo.mono ?_; rintro e w1 ⟨rfl, hk1⟩)
    go_ret
    exact ⟨by rw [HR.out]; rfl, k0.trans hk1⟩
  | true =>
    have hh : heapR zs = true := by
      have := hr
      unfold rootsR at this
      simp only [Bool.and_eq_true] at this
      exact this.1
    have hlen := (slabOk_iff.1 (heapR_slab hh)).1
    rw [hr] at hRo
    have hM := ordL_met hr
    have hS := ordL_shut hr
    have HPic : Hid (picL zs rs = ([114, 111, 111, 116, 115] ++ valsL rs (ordL zs rs) ++ [10]) ++ linesL zs (ordL zs rs) (ordL zs rs)) := by rw [Hid, picL, if_pos hr]
    have HMF : Hid _ := fun (u : World) (hu : Kept w u) => metFrom_ok u ao ro cap rc zs rs (hI.kept hu) hl (hR.kept hu) hrl hr
    obtain ⟨order, hor⟩ : ∃ order, ordL zs rs = order := ⟨_, rfl⟩
    rw [hor] at hM hS HPic HMF
    have hol : order.length ≤ 2000 := Nat.le_trans hM.len hlen
    have HOB : Hid (∀ a ∈ order, -9223372036854775808 ≤ a ∧ a ≤ 9223372036854775807) := hM.bd hl
    have HOK : Hid (∀ a ∈ order, 1 ≤ kindAt zs a) := hM.2
    have HSR : Hid (∀ v ∈ rs, ¬ v % 8 < 4 → v / 8 ∈ order) := hS.1
    have HSS : Hid (∀ a ∈ order, Shut zs order a) := hS.2
    have hvl : (valsL rs order).length ≤ 24 * rs.length := valsL_len hR.1 (by omega)
    have HLL : Hid (∀ k, (linesL zs order (order.take k)).length ≤ 100000 * order.length) := fun k => by
      have := linesL_len (order := order) (os := order.take k) hI.1 hh (by omega) (fun a ha => hM.2 a (List.mem_of_mem_take ha))
      rw [List.length_take] at this
      exact Nat.le_trans this (Nat.mul_le_mul_left _ (Nat.min_le_right _ _))
    have HI : Hid (Ints w ao zs) := hI
    have HR : Hid (Ints w ro rs) := hR
    have HT : Hid (Tab w) := hT
    have HH : Hid (heapR zs = true) := hh
    obtain ⟨rl, hrlE⟩ : ∃ rl, [114, 111, 111, 116, 115] ++ valsL rs order ++ [10] = rl := ⟨_, rfl⟩
    have hrll : rl.length ≤ 100000000 := by rw [← hrlE]; simp only [List.length_append, List.length_cons, List.length_nil]; omega
    have hstr : strOfNums [114, 111, 111, 116, 115] = ByteArray.mk #[114, 111, 111, 116, 115] := rfl
    have HLi : Hid (∀ (u : World) (b : Nat), Kept w u → NumMap u b order → Calls Tryz.prog 32 #[.map (some b), .string (ByteArray.mk #[114, 111, 111, 116, 115]), .slice ro rs.length rc] u fun e w' => e = .returned (.string (strOfNums rl)) ∧ Kept u w') := fun u b hu hN => by
      have := line_ok u b order [114, 111, 111, 116, 115] ro rc rs (HT.out.kept hu) hN (by omega) (Ints.kept HR.out hu) hrl HSR.out (by simp)
      rw [hstr, hrlE] at this
      exact this
    rw [hrlE] at HPic
    clear hr hI hR hM hS hT hh hor hstr hrlE
    go_enter Tryz.func11, Tryz.ntmps11
    go_wp2_with (first | (go_at_call 13; refine hRo.mono ?_; rintro e w1 ⟨rfl, hk1⟩; have c1 := (b0.kept hk1).cell 0) | (go_at_call 30; refine (HMF.out _ (k0.trans hk1)).mono ?_; rintro e w2 ⟨b2, rfl, hb2, hN2, hk2⟩; have K2 := (k0.trans hk1).trans hk2; have kB : Kept w2 (w2.alloc (.cells #[.pointer none, .slice none 0 0] 55)) := Kept.alloc (Below.refl _ _) _; have lb2 := hN2.lt; have x2 := (b0.kept hk1).kept hk2; have hB0 := BldS.new w2; have hNB := hN2.kept kB.grown (by simp)) | (go_at_call 32; refine (HLi.out _ b2 (K2.trans kB) hNB).mono ?_; rintro e w3 ⟨rfl, hk3⟩; have hWS := WriteString_ok w3 w2.heap.size [] rl (hB0.kept hk3) (by simp only [List.length_nil]; omega)) | (go_at_call 31; refine hWS.mono ?_; rintro e w4 ⟨rfl, hB4, hb4, ho4⟩; have kB3 := kB.trans hk3; have K4 : Kept w w4 := Below.trans (K2.trans kB3) (hb4.mono K2.size); have hN4 : NumMap w4 b2 order := (hN2.kept kB3.grown (by simp)).block (hb4.block b2 (Nat.lt_of_lt_of_le lb2 (Nat.le_refl _))); have hIO := inOrder_ok w4 b2 order (by omega) HOB.out hN4) | (go_at_call 33; refine hIO.mono ?_; rintro e w5 ⟨rfl, hR5, hk5⟩))
    have lB4 : w2.heap.size < w4.heap.size := hB4.lt
    have hB5 : BldS w5 w2.heap.size (rl ++ linesL zs order (order.take 0)) := by simpa [linesL] using hB4.kept hk5
    have hN5 : NumMap w5 b2 order := hN4.kept hk5.grown (by simp)
    have x5 : Cells w5 w.heap.size 26 #[.slice ao zs.length cap] := Cells.kept ((hb4.block w.heap.size x2.lt).trans (x2.kept kB3)) hk5
    have K5 := K4.trans hk5
    have lbB : b2 < w2.heap.size := lb2
    have lsB : w.heap.size < w2.heap.size := x2.lt
    clear c1 hB0 hNB hWS hB4 hb4 ho4 hN4 hIO hk5 hk3 kB3 kB hk2 hk1 hN2 x2 K4 hRo b0 k0
    go_loopw [24] (fun i wr => ∃ k : Nat, i = .int .i64 k ∧ k ≤ order.length ∧ BldS wr w2.heap.size (rl ++ linesL zs order (order.take k)) ∧ NumMap wr b2 order ∧ Row wr w4.heap.size order ∧ Cells wr w.heap.size 26 #[.slice ao zs.length cap] ∧ Kept w wr) (fun i _ => order.length - (intOf i).toNat)
    case atStart => exact ⟨0, rfl, Nat.zero_le _, hB5, hN5, hR5, x5, K5⟩
    case round =>
      obtain ⟨k, rfl, hk, hB, hN, hRr, hx, hK⟩ := hrel
      clear hB5 hN5 hR5 x5 K5
      have hll := HLL.out k
      by_cases hlt : k < order.length
      · have hka := HOK.out _ (hz_mem hlt)
        obtain ⟨n, en, hnl, _⟩ := kind_nat hka
        have ck := hRr.cell (j := k) hlt
        rw [en] at ck hka
        have hsh : ∀ v ∈ slotV zs (n : Int), ¬ v % 8 < 4 → v / 8 ∈ order := by
          have := HSS.out _ (hz_mem hlt)
          rw [en] at this
          exact this
        have HLS : Hid (linesL zs order (order.take (k + 1)) = linesL zs order (order.take k) ++ lineL zs n order) := by rw [Hid, take_hz hlt, linesL_snoc, en, Int.toNat_natCast]
        have hll2 : (lineL zs n order).length ≤ 100000 := lineL_len HI.out.1 HH.out hka (by omega)
        have hBL := blockLine_ok wr b2 order ao cap zs n (Ints.kept HI.out hK) (HT.out.kept hK) hN (by omega) HH.out hka hsh
        obtain ⟨ln, hln⟩ : ∃ ln, lineL zs n order = ln := ⟨_, rfl⟩
        obtain ⟨ys, hys⟩ : ∃ ys, rl ++ linesL zs order (order.take k) = ys := ⟨_, rfl⟩
        have hyl : ys.length ≤ 1000000000 := by rw [← hys, List.length_append]; omega
        rw [hln] at hBL HLS hll2
        have HYS : Hid (rl ++ linesL zs order (order.take (k + 1)) = ys ++ ln) := by rw [Hid, HLS.out, ← List.append_assoc, hys]
        rw [hys] at hB
        have cs := hx.cell 0
        have q1 : (k : Int) < (order.length : Int) := by omega
        have q0 : (0 : Int) ≤ (k : Int) := by omega
        have HB : Hid (BldS wr w2.heap.size ys) := hB
        have HN : Hid (NumMap wr b2 order) := hN
        have HRr : Hid (Row wr w4.heap.size order) := hRr
        have HX : Hid (Cells wr w.heap.size 26 #[.slice ao zs.length cap]) := hx
        have HK : Hid (Kept w wr) := hK
        clear en hka hsh hln hys hB hN hRr hx hK HLS
        go_wp2_with (first | (go_at_call 34; refine hBL.mono ?_; rintro e w6 ⟨rfl, hk6⟩; have hWS := WriteString_ok w6 w2.heap.size ys ln (HB.out.kept hk6) (by omega)) | (go_at_call 31; refine hWS.mono ?_; rintro e w7 ⟨rfl, hB7, hb7, ho7⟩))
        have hN7 : NumMap w7 b2 order := (HN.out.kept hk6.grown (by simp)).block (hb7.block b2 lbB)
        have hR7 : Row w7 w4.heap.size order := (HRr.out.kept hk6).others ho7 (by omega)
        have hx7 : Cells w7 w.heap.size 26 #[.slice ao zs.length cap] := (hb7.block w.heap.size lsB).trans (HX.out.kept hk6)
        have K7 : Kept w w7 := Below.trans (Kept.trans HK.out hk6) (hb7.mono (Nat.le_of_lt lsB))
        go_roundw
        case rel => exact ⟨k + 1, by go_num, by omega, by rw [HYS.out]; exact hB7, hN7, hR7, hx7, K7⟩
        case measure => simp [intOf]; omega
      · obtain rfl : k = order.length := by omega
        rw [List.take_length] at hB
        rw [← HPic.out] at hB
        have hStr := String_ok wr w2.heap.size _ hB
        have HK : Hid (Kept w wr) := hK
        clear hB hN hRr hx hK
        go_wp2_with (go_at_call 35; refine hStr.mono ?_; rintro e w3 ⟨rfl, hb3⟩)
        go_ret
        exact ⟨rfl, Below.trans HK.out (hb3.mono (Nat.le_of_lt lsB))⟩
end Go.Proofs.YtgnpllpinfhccaaGreatDoor
namespace Go.Proofs.YtgnpllpinfhccaaGreatDoor
open Go.RowKit Go.Maps
attribute [local go_sem] Plain.and7

set_option maxHeartbeats 16000000 in
set_option maxRecDepth 100000 in
theorem impl_SameSight_ok (w : World) (ao bo ro so : Option Addr) (ca cb cr cs : Nat) (xs one ys two : List Int) (hA : Ints w ao xs) (hB : Ints w bo ys) (hR : Ints w ro one) (hS : Ints w so two) (hl : xs.length ≤ 1048576) (hm : ys.length ≤ 1048576) (h1 : one.length ≤ 1048576) (h2 : two.length ≤ 1048576) (hT : Tab w) :
    Calls Tryz.prog 8 #[.agg #[.slice ao xs.length ca], .slice ro one.length cr, .agg #[.slice bo ys.length cb], .slice so two.length cs] w fun e w' => e = .returned (.bool (sightR xs one ys two)) ∧ Kept w w' := by
  have b0 := (Cells.new w 26 #[.slice ao xs.length ca]).alloc (.cells #[.slice bo ys.length cb] 26)
  have b1 := Cells.new (w.alloc (.cells #[.slice ao xs.length ca] 26)) 26 #[.slice bo ys.length cb]
  have k0 : Kept w ((w.alloc (.cells #[.slice ao xs.length ca] 26)).alloc (.cells #[.slice bo ys.length cb] 26)) := (Kept.alloc (Below.refl _ _) _).alloc _
  simp only [World.size_alloc] at b1
  go_enter Tryz.func8, Tryz.ntmps8
  go_wp2_with fail
  obtain ⟨WX, hWX⟩ : ∃ WX, (w.alloc (.cells #[.slice ao xs.length ca] 26)).alloc (.cells #[.slice bo ys.length cb] 26) = WX := ⟨_, rfl⟩
  rw [hWX] at b0 b1 k0
  simp only [hWX]
  have kd7 : ∀ u, Kept WX.drew u → Kept WX u := fun u hu => Kept.trans (Below.refl _ WX).drew hu
  have y0 : ∀ u, Kept WX.drew u → u.cell? ⟨w.heap.size, 0, none⟩ = some (.slice ao xs.length ca) := fun u hu => (b0.kept (kd7 u hu)).cell 0
  have y1 : ∀ u, Kept WX.drew u → u.cell? ⟨w.heap.size + 1, 0, none⟩ = some (.slice bo ys.length cb) := fun u hu => (b1.kept (kd7 u hu)).cell 0
  have HKW : Hid (∀ u, Kept WX.drew u → Kept w u) := fun u hu => Kept.trans k0 (kd7 u hu)
  have HC1 : Hid (∀ u, Kept WX.drew u → Calls Tryz.prog 13 #[.agg #[.slice ao xs.length ca], .slice ro one.length cr] u fun e w' => e = .returned (.bool (rootsR xs one)) ∧ Kept u w') := fun u hu => impl_RootsOk_ok u ao ro ca cr xs one (hA.kept (HKW.out u hu)) hl (hR.kept (HKW.out u hu)) h1
  have HC2 : Hid (∀ u, Kept WX.drew u → Calls Tryz.prog 13 #[.agg #[.slice bo ys.length cb], .slice so two.length cs] u fun e w' => e = .returned (.bool (rootsR ys two)) ∧ Kept u w') := fun u hu => impl_RootsOk_ok u bo so cb cs ys two (hB.kept (HKW.out u hu)) hm (hS.kept (HKW.out u hu)) h2
  have C3 : Hid (∀ u, Kept WX.drew u → Calls Tryz.prog 11 #[.agg #[.slice ao xs.length ca], .slice ro one.length cr] u fun e w' => e = .returned (.string (strOfNums (picL xs one))) ∧ Kept u w') := fun u hu => impl_Picture_ok u ao ro ca cr xs one (hA.kept (HKW.out u hu)) hl (hR.kept (HKW.out u hu)) h1 (hT.kept (HKW.out u hu))
  have C4 : Hid (∀ u, Kept WX.drew u → Calls Tryz.prog 11 #[.agg #[.slice bo ys.length cb], .slice so two.length cs] u fun e w' => e = .returned (.string (strOfNums (picL ys two))) ∧ Kept u w') := fun u hu => impl_Picture_ok u bo so cb cs ys two (hB.kept (HKW.out u hu)) hm (hS.kept (HKW.out u hu)) h2 (hT.kept (HKW.out u hu))
  cases hr : rootsR xs one with
  | false =>
    have HE : Hid (sightR xs one ys two = false) := by simp [Hid, sightR, hr]
    have C1 : Hid (∀ u, Kept WX.drew u → Calls Tryz.prog 13 #[.agg #[.slice ao xs.length ca], .slice ro one.length cr] u fun e w' => e = .returned (.bool false) ∧ Kept u w') := fun u hu => by have := HC1.out u hu; rw [hr] at this; exact this
    clear hr hA hB hR hS hT HC1 HC2 C3 C4 hWX b0 b1 k0
    refine wp_region_seqL (by kernel_rfl) (by kernel_rfl) ?_
    repeat (first
      | (refine SeqL.skip (by rfl) ?_; simp only [Act.put, List.setIfInBounds_toArray, List.set_cons_zero, List.set_cons_succ])
      | (refine SeqL.pure ?_ (by rfl) ?_ ?_; rotate_left; (focus (intro u hu; have y0' := y0 u hu; have y1' := y1 u hu; go_simp; first | done | exact rfl)); simp only [Act.put, List.setIfInBounds_toArray, List.set_cons_zero, List.set_cons_succ])
      | (refine SeqL.call _ _ _ (by rfl) ?_ C1.out ?_; (focus (intro u; go_simp; done)); simp only [Act.put, List.setIfInBounds_toArray, List.set_cons_zero, List.set_cons_succ]))
    refine SeqL.nil ?_
    intro w5 hu5
    have K5 := HKW.out w5 hu5
    clear y0 y1 C1 kd7
    go_wp2_with fail
    go_ret
    exact ⟨by rw [HE.out]; rfl, K5⟩
  | true =>
    have C1 : Hid (∀ u, Kept WX.drew u → Calls Tryz.prog 13 #[.agg #[.slice ao xs.length ca], .slice ro one.length cr] u fun e w' => e = .returned (.bool true) ∧ Kept u w') := fun u hu => by have := HC1.out u hu; rw [hr] at this; exact this
    cases hs : rootsR ys two with
    | false =>
      have HE : Hid (sightR xs one ys two = false) := by
        have e1 : picL ys two = [] := by simp [picL, hs]
        have e2 : ∃ c l, picL xs one = c :: l := ⟨114, _, by rw [picL, if_pos hr]; rfl⟩
        obtain ⟨c, l, e2⟩ := e2
        rw [Hid, sightR, hr, e1, e2, Bool.true_and]
        rw [beq_toListBytes, ByteArray.toList_eq, ByteArray.toList_eq, strOfNums_data, strOfNums_data]
        rfl
      have C2 : Hid (∀ u, Kept WX.drew u → Calls Tryz.prog 13 #[.agg #[.slice bo ys.length cb], .slice so two.length cs] u fun e w' => e = .returned (.bool false) ∧ Kept u w') := fun u hu => by have := HC2.out u hu; rw [hs] at this; exact this
      clear hr hs hA hB hR hS hT HC1 HC2 C3 C4 hWX b0 b1 k0
      refine wp_region_seqL (by kernel_rfl) (by kernel_rfl) ?_
      repeat (first
        | (refine SeqL.skip (by rfl) ?_; simp only [Act.put, List.setIfInBounds_toArray, List.set_cons_zero, List.set_cons_succ])
        | (refine SeqL.pure ?_ (by rfl) ?_ ?_; rotate_left; (focus (intro u hu; have y0' := y0 u hu; have y1' := y1 u hu; go_simp; first | done | exact rfl)); simp only [Act.put, List.setIfInBounds_toArray, List.set_cons_zero, List.set_cons_succ])
        | (refine SeqL.call _ _ _ (by rfl) ?_ C1.out ?_; (focus (intro u; go_simp; done)); simp only [Act.put, List.setIfInBounds_toArray, List.set_cons_zero, List.set_cons_succ])
        | (refine SeqL.call _ _ _ (by rfl) ?_ C2.out ?_; (focus (intro u; go_simp; done)); simp only [Act.put, List.setIfInBounds_toArray, List.set_cons_zero, List.set_cons_succ]))
      refine SeqL.nil ?_
      intro w5 hu5
      have K5 := HKW.out w5 hu5
      clear y0 y1 C1 C2 kd7
      go_wp2_with fail
      go_ret
      exact ⟨by rw [HE.out]; rfl, K5⟩
    | true =>
      have C2 : Hid (∀ u, Kept WX.drew u → Calls Tryz.prog 13 #[.agg #[.slice bo ys.length cb], .slice so two.length cs] u fun e w' => e = .returned (.bool true) ∧ Kept u w') := fun u hu => by have := HC2.out u hu; rw [hs] at this; exact this
      obtain ⟨P, hP⟩ : ∃ P, strOfNums (picL xs one) = P := ⟨_, rfl⟩
      obtain ⟨Q, hQ⟩ : ∃ Q, strOfNums (picL ys two) = Q := ⟨_, rfl⟩
      have HE : Hid (sightR xs one ys two = (P == Q)) := by simp [Hid, sightR, hr, hP, hQ]
      obtain ⟨r, hrr⟩ : ∃ r, (P == Q) = r := ⟨_, rfl⟩
      have e2 : (P.toList == Q.toList) = r := by rw [← beq_toListBytes]; exact hrr
      rw [hrr] at HE
      rw [hP] at C3
      rw [hQ] at C4
      clear hr hs hP hQ hrr hA hB hR hS hT HC1 HC2 hWX b0 b1 k0
      refine wp_region_seqL (by kernel_rfl) (by kernel_rfl) ?_
      repeat (first
        | (refine SeqL.skip (by rfl) ?_; simp only [Act.put, List.setIfInBounds_toArray, List.set_cons_zero, List.set_cons_succ])
        | (refine SeqL.pure ?_ (by rfl) ?_ ?_; rotate_left; (focus (intro u hu; have y0' := y0 u hu; have y1' := y1 u hu; go_simp; first | done | exact rfl)); simp only [Act.put, List.setIfInBounds_toArray, List.set_cons_zero, List.set_cons_succ])
        | (refine SeqL.call _ _ _ (by rfl) ?_ C1.out ?_; (focus (intro u; go_simp; done)); simp only [Act.put, List.setIfInBounds_toArray, List.set_cons_zero, List.set_cons_succ])
        | (refine SeqL.call _ _ _ (by rfl) ?_ C2.out ?_; (focus (intro u; go_simp; done)); simp only [Act.put, List.setIfInBounds_toArray, List.set_cons_zero, List.set_cons_succ])
        | (refine SeqL.call _ _ _ (by rfl) ?_ C3.out ?_; (focus (intro u; go_simp; done)); simp only [Act.put, List.setIfInBounds_toArray, List.set_cons_zero, List.set_cons_succ])
        | (refine SeqL.call _ _ _ (by rfl) ?_ C4.out ?_; (focus (intro u; go_simp; done)); simp only [Act.put, List.setIfInBounds_toArray, List.set_cons_zero, List.set_cons_succ]))
      refine SeqL.nil ?_
      intro w5 hu5
      have K5 := HKW.out w5 hu5
      clear y0 y1 C1 C2 C3 C4 kd7
      go_wp2_with fail
      go_ret
      exact ⟨by rw [HE.out]; rfl, K5⟩
end Go.Proofs.YtgnpllpinfhccaaGreatDoor
