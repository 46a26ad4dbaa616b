/-
  The contracts of chapters 11 and 13's words and names: wordsOf, isWord, isName, isProperty, isQuotable, areNames.
-/
import Derived.Test.YtejpjbfmjmfnmaaGreatDoorRdC
import Derived.Test.YtejpjbfmjmfnmaaGreatDoorSpnP
namespace Go.Proofs.YtejpjbfmjmfnmaaGreatDoor
open Go.RowKit
set_option linter.unusedSimpArgs false

def wordText : ByteArray := { data := #[108, 101, 116, 32, 105, 102, 32, 101, 108, 115, 101, 32, 119, 104, 105, 108, 101, 32, 114, 101, 116, 117, 114, 110, 32, 112, 114, 105, 110, 116, 32, 102, 117, 110, 99, 116, 105, 111, 110, 32, 116, 114, 117, 101, 32, 102, 97, 108, 115, 101, 32, 110, 117, 108, 108, 32, 117, 110, 100, 101, 102, 105, 110, 101, 100, 32, 112, 114, 111, 116, 111] }
theorem fields_words : Lib.fields wordText.data.toList = wordsL.map (·.data.toList) := by decide +kernel
theorem ascii_words : wordText.data.toList.all (fun b => decide (b.toNat < 128)) = true := by decide +kernel
theorem fields_cells : ((Lib.fields wordText.data.toList).map fun l => Value.string ⟨l.toArray⟩).toArray = (wordsL.map Value.string).toArray := by
  rw [fields_words, List.map_map]
  rfl
theorem contains_words (s : ByteArray) : Lib.containsS wordsL s = isW s := by
  rw [Bool.eq_iff_iff, Lib.containsS_iff, isW, List.any_eq_true]
  constructor
  · intro h; exact ⟨s, h, by simp⟩
  · rintro ⟨x, hx, h⟩
    rw [decide_eq_true_eq] at h
    rw [h]; exact hx
theorem wordsOf_ok (w : World) (hE : EnvA w) :
    Calls Tryz.prog 121 #[] w fun e w' => e = .returned (.slice (some ⟨w.heap.size, 0, none⟩) 12 12) ∧ w' = w.alloc (.cells (wordsL.map Value.string).toArray 9) := by
  have hF := lib_strings_Fields_laid wordText w (by decide) (fun j b hj => by have := List.all_eq_true.1 ascii_words b (List.mem_of_getElem? hj); simpa using this) hE.asc
  rw [fields_cells, fields_words] at hF
  rw [show (wordsL.map (fun x : ByteArray => x.data.toList)).length = 12 from rfl] at hF
  go_enter Tryz.func121, Tryz.ntmps121
  go_wp2_with (go_at_call 135; refine hF.mono ?_; rintro e w1 ⟨rfl, rfl⟩)
  go_ret
  exact ⟨rfl, rfl⟩
theorem isWord_ok (w : World) (hE : EnvA w) (s : ByteArray) :
    Calls Tryz.prog 99 #[.string s] w fun e w' => e = .returned (.bool (isW s)) ∧ Kept w w' := by
  have hW := wordsOf_ok w hE
  have z := Cells.new w 9 (wordsL.map Value.string).toArray
  have hC := lib_slices_Contains_string w.heap.size 0 12 12 wordsL s (w.alloc (.cells (wordsL.map Value.string).toArray 9)) (by decide) (by decide) (fun j hj => by
    rw [Nat.zero_add, z.cell j]
    simp [List.getElem?_eq_getElem hj])
  rw [show wordsL.take 12 = wordsL from rfl, contains_words] at hC
  clear z
  go_enter Tryz.func99, Tryz.ntmps99
  go_wp2_with (first
    | (go_at_call 121; refine hW.mono ?_; rintro e w1 ⟨rfl, rfl⟩)
    | (go_at_call 120; refine hC.mono ?_; rintro e w1 ⟨rfl, rfl⟩))
  go_ret
  exact ⟨rfl, Kept.alloc (Below.refl _ _) _⟩
theorem nameR_false (s : ByteArray) : nameR s false = (nmB s && !isW s) := by simp [nameR]
set_option maxHeartbeats 8000000 in
set_option maxRecDepth 100000 in
theorem isName_ok (w : World) (hE : EnvA w) (s : ByteArray) (hs : s.size ≤ 1048576) :
    Calls Tryz.prog 81 #[.string s] w fun e w' => e = .returned (.bool (nameR s false)) ∧ Kept w w' := by
  have k0 : Kept w (w.alloc (.cells #[.int .i64 0] 3)) := Kept.alloc (Below.refl _ _) _
  have hR := readToken_ok w _ hE k0 w.heap.size (Nat.le_refl _) s (Cells.new w 3 #[.int .i64 0]) hs
  rw [nameR_false]
  go_enter Tryz.func81, Tryz.ntmps81
  go_upto_region 3 with (go_at_call 98; refine hR.mono ?_; rintro e w1 ⟨v, rfl, ⟨k, s2, n, p, ok, rfl, hiff⟩, hK⟩)
  have K1 : Kept w w1 := Below.trans k0 (hK.below (Nat.le_refl _) k0.size)
  have ka : Kept w1 (w1.alloc (.cells #[.int .i64 k, .string s2, .int .i64 n, .int .i64 p] 107)) := Kept.alloc (Below.refl _ _) _
  have x := Cells.new w1 107 #[.int .i64 k, .string s2, .int .i64 n, .int .i64 p]
  have hW := isWord_ok _ (hE.kept (K1.trans ka)) s
  have e0 := x.cell 0; have e1 := x.cell 1
  simp at e0 e1
  clear hR hK hE
  cases ok with
  | false =>
    have HN : Hid ((nmB s && !isW s) = false) := by
      have : nmB s = false := by
        cases h : nmB s with
        | false => rfl
        | true => exact absurd (hiff.2 h).1 (by decide)
      simp [Hid, this]
    clear hiff
    go_wp2_with fail
    go_ret
    exact ⟨by rw [HN.out]; rfl, K1.trans ka⟩
  | true =>
    by_cases hk : k = 1
    · subst hk
      by_cases hs2 : s2 = s
      · subst hs2
        have HN : Hid ((nmB s2 && !isW s2) = !isW s2) := by rw [Hid, hiff.1 ⟨rfl, rfl, rfl⟩]; rfl
        obtain ⟨b, hb⟩ : ∃ b, isW s2 = b := ⟨_, rfl⟩
        rw [hb] at hW
        rw [hb] at HN
        have HB : Hid _ := hb
        clear hiff hb
        go_wp2_with (go_at_call 99; refine hW.mono ?_; rintro e w2 ⟨rfl, hk2⟩)
        go_ret
        exact ⟨by rw [HB.out, HN.out]; rfl, (K1.trans ka).trans hk2⟩
      · have HN : Hid ((nmB s && !isW s) = false) := by
          have : nmB s = false := by
            cases h : nmB s with
            | false => rfl
            | true => exact absurd (hiff.2 h).2.2 hs2
          simp [Hid, this]
        have q2 : (s2.toList == s.toList) = false := by rw [bytes_same]; simpa using hs2
        clear hiff hs2
        go_wp2_with fail
        go_ret
        exact ⟨by rw [HN.out]; rfl, K1.trans ka⟩
    · have HN : Hid ((nmB s && !isW s) = false) := by
        have : nmB s = false := by
          cases h : nmB s with
          | false => rfl
          | true => exact absurd (hiff.2 h).2.1 hk
        simp [Hid, this]
      have q2 : (k == 1) = false := by simpa using hk
      clear hiff hk
      go_wp2_with fail
      go_ret
      exact ⟨by rw [HN.out]; rfl, K1.trans ka⟩
theorem isProperty_ok (w : World) (hE : EnvA w) (s : ByteArray) (hs : s.size ≤ 1048576) :
    Calls Tryz.prog 82 #[.string s] w fun e w' => e = .returned (.bool (nameR s true)) ∧ Kept w w' := by
  have hN := isName_ok w hE s hs
  have e5 : protoS.toList = [112, 114, 111, 116, 111] := by rw [ByteArray.toList_eq]; rfl
  by_cases h : s = protoS
  · have HN : Hid (nameR s true = true) := by rw [Hid, h]; decide +kernel
    have q : (s.toList == [112, 114, 111, 116, 111]) = true := by rw [← e5, bytes_same]; simpa using h
    clear h e5
    go_enter Tryz.func82, Tryz.ntmps82
    go_wp2_with fail
    go_ret
    exact ⟨by rw [HN.out]; rfl, Below.refl _ _⟩
  · have HN : Hid (nameR s true = nameR s false) := by simp [Hid, nameR, h]
    have q : (s.toList == [112, 114, 111, 116, 111]) = false := by rw [← e5, bytes_same]; simpa using h
    clear h e5
    go_enter Tryz.func82, Tryz.ntmps82
    go_wp2_with (go_at_call 81; refine hN.mono ?_; rintro e w1 ⟨rfl, hk1⟩)
    go_ret
    exact ⟨by rw [HN.out]; rfl, hk1⟩
theorem isQuotable_ok (w : World) (s : ByteArray) (hs : s.size ≤ 1048576) :
    Calls Tryz.prog 101 #[.string s] w fun e w' => e = .returned (.bool (textR s)) ∧ Kept w w' := by
  have k0 : Kept w (w.alloc (.cells #[.int .i64 0] 3)) := Kept.alloc (Below.refl _ _) _
  have hS := span_inText _ w.heap.size s 0 (Cells.new w 3 #[.int .i64 ((0 : Nat) : Int)]) (Nat.zero_le _) hs
  have hle := runE_le (p := textB) (t := s) 0
  by_cases h : runE textB s 0 = s.size
  · rw [h, extract_all] at hS
    by_cases h30 : s.size ≤ 30
    · have HT : Hid (textR s = true) := by simp [Hid, textR, h, h30]
      have q1 : (s.size : Int) ≤ 30 := by omega
      clear h h30 hle
      go_enter Tryz.func101, Tryz.ntmps101
      go_wp2_with (go_at_call 123; refine hS.mono ?_; rintro e w1 ⟨rfl, _, hK⟩)
      go_ret
      exact ⟨by rw [HT.out]; rfl, Below.trans k0 (hK.below (Nat.le_refl _) k0.size)⟩
    · have HT : Hid (textR s = false) := by simp [Hid, textR, h30]
      have q1 : decide ((s.size : Int) ≤ 30) = false := by simp; omega
      clear h h30 hle
      go_enter Tryz.func101, Tryz.ntmps101
      go_wp2_with (go_at_call 123; refine hS.mono ?_; rintro e w1 ⟨rfl, _, hK⟩)
      go_ret
      exact ⟨by rw [HT.out]; rfl, Below.trans k0 (hK.below (Nat.le_refl _) k0.size)⟩
  · have HT : Hid (textR s = false) := by simp [Hid, textR, h]
    have q2 : ((s.extract 0 (runE textB s 0)).toList == s.toList) = false := by
      rw [bytes_same]
      apply decide_eq_false
      intro e
      have hz : (s.extract 0 (runE textB s 0)).size = s.size := by rw [e]
      rw [ByteArray.size_extract] at hz
      omega
    obtain ⟨X, hX⟩ : ∃ X, s.extract 0 (runE textB s 0) = X := ⟨_, rfl⟩
    rw [hX] at hS q2
    clear h hle hX
    go_enter Tryz.func101, Tryz.ntmps101
    go_wp2_with (go_at_call 123; refine hS.mono ?_; rintro e w1 ⟨rfl, _, hK⟩)
    go_ret
    exact ⟨by rw [HT.out]; rfl, Below.trans k0 (hK.below (Nat.le_refl _) k0.size)⟩
theorem parts_small {s : ByteArray} : ∀ d, s.size < d → ∀ x ∈ partsL s, x.size ≤ s.size := by
  intro d
  induction d generalizing s with
  | zero => intro h; omega
  | succ d ih =>
    intro hd x hx
    rcases Lib.index_spec s.data.toList blankS.data.toList with ⟨h, _⟩ | ⟨i, h, _⟩
    · rw [parts_none h] at hx
      simp at hx
      rw [hx]; exact Nat.le_refl _
    · have hr := Lib.index_room s.data.toList blankS.data.toList (by rw [h]; omega)
      rw [h] at hr
      have hr2 : i + 1 ≤ s.size := by
        have : (blankS.data.toList.length : Int) = 1 := by decide
        have e : (s.data.toList.length : Int) = s.size := by rw [Array.length_toList]; rfl
        omega
      rw [parts_hit h, List.mem_cons] at hx
      rcases hx with rfl | hx
      · exact extract_le _ _ _
      · have h1 := ih (by rw [ByteArray.size_extract]; omega) x hx
        rw [ByteArray.size_extract] at h1
        omega
set_option maxHeartbeats 8000000 in
set_option maxRecDepth 100000 in
theorem areNames_ok (w : World) (hE : EnvA w) (s : ByteArray) (hs : s.size ≤ 1048576) :
    Calls Tryz.prog 105 #[.string s] w fun e w' => e = .returned (.bool (namesR s)) ∧ Kept w w' := by
  by_cases h0 : s.size = 0
  · obtain rfl : s = ⟨#[]⟩ := by
      apply ByteArray.ext
      exact Array.eq_empty_of_size_eq_zero h0
    go_enter Tryz.func105, Tryz.ntmps105
    go_wp2_with fail
    go_ret
    exact ⟨rfl, Below.refl _ _⟩
  · have HE : s.toList.isEmpty = false := by
      rw [ByteArray.toList_eq]
      cases h : s.data.toList with
      | nil => exact absurd (by rw [ByteArray.size, ← Array.length_toList, h]; rfl) h0
      | cons a l => rfl
    obtain ⟨m, hm⟩ := hE.mx
    have hS := lib_strings_Split s blankS m w (by omega) hm (by decide)
    rw [← parts_count s _ (Nat.lt_succ_self _), show Lib.splitB blankS 0 (Lib.countB s blankS) s = partsL s from rfl] at hS
    have HR : Hid (namesR s = (partsL s).all (fun x => nameR x false)) := namesR_parts h0
    have HSm : Hid (∀ x ∈ partsL s, x.size ≤ s.size) := parts_small _ (Nat.lt_succ_self _)
    have hpl : (partsL s).length ≤ 1048578 := by
      have h1 := Lib.count_le s.data.toList blankS.data.toList
      rw [parts_count s _ (Nat.lt_succ_self _)]
      have e : s.data.toList.length = s.size := by rw [Array.length_toList]; rfl
      unfold Lib.countB
      omega
    obtain ⟨L, hL⟩ : ∃ L, partsL s = L := ⟨_, rfl⟩
    rw [hL] at hS HR HSm hpl
    have z := Cells.new w 9 (L.map Value.string).toArray
    have k0 : Kept w (w.alloc (.cells (L.map Value.string).toArray 9)) := Kept.alloc (Below.refl _ _) _
    have HEk : Hid (EnvA w) := hE
    clear hL h0 hm hE
    go_enter Tryz.func105, Tryz.ntmps105
    go_wp2_with (go_at_call 96; refine hS.mono ?_; rintro e w1 ⟨rfl, rfl⟩)
    obtain ⟨W, hW⟩ : ∃ W, w.alloc (.cells (L.map Value.string).toArray 9) = W := ⟨_, rfl⟩
    rw [hW] at z k0
    simp only [hW]
    clear hW hS
    go_loopw [10] (fun iv wr => ∃ (k : Nat), iv = .int .i64 k ∧ k ≤ L.length ∧ Hid ((L.take k).all (fun x => nameR x false) = true) ∧ Hid (Kept W wr)) (fun i _ => L.length - (intOf i).toNat)
    case atStart => exact ⟨0, rfl, Nat.zero_le _, by simp [Hid], Below.refl _ _⟩
    case round =>
      obtain ⟨k, rfl, hk, hP, hK⟩ := hrel
      by_cases hlt : k < L.length
      · have r2 : (k : Int) < (L.length : Int) := by omega
        obtain ⟨x, hx⟩ : ∃ x, L[k]? = some x := ⟨L[k], List.getElem?_eq_getElem hlt⟩
        have hc : wr.cell? ⟨w.heap.size, k, none⟩ = some (.string x) := by
          rw [(z.kept hK.out).cell k]
          simp [hx]
        have hxs : x.size ≤ 1048576 := Nat.le_trans (HSm.out x (List.mem_of_getElem? hx)) hs
        have hN := isName_ok wr (HEk.out.kept (k0.trans hK.out)) x hxs
        have HX : Hid _ := hx
        have q5 : (k : Int) + 1 ≤ 9223372036854775807 := by omega
        cases hb : nameR x false with
        | false =>
          rw [hb] at hN
          have HF : Hid (namesR s = false) := by
            rw [Hid, HR.out, List.all_eq_false]
            exact ⟨x, List.mem_of_getElem? hx, by simp [hb]⟩
          clear hx hb
          go_wp2_with (go_at_call 81; refine hN.mono ?_; rintro e w2 ⟨rfl, hk2⟩)
          go_ret
          exact ⟨by rw [HF.out]; rfl, (k0.trans hK.out).trans hk2⟩
        | true =>
          rw [hb] at hN
          have HA : Hid ((L.take (k + 1)).all (fun x => nameR x false) = true) := by
            rw [Hid, List.take_add_one, hx, List.all_append, hP.out]
            simp [hb]
          clear hx hb
          go_wp2_with (go_at_call 81; refine hN.mono ?_; rintro e w2 ⟨rfl, hk2⟩)
          exact ⟨⟨k + 1, by go_num, by omega, HA.out, hK.out.trans hk2⟩, by simp [intOf]; omega⟩
      · have r2 : ¬ (k : Int) < (L.length : Int) := by omega
        have HF : Hid (namesR s = true) := by
          have h := hP.out
          rw [List.take_of_length_le (by omega)] at h
          rw [Hid, HR.out]; exact h
        go_wp2_with fail
        go_ret
        exact ⟨by rw [HF.out]; rfl, k0.trans hK.out⟩
end Go.Proofs.YtejpjbfmjmfnmaaGreatDoor
