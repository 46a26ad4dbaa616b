/-
  Pure: what strings.Join and strings.ReplaceAll make of the texts of chapter 13.
-/
import Derived.Test.YtejpjbfmjmfnmaaGreatDoorGrpTp
import Derived.Test.YtejpjbfmjmfnmaaGreatDoorShfD
namespace Go.Proofs.YtejpjbfmjmfnmaaGreatDoor
open Go.RowKit

theorem commas_app (a b : List UInt8) : commas (a ++ b) = commas a ++ commas b := by simp [commas]
theorem commas_same : ∀ {l : List UInt8}, (∀ (k : Nat), l[k]? ≠ some 32) → commas l = l
  | [], _ => rfl
  | b :: l, h => by
    have h0 : b ≠ 32 := fun e => h 0 (by simp [e])
    have e : commas (b :: l) = (if b = 32 then [44, 32] else [b]) ++ commas l := by simp [commas]
    rw [e, if_neg h0, commas_same (l := l) (fun k hk => h (k + 1) (by simpa using hk))]
    rfl
theorem commas_hit {l : List UInt8} {i : Nat} (h : l[i]? = some 32) (hb : ∀ j, j < i → l[j]? ≠ some 32) : commas l = (l.take i ++ [44, 32]) ++ commas (l.drop (i + 1)) := by
  obtain ⟨h1, h2⟩ := List.getElem?_eq_some_iff.1 h
  have e : l = l.take i ++ (32 :: l.drop (i + 1)) := by
    conv => lhs; rw [← List.take_append_drop i l, List.drop_eq_getElem_cons h1, h2]
  have e2 : commas (l.take i) = l.take i := commas_same (fun k hk => by
    have hk' := (List.getElem?_eq_some_iff.1 hk).1
    simp at hk'
    rw [List.getElem?_take, if_pos (by omega)] at hk
    exact hb k (by omega) hk)
  conv => lhs; rw [e]
  rw [commas_app, e2]
  have e3 : commas (32 :: l.drop (i + 1)) = [44, 32] ++ commas (l.drop (i + 1)) := by simp [commas]
  rw [e3, List.append_assoc]
theorem replaceK_commas : ∀ (n : Nat) (l : List UInt8) (k : Nat), l.length ≤ n → Lib.count l [32] ≤ k → Lib.replaceK [32] [44, 32] k l = commas l := by
  intro n
  induction n with
  | zero =>
    intro l k hl hk
    have : l = [] := List.length_eq_zero_iff.1 (by omega)
    subst this
    cases k with
    | zero => rfl
    | succ k => rw [Lib.replaceK, if_pos (by decide)]; rfl
  | succ n ih =>
    intro l k hl hk
    have hge := Lib.indexByte_ge l 32
    have hone : Lib.index l [32] = Lib.indexByte l 32 := Lib.index_one _ _
    by_cases hi : Lib.indexByte l 32 = -1
    · have h2 := commas_same (Lib.indexByte_none hi)
      rw [h2]
      cases k with
      | zero => rfl
      | succ k => rw [Lib.replaceK, if_pos (by rw [hone, hi]; decide)]
    · obtain ⟨i, hi2⟩ := Int.eq_ofNat_of_zero_le (show 0 ≤ Lib.indexByte l 32 by omega)
      obtain ⟨h2, h3⟩ := Lib.indexByte_some hi2
      have hlt := (List.getElem?_eq_some_iff.1 h2).1
      have hc := Lib.count_hit (s := l) (sub := [32]) (i := i) (by decide) (hone.trans hi2)
      have hc : Lib.count l [32] = 1 + Lib.count (l.drop (i + 1)) [32] := hc
      obtain ⟨k, rfl⟩ : ∃ k', k = k' + 1 := ⟨k - 1, by omega⟩
      rw [Lib.replaceK_hit _ _ _ _ i (hone.trans hi2), show ([32] : List UInt8).length = 1 from rfl, ih _ _ (by rw [List.length_drop]; omega) (by omega), commas_hit h2 h3]
theorem replace_names (s : ByteArray) : (⟨(Lib.replace s.data.toList [32] [44, 32] (-1)).toArray⟩ : ByteArray) = namesT s := by
  rw [Lib.replace, if_neg (by decide), Lib.replaceNum, if_pos (.inl (by decide)), replaceK_commas _ _ _ (Nat.le_refl _) (Nat.le_refl _)]
  rfl
theorem comma_data : ∀ xs : List ByteArray, Lib.join (xs.map (·.data.toList)) [44, 32] = (commaT xs).data.toList
  | [] => rfl
  | [x] => by simp [Lib.join, commaT, List.intercalate]
  | x :: y :: r => by
    have ih := comma_data (y :: r)
    simp only [Lib.join, List.map_cons, List.intercalate, List.intersperse, List.flatten_cons] at ih ⊢
    simp only [commaT, ByteArray.data_append, Array.toList_append]
    rw [← ih]
theorem join_comma (xs : List ByteArray) : (⟨(Lib.join (xs.map (·.data.toList)) [44, 32]).toArray⟩ : ByteArray) = commaT xs := by
  rw [comma_data]
theorem join_len (xs : List ByteArray) : (Lib.join (xs.map (·.data.toList)) [44, 32]).length = (commaT xs).size := by
  rw [comma_data, Array.length_toList]
  rfl
theorem count_le (s : ByteArray) : Lib.countB s ⟨#[32]⟩ ≤ s.size := by
  have key : ∀ (n : Nat) (l : List UInt8), l.length ≤ n → Lib.count l [32] ≤ l.length := by
    intro n
    induction n with
    | zero =>
      intro l hl
      have : l = [] := List.length_eq_zero_iff.1 (by omega)
      subst this
      decide
    | succ n ih =>
      intro l hl
      have hge := Lib.indexByte_ge l 32
      have hone : Lib.index l [32] = Lib.indexByte l 32 := Lib.index_one _ _
      by_cases hi : Lib.indexByte l 32 = -1
      · rw [Lib.count_miss (hone.trans hi)]; omega
      · obtain ⟨i, hi2⟩ := Int.eq_ofNat_of_zero_le (show 0 ≤ Lib.indexByte l 32 by omega)
        obtain ⟨h2, h3⟩ := Lib.indexByte_some hi2
        have hlt := (List.getElem?_eq_some_iff.1 h2).1
        have hc : Lib.count l [32] = 1 + Lib.count (l.drop (i + 1)) [32] := Lib.count_hit (s := l) (sub := [32]) (i := i) (by decide) (hone.trans hi2)
        have := ih (l.drop (i + 1)) (by rw [List.length_drop]; omega)
        rw [List.length_drop] at this
        omega
  have := key _ s.data.toList (Nat.le_refl _)
  rw [Array.length_toList] at this
  exact this
end Go.Proofs.YtejpjbfmjmfnmaaGreatDoor
