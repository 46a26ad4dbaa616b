/-
  Names with a blank between, as the model goes through them and as strings.Split parts them: the same.
-/
import Derived.Lib.Split
import Derived.Lib.IndexLaws
import Derived.Test.YtlinbkgeahgkjaaGreatDoorZWrdA
namespace Go.Proofs.YtlinbkgeahgkjaaGreatDoor
open Go.RowKit

theorem byte32 {s : ByteArray} {j : Nat} (h : j < s.size) : byteN s j = 32 ↔ s.data.toList[j]? = some 32 := by
  rw [← byteN_get s j h]
  have e : s.data.toList[j]? = some s[j] := by
    rw [Array.getElem?_toList, Array.getElem?_eq_getElem (show j < s.data.size from h)]
    rfl
  rw [e]
  constructor
  · intro h1
    have h2 : s[j].toNat = 32 := by omega
    exact congrArg some (UInt8.toNat_inj.1 h2)
  · intro h1
    injection h1 with h1
    rw [h1]
    rfl
theorem names1 {s : ByteArray} {f : Nat} : ∀ n k, k + n = s.size + 1 → k ≤ s.size → (∀ j, k ≤ j → j < s.size → byteN s j ≠ 32) → namesF s n f k = nameR (s.extract f s.size) false
  | 0, k, h1, h2, _ => by omega
  | n + 1, k, h1, h2, h3 => by
    unfold namesF
    by_cases hk : k = s.size
    · subst hk
      rw [if_pos (.inl rfl), show n = 0 by omega]
      simp [namesF]
    · rw [if_neg (by intro h; rcases h with h | h; exact hk h; exact h3 k (Nat.le_refl _) (by omega) h)]
      exact names1 n (k + 1) (by omega) (by omega) (fun j a b => h3 j (by omega) b)
theorem names2 {s : ByteArray} {f m : Nat} (hm : m < s.size) (hb : byteN s m = 32) : ∀ n k, k + n = s.size + 1 → k ≤ m → (∀ j, k ≤ j → j < m → byteN s j ≠ 32) → namesF s n f k = (nameR (s.extract f m) false && namesF s (s.size - m) (m + 1) (m + 1))
  | 0, k, h1, h2, _ => by omega
  | n + 1, k, h1, h2, h3 => by
    rw [namesF]
    by_cases hk : k = m
    · subst hk
      rw [if_pos (.inr hb), show n = s.size - k by omega]
    · rw [if_neg (by intro h; rcases h with h | h; omega; exact h3 k (Nat.le_refl _) (by omega) h)]
      exact names2 hm hb n (k + 1) (by omega) (by omega) (fun j a b => h3 j (by omega) b)
def blankS : ByteArray := ⟨#[32]⟩
def partsL (s : ByteArray) : List ByteArray := Lib.splitB blankS 0 (Lib.countB s blankS) s
theorem parts_none {s : ByteArray} (h : Lib.indexB s blankS = -1) : partsL s = [s] := Lib.splitB_miss _ _ _ _ h
theorem parts_hit {s : ByteArray} {i : Nat} (h : Lib.indexB s blankS = i) : partsL s = s.extract 0 i :: partsL (s.extract (i + 1) s.size) := by
  unfold partsL
  rw [Lib.countB_hit s blankS i (by decide) h, Nat.add_comm, Lib.splitB_hit blankS 0 _ s i h]
  rfl
theorem extract_extract0 (s : ByteArray) (f i : Nat) (h : f + i ≤ s.size) : (s.extract f s.size).extract 0 i = s.extract f (f + i) := by
  apply ByteArray.ext
  simp only [ByteArray.data_extract, Array.extract_extract]
  congr 1
  simp only [ByteArray.size] at h ⊢
  omega
theorem extract_extract1 (s : ByteArray) (f i : Nat) : (s.extract f s.size).extract i (s.extract f s.size).size = s.extract (f + i) s.size := by
  apply ByteArray.ext
  rw [ByteArray.size_extract]
  simp only [ByteArray.data_extract, Array.extract_extract]
  congr 1
  simp only [ByteArray.size]
  omega
theorem extract_at (s : ByteArray) (f j : Nat) : (s.extract f s.size).data.toList[j]? = if f + j < s.size then s.data.toList[f + j]? else none := by
  rw [ByteArray.data_extract, Array.getElem?_toList, Array.getElem?_toList, Array.getElem?_extract]
  simp only [ByteArray.size, Nat.min_self]
  by_cases h : f + j < s.data.size
  · rw [if_pos (by omega), if_pos h]
  · rw [if_neg (by omega), if_neg h]
theorem names_parts {s : ByteArray} : ∀ d f, s.size - f < d → f ≤ s.size → namesF s (s.size + 1 - f) f f = (partsL (s.extract f s.size)).all (fun x => nameR x false)
  | 0, f, h, _ => absurd h (Nat.not_lt_zero _)
  | d + 1, f, h, hf => by
    have hge := Lib.indexByte_ge (s.extract f s.size).data.toList 32
    by_cases hi : Lib.indexByte (s.extract f s.size).data.toList 32 = -1
    · have h2 := Lib.indexByte_none hi
      rw [parts_none (by rw [show Lib.indexB (s.extract f s.size) blankS = Lib.indexByte (s.extract f s.size).data.toList 32 from Lib.index_one _ _]; exact hi)]
      rw [names1 _ _ (by omega) hf (fun j a b hb => by
        have h3 := h2 (j - f)
        rw [extract_at, if_pos (by omega), show f + (j - f) = j by omega] at h3
        exact h3 ((byte32 b).1 hb))]
      simp
    · obtain ⟨i, hi2⟩ := Int.eq_ofNat_of_zero_le (show 0 ≤ Lib.indexByte (s.extract f s.size).data.toList 32 by omega)
      obtain ⟨h2, h3⟩ := Lib.indexByte_some hi2
      rw [extract_at] at h2
      have hlt : f + i < s.size := by
        by_cases hx : f + i < s.size
        · exact hx
        · rw [if_neg hx] at h2; cases h2
      rw [if_pos hlt] at h2
      rw [parts_hit (i := i) (by rw [show Lib.indexB (s.extract f s.size) blankS = Lib.indexByte (s.extract f s.size).data.toList 32 from Lib.index_one _ _]; exact hi2)]
      rw [names2 hlt ((byte32 hlt).2 h2) _ _ (by omega) (by omega) (fun j a b hb => by
        have h4 := h3 (j - f) (by omega)
        rw [extract_at, if_pos (by omega), show f + (j - f) = j by omega] at h4
        exact h4 ((byte32 (by omega)).1 hb))]
      rw [List.all_cons, extract_extract0 s f i (by omega), extract_extract1 s f (i + 1), show f + (i + 1) = f + i + 1 by omega, show s.size - (f + i) = s.size + 1 - (f + i + 1) by omega, names_parts d (f + i + 1) (by omega) (by omega)]
theorem namesR_parts {s : ByteArray} (h : s.size ≠ 0) : namesR s = (partsL s).all (fun x => nameR x false) := by
  have h1 := names_parts (s := s) (s.size + 1) 0 (by omega) (Nat.zero_le _)
  rw [extract_all] at h1
  rw [namesR, decide_eq_false h, ← h1]
  rfl
theorem parts_count (s : ByteArray) : ∀ d, s.size < d → (partsL s).length = Lib.countB s blankS + 1 := by
  intro d
  induction d generalizing s with
  | zero => intro h; omega
  | succ d ih =>
    intro hd
    rcases Lib.index_spec s.data.toList blankS.data.toList with ⟨h, _⟩ | ⟨i, h, _⟩
    · rw [parts_none h, Lib.countB_miss s blankS h]; rfl
    · have hr := Lib.index_room s.data.toList blankS.data.toList (by rw [h]; omega)
      rw [h] at hr
      have hr2 : i + 1 ≤ s.size := by
        have : (blankS.data.toList.length : Int) = 1 := by decide
        have e : (s.data.toList.length : Int) = s.size := by rw [Array.length_toList]; rfl
        omega
      rw [parts_hit h, List.length_cons, ih _ (by rw [ByteArray.size_extract]; omega), Lib.countB_hit s blankS i (by decide) h, Nat.add_comm (1 : Nat)]
      rfl
end Go.Proofs.YtlinbkgeahgkjaaGreatDoor
