/-
  The contract of impl.layBlock: a block is laid over a slab's words.
-/
import Derived.Test.YtppbhfcogijcaaaGreatHelpM
import Derived.Lib.SliceRun
import Derived.Deep.RegionWith
import Derived.Deep.CutRange
namespace Go.Proofs.YtppbhfcogijcaaaGreat
open Go.RowKit

/-- From place o on the words vs are laid. -/
def sets (zs : List Int) : Nat → List Int → List Int
  | _, [] => zs
  | o, v :: r => sets (zs.set o v) (o + 1) r
theorem sets_len : ∀ (vs zs : List Int) (o : Nat), (sets zs o vs).length = zs.length
  | [], _, _ => rfl
  | v :: r, zs, o => by rw [sets, sets_len r]; simp
theorem hz_sets : ∀ (vs zs : List Int) (o j : Nat), o + vs.length ≤ zs.length → hz (sets zs o vs) j = if o ≤ j ∧ j < o + vs.length then hz vs (j - o) else hz zs j
  | [], zs, o, j, _ => by rw [if_neg (by simp only [List.length_nil]; omega)]; rfl
  | v :: r, zs, o, j, h => by
    simp only [List.length_cons] at h
    rw [sets, hz_sets r (zs.set o v) (o + 1) j (by simp; omega), hz_set (by omega)]
    by_cases e : j = o
    · subst e
      rw [if_neg (by omega), if_pos rfl, if_pos (by simp)]
      simp [hz]
    · by_cases h2 : o + 1 ≤ j ∧ j < o + 1 + r.length
      · rw [if_pos h2, if_pos (by simp; omega)]
        obtain ⟨m, rfl⟩ : ∃ m, j = o + 1 + m := ⟨j - (o + 1), by omega⟩
        rw [show o + 1 + m - (o + 1) = m by omega, show o + 1 + m - o = m + 1 by omega]
        simp [hz]
      · rw [if_neg h2, if_neg e, if_neg (by simp; omega)]
theorem Row.sets : ∀ (vs : List Int) {W : World} {g : Nat} {zs : List Int} {o : Nat}, Row W g zs → o + vs.length ≤ zs.length → (∀ z ∈ vs, -9223372036854775808 ≤ z ∧ z ≤ 9223372036854775807) → Row (W.setCells g o (vs.map (Value.int .i64))) g (sets zs o vs)
  | [], _, _, _, _, h, _, _ => h
  | v :: r, W, g, zs, o, h, hl, hv => by
    simp only [List.length_cons] at hl
    exact Row.sets r (h.set (k := o) (by omega) (hv v (by simp))) (by simp; omega) (fun z hz => hv z (by simp [hz]))
theorem grown_sets : ∀ (vs : List Value) {a b : World} {g o : Nat}, a.grownBy b (some g) → a.grownBy (b.setCells g o vs) (some g)
  | [], _, _, _, _, h => h
  | _ :: r, _, _, _, _, h => grown_sets r (grown_set h _)

/-- What layBlock makes of the words. -/
def layL (zs : List Int) (a s : Nat) (h : Int) : List Int := (sets zs a (List.replicate s 0)).set a h
theorem layL_len (zs : List Int) (a s : Nat) (h : Int) : (layL zs a s h).length = zs.length := by simp [layL, sets_len]
theorem hz_layL {zs : List Int} {a s j : Nat} {h : Int} (hle : a + s ≤ zs.length) (hs : 1 ≤ s) : hz (layL zs a s h) j = if j = a then h else if a < j ∧ j < a + s then 0 else hz zs j := by
  unfold layL
  rw [hz_set (by rw [sets_len]; omega), hz_sets _ _ _ _ (by simpa using hle)]
  by_cases e : j = a
  · simp [e]
  · simp only [e, if_false, List.length_replicate]
    by_cases h2 : a ≤ j ∧ j < a + s
    · rw [if_pos h2, if_pos (by omega)]
      simp [hz, show j - a < s by omega]
    · rw [if_neg h2, if_neg (by omega)]

end Go.Proofs.YtppbhfcogijcaaaGreat
