/-
  Facts on texts: the library's digits are the model's; words of a picture (chapter 7).
-/
import Derived.Test.YtgnpllpinfhccaaGreatDoorRchD
import Derived.Test.YtgnpllpinfhccaaGreatDoorShfB
import Derived.Lib.AppendIntMem
namespace Go.Proofs.YtgnpllpinfhccaaGreatDoor
open Go.RowKit

theorem digN_dec : ∀ (u : Nat), 0 < u → (digN u).map (fun n => UInt8.ofNat n.toNat) = Lib.decDigits u := by
  intro u
  induction u using Nat.strongRecOn with
  | _ u ih =>
    intro h
    rw [digN_pos (by omega), List.map_append, List.map_cons, List.map_nil]
    have e1 : (48 + ((u % 10 : Nat) : Int)).toNat = 48 + u % 10 := by omega
    rw [e1]
    rw [Lib.decDigits]
    by_cases h10 : u < 10
    · rw [dif_pos h10, show u / 10 = 0 by omega, digN_zero, show u % 10 = u by omega]
      rfl
    · rw [dif_neg h10, ih (u / 10) (by omega) (by omega)]
theorem itoa_str (n : Int) : (⟨(Lib.itoa n).toArray⟩ : ByteArray) = strOfNums (digI n) := by
  unfold strOfNums digI Lib.itoa
  by_cases h0 : n = 0
  · subst h0
    rw [if_pos rfl, if_neg (by omega)]
    have : Lib.decDigits (0 : Int).toNat = [48] := by rw [Lib.decDigits]; rfl
    rw [this]
    rfl
  · rw [if_neg h0, List.map_append]
    by_cases h : n < 0
    · rw [if_pos h, if_pos h, digN_dec _ (by omega)]
      rfl
    · rw [if_neg h, if_neg h, digN_dec _ (by omega), show n.toNat = n.natAbs by omega]
      rfl
/-- The table of the library that its digits are reckoned with. -/
def Tab (w : World) : Prop := Lib.TabIs Tryz.prog w "internal/strconv.uint64pow10" .u64 Lib.pow10Tab
theorem Tab.kept {w w' : World} (h : Tab w) (hk : Kept w w') : Tab w' := Lib.tabBelow_of_tabIs h w' hk
theorem kept_grow (w : World) (k : Nat) (os : Array Obj) : Kept w (Sort.grow (w.drewN k) os) := by
  have e : w.heap.size = (w.drewN k).heap.size := rfl
  exact ⟨rfl, rfl, rfl, by simp [Sort.grow, World.drewN], fun i hi => Sort.heap_grow_old _ _ (by rw [← e]; exact hi)⟩
theorem Itoa_ok (n : Int) (hn : -9223372036854775808 ≤ n ∧ n ≤ 9223372036854775807) (w : World) (hT : Tab w) : Calls Tryz.prog 99 #[.int .i64 n] w fun e w' => e = .returned (.string (strOfNums (digI n))) ∧ Kept w w' := by
  refine (lib_strconv_Itoa n hn.1 hn.2 w hT).mono ?_
  rintro e w' ⟨rfl, k, os, rfl⟩
  exact ⟨by rw [itoa_str], kept_grow _ _ _⟩
/-- What is shown of a value, without the blank. -/
def wordL (v : Int) (order : List Int) : List Int :=
  if v % 8 = 0 then [117, 110, 100, 101, 102] else if v % 8 = 1 then [110, 117, 108, 108] else if v % 8 = 2 then (if v / 8 = 1 then [116, 114, 117, 101] else [102, 97, 108, 115, 101])
  else if v % 8 = 3 then digI (v / 8) else match order.findIdx? (fun y => decide (y = v / 8)) with
    | some i => [64] ++ digI (i : Nat)
    | none => [64]
theorem valL_word (v : Int) (order : List Int) : valL v order = [32] ++ wordL v order := by
  unfold valL wordL numL
  cases order.findIdx? (fun y => decide (y = v / 8)) with
  | none =>
    simp only
    repeat' split
    all_goals first | rfl | contradiction
  | some i =>
    simp only
    repeat' split
    all_goals first | rfl | contradiction
theorem nodup_at {out : List Int} (hd : out.Nodup) {j k : Nat} {x : Int} (h : j < k) (hj : out[j]? = some x) (hk : out[k]? = some x) : False := by
  obtain ⟨hjl, ej⟩ := List.getElem?_eq_some_iff.1 hj
  obtain ⟨hkl, ek⟩ := List.getElem?_eq_some_iff.1 hk
  exact (List.pairwise_iff_getElem.1 hd) j k hjl hkl h (ej.trans ek.symm)
theorem wordL_len {v : Int} {order : List Int} (hv : -9223372036854775808 ≤ v ∧ v ≤ 9223372036854775807) (hl : order.length ≤ 1048576) : (wordL v order).length ≤ 24 := by
  have := valL_len hv hl
  rw [valL_word, List.length_append] at this
  omega
theorem find_nodup {out : List Int} {x : Int} {k : Nat} (hd : out.Nodup) (hk : out[k]? = some x) : out.findIdx? (fun y => decide (y = x)) = some k := by
  have hlt := (List.getElem?_eq_some_iff.1 hk).1
  have hg : ∀ j (hj : j < out.length), hz out j = out[j] := fun j hj => by unfold hz; rw [List.getElem?_eq_getElem hj]; rfl
  refine findIdx_at (fun j hj e => ?_) hlt (by unfold hz; rw [hk]; rfl)
  have hjl : j < out.length := by omega
  rw [hg j hjl] at e
  exact nodup_at hd hj (by rw [List.getElem?_eq_getElem hjl, e]) hk
theorem strs_bool (b : Bool) : (⟨(Lib.formatBool b).toArray⟩ : ByteArray) = strOfNums (if b then [116, 114, 117, 101] else [102, 97, 108, 115, 101]) := by
  cases b <;> rfl
end Go.Proofs.YtgnpllpinfhccaaGreatDoor
