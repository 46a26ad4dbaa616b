/-
  The contracts of chapter 7's models l7Block, l7In and l7Order.
-/
import Derived.Test.YthloammkgogceaaRchP
import Derived.Test.YthloammkgogceaaShapeQ
import Derived.Test.YthloammkgogceaaHelpM
import Derived.Test.YthloammkgogceaaSeq
import Derived.Deep.RegionHeld3
import Derived.Deep.AppendLies
namespace Go.Proofs.Ythloammkgogceaa
open Go.RowKit
attribute [local go_sem] Plain.and7

theorem hz_mem {l : List Int} {k : Nat} (h : k < l.length) : hz l k ∈ l := by
  unfold hz
  rw [List.getElem?_eq_getElem h]
  exact List.getElem_mem h
set_option maxHeartbeats 4000000 in
theorem l7In_ok (w : World) (ao : Option Addr) (cap : Nat) (l : List Int) (x : Int) (hI : Ints w ao l) (hl : l.length ≤ 1048576) :
    Calls Try.prog 41 #[.slice ao l.length cap, .int .i64 x] w fun e w' => e = .returned (.bool (decide (x ∈ l))) ∧ w = w' := by
  have HI : Hid _ := hI
  clear hI
  go_enter Try.func41, Try.ntmps41
  go_wp2_with fail
  go_loopw [5] (fun i wr => ∃ k : Nat, i = .int .i64 k ∧ k ≤ l.length ∧ (∀ j, j < k → hz l j ≠ x) ∧ wr = w) (fun i _ => l.length - (intOf i).toNat)
  case atStart => exact ⟨0, rfl, Nat.zero_le _, fun j hj => by omega, rfl⟩
  case round =>
    obtain ⟨k, rfl, hk, hno, rfl⟩ := hrel
    have HNo : Hid _ := hno
    clear hno
    by_cases hlt : k < l.length
    · obtain ⟨b, o, rfl, hc⟩ := Ints.at HI.out hlt
      have c1 := hc k hlt
      have q1 : (k : Int) < (l.length : Int) := by omega
      have q0 : (0 : Int) ≤ (k : Int) := by omega
      clear hc
      by_cases he : hz l k = x
      · have hm : x ∈ l := by rw [← he]; exact hz_mem hlt
        have HD : Hid (decide (x ∈ l) = true) := by simpa [Hid] using hm
        have hq : (hz l k == x) = true := by simpa using he
        clear hm he
        go_wp2_with fail
        go_ret
        exact ⟨by rw [HD.out]; rfl, rfl⟩
      · have hq : (hz l k == x) = false := by simpa using he
        have HE : Hid _ := he
        clear he
        go_wp2_with fail
        go_roundw
        case rel =>
          refine ⟨k + 1, by go_num, by omega, fun j hj => ?_, by trivial⟩
          rcases Nat.lt_or_ge j k with h | h
          · exact HNo.out j h
          · have : j = k := by omega
            subst this
            exact HE.out
        case measure => simp [intOf]; omega
    · obtain rfl : k = l.length := by omega
      have HD : Hid (decide (x ∈ l) = false) := by
        have : x ∉ l := fun hm => by
          obtain ⟨j, hj, e⟩ := List.getElem_of_mem hm
          exact HNo.out j hj (by unfold hz; rw [List.getElem?_eq_getElem hj]; exact e)
        simpa [Hid] using this
      go_wp2_with fail
      go_ret
      exact ⟨by rw [HD.out]; rfl, rfl⟩
theorem addB_yes {out : List Int} {a : Int} (h0 : 0 ≤ a) (h : decide (a ∈ out) = false) : addB out a = out ++ [a] := by
  unfold addB
  rw [if_pos ⟨h0, by simpa using h⟩]
theorem addB_in {out : List Int} {a : Int} (h : decide (a ∈ out) = true) : addB out a = out := by
  unfold addB
  rw [if_neg (fun hc => hc.2 (by simpa using h))]
theorem addB_no {out : List Int} {a : Int} (h : ¬ 0 ≤ a) : addB out a = out := by
  unfold addB
  rw [if_neg (fun hc => h hc.1)]
theorem addB_len (out : List Int) (a : Int) : out.length ≤ (addB out a).length := by
  unfold addB
  split <;> simp
theorem meetL_len : ∀ (vs out : List Int), out.length ≤ (meetL out vs).length
  | [], _ => Nat.le_refl _
  | v :: vs, out => Nat.le_trans (addB_len out (blkV v)) (meetL_len vs (addB out (blkV v)))
theorem take_hz {l : List Int} {k : Nat} (h : k < l.length) : l.take (k + 1) = l.take k ++ [hz l k] := by
  rw [List.take_succ_eq_append_getElem h]
  unfold hz
  rw [List.getElem?_eq_getElem h]
  rfl
theorem OwnL.snoc {W : World} {base : Nat} {v : Value} {l : List Int} {a : Int} (h0 : ∀ z ∈ l ++ [a], -9223372036854775808 ≤ z ∧ z ≤ 9223372036854775807) (h : W.ownsRow base 3 1 v (l.length + 1) (l.map (Value.int .i64) ++ [.int .i64 a])) : OwnL W base v (l ++ [a]) := by
  refine ⟨h0, ?_⟩
  rw [List.length_append, List.map_append]
  exact h
theorem Ints.far {W W' : World} {so : Option Addr} {l : List Int} {row : Option Nat} (h : Ints W so l) (hg : W.grownBy W' row) (hne : ∀ x, so = some x → row ≠ some x.block) : Ints W' so l := by
  refine ⟨h.1, ?_⟩
  rcases h.2 with h | ⟨b, off, rfl, hc⟩
  · exact .inl h
  · exact .inr ⟨b, off, rfl, fun j hj => (hg.cell_far ⟨b, off + j, none⟩ (World.block_lt_of_cell? _ _ (hc j hj)) (Ne.symm (hne ⟨b, off, none⟩ rfl))).trans (hc j hj)⟩
end Go.Proofs.Ythloammkgogceaa
