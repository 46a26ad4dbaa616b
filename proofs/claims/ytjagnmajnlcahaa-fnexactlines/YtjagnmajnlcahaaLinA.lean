/-
  Lines (chapter 16): spec.Lines, impl.Lines exactly; and what the law does with an Outcome: how great, a copy, whether two are the same; and how such an argument is read.
-/
import Derived.Test.YtjagnmajnlcahaaFndB
import Derived.Test.YtjagnmajnlcahaaShfL
import Derived.Lib.OthersKept
namespace Go.Proofs.Ytjagnmajnlcahaa
open Go.ChangeShapes Go.WideShapes Go.ChangeAt Go.RowKit
set_option linter.unusedSimpArgs false
set_option linter.unusedVariables false

/-- Texts with a byte 10 behind each. -/
def lnT : List ByteArray → ByteArray
  | [] => ⟨#[]⟩
  | x :: r => (x ++ ⟨#[10]⟩) ++ lnT r
theorem lnT_size : ∀ xs : List ByteArray, (lnT xs).size = sumT xs + xs.length
  | [] => rfl
  | x :: r => by
    rw [lnT, ByteArray.size_append, ByteArray.size_append, lnT_size r, sumT, List.length_cons]
    show x.size + 1 + _ = _
    omega
theorem lnT_snoc (xs : List ByteArray) (x : ByteArray) : lnT (xs ++ [x]) = lnT xs ++ (x ++ ⟨#[10]⟩) := by
  have e0 : (⟨#[]⟩ : ByteArray) = ByteArray.empty := rfl
  induction xs with
  | nil => simp only [List.nil_append, lnT]; rw [e0, ByteArray.append_empty, ByteArray.empty_append]
  | cons y r ih => simp only [List.cons_append, lnT, ih, ByteArray.append_assoc]
theorem lnT_next {xs : List ByteArray} {k : Nat} {x : ByteArray} (hx : xs[k]? = some x) : lnT (xs.take (k + 1)) = lnT (xs.take k) ++ (x ++ ⟨#[10]⟩) := by
  rw [List.take_add_one, hx]
  exact lnT_snoc _ _
theorem lnT_take_size (xs : List ByteArray) (k : Nat) : (lnT (xs.take k)).size ≤ sumT xs + xs.length := by
  rw [lnT_size]
  have := sumT_le xs k
  have h2 : (xs.take k).length ≤ xs.length := by rw [List.length_take]; omega
  omega
theorem sumT_mem {ts : List ByteArray} {x : ByteArray} (h : x ∈ ts) : x.size ≤ sumT ts := by
  induction ts with
  | nil => simp at h
  | cons t ts ih =>
    rcases List.mem_cons.1 h with rfl | h
    · simp [sumT]
    · have := ih h; simp [sumT]; omega
/-- A builder that holds a text. -/
def BldB (w : World) (B : Nat) (t : ByteArray) : Prop := Lib.IsBuilderF 38 5 B B (Lib.byteCells t.data.toList) w
theorem BldB.new (w : World) : BldB (w.alloc (.cells #[.pointer none, .slice none 0 0] 38)) w.heap.size ⟨#[]⟩ := Lib.IsBuilderF.of (Lib.fresh_isBuilder 38 5 w)
theorem BldB.lt {w : World} {B : Nat} {t : ByteArray} (h : BldB w B t) : B < w.heap.size := h.elim (fun x => x.lt) (fun x => x.lt)
theorem WriteStringB_ok (w : World) (B : Nat) (t s : ByteArray) (h : BldB w B t) (hlen : t.size + s.size ≤ 140737488355328) :
    Calls Try.prog 13 #[.pointer (some ⟨B, 0, none⟩), .string s] w fun e w' => e = .returned (.tuple #[.int .i64 (s.size : Nat), .nilIface]) ∧ BldB w' B (t ++ s) ∧ Below B w w' ∧ Lib.OthersKept 5 (some B) w w' := by
  refine (lib_Builder_WriteString_k B B _ s w h (by rw [Lib.byteCells_length, Array.length_toList]; exact hlen) (Nat.le_of_lt h.lt)).mono ?_
  rintro e w' ⟨rfl, h1, h2, h3⟩
  refine ⟨rfl, .inr ?_, h2, h3⟩
  have e1 : Lib.byteCells t.data.toList ++ Lib.strCells s = Lib.byteCells (t ++ s).data.toList := by
    rw [ByteArray.data_append, Array.toList_append, Lib.byteCells_append]
    rfl
  rw [e1] at h1
  exact h1
theorem StringB_ok (w : World) (B : Nat) (t : ByteArray) (h : BldB w B t) :
    Calls Try.prog 14 #[.pointer (some ⟨B, 0, none⟩)] w fun e w' => e = .returned (.string t) ∧ Below B w w' := by
  refine (lib_Builder_String_any_k B B _ w h (Nat.le_of_lt h.lt)).mono ?_
  rintro e w' ⟨rfl, h1, h2, h3⟩
  exact ⟨rfl, h2⟩
set_option maxHeartbeats 8000000 in
set_option maxRecDepth 100000 in
theorem withLinesA_ok (w : World) (ka : Option Addr) (kc : Nat) (xs : List ByteArray) (hK : StA w ka xs) (hz : sumT xs + xs.length ≤ 100000000) :
    Calls Try.prog 11 #[.slice ka xs.length kc] w fun e w' => e = .returned (.string (lnT xs)) ∧ Kept w w' := by
  have k0 : Kept w (w.alloc (.cells #[.pointer none, .slice none 0 0] 38)) := Kept.alloc (Below.refl _ _) _
  have hB0 : Hid _ := BldB.new w
  have HK : Hid (StA w ka xs) := hK
  have HK0 : Hid _ := k0
  have hln : xs.length ≤ 100000000 := by omega
  have HS : Hid (∀ k, (lnT (xs.take k)).size ≤ 100000000) := fun k => by have := lnT_take_size xs k; omega
  have HX : Hid (∀ x ∈ xs, x.size ≤ 100000000) := fun x hx => by have := sumT_mem hx; omega
  clear hK k0 hz
  go_enter Try.func11, Try.ntmps11
  go_wp2_with fail
  go_loopw [8] (fun i wr => ∃ k : Nat, i = .int .i64 k ∧ k ≤ xs.length ∧ Hid (BldB wr w.heap.size (lnT (xs.take k))) ∧ Hid (Kept w wr)) (fun i _ => xs.length - (intOf i).toNat)
  case atStart => exact ⟨0, rfl, Nat.zero_le _, hB0.out, HK0.out⟩
  case round =>
    obtain ⟨k, rfl, hk, hB, hKp⟩ := hrel
    have hO := HS.out k
    by_cases hlt : k < xs.length
    · obtain ⟨x, hx⟩ : ∃ x, xs[k]? = some x := ⟨_, List.getElem?_eq_getElem hlt⟩
      obtain ⟨kb, ko, rfl, c0⟩ := (HK.out.kept hKp.out) k x hx
      have hxz := HX.out x (List.mem_of_getElem? hx)
      have q1 : (k : Int) < (xs.length : Int) := by omega
      have p0 : ¬ 9223372036854775807 < x.size + 1 := by omega
      have hz1 : (x ++ (⟨#[10]⟩ : ByteArray)).size = x.size + 1 := by rw [ByteArray.size_append]; rfl
      have hW := WriteStringB_ok wr w.heap.size _ (x ++ ⟨#[10]⟩) hB.out (by omega)
      rw [← lnT_next hx] at hW
      clear hx hO hxz
      go_wp2_with (go_at_call 13; refine hW.mono ?_; rintro e w1 ⟨rfl, hB1, hb1, ho1⟩)
      go_roundw
      case rel => exact ⟨k + 1, by go_num, by omega, hB1, Below.trans hKp.out hb1⟩
      case measure => simp [intOf]; omega
    · have q1 : ¬ (k : Int) < (xs.length : Int) := by omega
      have hS := StringB_ok wr w.heap.size _ hB.out
      have HF : Hid (lnT (xs.take k) = lnT xs) := by rw [Hid, List.take_of_length_le (by omega)]
      rw [HF.out] at hS
      go_wp2_with (go_at_call 14; refine hS.mono ?_; rintro e w1 ⟨rfl, hb1⟩)
      go_ret
      exact ⟨rfl, Below.trans hKp.out hb1⟩
set_option maxHeartbeats 8000000 in
set_option maxRecDepth 100000 in
theorem impl_Lines_ok (w : World) (c : Int) (ka : Option Addr) (kc : Nat) (xs : List ByteArray) (hK : StA w ka xs) (hz : sumT xs + xs.length ≤ 100000000) :
    Calls Try.prog 7 #[.agg #[.int .i64 c, .slice ka xs.length kc]] w fun e w' => e = .returned (.string (lnT xs)) ∧ Kept w w' := by
  have k0 : Kept w (w.alloc (.cells #[.int .i64 c, .slice ka xs.length kc] 27)) := Kept.alloc (Below.refl _ _) _
  have hC := withLinesA_ok _ ka kc xs (hK.kept k0) hz
  clear hK
  go_enter Try.func7, Try.ntmps7
  go_wp2_with (go_at_call 11; refine hC.mono ?_; rintro e w1 ⟨rfl, hk1⟩)
  go_ret
  exact ⟨rfl, k0.trans hk1⟩
set_option maxHeartbeats 8000000 in
set_option maxRecDepth 100000 in
theorem spec_Lines_ok (w : World) (c : Int) (ka : Option Addr) (kc : Nat) (xs : List ByteArray) (hK : StA w ka xs) (hz : sumT xs + xs.length ≤ 100000000) :
    Calls Try.prog 5 #[.agg #[.int .i64 c, .slice ka xs.length kc]] w fun e w' => e = .returned (.string (lnT xs)) ∧ Kept w w' := by
  have k0 : Kept w (w.alloc (.cells #[.int .i64 c, .slice ka xs.length kc] 27)) := Kept.alloc (Below.refl _ _) _
  have b0 := Cells.new w 27 #[.int .i64 c, .slice ka xs.length kc]
  have HK : Hid (StA w ka xs) := hK
  have HK0 : Hid _ := k0
  have HB0 : Hid _ := b0
  have hln : xs.length ≤ 100000000 := by omega
  have HS : Hid (∀ k, (lnT (xs.take k)).size ≤ 100000000) := fun k => by have := lnT_take_size xs k; omega
  have HX : Hid (∀ x ∈ xs, x.size ≤ 100000000) := fun x hx => by have := sumT_mem hx; omega
  clear hK k0 hz b0
  go_enter Try.func5, Try.ntmps5
  go_wp2_with fail
  go_loopw [3, 4] (fun ov i wr => ∃ k : Nat, i = .int .i64 k ∧ k ≤ xs.length ∧ ov = .string (lnT (xs.take k)) ∧ Hid (Kept (w.alloc (.cells #[.int .i64 c, .slice ka xs.length kc] 27)) wr)) (fun _ i _ => xs.length - (intOf i).toNat)
  case atStart => exact ⟨0, rfl, Nat.zero_le _, rfl, Below.refl _ _⟩
  case round =>
    obtain ⟨k, rfl, hk, rfl, hKp⟩ := hrel
    have hO := HS.out k
    have b1 := (Cells.kept HB0.out hKp.out).cell 0
    have b2 := (Cells.kept HB0.out hKp.out).cell 1
    by_cases hlt : k < xs.length
    · obtain ⟨x, hx⟩ : ∃ x, xs[k]? = some x := ⟨_, List.getElem?_eq_getElem hlt⟩
      obtain ⟨kb, ko, rfl, c0⟩ := (StA.kept HK.out (Kept.trans HK0.out hKp.out)) k x hx
      have hxz := HX.out x (List.mem_of_getElem? hx)
      have q1 : (k : Int) < (xs.length : Int) := by omega
      obtain ⟨O, hOO⟩ : ∃ O, lnT (xs.take k) = O := ⟨_, rfl⟩
      have HN : Hid (lnT (xs.take (k + 1)) = (O ++ x) ++ ⟨#[10]⟩) := by rw [Hid, lnT_next hx, hOO, ByteArray.append_assoc]
      rw [hOO] at hO
      simp only [hOO]
      have p0 : ¬ 9223372036854775807 < O.size + x.size := by omega
      have p1 : ¬ 9223372036854775807 < O.size + x.size + 1 := by omega
      clear hx hO hxz hOO
      go_wp2_with fail
      go_roundw
      case rel => exact ⟨k + 1, by go_num, by omega, by rw [HN.out], hKp.out⟩
      case measure => simp [intOf]; omega
    · have q1 : ¬ (k : Int) < (xs.length : Int) := by omega
      have HF : Hid (lnT (xs.take k) = lnT xs) := by rw [Hid, List.take_of_length_le (by omega)]
      rw [HF.out]
      go_wp2_with fail
      go_ret
      exact ⟨rfl, Kept.trans HK0.out hKp.out⟩
end Go.Proofs.Ytjagnmajnlcahaa
