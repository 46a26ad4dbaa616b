/-
  spec.StepText exactly (chapter 15).
-/
import Derived.Test.YthmabhglmgnamaaDoorFmsC
import Derived.Test.YthmabhglmgnamaaDoorFmsD
import Derived.Test.YthmabhglmgnamaaDoorFmsG
import Derived.Test.YthmabhglmgnamaaDoorFmsE
import Derived.Test.YthmabhglmgnamaaDoorFmsH
namespace Go.Proofs.YthmabhglmgnamaaDoor
open Go.RowKit
set_option linter.unusedSimpArgs false
set_option linter.unusedVariables false
theorem stepT_no {op : Int} (a b : Int) (h : op < 1 ∨ 25 < op) : stepT op a b = ⟨#[]⟩ := by
  have e : formR op = (⟨#[]⟩, 0, 0) := by
    by_cases h0 : op = 0
    · subst h0; decide
    · exact formR_no (by omega)
  rw [stepT, e]
  rfl
theorem cut25 {op : Int} (h : 1 ≤ op ∧ op ≤ 25) : op = 1 ∨ op = 2 ∨ op = 3 ∨ op = 4 ∨ op = 5 ∨ op = 6 ∨ op = 7 ∨ op = 8 ∨ op = 9 ∨ op = 10 ∨ op = 11 ∨ op = 12 ∨ op = 13 ∨ op = 14 ∨ op = 15 ∨ op = 16 ∨ op = 17 ∨ op = 18 ∨ op = 19 ∨ op = 20 ∨ op = 21 ∨ op = 22 ∨ op = 23 ∨ op = 24 ∨ op = 25 := by omega
set_option maxHeartbeats 4000000 in
set_option maxRecDepth 100000 in
theorem spec_StepText_ok (w : World) (op a b : Int) (ha : -9223372036854775808 ≤ a ∧ a ≤ 9223372036854775807) (hb : -9223372036854775808 ≤ b ∧ b ≤ 9223372036854775807) :
    Calls Tryd.prog 23 #[.agg #[.int .i64 op, .int .i64 a, .int .i64 b]] w fun e w' => e = .returned (.string (stepT op a b)) ∧ Kept w w' := by
  by_cases h : 1 ≤ op ∧ op ≤ 25
  · rcases cut25 h with rfl | rfl | rfl | rfl | rfl | rfl | rfl | rfl | rfl | rfl | rfl | rfl | rfl | rfl | rfl | rfl | rfl | rfl | rfl | rfl | rfl | rfl | rfl | rfl | rfl
    · refine (specStep_1 w a b ha hb).mono ?_
      rintro e w' ⟨rfl, hk⟩
      refine ⟨congrArg (fun t => Ending.returned (Value.string t)) ?_, hk⟩
      rw [ByteArray.append_assoc]
      rfl
    · refine (specStep_2 w a b ha hb).mono ?_
      rintro e w' ⟨rfl, hk⟩
      refine ⟨congrArg (fun t => Ending.returned (Value.string t)) ?_, hk⟩
      rw [ByteArray.append_assoc]
      rfl
    · refine (specStep_3 w a b ha hb).mono ?_
      rintro e w' ⟨rfl, hk⟩
      refine ⟨congrArg (fun t => Ending.returned (Value.string t)) ?_, hk⟩
      rfl
    · refine (specStep_4 w a b ha hb).mono ?_
      rintro e w' ⟨rfl, hk⟩
      refine ⟨congrArg (fun t => Ending.returned (Value.string t)) ?_, hk⟩
      rfl
    · refine (specStep_5 w a b ha hb).mono ?_
      rintro e w' ⟨rfl, hk⟩
      refine ⟨congrArg (fun t => Ending.returned (Value.string t)) ?_, hk⟩
      rfl
    · refine (specStep_6 w a b ha hb).mono ?_
      rintro e w' ⟨rfl, hk⟩
      refine ⟨congrArg (fun t => Ending.returned (Value.string t)) ?_, hk⟩
      rfl
    · refine (specStep_7 w a b ha hb).mono ?_
      rintro e w' ⟨rfl, hk⟩
      refine ⟨congrArg (fun t => Ending.returned (Value.string t)) ?_, hk⟩
      rw [ByteArray.append_assoc, ByteArray.append_assoc]
      rw [show (⟨#[108, 111, 97, 100]⟩ ++ ⟨#[32]⟩ : ByteArray) ++ (numT a ++ (⟨#[32]⟩ ++ numT b)) = (⟨#[108, 111, 97, 100]⟩ ++ (⟨#[32]⟩ ++ numT a)) ++ (⟨#[32]⟩ ++ numT b) by simp only [ByteArray.append_assoc]]
      rfl
    · refine (specStep_8 w a b ha hb).mono ?_
      rintro e w' ⟨rfl, hk⟩
      refine ⟨congrArg (fun t => Ending.returned (Value.string t)) ?_, hk⟩
      rw [ByteArray.append_assoc, ByteArray.append_assoc]
      rw [show (⟨#[115, 116, 111, 114, 101]⟩ ++ ⟨#[32]⟩ : ByteArray) ++ (numT a ++ (⟨#[32]⟩ ++ numT b)) = (⟨#[115, 116, 111, 114, 101]⟩ ++ (⟨#[32]⟩ ++ numT a)) ++ (⟨#[32]⟩ ++ numT b) by simp only [ByteArray.append_assoc]]
      rfl
    · refine (specStep_9 w a b ha hb).mono ?_
      rintro e w' ⟨rfl, hk⟩
      refine ⟨congrArg (fun t => Ending.returned (Value.string t)) ?_, hk⟩
      rw [ByteArray.append_assoc]
      rfl
    · refine (specStep_10 w a b ha hb).mono ?_
      rintro e w' ⟨rfl, hk⟩
      refine ⟨congrArg (fun t => Ending.returned (Value.string t)) ?_, hk⟩
      rw [ByteArray.append_assoc]
      rfl
    · refine (specStep_11 w a b ha hb).mono ?_
      rintro e w' ⟨rfl, hk⟩
      refine ⟨congrArg (fun t => Ending.returned (Value.string t)) ?_, hk⟩
      rfl
    · refine (specStep_12 w a b ha hb).mono ?_
      rintro e w' ⟨rfl, hk⟩
      refine ⟨congrArg (fun t => Ending.returned (Value.string t)) ?_, hk⟩
      rw [ByteArray.append_assoc]
      rfl
    · refine (specStep_13 w a b ha hb).mono ?_
      rintro e w' ⟨rfl, hk⟩
      refine ⟨congrArg (fun t => Ending.returned (Value.string t)) ?_, hk⟩
      rfl
    · refine (specStep_14 w a b ha hb).mono ?_
      rintro e w' ⟨rfl, hk⟩
      refine ⟨congrArg (fun t => Ending.returned (Value.string t)) ?_, hk⟩
      rfl
    · refine (specStep_15 w a b ha hb).mono ?_
      rintro e w' ⟨rfl, hk⟩
      refine ⟨congrArg (fun t => Ending.returned (Value.string t)) ?_, hk⟩
      rfl
    · refine (specStep_16 w a b ha hb).mono ?_
      rintro e w' ⟨rfl, hk⟩
      refine ⟨congrArg (fun t => Ending.returned (Value.string t)) ?_, hk⟩
      rfl
    · refine (specStep_17 w a b ha hb).mono ?_
      rintro e w' ⟨rfl, hk⟩
      refine ⟨congrArg (fun t => Ending.returned (Value.string t)) ?_, hk⟩
      rfl
    · refine (specStep_18 w a b ha hb).mono ?_
      rintro e w' ⟨rfl, hk⟩
      refine ⟨congrArg (fun t => Ending.returned (Value.string t)) ?_, hk⟩
      rfl
    · refine (specStep_19 w a b ha hb).mono ?_
      rintro e w' ⟨rfl, hk⟩
      refine ⟨congrArg (fun t => Ending.returned (Value.string t)) ?_, hk⟩
      rfl
    · refine (specStep_20 w a b ha hb).mono ?_
      rintro e w' ⟨rfl, hk⟩
      refine ⟨congrArg (fun t => Ending.returned (Value.string t)) ?_, hk⟩
      rw [ByteArray.append_assoc]
      rfl
    · refine (specStep_21 w a b ha hb).mono ?_
      rintro e w' ⟨rfl, hk⟩
      refine ⟨congrArg (fun t => Ending.returned (Value.string t)) ?_, hk⟩
      rw [ByteArray.append_assoc]
      rfl
    · refine (specStep_22 w a b ha hb).mono ?_
      rintro e w' ⟨rfl, hk⟩
      refine ⟨congrArg (fun t => Ending.returned (Value.string t)) ?_, hk⟩
      rfl
    · refine (specStep_23 w a b ha hb).mono ?_
      rintro e w' ⟨rfl, hk⟩
      refine ⟨congrArg (fun t => Ending.returned (Value.string t)) ?_, hk⟩
      rfl
    · refine (specStep_24 w a b ha hb).mono ?_
      rintro e w' ⟨rfl, hk⟩
      refine ⟨congrArg (fun t => Ending.returned (Value.string t)) ?_, hk⟩
      rw [ByteArray.append_assoc]
      rfl
    · refine (specStep_25 w a b ha hb).mono ?_
      rintro e w' ⟨rfl, hk⟩
      refine ⟨congrArg (fun t => Ending.returned (Value.string t)) ?_, hk⟩
      rw [ByteArray.append_assoc]
      rfl
  · have HE : Hid (stepT op a b = ⟨#[]⟩) := stepT_no a b (by omega)
    have k0 : Kept w (w.alloc (.cells #[.int .i64 op, .int .i64 a, .int .i64 b] 55)) := Kept.alloc (Below.refl _ _) _
    have hI := l1InS_no op 1 25 (w.alloc (.cells #[.int .i64 op, .int .i64 a, .int .i64 b] 55)) (by omega)
    clear h ha hb
    go_enter Tryd.func23, Tryd.ntmps23
    go_wp2_with (go_at_call 40; refine hI.mono ?_; rintro e wx ⟨rfl, rfl⟩)
    go_ret
    exact ⟨by rw [HE.out]; rfl, k0⟩
end Go.Proofs.YthmabhglmgnamaaDoor
