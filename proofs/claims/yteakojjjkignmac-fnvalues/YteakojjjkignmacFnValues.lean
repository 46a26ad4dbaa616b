/-
  The law FnValues is proved: for every slice of bytes, what is drawn of it as a value has the kind and number of which it was made, numbers go round at 32 bits, and each function of chapter 1 answers as its model; nothing that was there is written.
-/
import Derived.Test.YteakojjjkignmacRows
import Derived.WalkKit
import Derived.ProofKit
import Derived.OpenShut
import Derived.ShutString
import Derived.ChangeOld
import Derived.Below
import Derived.Test.YteakojjjkignmacDrawV
import Derived.Test.YteakojjjkignmacVal
namespace Go.Proofs.Yteakojjjkignmac.fnValues
open Go.ChangeShapes Go.WideShapes Go.ChangeAt Go.RowKit
open Go.ChangeMaps (open_string shut_string)
set_option linter.unusedVariables false

theorem own : ownKnob Try.prog.godebug = none := by kernel_rfl
theorem laidOut : laidOutB Try.prog = true := by kernel_rfl

/-- WHAT THE WALK IS TOLD OF A SLICE OF INTEGERS THAT CAME IN: it is nil; or it leads to a row of 'cap' cells, the numbers 'zs' (the first 'len' are its elements, the rest its spare room), each fitting its kind. -/
def IsRow (k : IntKind) (w : World) (a : Option Addr) (len cap : Nat) (zs : List Int) : Prop :=
  (a = none ∧ len = 0 ∧ cap = 0 ∧ zs = []) ∨
  ∃ x, a = some x ∧ len ≤ cap ∧ cap ≤ maxLen ∧ zs.length = cap ∧ (∀ i, i < zs.length → w.cell? (x.add i) = some (.int k (zs.getD i 0))) ∧ ∀ n ∈ zs, (Lit.int k n).wf = true

set_option maxRecDepth 100000 in
set_option maxHeartbeats 1000000 in

theorem walk (a0 : Option Addr) (len0 cap0 : Nat) (z0 : List Int) (w : World) (w0 : IsRow .u8 w a0 len0 cap0 z0) :
    Calls Try.prog 3 #[.slice a0 len0 cap0] w fun e w' => e = .returned (.bool true) ∧ Below w.heap.size w w' := by
  have hs := src_of w0
  clear w0
  have hlen := hs.1
  by_cases hbig : (1048576 : Int) < (len0 : Int)
  · go_enter Try.func3, Try.ntmps3
    go_wp2
    go_ret
    exact ⟨rfl, Below.refl _ _⟩
  · go_enter Try.func3, Try.ntmps3
    go_wp2_with (first | (go_at_call 4; go_in))
    refine (DrawIntOf_ok a0 len0 cap0 _ _ hs).mono ?_
    rintro e w1 ⟨n, rfl, hn, hb1⟩
    have hs1 := hs.below hb1
    go_wp2_with (first | (go_at_call 4; go_in) | (go_at_call 15; refine (impl_Wrap_ok _ _).mono ?_; rintro e wx ⟨rfl, rfl⟩) | (go_at_call 6; refine (impl_IntOf_ok _ _).mono ?_; rintro e wx ⟨rfl, rfl⟩) | (go_at_call 24; refine (impl_BoolOf_ok _ _).mono ?_; rintro e wx ⟨rfl, rfl⟩) | (go_at_call 20; refine (impl_Kind_ok _ _).mono ?_; rintro e wx ⟨rfl, rfl⟩) | (go_at_call 22; refine (impl_Num_ok _ _ (by omega) (by omega)).mono ?_; rintro e wx ⟨rfl, rfl⟩) | (go_at_call 13; refine (impl_ValueOk_ok _ _ (by omega) (by omega)).mono ?_; rintro e wx ⟨rfl, rfl⟩) | (go_at_call 16; refine (spec_Wrap_ok _ _).mono ?_; rintro e wx ⟨rfl, rfl⟩) | (go_at_call 11; refine (spec_IntOf_ok _ _).mono ?_; rintro e wx ⟨rfl, rfl⟩) | (go_at_call 25; refine (spec_BoolOf_ok _ _).mono ?_; rintro e wx ⟨rfl, rfl⟩) | (go_at_call 21; refine (spec_Kind_ok _ _).mono ?_; rintro e wx ⟨rfl, rfl⟩) | (go_at_call 23; refine (spec_Num_ok _ _).mono ?_; rintro e wx ⟨rfl, rfl⟩) | (go_at_call 14; refine (spec_ValueOk_ok _ _ (by omega) (by omega)).mono ?_; rintro e wx ⟨rfl, rfl⟩) | (go_at_call 8; refine (impl_RefOf_ok _ _ _).mono ?_; rintro e wx ⟨rfl, rfl⟩) | (go_at_call 12; refine (spec_RefOf_ok _ _ _).mono ?_; rintro e wx ⟨rfl, rfl⟩))
    refine (DrawRefOf_ok a0 len0 cap0 _ _ hs1).mono ?_
    rintro e w2 ⟨k, at2, rfl, hk, hat, hb2⟩
    have hs2 := hs1.below hb2
    go_wp2_with (first | (go_at_call 4; go_in) | (go_at_call 15; refine (impl_Wrap_ok _ _).mono ?_; rintro e wx ⟨rfl, rfl⟩) | (go_at_call 6; refine (impl_IntOf_ok _ _).mono ?_; rintro e wx ⟨rfl, rfl⟩) | (go_at_call 24; refine (impl_BoolOf_ok _ _).mono ?_; rintro e wx ⟨rfl, rfl⟩) | (go_at_call 20; refine (impl_Kind_ok _ _).mono ?_; rintro e wx ⟨rfl, rfl⟩) | (go_at_call 22; refine (impl_Num_ok _ _ (by omega) (by omega)).mono ?_; rintro e wx ⟨rfl, rfl⟩) | (go_at_call 13; refine (impl_ValueOk_ok _ _ (by omega) (by omega)).mono ?_; rintro e wx ⟨rfl, rfl⟩) | (go_at_call 16; refine (spec_Wrap_ok _ _).mono ?_; rintro e wx ⟨rfl, rfl⟩) | (go_at_call 11; refine (spec_IntOf_ok _ _).mono ?_; rintro e wx ⟨rfl, rfl⟩) | (go_at_call 25; refine (spec_BoolOf_ok _ _).mono ?_; rintro e wx ⟨rfl, rfl⟩) | (go_at_call 21; refine (spec_Kind_ok _ _).mono ?_; rintro e wx ⟨rfl, rfl⟩) | (go_at_call 23; refine (spec_Num_ok _ _).mono ?_; rintro e wx ⟨rfl, rfl⟩) | (go_at_call 14; refine (spec_ValueOk_ok _ _ (by omega) (by omega)).mono ?_; rintro e wx ⟨rfl, rfl⟩) | (go_at_call 8; refine (impl_RefOf_ok _ _ _).mono ?_; rintro e wx ⟨rfl, rfl⟩) | (go_at_call 12; refine (spec_RefOf_ok _ _ _).mono ?_; rintro e wx ⟨rfl, rfl⟩))
    refine (DrawValueOk_ok a0 len0 cap0 _ _ hs2).mono ?_
    rintro e w3 ⟨x, rfl, hx, hb3⟩
    have hs3 := hs2.below hb3
    go_wp2_with (first | (go_at_call 4; go_in) | (go_at_call 15; refine (impl_Wrap_ok _ _).mono ?_; rintro e wx ⟨rfl, rfl⟩) | (go_at_call 6; refine (impl_IntOf_ok _ _).mono ?_; rintro e wx ⟨rfl, rfl⟩) | (go_at_call 24; refine (impl_BoolOf_ok _ _).mono ?_; rintro e wx ⟨rfl, rfl⟩) | (go_at_call 20; refine (impl_Kind_ok _ _).mono ?_; rintro e wx ⟨rfl, rfl⟩) | (go_at_call 22; refine (impl_Num_ok _ _ (by omega) (by omega)).mono ?_; rintro e wx ⟨rfl, rfl⟩) | (go_at_call 13; refine (impl_ValueOk_ok _ _ (by omega) (by omega)).mono ?_; rintro e wx ⟨rfl, rfl⟩) | (go_at_call 16; refine (spec_Wrap_ok _ _).mono ?_; rintro e wx ⟨rfl, rfl⟩) | (go_at_call 11; refine (spec_IntOf_ok _ _).mono ?_; rintro e wx ⟨rfl, rfl⟩) | (go_at_call 25; refine (spec_BoolOf_ok _ _).mono ?_; rintro e wx ⟨rfl, rfl⟩) | (go_at_call 21; refine (spec_Kind_ok _ _).mono ?_; rintro e wx ⟨rfl, rfl⟩) | (go_at_call 23; refine (spec_Num_ok _ _).mono ?_; rintro e wx ⟨rfl, rfl⟩) | (go_at_call 14; refine (spec_ValueOk_ok _ _ (by omega) (by omega)).mono ?_; rintro e wx ⟨rfl, rfl⟩) | (go_at_call 8; refine (impl_RefOf_ok _ _ _).mono ?_; rintro e wx ⟨rfl, rfl⟩) | (go_at_call 12; refine (spec_RefOf_ok _ _ _).mono ?_; rintro e wx ⟨rfl, rfl⟩))
    refine (DrawWrap_ok a0 len0 cap0 _ _ hs3).mono ?_
    rintro e w4 ⟨u, rfl, hu, hb4⟩
    have hs4 := hs3.below hb4
    go_wp2_with (first | (go_at_call 4; go_in) | (go_at_call 15; refine (impl_Wrap_ok _ _).mono ?_; rintro e wx ⟨rfl, rfl⟩) | (go_at_call 6; refine (impl_IntOf_ok _ _).mono ?_; rintro e wx ⟨rfl, rfl⟩) | (go_at_call 24; refine (impl_BoolOf_ok _ _).mono ?_; rintro e wx ⟨rfl, rfl⟩) | (go_at_call 20; refine (impl_Kind_ok _ _).mono ?_; rintro e wx ⟨rfl, rfl⟩) | (go_at_call 22; refine (impl_Num_ok _ _ (by omega) (by omega)).mono ?_; rintro e wx ⟨rfl, rfl⟩) | (go_at_call 13; refine (impl_ValueOk_ok _ _ (by omega) (by omega)).mono ?_; rintro e wx ⟨rfl, rfl⟩) | (go_at_call 16; refine (spec_Wrap_ok _ _).mono ?_; rintro e wx ⟨rfl, rfl⟩) | (go_at_call 11; refine (spec_IntOf_ok _ _).mono ?_; rintro e wx ⟨rfl, rfl⟩) | (go_at_call 25; refine (spec_BoolOf_ok _ _).mono ?_; rintro e wx ⟨rfl, rfl⟩) | (go_at_call 21; refine (spec_Kind_ok _ _).mono ?_; rintro e wx ⟨rfl, rfl⟩) | (go_at_call 23; refine (spec_Num_ok _ _).mono ?_; rintro e wx ⟨rfl, rfl⟩) | (go_at_call 14; refine (spec_ValueOk_ok _ _ (by omega) (by omega)).mono ?_; rintro e wx ⟨rfl, rfl⟩) | (go_at_call 8; refine (impl_RefOf_ok _ _ _).mono ?_; rintro e wx ⟨rfl, rfl⟩) | (go_at_call 12; refine (spec_RefOf_ok _ _ _).mono ?_; rintro e wx ⟨rfl, rfl⟩))
    refine (DrawBoolOf_ok a0 len0 cap0 _ _ hs4).mono ?_
    rintro e w5 ⟨b, rfl, hb5⟩
    have hs5 := hs4.below hb5
    go_wp2_with (first | (go_at_call 4; go_in) | (go_at_call 15; refine (impl_Wrap_ok _ _).mono ?_; rintro e wx ⟨rfl, rfl⟩) | (go_at_call 6; refine (impl_IntOf_ok _ _).mono ?_; rintro e wx ⟨rfl, rfl⟩) | (go_at_call 24; refine (impl_BoolOf_ok _ _).mono ?_; rintro e wx ⟨rfl, rfl⟩) | (go_at_call 20; refine (impl_Kind_ok _ _).mono ?_; rintro e wx ⟨rfl, rfl⟩) | (go_at_call 22; refine (impl_Num_ok _ _ (by omega) (by omega)).mono ?_; rintro e wx ⟨rfl, rfl⟩) | (go_at_call 13; refine (impl_ValueOk_ok _ _ (by omega) (by omega)).mono ?_; rintro e wx ⟨rfl, rfl⟩) | (go_at_call 16; refine (spec_Wrap_ok _ _).mono ?_; rintro e wx ⟨rfl, rfl⟩) | (go_at_call 11; refine (spec_IntOf_ok _ _).mono ?_; rintro e wx ⟨rfl, rfl⟩) | (go_at_call 25; refine (spec_BoolOf_ok _ _).mono ?_; rintro e wx ⟨rfl, rfl⟩) | (go_at_call 21; refine (spec_Kind_ok _ _).mono ?_; rintro e wx ⟨rfl, rfl⟩) | (go_at_call 23; refine (spec_Num_ok _ _).mono ?_; rintro e wx ⟨rfl, rfl⟩) | (go_at_call 14; refine (spec_ValueOk_ok _ _ (by omega) (by omega)).mono ?_; rintro e wx ⟨rfl, rfl⟩) | (go_at_call 8; refine (impl_RefOf_ok _ _ _).mono ?_; rintro e wx ⟨rfl, rfl⟩) | (go_at_call 12; refine (spec_RefOf_ok _ _ _).mono ?_; rintro e wx ⟨rfl, rfl⟩))
    refine (DrawKind_ok a0 len0 cap0 _ _ hs5).mono ?_
    rintro e w6 ⟨y, rfl, hy, hb6⟩
    have hs6 := hs5.below hb6
    go_wp2_with (first | (go_at_call 4; go_in) | (go_at_call 15; refine (impl_Wrap_ok _ _).mono ?_; rintro e wx ⟨rfl, rfl⟩) | (go_at_call 6; refine (impl_IntOf_ok _ _).mono ?_; rintro e wx ⟨rfl, rfl⟩) | (go_at_call 24; refine (impl_BoolOf_ok _ _).mono ?_; rintro e wx ⟨rfl, rfl⟩) | (go_at_call 20; refine (impl_Kind_ok _ _).mono ?_; rintro e wx ⟨rfl, rfl⟩) | (go_at_call 22; refine (impl_Num_ok _ _ (by omega) (by omega)).mono ?_; rintro e wx ⟨rfl, rfl⟩) | (go_at_call 13; refine (impl_ValueOk_ok _ _ (by omega) (by omega)).mono ?_; rintro e wx ⟨rfl, rfl⟩) | (go_at_call 16; refine (spec_Wrap_ok _ _).mono ?_; rintro e wx ⟨rfl, rfl⟩) | (go_at_call 11; refine (spec_IntOf_ok _ _).mono ?_; rintro e wx ⟨rfl, rfl⟩) | (go_at_call 25; refine (spec_BoolOf_ok _ _).mono ?_; rintro e wx ⟨rfl, rfl⟩) | (go_at_call 21; refine (spec_Kind_ok _ _).mono ?_; rintro e wx ⟨rfl, rfl⟩) | (go_at_call 23; refine (spec_Num_ok _ _).mono ?_; rintro e wx ⟨rfl, rfl⟩) | (go_at_call 14; refine (spec_ValueOk_ok _ _ (by omega) (by omega)).mono ?_; rintro e wx ⟨rfl, rfl⟩) | (go_at_call 8; refine (impl_RefOf_ok _ _ _).mono ?_; rintro e wx ⟨rfl, rfl⟩) | (go_at_call 12; refine (spec_RefOf_ok _ _ _).mono ?_; rintro e wx ⟨rfl, rfl⟩))
    refine (DrawNum_ok a0 len0 cap0 _ _ hs6).mono ?_
    rintro e w7 ⟨y2, rfl, hy2, hb7⟩
    have hbel : Below w.heap.size w w7 := hb1.trans ((((((hb2.trans (hb3.mono hb2.size)).trans (hb4.mono (by have := hb2.size; have := hb3.size; omega))).trans (hb5.mono (by have := hb2.size; have := hb3.size; have := hb4.size; omega))).trans (hb6.mono (by have := hb2.size; have := hb3.size; have := hb4.size; have := hb5.size; omega))).trans (hb7.mono (by have := hb2.size; have := hb3.size; have := hb4.size; have := hb5.size; have := hb6.size; omega))).mono hb1.size)
    clear hs hs1 hs2 hs3 hs4 hs5 hs6 hb1 hb2 hb3 hb4 hb5 hb6 hb7
    have hw32 := Plain.wrap32_bd n
    have hwt := Plain.wrap32_twice u
    have hwr := Plain.wrap32_round u
    have hvi := vOk_int n
    by_cases hr : 4 ≤ k ∧ k ≤ 7 ∧ 0 ≤ at2 ∧ at2 ≤ 1999
    · have hvr := vRef_yes hr
      have hvo := vOk_ref hr
      obtain ⟨hr1, hr2, hr3, hr4⟩ := hr
      go_wp2_with (first | (go_at_call 4; go_in) | (go_at_call 15; refine (impl_Wrap_ok _ _).mono ?_; rintro e wx ⟨rfl, rfl⟩) | (go_at_call 6; refine (impl_IntOf_ok _ _).mono ?_; rintro e wx ⟨rfl, rfl⟩) | (go_at_call 24; refine (impl_BoolOf_ok _ _).mono ?_; rintro e wx ⟨rfl, rfl⟩) | (go_at_call 20; refine (impl_Kind_ok _ _).mono ?_; rintro e wx ⟨rfl, rfl⟩) | (go_at_call 22; refine (impl_Num_ok _ _ (by omega) (by omega)).mono ?_; rintro e wx ⟨rfl, rfl⟩) | (go_at_call 13; refine (impl_ValueOk_ok _ _ (by omega) (by omega)).mono ?_; rintro e wx ⟨rfl, rfl⟩) | (go_at_call 16; refine (spec_Wrap_ok _ _).mono ?_; rintro e wx ⟨rfl, rfl⟩) | (go_at_call 11; refine (spec_IntOf_ok _ _).mono ?_; rintro e wx ⟨rfl, rfl⟩) | (go_at_call 25; refine (spec_BoolOf_ok _ _).mono ?_; rintro e wx ⟨rfl, rfl⟩) | (go_at_call 21; refine (spec_Kind_ok _ _).mono ?_; rintro e wx ⟨rfl, rfl⟩) | (go_at_call 23; refine (spec_Num_ok _ _).mono ?_; rintro e wx ⟨rfl, rfl⟩) | (go_at_call 14; refine (spec_ValueOk_ok _ _ (by omega) (by omega)).mono ?_; rintro e wx ⟨rfl, rfl⟩) | (go_at_call 8; refine (impl_RefOf_ok _ _ _).mono ?_; rintro e wx ⟨rfl, rfl⟩) | (go_at_call 12; refine (spec_RefOf_ok _ _ _).mono ?_; rintro e wx ⟨rfl, rfl⟩))
      all_goals (go_ret; exact ⟨rfl, hbel⟩)
    · have hvr := vRef_no hr
      clear hr
      go_wp2_with (first | (go_at_call 4; go_in) | (go_at_call 15; refine (impl_Wrap_ok _ _).mono ?_; rintro e wx ⟨rfl, rfl⟩) | (go_at_call 6; refine (impl_IntOf_ok _ _).mono ?_; rintro e wx ⟨rfl, rfl⟩) | (go_at_call 24; refine (impl_BoolOf_ok _ _).mono ?_; rintro e wx ⟨rfl, rfl⟩) | (go_at_call 20; refine (impl_Kind_ok _ _).mono ?_; rintro e wx ⟨rfl, rfl⟩) | (go_at_call 22; refine (impl_Num_ok _ _ (by omega) (by omega)).mono ?_; rintro e wx ⟨rfl, rfl⟩) | (go_at_call 13; refine (impl_ValueOk_ok _ _ (by omega) (by omega)).mono ?_; rintro e wx ⟨rfl, rfl⟩) | (go_at_call 16; refine (spec_Wrap_ok _ _).mono ?_; rintro e wx ⟨rfl, rfl⟩) | (go_at_call 11; refine (spec_IntOf_ok _ _).mono ?_; rintro e wx ⟨rfl, rfl⟩) | (go_at_call 25; refine (spec_BoolOf_ok _ _).mono ?_; rintro e wx ⟨rfl, rfl⟩) | (go_at_call 21; refine (spec_Kind_ok _ _).mono ?_; rintro e wx ⟨rfl, rfl⟩) | (go_at_call 23; refine (spec_Num_ok _ _).mono ?_; rintro e wx ⟨rfl, rfl⟩) | (go_at_call 14; refine (spec_ValueOk_ok _ _ (by omega) (by omega)).mono ?_; rintro e wx ⟨rfl, rfl⟩) | (go_at_call 8; refine (impl_RefOf_ok _ _ _).mono ?_; rintro e wx ⟨rfl, rfl⟩) | (go_at_call 12; refine (spec_RefOf_ok _ _ _).mono ?_; rintro e wx ⟨rfl, rfl⟩))
      all_goals (go_ret; exact ⟨rfl, hbel⟩)

set_option maxRecDepth 100000 in
theorem lifted (os : Os) (started : os.Started) (H : Type) (enc : TypeId × Value → H) :
    ReturnsInHanded {} Try.checked os 3 .any (Rows.fnValuesSpec.pre6 enc Try.prog Try.f3 Rows.fnValuesRow.domain false) (Rows.fnValuesSpec.post enc Try.prog Try.f3 false true false false) := by
  refine returnsInHanded_of_change (C := Try.checked) own started (by kernel_rfl) Try.func3
    (ChangeSpec.witness6 (enc := enc) (C := Try.checked) false ⟨#[], #[.slice none 0 0], []⟩ 8 (by kernel_rfl) (by kernel_rfl) (by kernel_rfl) (by kernel_rfl)) ?_
  intro W base args ds gs before hval0 hW hcnd _
  have hval : ∀ (j : Nat) t v, Try.f3.params[j]? = some t → args[j]? = some v → Value.okWide Try.prog W .any base t v := hval0
  have hW' := hW
  obtain ⟨p, q, hA0, hV, rfl, hfz, hnd⟩ := hW
  have hA : DataW.TrodAll enc Try.prog W 0 (fun _ => true) true Try.f3.params.toList args.toList ds p := hA0
  rw [Try.params3] at hA hval
  obtain ⟨v0, vs0, d0, ds0, p0, q0, hargs, rfl, rfl, h0, r0⟩ := trodAll_cons hA
  obtain ⟨rfl, rfl, rfl⟩ := trodAll_nil r0
  obtain rfl : args = #[v0] := by cases args; simp_all
  obtain ⟨rfl, rfl⟩ := trodVars_none hV
  obtain ⟨a0, len0, cap0, rfl⟩ := okWide_slice Try.underlying22 (hval 0 22 v0 rfl rfl)
  have k0 := h0
  have lt0 : ∀ x ∈ p0, x.block < W.heap.size := by obtain ⟨m, hm⟩ := k0; exact DataW.trod_lt m _ _ _ hm
  obtain ⟨z0, w0⟩ : ∃ zs, IsRow .u8 W a0 len0 cap0 zs := by
    obtain ⟨fuel, hf⟩ := h0
    rcases open_ints Try.underlying22 Try.underlying5 (by kernel_rfl) hf with ⟨hcs, _⟩ | ⟨x, l, c, zs, hcs, _, hl, hm, hz, _, hcell, hwz⟩
    · simp [Value.cells] at hcs
      obtain ⟨rfl, rfl, rfl⟩ := hcs
      exact ⟨[], .inl ⟨rfl, rfl, rfl, rfl⟩⟩
    · simp [Value.cells] at hcs
      obtain ⟨rfl, rfl, rfl⟩ := hcs
      exact ⟨zs, .inr ⟨_, rfl, hl, hm, by simpa using hz, hcell, hwz⟩⟩
  clear hA0 hval0
  refine (walk a0 len0 cap0 z0 W w0).mono fun e W' ⟨he, bel⟩ => ?_
  subst he
  exact ⟨_, rfl, _, _, _, [], _, [], hW', trodAll_mk1 (shut_bool Try.underlying4 _), (trodAll_cons_mk (Below.trod laidOut (by kernel_rfl) (of_decide_eq_true (by kernel_rfl)) k0 bel lt0) trodAll_mk0), rfl, bel.frame _, fun h => by cases h⟩

theorem over : Rows.fnValuesRow.holds Try.pinned (OpenSpec.ofChange Rows.fnValuesSpec) :=
  OpenClaim.holds_of_wide 3 Try.f3 rfl rfl rfl rfl rfl rfl rfl ⟨rfl, rfl, rfl, rfl, rfl⟩ rfl rfl rfl rfl rfl (by kernel_rfl) Try.func3 (by kernel_rfl)
    (of_decide_eq_true (by kernel_rfl)) (by unfold Func.isWrapper; first | (rw [if_pos (by decide +kernel)]; kernel_rfl) | (rw [if_neg (by decide +kernel)]; exact ⟨rfl, rfl⟩))
    (fun os started H enc _ => lifted os started H enc)

theorem proved : Rows.FnValuesSaid := over
#print axioms proved
end Go.Proofs.Yteakojjjkignmac.fnValues
