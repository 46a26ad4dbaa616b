/-
  The law FnExactFind is proved: at every list of scopes and every name impl.Find answers as its model, and it writes into none of them.
-/
import Derived.Test.YtcecoicblejifaaRows
import Derived.Test.YtcecoicblejifaaFrameF
import Derived.Test.YtcecoicblejifaaFndB
import Derived.Deep.RegionWith
namespace Go.Proofs.Ytcecoicblejifaa.fnExactFind
open Go.ChangeShapes Go.WideShapes Go.ChangeAt Go.RowKit
set_option linter.unusedVariables false

theorem own : ownKnob Try.prog.godebug = none := by kernel_rfl

set_option maxHeartbeats 8000000 in
set_option maxRecDepth 100000 in
theorem walk (w : World) (ao0 : Option Addr) (cap0 : Nat) (tss0 : List (List ByteArray)) (hl0 : tss0.length ≤ maxLen) (hF0 : ∀ ts ∈ tss0, FitT ts) (hS0 : SsA w ao0 tss0) (s1 : ByteArray) (hm1 : s1.size ≤ maxLen) :
    Calls Try.prog 3 #[.slice ao0 tss0.length cap0, .string s1] w fun e w' => e = .returned (.bool true) ∧ Kept w w' := by
  by_cases hs : 1048576 < s1.size
  · have hs' : (1048576 : Int) < (s1.size : Int) := by omega
    go_enter Try.func3, Try.ntmps3
    go_wp2_with fail
    go_ret
    exact ⟨rfl, Below.refl _ _⟩
  have hs' : ¬ (1048576 : Int) < (s1.size : Int) := by omega
  have hSz := szStringSS_ok w ao0 cap0 tss0 1048576 hS0 hl0 hF0 (by decide) (by decide)
  by_cases hb : ((blkTT tss0 : Nat) : Int) ≤ 1048576
  · rw [show leftT 1048576 (blkTT tss0) = 1048576 - ((blkTT tss0 : Nat) : Int) from if_pos hb] at hSz
    obtain ⟨r, hr⟩ : ∃ r, 1048576 - ((blkTT tss0 : Nat) : Int) = r := ⟨_, rfl⟩
    have hd : decide (r < 0) = false := decide_eq_false (by omega)
    rw [hr] at hSz
    have hl : tss0.length ≤ 1048576 := by unfold blkTT at hb; omega
    have hi : ∀ ts ∈ tss0, ts.length ≤ 1048576 := fun ts h => by have := sumTT_mem h; unfold blkTT at hb; unfold blkT at this; omega
    have HTo : Hid (∀ u, Kept w u → Calls Try.prog 6 #[.slice ao0 tss0.length cap0] u fun e w' => ∃ g, e = .returned (.slice (some ⟨g, 0, none⟩) tss0.length tss0.length) ∧ SsA w' (some ⟨g, 0, none⟩) tss0 ∧ Kept u w') := fun u hu => (toStringSS_ok u ao0 cap0 tss0 (hS0.kept hu) hl hi).mono (fun e w' h => ⟨_, h⟩)
    obtain ⟨x, y, z, exyz⟩ : ∃ x y z, fndV tss0 s1 = .tuple #[.int .i64 x, .int .i64 y, .bool z] := ⟨_, _, _, rfl⟩
    have HSp : Hid (∀ u ao, SsA u ao tss0 → Calls Try.prog 5 #[.slice ao tss0.length tss0.length, .string s1] u fun e w' => e = .returned (.tuple #[.int .i64 x, .int .i64 y, .bool z]) ∧ w' = u) := fun u ao h => by rw [← exyz]; exact spec_Find_ok u ao _ tss0 s1 h hl hi
    have HIm : Hid (∀ u ao, SsA u ao tss0 → Calls Try.prog 7 #[.slice ao tss0.length tss0.length, .string s1] u fun e w' => e = .returned (.tuple #[.int .i64 x, .int .i64 y, .bool z]) ∧ w' = u) := fun u ao h => by rw [← exyz]; exact impl_Find_ok u ao _ tss0 s1 h hl hi
    have HEq : Hid (∀ u ao bo, SsA u ao tss0 → SsA u bo tss0 → Calls Try.prog 8 #[.slice ao tss0.length tss0.length, .slice bo tss0.length tss0.length] u fun e w' => e = .returned (.bool true) ∧ Kept u w') := fun u ao bo h h' => eqStringSS_ok u ao bo _ _ tss0 h h' hl hi
    have hx : (x != x) = false := by simp
    have hy : (y != y) = false := by simp
    have hz : (z != z) = false := by simp
    clear hr hb hi exyz hS0 hF0 hl0 hs
    go_enter Try.func3, Try.ntmps3
    go_wp2_with (first
      | (have _tk := kq4; go_at_call 8; refine (HEq.out _ _ _ (S3.kept kq4) S4).mono ?_; rintro e w5 ⟨rfl, kq5⟩)
      | (have _tk := tk3; go_at_call 6; refine (HTo.out _ (Kept.trans kq2 kq3)).mono ?_; rintro e w4 ⟨g4, rfl, S4, kq4⟩)
      | (have _tk := S3; go_at_call 7; refine (HIm.out _ _ S3).mono ?_; rintro e w3b ⟨rfl, rfl⟩; have tk3 : True := trivial)
      | (have _tk := tk2; go_at_call 6; refine (HTo.out _ kq2).mono ?_; rintro e w3 ⟨g3, rfl, S3, kq3⟩)
      | (have _tk := S2; go_at_call 5; refine (HSp.out _ _ S2).mono ?_; rintro e w2b ⟨rfl, rfl⟩; have tk2 : True := trivial)
      | (have _tk := tk1; go_at_call 6; refine (HTo.out _ (Below.refl _ _)).mono ?_; rintro e w2 ⟨g2, rfl, S2, kq2⟩)
      | (go_at_call 4; refine hSz.mono ?_; rintro e w1 ⟨rfl, rfl⟩; have tk1 : True := trivial))
    go_ret
    exact ⟨rfl, Kept.trans (Kept.trans (Kept.trans kq2 kq3) kq4) kq5⟩
  · rw [show leftT 1048576 (blkTT tss0) = -1 from if_neg hb] at hSz
    clear hb hS0 hF0
    go_enter Try.func3, Try.ntmps3
    go_wp2_with (go_at_call 4; refine hSz.mono ?_; rintro e w1 ⟨rfl, rfl⟩)
    go_ret
    exact ⟨rfl, Below.refl _ _⟩

set_option maxRecDepth 100000 in
theorem lifted (os : Os) (started : os.Started) (H : Type) (enc : TypeId × Value → H) :
    ReturnsInHanded {} Try.checked os 3 .any (Rows.fnExactFindSpec.pre6 enc Try.prog Try.f3 Rows.fnExactFindRow.domain false) (Rows.fnExactFindSpec.post enc Try.prog Try.f3 false true false false) := by
  refine returnsInHanded_of_change (C := Try.checked) own started (by kernel_rfl) Try.func3
    (ChangeSpec.witness6 (enc := enc) (C := Try.checked) false ⟨#[], #[.slice none 0 0, .string ⟨#[]⟩], []⟩ 8 (by kernel_rfl) (by kernel_rfl) (by kernel_rfl) (by kernel_rfl)) ?_
  intro W base args ds gs before hval0 hW hcnd _
  have hval : ∀ (j : Nat) t v, Try.f3.params[j]? = some t → args[j]? = some v → Value.okWide Try.prog W .any base t v := hval0
  have hW' := hW
  obtain ⟨p, q, hA0, hV, rfl, hfz, hnd⟩ := hW
  have hA : DataW.TrodAll enc Try.prog W 0 (fun _ => true) true Try.f3.params.toList args.toList ds p := hA0
  rw [Try.params3] at hA hval
  obtain ⟨v0, vs0, d0, ds0, p0, q0, hargs0, rfl, rfl, h0, r0⟩ := trodAll_cons hA
  obtain ⟨v1, vs1, d1, ds1, p1, q1, hargs1, rfl, rfl, h1, r1⟩ := trodAll_cons r0
  obtain ⟨rfl, rfl, rfl⟩ := trodAll_nil r1
  obtain rfl : args = #[v0, v1] := by cases args; simp_all
  obtain ⟨rfl, rfl⟩ := trodVars_none hV
  clear hA0 hval0
  simp only [List.append_nil] at hW'
  have hlt0 : ∀ x ∈ p0, x.block < W.heap.size := fun x hx => by simpa using hW'.lt x (by simp [hx])
  have hlt1 : ∀ x ∈ p1, x.block < W.heap.size := fun x hx => by simpa using hW'.lt x (by simp [hx])
  obtain ⟨ao0, cap0, tss0, rfl, hl0, hF0, hS0⟩ := open_ss (hval 0 22 v0 rfl rfl) h0
  obtain ⟨s1, rfl, hm1⟩ := open_text (hval 1 9 v1 rfl rfl) h1
  refine (walk W ao0 cap0 tss0 hl0 hF0 hS0 s1 hm1).mono fun e W' ⟨he, hk⟩ => ?_
  subst he
  refine ⟨_, rfl, _, _, _, [], p0 ++ (p1 ++ []), [], hW', ?_, ?_, rfl, hk.frame _, fun h => by cases h⟩
  · exact trodAll_cons_mk (shut_bool Try.underlying4 _) trodAll_mk0
  · exact (trodAll_cons_mk (Below.trod laid (by kernel_rfl) (of_decide_eq_true (by kernel_rfl)) h0 hk hlt0) (trodAll_cons_mk (Below.trod laid (by kernel_rfl) (of_decide_eq_true (by kernel_rfl)) h1 hk hlt1) trodAll_mk0))

theorem over : Rows.fnExactFindRow.holds Try.pinned (OpenSpec.ofChange Rows.fnExactFindSpec) :=
  OpenClaim.holds_of_wide 3 Try.f3 rfl rfl rfl rfl rfl rfl rfl ⟨rfl, rfl, rfl, rfl, rfl⟩ rfl rfl rfl rfl rfl (by kernel_rfl) Try.func3 (by kernel_rfl)
    (of_decide_eq_true (by kernel_rfl)) (by unfold Func.isWrapper; first | (rw [if_pos (by decide +kernel)]; kernel_rfl) | (rw [if_neg (by decide +kernel)]; exact ⟨rfl, rfl⟩))
    (fun os started H enc _ => lifted os started H enc)

theorem proved : Rows.FnExactFindSaid :=
  over
#print axioms proved
end Go.Proofs.Ytcecoicblejifaa.fnExactFind
