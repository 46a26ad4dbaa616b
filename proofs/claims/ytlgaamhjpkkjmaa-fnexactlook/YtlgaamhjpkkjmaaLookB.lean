/-
  The contract of chapter 5's model Look.
-/
import Derived.Test.YtlgaamhjpkkjmaaLookA
namespace Go.Proofs.Ytlgaamhjpkkjmaa
open Go.RowKit

set_option maxHeartbeats 8000000 in
set_option maxRecDepth 100000 in
theorem spec_Look_ok (w : World) (ao : Option Addr) (cap : Nat) (zs : List Int) (obj name : Int) (hI : Ints w ao zs) (hl : zs.length ≤ 1048576) (ho : -9223372036854775808 ≤ obj ∧ obj ≤ 9223372036854775807) (hn : -9223372036854775808 ≤ name ∧ name ≤ 9223372036854775807) :
    Calls Try.prog 22 #[.agg #[.slice ao zs.length cap], .int .i64 obj, .int .i64 name] w fun e w' => e = .returned (lookV zs obj name) ∧ Kept w w' := by
  have b0 := Cells.new w 27 #[.slice ao zs.length cap]
  have k0 : Kept w (w.alloc (.cells #[.slice ao zs.length cap] 27)) := Kept.alloc (Below.refl _ _) _
  have hKd := fun (u : World) => spec_Kind_ok name u
  by_cases h4 : name % 8 = 4
  · have hL := l5Is_at _ ao cap zs [obj, name] 2 5 #[.int .i64 obj, .int .i64 name] rfl rfl (by simp only [List.mem_cons, List.not_mem_nil, or_false]; rintro z (rfl | rfl); exact ho; exact hn) (by omega) (by omega) (hI.kept k0) hl
    simp only [World.size_alloc] at hL
    have hd : (name % 8 != 4) = false := by simpa using h4
    have c0' := b0.cell 0
    cases hr : isR zs [obj, name] 5 with
    | false =>
      have HR : Hid (lookV zs obj name = .tuple #[.int .i64 0, .bool false]) := by simp [Hid, lookV, ask_is, hr]
      rw [hr] at hL
      clear hr hI
      go_enter Try.func22, Try.ntmps22
      go_wp2_with (first | (go_at_call 30; refine (hKd _).mono ?_; rintro e wx ⟨rfl, rfl⟩) | (go_at_call 52; refine hL.mono ?_; rintro e w1 ⟨rfl, hk1⟩))
      refine bodyPost_ret (v := .tuple #[.int .i64 0, .bool false]) (by simp [results, Try.results22, go_sem]) rfl ⟨by rw [HR.out], k0.trans hk1⟩
    | true =>
      have hk : askR zs obj name = true := by rw [ask_is, hr]; simp [h4]
      rw [hr] at hL
      obtain ⟨hh, hob, _⟩ := ask_facts hk
      obtain ⟨h5, hv⟩ := isOb_facts hob
      have hCl := fun (u : World) (hu : Kept w u) => l5Look_ok u ao cap zs obj name (hI.kept hu) hl hh h5 hv
      have e0 : lookV zs obj name = pairV (lookF zs name zs.length obj) := by rw [lookV, if_pos hk]
      obtain ⟨x, b, hxb⟩ := lookV_tuple zs obj name
      rw [← e0, hxb] at hCl
      have HCl : Hid _ := hCl
      have HR : Hid _ := hxb
      clear hr hk hh hob h5 hv hCl e0 hxb hI
      go_enter Try.func22, Try.ntmps22
      go_wp2_with (first | (go_at_call 30; refine (hKd _).mono ?_; rintro e wx ⟨rfl, rfl⟩) | (go_at_call 52; refine hL.mono ?_; rintro e w1 ⟨rfl, hk1⟩; have c1 := (b0.kept hk1).cell 0) | (go_at_call 58; refine (HCl.out _ (k0.trans hk1)).mono ?_; rintro e w2 ⟨rfl, hk2⟩))
      refine bodyPost_ret (v := .tuple #[.int .i64 x, .bool b]) (by simp [results, Try.results22, go_sem]) rfl ⟨by rw [HR.out], (k0.trans hk1).trans hk2⟩
  · have HR : Hid (lookV zs obj name = .tuple #[.int .i64 0, .bool false]) := by simp [Hid, lookV, ask_is, h4]
    have hd : (name % 8 != 4) = true := by simpa using h4
    clear hI
    go_enter Try.func22, Try.ntmps22
    go_wp2_with (first | (go_at_call 30; refine (hKd _).mono ?_; rintro e wx ⟨rfl, rfl⟩))
    refine bodyPost_ret (v := .tuple #[.int .i64 0, .bool false]) (by simp [results, Try.results22, go_sem]) rfl ⟨by rw [HR.out], k0⟩
end Go.Proofs.Ytlgaamhjpkkjmaa
