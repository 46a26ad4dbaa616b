/-
  Parts written one behind the other (chapter 19): a builder that holds a text; impl.writeParts.
-/
import Derived.Test.YthmabhglmgnamaaDoorFmsA
import Derived.Test.YthmabhglmgnamaaDoorFndB
import Derived.Lib.OthersKept
namespace Go.Proofs.YthmabhglmgnamaaDoor
open Go.RowKit
set_option linter.unusedSimpArgs false
set_option linter.unusedVariables false
/-- Parts one behind the other. -/
def catF (F : Nat → ByteArray) : Nat → ByteArray
  | 0 => ⟨#[]⟩
  | n + 1 => catF F n ++ F n
theorem catF_size {F : Nat → ByteArray} {c : Nat} : ∀ {n : Nat}, (∀ k, k < n → (F k).size ≤ c) → (catF F n).size ≤ n * c
  | 0, _ => Nat.zero_le _
  | n + 1, h => by
    have h1 := catF_size (n := n) (fun k hk => h k (by omega))
    have h2 := h n (by omega)
    rw [catF, ByteArray.size_append, Nat.succ_mul]
    omega
theorem catF_congr {F G : Nat → ByteArray} : ∀ {n : Nat}, (∀ k, k < n → F k = G k) → catF F n = catF G n
  | 0, _ => rfl
  | n + 1, h => by rw [catF, catF, catF_congr (fun k hk => h k (by omega)), h n (by omega)]
/-- A builder that holds a text. -/
def BldC (w : World) (B : Nat) (t : ByteArray) : Prop := Lib.IsBuilderF 76 5 B B (Lib.byteCells t.data.toList) w
theorem BldC.new (w : World) : BldC (w.alloc (.cells #[.pointer none, .slice none 0 0] 76)) w.heap.size ⟨#[]⟩ := Lib.IsBuilderF.of (Lib.fresh_isBuilder 76 5 w)
theorem BldC.lt {w : World} {B : Nat} {t : ByteArray} (h : BldC w B t) : B < w.heap.size := h.elim (fun x => x.lt) (fun x => x.lt)
theorem BldC.kept {w w' : World} {B : Nat} {t : ByteArray} (h : BldC w B t) (hk : Kept w w') : BldC w' B t := by
  have key : ∀ p, Lib.BuilderAtF 76 5 B B p (Lib.byteCells t.data.toList) w → Lib.BuilderAtF 76 5 B B p (Lib.byteCells t.data.toList) w' := by
    intro p hp
    have hlt := hp.lt
    obtain ⟨hB, v, hb, hown, hne⟩ := hp
    exact ⟨hB, v, (hk.block B hlt).trans hb, hown.kept (Kept.grown hk) (by cases hv : v.ownBlock <;> simp), hne⟩
  exact h.elim (fun x => .inl (key _ x)) (fun x => .inr (key _ x))
theorem WriteStringC_ok (w : World) (B : Nat) (t s : ByteArray) (h : BldC w B t) (hlen : t.size + s.size ≤ 140737488355328) :
    Calls Tryd.prog 45 #[.pointer (some ⟨B, 0, none⟩), .string s] w fun e w' => e = .returned (.tuple #[.int .i64 (s.size : Nat), .nilIface]) ∧ BldC w' B (t ++ s) ∧ Below B w w' ∧ Lib.OthersKept 5 (some B) w w' := by
  refine (lib_Builder_WriteString_k B B _ s w h (by rw [Lib.byteCells_length, Array.length_toList]; exact hlen) (Nat.le_of_lt h.lt)).mono ?_
  rintro e w' ⟨rfl, h1, h2, h3⟩
  refine ⟨rfl, .inr ?_, h2, h3⟩
  have e1 : Lib.byteCells t.data.toList ++ Lib.strCells s = Lib.byteCells (t ++ s).data.toList := by
    rw [ByteArray.data_append, Array.toList_append, Lib.byteCells_append]
    rfl
  rw [e1] at h1
  exact h1
theorem StringC_ok (w : World) (B : Nat) (t : ByteArray) (h : BldC w B t) :
    Calls Tryd.prog 46 #[.pointer (some ⟨B, 0, none⟩)] w fun e w' => e = .returned (.string t) ∧ Below B w w' := by
  refine (lib_Builder_String_any_k B B _ w h (Nat.le_of_lt h.lt)).mono ?_
  rintro e w' ⟨rfl, h1, h2, h3⟩
  exact ⟨rfl, h2⟩
set_option maxHeartbeats 8000000 in
set_option maxRecDepth 100000 in
theorem writePartsC_ok (w : World) (n : Nat) (c1 : Value) (F : Nat → ByteArray) (hn : n ≤ 10000000) (hz : ∀ k, k ≤ n → (catF F k).size ≤ 10000000000) (hz1 : ∀ k, k < n → (F k).size ≤ 1000)
    (hC : ∀ k, k < n → ∀ u, Kept w u → Calls Tryd.prog 26 #[.int .i64 (k : Nat), c1] u fun e w' => e = .returned (.string (F k)) ∧ Kept u w') :
    Calls Tryd.prog 25 #[.int .i64 (n : Nat), .func (.func 26) #[] #[c1]] w fun e w' => e = .returned (.string (catF F n)) ∧ Kept w w' := by
  have k0 : Kept w (w.alloc (.cells #[.pointer none, .slice none 0 0] 76)) := Kept.alloc (Below.refl _ _) _
  have HB0 : Hid _ := BldC.new w
  have HC : Hid (∀ k, k < n → ∀ u, Kept w u → Calls Tryd.prog 26 #[.int .i64 (k : Nat), c1] u fun e w' => e = .returned (.string (F k)) ∧ Kept u w') := hC
  have HZ : Hid (∀ k, k ≤ n → (catF F k).size ≤ 10000000000) := hz
  have HZ1 : Hid (∀ k, k < n → (F k).size ≤ 1000) := hz1
  have HK0 : Hid _ := k0
  clear hC hz hz1 k0
  go_enter Tryd.func25, Tryd.ntmps25
  go_wp2_with fail
  go_loopw [8] (fun i wr => ∃ k : Nat, i = .int .i64 k ∧ k ≤ n ∧ Hid (BldC wr w.heap.size (catF F k)) ∧ Hid (Kept w wr)) (fun i _ => n - (intOf i).toNat)
  case atStart => exact ⟨0, rfl, Nat.zero_le _, HB0.out, HK0.out⟩
  case round =>
    obtain ⟨k, rfl, hk, hB, hKp⟩ := hrel
    have hO := HZ.out k hk
    by_cases hlt : k < n
    · have q1 : (k : Int) < (n : Int) := by omega
      have q2 : (k : Int) + 1 ≤ 9223372036854775807 := by omega
      have hf := HZ1.out k hlt
      have hCk := HC.out k hlt wr hKp.out
      have HW : Hid (∀ u, Kept wr u → Calls Tryd.prog 45 #[.pointer (some ⟨w.heap.size, 0, none⟩), .string (F k)] u fun e w' => e = .returned (.tuple #[.int .i64 ((F k).size : Nat), .nilIface]) ∧ BldC w' w.heap.size (catF F (k + 1)) ∧ Below w.heap.size u w' ∧ Lib.OthersKept 5 (some w.heap.size) u w') := fun u hu => WriteStringC_ok u w.heap.size _ (F k) (BldC.kept hB.out hu) (by omega)
      obtain ⟨D, hD⟩ : ∃ D, F k = D := ⟨_, rfl⟩
      rw [hD] at hCk HW
      clear hO hf hD
      go_wp2_with (first
        | (have _tk := hk2; go_at_call 45; refine (HW.out _ hk2).mono ?_; rintro e w3 ⟨rfl, hB3, hb3, ho3⟩)
        | (go_at_call 26; refine hCk.mono ?_; rintro e w2 ⟨rfl, hk2⟩))
      go_roundw
      case rel => exact ⟨k + 1, by go_num, by omega, hB3, Below.trans (Kept.trans hKp.out hk2) hb3⟩
      case measure => simp [intOf]; omega
    · have q1 : ¬ (k : Int) < (n : Int) := by omega
      have hS := StringC_ok wr w.heap.size _ hB.out
      have HF : Hid (catF F k = catF F n) := by rw [Hid, show k = n by omega]
      rw [HF.out] at hS
      go_wp2_with (go_at_call 46; refine hS.mono ?_; rintro e w1 ⟨rfl, hb1⟩)
      go_ret
      exact ⟨rfl, Below.trans hKp.out hb1⟩
set_option maxHeartbeats 8000000 in
set_option maxRecDepth 100000 in
theorem writePartsS_ok (w : World) (n : Nat) (c1 c2 : Value) (F : Nat → ByteArray) (hn : n ≤ 10000000) (hz : ∀ k, k ≤ n → (catF F k).size ≤ 10000000000) (hz1 : ∀ k, k < n → (F k).size ≤ 1000)
    (hC : ∀ k, k < n → ∀ u, Kept w u → Calls Tryd.prog 36 #[.int .i64 (k : Nat), c1, c2] u fun e w' => e = .returned (.string (F k)) ∧ Kept u w') :
    Calls Tryd.prog 25 #[.int .i64 (n : Nat), .func (.func 36) #[] #[c1, c2]] w fun e w' => e = .returned (.string (catF F n)) ∧ Kept w w' := by
  have k0 : Kept w (w.alloc (.cells #[.pointer none, .slice none 0 0] 76)) := Kept.alloc (Below.refl _ _) _
  have HB0 : Hid _ := BldC.new w
  have HC : Hid (∀ k, k < n → ∀ u, Kept w u → Calls Tryd.prog 36 #[.int .i64 (k : Nat), c1, c2] u fun e w' => e = .returned (.string (F k)) ∧ Kept u w') := hC
  have HZ : Hid (∀ k, k ≤ n → (catF F k).size ≤ 10000000000) := hz
  have HZ1 : Hid (∀ k, k < n → (F k).size ≤ 1000) := hz1
  have HK0 : Hid _ := k0
  clear hC hz hz1 k0
  go_enter Tryd.func25, Tryd.ntmps25
  go_wp2_with fail
  go_loopw [8] (fun i wr => ∃ k : Nat, i = .int .i64 k ∧ k ≤ n ∧ Hid (BldC wr w.heap.size (catF F k)) ∧ Hid (Kept w wr)) (fun i _ => n - (intOf i).toNat)
  case atStart => exact ⟨0, rfl, Nat.zero_le _, HB0.out, HK0.out⟩
  case round =>
    obtain ⟨k, rfl, hk, hB, hKp⟩ := hrel
    have hO := HZ.out k hk
    by_cases hlt : k < n
    · have q1 : (k : Int) < (n : Int) := by omega
      have q2 : (k : Int) + 1 ≤ 9223372036854775807 := by omega
      have hf := HZ1.out k hlt
      have hCk := HC.out k hlt wr hKp.out
      have HW : Hid (∀ u, Kept wr u → Calls Tryd.prog 45 #[.pointer (some ⟨w.heap.size, 0, none⟩), .string (F k)] u fun e w' => e = .returned (.tuple #[.int .i64 ((F k).size : Nat), .nilIface]) ∧ BldC w' w.heap.size (catF F (k + 1)) ∧ Below w.heap.size u w' ∧ Lib.OthersKept 5 (some w.heap.size) u w') := fun u hu => WriteStringC_ok u w.heap.size _ (F k) (BldC.kept hB.out hu) (by omega)
      obtain ⟨D, hD⟩ : ∃ D, F k = D := ⟨_, rfl⟩
      rw [hD] at hCk HW
      clear hO hf hD
      go_wp2_with (first
        | (have _tk := hk2; go_at_call 45; refine (HW.out _ hk2).mono ?_; rintro e w3 ⟨rfl, hB3, hb3, ho3⟩)
        | (go_at_call 36; refine hCk.mono ?_; rintro e w2 ⟨rfl, hk2⟩))
      go_roundw
      case rel => exact ⟨k + 1, by go_num, by omega, hB3, Below.trans (Kept.trans hKp.out hk2) hb3⟩
      case measure => simp [intOf]; omega
    · have q1 : ¬ (k : Int) < (n : Int) := by omega
      have hS := StringC_ok wr w.heap.size _ hB.out
      have HF : Hid (catF F k = catF F n) := by rw [Hid, show k = n by omega]
      rw [HF.out] at hS
      go_wp2_with (go_at_call 46; refine hS.mono ?_; rintro e w1 ⟨rfl, hb1⟩)
      go_ret
      exact ⟨rfl, Below.trans hKp.out hb1⟩
end Go.Proofs.YthmabhglmgnamaaDoor
