/-
  What is turned in memory when rows of one's own are marked: blocks between two numbers alone, and in them cells that are no slices alone.
  The contract of the laws' helper markText: a text for each number.
  What the laws lay as marks into rows of one's own, weakly told: how great the number is, and that nothing else is turned (chapter 17).
-/
import Derived.WalkKit
import Derived.IntWalk
import Derived.Deep.LoopGhost
import Derived.OwnWalk
import Derived.Deep.CutRange
import Derived.Test.YtgempjjnfpmndaaGreatDoorSlabI
import Derived.Test.YtgempjjnfpmndaaGreatDoorUntP
namespace Go.Proofs.YtgempjjnfpmndaaGreatDoor
open Go.RowKit
set_option linter.unusedVariables false
set_option linter.unusedSimpArgs false
def NoSl (v : Value) : Prop := ∀ a l c, v ≠ .slice a l c
structure Tr (lo hi : Nat) (a b : World) : Prop where
  os : b.os = a.os
  tape : b.tape = a.tape
  output : b.output = a.output
  size : a.heap.size ≤ b.heap.size
  block : ∀ j, j < a.heap.size → ¬ (lo ≤ j ∧ j < hi) → b.heap[j]? = a.heap[j]?
  shp : ∀ g t cs, Cells a g t cs → ∃ cs', Cells b g t cs' ∧ cs'.size = cs.size ∧ ∀ (i : Nat) (v : Value), cs[i]? = some v → ∃ v', cs'[i]? = some v' ∧ (NoSl v → NoSl v') ∧ (¬ NoSl v → v' = v)
theorem Tr.refl (lo hi : Nat) (a : World) : Tr lo hi a a := ⟨rfl, rfl, rfl, Nat.le_refl _, fun _ _ _ => rfl, fun g t cs h => ⟨cs, h, rfl, fun i v hv => ⟨v, hv, id, fun _ => rfl⟩⟩⟩
theorem Tr.trans {lo hi : Nat} {a b c : World} (h : Tr lo hi a b) (k : Tr lo hi b c) : Tr lo hi a c := by
  refine ⟨k.os.trans h.os, k.tape.trans h.tape, k.output.trans h.output, Nat.le_trans h.size k.size, fun j hj hn => (k.block j (Nat.lt_of_lt_of_le hj h.size) hn).trans (h.block j hj hn), fun g t cs hc => ?_⟩
  obtain ⟨c1, h1, s1, e1⟩ := h.shp g t cs hc
  obtain ⟨c2, h2, s2, e2⟩ := k.shp g t c1 h1
  refine ⟨c2, h2, s2.trans s1, fun i v hv => ?_⟩
  obtain ⟨v1, hv1, n1, y1⟩ := e1 i v hv
  obtain ⟨v2, hv2, n2, y2⟩ := e2 i v1 hv1
  refine ⟨v2, hv2, fun h => n2 (n1 h), fun h => ?_⟩
  have := y1 h
  subst this
  exact y2 h
theorem Tr.of {lo hi : Nat} {a b : World} (h : Kept a b) : Tr lo hi a b :=
  ⟨h.os, h.tape, h.output, h.size, fun j hj _ => h.block j hj, fun g t cs hc => ⟨cs, hc.kept h, rfl, fun i v hv => ⟨v, hv, id, fun _ => rfl⟩⟩⟩
theorem Tr.set {lo hi : Nat} {a b : World} (h : Tr lo hi a b) {g i : Nat} {v0 v : Value} (hg : lo ≤ g ∧ g < hi) (h0 : b.cell? ⟨g, i, none⟩ = some v0) (n0 : NoSl v0) (hv : NoSl v) : Tr lo hi a (b.setCell ⟨g, i, none⟩ v) := by
  refine h.trans ⟨rfl, rfl, rfl, by simp [World.setCell], fun j hj hn => Below.heap_setCell _ _ _ _ (fun e => hn (by simp at e; omega)), fun g' t cs hc => ?_⟩
  by_cases e : g' = g
  · subst e
    refine ⟨_, hc.set i v, by simp, fun k u hu => ?_⟩
    by_cases ek : k = i
    · subst ek
      rw [hc.cell, hu] at h0
      injection h0 with h0
      subst h0
      have hk : k < cs.size := (Array.getElem?_eq_some_iff.1 hu).1
      exact ⟨v, by simp [Array.getElem?_setIfInBounds, hk], fun _ => hv, fun h => absurd n0 h⟩
    · exact ⟨u, by rw [Array.getElem?_setIfInBounds_ne (by omega)]; exact hu, id, fun _ => rfl⟩
  · exact ⟨cs, hc.other (p := ⟨g, i, none⟩) e _, rfl, fun k u hu => ⟨u, hu, id, fun _ => rfl⟩⟩
theorem Tr.kept {lo hi : Nat} {w a b : World} (k : Kept w a) (h : Tr lo hi a b) (hl : w.heap.size ≤ lo) : Kept w b := by
  refine Below.trans k ⟨h.os, h.tape, h.output, by have := k.size; have := h.size; omega, fun j hj => h.block j (Nat.lt_of_lt_of_le hj k.size) (by omega)⟩
/-- A row of n cells that are no slices. -/
def WrI (W : World) (g : Nat) (t : TypeId) (n : Nat) : Prop := ∃ cs, Cells W g t cs ∧ cs.size = n ∧ ∀ (i : Nat) (v : Value), cs[i]? = some v → NoSl v
theorem WrI.tr {lo hi : Nat} {a b : World} {g : Nat} {t : TypeId} {n : Nat} (h : WrI a g t n) (k : Tr lo hi a b) : WrI b g t n := by
  obtain ⟨cs, h1, h2, h3⟩ := h
  obtain ⟨c2, k1, k2, k3⟩ := k.shp g t cs h1
  refine ⟨c2, k1, k2.trans h2, fun i v hv => ?_⟩
  have hi : i < cs.size := by rw [← k2]; exact (Array.getElem?_eq_some_iff.1 hv).1
  obtain ⟨v', e, n1, _⟩ := k3 i cs[i] (Array.getElem?_eq_getElem hi)
  rw [hv] at e
  injection e with e
  subst e
  exact n1 (h3 i _ (Array.getElem?_eq_getElem hi))
theorem WrI.at' {W : World} {g : Nat} {t : TypeId} {n i : Nat} (h : WrI W g t n) (hi : i < n) : ∃ v, W.cell? ⟨g, i, none⟩ = some v ∧ NoSl v ∧ W.frozen? ⟨g, i, none⟩ = false := by
  obtain ⟨cs, h1, h2, h3⟩ := h
  exact ⟨cs[i], by rw [h1.cell, Array.getElem?_eq_getElem (by omega)], h3 i _ (Array.getElem?_eq_getElem (by omega)), h1.frozen i⟩
theorem noSl_int (k : IntKind) (z : Int) : NoSl (.int k z) := fun _ _ _ h => by cases h
theorem noSl_str (s : ByteArray) : NoSl (.string s) := fun _ _ _ h => by cases h
end Go.Proofs.YtgempjjnfpmndaaGreatDoor
namespace Go.Proofs.YtgempjjnfpmndaaGreatDoor
open Go.RowKit
attribute [local go_sem] Plain.and7

theorem conv_oneN (W : World) (x : Int) : (convert 170 9 (.slice (some ⟨W.heap.size, 0, none⟩) 1 1)).run Tryz.prog (W.alloc (.cells #[.int .u8 x] 5)) = .ok (.string (strOfNums [x])) (W.alloc (.cells #[.int .u8 x] 5)) :=
  run_convert_bytes_arg (W.alloc (.cells #[.int .u8 x] 5)) 170 5 Tryz.underlying170 Tryz.underlying5 W.heap.size 0 1 1 [x] rfl (fun j hj => by
    obtain rfl : j = 0 := by omega
    rw [(Cells.new W 5 #[.int .u8 x]).cell]; rfl) 9 Tryz.underlying9
theorem str_oneN (x : Int) : (strOfNums [x]).size = 1 := rfl
def digM : Nat → Nat → ByteArray → ByteArray
  | 0, _, out => out
  | f + 1, n, out => if n = 0 then out else digM f (n / 10) (strOfNums [48 + (n : Int) % 10] ++ out)
def mkM (k : Nat) : ByteArray := (⟨#[109]⟩ : ByteArray) ++ digM k k ⟨#[]⟩
theorem digM_size : ∀ (f n : Nat) (out : ByteArray), n ≤ f → (digM f n out).size ≤ out.size + n
  | 0, n, out, h => by rw [digM]; omega
  | f + 1, n, out, h => by
    rw [digM]
    split
    · omega
    · have := digM_size f (n / 10) (strOfNums [48 + (n : Int) % 10] ++ out) (by omega)
      rw [ByteArray.size_append, str_oneN] at this
      omega
theorem mkM_size (k : Nat) : (mkM k).size ≤ 1 + k := by
  unfold mkM
  rw [ByteArray.size_append]
  have := digM_size k k ⟨#[]⟩ (Nat.le_refl _)
  have e : (⟨#[]⟩ : ByteArray).size = 0 := rfl
  have e2 : (⟨#[109]⟩ : ByteArray).size = 1 := rfl
  omega
set_option maxHeartbeats 4000000 in
set_option maxRecDepth 100000 in
theorem markTextN_ok (w : World) (k : Nat) (h1 : 1 ≤ k) (h2 : k ≤ 100000000) :
    Calls Tryz.prog 113 #[.int .i64 (k : Int)] w fun e w' => e = .returned (.string (mkM k)) ∧ Kept w w' := by
  have hp : ¬ (k : Int) ≤ 0 := by omega
  go_enter Tryz.func113, Tryz.ntmps113
  go_wp2_with fail
  go_loopw [0, 3] (fun i o wr => ∃ (n f : Nat) (out : ByteArray), i = .int .i64 n ∧ o = .string out ∧ n ≤ f ∧ out.size + n ≤ k ∧ digM f n out = digM k k ⟨#[]⟩ ∧ Kept w wr) (fun i _ _ => (intOf i).toNat)
  case atStart => exact ⟨k, k, _, rfl, rfl, Nat.le_refl _, by show 0 + k ≤ k; omega, rfl, Below.refl _ _⟩
  case round =>
    obtain ⟨n, f, out, rfl, rfl, hnf, hnk, hd, hK⟩ := hrel
    have HD : Hid _ := hd
    have HK : Hid _ := hK
    clear hd
    by_cases h0 : n = 0
    · subst h0
      have e0 : digM f 0 out = out := by cases f <;> simp [digM]
      have HE : Hid (out = digM k k ⟨#[]⟩) := e0.symm.trans HD.out
      have hno : ¬ 9223372036854775807 < 1 + out.size := by omega
      have hno2 : ¬ 9223372036854775807 < (⟨#[109]⟩ : ByteArray).size + out.size := hno
      clear hK e0
      go_wp2_with fail
      go_ret
      exact ⟨by rw [mkM, ← HE.out]; rfl, HK.out⟩
    · have hpos : (0 : Int) < (n : Int) := by omega
      have u8 := IntWalk.u8_in (48 + (n : Int) % 10) (by omega)
      have hcv := conv_oneN wr (48 + (n : Int) % 10)
      have hq : (n : Int).tdiv 10 = ((n / 10 : Nat) : Int) := by rw [Int.tdiv_eq_ediv_of_nonneg (by omega)]; omega
      have hr : (n : Int).tmod 10 = (n : Int) % 10 := by rw [Int.tmod_eq_emod_of_nonneg (by omega)]
      have kA : Kept wr (wr.alloc (.cells #[.int .u8 (48 + (n : Int) % 10)] 5)) := Kept.alloc (Below.refl _ _) _
      have hno : ¬ 9223372036854775807 < (strOfNums [48 + (n : Int) % 10]).size + out.size := by rw [str_oneN]; omega
      obtain ⟨f', rfl⟩ : ∃ f', f = f' + 1 := ⟨f - 1, by omega⟩
      have HD2 : Hid (digM f' (n / 10) (strOfNums [48 + (n : Int) % 10] ++ out) = digM k k ⟨#[]⟩) := by
        have := HD.out
        rw [digM, if_neg h0] at this
        exact this
      clear hK HD
      go_wp2_with fail
      go_roundw
      case rel => exact ⟨n / 10, f', _, by rw [show ((n / 10 : Nat) : Int) = (n : Int) / 10 by omega], rfl, by omega, by rw [ByteArray.size_append, str_oneN]; omega, HD2.out, Kept.trans HK.out kA⟩
      case measure => simp [intOf]; omega
end Go.Proofs.YtgempjjnfpmndaaGreatDoor
namespace Go.Proofs.YtgempjjnfpmndaaGreatDoor
open Go.RowKit
set_option linter.unusedSimpArgs false
set_option linter.unusedVariables false

set_option maxHeartbeats 8000000 in
set_option maxRecDepth 100000 in
theorem markIntS_w (w : World) (lo hi g cap n k : Nat) (hg : lo ≤ g ∧ g < hi) (hR : WrI w g 3 n) (hn : n ≤ 1048576) (hk1 : 1 ≤ k) (hk : k ≤ 90000000) :
    Calls Tryz.prog 63 #[.slice (some ⟨g, 0, none⟩) n cap, .int .i64 (k : Int)] w fun e w' => e = .returned (.int .i64 ((n : Int) + (k : Int))) ∧ Tr lo hi w w' := by
  have HR : Hid _ := hR
  clear hR
  go_enter Tryz.func63, Tryz.ntmps63
  go_wp2_with fail
  go_loopw [1, 5] (fun mv iv wr => ∃ j : Nat, iv = .int .i64 j ∧ mv = .int .i64 (((j : Nat) : Int) + (k : Int)) ∧ j ≤ n ∧ Hid (Tr lo hi w wr)) (fun _ i _ => n - (intOf i).toNat)
  case atStart => exact ⟨0, rfl, by simp, Nat.zero_le _, Tr.refl _ _ _⟩
  case round =>
    obtain ⟨j, rfl, rfl, hj, HT⟩ := hrel
    by_cases hlt : j < n
    · have hlt' : (j : Int) < (n : Int) := by omega
      have HW : Hid (WrI wr g 3 n) := WrI.tr HR.out HT.out
      obtain ⟨v0, c0, n0, f0⟩ := WrI.at' HW.out (i := j) hlt
      go_wp2_with fail
      go_roundw
      case rel => exact ⟨j + 1, by go_num, by go_num, by omega, Tr.set HT.out hg c0 n0 (noSl_int _ _)⟩
      case measure => simp [intOf]; omega
    · obtain rfl : j = n := by omega
      go_wp2_with fail
      go_ret
      exact ⟨rfl, HT.out⟩
set_option maxHeartbeats 8000000 in
set_option maxRecDepth 100000 in
theorem markStringS_w (w : World) (lo hi g cap n k : Nat) (hg : lo ≤ g ∧ g < hi) (hR : WrI w g 9 n) (hn : n ≤ 1048576) (hk1 : 1 ≤ k) (hk : k ≤ 90000000) :
    Calls Tryz.prog 59 #[.slice (some ⟨g, 0, none⟩) n cap, .int .i64 (k : Int)] w fun e w' => e = .returned (.int .i64 ((n : Int) + (k : Int))) ∧ Tr lo hi w w' := by
  have HR : Hid _ := hR
  clear hR
  go_enter Tryz.func59, Tryz.ntmps59
  go_wp2_with fail
  go_loopw [1, 5] (fun mv iv wr => ∃ j : Nat, iv = .int .i64 j ∧ mv = .int .i64 (((j : Nat) : Int) + (k : Int)) ∧ j ≤ n ∧ Hid (Tr lo hi w wr)) (fun _ i _ => n - (intOf i).toNat)
  case atStart => exact ⟨0, rfl, by simp, Nat.zero_le _, Tr.refl _ _ _⟩
  case round =>
    obtain ⟨j, rfl, rfl, hj, HT⟩ := hrel
    by_cases hlt : j < n
    · have hlt' : (j : Int) < (n : Int) := by omega
      have HW : Hid (WrI wr g 9 n) := WrI.tr HR.out HT.out
      obtain ⟨v0, c0, n0, f0⟩ := WrI.at' HW.out (i := j) hlt
      have hM := markTextN_ok wr (j + k) (by omega) (by omega)
      rw [Int.natCast_add] at hM
      go_wp2_with (go_at_call 113; refine hM.mono ?_; rintro e w1 ⟨rfl, hk1⟩; obtain ⟨v1, c1, n1, f1⟩ := WrI.at' (WrI.tr HW.out (Tr.of (lo := lo) (hi := hi) hk1)) (i := j) hlt)
      go_roundw
      case rel => exact ⟨j + 1, by go_num, by go_num, by omega, Tr.set (HT.out.trans (Tr.of hk1)) hg c1 n1 (noSl_str _)⟩
      case measure => simp [intOf]; omega
    · obtain rfl : j = n := by omega
      go_wp2_with fail
      go_ret
      exact ⟨rfl, HT.out⟩
set_option maxHeartbeats 8000000 in
set_option maxRecDepth 100000 in
theorem markStepS_w (w : World) (lo hi g cap n k : Nat) (hg : lo ≤ g ∧ g < hi) (hR : WrI w g 131 (n * 3)) (hn : n ≤ 1048576) (hk1 : 1 ≤ k) (hk : k ≤ 90000000) :
    Calls Tryz.prog 112 #[.slice (some ⟨g, 0, none⟩) n cap, .int .i64 (k : Int)] w fun e w' => e = .returned (.int .i64 (((n * 3 : Nat) : Int) + (k : Int))) ∧ Tr lo hi w w' := by
  have HR : Hid _ := hR
  clear hR
  go_enter Tryz.func112, Tryz.ntmps112
  go_wp2_with fail
  go_loopw [1, 5] (fun mv iv wr => ∃ j : Nat, iv = .int .i64 j ∧ mv = .int .i64 (((j * 3 : Nat) : Int) + (k : Int)) ∧ j ≤ n ∧ Hid (Tr lo hi w wr)) (fun _ i _ => n - (intOf i).toNat)
  case atStart => exact ⟨0, rfl, by simp, Nat.zero_le _, Tr.refl _ _ _⟩
  case round =>
    obtain ⟨j, rfl, rfl, hj, HT⟩ := hrel
    by_cases hlt : j < n
    · have hlt' : (j : Int) < (n : Int) := by omega
      obtain ⟨q, hq⟩ : ∃ q : Nat, j * 3 + k = q := ⟨_, rfl⟩
      have eq0 : ((j * 3 : Nat) : Int) + (k : Int) = (q : Int) := by omega
      rw [eq0]
      have hq2 : q ≤ 99000000 := by omega
      have HQ : Hid (j * 3 + k = q) := hq
      have t0 : Tr lo hi w wr := HT.out
      obtain ⟨v0, c0, n0, f0⟩ := WrI.at' (WrI.tr HR.out t0) (i := j * 3) (by omega)
      have t1 := t0.set hg c0 n0 (noSl_int .i64 (q : Int))
      obtain ⟨v1, c1, n1, f1⟩ := WrI.at' (WrI.tr HR.out t1) (i := j * 3 + 1) (by omega)
      have t2 := t1.set hg c1 n1 (noSl_int .i64 ((q : Int) + 1))
      obtain ⟨v2, c2, n2, f2⟩ := WrI.at' (WrI.tr HR.out t2) (i := j * 3 + 2) (by omega)
      have HT3 : Hid (Tr lo hi w ((((wr.setCell ⟨g, j * 3, none⟩ (.int .i64 (q : Int))).setCell ⟨g, j * 3 + 1, none⟩ (.int .i64 ((q : Int) + 1))).setCell ⟨g, j * 3 + 2, none⟩ (.int .i64 ((q : Int) + 2))))) := t2.set hg c2 n2 (noSl_int .i64 ((q : Int) + 2))
      clear t0 t1 t2 n0 n1 n2 eq0 hq
      go_wp2_with fail
      go_roundw
      case rel => exact ⟨j + 1, by go_num, by have := HQ.out; rw [show (((j + 1) * 3 : Nat) : Int) + (k : Int) = (q : Int) + 3 by omega]; try rfl, by omega, HT3.out⟩
      case measure => simp [intOf]; omega
    · obtain rfl : j = n := by omega
      go_wp2_with fail
      go_ret
      exact ⟨rfl, HT.out⟩
set_option maxHeartbeats 8000000 in
set_option maxRecDepth 100000 in
theorem markFrameS_w (w : World) (lo hi g cap n k : Nat) (hg : lo ≤ g ∧ g < hi) (hR : WrI w g 94 (n * 3)) (hn : n ≤ 1048576) (hk1 : 1 ≤ k) (hk : k ≤ 90000000) :
    Calls Tryz.prog 62 #[.slice (some ⟨g, 0, none⟩) n cap, .int .i64 (k : Int)] w fun e w' => e = .returned (.int .i64 (((n * 3 : Nat) : Int) + (k : Int))) ∧ Tr lo hi w w' := by
  have HR : Hid _ := hR
  clear hR
  go_enter Tryz.func62, Tryz.ntmps62
  go_wp2_with fail
  go_loopw [1, 5] (fun mv iv wr => ∃ j : Nat, iv = .int .i64 j ∧ mv = .int .i64 (((j * 3 : Nat) : Int) + (k : Int)) ∧ j ≤ n ∧ Hid (Tr lo hi w wr)) (fun _ i _ => n - (intOf i).toNat)
  case atStart => exact ⟨0, rfl, by simp, Nat.zero_le _, Tr.refl _ _ _⟩
  case round =>
    obtain ⟨j, rfl, rfl, hj, HT⟩ := hrel
    by_cases hlt : j < n
    · have hlt' : (j : Int) < (n : Int) := by omega
      obtain ⟨q, hq⟩ : ∃ q : Nat, j * 3 + k = q := ⟨_, rfl⟩
      have eq0 : ((j * 3 : Nat) : Int) + (k : Int) = (q : Int) := by omega
      rw [eq0]
      have hq2 : q ≤ 99000000 := by omega
      have HQ : Hid (j * 3 + k = q) := hq
      have t0 : Tr lo hi w wr := HT.out
      obtain ⟨v0, c0, n0, f0⟩ := WrI.at' (WrI.tr HR.out t0) (i := j * 3) (by omega)
      have t1 := t0.set hg c0 n0 (noSl_int .i64 (q : Int))
      obtain ⟨v1, c1, n1, f1⟩ := WrI.at' (WrI.tr HR.out t1) (i := j * 3 + 1) (by omega)
      have t2 := t1.set hg c1 n1 (noSl_int .i64 ((q : Int) + 1))
      obtain ⟨v2, c2, n2, f2⟩ := WrI.at' (WrI.tr HR.out t2) (i := j * 3 + 2) (by omega)
      have HT3 : Hid (Tr lo hi w ((((wr.setCell ⟨g, j * 3, none⟩ (.int .i64 (q : Int))).setCell ⟨g, j * 3 + 1, none⟩ (.int .i64 ((q : Int) + 1))).setCell ⟨g, j * 3 + 2, none⟩ (.int .i64 ((q : Int) + 2))))) := t2.set hg c2 n2 (noSl_int .i64 ((q : Int) + 2))
      clear t0 t1 t2 n0 n1 n2 eq0 hq
      go_wp2_with fail
      go_roundw
      case rel => exact ⟨j + 1, by go_num, by have := HQ.out; rw [show (((j + 1) * 3 : Nat) : Int) + (k : Int) = (q : Int) + 3 by omega]; try rfl, by omega, HT3.out⟩
      case measure => simp [intOf]; omega
    · obtain rfl : j = n := by omega
      go_wp2_with fail
      go_ret
      exact ⟨rfl, HT.out⟩
/-- A row of codes that may be marked, their steps in blocks between two numbers. -/
def CodW (W : World) (lo hi g : Nat) (cs : List Cod) : Prop := (∃ vs, Cells W g 91 vs ∧ vs.size = cs.length * 3 ∧ ∀ j, j < cs.length → ∃ a b, vs[j * 3]? = some a ∧ NoSl a ∧ vs[j * 3 + 1]? = some b ∧ NoSl b) ∧
  ∀ (j : Nat) (c : Cod), cs[j]? = some c → ∃ x, (lo ≤ x ∧ x < hi) ∧ W.cell? ⟨g, j * 3 + 2, none⟩ = some (.slice (some ⟨x, 0, none⟩) c.ss.length c.ss.length) ∧ WrI W x 131 (c.ss.length * 3)
theorem CodW.tr {W W' : World} {lo hi g : Nat} {cs : List Cod} (h : CodW W lo hi g cs) (k : Tr lo hi W W') : CodW W' lo hi g cs := by
  obtain ⟨⟨vs, h1, h2, h3⟩, h4⟩ := h
  obtain ⟨us, k1, k2, k3⟩ := k.shp g _ vs h1
  refine ⟨⟨us, k1, k2.trans h2, fun j hj => ?_⟩, fun j c hc => ?_⟩
  · obtain ⟨a, b, ha, na, hb, nb⟩ := h3 j hj
    obtain ⟨a', ha', ya, _⟩ := k3 _ a ha
    obtain ⟨b', hb', yb, _⟩ := k3 _ b hb
    exact ⟨a', b', ha', ya na, hb', yb nb⟩
  · obtain ⟨x, hx, hs, hw⟩ := h4 j c hc
    rw [h1.cell] at hs
    obtain ⟨v', hv', _, yv⟩ := k3 _ _ hs
    rw [yv (fun hn => hn _ _ _ rfl)] at hv'
    exact ⟨x, hx, by rw [k1.cell]; exact hv', hw.tr k⟩
theorem CodW.at0 {W : World} {lo hi g j : Nat} {cs : List Cod} (h : CodW W lo hi g cs) (hj : j < cs.length) : ∃ v, W.cell? ⟨g, j * 3, none⟩ = some v ∧ NoSl v ∧ W.frozen? ⟨g, j * 3, none⟩ = false := by
  obtain ⟨⟨vs, h1, h2, h3⟩, _⟩ := h
  obtain ⟨a, b, ha, na, _, _⟩ := h3 j hj
  exact ⟨a, by rw [h1.cell]; exact ha, na, h1.frozen _⟩
theorem CodW.at1 {W : World} {lo hi g j : Nat} {cs : List Cod} (h : CodW W lo hi g cs) (hj : j < cs.length) : ∃ v, W.cell? ⟨g, j * 3 + 1, none⟩ = some v ∧ NoSl v ∧ W.frozen? ⟨g, j * 3 + 1, none⟩ = false := by
  obtain ⟨⟨vs, h1, h2, h3⟩, _⟩ := h
  obtain ⟨a, b, _, _, hb, nb⟩ := h3 j hj
  exact ⟨b, by rw [h1.cell]; exact hb, nb, h1.frozen _⟩
def cntC (cs : List Cod) : Nat := cs.length * 2 + sumC cs * 3
theorem cntC_take {cs : List Cod} {j : Nat} {c : Cod} (h : cs[j]? = some c) : cntC (cs.take (j + 1)) = cntC (cs.take j) + 2 + c.ss.length * 3 := by
  have hj := (List.getElem?_eq_some_iff.1 h).1
  have := sumC_take h
  unfold cntC
  rw [this, List.length_take, List.length_take, Nat.min_eq_left (by omega), Nat.min_eq_left (by omega)]
  omega
theorem cntC_le (cs : List Cod) (k : Nat) : cntC (cs.take k) ≤ cntC cs := by
  have := sumC_le cs k
  unfold cntC
  rw [List.length_take]
  omega
set_option maxHeartbeats 8000000 in
set_option maxRecDepth 100000 in
theorem markCodeS_w (w : World) (lo hi g cap : Nat) (cs : List Cod) (k : Nat) (hg : lo ≤ g ∧ g < hi) (hR : CodW w lo hi g cs) (hn : cs.length ≤ 1048576) (hs : sumC cs ≤ 1048576) (hk1 : 1 ≤ k) (hk : k ≤ 80000000) :
    Calls Tryz.prog 58 #[.slice (some ⟨g, 0, none⟩) cs.length cap, .int .i64 (k : Int)] w fun e w' => e = .returned (.int .i64 ((cntC cs + k : Nat) : Int)) ∧ Tr lo hi w w' := by
  have HR : Hid _ := hR
  have hcn : cntC cs ≤ 5300000 := by unfold cntC; omega
  clear hR
  go_enter Tryz.func58, Tryz.ntmps58
  go_wp2_with fail
  go_loopw [1, 5] (fun mv iv wr => ∃ j : Nat, iv = .int .i64 j ∧ mv = .int .i64 ((cntC (cs.take j) + k : Nat) : Int) ∧ j ≤ cs.length ∧ Hid (Tr lo hi w wr)) (fun _ i _ => cs.length - (intOf i).toNat)
  case atStart => exact ⟨0, rfl, by simp [cntC, sumC], Nat.zero_le _, Tr.refl _ _ _⟩
  case round =>
    obtain ⟨j, rfl, rfl, hj, HT⟩ := hrel
    have hle := cntC_le cs j
    obtain ⟨q, hq⟩ : ∃ q : Nat, cntC (cs.take j) + k = q := ⟨_, rfl⟩
    rw [hq]
    have hq2 : q ≤ 86000000 := by omega
    have HQ : Hid (cntC (cs.take j) + k = q) := hq
    by_cases hlt : j < cs.length
    · have hlt' : (j : Int) < (cs.length : Int) := by omega
      obtain ⟨c, hc⟩ : ∃ c, cs[j]? = some c := ⟨_, List.getElem?_eq_getElem hlt⟩
      have hct := cntC_take hc
      have hle2 := cntC_le cs (j + 1)
      have hss : c.ss.length ≤ 1048576 := by have := sumC_mem (List.mem_of_getElem? hc); omega
      have HCt : Hid _ := hct
      have t0 : Tr lo hi w wr := HT.out
      obtain ⟨v0, c0, n0, f0⟩ := CodW.at0 (CodW.tr HR.out t0) (j := j) hlt
      have t1 := t0.set hg c0 n0 (noSl_int .i64 (q : Int))
      obtain ⟨v1, c1, n1, f1⟩ := CodW.at1 (CodW.tr HR.out t1) (j := j) hlt
      have t2 := t1.set hg c1 n1 (noSl_int .i64 ((q : Int) + 1))
      obtain ⟨x, hx, c2, hw⟩ := (CodW.tr HR.out t2).2 j c hc
      have hM := markStepS_w _ lo hi x c.ss.length c.ss.length (q + 2) hx hw hss (by omega) (by omega)
      have eq2 : ((q + 2 : Nat) : Int) = (q : Int) + 2 := by omega
      rw [eq2] at hM
      have HT2 : Hid _ := t2
      clear t0 t1 t2 n0 n1 hq hct hle hle2 hx hw hc eq2
      go_wp2_with (go_at_call 112; refine hM.mono ?_; rintro e w3 ⟨rfl, t3⟩)
      have HT3 : Hid _ := Tr.trans HT2.out t3
      go_roundw
      case rel => exact ⟨j + 1, by go_num, (by have := HQ.out; have := HCt.out; rw [show ((cntC (cs.take (j + 1)) + k : Nat) : Int) = ((c.ss.length * 3 : Nat) : Int) + ((q : Int) + 2) by omega]; first | rfl | simp), by omega, HT3.out⟩
      case measure => simp [intOf]; omega
    · obtain rfl : j = cs.length := by omega
      have HE : Hid (q = cntC cs + k) := by rw [Hid, ← hq, List.take_length]
      go_wp2_with fail
      go_ret
      exact ⟨by rw [← HE.out]; rfl, HT.out⟩
end Go.Proofs.YtgempjjnfpmndaaGreatDoor
