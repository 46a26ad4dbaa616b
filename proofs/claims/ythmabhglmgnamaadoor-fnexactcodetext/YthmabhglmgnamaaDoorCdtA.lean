/-
  The text of a code (chapter 19): impl.CodeText, spec.CodeText exactly.
-/
import Derived.Test.YthmabhglmgnamaaDoorWpsA
import Derived.Test.YthmabhglmgnamaaDoorFmsF
import Derived.Test.YthmabhglmgnamaaDoorCodU
import Derived.Test.YthmabhglmgnamaaDoorSeq
namespace Go.Proofs.YthmabhglmgnamaaDoor
open Go.RowKit
set_option linter.unusedSimpArgs false
set_option linter.unusedVariables false
/-- A step's line. -/
def lineC (k : Nat) (s : Stp) : ByteArray := ((numT (k : Int) ++ ⟨#[32]⟩) ++ stepT s.1 s.2.1 s.2.2) ++ ⟨#[10]⟩
def codeF (ss : List Stp) (k : Nat) : ByteArray := match ss[k]? with
  | some s => lineC k s
  | none => ⟨#[]⟩
def codeT (ss : List Stp) : ByteArray := catF (codeF ss) ss.length
theorem codeF_at {ss : List Stp} {k : Nat} {s : Stp} (h : ss[k]? = some s) : codeF ss k = lineC k s := by rw [codeF, h]
theorem stepA_size (f : ByteArray × Int × Int) (a : Int) (hf : f.1.size ≤ 6) (ha : -9223372036854775808 ≤ a ∧ a ≤ 9223372036854775807) : (stepA f a).size ≤ 28 := by
  unfold stepA
  split
  · omega
  · rw [ByteArray.size_append, ByteArray.size_append]
    have := numT_size ha
    have e : (⟨#[32]⟩ : ByteArray).size = 1 := rfl
    omega
theorem stepT_size (op a b : Int) (ha : -9223372036854775808 ≤ a ∧ a ≤ 9223372036854775807) (hb : -9223372036854775808 ≤ b ∧ b ≤ 9223372036854775807) : (stepT op a b).size ≤ 50 := by
  unfold stepT
  have h := stepA_size (formR op) a (formR_size op) ha
  split
  · omega
  · rw [ByteArray.size_append, ByteArray.size_append]
    have := numT_size hb
    have e : (⟨#[32]⟩ : ByteArray).size = 1 := rfl
    omega
theorem lineC_size {k : Nat} {s : Stp} (hk : k ≤ 1048576) (h : (-9223372036854775808 ≤ s.2.1 ∧ s.2.1 ≤ 9223372036854775807) ∧ -9223372036854775808 ≤ s.2.2 ∧ s.2.2 ≤ 9223372036854775807) : (lineC k s).size ≤ 80 := by
  unfold lineC
  rw [ByteArray.size_append, ByteArray.size_append, ByteArray.size_append]
  have h1 := numT_size (n := (k : Int)) (by omega)
  have h2 := stepT_size s.1 s.2.1 s.2.2 h.1 h.2
  have e : (⟨#[32]⟩ : ByteArray).size = 1 := rfl
  have e' : (⟨#[10]⟩ : ByteArray).size = 1 := rfl
  omega
theorem codeF_size {ss : List Stp} (hl : ss.length ≤ 1048576) (hb : StpB ss) (k : Nat) (hk : k < ss.length) : (codeF ss k).size ≤ 80 := by
  have hs : ss[k]? = some ss[k] := List.getElem?_eq_getElem hk
  rw [codeF_at hs]
  exact lineC_size (by omega) (hb _ (List.getElem_mem hk))
theorem codeC_size {ss : List Stp} (hl : ss.length ≤ 1048576) (hb : StpB ss) (k : Nat) (hk : k ≤ ss.length) : (catF (codeF ss) k).size ≤ 100000000 := by
  have := catF_size (F := codeF ss) (c := 80) (n := k) (fun j hj => codeF_size hl hb j (by omega))
  omega
/-- A code that lies in a box. -/
def CodeB (w : World) (B : Nat) (x y : Int) (ao : Option Addr) (cap : Nat) (ss : List Stp) : Prop := Cells w B 29 #[.int .i64 x, .int .i64 y, .slice ao ss.length cap]
set_option maxHeartbeats 8000000 in
set_option maxRecDepth 100000 in
theorem codeLine_ok (w : World) (B : Nat) (x y : Int) (ao : Option Addr) (cap : Nat) (ss : List Stp) (k : Nat) (hX : CodeB w B x y ao cap ss) (hA : StpsA w ao ss) (hb : StpB ss) (hl : ss.length ≤ 1048576) (hk : k < ss.length) (hF : Forms w) (hT : Tab w) :
    Calls Tryd.prog 26 #[.int .i64 (k : Nat), .pointer (some ⟨B, 0, none⟩)] w fun e w' => e = .returned (.string (codeF ss k)) ∧ Kept w w' := by
  have hs : ss[k]? = some ss[k] := List.getElem?_eq_getElem hk
  obtain ⟨s, hse⟩ : ∃ s, ss[k] = s := ⟨_, rfl⟩
  rw [hse] at hs
  have hsb := hb s (by rw [← hse]; exact List.getElem_mem hk)
  obtain ⟨o, a, b⟩ := s
  obtain ⟨q, off, rfl, g0, g1, g2⟩ := hA k _ hs
  have kd : Kept w w.drew := (Below.refl _ w).drew
  have x2 : ∀ u, Kept w.drew u → u.cell? ⟨B, 2, none⟩ = some (.slice (some ⟨q, off, none⟩) ss.length cap) := fun u hu => (Cells.kept hX (kd.trans hu)).cell 2
  have y0 : ∀ u, Kept w.drew u → u.cell? ⟨q, off + k * 3, none⟩ = some (.int .i64 o) := fun u hu => cellK (kd.trans hu) g0
  have y1 : ∀ u, Kept w.drew u → u.cell? ⟨q, off + k * 3 + 1, none⟩ = some (.int .i64 a) := fun u hu => cellK (kd.trans hu) g1
  have y2 : ∀ u, Kept w.drew u → u.cell? ⟨q, off + k * 3 + 2, none⟩ = some (.int .i64 b) := fun u hu => cellK (kd.trans hu) g2
  have hkz : -9223372036854775808 ≤ (k : Int) ∧ (k : Int) ≤ 9223372036854775807 := by omega
  have hIt : Hid (∀ u, Kept w.drew u → Calls Tryd.prog 27 #[.int .i64 (k : Nat)] u fun e w' => e = .returned (.string (numT (k : Int))) ∧ Kept u w') := fun u hu => Itoa_ok (k : Int) hkz u (hT.kept (kd.trans hu))
  have hSt : Hid (∀ u, Kept w.drew u → Calls Tryd.prog 28 #[.agg #[.int .i64 o, .int .i64 a, .int .i64 b]] u fun e w' => e = .returned (.string (stepT o a b)) ∧ Kept u w') := fun u hu => impl_StepText_ok u o a b (hF.kept (kd.trans hu)) (hT.kept (kd.trans hu)) hsb.1 hsb.2
  have hz1 := numT_size hkz
  have hz2 := stepT_size o a b hsb.1 hsb.2
  have HE : Hid (codeF ss k = ((numT (k : Int) ++ ⟨#[32]⟩) ++ stepT o a b) ++ ⟨#[10]⟩) := codeF_at hs
  obtain ⟨d, hd⟩ : ∃ d, numT (k : Int) = d := ⟨_, rfl⟩
  obtain ⟨t, ht⟩ : ∃ t, stepT o a b = t := ⟨_, rfl⟩
  rw [hd] at hIt hz1 HE
  rw [ht] at hSt hz2 HE
  have p0 : ¬ 9223372036854775807 < d.size + 1 := by omega
  have p1 : ¬ 9223372036854775807 < d.size + 1 + t.size := by omega
  have p2 : ¬ 9223372036854775807 < d.size + 1 + t.size + 1 := by omega
  have q1 : (k : Int) < (ss.length : Int) := by omega
  have q0 : (0 : Int) ≤ (k : Int) := by omega
  have HKD : Hid (Kept w w.drew) := kd
  clear hX hA hb hF hT hs hse hsb g0 g1 g2 hkz hd ht kd hz1 hz2
  go_enter Tryd.func26, Tryd.ntmps26
  go_wp2_with fail
  refine wp_region_seqL (by kernel_rfl) (by kernel_rfl) ?_
  repeat (first
    | (refine SeqL.skip (by rfl) ?_; simp only [Act.put, List.setIfInBounds_toArray, List.set_cons_zero, List.set_cons_succ])
    | (refine SeqL.pure ?_ (by rfl) ?_ ?_; rotate_left; (focus (intro u hu; have x2' := x2 u hu; have y0' := y0 u hu; have y1' := y1 u hu; have y2' := y2 u hu; go_simp; first | done | exact rfl)); simp only [Act.put, List.setIfInBounds_toArray, List.set_cons_zero, List.set_cons_succ])
    | (refine SeqL.call _ _ _ (by rfl) ?_ hIt.out ?_; (focus (intro u; go_simp; done)); simp only [Act.put, List.setIfInBounds_toArray, List.set_cons_zero, List.set_cons_succ])
    | (refine SeqL.call _ _ _ (by rfl) ?_ hSt.out ?_; (focus (intro u; go_simp; done)); simp only [Act.put, List.setIfInBounds_toArray, List.set_cons_zero, List.set_cons_succ]))
  refine SeqL.nil ?_
  intro u hu
  go_simp
  go_wp2_with fail
  go_ret
  exact ⟨by rw [HE.out]; rfl, Kept.trans HKD.out hu⟩
set_option maxHeartbeats 8000000 in
set_option maxRecDepth 100000 in
theorem impl_CodeText_ok (w : World) (x y : Int) (ao : Option Addr) (cap : Nat) (ss : List Stp) (hA : StpsA w ao ss) (hb : StpB ss) (hl : ss.length ≤ 1048576) (hF : Forms w) (hT : Tab w) :
    Calls Tryd.prog 9 #[.agg #[.int .i64 x, .int .i64 y, .slice ao ss.length cap]] w fun e w' => e = .returned (.string (codeT ss)) ∧ Kept w w' := by
  have k0 : Kept w (w.alloc (.cells #[.int .i64 x, .int .i64 y, .slice ao ss.length cap] 29)) := Kept.alloc (Below.refl _ _) _
  have b0 := Cells.new w 29 #[.int .i64 x, .int .i64 y, .slice ao ss.length cap]
  have hC := writePartsC_ok (w.alloc (.cells #[.int .i64 x, .int .i64 y, .slice ao ss.length cap] 29)) ss.length (.pointer (some ⟨w.heap.size, 0, none⟩)) (codeF ss) (by omega) (fun k hk => by have := codeC_size hl hb k hk; omega) (fun k hk => by have := codeF_size hl hb k hk; omega)
    (fun k hk u hu => codeLine_ok u w.heap.size x y ao cap ss k (Cells.kept b0 hu) (hA.kept (k0.trans hu)) hb hl hk (hF.kept (k0.trans hu)) (hT.kept (k0.trans hu)))
  have m2 := b0.cell 2
  have HT : Hid (codeT ss = catF (codeF ss) ss.length) := rfl
  clear hA hb hF hT
  go_enter Tryd.func9, Tryd.ntmps9
  go_wp2_with (go_at_call 25; refine hC.mono ?_; rintro e w1 ⟨rfl, hk1⟩)
  go_ret
  exact ⟨by rw [HT.out]; rfl, k0.trans hk1⟩
set_option maxHeartbeats 8000000 in
set_option maxRecDepth 100000 in
theorem spec_CodeText_ok (w : World) (x y : Int) (ao : Option Addr) (cap : Nat) (ss : List Stp) (hA : StpsA w ao ss) (hb : StpB ss) (hl : ss.length ≤ 1048576) :
    Calls Tryd.prog 7 #[.agg #[.int .i64 x, .int .i64 y, .slice ao ss.length cap]] w fun e w' => e = .returned (.string (codeT ss)) ∧ Kept w w' := by
  have k0 : Kept w (w.alloc (.cells #[.int .i64 x, .int .i64 y, .slice ao ss.length cap] 29)) := Kept.alloc (Below.refl _ _) _
  have HB0 : Hid _ := Cells.new w 29 #[.int .i64 x, .int .i64 y, .slice ao ss.length cap]
  have HA : Hid (StpsA w ao ss) := hA
  have HSB : Hid (StpB ss) := hb
  have HZ : Hid (∀ k, k ≤ ss.length → (catF (codeF ss) k).size ≤ 100000000) := codeC_size hl hb
  have HT : Hid (codeT ss = catF (codeF ss) ss.length) := rfl
  have HK0 : Hid _ := k0
  clear hA hb k0
  go_enter Tryd.func7, Tryd.ntmps7
  go_wp2_with fail
  go_loopw [3, 4] (fun ov i wr => ∃ k : Nat, i = .int .i64 k ∧ k ≤ ss.length ∧ ov = .string (catF (codeF ss) k) ∧ Hid (Kept (w.alloc (.cells #[.int .i64 x, .int .i64 y, .slice ao ss.length cap] 29)) wr)) (fun _ i _ => ss.length - (intOf i).toNat)
  case atStart => exact ⟨0, rfl, Nat.zero_le _, rfl, Below.refl _ _⟩
  case round =>
    obtain ⟨k, rfl, hk, rfl, hKp⟩ := hrel
    have hO := HZ.out k hk
    have b1 := (Cells.kept HB0.out hKp.out).cell 2
    by_cases hlt : k < ss.length
    · have hs : ss[k]? = some ss[k] := List.getElem?_eq_getElem hlt
      obtain ⟨s, hse⟩ : ∃ s, ss[k] = s := ⟨_, rfl⟩
      rw [hse] at hs
      have hsb := HSB.out s (by rw [← hse]; exact List.getElem_mem hlt)
      obtain ⟨o, a, b⟩ := s
      have kd : Kept wr wr.drew := (Below.refl _ wr).drew
      have HKD : Hid (Kept w wr.drew) := Kept.trans (Kept.trans HK0.out hKp.out) kd
      have HKE : Hid (Kept (w.alloc (.cells #[.int .i64 x, .int .i64 y, .slice ao ss.length cap] 29)) wr.drew) := Kept.trans hKp.out kd
      obtain ⟨q, off, rfl, g0, g1, g2⟩ := (StpsA.kept HA.out HKD.out) k _ hs
      have x2 : ∀ u, Kept wr.drew u → u.cell? ⟨w.heap.size, 2, none⟩ = some (.slice (some ⟨q, off, none⟩) ss.length cap) := fun u hu => (Cells.kept HB0.out (Kept.trans HKE.out hu)).cell 2
      have y0 : ∀ u, Kept wr.drew u → u.cell? ⟨q, off + k * 3, none⟩ = some (.int .i64 o) := fun u hu => cellK hu g0
      have y1 : ∀ u, Kept wr.drew u → u.cell? ⟨q, off + k * 3 + 1, none⟩ = some (.int .i64 a) := fun u hu => cellK hu g1
      have y2 : ∀ u, Kept wr.drew u → u.cell? ⟨q, off + k * 3 + 2, none⟩ = some (.int .i64 b) := fun u hu => cellK hu g2
      have hkz : -9223372036854775808 ≤ (k : Int) ∧ (k : Int) ≤ 9223372036854775807 := by omega
      have hDg : Hid (∀ u, Kept wr.drew u → Calls Tryd.prog 22 #[.int .i64 (k : Nat)] u fun e w' => e = .returned (.string (numT (k : Int))) ∧ Kept u w') := fun u hu => l7Digits_ok u (k : Int) hkz
      have hSt : Hid (∀ u, Kept wr.drew u → Calls Tryd.prog 23 #[.agg #[.int .i64 o, .int .i64 a, .int .i64 b]] u fun e w' => e = .returned (.string (stepT o a b)) ∧ Kept u w') := fun u hu => spec_StepText_ok u o a b hsb.1 hsb.2
      have hz1 := numT_size hkz
      have hz2 := stepT_size o a b hsb.1 hsb.2
      obtain ⟨O, hOO⟩ : ∃ O, catF (codeF ss) k = O := ⟨_, rfl⟩
      have HN : Hid (catF (codeF ss) (k + 1) = (((O ++ numT (k : Int)) ++ ⟨#[32]⟩) ++ stepT o a b) ++ ⟨#[10]⟩) := by
        rw [Hid, catF, hOO, codeF_at hs, lineC]
        simp only [ByteArray.append_assoc]
      rw [hOO] at hO
      simp only [hOO]
      obtain ⟨d, hd⟩ : ∃ d, numT (k : Int) = d := ⟨_, rfl⟩
      obtain ⟨t, ht⟩ : ∃ t, stepT o a b = t := ⟨_, rfl⟩
      rw [hd] at hDg hz1 HN
      rw [ht] at hSt hz2 HN
      have p0 : ¬ 9223372036854775807 < O.size + d.size := by omega
      have p1 : ¬ 9223372036854775807 < O.size + d.size + 1 := by omega
      have p2 : ¬ 9223372036854775807 < O.size + d.size + 1 + t.size := by omega
      have p3 : ¬ 9223372036854775807 < O.size + d.size + 1 + t.size + 1 := by omega
      have q1 : (k : Int) < (ss.length : Int) := by omega
      have q0 : (0 : Int) ≤ (k : Int) := by omega
      have q2 : (k : Int) + 1 ≤ 9223372036854775807 := by omega
      clear hs hse hsb g0 g1 g2 hkz hd ht kd hz1 hz2 hO hOO
      go_wp2_with fail
      refine wp_region_seqL (by kernel_rfl) (by kernel_rfl) ?_
      repeat (first
        | (refine SeqL.skip (by rfl) ?_; simp only [Act.put, List.setIfInBounds_toArray, List.set_cons_zero, List.set_cons_succ])
        | (refine SeqL.pure ?_ (by rfl) ?_ ?_; rotate_left; (focus (intro u hu; have x2' := x2 u hu; have y0' := y0 u hu; have y1' := y1 u hu; have y2' := y2 u hu; go_simp; first | done | exact rfl)); simp only [Act.put, List.setIfInBounds_toArray, List.set_cons_zero, List.set_cons_succ])
        | (refine SeqL.call _ _ _ (by rfl) ?_ hDg.out ?_; (focus (intro u; go_simp; done)); simp only [Act.put, List.setIfInBounds_toArray, List.set_cons_zero, List.set_cons_succ])
        | (refine SeqL.call _ _ _ (by rfl) ?_ hSt.out ?_; (focus (intro u; go_simp; done)); simp only [Act.put, List.setIfInBounds_toArray, List.set_cons_zero, List.set_cons_succ]))
      refine SeqL.nil ?_
      intro u hu
      go_simp
      go_wp2_with fail
      go_roundw
      case rel => exact ⟨k + 1, by go_num, by omega, by rw [HN.out], Kept.trans HKE.out hu⟩
      case measure => simp [intOf]; omega
    · have q1 : ¬ (k : Int) < (ss.length : Int) := by omega
      have HF : Hid (catF (codeF ss) k = codeT ss) := by rw [Hid, HT.out, show k = ss.length by omega]
      rw [HF.out]
      go_wp2_with fail
      go_ret
      exact ⟨rfl, Kept.trans HK0.out hKp.out⟩
end Go.Proofs.YthmabhglmgnamaaDoor
