/-
  The texts of steps (chapter 15): spec.StepText, impl.StepText exactly.
-/
import Derived.Test.YthmabhglmgnamaaDoorFmsP
import Derived.Test.YthmabhglmgnamaaDoorShfE
import Derived.Lib.AppendIntMem
import Derived.Deep.RegionWith
import Derived.OwnWalk
import Derived.RegionTactic
namespace Go.Proofs.YthmabhglmgnamaaDoor
open Go.RowKit
set_option linter.unusedSimpArgs false
set_option linter.unusedVariables false

theorem digN_dec : ∀ (u : Nat), 0 < u → (digN u).map (fun n => UInt8.ofNat n.toNat) = Lib.decDigits u := by
  intro u
  induction u using Nat.strongRecOn with
  | _ u ih =>
    intro h
    rw [digN_pos (by omega), List.map_append, List.map_cons, List.map_nil]
    have e1 : (48 + ((u % 10 : Nat) : Int)).toNat = 48 + u % 10 := by omega
    rw [e1]
    rw [Lib.decDigits]
    by_cases h10 : u < 10
    · rw [dif_pos h10, show u / 10 = 0 by omega, digN_zero, show u % 10 = u by omega]
      rfl
    · rw [dif_neg h10, ih (u / 10) (by omega) (by omega)]
theorem itoa_str (n : Int) : (⟨(Lib.itoa n).toArray⟩ : ByteArray) = strOfNums (digI n) := by
  unfold strOfNums digI Lib.itoa
  by_cases h0 : n = 0
  · subst h0
    rw [if_pos rfl, if_neg (by omega)]
    have : Lib.decDigits (0 : Int).toNat = [48] := by rw [Lib.decDigits]; rfl
    rw [this]
    rfl
  · rw [if_neg h0, List.map_append]
    by_cases h : n < 0
    · rw [if_pos h, if_pos h, digN_dec _ (by omega)]
      rfl
    · rw [if_neg h, if_neg h, digN_dec _ (by omega), show n.toNat = n.natAbs by omega]
      rfl
/-- The table of the library that its digits are reckoned with. -/
def Tab (w : World) : Prop := Lib.TabIs Tryd.prog w "internal/strconv.uint64pow10" .u64 Lib.pow10Tab
theorem Tab.kept {w w' : World} (h : Tab w) (hk : Kept w w') : Tab w' := Lib.tabBelow_of_tabIs h w' hk
theorem kept_grow (w : World) (k : Nat) (os : Array Obj) : Kept w (Sort.grow (w.drewN k) os) := by
  have e : w.heap.size = (w.drewN k).heap.size := rfl
  exact ⟨rfl, rfl, rfl, by simp [Sort.grow, World.drewN], fun i hi => Sort.heap_grow_old _ _ (by rw [← e]; exact hi)⟩
theorem Itoa_ok (n : Int) (hn : -9223372036854775808 ≤ n ∧ n ≤ 9223372036854775807) (w : World) (hT : Tab w) : Calls Tryd.prog 27 #[.int .i64 n] w fun e w' => e = .returned (.string (strOfNums (digI n))) ∧ Kept w w' := by
  refine (lib_strconv_Itoa n hn.1 hn.2 w hT).mono ?_
  rintro e w' ⟨rfl, k, os, rfl⟩
  exact ⟨by rw [itoa_str], kept_grow _ _ _⟩

def numT (n : Int) : ByteArray := strOfNums (digI n)
theorem numT_size {n : Int} (h : -9223372036854775808 ≤ n ∧ n ≤ 9223372036854775807) : (numT n).size ≤ 21 := by
  rw [numT, strOfNums_size]
  exact digI_len h
def stepA (f : ByteArray × Int × Int) (a : Int) : ByteArray := if f.2.1 = 0 then f.1 else f.1 ++ (⟨#[32]⟩ ++ numT a)
def stepT (op a b : Int) : ByteArray := if (formR op).2.2 = 0 then stepA (formR op) a else stepA (formR op) a ++ (⟨#[32]⟩ ++ numT b)
theorem opTab_size : ∀ e ∈ opTab, e.1.size ≤ 6 := by decide
theorem formR_size (op : Int) : (formR op).1.size ≤ 6 := by
  rw [formR]
  split
  · decide
  · rw [List.getD_eq_getElem?_getD]
    cases h : opTab[op.toNat]? with
    | none => decide
    | some e => exact opTab_size e (List.mem_of_getElem? h)
set_option maxHeartbeats 4000000 in
set_option maxRecDepth 100000 in
theorem impl_StepText_ok (w : World) (op a b : Int) (hF : Forms w) (hT : Tab w) (ha : -9223372036854775808 ≤ a ∧ a ≤ 9223372036854775807) (hb : -9223372036854775808 ≤ b ∧ b ≤ 9223372036854775807) :
    Calls Tryd.prog 28 #[.agg #[.int .i64 op, .int .i64 a, .int .i64 b]] w fun e w' => e = .returned (.string (stepT op a b)) ∧ Kept w w' := by
  have k0 : Kept w (w.alloc (.cells #[.int .i64 op, .int .i64 a, .int .i64 b] 55)) := Kept.alloc (Below.refl _ _) _
  have b0 := Cells.new w 55 #[.int .i64 op, .int .i64 a, .int .i64 b]
  have hC := formOf_ok _ op (hF.kept k0)
  have hz := formR_size op
  have hza := numT_size ha
  have hzb := numT_size hb
  have HR : Hid (stepT op a b = if (formR op).2.2 = 0 then stepA (formR op) a else stepA (formR op) a ++ (⟨#[32]⟩ ++ numT b)) := rfl
  obtain ⟨⟨n, x, y⟩, hf⟩ : ∃ f, formR op = f := ⟨_, rfl⟩
  rw [hf] at hC hz HR
  simp only at hz HR
  have HT : Hid (Tab w) := hT
  have HIa : Hid (∀ u, Kept w u → Calls Tryd.prog 27 #[.int .i64 a] u fun e w' => e = .returned (.string (numT a)) ∧ Kept u w') := fun u hu => Itoa_ok a ha u (HT.out.kept hu)
  have HIb : Hid (∀ u, Kept w u → Calls Tryd.prog 27 #[.int .i64 b] u fun e w' => e = .returned (.string (numT b)) ∧ Kept u w') := fun u hu => Itoa_ok b hb u (HT.out.kept hu)
  obtain ⟨na, hna⟩ : ∃ t, numT a = t := ⟨_, rfl⟩
  obtain ⟨nb, hnb⟩ : ∃ t, numT b = t := ⟨_, rfl⟩
  rw [hna] at HIa hza
  rw [hnb] at HIb hzb
  have p0 : ¬ 9223372036854775807 < 1 + na.size := by omega
  have p1 : ¬ 9223372036854775807 < 1 + nb.size := by omega
  have p2 : ¬ 9223372036854775807 < n.size + (1 + na.size) := by omega
  have p3 : ¬ 9223372036854775807 < n.size + (1 + nb.size) := by omega
  have p4 : ¬ 9223372036854775807 < n.size + (1 + na.size) + (1 + nb.size) := by omega
  by_cases hx : x = 0
  · have hxd : (x != 0) = false := by simp [hx]
    by_cases hy : y = 0
    · have hyd : (y != 0) = false := by simp [hy]
      have HE : Hid (stepT op a b = n) := by rw [Hid, HR.out, if_pos hy, stepA, if_pos hx]
      clear hx hy hf hna hnb hF hT HT ha hb
      go_enter Tryd.func28, Tryd.ntmps28
      go_wp2_with (go_at_call 48; refine hC.mono ?_; simp only [formV]; rintro e w1 ⟨rfl, hk1⟩; have m := b0.kept hk1; have m0 := m.cell 0; have m1 := m.cell 1; have m2 := m.cell 2; have ml := m.lt)
      go_ret
      exact ⟨by rw [HE.out]; rfl, Kept.trans k0 (Kept.trans hk1 (Kept.alloc (Below.refl _ _) _))⟩
    · have hyd : (y != 0) = true := by simpa using hy
      have HE : Hid (stepT op a b = n ++ (⟨#[32]⟩ ++ nb)) := by rw [Hid, HR.out, if_neg hy, stepA, if_pos hx, hnb]
      clear hx hy hf hna hnb hF hT HT ha hb
      go_enter Tryd.func28, Tryd.ntmps28
      go_wp2_with (first
        | (have _tk := kA; go_at_call 27; refine (HIb.out _ kA).mono ?_; rintro e w2 ⟨rfl, hk2⟩)
        | (go_at_call 48; refine hC.mono ?_; simp only [formV]; rintro e w1 ⟨rfl, hk1⟩; have m := b0.kept hk1; have m0 := m.cell 0; have m1 := m.cell 1; have m2 := m.cell 2; have ml := m.lt; have kA := Kept.alloc (Kept.trans k0 hk1) (.cells #[.string n, .int .i64 x, .int .i64 y] 84)))
      go_ret
      exact ⟨by rw [HE.out]; rfl, Kept.trans kA hk2⟩
  · have hxd : (x != 0) = true := by simpa using hx
    by_cases hy : y = 0
    · have hyd : (y != 0) = false := by simp [hy]
      have HE : Hid (stepT op a b = n ++ (⟨#[32]⟩ ++ na)) := by rw [Hid, HR.out, if_pos hy, stepA, if_neg hx, hna]
      clear hx hy hf hna hnb hF hT HT ha hb
      go_enter Tryd.func28, Tryd.ntmps28
      go_wp2_with (first
        | (have _tk := kA; go_at_call 27; refine (HIa.out _ kA).mono ?_; rintro e w2 ⟨rfl, hk2⟩; have mm := mA.kept hk2; have c2 := mm.cell 2)
        | (go_at_call 48; refine hC.mono ?_; simp only [formV]; rintro e w1 ⟨rfl, hk1⟩; have m := b0.kept hk1; have m0 := m.cell 0; have m1 := m.cell 1; have m2 := m.cell 2; have ml := m.lt; have kA := Kept.alloc (Kept.trans k0 hk1) (.cells #[.string n, .int .i64 x, .int .i64 y] 84); have mA := Cells.new w1 84 #[.string n, .int .i64 x, .int .i64 y]))
      go_ret
      exact ⟨by rw [HE.out]; rfl, Kept.trans kA hk2⟩
    · have hyd : (y != 0) = true := by simpa using hy
      have HE : Hid (stepT op a b = (n ++ (⟨#[32]⟩ ++ na)) ++ (⟨#[32]⟩ ++ nb)) := by rw [Hid, HR.out, if_neg hy, stepA, if_neg hx, hna, hnb]
      clear hx hy hf hna hnb hF hT HT ha hb
      go_enter Tryd.func28, Tryd.ntmps28
      go_wp2_with (first
        | (have _tk := kB; go_at_call 27; refine (HIb.out _ kB).mono ?_; rintro e w3 ⟨rfl, hk3⟩)
        | (have _tk := kA; go_at_call 27; refine (HIa.out _ kA).mono ?_; rintro e w2 ⟨rfl, hk2⟩; have mm := mA.kept hk2; have c2 := mm.cell 2; have nn := (b0.kept (Kept.trans hk1 (Kept.alloc (Below.refl _ _) (.cells #[.string n, .int .i64 x, .int .i64 y] 84)))).kept hk2; have n2 := nn.cell 2; have kB := Kept.trans kA hk2)
        | (go_at_call 48; refine hC.mono ?_; simp only [formV]; rintro e w1 ⟨rfl, hk1⟩; have m := b0.kept hk1; have m0 := m.cell 0; have m1 := m.cell 1; have m2 := m.cell 2; have ml := m.lt; have kA := Kept.alloc (Kept.trans k0 hk1) (.cells #[.string n, .int .i64 x, .int .i64 y] 84); have mA := Cells.new w1 84 #[.string n, .int .i64 x, .int .i64 y]))
      go_ret
      exact ⟨by rw [HE.out]; rfl, Kept.trans kB hk3⟩
end Go.Proofs.YthmabhglmgnamaaDoor
