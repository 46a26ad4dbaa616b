/-
  A law on regions inside a round (whatever order is drawn), and the pair of assignments of impl.freeAbout by it.
-/
import Derived.Test.YtaclgpkcdbikhaaSlabV
import Derived.Sort.CutIn
namespace Go.Proofs.Ytaclgpkcdbikhaa
open Go.RowKit Go.Shelf
attribute [local go_sem] Oper.semAt_some

/-- Whatever order is drawn: what holds ahead of each operation that may come up holds behind it. -/
theorem wpAnyIn_inv {F : Fence} {n : Nat} {P : Program} {md : Region.Mode} {ops : Array Oper} {Q : Exit → Act → World → Prop} (Inv : Nat → Array Bool → Act → World → Prop)
    (h0 : ∀ listed a w, Inv 0 listed a w → Region.ready md ops listed = [])
    (hd : ∀ f listed a w, Inv f listed a w → Region.ready md ops listed = [] → Q .normal a w)
    (hs : ∀ f listed a w i, Inv (f + 1) listed a w → i ∈ Region.ready md ops listed → wpOpIn F n P ops Q i (Inv f (listed.setIfInBounds i true)) a w) :
    ∀ f listed a w, Inv f listed a w → wpAnyIn F n P md ops Q f listed a w
  | 0, _, _, _, h => ⟨h0 _ _ _ h, hd _ _ _ _ h (h0 _ _ _ h)⟩
  | f + 1, _, _, _, h => ⟨hd _ _ _ _ h, fun i hi => wpOpIn_mono (fun a' w' h' => wpAnyIn_inv Inv h0 hd hs f _ a' w' h') (hs _ _ _ _ i h hi)⟩

def pairOps : Array Oper := #[{ dst := some 24, op := Op.fieldAddr 55 (Operand.tmp 6) 0, type := 0, pos := "l02_slab.go:91", after := #[], guard := none },
  { dst := some 25, op := Op.load 3 (Operand.tmp 24), type := 3, pos := "l02_slab.go:91", after := #[{ on := 0, ground := Ground.data }], guard := none },
  { dst := some 26, op := Op.fieldAddr 55 (Operand.tmp 5) 1, type := 0, pos := "l02_slab.go:91", after := #[], guard := none },
  { dst := some 27, op := Op.load 3 (Operand.tmp 26), type := 3, pos := "l02_slab.go:91", after := #[{ on := 2, ground := Ground.data }], guard := none },
  { dst := some 28, op := Op.fieldAddr 55 (Operand.tmp 6) 1, type := 0, pos := "l02_slab.go:91", after := #[], guard := none },
  { dst := some 29, op := Op.load 3 (Operand.tmp 28), type := 3, pos := "l02_slab.go:91", after := #[{ on := 4, ground := Ground.data }], guard := none },
  { dst := some 30, op := Op.binOp BinOp.add 3 (Operand.tmp 27) (Operand.tmp 29) 3, type := 3, pos := "l02_slab.go:91", after := #[{ on := 3, ground := Ground.data }, { on := 5, ground := Ground.data }], guard := none },
  { dst := some 31, op := Op.fieldAddr 55 (Operand.tmp 5) 0, type := 0, pos := "l02_slab.go:91", after := #[{ on := 0, ground := Ground.phase }, { on := 1, ground := Ground.phase }, { on := 2, ground := Ground.phase }, { on := 3, ground := Ground.phase }, { on := 4, ground := Ground.textOnly Departure.lateStores }, { on := 5, ground := Ground.textOnly Departure.lateStores }, { on := 6, ground := Ground.textOnly Departure.lateStoresUnsure }], guard := none },
  { dst := none, op := Op.store 3 (Operand.tmp 31) (Operand.tmp 25), type := 0, pos := "l02_slab.go:91", after := #[{ on := 7, ground := Ground.data }, { on := 1, ground := Ground.data }, { on := 0, ground := Ground.phase }, { on := 1, ground := Ground.phase }, { on := 2, ground := Ground.phase }, { on := 3, ground := Ground.phase }, { on := 4, ground := Ground.textOnly Departure.lateStores }, { on := 5, ground := Ground.textOnly Departure.lateStores }, { on := 6, ground := Ground.textOnly Departure.lateStoresUnsure }], guard := none },
  { dst := some 32, op := Op.fieldAddr 55 (Operand.tmp 5) 1, type := 0, pos := "l02_slab.go:91", after := #[{ on := 0, ground := Ground.phase }, { on := 1, ground := Ground.phase }, { on := 2, ground := Ground.phase }, { on := 3, ground := Ground.phase }, { on := 4, ground := Ground.phase }, { on := 5, ground := Ground.phase }, { on := 6, ground := Ground.phase }, { on := 7, ground := Ground.phase }, { on := 8, ground := Ground.phase }], guard := none },
  { dst := none, op := Op.store 3 (Operand.tmp 32) (Operand.tmp 30), type := 0, pos := "l02_slab.go:91", after := #[{ on := 9, ground := Ground.data }, { on := 6, ground := Ground.data }, { on := 8, ground := Ground.chain }, { on := 0, ground := Ground.phase }, { on := 1, ground := Ground.phase }, { on := 2, ground := Ground.phase }, { on := 3, ground := Ground.phase }, { on := 4, ground := Ground.phase }, { on := 5, ground := Ground.phase }, { on := 6, ground := Ground.phase }, { on := 7, ground := Ground.phase }, { on := 8, ground := Ground.phase }], guard := none }]

theorem ite_in {c : Bool} {p q : Prop} (h : c = true) (hp : p) : if c = true then p else q := by simp [h, hp]
def nb (b : Bool) : Nat := if b then 0 else 1

set_option maxRecDepth 100000 in
set_option maxHeartbeats 4000000 in
theorem pair_ok {K : Act → World → Prop} {Q' : Exit → Act → World → Prop} {t0 t1 t2 t3 t4 t7 t8 t9 t10 t11 t12 t13 t14 t15 t16 t17 t18 t19 t20 t21 t22 t23 t24 t25 t26 t27 t28 t29 t30 t31 t32 t33 t34 t35 t36 t37 t38 t39 t40 t41 t42 t43 t44 t45 t46 t47 t48 t49 t50 t51 t52 t53 : Value} {W : World} {r l n B Bx : Nat} {x0 x1 f2 : Int} {f1 : Value} (hne : B ≠ Bx)
    (c0 : W.cell? ⟨Bx, 0, none⟩ = some (.int .i64 x0)) (c1 : W.cell? ⟨Bx, 1, none⟩ = some (.int .i64 x1)) (e0 : W.cell? ⟨B, 0, none⟩ = some f1) (e1 : W.cell? ⟨B, 1, none⟩ = some (.int .i64 f2)) (p0 : W.frozen? ⟨B, 0, none⟩ = false) (p1 : W.frozen? ⟨B, 1, none⟩ = false)
    (hb0 : -9223372036854775808 ≤ f2 + x1) (hb1 : f2 + x1 ≤ 9223372036854775807)
    (hK : ∀ u24 u25 u26 u27 u28 u29 u30 u31 u32, K { tmps := #[t0, t1, t2, t3, t4, .pointer (some ⟨B, 0, none⟩), .pointer (some ⟨Bx, 0, none⟩), t7, t8, t9, t10, t11, t12, t13, t14, t15, t16, t17, t18, t19, t20, t21, t22, t23, u24, u25, u26, u27, u28, u29, u30, u31, u32, t33, t34, t35, t36, t37, t38, t39, t40, t41, t42, t43, t44, t45, t46, t47, t48, t49, t50, t51, t52, t53], defers := [] } ((W.drew.setCell ⟨B, 0, none⟩ (.int .i64 x0)).setCell ⟨B, 1, none⟩ (.int .i64 (f2 + x1)))) :
    (Code.region r pairOps true).wpIn (Fence.wide.inRound l) n Try.prog (Exit.then K Q') { tmps := #[t0, t1, t2, t3, t4, .pointer (some ⟨B, 0, none⟩), .pointer (some ⟨Bx, 0, none⟩), t7, t8, t9, t10, t11, t12, t13, t14, t15, t16, t17, t18, t19, t20, t21, t22, t23, t24, t25, t26, t27, t28, t29, t30, t31, t32, t33, t34, t35, t36, t37, t38, t39, t40, t41, t42, t43, t44, t45, t46, t47, t48, t49, t50, t51, t52, t53], defers := [] } W := by
  refine wpIn_region_any (by kernel_rfl) ?_
  refine wpAnyIn_inv (fun f listed a w => ∃ b0 b1 b2 b3 b4 b5 b6 b7 b8 b9 b10 : Bool, listed = #[b0, b1, b2, b3, b4, b5, b6, b7, b8, b9, b10] ∧ f = nb b0 + nb b1 + nb b2 + nb b3 + nb b4 + nb b5 + nb b6 + nb b7 + nb b8 + nb b9 + nb b10 ∧
    (∃ u24 u25 u26 u27 u28 u29 u30 u31 u32, a = { tmps := #[t0, t1, t2, t3, t4, .pointer (some ⟨B, 0, none⟩), .pointer (some ⟨Bx, 0, none⟩), t7, t8, t9, t10, t11, t12, t13, t14, t15, t16, t17, t18, t19, t20, t21, t22, t23, u24, u25, u26, u27, u28, u29, u30, u31, u32, t33, t34, t35, t36, t37, t38, t39, t40, t41, t42, t43, t44, t45, t46, t47, t48, t49, t50, t51, t52, t53], defers := [] } ∧
      (b0 = true → u24 = .pointer (some ⟨Bx, 0, none⟩)) ∧ (b1 = true → u25 = .int .i64 x0) ∧ (b2 = true → u26 = .pointer (some ⟨B, 1, none⟩)) ∧ (b3 = true → u27 = .int .i64 f2) ∧ (b4 = true → u28 = .pointer (some ⟨Bx, 1, none⟩)) ∧ (b5 = true → u29 = .int .i64 x1) ∧ (b6 = true → u30 = .int .i64 (f2 + x1)) ∧ (b7 = true → u31 = .pointer (some ⟨B, 0, none⟩)) ∧ (b9 = true → u32 = .pointer (some ⟨B, 1, none⟩))) ∧
    (b10 = true → b8 = true ∧ b3 = true) ∧ w = (if b10 then (W.drew.setCell ⟨B, 0, none⟩ (.int .i64 x0)).setCell ⟨B, 1, none⟩ (.int .i64 (f2 + x1)) else if b8 then W.drew.setCell ⟨B, 0, none⟩ (.int .i64 x0) else W.drew)) ?h0 ?hd ?hs _ _ _ _ ?start
  case h0 =>
    rintro listed a w ⟨b0, b1, b2, b3, b4, b5, b6, b7, b8, b9, b10, rfl, hf, _⟩
    have : ∀ b, nb b = 0 → b = true := by intro b; cases b <;> simp [nb]
    have a0 := this b0 (by omega)
    have a1 := this b1 (by omega)
    have a2 := this b2 (by omega)
    have a3 := this b3 (by omega)
    have a4 := this b4 (by omega)
    have a5 := this b5 (by omega)
    have a6 := this b6 (by omega)
    have a7 := this b7 (by omega)
    have a8 := this b8 (by omega)
    have a9 := this b9 (by omega)
    have a10 := this b10 (by omega)
    subst a0 a1 a2 a3 a4 a5 a6 a7 a8 a9 a10
    rfl
  case start => exact ⟨false, false, false, false, false, false, false, false, false, false, false, rfl, rfl, ⟨_, _, _, _, _, _, _, _, _, rfl, by simp, by simp, by simp, by simp, by simp, by simp, by simp, by simp, by simp⟩, by simp, rfl⟩
  case hd =>
    rintro f listed a w ⟨b0, b1, b2, b3, b4, b5, b6, b7, b8, b9, b10, rfl, hf, ⟨u24, u25, u26, u27, u28, u29, u30, u31, u32, rfl, _⟩, h108, hw⟩ hr
    obtain rfl : b0 = true := by
      cases b0 with
      | true => rfl
      | false =>
        have hm : 0 ∈ Region.ready .any pairOps #[false, b1, b2, b3, b4, b5, b6, b7, b8, b9, b10] := List.mem_filter.2 ⟨by simp [pairOps], by simp [pairOps, Region.binds]⟩
        rw [hr] at hm
        cases hm
    obtain rfl : b2 = true := by
      cases b2 with
      | true => rfl
      | false =>
        have hm : 2 ∈ Region.ready .any pairOps #[true, b1, false, b3, b4, b5, b6, b7, b8, b9, b10] := List.mem_filter.2 ⟨by simp [pairOps], by simp [pairOps, Region.binds]⟩
        rw [hr] at hm
        cases hm
    obtain rfl : b4 = true := by
      cases b4 with
      | true => rfl
      | false =>
        have hm : 4 ∈ Region.ready .any pairOps #[true, b1, true, b3, false, b5, b6, b7, b8, b9, b10] := List.mem_filter.2 ⟨by simp [pairOps], by simp [pairOps, Region.binds]⟩
        rw [hr] at hm
        cases hm
    obtain rfl : b1 = true := by
      cases b1 with
      | true => rfl
      | false =>
        have hm : 1 ∈ Region.ready .any pairOps #[true, false, true, b3, true, b5, b6, b7, b8, b9, b10] := List.mem_filter.2 ⟨by simp [pairOps], by simp [pairOps, Region.binds]⟩
        rw [hr] at hm
        cases hm
    obtain rfl : b3 = true := by
      cases b3 with
      | true => rfl
      | false =>
        have hm : 3 ∈ Region.ready .any pairOps #[true, true, true, false, true, b5, b6, b7, b8, b9, b10] := List.mem_filter.2 ⟨by simp [pairOps], by simp [pairOps, Region.binds]⟩
        rw [hr] at hm
        cases hm
    obtain rfl : b5 = true := by
      cases b5 with
      | true => rfl
      | false =>
        have hm : 5 ∈ Region.ready .any pairOps #[true, true, true, true, true, false, b6, b7, b8, b9, b10] := List.mem_filter.2 ⟨by simp [pairOps], by simp [pairOps, Region.binds]⟩
        rw [hr] at hm
        cases hm
    obtain rfl : b6 = true := by
      cases b6 with
      | true => rfl
      | false =>
        have hm : 6 ∈ Region.ready .any pairOps #[true, true, true, true, true, true, false, b7, b8, b9, b10] := List.mem_filter.2 ⟨by simp [pairOps], by simp [pairOps, Region.binds]⟩
        rw [hr] at hm
        cases hm
    obtain rfl : b7 = true := by
      cases b7 with
      | true => rfl
      | false =>
        have hm : 7 ∈ Region.ready .any pairOps #[true, true, true, true, true, true, true, false, b8, b9, b10] := List.mem_filter.2 ⟨by simp [pairOps], by simp [pairOps, Region.binds]⟩
        rw [hr] at hm
        cases hm
    obtain rfl : b8 = true := by
      cases b8 with
      | true => rfl
      | false =>
        have hm : 8 ∈ Region.ready .any pairOps #[true, true, true, true, true, true, true, true, false, b9, b10] := List.mem_filter.2 ⟨by simp [pairOps], by simp [pairOps, Region.binds]⟩
        rw [hr] at hm
        cases hm
    obtain rfl : b9 = true := by
      cases b9 with
      | true => rfl
      | false =>
        have hm : 9 ∈ Region.ready .any pairOps #[true, true, true, true, true, true, true, true, true, false, b10] := List.mem_filter.2 ⟨by simp [pairOps], by simp [pairOps, Region.binds]⟩
        rw [hr] at hm
        cases hm
    obtain rfl : b10 = true := by
      cases b10 with
      | true => rfl
      | false =>
        have hm : 10 ∈ Region.ready .any pairOps #[true, true, true, true, true, true, true, true, true, true, false] := List.mem_filter.2 ⟨by simp [pairOps], by simp [pairOps, Region.binds]⟩
        rw [hr] at hm
        cases hm
    rw [hw]
    exact hK _ _ _ _ _ _ _ _ _
  case hs =>
    rintro f listed a w i ⟨b0, b1, b2, b3, b4, b5, b6, b7, b8, b9, b10, rfl, hf, ⟨u24, u25, u26, u27, u28, u29, u30, u31, u32, rfl, v0, v1, v2, v3, v4, v5, v6, v7, v9⟩, h108, hw⟩ hi
    have hi' := List.mem_filter.1 hi
    have hr : i = 0 ∨ i = 1 ∨ i = 2 ∨ i = 3 ∨ i = 4 ∨ i = 5 ∨ i = 6 ∨ i = 7 ∨ i = 8 ∨ i = 9 ∨ i = 10 := by have := List.mem_range.1 hi'.1; simp [pairOps] at this; omega
    have hc := hi'.2
    clear hi hi'
    rcases hr with rfl | rfl | rfl | rfl | rfl | rfl | rfl | rfl | rfl | rfl | rfl
    all_goals simp [pairOps, Region.binds] at hc
    · subst hc
      skip
      refine wpOpIn_step (o := { dst := some 24, op := Op.fieldAddr 55 (Operand.tmp 6) 0, type := 0, pos := "l02_slab.go:91", after := #[], guard := none }) rfl ?_
      intro K' hK'
      have HW : Hid (w = _) := hw
      clear hw
      refine ite_in rfl ?_
      gi_step
      exact hK' _ _ ⟨true, b1, b2, b3, b4, b5, b6, b7, b8, b9, b10, rfl, by simp only [nb, if_true, if_false, Bool.false_eq_true] at hf ⊢; omega, ⟨_, _, _, _, _, _, _, _, _, rfl, fun _ => by first | rfl | go_num | simp, v1, v2, v3, v4, v5, v6, v7, v9⟩, h108, HW.out⟩
    · obtain ⟨rfl, rfl⟩ := hc
      obtain rfl := v0 rfl
      skip
      have d0 : w.cell? ⟨Bx, 0, none⟩ = some (.int .i64 x0) := by rw [hw]; cases b10 <;> cases b8 <;> simp [World.cell?_setCell_other, c0]
      refine wpOpIn_step (o := { dst := some 25, op := Op.load 3 (Operand.tmp 24), type := 3, pos := "l02_slab.go:91", after := #[{ on := 0, ground := Ground.data }], guard := none }) rfl ?_
      intro K' hK'
      have HW : Hid (w = _) := hw
      clear hw
      refine ite_in rfl ?_
      gi_step
      exact hK' _ _ ⟨true, true, b2, b3, b4, b5, b6, b7, b8, b9, b10, rfl, by simp only [nb, if_true, if_false, Bool.false_eq_true] at hf ⊢; omega, ⟨_, _, _, _, _, _, _, _, _, rfl, fun _ => rfl, fun _ => by first | rfl | go_num | simp, v2, v3, v4, v5, v6, v7, v9⟩, h108, HW.out⟩
    · subst hc
      skip
      refine wpOpIn_step (o := { dst := some 26, op := Op.fieldAddr 55 (Operand.tmp 5) 1, type := 0, pos := "l02_slab.go:91", after := #[], guard := none }) rfl ?_
      intro K' hK'
      have HW : Hid (w = _) := hw
      clear hw
      refine ite_in rfl ?_
      gi_step
      exact hK' _ _ ⟨b0, b1, true, b3, b4, b5, b6, b7, b8, b9, b10, rfl, by simp only [nb, if_true, if_false, Bool.false_eq_true] at hf ⊢; omega, ⟨_, _, _, _, _, _, _, _, _, rfl, v0, v1, fun _ => by first | rfl | go_num | simp, v3, v4, v5, v6, v7, v9⟩, h108, HW.out⟩
    · obtain ⟨rfl, rfl⟩ := hc
      obtain rfl := v2 rfl
      obtain rfl : b10 = false := by cases b10 with | false => rfl | true => simp at h108
      simp only [Bool.false_eq_true, if_false] at hw
      have d0 : w.cell? ⟨B, 1, none⟩ = some (.int .i64 f2) := by rw [hw]; cases b8 <;> simp [World.cell?_setCell_other, e1]
      refine wpOpIn_step (o := { dst := some 27, op := Op.load 3 (Operand.tmp 26), type := 3, pos := "l02_slab.go:91", after := #[{ on := 2, ground := Ground.data }], guard := none }) rfl ?_
      intro K' hK'
      have HW : Hid (w = _) := hw
      clear hw
      refine ite_in rfl ?_
      gi_step
      exact hK' _ _ ⟨b0, b1, true, true, b4, b5, b6, b7, b8, b9, false, rfl, by simp only [nb, if_true, if_false, Bool.false_eq_true] at hf ⊢; omega, ⟨_, _, _, _, _, _, _, _, _, rfl, v0, v1, fun _ => rfl, fun _ => by first | rfl | go_num | simp, v4, v5, v6, v7, v9⟩, by simp, by simpa using HW.out⟩
    · subst hc
      skip
      refine wpOpIn_step (o := { dst := some 28, op := Op.fieldAddr 55 (Operand.tmp 6) 1, type := 0, pos := "l02_slab.go:91", after := #[], guard := none }) rfl ?_
      intro K' hK'
      have HW : Hid (w = _) := hw
      clear hw
      refine ite_in rfl ?_
      gi_step
      exact hK' _ _ ⟨b0, b1, b2, b3, true, b5, b6, b7, b8, b9, b10, rfl, by simp only [nb, if_true, if_false, Bool.false_eq_true] at hf ⊢; omega, ⟨_, _, _, _, _, _, _, _, _, rfl, v0, v1, v2, v3, fun _ => by first | rfl | go_num | simp, v5, v6, v7, v9⟩, h108, HW.out⟩
    · obtain ⟨rfl, rfl⟩ := hc
      obtain rfl := v4 rfl
      skip
      have d0 : w.cell? ⟨Bx, 1, none⟩ = some (.int .i64 x1) := by rw [hw]; cases b10 <;> cases b8 <;> simp [World.cell?_setCell_other, c1]
      refine wpOpIn_step (o := { dst := some 29, op := Op.load 3 (Operand.tmp 28), type := 3, pos := "l02_slab.go:91", after := #[{ on := 4, ground := Ground.data }], guard := none }) rfl ?_
      intro K' hK'
      have HW : Hid (w = _) := hw
      clear hw
      refine ite_in rfl ?_
      gi_step
      exact hK' _ _ ⟨b0, b1, b2, b3, true, true, b6, b7, b8, b9, b10, rfl, by simp only [nb, if_true, if_false, Bool.false_eq_true] at hf ⊢; omega, ⟨_, _, _, _, _, _, _, _, _, rfl, v0, v1, v2, v3, fun _ => rfl, fun _ => by first | rfl | go_num | simp, v6, v7, v9⟩, h108, HW.out⟩
    · obtain ⟨rfl, rfl, rfl⟩ := hc
      obtain rfl := v3 rfl
      obtain rfl := v5 rfl
      skip
      refine wpOpIn_step (o := { dst := some 30, op := Op.binOp BinOp.add 3 (Operand.tmp 27) (Operand.tmp 29) 3, type := 3, pos := "l02_slab.go:91", after := #[{ on := 3, ground := Ground.data }, { on := 5, ground := Ground.data }], guard := none }) rfl ?_
      intro K' hK'
      have HW : Hid (w = _) := hw
      clear hw
      refine ite_in rfl ?_
      gi_step
      exact hK' _ _ ⟨b0, b1, b2, true, b4, true, true, b7, b8, b9, b10, rfl, by simp only [nb, if_true, if_false, Bool.false_eq_true] at hf ⊢; omega, ⟨_, _, _, _, _, _, _, _, _, rfl, v0, v1, v2, fun _ => rfl, v4, fun _ => rfl, fun _ => by first | rfl | go_num | simp, v7, v9⟩, by simpa using h108, HW.out⟩
    · obtain ⟨rfl, rfl, rfl, rfl, rfl⟩ := hc
      obtain rfl := v0 rfl
      obtain rfl := v1 rfl
      obtain rfl := v2 rfl
      obtain rfl := v3 rfl
      skip
      refine wpOpIn_step (o := { dst := some 31, op := Op.fieldAddr 55 (Operand.tmp 5) 0, type := 0, pos := "l02_slab.go:91", after := #[{ on := 0, ground := Ground.phase }, { on := 1, ground := Ground.phase }, { on := 2, ground := Ground.phase }, { on := 3, ground := Ground.phase }, { on := 4, ground := Ground.textOnly Departure.lateStores }, { on := 5, ground := Ground.textOnly Departure.lateStores }, { on := 6, ground := Ground.textOnly Departure.lateStoresUnsure }], guard := none }) rfl ?_
      intro K' hK'
      have HW : Hid (w = _) := hw
      clear hw
      refine ite_in rfl ?_
      gi_step
      exact hK' _ _ ⟨true, true, true, true, b4, b5, b6, true, b8, b9, b10, rfl, by simp only [nb, if_true, if_false, Bool.false_eq_true] at hf ⊢; omega, ⟨_, _, _, _, _, _, _, _, _, rfl, fun _ => rfl, fun _ => rfl, fun _ => rfl, fun _ => rfl, v4, v5, v6, fun _ => by first | rfl | go_num | simp, v9⟩, by simpa using h108, HW.out⟩
    · obtain ⟨rfl, rfl, rfl, rfl, _, rfl, rfl⟩ := hc
      obtain rfl := v7 rfl
      obtain rfl := v1 rfl
      obtain rfl := v0 rfl
      obtain rfl := v2 rfl
      obtain rfl := v3 rfl
      obtain rfl : b10 = false := by cases b10 with | false => rfl | true => simp at h108
      simp only [Bool.false_eq_true, if_false] at hw
      subst hw
      have d0 : W.drew.cell? ⟨B, 0, none⟩ = some f1 := e0
      have d1 : W.drew.frozen? ⟨B, 0, none⟩ = false := p0
      refine wpOpIn_step (o := { dst := none, op := Op.store 3 (Operand.tmp 31) (Operand.tmp 25), type := 0, pos := "l02_slab.go:91", after := #[{ on := 7, ground := Ground.data }, { on := 1, ground := Ground.data }, { on := 0, ground := Ground.phase }, { on := 1, ground := Ground.phase }, { on := 2, ground := Ground.phase }, { on := 3, ground := Ground.phase }, { on := 4, ground := Ground.textOnly Departure.lateStores }, { on := 5, ground := Ground.textOnly Departure.lateStores }, { on := 6, ground := Ground.textOnly Departure.lateStoresUnsure }], guard := none }) rfl ?_
      intro K' hK'
      refine ite_in rfl ?_
      gi_step
      exact hK' _ _ ⟨true, true, true, true, b4, b5, b6, true, true, b9, false, rfl, by simp only [nb, if_true, if_false, Bool.false_eq_true] at hf ⊢; omega, ⟨_, _, _, _, _, _, _, _, _, rfl, fun _ => rfl, fun _ => rfl, fun _ => rfl, fun _ => rfl, v4, v5, v6, fun _ => rfl, v9⟩, by simp, rfl⟩
    · obtain ⟨rfl, rfl, rfl, rfl, rfl, rfl, rfl, rfl, rfl, rfl⟩ := hc
      obtain rfl := v0 rfl
      obtain rfl := v1 rfl
      obtain rfl := v2 rfl
      obtain rfl := v3 rfl
      obtain rfl := v4 rfl
      obtain rfl := v5 rfl
      obtain rfl := v6 rfl
      obtain rfl := v7 rfl
      skip
      refine wpOpIn_step (o := { dst := some 32, op := Op.fieldAddr 55 (Operand.tmp 5) 1, type := 0, pos := "l02_slab.go:91", after := #[{ on := 0, ground := Ground.phase }, { on := 1, ground := Ground.phase }, { on := 2, ground := Ground.phase }, { on := 3, ground := Ground.phase }, { on := 4, ground := Ground.phase }, { on := 5, ground := Ground.phase }, { on := 6, ground := Ground.phase }, { on := 7, ground := Ground.phase }, { on := 8, ground := Ground.phase }], guard := none }) rfl ?_
      intro K' hK'
      have HW : Hid (w = _) := hw
      clear hw
      refine ite_in rfl ?_
      gi_step
      exact hK' _ _ ⟨true, true, true, true, true, true, true, true, true, true, b10, rfl, by simp only [nb, if_true, if_false, Bool.false_eq_true] at hf ⊢; omega, ⟨_, _, _, _, _, _, _, _, _, rfl, fun _ => rfl, fun _ => rfl, fun _ => rfl, fun _ => rfl, fun _ => rfl, fun _ => rfl, fun _ => rfl, fun _ => rfl, fun _ => by first | rfl | go_num | simp⟩, by simp, HW.out⟩
    · obtain ⟨rfl, rfl, rfl, rfl, hc⟩ := hc
      obtain rfl : b0 = true := by simp_all
      obtain rfl : b1 = true := by simp_all
      obtain rfl : b2 = true := by simp_all
      obtain rfl : b3 = true := by simp_all
      obtain rfl : b4 = true := by simp_all
      obtain rfl : b5 = true := by simp_all
      obtain rfl : b7 = true := by simp_all
      obtain rfl := v9 rfl
      obtain rfl := v6 rfl
      obtain rfl := v0 rfl
      obtain rfl := v1 rfl
      obtain rfl := v2 rfl
      obtain rfl := v3 rfl
      obtain rfl := v4 rfl
      obtain rfl := v5 rfl
      obtain rfl := v7 rfl
      simp only [Bool.false_eq_true, if_false, if_true] at hw
      subst hw
      have d0 : (W.drew.setCell ⟨B, 0, none⟩ (.int .i64 x0)).cell? ⟨B, 1, none⟩ = some (.int .i64 f2) := by simp [World.cell?_setCell_other, e1]
      have d1 : (W.drew.setCell ⟨B, 0, none⟩ (.int .i64 x0)).frozen? ⟨B, 1, none⟩ = false := by simp [p1]
      refine wpOpIn_step (o := { dst := none, op := Op.store 3 (Operand.tmp 32) (Operand.tmp 30), type := 0, pos := "l02_slab.go:91", after := #[{ on := 9, ground := Ground.data }, { on := 6, ground := Ground.data }, { on := 8, ground := Ground.chain }, { on := 0, ground := Ground.phase }, { on := 1, ground := Ground.phase }, { on := 2, ground := Ground.phase }, { on := 3, ground := Ground.phase }, { on := 4, ground := Ground.phase }, { on := 5, ground := Ground.phase }, { on := 6, ground := Ground.phase }, { on := 7, ground := Ground.phase }, { on := 8, ground := Ground.phase }], guard := none }) rfl ?_
      intro K' hK'
      refine ite_in rfl ?_
      gi_step
      exact hK' _ _ ⟨true, true, true, true, true, true, true, true, true, true, true, rfl, by simp only [nb, if_true, if_false, Bool.false_eq_true] at hf ⊢; omega, ⟨_, _, _, _, _, _, _, _, _, rfl, fun _ => rfl, fun _ => rfl, fun _ => rfl, fun _ => rfl, fun _ => rfl, fun _ => rfl, fun _ => rfl, fun _ => rfl, fun _ => rfl⟩, by simp, rfl⟩
end Go.Proofs.Ytaclgpkcdbikhaa
