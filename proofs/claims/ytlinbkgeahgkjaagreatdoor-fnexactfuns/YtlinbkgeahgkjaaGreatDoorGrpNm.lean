/-
  Chapter 14's models l14Funs and Funs exactly: the functions of a program, each a tree of its own.
  Chapter 14's model Funs exactly: the program, and all functions in it.
-/
import Derived.OwnWalk
import Derived.Deep.CutRange
import Derived.Test.YtlinbkgeahgkjaaGreatDoorGrpPc
import Derived.Test.YtlinbkgeahgkjaaGreatDoorGrpFn
import Derived.Test.YtlinbkgeahgkjaaGreatDoorGrpOk
import Derived.Test.YtlinbkgeahgkjaaGreatDoorSeqR
namespace Go.Proofs.YtlinbkgeahgkjaaGreatDoor
open Go.RowKit
set_option linter.unusedSimpArgs false
set_option linter.unusedVariables false

theorem funsL_take {ks : List Nd} {k : Nat} {x : Nd} (h : ks[k]? = some x) : funsL (ks.take (k + 1)) = funsL (ks.take k) ++ funL x := by
  rw [List.take_add_one, h, funsL_app]
  simp [funsL]
mutual
theorem funL_len : ∀ t : Nd, (funL t).length ≤ t.size
  | .mk op s n ks => by
    have := funsL_len ks
    simp only [funL, Nd.size, List.length_append]
    split <;> simp <;> omega
theorem funsL_len : ∀ ks : List Nd, (funsL ks).length ≤ sizesN ks
  | [] => Nat.le_refl 0
  | k :: ks => by
    have := funL_len k
    have := funsL_len ks
    simp only [funsL, sizesN, List.length_append]
    omega
end
theorem sizes_take_le (ks : List Nd) (k : Nat) : sizesN (ks.take k) ≤ sizesN ks := by
  induction ks generalizing k with
  | nil => simp
  | cons x ks ih =>
    cases k with
    | zero => simp [sizesN]
    | succ k => simp only [List.take_succ_cons, sizesN]; have := ih k; omega
theorem exec_appendF {P : Program} {o : Oper} {ev : Operand → Value} {s x : Operand} {t1 t2 : TypeId} {u w' : World} {v sv xv : Value} (ho : o.op = .call { callee := .builtin .append, args := #[s, x], argTypes := #[t1, t2] }) (hs : ev s = sv) (hx : ev x = xv) (hr : (Builtin.append_ #[t1, t2] o.type #[sv, xv]).run P u = .ok v w') : (execOp ev o).run P u = .ok (.value v) w' := by
  unfold execOp
  simp only [ho, resolve, invoke, builtin, Sem.run_bind, Sem.run_pure, Result.andThen_ok, List.map_toArray, List.map_cons, List.map_nil, hs, hx, hr]
theorem wpList_run {P : Program} {ops : Array Oper} {rest : List Oper} {o : Oper} {a : Act} {w w' : World} {v : Value} {Q : Exit → Act → World → Prop} (hgd : o.guard = none) (h : (execOp a.eval o).run P w = .ok (.value v) w') (k : wpList P ops Q rest (a.put o.dst v) w') : wpList P ops Q (o :: rest) a w :=
  wpList_plain hgd fun _ hK => by
    unfold Oper.wp
    rw [h]
    exact hK _ _ k
def FnOk (t : Nd) : Prop := ∀ (w : World) (base : Nat) (v : Value), NdV w base t v → t.size ≤ 100000 →
    Calls Tryz.prog 16 #[v] w fun e w' => ∃ g c, e = .returned (.slice (some ⟨g, 0, none⟩) (funL t).length c) ∧ FunR w' w.heap.size w'.heap.size (.slice (some ⟨g, 0, none⟩) (funL t).length c) (funL t) ∧ Kept w w'
/-- A row that is not nil stays so. -/
theorem FunR.some {W : World} {lo hi : Nat} {v : Value} {ks : List Nd} (h : FunR W lo hi v ks) (hv : v ≠ .slice none 0 0) : ∃ g c, v = .slice (some ⟨g, 0, none⟩) ks.length c := by
  obtain ⟨xs, ⟨_, ⟨rfl, h0⟩ | ⟨g, cap, cur, rfl, _⟩⟩, _⟩ := h
  · exact absurd rfl hv
  · exact ⟨g, cap, rfl⟩
set_option maxHeartbeats 16000000 in
set_option maxRecDepth 100000 in
theorem l14Funs_ok : ∀ (m : Nat) (t : Nd), t.size ≤ m → FnOk t := by
  intro m
  induction m with
  | zero =>
    intro t ht
    have := t.size_pos
    omega
  | succ m ih =>
    intro t ht w base v hv hsz
    have hvN := hv
    obtain ⟨op, s, n, ks⟩ := t
    rw [NdV] at hv
    obtain ⟨ao, cap, rfl, hml, hks⟩ := hv
    simp only [Nd.size] at ht hsz
    have HIH : Hid (∀ (t : Nd), t.size ≤ m → FnOk t) := ih
    have HKS : Hid (ks = [] ∨ ∃ b off, ao = some ⟨b, off, none⟩ ∧ base ≤ b ∧ NdsV w base b off ks) := hks
    have HVN : Hid (NdV w base (.mk op s n ks) (.agg #[.int .i64 op, .string s, .int .i64 n, .slice ao ks.length cap])) := hvN
    have hll := len_sizes ks
    clear ih hks hml hvN
    have b0 := (Cells.new w 29 #[.int .i64 op, .string s, .int .i64 n, .slice ao ks.length cap]).alloc (.cells #[] 29)
    have k0 : Kept w ((w.alloc (.cells #[.int .i64 op, .string s, .int .i64 n, .slice ao ks.length cap] 29)).alloc (.cells #[] 29)) := (Kept.alloc (Below.refl _ _) _).alloc _
    have F0 := FunR.empty (w.alloc (.cells #[.int .i64 op, .string s, .int .i64 n, .slice ao ks.length cap] 29)) (w.heap.size + 1) (by simp)
    have c0 := b0.cell 0; have c1 := b0.cell 1; have c2 := b0.cell 2; have c3 := b0.cell 3
    simp only [World.size_alloc] at F0
    have hs0 : ((w.alloc (.cells #[.int .i64 op, .string s, .int .i64 n, .slice ao ks.length cap] 29)).alloc (.cells #[] 29)).heap.size = w.heap.size + 1 + 1 := by simp
    have HC : Hid (∀ u, Kept w u → Calls Tryz.prog 15 #[.agg #[.int .i64 op, .string s, .int .i64 n, .slice ao ks.length cap]] u fun e w' => ∃ v', e = .returned v' ∧ CpT w' (.mk op s n ks) u.heap.size w'.heap.size v' ∧ Kept u w') := fun u hu => l12CopyV_ok _ (.mk op s n ks) (Nat.le_refl _) u base _ (HVN.out.kept hu) (by simp only [Nd.size]; omega)
    by_cases h27 : op = 27
    · subst h27
      go_enter Tryz.func16, Tryz.ntmps16
      go_wp2_with (first | (have _tk := hr; at_builtin; refine wpList_run rfl (exec_appendF rfl rfl rfl hr) ?_) | (go_at_call 15; refine (HC.out _ k0).mono ?_; rintro e w1 ⟨v1, rfl, hT1, hk1⟩; obtain ⟨op1, s1, n1, ao1, l1, cp1, rfl⟩ := hT1.four; have hz1 := hk1.size; obtain ⟨v2, w2, hr, hF2, hg2, hn2⟩ := FunR.app ((F0.kept hk1).kept (Kept.alloc (Below.refl _ w1) (.cells #[.int .i64 op1, .string s1, .int .i64 n1, .slice ao1 l1 cp1] 29))) (FunR.one hT1 (Nat.le_refl _) hk1.size (Nat.le_refl _)) (by omega) (by rw [hs0]; exact Nat.le_refl _) (by omega) (by simp) (by simp) 26; obtain ⟨gv, cv, rfl⟩ := hF2.some (hn2 (by simp))))
      have HB0 : Hid (Cells w2 w.heap.size 29 #[.int .i64 27, .string s, .int .i64 n, .slice ao ks.length cap] ∧ Kept w w2) := by
        have ka : Kept w1 (w1.alloc (.cells #[.int .i64 op1, .string s1, .int .i64 n1, .slice ao1 l1 cp1] 29)) := Kept.alloc (Below.refl _ _) _
        have bb := (b0.kept hk1).kept ka
        have kk := (k0.trans hk1).trans ka
        refine ⟨(hg2.block _ bb.lt (fun e => by simp [Value.ownBlock] at e)).trans bb, Below.grown kk hg2 kk.size (fun j e => by simp [Value.ownBlock] at e; omega)⟩
      have HF0 : Hid _ := hF2
      clear hF2 hg2 hn2 hr F0 b0
      go_loopw [3, 4] (fun ov iv wr => ∃ (k g L c : Nat), iv = .int .i64 k ∧ k ≤ ks.length ∧ ov = .slice (some ⟨g, 0, none⟩) L c ∧ Hid (FunR wr (w.heap.size + 1) wr.heap.size (.slice (some ⟨g, 0, none⟩) L c) ([Nd.mk 27 s n ks] ++ funsL (ks.take k))) ∧ Hid (Cells wr w.heap.size 29 #[.int .i64 27, .string s, .int .i64 n, .slice ao ks.length cap] ∧ Kept w wr)) (fun _ i _ => ks.length - (intOf i).toNat)
      case atStart => exact ⟨0, gv, _, cv, rfl, Nat.zero_le _, rfl, by show FunR _ _ _ _ ([Nd.mk 27 s n ks] ++ funsL []); exact HF0.out, HB0.out⟩
      case round =>
        obtain ⟨k, g, L, c, rfl, hk, rfl, hF, hB⟩ := hrel
        have c3 := hB.out.1.cell 3
        simp at c3
        by_cases hlt : k < ks.length
        · have q1 : (k : Int) < (ks.length : Int) := by omega
          have q2 : (k : Int) + 1 ≤ 9223372036854775807 := by omega
          obtain ⟨x, hx⟩ : ∃ x, ks[k]? = some x := ⟨ks[k], List.getElem?_eq_getElem hlt⟩
          have hxs := size_mem hx
          obtain ⟨b, off, a2, cq, rfl, g0, g1, g2, g3, hv⟩ := kid_at HKS.out hB.out.2 hx
          have hC := HIH.out x (by omega) wr base _ hv (by omega)
          have HT : Hid ([Nd.mk 27 s n ks] ++ funsL (ks.take (k + 1)) = ([Nd.mk 27 s n ks] ++ funsL (ks.take k)) ++ funL x) := by rw [Hid, funsL_take hx, List.append_assoc]
          have hl1 : ([Nd.mk 27 s n ks] ++ funsL (ks.take k)).length + (funL x).length ≤ 1000000 := by
            have h1 := funsL_len (ks.take k)
            have h2 := sizes_take_le ks k
            have h3 := funL_len x
            rw [List.length_append]
            simp only [List.length_cons, List.length_nil]
            omega
          obtain ⟨xo, hxo⟩ : ∃ o, x.op = o := ⟨_, rfl⟩
          obtain ⟨xs, hxs'⟩ : ∃ o, x.s = o := ⟨_, rfl⟩
          obtain ⟨xn, hxn⟩ : ∃ o, x.n = o := ⟨_, rfl⟩
          obtain ⟨xl, hxl⟩ : ∃ o, x.kids.length = o := ⟨_, rfl⟩
          rw [hxo, hxs', hxn, hxl] at hC
          rw [hxo] at g0
          rw [hxs'] at g1
          rw [hxn] at g2
          rw [hxl] at g3
          obtain ⟨fx, hfx⟩ : ∃ f, funL x = f := ⟨_, rfl⟩
          rw [hfx] at hC HT hl1
          have HL1 : Hid _ := hl1
          clear hx hxs hv hxo hxs' hxn hxl hfx hl1
          go_wp2_with (first | (have _tk := hr; at_builtin; refine wpList_run rfl (exec_appendF rfl rfl rfl hr) ?_) | (go_at_call 16; refine hC.mono ?_; rintro e w1 ⟨gx, cx, rfl, hFx, hk1⟩; obtain ⟨v2, w2, hr, hF2, hg2, hn2⟩ := FunR.app (hF.out.kept hk1) hFx hB.out.1.lt (Nat.le_refl _) hk1.size (Nat.le_refl _) HL1.out 26; obtain ⟨gv, cv, rfl⟩ := hF2.some (hn2 (by simp)); obtain ⟨Lv, hLv⟩ : ∃ L, (([Nd.mk 27 s n ks] ++ funsL (ks.take k)) ++ fx).length = L := ⟨_, rfl⟩; rw [hLv] at hr hF2))
          have hb1 : ∀ j, (Value.slice (some ⟨g, 0, none⟩) L c).ownBlock = some j → w.heap.size + 1 ≤ j := fun j e => by
            obtain ⟨ys, ho, hb, _⟩ := hF.out
            exact (hb j e).1
          have kw1 := Kept.trans hB.out.2 hk1
          exact ⟨⟨k + 1, gv, Lv, cv, by go_num, by omega, rfl, by rw [HT.out]; exact hF2, (hg2.block _ (hB.out.1.kept hk1).lt (fun e => by have := hb1 _ e.symm; omega)).trans (hB.out.1.kept hk1), Below.grown kw1 hg2 kw1.size (fun j e => by have := hb1 j e; omega)⟩, by simp [intOf]; omega⟩
        · have q1 : ¬ (k : Int) < (ks.length : Int) := by omega
          have HF : Hid (FunR wr (w.heap.size + 1) wr.heap.size (.slice (some ⟨g, 0, none⟩) L c) (funL (.mk 27 s n ks))) := by
            have h := hF.out
            rw [List.take_of_length_le (by omega)] at h
            rw [Hid, funL, if_pos rfl]
            exact h
          have HL : Hid (L = (funL (.mk 27 s n ks)).length) := by
            obtain ⟨ys, ho, _⟩ := HF.out
            obtain ⟨_, ⟨e, _⟩ | ⟨g', cap', cur', e, _⟩⟩ := ho
            · cases e
            · injection e
          go_wp2_with fail
          go_ret
          exact ⟨g, c, by rw [← HL.out]; rfl, by rw [← HL.out]; exact HF.out.mono (by omega) (Nat.le_refl _), hB.out.2⟩
    · have h27' : (op == 27) = false := by simpa using h27
      have HB0 : Hid _ := And.intro b0 k0
      have HF0 : Hid _ := F0
      go_enter Tryz.func16, Tryz.ntmps16
      go_wp2_with fail
      go_loopw [3, 4] (fun ov iv wr => ∃ (k g L c : Nat), iv = .int .i64 k ∧ k ≤ ks.length ∧ ov = .slice (some ⟨g, 0, none⟩) L c ∧ Hid (FunR wr (w.heap.size + 1) wr.heap.size (.slice (some ⟨g, 0, none⟩) L c) (([] : List Nd) ++ funsL (ks.take k))) ∧ Hid (Cells wr w.heap.size 29 #[.int .i64 op, .string s, .int .i64 n, .slice ao ks.length cap] ∧ Kept w wr)) (fun _ i _ => ks.length - (intOf i).toNat)
      case atStart => exact ⟨0, _, _, _, rfl, Nat.zero_le _, rfl, by show FunR _ _ _ _ ([] ++ funsL []); rw [show ([] : List Nd) ++ funsL [] = [] from rfl, hs0]; exact HF0.out, HB0.out⟩
      case round =>
        obtain ⟨k, g, L, c, rfl, hk, rfl, hF, hB⟩ := hrel
        have c3 := hB.out.1.cell 3
        simp at c3
        by_cases hlt : k < ks.length
        · have q1 : (k : Int) < (ks.length : Int) := by omega
          have q2 : (k : Int) + 1 ≤ 9223372036854775807 := by omega
          obtain ⟨x, hx⟩ : ∃ x, ks[k]? = some x := ⟨ks[k], List.getElem?_eq_getElem hlt⟩
          have hxs := size_mem hx
          obtain ⟨b, off, a2, cq, rfl, g0, g1, g2, g3, hv⟩ := kid_at HKS.out hB.out.2 hx
          have hC := HIH.out x (by omega) wr base _ hv (by omega)
          have HT : Hid (([] : List Nd) ++ funsL (ks.take (k + 1)) = (([] : List Nd) ++ funsL (ks.take k)) ++ funL x) := by rw [Hid, funsL_take hx, List.append_assoc]
          have hl1 : (([] : List Nd) ++ funsL (ks.take k)).length + (funL x).length ≤ 1000000 := by
            have h1 := funsL_len (ks.take k)
            have h2 := sizes_take_le ks k
            have h3 := funL_len x
            rw [List.length_append]
            simp only [List.length_cons, List.length_nil]
            omega
          obtain ⟨xo, hxo⟩ : ∃ o, x.op = o := ⟨_, rfl⟩
          obtain ⟨xs, hxs'⟩ : ∃ o, x.s = o := ⟨_, rfl⟩
          obtain ⟨xn, hxn⟩ : ∃ o, x.n = o := ⟨_, rfl⟩
          obtain ⟨xl, hxl⟩ : ∃ o, x.kids.length = o := ⟨_, rfl⟩
          rw [hxo, hxs', hxn, hxl] at hC
          rw [hxo] at g0
          rw [hxs'] at g1
          rw [hxn] at g2
          rw [hxl] at g3
          obtain ⟨fx, hfx⟩ : ∃ f, funL x = f := ⟨_, rfl⟩
          rw [hfx] at hC HT hl1
          have HL1 : Hid _ := hl1
          clear hx hxs hv hxo hxs' hxn hxl hfx hl1
          go_wp2_with (first | (have _tk := hr; at_builtin; refine wpList_run rfl (exec_appendF rfl rfl rfl hr) ?_) | (go_at_call 16; refine hC.mono ?_; rintro e w1 ⟨gx, cx, rfl, hFx, hk1⟩; obtain ⟨v2, w2, hr, hF2, hg2, hn2⟩ := FunR.app (hF.out.kept hk1) hFx hB.out.1.lt (Nat.le_refl _) hk1.size (Nat.le_refl _) HL1.out 26; obtain ⟨gv, cv, rfl⟩ := hF2.some (hn2 (by simp)); obtain ⟨Lv, hLv⟩ : ∃ L, ((([] : List Nd) ++ funsL (ks.take k)) ++ fx).length = L := ⟨_, rfl⟩; rw [hLv] at hr hF2))
          have hb1 : ∀ j, (Value.slice (some ⟨g, 0, none⟩) L c).ownBlock = some j → w.heap.size + 1 ≤ j := fun j e => by
            obtain ⟨ys, ho, hb, _⟩ := hF.out
            exact (hb j e).1
          have kw1 := Kept.trans hB.out.2 hk1
          exact ⟨⟨k + 1, gv, Lv, cv, by go_num, by omega, rfl, by rw [HT.out]; exact hF2, (hg2.block _ (hB.out.1.kept hk1).lt (fun e => by have := hb1 _ e.symm; omega)).trans (hB.out.1.kept hk1), Below.grown kw1 hg2 kw1.size (fun j e => by have := hb1 j e; omega)⟩, by simp [intOf]; omega⟩
        · have q1 : ¬ (k : Int) < (ks.length : Int) := by omega
          have HF : Hid (FunR wr (w.heap.size + 1) wr.heap.size (.slice (some ⟨g, 0, none⟩) L c) (funL (.mk op s n ks))) := by
            have h := hF.out
            rw [List.take_of_length_le (by omega)] at h
            rw [Hid, funL, if_neg h27]
            exact h
          have HL : Hid (L = (funL (.mk op s n ks)).length) := by
            obtain ⟨ys, ho, _⟩ := HF.out
            obtain ⟨_, ⟨e, _⟩ | ⟨g', cap', cur', e, _⟩⟩ := ho
            · cases e
            · injection e
          go_wp2_with fail
          go_ret
          exact ⟨g, c, by rw [← HL.out]; rfl, by rw [← HL.out]; exact HF.out.mono (by omega) (Nat.le_refl _), hB.out.2⟩
end Go.Proofs.YtlinbkgeahgkjaaGreatDoor
namespace Go.Proofs.YtlinbkgeahgkjaaGreatDoor
open Go.RowKit
set_option linter.unusedSimpArgs false
set_option linter.unusedVariables false

theorem cpR_catG {W : World} {ks ts : List Nd} {lo hi lo2 hi2 : Nat} {xs ys : List Value} {own own2 : Option Nat} (h : CpR W ks lo hi xs own) (h2 : CpR W ts lo2 hi2 ys own2) (hlo : lo ≤ hi) (h12 : hi ≤ lo2) (h22 : lo2 ≤ hi2) (ho : ∀ g, own = some g → g < lo2 ∨ hi2 ≤ g) : CpR W (ks ++ ts) lo hi2 (xs ++ ys) own := by
  obtain ⟨e, bl, bh, hb, hd, hk⟩ := h
  obtain ⟨e2, bl2, bh2, hb2, hd2, hk2⟩ := h2
  refine ⟨by rw [List.length_append, List.length_append, e, e2]; omega, fun i => if i < ks.length then bl i else bl2 (i - ks.length), fun i => if i < ks.length then bh i else bh2 (i - ks.length), fun i hi => ?_, fun i j hij hj => ?_, fun i t ht => ?_⟩
  · rw [List.length_append] at hi
    by_cases hlt : i < ks.length
    · simp only [hlt, if_true]
      obtain ⟨b1, b2, b3, b4⟩ := hb i hlt
      exact ⟨b1, b2, by omega, b4⟩
    · simp only [hlt, if_false]
      obtain ⟨b1, b2, b3, b4⟩ := hb2 (i - ks.length) (by omega)
      exact ⟨by omega, b2, b3, fun g hg => by have := ho g hg; omega⟩
  · rw [List.length_append] at hj
    by_cases hlt : j < ks.length
    · simp only [hlt, show i < ks.length by omega, if_true]
      exact hd i j hij hlt
    · by_cases hli : i < ks.length
      · simp only [hlt, hli, if_true, if_false]
        have := hb i hli
        have := hb2 (j - ks.length) (by omega)
        omega
      · simp only [hlt, hli, if_false]
        exact hd2 _ _ (by omega) (by omega)
  · by_cases hlt : i < ks.length
    · rw [List.getElem?_append_left hlt] at ht
      obtain ⟨c0, c1, c2, c3, e0, e1, e2, e3, hc⟩ := hk i t ht
      simp only [hlt, if_true]
      exact ⟨c0, c1, c2, c3, by rw [List.getElem?_append_left (by omega)]; exact e0, by rw [List.getElem?_append_left (by omega)]; exact e1, by rw [List.getElem?_append_left (by omega)]; exact e2, by rw [List.getElem?_append_left (by omega)]; exact e3, hc⟩
    · rw [List.getElem?_append_right (by omega)] at ht
      obtain ⟨c0, c1, c2, c3, e0, e1, e2, e3, hc⟩ := hk2 (i - ks.length) t ht
      simp only [hlt, if_false]
      have q : ∀ r, i * 4 + r - xs.length = (i - ks.length) * 4 + r := fun r => by omega
      exact ⟨c0, c1, c2, c3, by rw [List.getElem?_append_right (by omega)]; have := q 0; simp only [Nat.add_zero] at this; rw [this]; exact e0, by rw [List.getElem?_append_right (by omega), q]; exact e1, by rw [List.getElem?_append_right (by omega), q]; exact e2, by rw [List.getElem?_append_right (by omega), q]; exact e3, hc⟩
theorem funR_appG {W : World} {lo hi lo2 hi2 g2 m c : Nat} {v : Value} {xs : List Value} {ks ts : List Nd} (ho : W.ownsRow 0 29 4 v ks.length xs) (hb : ∀ g, v.ownBlock = some g → lo ≤ g ∧ g < W.heap.size ∧ (g < lo2 ∨ hi2 ≤ g)) (hc : CpR W ks lo hi xs v.ownBlock) (h2 : FunR W lo2 hi2 (.slice (some ⟨g2, 0, none⟩) m c) ts) (hlo : lo ≤ hi) (h12 : hi ≤ lo2) (h22 : lo2 ≤ hi2) (hz : hi2 ≤ W.heap.size) (hl : ks.length + ts.length ≤ 1000000) (ty : TypeId) :
    ∃ v' W', (Builtin.append_ #[26, 26] ty #[v, .slice (some ⟨g2, 0, none⟩) m c]).run Tryz.prog W = .ok v' W' ∧ FunR W' lo W'.heap.size v' (ks ++ ts) ∧ W.grownBy W' v.ownBlock ∧ (v ≠ .slice none 0 0 → v' ≠ .slice none 0 0) := by
  obtain ⟨i0, hi0, hz0, hz1, hz2⟩ := info_parts infoNv
  obtain ⟨ys, ho2, hb2, hc2⟩ := h2
  have em : m = ts.length := by
    obtain ⟨_, ⟨e, h0⟩ | ⟨g, cap, cur, e, _⟩⟩ := ho2
    · cases e
    · injection e
  subst em
  obtain ⟨v', W', hr, ho3, hg3, hnil, hv'⟩ := run_append_own_at (P := Tryz.prog) W 0 26 ty 29 i0 _ 4 56 Tryz.underlying26 hi0 hz0 hz1 hz2 rfl (by decide) _ _ _ ho ⟨g2, 0, none⟩ ts.length c ys (by rw [hc2.1]) (fun j u hu => World.ownsRow.cells ho2 (g := g2) rfl j u hu) hc2.oneCell (by unfold maxLen; omega) (by omega) (Nat.zero_le _)
  refine ⟨v', W', hr, ⟨xs ++ ys, by rw [List.length_append]; exact ho3, fun g hg => ?_, ?_⟩, hg3, fun hv h => hv (hnil.1 h).1⟩
  · have hlt : g < W'.heap.size := by
      obtain ⟨_, ⟨e, h0⟩ | ⟨g', cap, cur, e, _, hgg, _⟩⟩ := ho3
      · rw [e] at hg; simp [Value.ownBlock] at hg
      · rw [e] at hg
        simp [Value.ownBlock] at hg
        subst hg
        exact (Array.getElem?_eq_some_iff.1 hgg).1
    rcases hv' with e | e
    · rw [e] at hg
      have := hb g hg
      omega
    · rw [e] at hg
      injection hg with hg
      omega
  · have hcat := (cpR_catG hc hc2 hlo h12 h22 (fun g hg => (hb g hg).2.2)).stay (W' := W') (fun b _ _ hne hlt => hg3.block b hlt (fun e => hne e.symm))
    refine (hcat.owner (own' := v'.ownBlock) (fun g hg => ?_)).mono (Nat.le_refl _) (Nat.le_trans hz hg3.size)
    rcases hv' with e | e
    · left; rw [← e]; exact hg
    · right
      rw [e] at hg
      injection hg with hg
      omega
theorem step_runF {P : Program} {ops : Array Oper} {o : Oper} {a : Act} {w w' : World} {v : Value} {K : Act → World → Prop} {Q : Exit → Act → World → Prop} {E : Prop} (hg : o.guard = none) (hr : (execOp a.eval o).run P w = .ok (.value v) w') (h : K (a.put o.dst v) w') :
    if Region.wanted o (yielded ops a.tmps) = true then Oper.wp P o a w K Q else E := by
  have hw : Region.wanted o (yielded ops a.tmps) = true := by simp [Region.wanted, hg]
  rw [if_pos hw]
  unfold Oper.wp
  rw [hr]
  exact h
/-- All functions of a program that is right. -/
def fnsR (t : Nd) : List Nd := if nodeR t = true then t :: funL t else []
theorem nodeR_facts {t : Nd} (h : nodeR t = true) : t.op = 1 ∧ t.size ≤ 200 := by
  simp only [nodeR, Bool.and_eq_true, decide_eq_true_eq] at h
  exact ⟨h.1, h.2.2.1⟩
theorem own_one {W : World} {g : Nat} {c0 c1 c2 c3 : Value} (h : Cells W g 29 #[c0, c1, c2, c3]) : W.ownsRow 0 29 4 (.slice (some ⟨g, 0, none⟩) 1 1) 1 [c0, c1, c2, c3] := ⟨rfl, .inr ⟨g, 1, #[c0, c1, c2, c3], rfl, Nat.zero_le _, h, Nat.le_refl _, by unfold maxLen; omega, rfl, rfl⟩⟩
theorem cpR_one {W : World} {t : Nd} {lo hi : Nat} {own : Option Nat} {c0 c1 c2 c3 : Value} (h : CpT W t lo hi (.agg #[c0, c1, c2, c3])) (hlh : lo ≤ hi) (ho : ∀ g, own = some g → hi ≤ g) : CpR W [t] lo hi [c0, c1, c2, c3] own := by
  refine ⟨rfl, fun _ => lo, fun _ => hi, fun i _ => ⟨Nat.le_refl _, hlh, Nat.le_refl _, fun g hg => .inr (ho g hg)⟩, fun i j hij hj => by simp at hj; omega, fun i t' ht => ?_⟩
  match i, ht with
  | 0, ht =>
    simp at ht
    subst ht
    exact ⟨c0, c1, c2, c3, rfl, rfl, rfl, rfl, h⟩
  | i + 1, ht => simp at ht
set_option maxHeartbeats 16000000 in
set_option maxRecDepth 100000 in
theorem spec_Funs_ok (t : Nd) (hbk : t.bulk ≤ 1048576) (w : World) (base : Nat) (v : Value) (hv : NdV w base t v) :
    Calls Tryz.prog 5 #[v] w fun e w' => ∃ v', e = .returned v' ∧ FunR w' w.heap.size w'.heap.size v' (fnsR t) ∧ Kept w w' := by
  obtain ⟨op, s, n, ao, l, cap, rfl⟩ := hv.four
  have b0 := Cells.new w 29 #[.int .i64 op, .string s, .int .i64 n, .slice ao l cap]
  have k0 : Kept w (w.alloc (.cells #[.int .i64 op, .string s, .int .i64 n, .slice ao l cap] 29)) := Kept.alloc (Below.refl _ _) _
  have hN := spec_NodeOk_ok t hbk _ base _ (hv.kept k0)
  have c0 := b0.cell 0; have c1 := b0.cell 1; have c2 := b0.cell 2; have c3 := b0.cell 3
  cases hr : nodeR t with
  | false =>
    rw [hr] at hN
    have HR : Hid (fnsR t = []) := by simp [Hid, fnsR, hr]
    clear hr hv
    go_enter Tryz.func5, Tryz.ntmps5
    go_wp2_with (go_at_call 14; refine hN.mono ?_; rintro e w1 ⟨rfl, hk1⟩)
    go_ret
    have hs1 := (k0.trans hk1).size
    exact ⟨_, rfl, by rw [HR.out]; exact (FunR.empty w1 w.heap.size hs1).mono (Nat.le_refl _) (by simp), (k0.trans hk1).alloc _⟩
  | true =>
    rw [hr] at hN
    obtain ⟨_, hsz⟩ := nodeR_facts hr
    have HR : Hid (fnsR t = [t] ++ funL t) := by simp [Hid, fnsR, hr]
    have HCp : Hid (∀ u, Kept w u → Calls Tryz.prog 15 #[.agg #[.int .i64 op, .string s, .int .i64 n, .slice ao l cap]] u fun e w' => ∃ v', e = .returned v' ∧ CpT w' t u.heap.size w'.heap.size v' ∧ Kept u w') := fun u hu => l12CopyV_ok _ t (Nat.le_refl _) u base _ (hv.kept hu) (by omega)
    have HFu : Hid (∀ u, Kept w u → Calls Tryz.prog 16 #[.agg #[.int .i64 op, .string s, .int .i64 n, .slice ao l cap]] u fun e w' => ∃ g c, e = .returned (.slice (some ⟨g, 0, none⟩) (funL t).length c) ∧ FunR w' u.heap.size w'.heap.size (.slice (some ⟨g, 0, none⟩) (funL t).length c) (funL t) ∧ Kept u w') := fun u hu => l14Funs_ok _ t (Nat.le_refl _) u base _ (hv.kept hu) (by omega)
    have hlen := funL_len t
    obtain ⟨fs, hfs⟩ : ∃ fs, funL t = fs := ⟨_, rfl⟩
    rw [hfs] at HR HFu hlen
    have HL : Hid (fs.length ≤ 200) := by rw [Hid]; omega
    have HB : Hid (∀ u, Kept (w.alloc (.cells #[.int .i64 op, .string s, .int .i64 n, .slice ao l cap] 29)) u → (u.cell? ⟨w.heap.size, 0, none⟩ = some (.int .i64 op) ∧ u.cell? ⟨w.heap.size, 1, none⟩ = some (.string s) ∧ u.cell? ⟨w.heap.size, 2, none⟩ = some (.int .i64 n) ∧ u.cell? ⟨w.heap.size, 3, none⟩ = some (.slice ao l cap)) ∧ Kept w u) := fun u hu => ⟨⟨(b0.kept hu).cell 0, (b0.kept hu).cell 1, (b0.kept hu).cell 2, (b0.kept hu).cell 3⟩, k0.trans hu⟩
    clear hr hv hlen hfs hsz
    go_enter Tryz.func5, Tryz.ntmps5
    go_upto_region 3 with (go_at_call 14; refine hN.mono ?_; rintro e w1 ⟨rfl, kq1⟩)
    have kd : Kept (w.alloc (.cells #[.int .i64 op, .string s, .int .i64 n, .slice ao l cap] 29)) w1.drew := kq1.drew
    obtain ⟨⟨c0, c1, c2, c3⟩, _⟩ := HB.out _ kd
    clear hN b0
    go_wp2_with fail
    go_region_law (first
      | (have _tk := hr5; refine step_runF rfl (exec_appendF rfl rfl rfl hr5) ?_)
      | (refine step_callV (by rfl) (by go_simp; done) (HCp.out _ (k0.trans kd)) ?_; rintro e w2 ⟨v2, rfl, hT2, kq2⟩; obtain ⟨op2, s2, n2, ao2, l2, cp2, rfl⟩ := hT2.four; refine ⟨_, rfl, ?_⟩; obtain ⟨⟨c0, c1, c2, c3⟩, _⟩ := HB.out _ (kd.trans kq2); obtain ⟨⟨d0, d1, d2, d3⟩, _⟩ := HB.out _ ((kd.trans kq2).alloc (.cells #[.int .i64 op2, .string s2, .int .i64 n2, .slice ao2 l2 cp2] 29)))
      | (refine step_callV (by rfl) (by go_simp; done) (HFu.out _ (k0.trans (kd.trans kq2))) ?_; rintro e w3 ⟨g3, cc3, rfl, hF3, kq3⟩; refine ⟨_, rfl, ?_⟩
         obtain ⟨v5, w5, hr5, hF5, hg5, hn5⟩ := funR_appG (lo := w1.drew.heap.size) (hi := w2.heap.size) (own_one (Cells.new w3 _ _)) (fun g hg => (by simp [Value.ownBlock] at hg; subst hg; have := kq3.size; have := kq2.size; refine ⟨by omega, by simp, .inr (Nat.le_refl _)⟩)) (cpR_one (hT2.stay (fun b _ _ h3 => ((kq3.alloc (.cells #[.int .i64 op2, .string s2, .int .i64 n2, .slice ao2 l2 cp2] 29)).block b h3))) kq2.size (fun g hg => (by simp [Value.ownBlock] at hg; subst hg; exact kq3.size))) (hF3.kept (Kept.alloc (Below.refl _ w3) _)) kq2.size (Nat.le_refl _) kq3.size (by simp) (by have := HL.out; simp; omega) 26)
      | (refine step_callV (by rfl) (by go_simp; done) (HFu.out _ (k0.trans ((kd.trans kq2).alloc _))) ?_; rintro e w3 ⟨g3, cc3, rfl, hF3, kq3⟩; refine ⟨_, rfl, ?_⟩
         obtain ⟨v5, w5, hr5, hF5, hg5, hn5⟩ := funR_appG (lo := w1.drew.heap.size) (hi := w2.heap.size) (own_one ((Cells.new w2 _ _).kept kq3)) (fun g hg => (by simp [Value.ownBlock] at hg; subst hg; have y3 := kq3.size; have y2 := kq2.size; simp at y3 y2; refine ⟨by simpa using y2, by omega, .inl (by simp)⟩)) (cpR_one (hT2.stay (fun b _ _ h3 => (kq3.block b (by simp; omega)).trans ((Kept.alloc (Below.refl _ w2) (.cells #[.int .i64 op2, .string s2, .int .i64 n2, .slice ao2 l2 cp2] 29) : Kept w2 _).block b h3))) kq2.size (fun g hg => (by simp [Value.ownBlock] at hg; subst hg; exact Nat.le_refl _))) hF3 kq2.size (by simp) kq3.size (Nat.le_refl _) (by have := HL.out; simp; omega) 26))
    all_goals (
      obtain ⟨_, kw1⟩ := HB.out _ kd
      have zs1 := kw1.size
      have zs2 := kq2.size
      have zs3 := kq3.size
      have kA := (kw1.trans kq2).alloc (.cells #[.int .i64 op2, .string s2, .int .i64 n2, .slice ao2 l2 cp2] 29)
      obtain ⟨ao5, c5, e5⟩ := hF5.slice
      subst e5
      go_simp
      go_wp2_with fail
      go_ret
      refine ⟨_, rfl, by rw [HR.out]; exact hF5.mono (by simpa using zs1) (Nat.le_refl _), ?_⟩
      first
        | exact Below.grown (kA.trans kq3) hg5 (Nat.le_trans kA.size zs3) (fun j e => by simp [Value.ownBlock] at e; subst e; simp at zs1 zs2; omega)
        | exact Below.grown (((kw1.trans kq2).trans kq3).alloc (.cells #[.int .i64 op2, .string s2, .int .i64 n2, .slice ao2 l2 cp2] 29)) hg5 (by simp at zs1 zs2 ⊢; omega) (fun j e => by simp [Value.ownBlock] at e; subst e; simp at zs1 zs2; omega))
end Go.Proofs.YtlinbkgeahgkjaaGreatDoor
