/-
  The contracts of slices.Clone over nodes, and of copied (chapter 14): the same tree, each row of it in memory of its own.
-/
import Derived.Maps.AppendAt
import Derived.Laws.Cover3
import Derived.OwnWalk
import Derived.Test.YtlinbkgeahgkjaaGreatDoorGrpCp
import Derived.Test.YtlinbkgeahgkjaaGreatDoorSeqR
namespace Go.Proofs.YtlinbkgeahgkjaaGreatDoor
open Go.RowKit
set_option linter.unusedSimpArgs false
set_option linter.unusedVariables false

theorem wpList_runC {P : Program} {ops : Array Oper} {rest : List Oper} {o : Oper} {a : Act} {w w' : World} {v : Value} {Q : Exit → Act → World → Prop} (hgd : o.guard = none) (h : (execOp a.eval o).run P w = .ok (.value v) w') (k : wpList P ops Q rest (a.put o.dst v) w') : wpList P ops Q (o :: rest) a w :=
  wpList_plain hgd fun _ hK => by
    unfold Oper.wp
    rw [h]
    exact hK _ _ k
theorem exec_appendC {P : Program} {o : Oper} {ev : Operand → Value} {s x : Operand} {t1 t2 : TypeId} {u w' : World} {v sv xv : Value} (ho : o.op = .call { callee := .builtin .append, args := #[s, x], argTypes := #[t1, t2] }) (hs : ev s = sv) (hx : ev x = xv) (hr : (Builtin.append_ #[t1, t2] o.type #[sv, xv]).run P u = .ok v w') : (execOp ev o).run P u = .ok (.value v) w' := by
  unfold execOp
  simp only [ho, resolve, invoke, builtin, Sem.run_bind, Sem.run_pure, Result.andThen_ok, List.map_toArray, List.map_cons, List.map_nil, hs, hx, hr]
theorem infoNc : (Tryz.prog.info? 29).map (fun i => (i.zero, i.size, i.bytes)) = some (some (.agg #[.int .i64 0, .string ⟨#[]⟩, .int .i64 0, .slice none 0 0]), 4, 56) := by kernel_rfl
theorem run_eql_nodes_nil (W : World) (a : Option Addr) (l c : Nat) : (binOp .eql 26 (.slice a l c) (.slice none 0 0)).run Tryz.prog W = .ok (.bool a.isNone) W := by
  simp [binOp, run_equal_slice_nil (P := Tryz.prog) W 26 29 a l c Tryz.underlying26]
attribute [local go_sem] run_eql_nodes_nil
/-- Nodes from the k-th on, as they lay. -/
def RestC (W w : World) (base g : Nat) (ks : List Nd) (k : Nat) : Prop := ∀ j t, k ≤ j → ks[j]? = some t → ∃ c0 c1 c2 c3, W.cell? ⟨g, j * 4, none⟩ = some c0 ∧ W.cell? ⟨g, j * 4 + 1, none⟩ = some c1 ∧ W.cell? ⟨g, j * 4 + 2, none⟩ = some c2 ∧ W.cell? ⟨g, j * 4 + 3, none⟩ = some c3 ∧ NdV w base t (.agg #[c0, c1, c2, c3])
theorem RestC.kept {W W' w : World} {base g : Nat} {ks : List Nd} {k : Nat} (h : RestC W w base g ks k) (hk : Kept W W') : RestC W' w base g ks k := by
  intro j t hj ht
  obtain ⟨c0, c1, c2, c3, h0, h1, h2, h3, hv⟩ := h j t hj ht
  exact ⟨c0, c1, c2, c3, kept_cell hk h0, kept_cell hk h1, kept_cell hk h2, kept_cell hk h3, hv⟩
theorem RestC.next {W w : World} {base g : Nat} {ks : List Nd} {k : Nat} {cs : Array Value} (h : RestC W w base g ks k) (hc : Cells W g 29 cs) (d0 d1 d2 d3 : Value) : RestC ((((W.setCell ⟨g, k * 4, none⟩ d0).setCell ⟨g, k * 4 + 1, none⟩ d1).setCell ⟨g, k * 4 + 2, none⟩ d2).setCell ⟨g, k * 4 + 3, none⟩ d3) w base g ks (k + 1) := by
  intro j t hj ht
  obtain ⟨c0, c1, c2, c3, h0, h1, h2, h3, hv⟩ := h j t (by omega) ht
  have z := (((hc.set (k * 4) d0).set (k * 4 + 1) d1).set (k * 4 + 2) d2).set (k * 4 + 3) d3
  have key : ∀ r c, r < 4 → W.cell? ⟨g, j * 4 + r, none⟩ = some c → ((((W.setCell ⟨g, k * 4, none⟩ d0).setCell ⟨g, k * 4 + 1, none⟩ d1).setCell ⟨g, k * 4 + 2, none⟩ d2).setCell ⟨g, k * 4 + 3, none⟩ d3).cell? ⟨g, j * 4 + r, none⟩ = some c := fun r c hr e => by
    rw [hc.cell] at e
    rw [z.cell, Array.getElem?_setIfInBounds_ne (by omega), Array.getElem?_setIfInBounds_ne (by omega), Array.getElem?_setIfInBounds_ne (by omega), Array.getElem?_setIfInBounds_ne (by omega)]
    exact e
  exact ⟨c0, c1, c2, c3, key 0 c0 (by omega) h0, key 1 c1 (by omega) h1, key 2 c2 (by omega) h2, key 3 c3 (by omega) h3, hv⟩
set_option maxHeartbeats 8000000 in
set_option maxRecDepth 100000 in
theorem cloneN_ok (w0 w : World) (hk0 : Kept w0 w) (base : Nat) (ao : Option Addr) (cap : Nat) (ks : List Nd) (hks : ks = [] ∨ ∃ b off, ao = some ⟨b, off, none⟩ ∧ base ≤ b ∧ NdsV w0 base b off ks) (hl : ks.length ≤ 1048576) :
    Calls Tryz.prog 31 #[.slice ao ks.length cap] w fun e w' => ∃ va vc, e = .returned (.slice va ks.length vc) ∧ (ks = [] ∨ ∃ g, va = some ⟨g, 0, none⟩ ∧ w.heap.size ≤ g ∧ RowC w' g ks 0 w'.heap.size ∧ RestC w' w0 base g ks 0) ∧ Kept w w' := by
  cases ao with
  | none =>
    have e0 : ks = [] := by
      rcases hks with h | ⟨b, off, e, _⟩
      · exact h
      · cases e
    subst e0
    go_enter Tryz.func31, Tryz.ntmps31
    go_wp2_with fail
    go_ret
    exact ⟨⟨none, 0, rfl⟩, Below.refl _ _⟩
  | some ad =>
    obtain ⟨i0, hi, hz0, hz1, hz2⟩ := info_parts infoNc
    obtain ⟨news, hnl, hnc, hno, hnk⟩ : ∃ news : List Value, news.length = ks.length * 4 ∧ (∀ j u, news[j]? = some u → w.cell? (ad.add j) = some u) ∧ (∀ u ∈ news, u.oneCell' = true) ∧ (∀ k x, ks[k]? = some x → ∃ c0 c1 c2 c3, news[k * 4]? = some c0 ∧ news[k * 4 + 1]? = some c1 ∧ news[k * 4 + 2]? = some c2 ∧ news[k * 4 + 3]? = some c3 ∧ NdV w0 base x (.agg #[c0, c1, c2, c3])) := by
      rcases hks with rfl | ⟨b, off, e, hb, hn⟩
      · exact ⟨[], rfl, by simp, by simp, by simp⟩
      · injection e with e
        subst e
        have cell : ∀ j, j < ks.length * 4 → ∃ u, w.cell? ⟨b, off + j, none⟩ = some u ∧ u.oneCell' = true := by
          intro j hj
          obtain ⟨x, hx⟩ : ∃ x, ks[j / 4]? = some x := ⟨_, List.getElem?_eq_getElem (by omega)⟩
          obtain ⟨c0, c1, c2, c3, h0, h1, h2, h3, hv⟩ := hn.at hx
          obtain ⟨op, s, n, a2, l2, cp2, ev⟩ := hv.four
          simp at ev
          obtain ⟨rfl, rfl, rfl, rfl⟩ := ev
          rcases (show j = j / 4 * 4 ∨ j = j / 4 * 4 + 1 ∨ j = j / 4 * 4 + 2 ∨ j = j / 4 * 4 + 3 by omega) with h | h | h | h
          · exact ⟨_, by rw [h]; exact kept_cell hk0 h0, rfl⟩
          · exact ⟨_, by rw [h, ← Nat.add_assoc]; exact kept_cell hk0 h1, rfl⟩
          · exact ⟨_, by rw [h, ← Nat.add_assoc]; exact kept_cell hk0 h2, rfl⟩
          · exact ⟨_, by rw [h, ← Nat.add_assoc]; exact kept_cell hk0 h3, rfl⟩
        refine ⟨(List.range (ks.length * 4)).map (fun j => (w.cell? ⟨b, off + j, none⟩).getD undef), by simp, fun j u hj => ?_, fun u hu => ?_, fun k x hx => ?_⟩
        · rw [List.getElem?_map] at hj
          obtain ⟨j', hj', e⟩ := Option.map_eq_some_iff.1 hj
          obtain ⟨hlt, rfl⟩ := List.getElem?_eq_some_iff.1 hj'
          simp at hlt
          simp only [List.getElem_range] at e
          obtain ⟨u', h1, h2⟩ := cell j hlt
          rw [h1] at e
          simp at e
          subst e
          rw [Addr.add_lit]
          exact h1
        · obtain ⟨j, hj, e⟩ := List.mem_map.1 hu
          obtain ⟨u', h1, h2⟩ := cell j (by simpa using hj)
          rw [h1] at e
          simp at e
          subst e
          exact h2
        · have hlt := (List.getElem?_eq_some_iff.1 hx).1
          obtain ⟨c0, c1, c2, c3, h0, h1, h2, h3, hv⟩ := hn.at hx
          have key : ∀ r c, r < 4 → w.cell? ⟨b, off + k * 4 + r, none⟩ = some c → ((List.range (ks.length * 4)).map (fun j => (w.cell? ⟨b, off + j, none⟩).getD undef))[k * 4 + r]? = some c := fun r c hr e => by
            rw [List.getElem?_map, List.getElem?_range (by omega)]
            simp only [Option.map_some, ← Nat.add_assoc, e, Option.getD_some]
          exact ⟨c0, c1, c2, c3, key 0 c0 (by omega) (kept_cell hk0 h0), key 1 c1 (by omega) (kept_cell hk0 h1), key 2 c2 (by omega) (kept_cell hk0 h2), key 3 c3 (by omega) (kept_cell hk0 h3), hv⟩
    have hrow0 : (w.alloc (.cells #[] 29)).ownsRow 0 29 4 (.slice (some ⟨w.heap.size, 0, none⟩) 0 0) 0 [] := ⟨rfl, .inr ⟨w.heap.size, 0, #[], rfl, Nat.zero_le _, heap_alloc_new w _, Nat.le_refl _, by unfold maxLen; omega, rfl, rfl⟩⟩
    have kA : Kept w (w.alloc (.cells #[] 29)) := Kept.alloc (Below.refl _ _) _
    obtain ⟨v', w2, hr, hown, hg, hnil, hob⟩ := run_append_own_at (P := Tryz.prog) (w.alloc (.cells #[] 29)) 0 26 26 29 i0 _ 4 56 Tryz.underlying26 hi hz0 hz1 hz2 rfl (by decide) _ _ _ hrow0 ad ks.length cap news hnl (fun j u hu => kept_cell kA (hnc j u hu)) hno (by unfold maxLen; omega) (by omega) (Nat.zero_le _)
    obtain ⟨g, c, rfl, hgb⟩ : ∃ g c, v' = .slice (some ⟨g, 0, none⟩) ks.length c ∧ w.heap.size ≤ g := by
      obtain ⟨_, ⟨e, h0⟩ | ⟨g, c, cur, e, hg0, hgg, _⟩⟩ := hown
      · have := (hnil.1 e).1; cases this
      · refine ⟨g, c, by rw [e]; simp, ?_⟩
        rw [e] at hob
        simp [Value.ownBlock] at hob
        omega
    have HF : Hid ((ks = [] ∨ ∃ g', (some ⟨g, 0, none⟩ : Option Addr) = some ⟨g', 0, none⟩ ∧ w.heap.size ≤ g' ∧ RowC w2 g' ks 0 w2.heap.size ∧ RestC w2 w0 base g' ks 0) ∧ Kept w w2) := by
      refine ⟨.inr ⟨g, rfl, hgb, ?_, ?_⟩, Below.grown kA hg kA.size (fun j e => by simp [Value.ownBlock] at e; omega)⟩
      · obtain ⟨_, ⟨e, _⟩ | ⟨g', c', cur, e, _, hgg, h1, h2, h3, h4⟩⟩ := hown
        · cases e
        · simp at e
          obtain ⟨rfl, _⟩ := e
          exact ⟨cur, hgg, by omega, (Array.getElem?_eq_some_iff.1 hgg).1, fun _ => 0, fun _ => 0, fun i hi => by omega, fun i j _ hj => by omega, fun j t hj => by omega⟩
      · obtain ⟨_, ⟨e, _⟩ | ⟨g', c', cur, e, _, hgg, h1, h2, h3, h4⟩⟩ := hown
        · cases e
        · simp at e
          obtain ⟨rfl, _⟩ := e
          intro j t _ ht
          obtain ⟨c0, c1, c2, c3, n0, n1, n2, n3, hv⟩ := hnk j t ht
          have cell : ∀ i c, news[i]? = some c → w2.cell? ⟨g, i, none⟩ = some c := fun i c hc => by
            rw [List.nil_append] at h4
            rw [← h4, List.getElem?_take] at hc
            split at hc
            · simp [World.cell?, hgg]; simpa using hc
            · cases hc
          exact ⟨c0, c1, c2, c3, cell _ _ n0, cell _ _ n1, cell _ _ n2, cell _ _ n3, hv⟩
    have hr' : (Builtin.append_ #[26, 26] 26 #[.slice (some ⟨w.heap.size, 0, none⟩) 0 0, .slice (some ad) ks.length cap]).run Tryz.prog (w.alloc (.cells #[] 29)) = .ok (.slice (some ⟨g, 0, none⟩) ks.length c) w2 := hr
    clear hks hnl hnc hno hnk hrow0 kA hr hown hg hnil hob hgb
    go_enter Tryz.func31, Tryz.ntmps31
    go_wp2_with (at_builtin; refine wpList_runC rfl (exec_appendC rfl rfl rfl hr') ?_)
    go_ret
    exact ⟨_, _, rfl, HF.out.1, HF.out.2⟩
def cpdR (W : World) (B g L vc k : Nat) (nv : Value) (x : Nd) (j : Nat) (vs : Nat → Value) (u : World) : Prop :=
  match j, vs, u with
  | 0, vs, _ => vs 0 = .pointer (some ⟨B, 3, none⟩)
  | 1, vs, _ => vs 1 = .slice (some ⟨g, 0, none⟩) L vc
  | 2, vs, _ => vs 2 = .int .i64 (k : Nat)
  | 3, vs, _ => vs 3 = .pointer (some ⟨B, 3, none⟩)
  | 4, vs, _ => vs 4 = .slice (some ⟨g, 0, none⟩) L vc
  | 5, vs, _ => vs 5 = .int .i64 (k : Nat)
  | 6, vs, _ => vs 6 = .pointer (some ⟨g, k * 4, none⟩)
  | 7, vs, _ => vs 7 = nv
  | 8, vs, u => ∃ lo hi, CpG u x lo hi (vs 8) ∧ W.heap.size ≤ lo ∧ lo ≤ hi ∧ hi ≤ u.heap.size
  | _, _, _ => True
def cpdT (W : World) (B g L vc k : Nat) (nv : Value) (x : Nd) : Told := ⟨cpdR W B g L vc k nv x, fun u => Kept W u⟩
theorem cpdR_vs {W : World} {B g L vc k : Nat} {nv : Value} {x : Nd} {j : Nat} {vs vs' : Nat → Value} {u : World} (e : vs j = vs' j) (h : cpdR W B g L vc k nv x j vs u) : cpdR W B g L vc k nv x j vs' u := by
  match j, e, h with
  | 0, e, h => simp only [cpdR] at h ⊢; rw [← e]; exact h
  | 1, e, h => simp only [cpdR] at h ⊢; rw [← e]; exact h
  | 2, e, h => simp only [cpdR] at h ⊢; rw [← e]; exact h
  | 3, e, h => simp only [cpdR] at h ⊢; rw [← e]; exact h
  | 4, e, h => simp only [cpdR] at h ⊢; rw [← e]; exact h
  | 5, e, h => simp only [cpdR] at h ⊢; rw [← e]; exact h
  | 6, e, h => simp only [cpdR] at h ⊢; rw [← e]; exact h
  | 7, e, h => simp only [cpdR] at h ⊢; rw [← e]; exact h
  | 8, e, h => simp only [cpdR] at h ⊢; rw [← e]; exact h
  | _ + 9, _, _ => trivial
theorem cpdT_own {ops : Array Oper} (W : World) (B g L vc k : Nat) (nv : Value) (x : Nd) : (cpdT W B g L vc k nv x).own ops := fun j vs vs' u h hR => cpdR_vs (h j (.inl rfl)) hR
theorem cpdR_kept {W : World} {B g L vc k : Nat} {nv : Value} {x : Nd} {u u' : World} (hk : Kept u u') (j : Nat) (vs : Nat → Value) (h : cpdR W B g L vc k nv x j vs u) : cpdR W B g L vc k nv x j vs u' := by
  match j, h with
  | 0, h => exact h
  | 1, h => exact h
  | 2, h => exact h
  | 3, h => exact h
  | 4, h => exact h
  | 5, h => exact h
  | 6, h => exact h
  | 7, h => exact h
  | 8, h => exact (by obtain ⟨lo, hi, h1, h2, h3, h4⟩ := h; exact ⟨lo, hi, h1.kept hk, h2, h3, Nat.le_trans h4 hk.size⟩)
  | _ + 9, _ => trivial
/-- Within copied: the boxes of the node and of the result, and how far its row is turned. -/
structure CpdS (w wr : World) (base : Nat) (op n : Int) (s : ByteArray) (va : Option Addr) (vc : Nat) (ks : List Nd) (k : Nat) : Prop where
  kept : Kept w wr
  box : Cells wr w.heap.size 29 #[.int .i64 op, .string s, .int .i64 n, .slice va ks.length vc]
  res : Cells wr (w.heap.size + 1) 29 #[.int .i64 0, .string ⟨#[]⟩, .int .i64 0, .slice none 0 0]
  row : ks = [] ∨ ∃ g, va = some ⟨g, 0, none⟩ ∧ w.heap.size + 2 ≤ g ∧ RowC wr g ks k wr.heap.size ∧ RestC wr w base g ks k
theorem CpdS.on {w wr wr' : World} {base : Nat} {op n : Int} {s : ByteArray} {va : Option Addr} {vc : Nat} {ks : List Nd} {k : Nat} (h : CpdS w wr base op n s va vc ks k) (hk : Kept wr wr') : CpdS w wr' base op n s va vc ks k :=
  ⟨h.kept.trans hk, h.box.kept hk, h.res.kept hk, h.row.imp id fun ⟨g, e, hg, h1, h2⟩ => ⟨g, e, hg, h1.on hk hk.size, h2.kept hk⟩⟩
def CpdOk (t : Nd) : Prop := ∀ (w : World) (base : Nat) (v : Value), NdV w base t v → t.size ≤ 1048576 →
    Calls Tryz.prog 20 #[v] w fun e w' => ∃ v', e = .returned v' ∧ CpG w' t w.heap.size w'.heap.size v' ∧ Kept w w'
set_option maxHeartbeats 16000000 in
set_option maxRecDepth 100000 in
theorem copied_ok : ∀ (m : Nat) (t : Nd), t.size ≤ m → CpdOk t := by
  intro m
  induction m with
  | zero =>
    intro t ht
    have := t.size_pos
    omega
  | succ m ih =>
    intro t ht w base v hv hsz
    obtain ⟨op, s, n, ks⟩ := t
    rw [NdV] at hv
    obtain ⟨ao, cap, rfl, hml, hks⟩ := hv
    simp only [Nd.size] at ht hsz
    have hll := len_sizes ks
    have HIH : Hid (∀ (t : Nd), t.size ≤ m → CpdOk t) := ih
    have HML : Hid (s.size ≤ maxLen ∧ ks.length ≤ maxLen) := hml
    have b0 := (Cells.new w 29 #[.int .i64 op, .string s, .int .i64 n, .slice ao ks.length cap]).alloc (.cells #[.int .i64 0, .string ⟨#[]⟩, .int .i64 0, .slice none 0 0] 29)
    have b1 := Cells.new (w.alloc (.cells #[.int .i64 op, .string s, .int .i64 n, .slice ao ks.length cap] 29)) 29 #[.int .i64 0, .string ⟨#[]⟩, .int .i64 0, .slice none 0 0]
    simp only [World.size_alloc] at b1
    have k0 : Kept w ((w.alloc (.cells #[.int .i64 op, .string s, .int .i64 n, .slice ao ks.length cap] 29)).alloc (.cells #[.int .i64 0, .string ⟨#[]⟩, .int .i64 0, .slice none 0 0] 29)) := (Kept.alloc (Below.refl _ _) _).alloc _
    have hs0 : ((w.alloc (.cells #[.int .i64 op, .string s, .int .i64 n, .slice ao ks.length cap] 29)).alloc (.cells #[.int .i64 0, .string ⟨#[]⟩, .int .i64 0, .slice none 0 0] 29)).heap.size = w.heap.size + 2 := by simp
    have hC := cloneN_ok w _ k0 base ao cap ks hks (by omega)
    rw [hs0] at hC
    have c3 := b0.cell 3
    have HB0 : Hid _ := And.intro b0 (And.intro b1 k0)
    clear hks hml ih b0 b1 k0 hs0
    go_enter Tryz.func20, Tryz.ntmps20
    go_wp2_with fail
    refine hC.mono ?_
    rintro e w3 ⟨va, vc, rfl, hR3, hk3⟩
    obtain ⟨B0, B1, K0⟩ := HB0.out
    have x0 := B0.kept hk3
    have f3 := x0.frozen 3
    have x03 := x0.cell 3
    have l0 := x0.lt
    have hz3 := (K0.trans hk3).size
    have hz2 := (B1.kept hk3).lt
    have HS0 : Hid (CpdS w (w3.setCell ⟨w.heap.size, 3, none⟩ (.slice va ks.length vc)) base op n s va vc ks 0) := by
      refine ⟨(K0.trans hk3).set (Nat.le_refl _) _, by simpa using x0.set 3 (.slice va ks.length vc), (B1.kept hk3).other (by simp) _, hR3.imp id ?_⟩
      rintro ⟨g, e, hg, ⟨cs, h1, h2, h3, _⟩, h5⟩
      refine ⟨g, e, hg, ⟨cs, h1.other (by simp; omega) _, h2, by simpa using h3, fun _ => 0, fun _ => 0, fun i hi => by omega, fun i j _ hj => by omega, fun j t hj => by omega⟩, fun j t hj ht => ?_⟩
      obtain ⟨c0, c1, c2, c3, e0, e1, e2, e3, hv⟩ := h5 j t hj ht
      have key : ∀ i c, w3.cell? ⟨g, i, none⟩ = some c → (w3.setCell ⟨w.heap.size, 3, none⟩ (.slice va ks.length vc)).cell? ⟨g, i, none⟩ = some c := fun i c h => by
        rw [h1.cell] at h
        rw [(h1.other (p := ⟨w.heap.size, 3, none⟩) (by simp; omega) _).cell]
        exact h
      exact ⟨c0, c1, c2, c3, key _ _ e0, key _ _ e1, key _ _ e2, key _ _ e3, hv⟩
    clear hR3 B0 B1 K0 x0 hC HB0 hk3
    go_wp2_with fail
    go_loopw [11] (fun iv wr => ∃ (k : Nat), iv = .int .i64 k ∧ k ≤ ks.length ∧ Hid (CpdS w wr base op n s va vc ks k)) (fun i _ => ks.length - (intOf i).toNat)
    case atStart => exact ⟨0, rfl, Nat.zero_le _, HS0.out⟩
    case round =>
      obtain ⟨k, rfl, hk, hR⟩ := hrel
      clear HS0 x03 f3 l0 hz3 hz2
      by_cases hlt : k < ks.length
      · obtain ⟨x, hx⟩ : ∃ x, ks[k]? = some x := ⟨ks[k], List.getElem?_eq_getElem hlt⟩
        have q1 : (k : Int) < (ks.length : Int) := by omega
        have q2 : (k : Int) + 1 ≤ 9223372036854775807 := by omega
        have hxs := size_mem hx
        obtain ⟨g, rfl, hg, hRow, hRest⟩ : ∃ g, va = some ⟨g, 0, none⟩ ∧ w.heap.size + 2 ≤ g ∧ RowC wr g ks k wr.heap.size ∧ RestC wr w base g ks k := by
          rcases hR.out.row with h | h
          · rw [h] at hlt; simp at hlt
          · exact h
        obtain ⟨c0, c1, c2, c3, e0, e1, e2, e3, hv⟩ := hRest k x (Nat.le_refl _) hx
        obtain ⟨op1, s1, n1, a1, l1, cp1, ev⟩ := hv.four
        simp at ev
        obtain ⟨rfl, rfl, rfl, rfl⟩ := ev
        obtain ⟨cs, hcs, hcz, _⟩ := id hRow
        have bx := hR.out.box
        have HX : Hid (ks[k]? = some x) := hx
        have HLo : Hid _ := hR.out
        have HC : Hid (∀ u, Kept wr u → Calls Tryz.prog 20 #[.agg #[.int .i64 op1, .string s1, .int .i64 n1, .slice a1 l1 cp1]] u fun e w' => ∃ v', e = .returned v' ∧ CpG w' x u.heap.size w'.heap.size v' ∧ Kept u w') := fun u hu => HIH.out x (by omega) u base _ (hv.kept (hR.out.kept.trans hu)) (by omega)
        have HS : Hid (∀ u, Kept wr u → u.cell? ⟨w.heap.size, 3, none⟩ = some (.slice (some ⟨g, 0, none⟩) ks.length vc) ∧ u.cell? ⟨g, k * 4, none⟩ = some (.int .i64 op1) ∧ u.cell? ⟨g, k * 4 + 1, none⟩ = some (.string s1) ∧ u.cell? ⟨g, k * 4 + 2, none⟩ = some (.int .i64 n1) ∧ u.cell? ⟨g, k * 4 + 3, none⟩ = some (.slice a1 l1 cp1)) := fun u hu => ⟨by simpa using (bx.kept hu).cell 3, kept_cell hu e0, kept_cell hu e1, kept_cell hu e2, kept_cell hu e3⟩
        have HRw : Hid (RowC wr g ks k wr.heap.size ∧ RestC wr w base g ks k) := ⟨hRow, hRest⟩
        have HCs : Hid (∀ u, Kept wr u → Cells u g 29 cs) := fun u hu => hcs.kept hu
        have HZ : Hid (k * 4 + 3 < cs.size ∧ w.heap.size + 2 ≤ g ∧ g < wr.heap.size) := ⟨by omega, hg, hcs.lt⟩
        have HBx : Hid (∀ u, Kept wr u → ∀ d0 d1 d2 d3 : Value, ((((u.setCell ⟨g, k * 4, none⟩ d0).setCell ⟨g, k * 4 + 1, none⟩ d1).setCell ⟨g, k * 4 + 2, none⟩ d2).setCell ⟨g, k * 4 + 3, none⟩ d3).cell? ⟨w.heap.size, 3, none⟩ = some (.slice (some ⟨g, 0, none⟩) ks.length vc)) := fun u hu d0 d1 d2 d3 => by
          have hne : w.heap.size ≠ g := by omega
          simpa using (((((bx.kept hu).other (p := ⟨g, k * 4, none⟩) hne d0).other (p := ⟨g, k * 4 + 1, none⟩) hne d1).other (p := ⟨g, k * 4 + 2, none⟩) hne d2).other (p := ⟨g, k * 4 + 3, none⟩) hne d3).cell 3
        have kd0 : Kept wr wr.drew := (Below.refl _ wr).drew
        obtain ⟨m0, m1, m2, m3, m4⟩ := HS.out _ kd0
        clear hx hxs hRow hRest e0 e1 e2 e3 hv hcs hcz bx hg
        go_wp2_with fail
        obtain ⟨nv, hnv⟩ : ∃ nv, Value.agg #[.int .i64 op1, .string s1, .int .i64 n1, .slice a1 l1 cp1] = nv := ⟨_, rfl⟩
        rw [hnv] at HC
        have HS : Hid (∀ u, Kept wr.drew u → u.cell? ⟨w.heap.size, 3, none⟩ = some (.slice (some ⟨g, 0, none⟩) ks.length vc) ∧ u.cell? ⟨g, k * 4, none⟩ = some (.int .i64 op1) ∧ u.cell? ⟨g, k * 4 + 1, none⟩ = some (.string s1) ∧ u.cell? ⟨g, k * 4 + 2, none⟩ = some (.int .i64 n1) ∧ u.cell? ⟨g, k * 4 + 3, none⟩ = some (.slice a1 l1 cp1)) := fun u hu => HS.out u (kd0.trans hu)
        have HC : Hid (∀ u, Kept wr.drew u → Calls Tryz.prog 20 #[nv] u fun e w' => ∃ v', e = .returned v' ∧ CpG w' x u.heap.size w'.heap.size v' ∧ Kept u w') := fun u hu => HC.out u (kd0.trans hu)
        refine wp_region_told 9 (cpdT wr.drew w.heap.size g ks.length vc k nv x) (fun _ _ => false) (by kernel_rfl) (by kernel_rfl) (by decide) (by kernel_rfl) (by kernel_rfl) (cpdT_own _ _ _ _ _ _ _ _) (Below.refl _ _) ?_ ?_
        · intro i hi vs
          rcases (show i = 0 ∨ i = 1 ∨ i = 2 ∨ i = 3 ∨ i = 4 ∨ i = 5 ∨ i = 6 ∨ i = 7 ∨ i = 8 by omega) with rfl | rfl | rfl | rfl | rfl | rfl | rfl | rfl | rfl
          · refine ⟨_, rfl, fun u hu hd => .inl ⟨.pointer (some ⟨w.heap.size, 3, none⟩), u, ?_, hu, by simp [cpdT, cpdR, vsX], (fun j _ _ _ h => h)⟩⟩
            simp only [frR, dstAt, List.getElem?_toArray, List.getElem?_cons_zero, List.getElem?_cons_succ, Option.bind_some, Act.put, List.setIfInBounds_toArray, List.set_cons_zero, List.set_cons_succ]; go_simp; first | done | exact rfl
          · refine ⟨_, rfl, fun u hu hd => .inl ⟨.slice (some ⟨g, 0, none⟩) ks.length vc, u, ?_, hu, by simp [cpdT, cpdR, vsX], (fun j _ _ _ h => h)⟩⟩
            have e0 : vs 0 = .pointer (some ⟨w.heap.size, 3, none⟩) := hd 0 (by kernel_rfl)
            obtain ⟨m0, m1, m2, m3, m4⟩ := HS.out u hu
            simp only [frR, dstAt, List.getElem?_toArray, List.getElem?_cons_zero, List.getElem?_cons_succ, Option.bind_some, Act.put, List.setIfInBounds_toArray, List.set_cons_zero, List.set_cons_succ]; simp only [e0]; go_simp; first | done | exact rfl
          · refine ⟨_, rfl, fun u hu hd => .inl ⟨.int .i64 (k : Nat), u, ?_, hu, by simp [cpdT, cpdR, vsX], (fun j _ _ _ h => h)⟩⟩
            simp only [frR, dstAt, List.getElem?_toArray, List.getElem?_cons_zero, List.getElem?_cons_succ, Option.bind_some, Act.put, List.setIfInBounds_toArray, List.set_cons_zero, List.set_cons_succ]; go_simp; first | done | exact rfl
          · refine ⟨_, rfl, fun u hu hd => .inl ⟨.pointer (some ⟨w.heap.size, 3, none⟩), u, ?_, hu, by simp [cpdT, cpdR, vsX], (fun j _ _ _ h => h)⟩⟩
            simp only [frR, dstAt, List.getElem?_toArray, List.getElem?_cons_zero, List.getElem?_cons_succ, Option.bind_some, Act.put, List.setIfInBounds_toArray, List.set_cons_zero, List.set_cons_succ]; go_simp; first | done | exact rfl
          · refine ⟨_, rfl, fun u hu hd => .inl ⟨.slice (some ⟨g, 0, none⟩) ks.length vc, u, ?_, hu, by simp [cpdT, cpdR, vsX], (fun j _ _ _ h => h)⟩⟩
            have e3 : vs 3 = .pointer (some ⟨w.heap.size, 3, none⟩) := hd 3 (by kernel_rfl)
            obtain ⟨m0, m1, m2, m3, m4⟩ := HS.out u hu
            simp only [frR, dstAt, List.getElem?_toArray, List.getElem?_cons_zero, List.getElem?_cons_succ, Option.bind_some, Act.put, List.setIfInBounds_toArray, List.set_cons_zero, List.set_cons_succ]; simp only [e3]; go_simp; first | done | exact rfl
          · refine ⟨_, rfl, fun u hu hd => .inl ⟨.int .i64 (k : Nat), u, ?_, hu, by simp [cpdT, cpdR, vsX], (fun j _ _ _ h => h)⟩⟩
            simp only [frR, dstAt, List.getElem?_toArray, List.getElem?_cons_zero, List.getElem?_cons_succ, Option.bind_some, Act.put, List.setIfInBounds_toArray, List.set_cons_zero, List.set_cons_succ]; go_simp; first | done | exact rfl
          · refine ⟨_, rfl, fun u hu hd => .inl ⟨.pointer (some ⟨g, k * 4, none⟩), u, ?_, hu, by simp [cpdT, cpdR, vsX], (fun j _ _ _ h => h)⟩⟩
            have e4 : vs 4 = .slice (some ⟨g, 0, none⟩) ks.length vc := hd 4 (by kernel_rfl)
            have e5 : vs 5 = .int .i64 (k : Nat) := hd 5 (by kernel_rfl)
            simp only [frR, dstAt, List.getElem?_toArray, List.getElem?_cons_zero, List.getElem?_cons_succ, Option.bind_some, Act.put, List.setIfInBounds_toArray, List.set_cons_zero, List.set_cons_succ]; simp only [e4, e5]; go_simp; first | done | exact rfl
          · refine ⟨_, rfl, fun u hu hd => .inl ⟨nv, u, ?_, hu, by simp [cpdT, cpdR, vsX], (fun j _ _ _ h => h)⟩⟩
            have e6 : vs 6 = .pointer (some ⟨g, k * 4, none⟩) := hd 6 (by kernel_rfl)
            obtain ⟨m0, m1, m2, m3, m4⟩ := HS.out u hu
            simp only [frR, dstAt, List.getElem?_toArray, List.getElem?_cons_zero, List.getElem?_cons_succ, Option.bind_some, Act.put, List.setIfInBounds_toArray, List.set_cons_zero, List.set_cons_succ]; simp only [e6]; go_simp; first | done | exact rfl
          · refine ⟨_, rfl, fun u hu hd => .inr (.inl ⟨20, #[nv], ?_, ?_⟩)⟩
            · have e7 : vs 7 = nv := hd 7 (by kernel_rfl)
              simp only [frR, dstAt, List.getElem?_toArray, List.getElem?_cons_zero, List.getElem?_cons_succ, Option.bind_some, Act.put, List.setIfInBounds_toArray, List.set_cons_zero, List.set_cons_succ]; simp only [e7]; go_simp; first | done | exact rfl
            · refine (HC.out u hu).mono ?_
              rintro e w2 ⟨v2, rfl, hv2, hk2⟩
              exact ⟨_, rfl, hu.trans hk2, ⟨u.heap.size, w2.heap.size, by simpa [vsX] using hv2, hu.size, hk2.size, Nat.le_refl _⟩, (fun j _ _ _ h => cpdR_kept hk2 j vs h)⟩
        · intro vs u hu
          simp only [List.drop_succ_cons, List.drop_zero, seqWp]
          simp only [frR, dstAt, List.getElem?_toArray, List.getElem?_cons_zero, List.getElem?_cons_succ, Option.bind_some, Act.put, List.setIfInBounds_toArray, List.set_cons_zero, List.set_cons_succ]
          intro hR
          have hu : Kept wr.drew u := hu
          have e1 : vs 1 = .slice (some ⟨g, 0, none⟩) ks.length vc := hR 1 (by decide) (fun _ _ => by trivial)
          have e2 : vs 2 = .int .i64 (k : Nat) := hR 2 (by decide) (fun _ _ => by trivial)
          obtain ⟨lo, hi, hvx, hlo, hlh, hhi⟩ : ∃ lo hi, CpG u x lo hi (vs 8) ∧ wr.drew.heap.size ≤ lo ∧ lo ≤ hi ∧ hi ≤ u.heap.size := hR 8 (by decide) (fun _ _ => by trivial)
          obtain ⟨f0, f1, f2, fo, fl, fc, e8⟩ := hvx.four
          rw [e8] at hvx
          have ku := kd0.trans hu
          have hcx := HCs.out u ku
          have hcz := HZ.out.1
          have z0 := hcx.at4G (i := k * 4) (by omega); have z1 := hcx.at4G (i := k * 4 + 1) (by omega); have z2 := hcx.at4G (i := k * 4 + 2) (by omega); have z3 := hcx.at4G (i := k * 4 + 3) (by omega); have y0 := hcx.frozen (k * 4); have y1 := hcx.frozen (k * 4 + 1); have y2 := hcx.frozen (k * 4 + 2); have y3 := hcx.frozen (k * 4 + 3)
          have hN := RowC.next ((HRw.out.1.on ku (Nat.le_refl _)).on (Below.refl _ _) (Nat.le_refl _)) HX.out hvx hlo hlh
          have hNr := (HRw.out.2.kept ku).next hcx (.int .i64 f0) (.string f1) (.int .i64 f2) (.slice fo fl fc)
          have HN : Hid _ := And.intro hN hNr
          have HU : Hid _ := ku
          have hgz := HZ.out.2.1
          clear hN hNr hcx hvx hR hu ku
          unfold Oper.wp
          simp only [e1, e2, e8]
          go_simp
          go_wp2_with fail
          go_roundw
          case rel =>
            refine ⟨k + 1, by go_num, by omega, (HLo.out.kept.trans HU.out).set4G (g := g) (by omega) _ _ _ _, ?_, ?_, .inr ⟨g, rfl, HZ.out.2.1, HN.out.1.on (Below.refl _ _) (by simpa using hhi), HN.out.2⟩⟩
            · have hne : w.heap.size ≠ g := by omega
              exact ((((HLo.out.box.kept HU.out).other (p := ⟨g, k * 4, none⟩) hne _).other (p := ⟨g, k * 4 + 1, none⟩) hne _).other (p := ⟨g, k * 4 + 2, none⟩) hne _).other (p := ⟨g, k * 4 + 3, none⟩) hne _
            · have hne : w.heap.size + 1 ≠ g := by omega
              exact ((((HLo.out.res.kept HU.out).other (p := ⟨g, k * 4, none⟩) hne _).other (p := ⟨g, k * 4 + 1, none⟩) hne _).other (p := ⟨g, k * 4 + 2, none⟩) hne _).other (p := ⟨g, k * 4 + 3, none⟩) hne _
          case measure => simp [intOf]; omega
      · have q1 : ¬ (k : Int) < (ks.length : Int) := by omega
        obtain rfl : k = ks.length := by omega
        have bx := hR.out.box
        have rx := hR.out.res
        have c0 := bx.cell 0; have c1 := bx.cell 1; have c2 := bx.cell 2; have c3 := bx.cell 3
        have r0 := rx.cell 0; have r1 := rx.cell 1; have r2 := rx.cell 2; have r3 := rx.cell 3
        have g0 := rx.frozen 0; have g1 := rx.frozen 1; have g2 := rx.frozen 2; have g3 := rx.frozen 3
        have HR : Hid _ := hR
        clear bx rx
        go_wp2_with fail
        have hLo := HR.out
        have y := (((hLo.res.set 0 (.int .i64 op)).set 1 (.string s)).set 2 (.int .i64 n)).set 3 (.slice va ks.length vc)
        have z0 := y.cell 0; have z1 := y.cell 1; have z2 := y.cell 2; have z3 := y.cell 3
        refine bodyPost_ret (v := .agg #[.int .i64 op, .string s, .int .i64 n, .slice va ks.length vc]) (by simp [results, Tryz.results20, go_sem, z0, z1, z2, z3]) rfl ⟨_, rfl, ?_, (((hLo.kept.set (by simp) _).set (by simp) _).set (by simp) _).set (by simp) _⟩
        rcases hLo.row with rfl | ⟨g, rfl, hg, hRow, _⟩
        · exact .leaf _ _ HML.out.1
        · have hF := (RowC.done (cap := vc) hRow HML.out.2).under op n HML.out.1
          have hsz := hLo.res.lt
          refine (hF.stay (fun b b1 b2 b3 => ?_)).mono (by omega) (by simp)
          exact (Below.heap_setCell _ _ _ _ (by show b ≠ w.heap.size + 1; omega)).trans ((Below.heap_setCell _ _ _ _ (by show b ≠ w.heap.size + 1; omega)).trans ((Below.heap_setCell _ _ _ _ (by show b ≠ w.heap.size + 1; omega)).trans (Below.heap_setCell _ _ _ _ (by show b ≠ w.heap.size + 1; omega))))
end Go.Proofs.YtlinbkgeahgkjaaGreatDoor
