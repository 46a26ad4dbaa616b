/-
  A region whose order is drawn: operations that yield the same in whatever order, one call whose value hangs on the world where it comes up, and two last operations that wait for all ahead of them.
-/
import Derived.Test.YthmabhglmgnamaaDoorSeqT
namespace Go.Proofs.YthmabhglmgnamaaDoor
open Go.RowKit

section
variable {P : Program} {ops : Array Oper} {vs : Nat → Value} {a0 : Act} {Q : Exit → Act → World → Prop}

theorem Fr.congr {vs' : Nat → Value} {L : Nat → Prop} {a : Act} (h : Fr ops vs a0 L a) (he : ∀ i, L i → vs i = vs' i) : Fr ops vs' a0 L a :=
  ⟨h.size, h.defers, fun i d hi hd hl => by rw [← he i hi]; exact h.hit i d hi hd hl, h.miss⟩
def vsX (vs : Nat → Value) (n : Nat) (v : Value) : Nat → Value := fun i => if i = n then v else vs i
theorem wpAny_three {W : World} (hs : seqOk ops = true) (n : Nat) (hm : ops.size = n + 3) (ox oc ol : Oper) (hox : ops[n]? = some ox) (hoc : ops[n + 1]? = some oc) (hol : ops[n + 2]? = some ol) (hxg : ox.guard = none) (hcg : oc.guard = none) (hlg : ol.guard = none)
    (hallc : WaitsT ops oc (n + 1)) (hall : WaitsT ops ol (n + 2)) (fr : Nat → Act) (h0 : fr 0 = a0)
    (hn : ∀ i, i < n → fr (i + 1) = (fr i).put (dstAt ops i) (vs i)) (hstep : ∀ i, i < n → StepK P ops W i (vs i) (fr i))
    (R : Value → World → Prop) (hR : ∀ v w w', R v w → Kept w w' → R v w')
    (hx : ∀ u, Kept W u → ∃ f args, (execOp (fr n).eval ox).run P u = .ok (.enter f args) u ∧ Calls P f args u fun e w' => ∃ v, e = .returned v ∧ R v w' ∧ Kept u w')
    (hlast : ∀ v u, Kept W u → R v u → oc.wp P ((fr n).put ox.dst v) u (fun a1 w1 => ol.wp P a1 w1 (fun a w => Q .normal a w) Q) Q) :
    ∀ (f : Nat) (listed : Array Bool) (a : Act) (w : World), listed.size = ops.size → listed.count false ≤ f → (∀ j oj, ops[j]? = some oj → listed.getD j false = true → ∀ e ∈ oj.after, Region.binds .any e = true → listed.getD e.on false = true) →
      (listed.getD (n + 1) false = false → Kept W w ∧ ∃ v, (listed.getD n false = true → R v w) ∧ Fr ops (vsX vs n v) a0 (fun i => listed.getD i false = true) a) → (listed.getD (n + 1) false = true → listed.getD (n + 2) false = false → ol.wp P a w (fun a w => Q .normal a w) Q) → (listed.getD (n + 2) false = true → Q .normal a w) → wpAny P .any ops Q f listed a w := by
  have hlt : ∀ j t, dstAt ops j = some t → j < ops.size := fun j t hj => by
    unfold dstAt at hj
    cases hoj : ops[j]? with
    | none => rw [hoj] at hj; cases hj
    | some oj => exact (Array.getElem?_eq_some_iff.1 hoj).1
  have hd : ∀ i j t, dstAt ops i = some t → dstAt ops j = some t → i = j := fun i j t hi hj => by
    have hil := hlt i t hi
    have ho : ops[i]? = some ops[i] := by simp [hil]
    rcases ((seqOk_op hs ho).2 j t hj).1 with h | h
    · exact h.symm
    · exact absurd (by simpa [dstAt, ho] using hi) h
  have hfr : ∀ v i, i ≤ n → Fr ops (vsX vs n v) a0 (fun j => j < i) (fr i) := by
    intro v i
    induction i with
    | zero => intro _; rw [h0]; exact ⟨rfl, rfl, fun _ _ h => (Nat.not_lt_zero _ h).elim, fun _ _ => rfl⟩
    | succ i ih =>
      intro hi
      rw [hn i (by omega)]
      have := (ih (by omega)).put hd i
      have e : (fun j => j < i ∨ j = i) = (fun j => j < i + 1) := by funext j; apply propext; omega
      rw [e] at this
      have e2 : vsX vs n v i = vs i := if_neg (by omega)
      rw [e2] at this
      exact this
  have hdone : ∀ (listed : Array Bool), listed.size = ops.size → Region.ready .any ops listed = [] → listed.getD (n + 2) false = true := fun listed hz hr => ready_none hs hz hr (n + 2) (by omega)
  intro f
  induction f with
  | zero =>
    intro listed a w hz hc _ _ _ hQ
    have hr : Region.ready .any ops listed = [] := by
      cases hr : Region.ready .any ops listed with
      | nil => rfl
      | cons i l =>
        exfalso
        have hm : i ∈ Region.ready .any ops listed := by rw [hr]; exact List.mem_cons_self
        have h1 := (mem_ready.1 hm).1
        have hil : i < listed.size := by
          rcases Nat.lt_or_ge i listed.size with h | h
          · exact h
          · simp [Array.getElem?_eq_none h] at h1
        have : false ∈ listed := by
          simp [hil] at h1
          rw [← h1]; exact Array.getElem_mem hil
        have := Array.count_pos_iff.2 this
        omega
    exact ⟨hr, hQ (hdone listed hz hr)⟩
  | succ f ih =>
    intro listed a w hz hc hcl hF0 hC hQ
    refine ⟨fun hr => hQ (hdone listed hz hr), fun i hi => ?_⟩
    obtain ⟨hun, o, ho, hall'⟩ := mem_ready.1 hi
    have hil : i < ops.size := (Array.getElem?_eq_some_iff.1 ho).1
    have hl' : i < listed.size := by omega
    have hnot : listed.getD i false = false := by
      simp [hl'] at hun ⊢
      exact hun
    have hcount : (listed.setIfInBounds i true).count false ≤ f := by
      simp [hl'] at hun
      rw [Array.setIfInBounds_def, dif_pos hl', Array.count_set hl']
      simp [hun]
      omega
    have hcl' : ∀ j oj, ops[j]? = some oj → (listed.setIfInBounds i true).getD j false = true → ∀ e ∈ oj.after, Region.binds .any e = true → (listed.setIfInBounds i true).getD e.on false = true := by
      intro j oj hoj hl e he hb
      have hstay : ∀ k, listed.getD k false = true → (listed.setIfInBounds i true).getD k false = true := fun k hk => by
        by_cases hik : i = k
        · subst hik
          simp [hl']
        · rw [getD_set_ne false hik]; exact hk
      by_cases hji : i = j
      · subst hji
        rw [ho] at hoj
        cases hoj
        exact hstay _ (hall' e he hb)
      · rw [getD_set_ne false hji] at hl
        exact hstay _ (hcl j oj hoj hl e he hb)
    have hset : (fun j => listed.getD j false = true ∨ j = i) = (fun j => (listed.setIfInBounds i true).getD j false = true) := by
      funext j
      apply propext
      by_cases hji : i = j
      · subst hji
        simp [hl']
      · rw [getD_set_ne false hji]
        constructor
        · rintro (h | h)
          · exact h
          · exact absurd h.symm hji
        · exact .inl
    have hnl : listed.getD (n + 2) false = false := by
      cases hx : listed.getD (n + 2) false with
      | false => rfl
      | true =>
        exfalso
        by_cases him : i = n + 2
        · subst him; rw [hx] at hnot; cases hnot
        · have := hall _ hcl (hcl (n + 2) ol hol hx) i (by omega)
          rw [hnot] at this; cases this
    by_cases hi1 : i = n + 2
    · subst hi1
      rw [hol] at ho; cases ho
      have hcl1 : listed.getD (n + 1) false = true := hall _ hcl hall' (n + 1) (by omega)
      unfold wpOp
      simp only [hol]
      rw [if_pos (wantedT hlg _)]
      refine .inl (Oper.wp_mono (fun a' w' h => ?_) (hC hcl1 hnl))
      refine ih _ _ _ (by simp [hz]) hcount hcl' (fun hx => ?_) (fun _ hx => ?_) (fun _ => h)
      · rw [getD_set_ne false (by omega), hcl1] at hx; cases hx
      · simp [hl'] at hx
    · have hnc : listed.getD (n + 1) false = false := by
        cases hx : listed.getD (n + 1) false with
        | false => rfl
        | true =>
          exfalso
          by_cases him : i = n + 1
          · subst him; rw [hx] at hnot; cases hnot
          · have := hallc _ hcl (hcl (n + 1) oc hoc hx) i (by omega)
            rw [hnot] at this; cases this
      obtain ⟨hw, v, hv, hFr⟩ := hF0 hnc
      by_cases him : i = n + 1
      · subst him
        rw [hoc] at ho; cases ho
        have hxl : listed.getD n false = true := hallc _ hcl hall' n (by omega)
        have hFn : Fr ops (vsX vs n v) a0 (fun j => j < n + 1) ((fr n).put ox.dst v) := by
          have h1 := (hfr v n (Nat.le_refl _)).put hd n
          have e : (fun j => j < n ∨ j = n) = (fun j => j < n + 1) := by funext j; apply propext; omega
          rw [e] at h1
          have e1 : dstAt ops n = ox.dst := by simp [dstAt, hox]
          have e2 : vsX vs n v n = v := if_pos rfl
          rw [e1, e2] at h1
          exact h1
        have ha : a = (fr n).put ox.dst v := by
          have ht : a.tmps = ((fr n).put ox.dst v).tmps := Array.ext_getElem? fun t => hFr.look hd hFn t (fun j hj => by
            have hjs := hlt j t hj
            rcases Nat.lt_or_ge j (n + 1) with h | h
            · exact .inl ⟨hallc _ hcl hall' j h, h⟩
            · refine .inr ⟨fun hx => ?_, by omega⟩
              rcases (show j = n + 1 ∨ j = n + 2 by omega) with rfl | rfl
              · rw [hnot] at hx; cases hx
              · rw [hnl] at hx; cases hx)
          have hdf : a.defers = ((fr n).put ox.dst v).defers := hFr.defers.trans hFn.defers.symm
          have : ∀ (x y : Act), x.tmps = y.tmps → x.defers = y.defers → x = y := fun x y h1 h2 => by cases x; cases y; simp_all
          exact this _ _ ht hdf
        subst ha
        unfold wpOp
        simp only [hoc]
        rw [if_pos (wantedT hcg _)]
        refine .inl (Oper.wp_mono (fun a' w' h => ?_) (hlast v w hw (hv hxl)))
        refine ih _ _ _ (by simp [hz]) hcount hcl' (fun hx => ?_) (fun _ _ => h) (fun hx => ?_)
        · simp [hl'] at hx
        · rw [getD_set_ne false (by omega), hnl] at hx; cases hx
      · have hlook : ∀ k, i = k → k ≤ n → ∀ t, t ∈ o.looksAt ops → a.tmps[t]? = (fr k).tmps[t]? := fun k hik hkn t ht => hFr.look hd (hfr v k hkn) t (fun j hj => by
          subst hik
          rcases ((seqOk_op hs ho).2 j t hj).2 ht with ⟨e, he, hb, hon⟩ | ⟨hij, oj, hoj, e, he, hb, hon⟩
          · have h1 := hall' e he hb
            have h2 := (seqOk_op hs ho).1 e he hb
            rw [hon] at h1 h2
            exact .inl ⟨h1, h2⟩
          · refine .inr ⟨fun hl => ?_, by omega⟩
            have := hcl j oj hoj hl e he hb
            rw [hon, hnot] at this
            cases this)
        have hex : ∀ k, i = k → k ≤ n → execOp a.eval o = execOp (fr k).eval o := fun k hik hkn => execOp_congr o (fun cs b => Region.noSelect_spec (seqOk_sel hs) i o cs b ho) fun x hx => by
          cases x with
          | tmp t =>
            have := hlook k hik hkn t (List.mem_append_left _ (List.mem_filterMap.2 ⟨.tmp t, by simpa using hx, rfl⟩))
            simp only [Act.eval, Array.getD_eq_getD_getElem?, this]
          | _ => rfl
        by_cases hin : i = n
        · subst hin
          rw [hox] at ho; cases ho
          unfold wpOp
          simp only [hox]
          rw [if_pos (wantedT hxg _)]
          refine .inl ?_
          obtain ⟨ff, args, hrun, hcall⟩ := hx w hw
          unfold Oper.wp
          rw [hex i rfl (Nat.le_refl _), hrun, Oper.upon_enter]
          refine hcall.mono ?_
          rintro e w' ⟨v', rfl, hRv, hk⟩
          refine ih _ _ _ (by simp [hz]) hcount hcl' (fun _ => ⟨hw.trans hk, v', fun _ => hRv, ?_⟩) (fun hx => ?_) (fun hx => ?_)
          · have h2 : Fr ops (vsX vs i v') a0 (fun j => listed.getD j false = true) a := hFr.congr (fun j hj => by
              have : j ≠ i := fun e => by subst e; rw [hnot] at hj; cases hj
              simp [vsX, this])
            have h3 := h2.put hd i
            have e1 : dstAt ops i = ox.dst := by simp [dstAt, hox]
            have e2 : vsX vs i v' i = v' := if_pos rfl
            rw [e1, e2, hset] at h3
            exact h3
          · rw [getD_set_ne false him, hnc] at hx; cases hx
          · rw [getD_set_ne false hi1, hnl] at hx; cases hx
        · have hltn : i < n := by omega
          refine (hstep i hltn).wpOp (a := a) ?_ hw ?_
          · intro o' ho'
            rw [ho] at ho'; cases ho'
            refine ⟨hex i rfl (by omega), ?_⟩
            unfold Region.wanted
            cases hg : o.guard with
            | none => rfl
            | some gw =>
              obtain ⟨g, want⟩ := gw
              have hy : yielded ops a.tmps g = yielded ops (fr i).tmps g := by
                unfold yielded
                cases ht : (ops[g]?).bind (·.dst) with
                | none => rfl
                | some t =>
                  have := hlook i rfl (by omega) t (by simp [Oper.looksAt, hg, ht])
                  simp [this]
              simp only [hy]
          · intro w' hw'
            refine ih _ _ _ (by simp [hz]) hcount hcl' (fun _ => ⟨hw.trans hw', v, fun hx => ?_, ?_⟩) (fun hx => ?_) (fun hx => ?_)
            · rw [getD_set_ne false hin] at hx
              exact hR _ _ _ (hv hx) hw'
            · have h3 := hFr.put hd i
              have e2 : vsX vs n v i = vs i := if_neg hin
              rw [e2, hset] at h3
              exact h3
            · rw [getD_set_ne false him, hnc] at hx; cases hx
            · rw [getD_set_ne false hi1, hnl] at hx; cases hx
/-- The operations, in their order: those that yield the same, the call, and the two last ones. -/
def SeqD (P : Program) (ops : Array Oper) (W : World) (Q : Exit → Act → World → Prop) : List Oper → Act → Prop
  | [], _ => False
  | [_], _ => False
  | [_, _], _ => False
  | [x, c, l], a => ∃ R : Value → World → Prop, (∀ v w w', R v w → Kept w w' → R v w') ∧ (∀ u, Kept W u → ∃ f args, (execOp a.eval x).run P u = .ok (.enter f args) u ∧ Calls P f args u fun e w' => ∃ v, e = .returned v ∧ R v w' ∧ Kept u w') ∧
      ∀ v u, Kept W u → R v u → c.wp P (a.put x.dst v) u (fun a1 w1 => l.wp P a1 w1 (fun a w => Q .normal a w) Q) Q
  | o :: x :: y :: z :: r, a => ∃ v, StepO P ops W o v a ∧ SeqD P ops W Q (x :: y :: z :: r) (a.put o.dst v)
theorem SeqD.vals {W : World} : ∀ (os pre : List Oper) (a : Act), SeqD P (pre ++ os).toArray W Q os a → ∃ (n : Nat) (x c l : Oper) (vs : Nat → Value) (fr : Nat → Act) (R : Value → World → Prop), os.length = n + 3 ∧ os[n]? = some x ∧ os[n + 1]? = some c ∧ os[n + 2]? = some l ∧ fr pre.length = a ∧ (∀ k, k < n → fr (pre.length + k + 1) = (fr (pre.length + k)).put (dstAt (pre ++ os).toArray (pre.length + k)) (vs (pre.length + k)) ∧ StepK P (pre ++ os).toArray W (pre.length + k) (vs (pre.length + k)) (fr (pre.length + k))) ∧
    (∀ v w w', R v w → Kept w w' → R v w') ∧ (∀ u, Kept W u → ∃ f args, (execOp (fr (pre.length + n)).eval x).run P u = .ok (.enter f args) u ∧ Calls P f args u fun e w' => ∃ v, e = .returned v ∧ R v w' ∧ Kept u w') ∧ ∀ v u, Kept W u → R v u → c.wp P ((fr (pre.length + n)).put x.dst v) u (fun a1 w1 => l.wp P a1 w1 (fun a w => Q .normal a w) Q) Q
  | [], _, _, h => by unfold SeqD at h; exact h.elim
  | [_], _, _, h => by unfold SeqD at h; exact h.elim
  | [_, _], _, _, h => by unfold SeqD at h; exact h.elim
  | [x, c, l], pre, a, h => by
    unfold SeqD at h
    obtain ⟨R, h1, h2, h3⟩ := h
    exact ⟨0, x, c, l, fun _ => undef, fun _ => a, R, rfl, rfl, rfl, rfl, rfl, fun k hk => by omega, h1, h2, h3⟩
  | o :: x :: y :: z :: r, pre, a, h => by
    unfold SeqD at h
    obtain ⟨v, hs, h⟩ := h
    have e0 : pre ++ o :: x :: y :: z :: r = (pre ++ [o]) ++ (x :: y :: z :: r) := by simp
    rw [e0] at h
    obtain ⟨n, x', c, l, vs, fr, R, hl, hx, hc, hl2, e, hk, h1, h2, h3⟩ := SeqD.vals (x :: y :: z :: r) (pre ++ [o]) _ h
    have hpl : (pre ++ [o]).length = pre.length + 1 := by simp
    rw [hpl] at e hk h2 h3
    have ho : (pre ++ o :: x :: y :: z :: r).toArray[pre.length]? = some o := by simp
    have hdo : dstAt (pre ++ o :: x :: y :: z :: r).toArray pre.length = o.dst := by simp [dstAt]
    refine ⟨n + 1, x', c, l, fun k => if k = pre.length then v else vs k, fun k => if k = pre.length then a else fr k, R, by simp at hl ⊢; omega, by simpa using hx, by simpa using hc, by simpa using hl2, by simp, fun k hkm => ?_, h1, ?_, ?_⟩
    · cases k with
      | zero =>
        simp only [Nat.add_zero, if_true, show ¬ (pre.length + 1 = pre.length) by omega, if_false]
        exact ⟨by rw [e, hdo], o, ho, hs⟩
      | succ k =>
        have h5 := hk k (by omega)
        rw [← e0] at h5
        have a1 : pre.length + (k + 1) = pre.length + 1 + k := by omega
        rw [a1]
        have b1 : ¬ (pre.length + 1 + k = pre.length) := by omega
        have b2 : ¬ (pre.length + 1 + k + 1 = pre.length) := by omega
        simp only [b1, b2, if_false]
        exact h5
    · have a1 : pre.length + (n + 1) = pre.length + 1 + n := by omega
      rw [a1]
      have b1 : ¬ (pre.length + 1 + n = pre.length) := by omega
      simp only [b1, if_false]
      exact h2
    · have a1 : pre.length + (n + 1) = pre.length + 1 + n := by omega
      rw [a1]
      have b1 : ¬ (pre.length + 1 + n = pre.length) := by omega
      simp only [b1, if_false]
      exact h3
theorem SeqD.pure {W : World} {o x y z : Oper} {r : List Oper} {a : Act} (v : Value) (hg : o.guard = none) (h : ∀ u, Kept W u → (execOp a.eval o).run P u = .ok (.value v) u) (k : SeqD P ops W Q (x :: y :: z :: r) (a.put o.dst v)) : SeqD P ops W Q (o :: x :: y :: z :: r) a := by
  unfold SeqD
  exact ⟨v, .inr ⟨wantedT hg _, fun u hu => .inl (h u hu)⟩, k⟩
theorem SeqD.call {W : World} {o x y z : Oper} {r : List Oper} {a : Act} {f : FuncId} {args : Array Value} (v : Value) (hg : o.guard = none) (h : ∀ u, (execOp a.eval o).run P u = .ok (.enter f args) u) (hc : ∀ u, Kept W u → Calls P f args u fun e w' => e = .returned v ∧ Kept u w') (k : SeqD P ops W Q (x :: y :: z :: r) (a.put o.dst v)) : SeqD P ops W Q (o :: x :: y :: z :: r) a := by
  unfold SeqD
  exact ⟨v, .inr ⟨wantedT hg _, fun u hu => .inr ⟨f, args, h u, hc u hu⟩⟩, k⟩
theorem SeqD.last {W : World} {x c l : Oper} {a : Act} {f : FuncId} {args : Array Value} (R : Value → World → Prop) (hR : ∀ v w w', R v w → Kept w w' → R v w') (h : ∀ u, (execOp a.eval x).run P u = .ok (.enter f args) u) (hc : ∀ u, Kept W u → Calls P f args u fun e w' => ∃ v, e = .returned v ∧ R v w' ∧ Kept u w')
    (k : ∀ v u, Kept W u → R v u → c.wp P (a.put x.dst v) u (fun a1 w1 => l.wp P a1 w1 (fun a w => Q .normal a w) Q) Q) : SeqD P ops W Q [x, c, l] a := by
  unfold SeqD
  exact ⟨R, hR, fun u hu => ⟨f, args, h u, hc u hu⟩, k⟩
def threeOk (os : List Oper) : Bool := match os[os.length - 3]?, os[os.length - 2]?, os[os.length - 1]? with
  | some x, some c, some l => x.guard.isNone && waitsAll os.toArray (os.length - 2) c && waitsAll os.toArray (os.length - 1) l
  | _, _, _ => false
theorem wp_region_three {os : List Oper} {id : Nat} {a : Act} {w : World} (hm : P.follows .mixedOrders = true) (hs : seqOk os.toArray = true) (h3 : threeOk os = true) (h : SeqD P os.toArray w.drew Q os a) : (Code.region id os.toArray true).wp P Q a w := by
  obtain ⟨n, x, c, l, vs, fr, R, hl, hx, hc, hl2, e, hk, h1, h2, hf⟩ := SeqD.vals os [] a h
  simp only [List.length_nil, Nat.zero_add, List.nil_append] at e hk h2 hf
  unfold threeOk at h3
  rw [show os.length - 3 = n by omega, show os.length - 2 = n + 1 by omega, show os.length - 1 = n + 2 by omega, hx, hc, hl2] at h3
  simp only [Bool.and_eq_true] at h3
  obtain ⟨gc, wc⟩ := waits_iff h3.1.2
  obtain ⟨gl, wl⟩ := waits_iff h3.2
  refine wp_region_any hm (wpAny_three (vs := vs) (W := w.drew) hs n (by simpa using hl) x c l (by simpa using hx) (by simpa using hc) (by simpa using hl2) (by simpa using h3.1.1) gc gl wc wl fr e (fun i hi => (hk i hi).1) (fun i hi => (hk i hi).2) R h1 h2 hf _ _ _ _ (by simp) (by simp) (fun j oj hoj hl' => ?_) (fun _ => ⟨Below.refl _ _, undef, fun hx => ?_, ?_⟩) (fun hx => ?_) (fun hx => ?_))
  · exfalso
    have hjl : j < os.length := by simpa using (Array.getElem?_eq_some_iff.1 hoj).1
    simp [hjl] at hl'
  · exfalso
    have : n < os.length := by omega
    simp [this] at hx
  · refine ⟨rfl, rfl, fun i d hi => ?_, fun _ _ => rfl⟩
    by_cases hlt : i < os.length
    · simp [hlt] at hi
    · simp [hlt] at hi
  · exfalso
    have : n + 1 < os.length := by omega
    simp [this] at hx
  · exfalso
    have : n + 2 < os.length := by omega
    simp [this] at hx
end
end Go.Proofs.YthmabhglmgnamaaDoor
