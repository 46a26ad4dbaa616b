/-
  A region whose order is drawn: reads in whatever order, then two last operations, each of which waits for all ahead of it (a call that writes, and the store of what it returns).
-/
import Derived.Test.YthkhlmbhickdbaaSeq
namespace Go.Proofs.Ythkhlmbhickdbaa
open Go.RowKit

section
variable {P : Program} {ops : Array Oper} {vs : Nat → Value} {a0 : Act} {Q : Exit → Act → World → Prop}

/-- Operation o yields v from frame a in world W, and turns nothing. -/
def ReadT (P : Program) (W : World) (o : Oper) (v : Value) (a : Act) : Prop := o.guard = none ∧ (execOp a.eval o).run P W = .ok (.value v) W
theorem wantedT {o : Oper} (h : o.guard = none) (y : Nat → Option Bool) : Region.wanted o y = true := by unfold Region.wanted; rw [h]

/-- Where o may come up, all of the first m are up. -/
def WaitsT (ops : Array Oper) (o : Oper) (m : Nat) : Prop :=
  ∀ L : Nat → Prop, (∀ j oj, ops[j]? = some oj → L j → ∀ e ∈ oj.after, Region.binds .any e = true → L e.on) → (∀ e ∈ o.after, Region.binds .any e = true → L e.on) → ∀ j, j < m → L j
def waitsOf (o : Oper) : List Nat := (o.after.toList.filter (fun e => Region.binds .any e)).map (·.on)
def predsOf (ops : Array Oper) (j : Nat) : List Nat := match ops[j]? with
  | none => []
  | some o => waitsOf o
def upTo (ops : Array Oper) : Nat → List Nat → List Nat
  | 0, l => l
  | n + 1, l => upTo ops n (l ++ (l.flatMap (predsOf ops)).filter (fun x => !l.contains x))
theorem upTo_all {ops : Array Oper} {L : Nat → Prop} (hcl : ∀ j oj, ops[j]? = some oj → L j → ∀ e ∈ oj.after, Region.binds .any e = true → L e.on) : ∀ (n : Nat) (l : List Nat), (∀ x ∈ l, L x) → ∀ x ∈ upTo ops n l, L x
  | 0, _, h => h
  | n + 1, l, h => upTo_all hcl n _ (fun x hx => by
    rcases List.mem_append.1 hx with h' | h'
    · exact h x h'
    · obtain ⟨j, hj, hm⟩ := List.mem_flatMap.1 (List.mem_filter.1 h').1
      unfold predsOf at hm
      cases ho : ops[j]? with
      | none => rw [ho] at hm; simp at hm
      | some o =>
        rw [ho] at hm
        obtain ⟨e, he, rfl⟩ := List.mem_map.1 hm
        obtain ⟨he1, he2⟩ := List.mem_filter.1 he
        exact hcl j o ho (h j hj) e (by simpa using he1) he2)
theorem waitsT_of {ops : Array Oper} {o : Oper} {m : Nat} (h : (List.range m).all (fun j => (upTo ops m (waitsOf o)).contains j) = true) : WaitsT ops o m := fun L hcl ho j hj => by
  have h1 := List.all_eq_true.1 h j (List.mem_range.2 hj)
  refine upTo_all hcl m (waitsOf o) (fun x hx => ?_) j (by simpa using h1)
  obtain ⟨e, he, rfl⟩ := List.mem_map.1 hx
  obtain ⟨he1, he2⟩ := List.mem_filter.1 he
  exact ho e (by simpa using he1) he2

theorem wpAny_two {W : World} (hs : seqOk ops = true) (m : Nat) (hm : ops.size = m + 2) (oc ol : Oper) (hoc : ops[m]? = some oc) (hol : ops[m + 1]? = some ol) (hcg : oc.guard = none) (hlg : ol.guard = none)
    (hallc : WaitsT ops oc m) (hall : WaitsT ops ol (m + 1)) (fr : Nat → Act) (h0 : fr 0 = a0)
    (hn : ∀ i, i < m → fr (i + 1) = (fr i).put (dstAt ops i) (vs i)) (hstep : ∀ i o, i < m → ops[i]? = some o → ReadT P W o (vs i) (fr i)) (hlast : oc.wp P (fr m) W (fun a1 w1 => ol.wp P a1 w1 (fun a w => Q .normal a w) Q) Q) :
    ∀ (f : Nat) (listed : Array Bool) (a : Act) (w : World), listed.size = ops.size → listed.count false ≤ f → (∀ j oj, ops[j]? = some oj → listed.getD j false = true → ∀ e ∈ oj.after, Region.binds .any e = true → listed.getD e.on false = true) →
      (listed.getD m false = false → Fr ops vs a0 (fun i => listed.getD i false = true) a ∧ w = W) → (listed.getD m false = true → listed.getD (m + 1) false = false → ol.wp P a w (fun a w => Q .normal a w) Q) → (listed.getD (m + 1) false = true → Q .normal a w) → wpAny P .any ops Q f listed a w := by
  have hlt : ∀ j t, dstAt ops j = some t → j < ops.size := fun j t hj => by
    unfold dstAt at hj
    cases hoj : ops[j]? with
    | none => rw [hoj] at hj; cases hj
    | some oj => exact (Array.getElem?_eq_some_iff.1 hoj).1
  have hd : ∀ i j t, dstAt ops i = some t → dstAt ops j = some t → i = j := fun i j t hi hj => by
    have hil := hlt i t hi
    have ho : ops[i]? = some ops[i] := by simp [hil]
    rcases ((seqOk_op hs ho).2 j t hj).1 with h | h
    · exact h.symm
    · exact absurd (by simpa [dstAt, ho] using hi) h
  have hfr : ∀ i, i ≤ m → Fr ops vs a0 (fun j => j < i) (fr i) := by
    intro i
    induction i with
    | zero => intro _; rw [h0]; exact ⟨rfl, rfl, fun _ _ h => (Nat.not_lt_zero _ h).elim, fun _ _ => rfl⟩
    | succ i ih =>
      intro hi
      rw [hn i (by omega)]
      have := (ih (by omega)).put hd i
      have e : (fun j => j < i ∨ j = i) = (fun j => j < i + 1) := by funext j; apply propext; omega
      rw [e] at this
      exact this
  have hdone : ∀ (listed : Array Bool), listed.size = ops.size → Region.ready .any ops listed = [] → listed.getD (m + 1) false = true := fun listed hz hr => ready_none hs hz hr (m + 1) (by omega)
  intro f
  induction f with
  | zero =>
    intro listed a w hz hc _ _ _ hQ
    have hr : Region.ready .any ops listed = [] := by
      cases hr : Region.ready .any ops listed with
      | nil => rfl
      | cons i l =>
        exfalso
        have hm : i ∈ Region.ready .any ops listed := by rw [hr]; exact List.mem_cons_self
        have h1 := (mem_ready.1 hm).1
        have hil : i < listed.size := by
          rcases Nat.lt_or_ge i listed.size with h | h
          · exact h
          · simp [Array.getElem?_eq_none h] at h1
        have : false ∈ listed := by
          simp [hil] at h1
          rw [← h1]; exact Array.getElem_mem hil
        have := Array.count_pos_iff.2 this
        omega
    exact ⟨hr, hQ (hdone listed hz hr)⟩
  | succ f ih =>
    intro listed a w hz hc hcl hF0 hC hQ
    refine ⟨fun hr => hQ (hdone listed hz hr), fun i hi => ?_⟩
    obtain ⟨hun, o, ho, hall'⟩ := mem_ready.1 hi
    have hil : i < ops.size := (Array.getElem?_eq_some_iff.1 ho).1
    have hl' : i < listed.size := by omega
    have hnot : listed.getD i false = false := by
      simp [hl'] at hun ⊢
      exact hun
    have hcount : (listed.setIfInBounds i true).count false ≤ f := by
      simp [hl'] at hun
      rw [Array.setIfInBounds_def, dif_pos hl', Array.count_set hl']
      simp [hun]
      omega
    have hcl' : ∀ j oj, ops[j]? = some oj → (listed.setIfInBounds i true).getD j false = true → ∀ e ∈ oj.after, Region.binds .any e = true → (listed.setIfInBounds i true).getD e.on false = true := by
      intro j oj hoj hl e he hb
      have hstay : ∀ k, listed.getD k false = true → (listed.setIfInBounds i true).getD k false = true := fun k hk => by
        by_cases hik : i = k
        · subst hik
          simp [hl']
        · rw [getD_set_ne false hik]; exact hk
      by_cases hji : i = j
      · subst hji
        rw [ho] at hoj
        cases hoj
        exact hstay _ (hall' e he hb)
      · rw [getD_set_ne false hji] at hl
        exact hstay _ (hcl j oj hoj hl e he hb)
    -- the last one is not up while one is not
    have hnl : listed.getD (m + 1) false = false := by
      cases hx : listed.getD (m + 1) false with
      | false => rfl
      | true =>
        exfalso
        by_cases him : i = m + 1
        · subst him; rw [hx] at hnot; cases hnot
        · have := hall _ hcl (hcl (m + 1) ol hol hx) i (by omega)
          rw [hnot] at this; cases this
    by_cases hi1 : i = m + 1
    · subst hi1
      rw [hol] at ho; cases ho
      have hcl1 : listed.getD m false = true := hall _ hcl hall' m (by omega)
      unfold wpOp
      simp only [hol]
      rw [if_pos (wantedT hlg _)]
      refine .inl (Oper.wp_mono (fun a' w' h => ?_) (hC hcl1 hnl))
      refine ih _ _ _ (by simp [hz]) hcount hcl' (fun hx => ?_) (fun _ hx => ?_) (fun _ => h)
      · rw [getD_set_ne false (by omega), hcl1] at hx; cases hx
      · simp [hl'] at hx
    · have hnc : listed.getD m false = false := by
        cases hx : listed.getD m false with
        | false => rfl
        | true =>
          exfalso
          by_cases him : i = m
          · subst him; rw [hx] at hnot; cases hnot
          · have := hallc _ hcl (hcl m oc hoc hx) i (by omega)
            rw [hnot] at this; cases this
      obtain ⟨hFr, rfl⟩ := hF0 hnc
      by_cases him : i = m
      · subst him
        rw [hoc] at ho; cases ho
        have ha : a = fr i := by
          have hFi := hfr i (Nat.le_refl _)
          have ht : a.tmps = (fr i).tmps := Array.ext_getElem? fun t => hFr.look hd hFi t (fun j hj => by
            have hjs := hlt j t hj
            rcases Nat.lt_or_ge j i with h | h
            · exact .inl ⟨hallc _ hcl hall' j h, h⟩
            · refine .inr ⟨fun hx => ?_, by omega⟩
              rcases (show j = i ∨ j = i + 1 by omega) with rfl | rfl
              · rw [hnot] at hx; cases hx
              · rw [hnl] at hx; cases hx)
          have hdf : a.defers = (fr i).defers := hFr.defers.trans hFi.defers.symm
          have : ∀ (x y : Act), x.tmps = y.tmps → x.defers = y.defers → x = y := fun x y h1 h2 => by cases x; cases y; simp_all
          exact this _ _ ht hdf
        subst ha
        unfold wpOp
        simp only [hoc]
        rw [if_pos (wantedT hcg _)]
        refine .inl (Oper.wp_mono (fun a' w' h => ?_) hlast)
        refine ih _ _ _ (by simp [hz]) hcount hcl' (fun hx => ?_) (fun _ _ => h) (fun hx => ?_)
        · simp [hl'] at hx
        · rw [getD_set_ne false (by omega), hnl] at hx; cases hx
      · have hFi := hfr i (by omega)
        have hlook : ∀ t, t ∈ o.looksAt ops → a.tmps[t]? = (fr i).tmps[t]? := fun t ht => hFr.look hd hFi t (fun j hj => by
          rcases ((seqOk_op hs ho).2 j t hj).2 ht with ⟨e, he, hb, hon⟩ | ⟨hij, oj, hoj, e, he, hb, hon⟩
          · have h1 := hall' e he hb
            have h2 := (seqOk_op hs ho).1 e he hb
            rw [hon] at h1 h2
            exact .inl ⟨h1, h2⟩
          · refine .inr ⟨fun hl => ?_, by omega⟩
            have := hcl j oj hoj hl e he hb
            rw [hon, hnot] at this
            cases this)
        obtain ⟨g1, g3⟩ := hstep i o (by omega) ho
        have hex : execOp a.eval o = execOp (fr i).eval o := execOp_congr o (fun cs b => Region.noSelect_spec (seqOk_sel hs) i o cs b ho) fun x hx => by
          cases x with
          | tmp t =>
            have := hlook t (List.mem_append_left _ (List.mem_filterMap.2 ⟨.tmp t, by simpa using hx, rfl⟩))
            simp only [Act.eval, Array.getD_eq_getD_getElem?, this]
          | _ => rfl
        unfold wpOp
        simp only [ho]
        rw [if_pos (wantedT g1 _)]
        refine .inl ?_
        unfold Oper.wp
        rw [hex, g3]
        refine ih _ _ _ (by simp [hz]) hcount hcl' (fun _ => ⟨?_, rfl⟩) (fun hx => ?_) (fun hx => ?_)
        · have h3 := hFr.put hd i
          have hdi : dstAt ops i = o.dst := by simp [dstAt, ho]
          rw [hdi] at h3
          have e : (fun j => listed.getD j false = true ∨ j = i) = (fun j => (listed.setIfInBounds i true).getD j false = true) := by
            funext j
            apply propext
            by_cases hji : i = j
            · subst hji
              simp [hl']
            · rw [getD_set_ne false hji]
              constructor
              · rintro (h | h)
                · exact h
                · exact absurd h.symm hji
              · exact .inl
          rw [e] at h3
          exact h3
        · rw [getD_set_ne false him, hnc] at hx; cases hx
        · rw [getD_set_ne false hi1, hnl] at hx; cases hx

/-- The operations, in their order: reads, and the two last ones. -/
def SeqC (P : Program) (W : World) (Q : Exit → Act → World → Prop) : List Oper → Act → Prop
  | [], _ => False
  | [_], _ => False
  | [c, s], a => c.wp P a W (fun a1 w1 => s.wp P a1 w1 (fun a w => Q .normal a w) Q) Q
  | o :: x :: y :: r, a => ∃ v, ReadT P W o v a ∧ SeqC P W Q (x :: y :: r) (a.put o.dst v)
theorem SeqC.read {W : World} {o x y : Oper} {r : List Oper} {a : Act} (v : Value) (h : ReadT P W o v a) (k : SeqC P W Q (x :: y :: r) (a.put o.dst v)) : SeqC P W Q (o :: x :: y :: r) a := by
  unfold SeqC
  exact ⟨v, h, k⟩
theorem SeqC.last {W : World} {c s : Oper} {a : Act} {f : FuncId} {args : Array Value} {post : Ending → World → Prop} (h1 : (execOp a.eval c).run P W = .ok (.enter f args) W) (hc : Calls P f args W post) (h2 : ∀ e w1, post e w1 → ∃ v, e = .returned v ∧ s.wp P (a.put c.dst v) w1 (fun a w => Q .normal a w) Q) : SeqC P W Q [c, s] a := by
  unfold SeqC Oper.wp
  rw [h1, Oper.upon_enter]
  refine hc.mono ?_
  intro e w1 hp
  obtain ⟨v, rfl, h⟩ := h2 e w1 hp
  exact h
theorem SeqC.vals {W : World} : ∀ (os : List Oper) (a : Act), SeqC P W Q os a → ∃ (m : Nat) (c s : Oper) (vs : Nat → Value) (fr : Nat → Act), os.length = m + 2 ∧ os[m]? = some c ∧ os[m + 1]? = some s ∧ fr 0 = a ∧ (∀ k o, k < m → os[k]? = some o → fr (k + 1) = (fr k).put o.dst (vs k) ∧ ReadT P W o (vs k) (fr k)) ∧ c.wp P (fr m) W (fun a1 w1 => s.wp P a1 w1 (fun a w => Q .normal a w) Q) Q
  | [], _, h => by unfold SeqC at h; exact h.elim
  | [_], _, h => by unfold SeqC at h; exact h.elim
  | [c, s], a, h => ⟨0, c, s, fun _ => undef, fun _ => a, rfl, rfl, rfl, rfl, fun k o hk => by omega, by unfold SeqC at h; exact h⟩
  | o :: x :: y :: r, a, h => by
    unfold SeqC at h
    obtain ⟨v, hs, h⟩ := h
    obtain ⟨m, c, s, vs, fr, hl, hc, hs', e, hk, hf⟩ := SeqC.vals (x :: y :: r) _ h
    refine ⟨m + 1, c, s, fun k => if k = 0 then v else vs (k - 1), fun k => if k = 0 then a else fr (k - 1), by simp at hl ⊢; omega, by simpa using hc, by simpa using hs', by simp, fun k o' hkm ho => ?_, by simpa using hf⟩
    cases k with
    | zero => simp at ho; subst ho; simp [e, hs]
    | succ k => simp only [List.getElem?_cons_succ] at ho; have := hk k o' (by omega) ho; simpa using this
/-- The two last ones wait for all ahead of them. -/
def waitsAll (ops : Array Oper) (m : Nat) (o : Oper) : Bool := o.guard.isNone && (List.range m).all fun j => (upTo ops m (waitsOf o)).contains j
theorem waits_iff {ops : Array Oper} {m : Nat} {o : Oper} (h : waitsAll ops m o = true) : o.guard = none ∧ WaitsT ops o m := by
  unfold waitsAll at h
  rw [Bool.and_eq_true] at h
  exact ⟨by simpa using h.1, waitsT_of h.2⟩
def twoOk (os : List Oper) : Bool := match os[os.length - 2]?, os[os.length - 1]? with
  | some c, some s => waitsAll os.toArray (os.length - 2) c && waitsAll os.toArray (os.length - 1) s
  | _, _ => false
theorem wp_region_two {os : List Oper} {id : Nat} {a : Act} {w : World} (hm : P.follows .mixedOrders = true) (hs : seqOk os.toArray = true) (h2 : twoOk os = true) (h : SeqC P w.drew Q os a) : (Code.region id os.toArray true).wp P Q a w := by
  obtain ⟨m, c, s, vs, fr, hl, hc, hs', e, hk, hf⟩ := SeqC.vals _ _ h
  unfold twoOk at h2
  rw [show os.length - 2 = m by omega, show os.length - 1 = m + 1 by omega, hc, hs'] at h2
  simp only [Bool.and_eq_true] at h2
  obtain ⟨gc, wc⟩ := waits_iff h2.1
  obtain ⟨gl, wl⟩ := waits_iff h2.2
  refine wp_region_any hm (wpAny_two (vs := vs) (W := w.drew) hs m (by simpa using hl) c s (by simpa using hc) (by simpa using hs') gc gl wc wl fr e (fun i hi => ?_) (fun i o hi ho => ?_) hf _ _ _ _ (by simp) (by simp) (fun j oj hoj hl' => ?_) (fun _ => ⟨?_, rfl⟩) (fun hx => ?_) (fun hx => ?_))
  · obtain ⟨o, ho⟩ : ∃ o, os[i]? = some o := ⟨os[i]'(by omega), by simp⟩
    rw [(hk i o hi ho).1]
    simp [dstAt, ho]
  · exact (hk i o hi (by simpa using ho)).2
  · exfalso
    have hjl : j < os.length := by simpa using (Array.getElem?_eq_some_iff.1 hoj).1
    simp [hjl] at hl'
  · refine ⟨rfl, rfl, fun i d hi => ?_, fun _ _ => rfl⟩
    by_cases hlt : i < os.length
    · simp [hlt] at hi
    · simp [hlt] at hi
  · exfalso
    have : m < os.length := by omega
    simp [this] at hx
  · exfalso
    have : m + 1 < os.length := by omega
    simp [this] at hx
end
end Go.Proofs.Ythkhlmbhickdbaa
