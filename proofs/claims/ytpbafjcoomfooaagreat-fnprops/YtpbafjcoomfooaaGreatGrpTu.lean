/-
  A region whose order is drawn: reads in whatever order, then two last operations, each of which waits for all ahead of it (a call that writes, and the store of what it returns).
  A region whose order is drawn, in a round of a range over a function: walked in one order, as Seq walks those outside.
  A region whose order is drawn, inside a fence (a round of a range over a function too): operations that yield the same in whatever world in which all that lay lies as it lay, in whatever order, then one last one that waits for all of them.
  A copy into a row: what the row is then; the copy as an operation.
  Roots of one value and of two; the contract of the program's fillBlock.
  The contract of the program's takeFilled (54ec384): a block is taken, and words are copied behind its first one.
-/
import Derived.Laws.CopyOwn
import Derived.Deep.RegionWith
import Derived.Deep.CutRange
import Derived.Test.YtpbafjcoomfooaaGreatSeq
import Derived.Test.YtpbafjcoomfooaaGreatSeqIn
import Derived.Test.YtpbafjcoomfooaaGreatSlabT
import Derived.Test.YtpbafjcoomfooaaGreatGrpP
import Derived.Test.YtpbafjcoomfooaaGreatGrpE
import Derived.Test.YtpbafjcoomfooaaGreatGrpC
namespace Go.Proofs.YtpbafjcoomfooaaGreat
open Go.RowKit

section
variable {P : Program} {ops : Array Oper} {vs : Nat → Value} {a0 : Act} {Q : Exit → Act → World → Prop}

/-- Operation o yields v from frame a in world W, and turns nothing. -/
def ReadT (P : Program) (W : World) (o : Oper) (v : Value) (a : Act) : Prop := o.guard = none ∧ (execOp a.eval o).run P W = .ok (.value v) W
theorem wantedT {o : Oper} (h : o.guard = none) (y : Nat → Option Bool) : Region.wanted o y = true := by unfold Region.wanted; rw [h]

/-- Where o may come up, all of the first m are up. -/
def WaitsT (ops : Array Oper) (o : Oper) (m : Nat) : Prop :=
  ∀ L : Nat → Prop, (∀ j oj, ops[j]? = some oj → L j → ∀ e ∈ oj.after, Region.binds .any e = true → L e.on) → (∀ e ∈ o.after, Region.binds .any e = true → L e.on) → ∀ j, j < m → L j
def waitsOf (o : Oper) : List Nat := (o.after.toList.filter (fun e => Region.binds .any e)).map (·.on)
def predsOf (ops : Array Oper) (j : Nat) : List Nat := match ops[j]? with
  | none => []
  | some o => waitsOf o
def upTo (ops : Array Oper) : Nat → List Nat → List Nat
  | 0, l => l
  | n + 1, l => upTo ops n (l ++ (l.flatMap (predsOf ops)).filter (fun x => !l.contains x))
theorem upTo_all {ops : Array Oper} {L : Nat → Prop} (hcl : ∀ j oj, ops[j]? = some oj → L j → ∀ e ∈ oj.after, Region.binds .any e = true → L e.on) : ∀ (n : Nat) (l : List Nat), (∀ x ∈ l, L x) → ∀ x ∈ upTo ops n l, L x
  | 0, _, h => h
  | n + 1, l, h => upTo_all hcl n _ (fun x hx => by
    rcases List.mem_append.1 hx with h' | h'
    · exact h x h'
    · obtain ⟨j, hj, hm⟩ := List.mem_flatMap.1 (List.mem_filter.1 h').1
      unfold predsOf at hm
      cases ho : ops[j]? with
      | none => rw [ho] at hm; simp at hm
      | some o =>
        rw [ho] at hm
        obtain ⟨e, he, rfl⟩ := List.mem_map.1 hm
        obtain ⟨he1, he2⟩ := List.mem_filter.1 he
        exact hcl j o ho (h j hj) e (by simpa using he1) he2)
theorem waitsT_of {ops : Array Oper} {o : Oper} {m : Nat} (h : (List.range m).all (fun j => (upTo ops m (waitsOf o)).contains j) = true) : WaitsT ops o m := fun L hcl ho j hj => by
  have h1 := List.all_eq_true.1 h j (List.mem_range.2 hj)
  refine upTo_all hcl m (waitsOf o) (fun x hx => ?_) j (by simpa using h1)
  obtain ⟨e, he, rfl⟩ := List.mem_map.1 hx
  obtain ⟨he1, he2⟩ := List.mem_filter.1 he
  exact ho e (by simpa using he1) he2

theorem wpAny_two {W : World} (hs : seqOk ops = true) (m : Nat) (hm : ops.size = m + 2) (oc ol : Oper) (hoc : ops[m]? = some oc) (hol : ops[m + 1]? = some ol) (hcg : oc.guard = none) (hlg : ol.guard = none)
    (hallc : WaitsT ops oc m) (hall : WaitsT ops ol (m + 1)) (fr : Nat → Act) (h0 : fr 0 = a0)
    (hn : ∀ i, i < m → fr (i + 1) = (fr i).put (dstAt ops i) (vs i)) (hstep : ∀ i o, i < m → ops[i]? = some o → ReadT P W o (vs i) (fr i)) (hlast : oc.wp P (fr m) W (fun a1 w1 => ol.wp P a1 w1 (fun a w => Q .normal a w) Q) Q) :
    ∀ (f : Nat) (listed : Array Bool) (a : Act) (w : World), listed.size = ops.size → listed.count false ≤ f → (∀ j oj, ops[j]? = some oj → listed.getD j false = true → ∀ e ∈ oj.after, Region.binds .any e = true → listed.getD e.on false = true) →
      (listed.getD m false = false → Fr ops vs a0 (fun i => listed.getD i false = true) a ∧ w = W) → (listed.getD m false = true → listed.getD (m + 1) false = false → ol.wp P a w (fun a w => Q .normal a w) Q) → (listed.getD (m + 1) false = true → Q .normal a w) → wpAny P .any ops Q f listed a w := by
  have hlt : ∀ j t, dstAt ops j = some t → j < ops.size := fun j t hj => by
    unfold dstAt at hj
    cases hoj : ops[j]? with
    | none => rw [hoj] at hj; cases hj
    | some oj => exact (Array.getElem?_eq_some_iff.1 hoj).1
  have hd : ∀ i j t, dstAt ops i = some t → dstAt ops j = some t → i = j := fun i j t hi hj => by
    have hil := hlt i t hi
    have ho : ops[i]? = some ops[i] := by simp [hil]
    rcases ((seqOk_op hs ho).2 j t hj).1 with h | h
    · exact h.symm
    · exact absurd (by simpa [dstAt, ho] using hi) h
  have hfr : ∀ i, i ≤ m → Fr ops vs a0 (fun j => j < i) (fr i) := by
    intro i
    induction i with
    | zero => intro _; rw [h0]; exact ⟨rfl, rfl, fun _ _ h => (Nat.not_lt_zero _ h).elim, fun _ _ => rfl⟩
    | succ i ih =>
      intro hi
      rw [hn i (by omega)]
      have := (ih (by omega)).put hd i
      have e : (fun j => j < i ∨ j = i) = (fun j => j < i + 1) := by funext j; apply propext; omega
      rw [e] at this
      exact this
  have hdone : ∀ (listed : Array Bool), listed.size = ops.size → Region.ready .any ops listed = [] → listed.getD (m + 1) false = true := fun listed hz hr => ready_none hs hz hr (m + 1) (by omega)
  intro f
  induction f with
  | zero =>
    intro listed a w hz hc _ _ _ hQ
    have hr : Region.ready .any ops listed = [] := by
      cases hr : Region.ready .any ops listed with
      | nil => rfl
      | cons i l =>
        exfalso
        have hm : i ∈ Region.ready .any ops listed := by rw [hr]; exact List.mem_cons_self
        have h1 := (mem_ready.1 hm).1
        have hil : i < listed.size := by
          rcases Nat.lt_or_ge i listed.size with h | h
          · exact h
          · simp [Array.getElem?_eq_none h] at h1
        have : false ∈ listed := by
          simp [hil] at h1
          rw [← h1]; exact Array.getElem_mem hil
        have := Array.count_pos_iff.2 this
        omega
    exact ⟨hr, hQ (hdone listed hz hr)⟩
  | succ f ih =>
    intro listed a w hz hc hcl hF0 hC hQ
    refine ⟨fun hr => hQ (hdone listed hz hr), fun i hi => ?_⟩
    obtain ⟨hun, o, ho, hall'⟩ := mem_ready.1 hi
    have hil : i < ops.size := (Array.getElem?_eq_some_iff.1 ho).1
    have hl' : i < listed.size := by omega
    have hnot : listed.getD i false = false := by
      simp [hl'] at hun ⊢
      exact hun
    have hcount : (listed.setIfInBounds i true).count false ≤ f := by
      simp [hl'] at hun
      rw [Array.setIfInBounds_def, dif_pos hl', Array.count_set hl']
      simp [hun]
      omega
    have hcl' : ∀ j oj, ops[j]? = some oj → (listed.setIfInBounds i true).getD j false = true → ∀ e ∈ oj.after, Region.binds .any e = true → (listed.setIfInBounds i true).getD e.on false = true := by
      intro j oj hoj hl e he hb
      have hstay : ∀ k, listed.getD k false = true → (listed.setIfInBounds i true).getD k false = true := fun k hk => by
        by_cases hik : i = k
        · subst hik
          simp [hl']
        · rw [getD_set_ne false hik]; exact hk
      by_cases hji : i = j
      · subst hji
        rw [ho] at hoj
        cases hoj
        exact hstay _ (hall' e he hb)
      · rw [getD_set_ne false hji] at hl
        exact hstay _ (hcl j oj hoj hl e he hb)
    -- the last one is not up while one is not
    have hnl : listed.getD (m + 1) false = false := by
      cases hx : listed.getD (m + 1) false with
      | false => rfl
      | true =>
        exfalso
        by_cases him : i = m + 1
        · subst him; rw [hx] at hnot; cases hnot
        · have := hall _ hcl (hcl (m + 1) ol hol hx) i (by omega)
          rw [hnot] at this; cases this
    by_cases hi1 : i = m + 1
    · subst hi1
      rw [hol] at ho; cases ho
      have hcl1 : listed.getD m false = true := hall _ hcl hall' m (by omega)
      unfold wpOp
      simp only [hol]
      rw [if_pos (wantedT hlg _)]
      refine .inl (Oper.wp_mono (fun a' w' h => ?_) (hC hcl1 hnl))
      refine ih _ _ _ (by simp [hz]) hcount hcl' (fun hx => ?_) (fun _ hx => ?_) (fun _ => h)
      · rw [getD_set_ne false (by omega), hcl1] at hx; cases hx
      · simp [hl'] at hx
    · have hnc : listed.getD m false = false := by
        cases hx : listed.getD m false with
        | false => rfl
        | true =>
          exfalso
          by_cases him : i = m
          · subst him; rw [hx] at hnot; cases hnot
          · have := hallc _ hcl (hcl m oc hoc hx) i (by omega)
            rw [hnot] at this; cases this
      obtain ⟨hFr, rfl⟩ := hF0 hnc
      by_cases him : i = m
      · subst him
        rw [hoc] at ho; cases ho
        have ha : a = fr i := by
          have hFi := hfr i (Nat.le_refl _)
          have ht : a.tmps = (fr i).tmps := Array.ext_getElem? fun t => hFr.look hd hFi t (fun j hj => by
            have hjs := hlt j t hj
            rcases Nat.lt_or_ge j i with h | h
            · exact .inl ⟨hallc _ hcl hall' j h, h⟩
            · refine .inr ⟨fun hx => ?_, by omega⟩
              rcases (show j = i ∨ j = i + 1 by omega) with rfl | rfl
              · rw [hnot] at hx; cases hx
              · rw [hnl] at hx; cases hx)
          have hdf : a.defers = (fr i).defers := hFr.defers.trans hFi.defers.symm
          have : ∀ (x y : Act), x.tmps = y.tmps → x.defers = y.defers → x = y := fun x y h1 h2 => by cases x; cases y; simp_all
          exact this _ _ ht hdf
        subst ha
        unfold wpOp
        simp only [hoc]
        rw [if_pos (wantedT hcg _)]
        refine .inl (Oper.wp_mono (fun a' w' h => ?_) hlast)
        refine ih _ _ _ (by simp [hz]) hcount hcl' (fun hx => ?_) (fun _ _ => h) (fun hx => ?_)
        · simp [hl'] at hx
        · rw [getD_set_ne false (by omega), hnl] at hx; cases hx
      · have hFi := hfr i (by omega)
        have hlook : ∀ t, t ∈ o.looksAt ops → a.tmps[t]? = (fr i).tmps[t]? := fun t ht => hFr.look hd hFi t (fun j hj => by
          rcases ((seqOk_op hs ho).2 j t hj).2 ht with ⟨e, he, hb, hon⟩ | ⟨hij, oj, hoj, e, he, hb, hon⟩
          · have h1 := hall' e he hb
            have h2 := (seqOk_op hs ho).1 e he hb
            rw [hon] at h1 h2
            exact .inl ⟨h1, h2⟩
          · refine .inr ⟨fun hl => ?_, by omega⟩
            have := hcl j oj hoj hl e he hb
            rw [hon, hnot] at this
            cases this)
        obtain ⟨g1, g3⟩ := hstep i o (by omega) ho
        have hex : execOp a.eval o = execOp (fr i).eval o := execOp_congr o (fun cs b => Region.noSelect_spec (seqOk_sel hs) i o cs b ho) fun x hx => by
          cases x with
          | tmp t =>
            have := hlook t (List.mem_append_left _ (List.mem_filterMap.2 ⟨.tmp t, by simpa using hx, rfl⟩))
            simp only [Act.eval, Array.getD_eq_getD_getElem?, this]
          | _ => rfl
        unfold wpOp
        simp only [ho]
        rw [if_pos (wantedT g1 _)]
        refine .inl ?_
        unfold Oper.wp
        rw [hex, g3]
        refine ih _ _ _ (by simp [hz]) hcount hcl' (fun _ => ⟨?_, rfl⟩) (fun hx => ?_) (fun hx => ?_)
        · have h3 := hFr.put hd i
          have hdi : dstAt ops i = o.dst := by simp [dstAt, ho]
          rw [hdi] at h3
          have e : (fun j => listed.getD j false = true ∨ j = i) = (fun j => (listed.setIfInBounds i true).getD j false = true) := by
            funext j
            apply propext
            by_cases hji : i = j
            · subst hji
              simp [hl']
            · rw [getD_set_ne false hji]
              constructor
              · rintro (h | h)
                · exact h
                · exact absurd h.symm hji
              · exact .inl
          rw [e] at h3
          exact h3
        · rw [getD_set_ne false him, hnc] at hx; cases hx
        · rw [getD_set_ne false hi1, hnl] at hx; cases hx

/-- The operations, in their order: reads, and the two last ones. -/
def SeqC (P : Program) (W : World) (Q : Exit → Act → World → Prop) : List Oper → Act → Prop
  | [], _ => False
  | [_], _ => False
  | [c, s], a => c.wp P a W (fun a1 w1 => s.wp P a1 w1 (fun a w => Q .normal a w) Q) Q
  | o :: x :: y :: r, a => ∃ v, ReadT P W o v a ∧ SeqC P W Q (x :: y :: r) (a.put o.dst v)
theorem SeqC.read {W : World} {o x y : Oper} {r : List Oper} {a : Act} (v : Value) (h : ReadT P W o v a) (k : SeqC P W Q (x :: y :: r) (a.put o.dst v)) : SeqC P W Q (o :: x :: y :: r) a := by
  unfold SeqC
  exact ⟨v, h, k⟩
theorem SeqC.last {W : World} {c s : Oper} {a : Act} {f : FuncId} {args : Array Value} {post : Ending → World → Prop} (h1 : (execOp a.eval c).run P W = .ok (.enter f args) W) (hc : Calls P f args W post) (h2 : ∀ e w1, post e w1 → ∃ v, e = .returned v ∧ s.wp P (a.put c.dst v) w1 (fun a w => Q .normal a w) Q) : SeqC P W Q [c, s] a := by
  unfold SeqC Oper.wp
  rw [h1, Oper.upon_enter]
  refine hc.mono ?_
  intro e w1 hp
  obtain ⟨v, rfl, h⟩ := h2 e w1 hp
  exact h
theorem SeqC.vals {W : World} : ∀ (os : List Oper) (a : Act), SeqC P W Q os a → ∃ (m : Nat) (c s : Oper) (vs : Nat → Value) (fr : Nat → Act), os.length = m + 2 ∧ os[m]? = some c ∧ os[m + 1]? = some s ∧ fr 0 = a ∧ (∀ k o, k < m → os[k]? = some o → fr (k + 1) = (fr k).put o.dst (vs k) ∧ ReadT P W o (vs k) (fr k)) ∧ c.wp P (fr m) W (fun a1 w1 => s.wp P a1 w1 (fun a w => Q .normal a w) Q) Q
  | [], _, h => by unfold SeqC at h; exact h.elim
  | [_], _, h => by unfold SeqC at h; exact h.elim
  | [c, s], a, h => ⟨0, c, s, fun _ => undef, fun _ => a, rfl, rfl, rfl, rfl, fun k o hk => by omega, by unfold SeqC at h; exact h⟩
  | o :: x :: y :: r, a, h => by
    unfold SeqC at h
    obtain ⟨v, hs, h⟩ := h
    obtain ⟨m, c, s, vs, fr, hl, hc, hs', e, hk, hf⟩ := SeqC.vals (x :: y :: r) _ h
    refine ⟨m + 1, c, s, fun k => if k = 0 then v else vs (k - 1), fun k => if k = 0 then a else fr (k - 1), by simp at hl ⊢; omega, by simpa using hc, by simpa using hs', by simp, fun k o' hkm ho => ?_, by simpa using hf⟩
    cases k with
    | zero => simp at ho; subst ho; simp [e, hs]
    | succ k => simp only [List.getElem?_cons_succ] at ho; have := hk k o' (by omega) ho; simpa using this
/-- The two last ones wait for all ahead of them. -/
def waitsAll (ops : Array Oper) (m : Nat) (o : Oper) : Bool := o.guard.isNone && (List.range m).all fun j => (upTo ops m (waitsOf o)).contains j
theorem waits_iff {ops : Array Oper} {m : Nat} {o : Oper} (h : waitsAll ops m o = true) : o.guard = none ∧ WaitsT ops o m := by
  unfold waitsAll at h
  rw [Bool.and_eq_true] at h
  exact ⟨by simpa using h.1, waitsT_of h.2⟩
def twoOk (os : List Oper) : Bool := match os[os.length - 2]?, os[os.length - 1]? with
  | some c, some s => waitsAll os.toArray (os.length - 2) c && waitsAll os.toArray (os.length - 1) s
  | _, _ => false
theorem wp_region_two {os : List Oper} {id : Nat} {a : Act} {w : World} (hm : P.follows .mixedOrders = true) (hs : seqOk os.toArray = true) (h2 : twoOk os = true) (h : SeqC P w.drew Q os a) : (Code.region id os.toArray true).wp P Q a w := by
  obtain ⟨m, c, s, vs, fr, hl, hc, hs', e, hk, hf⟩ := SeqC.vals _ _ h
  unfold twoOk at h2
  rw [show os.length - 2 = m by omega, show os.length - 1 = m + 1 by omega, hc, hs'] at h2
  simp only [Bool.and_eq_true] at h2
  obtain ⟨gc, wc⟩ := waits_iff h2.1
  obtain ⟨gl, wl⟩ := waits_iff h2.2
  refine wp_region_any hm (wpAny_two (vs := vs) (W := w.drew) hs m (by simpa using hl) c s (by simpa using hc) (by simpa using hs') gc gl wc wl fr e (fun i hi => ?_) (fun i o hi ho => ?_) hf _ _ _ _ (by simp) (by simp) (fun j oj hoj hl' => ?_) (fun _ => ⟨?_, rfl⟩) (fun hx => ?_) (fun hx => ?_))
  · obtain ⟨o, ho⟩ : ∃ o, os[i]? = some o := ⟨os[i]'(by omega), by simp⟩
    rw [(hk i o hi ho).1]
    simp [dstAt, ho]
  · exact (hk i o hi (by simpa using ho)).2
  · exfalso
    have hjl : j < os.length := by simpa using (Array.getElem?_eq_some_iff.1 hoj).1
    simp [hjl] at hl'
  · refine ⟨rfl, rfl, fun i d hi => ?_, fun _ _ => rfl⟩
    by_cases hlt : i < os.length
    · simp [hlt] at hi
    · simp [hlt] at hi
  · exfalso
    have : m < os.length := by omega
    simp [this] at hx
  · exfalso
    have : m + 1 < os.length := by omega
    simp [this] at hx
end
end Go.Proofs.YtpbafjcoomfooaaGreat
namespace Go.Proofs.YtpbafjcoomfooaaGreat
open Go.RowKit Go.Shelf

section
variable {l nF : Nat} {P : Program} {ops : Array Oper} {vs : Nat → Value} {a0 : Act} {Q : Exit → Act → World → Prop}

def noDefer (ops : Array Oper) : Bool := ops.all fun o => match o.op with
  | .defer _ => false
  | _ => true
theorem noDefer_op {ops : Array Oper} (h : noDefer ops = true) {i : Nat} {o : Oper} (ho : ops[i]? = some o) : ∀ c, o.op ≠ .defer c := by
  intro c e
  have := Array.all_eq_true_iff_forall_mem.1 h o (Array.mem_of_getElem? ho)
  rw [e] at this
  cases this
theorem StepK.wpOpIn {W : World} {i : Nat} {v : Value} {a b : Act} (h : StepK P ops W i v b) (hnd : noDefer ops = true)
    (he : ∀ o, ops[i]? = some o → execOp a.eval o = execOp b.eval o ∧ Region.wanted o (yielded ops a.tmps) = Region.wanted o (yielded ops b.tmps))
    {K : Act → World → Prop} {w : World} (hw : Kept W w) (hK : ∀ w', Kept w w' → K (a.put (dstAt ops i) v) w') : wpOpIn (Fence.wide.inRound l) nF P ops Q i K a w := by
  obtain ⟨o, ho, h⟩ := h
  obtain ⟨e1, e2⟩ := he o ho
  have g2 := noDefer_op hnd ho
  have hdst : dstAt ops i = o.dst := by simp [dstAt, ho]
  rw [hdst] at hK
  unfold Go.wpOpIn
  simp only [ho]
  rw [e2]
  rcases h with ⟨hn, rfl⟩ | ⟨hy, h⟩
  · simp only [hn, Bool.false_eq_true, if_false]
    exact ⟨fun _ _ => trivial, hK w (Below.refl _ _)⟩
  · simp only [hy, if_true]
    refine ⟨fun _ _ => trivial, ?_⟩
    rw [Oper.semAt_eq _ _ _ g2, e1]
    rcases h w hw with h | ⟨f, args, h, hc⟩
    · rw [h]; exact hK w (Below.refl _ _)
    · rw [h, Oper.uponIn_enter]
      refine ⟨(fun h => by cases h), (CallsIn.inRound l (callsIn_wide.2 hc)).mono ?_⟩
      rintro e w' ⟨rfl, hk⟩
      exact hK w' hk
theorem wpAnyIn_seq {W : World} (hs : seqOk ops = true) (hnd : noDefer ops = true) (fr : Nat → Act) (h0 : fr 0 = a0)
    (hn : ∀ i, i < ops.size → fr (i + 1) = (fr i).put (dstAt ops i) (vs i)) (hstep : ∀ i, i < ops.size → StepK P ops W i (vs i) (fr i)) (hfin : ∀ w, Kept W w → Q .normal (fr ops.size) w) :
    ∀ (f : Nat) (listed : Array Bool) (a : Act) (w : World), listed.size = ops.size → listed.count false ≤ f → Kept W w → (∀ j oj, ops[j]? = some oj → listed.getD j false = true → ∀ e ∈ oj.after, Region.binds .any e = true → listed.getD e.on false = true) → Fr ops vs a0 (fun i => listed.getD i false = true) a → wpAnyIn (Fence.wide.inRound l) nF P .any ops Q f listed a w := by
  have hlt : ∀ j t, dstAt ops j = some t → j < ops.size := fun j t hj => by
    unfold dstAt at hj
    cases hoj : ops[j]? with
    | none => rw [hoj] at hj; cases hj
    | some oj => exact (Array.getElem?_eq_some_iff.1 hoj).1
  have hd : ∀ i j t, dstAt ops i = some t → dstAt ops j = some t → i = j := fun i j t hi hj => by
    have hil := hlt i t hi
    have ho : ops[i]? = some ops[i] := by simp [hil]
    rcases ((seqOk_op hs ho).2 j t hj).1 with h | h
    · exact h.symm
    · exact absurd (by simpa [dstAt, ho] using hi) h
  have hfr : ∀ i, i ≤ ops.size → Fr ops vs a0 (fun j => j < i) (fr i) := by
    intro i
    induction i with
    | zero => intro _; rw [h0]; exact ⟨rfl, rfl, fun _ _ h => (Nat.not_lt_zero _ h).elim, fun _ _ => rfl⟩
    | succ i ih =>
      intro hi
      rw [hn i (by omega)]
      have := (ih (by omega)).put hd i
      have e : (fun j => j < i ∨ j = i) = (fun j => j < i + 1) := by funext j; apply propext; omega
      rw [e] at this
      exact this
  have hdone : ∀ (listed : Array Bool) (a : Act) (w : World), listed.size = ops.size → Kept W w → Fr ops vs a0 (fun i => listed.getD i false = true) a → Region.ready .any ops listed = [] → Q .normal a w := by
    intro listed a w hz hw hF hr
    have := hF.ext hd (hfr ops.size (Nat.le_refl _)) (fun j t hj => ⟨ready_none hs hz hr j (hlt j t hj), hlt j t hj⟩)
    rw [this]
    exact hfin w hw
  intro f
  induction f with
  | zero =>
    intro listed a w hz hc hw _ hF
    have hr : Region.ready .any ops listed = [] := by
      cases hr : Region.ready .any ops listed with
      | nil => rfl
      | cons i l =>
        exfalso
        have hm : i ∈ Region.ready .any ops listed := by rw [hr]; exact List.mem_cons_self
        have h1 := (mem_ready.1 hm).1
        have hil : i < listed.size := by
          rcases Nat.lt_or_ge i listed.size with h | h
          · exact h
          · simp [Array.getElem?_eq_none h] at h1
        have : false ∈ listed := by
          simp [hil] at h1
          rw [← h1]; exact Array.getElem_mem hil
        have := Array.count_pos_iff.2 this
        omega
    exact ⟨hr, hdone listed a w hz hw hF hr⟩
  | succ f ih =>
    intro listed a w hz hc hw hcl hF
    refine ⟨hdone listed a w hz hw hF, fun i hi => ?_⟩
    obtain ⟨hun, o, ho, hall⟩ := mem_ready.1 hi
    have hil : i < ops.size := (Array.getElem?_eq_some_iff.1 ho).1
    have hFi := hfr i (by omega)
    have hnot : listed.getD i false = false := by
      have hl' : i < listed.size := by omega
      simp [hl'] at hun ⊢
      exact hun
    have hlook : ∀ t, t ∈ o.looksAt ops → a.tmps[t]? = (fr i).tmps[t]? := fun t ht => hF.look hd hFi t (fun j hj => by
      rcases ((seqOk_op hs ho).2 j t hj).2 ht with ⟨e, he, hb, hon⟩ | ⟨hij, oj, hoj, e, he, hb, hon⟩
      · have h1 := hall e he hb
        have h2 := (seqOk_op hs ho).1 e he hb
        rw [hon] at h1 h2
        exact .inl ⟨h1, h2⟩
      · refine .inr ⟨fun hl => ?_, by omega⟩
        have := hcl j oj hoj hl e he hb
        rw [hon, hnot] at this
        cases this)
    refine (hstep i hil).wpOpIn (a := a) hnd ?_ hw ?_
    · intro o' ho'
      rw [ho] at ho'; cases ho'
      refine ⟨execOp_congr o (fun cs b => Region.noSelect_spec (seqOk_sel hs) i o cs b ho) fun x hx => ?_, ?_⟩
      · cases x with
        | tmp t =>
          have := hlook t (List.mem_append_left _ (List.mem_filterMap.2 ⟨.tmp t, by simpa using hx, rfl⟩))
          simp only [Act.eval, Array.getD_eq_getD_getElem?, this]
        | _ => rfl
      · unfold Region.wanted
        cases hg : o.guard with
        | none => rfl
        | some gw =>
          obtain ⟨g, want⟩ := gw
          have hy : yielded ops a.tmps g = yielded ops (fr i).tmps g := by
            unfold yielded
            cases ht : (ops[g]?).bind (·.dst) with
            | none => rfl
            | some t =>
              have := hlook t (by simp [Oper.looksAt, hg, ht])
              simp [this]
          simp only [hy]
    · intro w' hw'
      refine ih _ _ _ (by simp [hz]) ?_ (hw.trans hw') (fun j oj hoj hl e he hb => ?_) ?_
      · have hl' : i < listed.size := by omega
        simp [hl'] at hun
        rw [Array.setIfInBounds_def, dif_pos hl', Array.count_set hl']
        simp [hun]
        omega
      · have hstay : ∀ k, listed.getD k false = true → (listed.setIfInBounds i true).getD k false = true := fun k hk => by
          by_cases hik : i = k
          · subst hik
            have hl' : i < listed.size := by omega
            simp [hl']
          · rw [getD_set_ne false hik]; exact hk
        by_cases hji : i = j
        · subst hji
          rw [ho] at hoj
          cases hoj
          exact hstay _ (hall e he hb)
        · rw [getD_set_ne false hji] at hl
          exact hstay _ (hcl j oj hoj hl e he hb)
      · have h3 := hF.put hd i
        have e : (fun j => listed.getD j false = true ∨ j = i) = (fun j => (listed.setIfInBounds i true).getD j false = true) := by
          funext j
          apply propext
          by_cases hji : i = j
          · subst hji
            have hl' : i < listed.size := by omega
            simp [hl']
          · rw [getD_set_ne false hji]
            constructor
            · rintro (h | h)
              · exact h
              · exact absurd h.symm hji
            · exact .inl
        rw [e] at h3
        exact h3
/-- A region that draws, in a round, walked in one order. -/
theorem wpIn_region_seqL {os : List Oper} {id : Nat} {a : Act} {w : World} (hm : P.follows .mixedOrders = true) (hs : seqOk os.toArray = true) (hnd : noDefer os.toArray = true)
    (h : SeqL P os.toArray w.drew (fun a' => ∀ w', Kept w.drew w' → Q .normal a' w') os a) : (Code.region id os.toArray true).wpIn (Fence.wide.inRound l) nF P Q a w := by
  have h1 := SeqL.seqK (W := w.drew) os [] a h
  simp only [List.nil_append, List.length_nil] at h1
  obtain ⟨vs, fr, e, hk, hf⟩ := SeqK.vals _ _ _ h1
  rw [Nat.zero_add] at hf
  have hz : os.toArray.size = os.length := by simp
  refine wpIn_region_any hm (wpAnyIn_seq (vs := vs) (W := w.drew) hs hnd fr e (fun i hi => (hk i (Nat.zero_le _) (by omega)).1) (fun i hi => (hk i (Nat.zero_le _) (by omega)).2) (by rw [hz]; exact hf) _ _ _ _ (by simp) (by simp) (Below.refl _ _) (fun j oj hoj hl => ?_) ?_)
  · exfalso
    have hjl : j < os.toArray.size := (Array.getElem?_eq_some_iff.1 hoj).1
    simp at hjl
    simp [hjl] at hl
  refine ⟨rfl, rfl, fun i d hi => ?_, fun _ _ => rfl⟩
  by_cases hlt : i < os.length
  · simp [hlt] at hi
  · simp [hlt] at hi
end
end Go.Proofs.YtpbafjcoomfooaaGreat
namespace Go.Proofs.YtpbafjcoomfooaaGreat
open Go.RowKit Go.Shelf

/-- A fence that lets in all. -/
structure WideF (F : Fence) : Prop where
  fn : ∀ f, F.fn f
  deep : ¬ F.depth.isSome = true
  calls : ∀ {P : Program} {n : Nat} {f : FuncId} {args : Array Value} {w : World} {R : Ending → World → Prop}, Calls P f args w R → CallsIn F n P f args w R
theorem WideF.wide : WideF Fence.wide := ⟨fun _ => trivial, (fun h => (by cases h)), fun h => callsIn_wide.2 h⟩
theorem WideF.round (l : Nat) : WideF (Fence.wide.inRound l) := ⟨fun _ => trivial, (fun h => (by cases h)), fun h => CallsIn.inRound l (callsIn_wide.2 h)⟩
section
variable {F : Fence} {nF : Nat} {P : Program} {ops : Array Oper} {vs : Nat → Value} {a0 : Act} {Q : Exit → Act → World → Prop}

theorem StepK.wpOpF {W : World} {i : Nat} {v : Value} {a b : Act} (hF : WideF F) (h : StepK P ops W i v b) (hnd : noDefer ops = true)
    (he : ∀ o, ops[i]? = some o → execOp a.eval o = execOp b.eval o ∧ Region.wanted o (yielded ops a.tmps) = Region.wanted o (yielded ops b.tmps))
    {K : Act → World → Prop} {w : World} (hw : Kept W w) (hK : ∀ w', Kept w w' → K (a.put (dstAt ops i) v) w') : Go.wpOpIn F nF P ops Q i K a w := by
  obtain ⟨o, ho, h⟩ := h
  obtain ⟨e1, e2⟩ := he o ho
  have g2 := noDefer_op hnd ho
  have hdst : dstAt ops i = o.dst := by simp [dstAt, ho]
  rw [hdst] at hK
  unfold Go.wpOpIn
  simp only [ho]
  rw [e2]
  rcases h with ⟨hn, rfl⟩ | ⟨hy, h⟩
  · simp only [hn, Bool.false_eq_true, if_false]
    exact ⟨fun f _ => hF.fn f, hK w (Below.refl _ _)⟩
  · simp only [hy, if_true]
    refine ⟨fun f _ => hF.fn f, ?_⟩
    rw [Oper.semAt_eq _ _ _ g2, e1]
    rcases h w hw with h | ⟨f, args, h, hc⟩
    · rw [h]; exact hK w (Below.refl _ _)
    · rw [h, Oper.uponIn_enter]
      refine ⟨(fun h => absurd h hF.deep), (hF.calls hc).mono ?_⟩
      rintro e w' ⟨rfl, hk⟩
      exact hK w' hk
theorem wpAnyIn_lastK {W : World} (hF : WideF F) (hs : seqOk ops = true) (hnd : noDefer ops = true) (m : Nat) (hm : ops.size = m + 1) (ol : Oper) (hol : ops[m]? = some ol) (hlg : ol.guard = none) (hall : WaitsT ops ol m) (fr : Nat → Act) (h0 : fr 0 = a0)
    (hn : ∀ i, i < m → fr (i + 1) = (fr i).put (dstAt ops i) (vs i)) (hstep : ∀ i, i < m → StepK P ops W i (vs i) (fr i)) (hlast : ∀ w, Kept W w → ol.wpIn F nF P (fr m) w (fun a w => Q .normal a w) Q) :
    ∀ (f : Nat) (listed : Array Bool) (a : Act) (w : World), listed.size = ops.size → listed.count false ≤ f → (∀ j oj, ops[j]? = some oj → listed.getD j false = true → ∀ e ∈ oj.after, Region.binds .any e = true → listed.getD e.on false = true) →
      (listed.getD m false = false → Fr ops vs a0 (fun i => listed.getD i false = true) a ∧ Kept W w) → (listed.getD m false = true → Q .normal a w) → wpAnyIn F nF P .any ops Q f listed a w := by
  have hlt : ∀ j t, dstAt ops j = some t → j < ops.size := fun j t hj => by
    unfold dstAt at hj
    cases hoj : ops[j]? with
    | none => rw [hoj] at hj; cases hj
    | some oj => exact (Array.getElem?_eq_some_iff.1 hoj).1
  have hd : ∀ i j t, dstAt ops i = some t → dstAt ops j = some t → i = j := fun i j t hi hj => by
    have hil := hlt i t hi
    have ho : ops[i]? = some ops[i] := by simp [hil]
    rcases ((seqOk_op hs ho).2 j t hj).1 with h | h
    · exact h.symm
    · exact absurd (by simpa [dstAt, ho] using hi) h
  have hfr : ∀ i, i ≤ m → Fr ops vs a0 (fun j => j < i) (fr i) := by
    intro i
    induction i with
    | zero => intro _; rw [h0]; exact ⟨rfl, rfl, fun _ _ h => (Nat.not_lt_zero _ h).elim, fun _ _ => rfl⟩
    | succ i ih =>
      intro hi
      rw [hn i (by omega)]
      have := (ih (by omega)).put hd i
      have e : (fun j => j < i ∨ j = i) = (fun j => j < i + 1) := by funext j; apply propext; omega
      rw [e] at this
      exact this
  have hdone : ∀ (listed : Array Bool), listed.size = ops.size → Region.ready .any ops listed = [] → listed.getD m false = true := fun listed hz hr => ready_none hs hz hr m (by omega)
  intro f
  induction f with
  | zero =>
    intro listed a w hz hc _ _ hQ
    have hr : Region.ready .any ops listed = [] := by
      cases hr : Region.ready .any ops listed with
      | nil => rfl
      | cons i l =>
        exfalso
        have hm : i ∈ Region.ready .any ops listed := by rw [hr]; exact List.mem_cons_self
        have h1 := (mem_ready.1 hm).1
        have hil : i < listed.size := by
          rcases Nat.lt_or_ge i listed.size with h | h
          · exact h
          · simp [Array.getElem?_eq_none h] at h1
        have : false ∈ listed := by
          simp [hil] at h1
          rw [← h1]; exact Array.getElem_mem hil
        have := Array.count_pos_iff.2 this
        omega
    exact ⟨hr, hQ (hdone listed hz hr)⟩
  | succ f ih =>
    intro listed a w hz hc hcl hF0 hQ
    refine ⟨fun hr => hQ (hdone listed hz hr), fun i hi => ?_⟩
    obtain ⟨hun, o, ho, hall'⟩ := mem_ready.1 hi
    have hil : i < ops.size := (Array.getElem?_eq_some_iff.1 ho).1
    have hl' : i < listed.size := by omega
    have hnot : listed.getD i false = false := by
      simp [hl'] at hun ⊢
      exact hun
    have hcount : (listed.setIfInBounds i true).count false ≤ f := by
      simp [hl'] at hun
      rw [Array.setIfInBounds_def, dif_pos hl', Array.count_set hl']
      simp [hun]
      omega
    have hcl' : ∀ j oj, ops[j]? = some oj → (listed.setIfInBounds i true).getD j false = true → ∀ e ∈ oj.after, Region.binds .any e = true → (listed.setIfInBounds i true).getD e.on false = true := by
      intro j oj hoj hl e he hb
      have hstay : ∀ k, listed.getD k false = true → (listed.setIfInBounds i true).getD k false = true := fun k hk => by
        by_cases hik : i = k
        · subst hik
          simp [hl']
        · rw [getD_set_ne false hik]; exact hk
      by_cases hji : i = j
      · subst hji
        rw [ho] at hoj
        cases hoj
        exact hstay _ (hall' e he hb)
      · rw [getD_set_ne false hji] at hl
        exact hstay _ (hcl j oj hoj hl e he hb)
    have hnl : listed.getD m false = false := by
      cases hx : listed.getD m false with
      | false => rfl
      | true =>
        exfalso
        by_cases him : i = m
        · subst him; rw [hx] at hnot; cases hnot
        · have := hall _ hcl (hcl m ol hol hx) i (by omega)
          rw [hnot] at this; cases this
    obtain ⟨hFr, hKw⟩ := hF0 hnl
    by_cases him : i = m
    · subst him
      rw [hol] at ho; cases ho
      have ha : a = fr i := by
        have hFi := hfr i (Nat.le_refl _)
        have ht : a.tmps = (fr i).tmps := Array.ext_getElem? fun t => hFr.look hd hFi t (fun j hj => by
          have hjs := hlt j t hj
          rcases Nat.lt_or_ge j i with h | h
          · exact .inl ⟨hall _ hcl hall' j h, h⟩
          · refine .inr ⟨fun hx => ?_, by omega⟩
            obtain rfl : j = i := by omega
            rw [hnot] at hx; cases hx)
        have hdf : a.defers = (fr i).defers := hFr.defers.trans hFi.defers.symm
        have : ∀ (x y : Act), x.tmps = y.tmps → x.defers = y.defers → x = y := fun x y h1 h2 => by cases x; cases y; simp_all
        exact this _ _ ht hdf
      subst ha
      unfold wpOpIn
      simp only [hol]
      rw [if_pos (wanted_none hlg _)]
      refine Oper.wpIn_mono (fun a' w' h => ?_) (hlast w hKw)
      refine ih _ _ _ (by simp [hz]) hcount hcl' (fun hx => ?_) (fun _ => h)
      simp [hl'] at hx
    · have hFi := hfr i (by omega)
      have hlook : ∀ t, t ∈ o.looksAt ops → a.tmps[t]? = (fr i).tmps[t]? := fun t ht => hFr.look hd hFi t (fun j hj => by
        rcases ((seqOk_op hs ho).2 j t hj).2 ht with ⟨e, he, hb, hon⟩ | ⟨hij, oj, hoj, e, he, hb, hon⟩
        · have h1 := hall' e he hb
          have h2 := (seqOk_op hs ho).1 e he hb
          rw [hon] at h1 h2
          exact .inl ⟨h1, h2⟩
        · refine .inr ⟨fun hl => ?_, by omega⟩
          have := hcl j oj hoj hl e he hb
          rw [hon, hnot] at this
          cases this)
      refine (hstep i (by omega)).wpOpF (a := a) hF hnd ?_ hKw ?_
      · intro o' ho'
        rw [ho] at ho'; cases ho'
        refine ⟨execOp_congr o (fun cs b => Region.noSelect_spec (seqOk_sel hs) i o cs b ho) fun x hx => ?_, ?_⟩
        · cases x with
          | tmp t =>
            have := hlook t (List.mem_append_left _ (List.mem_filterMap.2 ⟨.tmp t, by simpa using hx, rfl⟩))
            simp only [Act.eval, Array.getD_eq_getD_getElem?, this]
          | _ => rfl
        · unfold Region.wanted
          cases hg : o.guard with
          | none => rfl
          | some gw =>
            obtain ⟨g, want⟩ := gw
            have hy : yielded ops a.tmps g = yielded ops (fr i).tmps g := by
              unfold yielded
              cases ht : (ops[g]?).bind (·.dst) with
              | none => rfl
              | some t =>
                have := hlook t (by simp [Oper.looksAt, hg, ht])
                simp [this]
            simp only [hy]
      · intro w' hw'
        refine ih _ _ _ (by simp [hz]) hcount hcl' (fun _ => ⟨?_, hKw.trans hw'⟩) (fun hx => ?_)
        · have h3 := hFr.put hd i
          have e : (fun j => listed.getD j false = true ∨ j = i) = (fun j => (listed.setIfInBounds i true).getD j false = true) := by
            funext j
            apply propext
            by_cases hji : i = j
            · subst hji
              simp [hl']
            · rw [getD_set_ne false hji]
              constructor
              · rintro (h | h)
                · exact h
                · exact absurd h.symm hji
              · exact .inl
          rw [e] at h3
          exact h3
        · rw [getD_set_ne false him, hnl] at hx; cases hx
theorem SeqL.seqK2 {W : World} {fin : Act → Prop} : ∀ (os pre post : List Oper) (a : Act), SeqL P (pre ++ os ++ post).toArray W fin os a → SeqK P (pre ++ os ++ post).toArray W fin os.length pre.length a
  | [], _, _, _, h => h
  | o :: os, pre, post, a, h => by
    obtain ⟨v, hs, h⟩ := h
    have ho : (pre ++ o :: os ++ post).toArray[pre.length]? = some o := by simp
    refine ⟨v, ⟨o, ho, hs⟩, ?_⟩
    have hd : dstAt (pre ++ o :: os ++ post).toArray pre.length = o.dst := by simp [dstAt]
    rw [hd]
    have e : pre ++ o :: os ++ post = (pre ++ [o]) ++ os ++ post := by simp
    rw [e] at h ⊢
    have := SeqL.seqK2 os (pre ++ [o]) post _ h
    simpa using this
/-- The last one waits for all ahead of it. -/
def oneOk (os : List Oper) : Bool := match os[os.length - 1]? with
  | some s => waitsAll os.toArray (os.length - 1) s
  | _ => false
/-- A region that draws: all but the last one in one order, then the last one. -/
theorem wpIn_region_lastK {os : List Oper} {ol : Oper} {id : Nat} {a : Act} {w : World} (hF : WideF F) (hm : P.follows .mixedOrders = true) (hs : seqOk os.toArray = true) (hnd : noDefer os.toArray = true) (h1 : oneOk os = true) (hol : os.getLast? = some ol)
    (h : SeqL P os.toArray w.drew (fun a' => ∀ w', Kept w.drew w' → ol.wpIn F nF P a' w' (fun a w => Q .normal a w) Q) os.dropLast a) : (Code.region id os.toArray true).wpIn F nF P Q a w := by
  obtain ⟨os', rfl⟩ : ∃ os', os = os' ++ [ol] := by
    rw [List.getLast?_eq_some_iff] at hol
    exact hol
  rw [List.dropLast_concat] at h
  have h2 := SeqL.seqK2 (W := w.drew) os' [] [ol] a (by simpa using h)
  simp only [List.nil_append, List.length_nil] at h2
  obtain ⟨vs, fr, e, hk, hf⟩ := SeqK.vals _ _ _ h2
  rw [Nat.zero_add] at hf
  have hw : ol.guard = none ∧ WaitsT (os' ++ [ol]).toArray ol os'.length := by
    unfold oneOk at h1
    simp only [List.length_append, List.length_cons, List.length_nil, Nat.zero_add, Nat.add_sub_cancel, List.getElem?_concat_length] at h1
    exact waits_iff h1
  refine wpIn_region_any hm (wpAnyIn_lastK (vs := vs) (W := w.drew) hF hs hnd os'.length (by simp) ol (by simp) hw.1 hw.2 fr e (fun i hi => (hk i (Nat.zero_le _) (by omega)).1) (fun i hi => (hk i (Nat.zero_le _) (by omega)).2) hf _ _ _ _ (by simp) (by simp) (fun j oj hoj hl => ?_) (fun _ => ⟨?_, Below.refl _ _⟩) (fun hx => ?_))
  · exfalso
    simp only [Array.getD_eq_getD_getElem?, Array.getElem?_replicate] at hl
    split at hl <;> simp at hl
  · refine ⟨rfl, rfl, fun i d hi => ?_, fun _ _ => rfl⟩
    simp only [Array.getD_eq_getD_getElem?, Array.getElem?_replicate] at hi
    split at hi <;> simp at hi
  · simp only [Array.getD_eq_getD_getElem?, Array.getElem?_replicate] at hx
    split at hx <;> simp at hx
end
end Go.Proofs.YtpbafjcoomfooaaGreat
namespace Go.Proofs.YtpbafjcoomfooaaGreat
open Go.RowKit

theorem Row.spliced {W : World} {g : Nat} {zs vs : List Int} {cur : List Value} {o : Nat} (hb : ∀ z ∈ zs, -9223372036854775808 ≤ z ∧ z ≤ 9223372036854775807) (hv : ∀ z ∈ vs, -9223372036854775808 ≤ z ∧ z ≤ 9223372036854775807) (hl : zs.length ≤ cur.length) (hc : ∀ j, j < zs.length → cur[j]? = some (.int .i64 (hz zs j))) (hfit : o + vs.length ≤ zs.length)
    (h : W.heap[g]? = some (.cells (splice cur o (vs.map (Value.int .i64))).toArray 3 (0, 0))) : Row W g (Go.Proofs.YtpbafjcoomfooaaGreat.sets zs o vs) := by
  have hlen : (splice cur o (vs.map (Value.int .i64))).length = cur.length := length_splice _ _ _ (by simp; omega)
  refine ⟨?_, _, h, ?_, fun j hj => ?_⟩
  · intro z hz'
    obtain ⟨j, hj, e⟩ := List.getElem_of_mem hz'
    have e1 : hz (Go.Proofs.YtpbafjcoomfooaaGreat.sets zs o vs) j = z := by simp [hz, List.getElem?_eq_getElem hj, e]
    rw [sets_len] at hj
    rw [hz_sets _ _ _ _ hfit] at e1
    rw [← e1]
    split
    · rename_i hh
      have : j - o < vs.length := by omega
      unfold hz
      rw [List.getElem?_eq_getElem this]
      exact hv _ (List.getElem_mem this)
    · unfold hz
      rw [List.getElem?_eq_getElem hj]
      exact hb _ (List.getElem_mem hj)
  · rw [sets_len, List.size_toArray, hlen]; exact hl
  · rw [sets_len] at hj
    rw [hz_sets _ _ _ _ hfit]
    simp only [List.getElem?_toArray, splice]
    by_cases h1 : j < o
    · rw [if_neg (by omega), List.getElem?_append_left (by simp; omega), List.getElem?_take, if_pos h1]
      exact hc j hj
    · rw [List.getElem?_append_right (by simp; omega)]
      rw [show (cur.take o).length = o by simp; omega]
      by_cases h2 : j < o + vs.length
      · rw [if_pos ⟨by omega, h2⟩, List.getElem?_append_left (by simp; omega)]
        have : j - o < vs.length := by omega
        simp [hz, List.getElem?_eq_getElem this]
      · rw [if_neg (by omega), List.getElem?_append_right (by simp; omega), List.getElem?_drop]
        rw [show o + (vs.map (Value.int .i64)).length + (j - o - (vs.map (Value.int .i64)).length) = j by simp; omega]
        exact hc j hj
theorem wpList_copy_grown {P : Program} {w : World} {ops : Array Oper} {rest : List Oper} {o : Oper} {a : Act} {Q : Exit → Act → World → Prop} (hgd : o.guard = none) (d s : Operand) (dT sT : TypeId)
    (ho : o.op = .call { callee := .builtin .copy, args := #[d, s], argTypes := #[dT, sT] }) (elem : TypeId) (hu : P.underlying dT = some (.slice elem)) (hsz : (P.info? elem).map (·.size) = some 1)
    (g off dLen dCap : Nat) (ad : Addr) (sLen sCap : Nat) (hd : a.eval d = .slice (some ⟨g, off, none⟩) dLen dCap) (hs : a.eval s = .slice (some ad) sLen sCap)
    (cur : Array Value) (t : TypeId) (hg : w.heap[g]? = some (.cells cur t (0, 0))) (cs : List Value) (hn : cs.length = Nat.min sLen dLen)
    (hsrc : ∀ j v, cs[j]? = some v → w.cell? (ad.add j) = some v) (hfit : off + cs.length ≤ cur.size) (h1 : ∀ v ∈ cs, v.oneCell' = true)
    (h : ∀ w', Hid (w'.heap[g]? = some (.cells (splice cur.toList off cs).toArray t (0, 0))) → w.grownBy w' (some g) → wpList P ops Q rest (a.put o.dst (goInt cs.length)) w') : wpList P ops Q (o :: rest) a w :=
  wpList_copy_own hgd d s dT sT ho elem hu hsz g off dLen dCap ad sLen sCap hd hs cur t hg cs hn hsrc hfit h1 (h _ (setRow_heap w g _ _ t _ hg) ⟨rfl, rfl, rfl, by simp [World.setRow], fun k _ hk => setRow_other w g k _ (fun e => hk (by rw [e]))⟩)
theorem wpIn_copy {F : Fence} {nF : Nat} {P : Program} {w : World} {o : Oper} {a : Act} {K : Act → World → Prop} {Q : Exit → Act → World → Prop} (hF : WideF F) (d s : Operand) (dT sT : TypeId)
    (ho : o.op = .call { callee := .builtin .copy, args := #[d, s], argTypes := #[dT, sT] }) (elem : TypeId) (hu : P.underlying dT = some (.slice elem)) (hsz : (P.info? elem).map (·.size) = some 1)
    (g off dLen dCap : Nat) (ad : Addr) (sLen sCap : Nat) (hd : a.eval d = .slice (some ⟨g, off, none⟩) dLen dCap) (hs : a.eval s = .slice (some ad) sLen sCap)
    (cur : Array Value) (t : TypeId) (hg : w.heap[g]? = some (.cells cur t (0, 0))) (cs : List Value) (hn : cs.length = Nat.min sLen dLen)
    (hsrc : ∀ j v, cs[j]? = some v → w.cell? (ad.add j) = some v) (hfit : off + cs.length ≤ cur.size) (h1 : ∀ v ∈ cs, v.oneCell' = true)
    (h : ∀ w', Hid (w'.heap[g]? = some (.cells (splice cur.toList off cs).toArray t (0, 0))) → w.grownBy w' (some g) → K (a.put o.dst (goInt cs.length)) w') : o.wpIn F nF P a w K Q := by
  have hrun := run_copy_row (P := P) w dT sT o.type elem g off dLen dCap ad sLen sCap cur t cs hu hsz hg hn hsrc hfit h1
  refine ⟨fun f _ => hF.fn f, ?_⟩
  rw [Oper.semAt_eq _ _ _ (by intro c e; rw [ho] at e; cases e)]
  simp [execOp, ho, resolve, invoke, builtin, hd, hs, hrun, Result.andThen]
  exact h _ (setRow_heap w g _ _ t _ hg) ⟨rfl, rfl, rfl, by simp [World.setRow], fun k _ hk => setRow_other w g k _ (fun e => hk (by rw [e]))⟩
end Go.Proofs.YtpbafjcoomfooaaGreat
namespace Go.Proofs.YtpbafjcoomfooaaGreat
open Go.RowKit
attribute [local go_sem] Plain.and7

theorem leads_any {zs : List Int} {v : Int} (h : v % 8 ≠ 7) (i j : Int) : leadsR zs v i = leadsR zs v j := by
  rcases kinds8 v with h | h | h | h | h | h | h | h
  all_goals first | (exfalso; omega) | simp [leadsR, wantK, h]
theorem roots2 {zs : List Int} {a b : Int} : rootsR zs [a, b] = (heapR zs && (leadsR zs a 5 && leadsR zs b 5)) := by
  unfold rootsR leadAll
  rw [show [a, b].length = 2 from rfl, allR_succ, allR_succ, allR_zero]
  simp [hz]
theorem roots1 {zs : List Int} {a : Int} : rootsR zs [a] = (heapR zs && leadsR zs a 5) := by
  unfold rootsR leadAll
  rw [show [a].length = 1 from rfl, allR_succ, allR_zero]
  simp [hz]
end Go.Proofs.YtpbafjcoomfooaaGreat
namespace Go.Proofs.YtpbafjcoomfooaaGreat
open Go.RowKit
attribute [local go_sem] Plain.and7
set_option linter.unusedSimpArgs false
set_option linter.unusedVariables false
set_option maxHeartbeats 8000000 in
set_option maxRecDepth 100000 in
theorem takeFilled_no (w : World) (ao so : Option Addr) (cap sl sc : Nat) (zs : List Int) (kind n : Int) (hI : Ints w ao zs) (hl : zs.length ≤ 1048576) (hok : slabOk zs = true) (hno : ¬ (1 ≤ kind ∧ kind ≤ 5 ∧ 2 ≤ n) ∨ ffB zs n = none) :
    Calls Tryz.prog 59 #[.agg #[.slice ao zs.length cap], .int .i64 kind, .int .i64 n, .slice so sl sc] w fun e w' => ∃ v, e = .returned (.tuple #[.agg #[v], .int .i64 0, .bool false]) ∧ OwnR w' w.heap.size v zs ∧ Kept w w' := by
  obtain ⟨W0, hW0⟩ : ∃ x, (w.alloc (.cells #[.slice ao zs.length cap] 26)).alloc (.cells #[.slice none 0 0] 26) = x := ⟨_, rfl⟩
  have k0 : Kept w W0 := hW0 ▸ (Kept.alloc (Below.refl _ _) _).alloc _
  have b0 : Cells W0 w.heap.size 26 #[.slice ao zs.length cap] := hW0 ▸ (Cells.new w 26 #[.slice ao zs.length cap]).alloc _
  have b1 : Cells W0 (w.heap.size + 1) 26 #[.slice none 0 0] := by
    have y := Cells.new (w.alloc (.cells #[.slice ao zs.length cap] 26)) 26 #[.slice none 0 0]
    rw [hW0] at y
    simp only [World.size_alloc] at y
    exact y
  have hT := impl_Take_no W0 ao cap zs kind n (hI.kept k0) hl hok hno
  have hs0 : w.heap.size + 2 ≤ W0.heap.size := by rw [← hW0]; simp
  have HK0 : Hid (Kept w W0) := k0
  have HS0 : Hid _ := hs0
  have HB1 : Hid (Cells W0 (w.heap.size + 1) 26 #[.slice none 0 0]) := b1
  have c0 := b0.cell 0
  clear hI hok hno b0 b1 k0 hs0
  go_enter Tryz.func59, Tryz.ntmps59
  go_upto_region 1 with (fail)
  try simp only [hW0]
  clear hW0
  go_wp2_with fail
  refine hT.mono ?_
  rintro e w2 ⟨v2, rfl, o2, hk2⟩
  obtain ⟨la2, lc2, rfl, _⟩ := o2.ints
  have x1 := Cells.kept HB1.out hk2
  have ka : Kept w2 (w2.alloc (.cells #[.slice la2 zs.length lc2] 26)) := Kept.alloc (Below.refl _ _) _
  have y1 := x1.kept ka
  have d1 := y1.cell 0
  have f1 := y1.frozen 0
  have dx := x1.cell 0
  have fx := x1.frozen 0
  have l1 := x1.lt
  have hs2 := hk2.size
  have HO2 : Hid _ := o2
  have HK2 : Hid _ := hk2
  have hs0 := HS0.out
  clear hT c0 o2 hk2
  go_wp2_with fail
  have q := ((x1.set1 (.slice la2 zs.length lc2)).alloc (.cells #[.slice la2 zs.length lc2] 26)).cell 0
  refine bodyPost_ret (v := .tuple #[.agg #[.slice la2 zs.length lc2], .int .i64 0, .bool false]) (by simp [results, Tryz.results59, go_sem, q]) rfl ⟨_, rfl, ?_, Kept.alloc ((Kept.trans HK0.out HK2.out).set (by simp) _) _⟩
  rcases HO2.out with ⟨h1, h2⟩ | ⟨g3, c3, h1, h2, h3, h4⟩
  · exact .inl ⟨h1, h2⟩
  · exact .inr ⟨g3, c3, h1, by omega, h3, (h4.other (p := ⟨w.heap.size + 1, 0, none⟩) (by intro h; simp at h <;> omega) _).kept (Kept.alloc (Below.refl _ _) _)⟩
set_option maxHeartbeats 8000000 in
set_option maxRecDepth 100000 in
theorem takeFilled_yes (w : World) (ao so : Option Addr) (cap sc : Nat) (zs vs : List Int) (kind n : Nat) (b : BkOf zs.length) (hI : Ints w ao zs) (hS : Ints w so vs) (hpos : 0 < vs.length) (hv : vs.length < n) (hl : zs.length ≤ 1048576) (hok : slabOk zs = true) (hk1 : 1 ≤ kind) (hk2 : kind ≤ 5) (hn : 2 ≤ n) (hff : ffB zs n = some b) :
    Calls Tryz.prog 59 #[.agg #[.slice ao zs.length cap], .int .i64 kind, .int .i64 n, .slice so vs.length sc] w fun e w' => ∃ v, e = .returned (.tuple #[.agg #[v], .int .i64 (b.1.at' : Nat), .bool true]) ∧ OwnR w' w.heap.size v (sets (takeL zs b.1 kind n) (b.1.at' + 1) vs) ∧ Kept w w' := by
  obtain ⟨i0, hi, hz0, hz1, hz2⟩ := info_parts infoI
  have hsz : (Tryz.prog.info? 3).map (·.size) = some 1 := by rw [hi]; simp [hz1]
  obtain ⟨W0, hW0⟩ : ∃ x, (w.alloc (.cells #[.slice ao zs.length cap] 26)).alloc (.cells #[.slice none 0 0] 26) = x := ⟨_, rfl⟩
  have k0 : Kept w W0 := hW0 ▸ (Kept.alloc (Below.refl _ _) _).alloc _
  have b0 : Cells W0 w.heap.size 26 #[.slice ao zs.length cap] := hW0 ▸ (Cells.new w 26 #[.slice ao zs.length cap]).alloc _
  have b1 : Cells W0 (w.heap.size + 1) 26 #[.slice none 0 0] := by
    have y := Cells.new (w.alloc (.cells #[.slice ao zs.length cap] 26)) 26 #[.slice none 0 0]
    rw [hW0] at y
    simp only [World.size_alloc] at y
    exact y
  have hfr : freeP n b = true := List.find?_some hff
  have hble := b.2.2.1
  have hbs : n ≤ b.1.size := by simp [freeP] at hfr; omega
  have hlen : zs.length ≤ 2000 := (slabOk_iff.1 hok).1
  have hT := impl_Take_yes W0 ao cap zs kind n b (hI.kept k0) hl hok (by omega) (by omega) (by omega) hff
  have hyl := takeL_length zs b.1 kind n
  obtain ⟨a, ha⟩ : ∃ a : Nat, b.1.at' = a := ⟨_, rfl⟩
  obtain ⟨ys, hys⟩ : ∃ ys, takeL zs b.1 kind n = ys := ⟨_, rfl⟩
  rw [hys, ha] at hT ⊢
  rw [hys] at hyl
  rw [ha] at hble
  have ha2 : a < 2000 := by omega
  have hfit : a + 1 + vs.length ≤ ys.length := by omega
  have hyb : ys.length ≤ 1048576 := by omega
  have HSR : Hid (Ints W0 so vs) := hS.kept k0
  have hs0 : w.heap.size + 2 ≤ W0.heap.size := by rw [← hW0]; simp
  have HK0 : Hid (Kept w W0) := k0
  have HS0 : Hid _ := hs0
  have HB1 : Hid (Cells W0 (w.heap.size + 1) 26 #[.slice none 0 0]) := b1
  have c0 := b0.cell 0
  have p1 : (a : Int) + 1 ≤ (ys.length : Int) := by omega
  have t1 : ((a : Int) + 1).toNat = a + 1 := by omega
  clear hI hok hff hS b0 b1 k0 hs0 hfr hbs ha hys hble hyl
  go_enter Tryz.func59, Tryz.ntmps59
  go_upto_region 1 with (fail)
  try simp only [hW0]
  clear hW0
  go_wp2_with fail
  refine hT.mono ?_
  rintro e w2 ⟨v2, rfl, o2, hk2⟩
  rcases o2 with ⟨h1, h2⟩ | ⟨g3, c3, rfl, hg3, hc3, hR3⟩
  · rw [h2] at hfit; simp at hfit
  have x1 := Cells.kept HB1.out hk2
  have lg3 := hR3.lt
  have d1 := x1.cell 0
  have f1 := x1.frozen 0
  have hl3 := x1.lt
  have hs2 := hk2.size
  have hs0 := HS0.out
  have kA : Kept w2 (w2.alloc (.cells #[.slice (some ⟨g3, 0, none⟩) ys.length c3] 26)) := Kept.alloc (Below.refl _ _) _
  have y1 := x1.kept kA
  have bO := Cells.new w2 26 #[.slice (some ⟨g3, 0, none⟩) ys.length c3]
  obtain ⟨hb, cur, hg, hcl, hcc⟩ := hR3.kept kA
  have hg' : (w2.alloc (.cells #[.slice (some ⟨g3, 0, none⟩) ys.length c3] 26)).heap[g3]? = some (.cells cur.toList.toArray 3 (0, 0)) := by simpa using hg
  have hSn := (HSR.out.kept hk2).kept kA
  obtain ⟨ad, rfl, hsr⟩ := hSn.src hpos
  clear hT c0
  go_wp2_with (refine wpList_copy_grown rfl (.tmp 27) (.tmp 28) 24 24 rfl 3 Tryz.underlying24 hsz g3 (a + 1) (ys.length - (a + 1)) (c3 - (a + 1)) ad vs.length sc rfl rfl cur 3 hg (vs.map (Value.int .i64)) (by rw [List.length_map]; exact (Nat.min_eq_left (by omega)).symm) hsr (by simp; omega) (by intro v hv; obtain ⟨z, _, rfl⟩ := List.mem_map.1 hv; rfl) ?_; intro w4 hrow hg4; have hR4 := Row.spliced hb hSn.1 (by simpa using hcl) (fun j hj => by simpa using hcc j hj) (by omega) hrow.out; have o4 := bO.grown hg4 (by intro e; simp at e; omega); have y4 := y1.grown hg4 (by intro e; simp at e; omega); have cO4 := o4.cell 0; have c4 := y4.cell 0; have f4 := y4.frozen 0)
  have HLS : (sets ys (a + 1) vs).length = ys.length := sets_len _ _ _
  have q := (y4.set1 (.slice (some ⟨g3, 0, none⟩) ys.length c3)).cell 0
  refine bodyPost_ret (v := .tuple #[.agg #[.slice (some ⟨g3, 0, none⟩) ys.length c3], .int .i64 (a : Int), .bool true]) (by simp [results, Tryz.results59, go_sem, q]) rfl ⟨_, rfl, .inr ⟨g3, c3, by rw [HLS], by omega, by rw [HLS]; exact hc3, hR4.other (p := ⟨w.heap.size + 1, 0, none⟩) (by intro h; simp at h <;> omega) _⟩, ?_⟩
  exact (((Kept.trans HK0.out hk2).trans kA).grownRow hg4 (fun k e => by cases e; omega)).set (p := ⟨w.heap.size + 1, 0, none⟩) (by simp) _
end Go.Proofs.YtpbafjcoomfooaaGreat
