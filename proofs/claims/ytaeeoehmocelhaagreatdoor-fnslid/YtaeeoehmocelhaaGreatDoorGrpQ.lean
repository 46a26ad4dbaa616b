/-
  A region whose order is drawn: reads in whatever order, then two last operations, each of which waits for all ahead of it (a call that writes, and the store of what it returns).
  A region whose order is drawn, in a round of a range over a function: walked in one order, as Seq walks those outside.
  A region whose order is drawn, inside a fence (a round of a range over a function too): operations that yield the same in whatever world in which all that lay lies as it lay, in whatever order, then one last one that waits for all of them.
  A copy into a row: what the row is then; the copy as an operation.
  The contract of impl.slideBlock.
  Facts on lists: what slid lays, block by block.
  The contract of slid: all blocks that are not free, one behind the other, and what is left over.
  The contract of impl.Slide.
-/
import Derived.Laws.CopyOwn
import Derived.Defers
import Derived.Deep.RegionHeld3
import Derived.Deep.CutRange
import Derived.Test.YtaeeoehmocelhaaGreatDoorSeq
import Derived.Test.YtaeeoehmocelhaaGreatDoorGrpL
import Derived.Test.YtaeeoehmocelhaaGreatDoorSlabT
import Derived.Test.YtaeeoehmocelhaaGreatDoorGrpD
import Derived.Test.YtaeeoehmocelhaaGreatDoorGrpP
import Derived.Test.YtaeeoehmocelhaaGreatDoorShapeB
namespace Go.Proofs.YtaeeoehmocelhaaGreatDoor
open Go.RowKit

section
variable {P : Program} {ops : Array Oper} {vs : Nat → Value} {a0 : Act} {Q : Exit → Act → World → Prop}

/-- Operation o yields v from frame a in world W, and turns nothing. -/
def ReadT (P : Program) (W : World) (o : Oper) (v : Value) (a : Act) : Prop := o.guard = none ∧ (execOp a.eval o).run P W = .ok (.value v) W
theorem wantedT {o : Oper} (h : o.guard = none) (y : Nat → Option Bool) : Region.wanted o y = true := by unfold Region.wanted; rw [h]

/-- Where o may come up, all of the first m are up. -/
def WaitsT (ops : Array Oper) (o : Oper) (m : Nat) : Prop :=
  ∀ L : Nat → Prop, (∀ j oj, ops[j]? = some oj → L j → ∀ e ∈ oj.after, Region.binds .any e = true → L e.on) → (∀ e ∈ o.after, Region.binds .any e = true → L e.on) → ∀ j, j < m → L j
def waitsOf (o : Oper) : List Nat := (o.after.toList.filter (fun e => Region.binds .any e)).map (·.on)
def predsOf (ops : Array Oper) (j : Nat) : List Nat := match ops[j]? with
  | none => []
  | some o => waitsOf o
def upTo (ops : Array Oper) : Nat → List Nat → List Nat
  | 0, l => l
  | n + 1, l => upTo ops n (l ++ (l.flatMap (predsOf ops)).filter (fun x => !l.contains x))
theorem upTo_all {ops : Array Oper} {L : Nat → Prop} (hcl : ∀ j oj, ops[j]? = some oj → L j → ∀ e ∈ oj.after, Region.binds .any e = true → L e.on) : ∀ (n : Nat) (l : List Nat), (∀ x ∈ l, L x) → ∀ x ∈ upTo ops n l, L x
  | 0, _, h => h
  | n + 1, l, h => upTo_all hcl n _ (fun x hx => by
    rcases List.mem_append.1 hx with h' | h'
    · exact h x h'
    · obtain ⟨j, hj, hm⟩ := List.mem_flatMap.1 (List.mem_filter.1 h').1
      unfold predsOf at hm
      cases ho : ops[j]? with
      | none => rw [ho] at hm; simp at hm
      | some o =>
        rw [ho] at hm
        obtain ⟨e, he, rfl⟩ := List.mem_map.1 hm
        obtain ⟨he1, he2⟩ := List.mem_filter.1 he
        exact hcl j o ho (h j hj) e (by simpa using he1) he2)
theorem waitsT_of {ops : Array Oper} {o : Oper} {m : Nat} (h : (List.range m).all (fun j => (upTo ops m (waitsOf o)).contains j) = true) : WaitsT ops o m := fun L hcl ho j hj => by
  have h1 := List.all_eq_true.1 h j (List.mem_range.2 hj)
  refine upTo_all hcl m (waitsOf o) (fun x hx => ?_) j (by simpa using h1)
  obtain ⟨e, he, rfl⟩ := List.mem_map.1 hx
  obtain ⟨he1, he2⟩ := List.mem_filter.1 he
  exact ho e (by simpa using he1) he2

theorem wpAny_two {W : World} (hs : seqOk ops = true) (m : Nat) (hm : ops.size = m + 2) (oc ol : Oper) (hoc : ops[m]? = some oc) (hol : ops[m + 1]? = some ol) (hcg : oc.guard = none) (hlg : ol.guard = none)
    (hallc : WaitsT ops oc m) (hall : WaitsT ops ol (m + 1)) (fr : Nat → Act) (h0 : fr 0 = a0)
    (hn : ∀ i, i < m → fr (i + 1) = (fr i).put (dstAt ops i) (vs i)) (hstep : ∀ i o, i < m → ops[i]? = some o → ReadT P W o (vs i) (fr i)) (hlast : oc.wp P (fr m) W (fun a1 w1 => ol.wp P a1 w1 (fun a w => Q .normal a w) Q) Q) :
    ∀ (f : Nat) (listed : Array Bool) (a : Act) (w : World), listed.size = ops.size → listed.count false ≤ f → (∀ j oj, ops[j]? = some oj → listed.getD j false = true → ∀ e ∈ oj.after, Region.binds .any e = true → listed.getD e.on false = true) →
      (listed.getD m false = false → Fr ops vs a0 (fun i => listed.getD i false = true) a ∧ w = W) → (listed.getD m false = true → listed.getD (m + 1) false = false → ol.wp P a w (fun a w => Q .normal a w) Q) → (listed.getD (m + 1) false = true → Q .normal a w) → wpAny P .any ops Q f listed a w := by
  have hlt : ∀ j t, dstAt ops j = some t → j < ops.size := fun j t hj => by
    unfold dstAt at hj
    cases hoj : ops[j]? with
    | none => rw [hoj] at hj; cases hj
    | some oj => exact (Array.getElem?_eq_some_iff.1 hoj).1
  have hd : ∀ i j t, dstAt ops i = some t → dstAt ops j = some t → i = j := fun i j t hi hj => by
    have hil := hlt i t hi
    have ho : ops[i]? = some ops[i] := by simp [hil]
    rcases ((seqOk_op hs ho).2 j t hj).1 with h | h
    · exact h.symm
    · exact absurd (by simpa [dstAt, ho] using hi) h
  have hfr : ∀ i, i ≤ m → Fr ops vs a0 (fun j => j < i) (fr i) := by
    intro i
    induction i with
    | zero => intro _; rw [h0]; exact ⟨rfl, rfl, fun _ _ h => (Nat.not_lt_zero _ h).elim, fun _ _ => rfl⟩
    | succ i ih =>
      intro hi
      rw [hn i (by omega)]
      have := (ih (by omega)).put hd i
      have e : (fun j => j < i ∨ j = i) = (fun j => j < i + 1) := by funext j; apply propext; omega
      rw [e] at this
      exact this
  have hdone : ∀ (listed : Array Bool), listed.size = ops.size → Region.ready .any ops listed = [] → listed.getD (m + 1) false = true := fun listed hz hr => ready_none hs hz hr (m + 1) (by omega)
  intro f
  induction f with
  | zero =>
    intro listed a w hz hc _ _ _ hQ
    have hr : Region.ready .any ops listed = [] := by
      cases hr : Region.ready .any ops listed with
      | nil => rfl
      | cons i l =>
        exfalso
        have hm : i ∈ Region.ready .any ops listed := by rw [hr]; exact List.mem_cons_self
        have h1 := (mem_ready.1 hm).1
        have hil : i < listed.size := by
          rcases Nat.lt_or_ge i listed.size with h | h
          · exact h
          · simp [Array.getElem?_eq_none h] at h1
        have : false ∈ listed := by
          simp [hil] at h1
          rw [← h1]; exact Array.getElem_mem hil
        have := Array.count_pos_iff.2 this
        omega
    exact ⟨hr, hQ (hdone listed hz hr)⟩
  | succ f ih =>
    intro listed a w hz hc hcl hF0 hC hQ
    refine ⟨fun hr => hQ (hdone listed hz hr), fun i hi => ?_⟩
    obtain ⟨hun, o, ho, hall'⟩ := mem_ready.1 hi
    have hil : i < ops.size := (Array.getElem?_eq_some_iff.1 ho).1
    have hl' : i < listed.size := by omega
    have hnot : listed.getD i false = false := by
      simp [hl'] at hun ⊢
      exact hun
    have hcount : (listed.setIfInBounds i true).count false ≤ f := by
      simp [hl'] at hun
      rw [Array.setIfInBounds_def, dif_pos hl', Array.count_set hl']
      simp [hun]
      omega
    have hcl' : ∀ j oj, ops[j]? = some oj → (listed.setIfInBounds i true).getD j false = true → ∀ e ∈ oj.after, Region.binds .any e = true → (listed.setIfInBounds i true).getD e.on false = true := by
      intro j oj hoj hl e he hb
      have hstay : ∀ k, listed.getD k false = true → (listed.setIfInBounds i true).getD k false = true := fun k hk => by
        by_cases hik : i = k
        · subst hik
          simp [hl']
        · rw [getD_set_ne false hik]; exact hk
      by_cases hji : i = j
      · subst hji
        rw [ho] at hoj
        cases hoj
        exact hstay _ (hall' e he hb)
      · rw [getD_set_ne false hji] at hl
        exact hstay _ (hcl j oj hoj hl e he hb)
    -- the last one is not up while one is not
    have hnl : listed.getD (m + 1) false = false := by
      cases hx : listed.getD (m + 1) false with
      | false => rfl
      | true =>
        exfalso
        by_cases him : i = m + 1
        · subst him; rw [hx] at hnot; cases hnot
        · have := hall _ hcl (hcl (m + 1) ol hol hx) i (by omega)
          rw [hnot] at this; cases this
    by_cases hi1 : i = m + 1
    · subst hi1
      rw [hol] at ho; cases ho
      have hcl1 : listed.getD m false = true := hall _ hcl hall' m (by omega)
      unfold wpOp
      simp only [hol]
      rw [if_pos (wantedT hlg _)]
      refine .inl (Oper.wp_mono (fun a' w' h => ?_) (hC hcl1 hnl))
      refine ih _ _ _ (by simp [hz]) hcount hcl' (fun hx => ?_) (fun _ hx => ?_) (fun _ => h)
      · rw [getD_set_ne false (by omega), hcl1] at hx; cases hx
      · simp [hl'] at hx
    · have hnc : listed.getD m false = false := by
        cases hx : listed.getD m false with
        | false => rfl
        | true =>
          exfalso
          by_cases him : i = m
          · subst him; rw [hx] at hnot; cases hnot
          · have := hallc _ hcl (hcl m oc hoc hx) i (by omega)
            rw [hnot] at this; cases this
      obtain ⟨hFr, rfl⟩ := hF0 hnc
      by_cases him : i = m
      · subst him
        rw [hoc] at ho; cases ho
        have ha : a = fr i := by
          have hFi := hfr i (Nat.le_refl _)
          have ht : a.tmps = (fr i).tmps := Array.ext_getElem? fun t => hFr.look hd hFi t (fun j hj => by
            have hjs := hlt j t hj
            rcases Nat.lt_or_ge j i with h | h
            · exact .inl ⟨hallc _ hcl hall' j h, h⟩
            · refine .inr ⟨fun hx => ?_, by omega⟩
              rcases (show j = i ∨ j = i + 1 by omega) with rfl | rfl
              · rw [hnot] at hx; cases hx
              · rw [hnl] at hx; cases hx)
          have hdf : a.defers = (fr i).defers := hFr.defers.trans hFi.defers.symm
          have : ∀ (x y : Act), x.tmps = y.tmps → x.defers = y.defers → x = y := fun x y h1 h2 => by cases x; cases y; simp_all
          exact this _ _ ht hdf
        subst ha
        unfold wpOp
        simp only [hoc]
        rw [if_pos (wantedT hcg _)]
        refine .inl (Oper.wp_mono (fun a' w' h => ?_) hlast)
        refine ih _ _ _ (by simp [hz]) hcount hcl' (fun hx => ?_) (fun _ _ => h) (fun hx => ?_)
        · simp [hl'] at hx
        · rw [getD_set_ne false (by omega), hnl] at hx; cases hx
      · have hFi := hfr i (by omega)
        have hlook : ∀ t, t ∈ o.looksAt ops → a.tmps[t]? = (fr i).tmps[t]? := fun t ht => hFr.look hd hFi t (fun j hj => by
          rcases ((seqOk_op hs ho).2 j t hj).2 ht with ⟨e, he, hb, hon⟩ | ⟨hij, oj, hoj, e, he, hb, hon⟩
          · have h1 := hall' e he hb
            have h2 := (seqOk_op hs ho).1 e he hb
            rw [hon] at h1 h2
            exact .inl ⟨h1, h2⟩
          · refine .inr ⟨fun hl => ?_, by omega⟩
            have := hcl j oj hoj hl e he hb
            rw [hon, hnot] at this
            cases this)
        obtain ⟨g1, g3⟩ := hstep i o (by omega) ho
        have hex : execOp a.eval o = execOp (fr i).eval o := execOp_congr o (fun cs b => Region.noSelect_spec (seqOk_sel hs) i o cs b ho) fun x hx => by
          cases x with
          | tmp t =>
            have := hlook t (List.mem_append_left _ (List.mem_filterMap.2 ⟨.tmp t, by simpa using hx, rfl⟩))
            simp only [Act.eval, Array.getD_eq_getD_getElem?, this]
          | _ => rfl
        unfold wpOp
        simp only [ho]
        rw [if_pos (wantedT g1 _)]
        refine .inl ?_
        unfold Oper.wp
        rw [hex, g3]
        refine ih _ _ _ (by simp [hz]) hcount hcl' (fun _ => ⟨?_, rfl⟩) (fun hx => ?_) (fun hx => ?_)
        · have h3 := hFr.put hd i
          have hdi : dstAt ops i = o.dst := by simp [dstAt, ho]
          rw [hdi] at h3
          have e : (fun j => listed.getD j false = true ∨ j = i) = (fun j => (listed.setIfInBounds i true).getD j false = true) := by
            funext j
            apply propext
            by_cases hji : i = j
            · subst hji
              simp [hl']
            · rw [getD_set_ne false hji]
              constructor
              · rintro (h | h)
                · exact h
                · exact absurd h.symm hji
              · exact .inl
          rw [e] at h3
          exact h3
        · rw [getD_set_ne false him, hnc] at hx; cases hx
        · rw [getD_set_ne false hi1, hnl] at hx; cases hx

/-- The operations, in their order: reads, and the two last ones. -/
def SeqC (P : Program) (W : World) (Q : Exit → Act → World → Prop) : List Oper → Act → Prop
  | [], _ => False
  | [_], _ => False
  | [c, s], a => c.wp P a W (fun a1 w1 => s.wp P a1 w1 (fun a w => Q .normal a w) Q) Q
  | o :: x :: y :: r, a => ∃ v, ReadT P W o v a ∧ SeqC P W Q (x :: y :: r) (a.put o.dst v)
theorem SeqC.read {W : World} {o x y : Oper} {r : List Oper} {a : Act} (v : Value) (h : ReadT P W o v a) (k : SeqC P W Q (x :: y :: r) (a.put o.dst v)) : SeqC P W Q (o :: x :: y :: r) a := by
  unfold SeqC
  exact ⟨v, h, k⟩
theorem SeqC.last {W : World} {c s : Oper} {a : Act} {f : FuncId} {args : Array Value} {post : Ending → World → Prop} (h1 : (execOp a.eval c).run P W = .ok (.enter f args) W) (hc : Calls P f args W post) (h2 : ∀ e w1, post e w1 → ∃ v, e = .returned v ∧ s.wp P (a.put c.dst v) w1 (fun a w => Q .normal a w) Q) : SeqC P W Q [c, s] a := by
  unfold SeqC Oper.wp
  rw [h1, Oper.upon_enter]
  refine hc.mono ?_
  intro e w1 hp
  obtain ⟨v, rfl, h⟩ := h2 e w1 hp
  exact h
theorem SeqC.vals {W : World} : ∀ (os : List Oper) (a : Act), SeqC P W Q os a → ∃ (m : Nat) (c s : Oper) (vs : Nat → Value) (fr : Nat → Act), os.length = m + 2 ∧ os[m]? = some c ∧ os[m + 1]? = some s ∧ fr 0 = a ∧ (∀ k o, k < m → os[k]? = some o → fr (k + 1) = (fr k).put o.dst (vs k) ∧ ReadT P W o (vs k) (fr k)) ∧ c.wp P (fr m) W (fun a1 w1 => s.wp P a1 w1 (fun a w => Q .normal a w) Q) Q
  | [], _, h => by unfold SeqC at h; exact h.elim
  | [_], _, h => by unfold SeqC at h; exact h.elim
  | [c, s], a, h => ⟨0, c, s, fun _ => undef, fun _ => a, rfl, rfl, rfl, rfl, fun k o hk => by omega, by unfold SeqC at h; exact h⟩
  | o :: x :: y :: r, a, h => by
    unfold SeqC at h
    obtain ⟨v, hs, h⟩ := h
    obtain ⟨m, c, s, vs, fr, hl, hc, hs', e, hk, hf⟩ := SeqC.vals (x :: y :: r) _ h
    refine ⟨m + 1, c, s, fun k => if k = 0 then v else vs (k - 1), fun k => if k = 0 then a else fr (k - 1), by simp at hl ⊢; omega, by simpa using hc, by simpa using hs', by simp, fun k o' hkm ho => ?_, by simpa using hf⟩
    cases k with
    | zero => simp at ho; subst ho; simp [e, hs]
    | succ k => simp only [List.getElem?_cons_succ] at ho; have := hk k o' (by omega) ho; simpa using this
/-- The two last ones wait for all ahead of them. -/
def waitsAll (ops : Array Oper) (m : Nat) (o : Oper) : Bool := o.guard.isNone && (List.range m).all fun j => (upTo ops m (waitsOf o)).contains j
theorem waits_iff {ops : Array Oper} {m : Nat} {o : Oper} (h : waitsAll ops m o = true) : o.guard = none ∧ WaitsT ops o m := by
  unfold waitsAll at h
  rw [Bool.and_eq_true] at h
  exact ⟨by simpa using h.1, waitsT_of h.2⟩
def twoOk (os : List Oper) : Bool := match os[os.length - 2]?, os[os.length - 1]? with
  | some c, some s => waitsAll os.toArray (os.length - 2) c && waitsAll os.toArray (os.length - 1) s
  | _, _ => false
theorem wp_region_two {os : List Oper} {id : Nat} {a : Act} {w : World} (hm : P.follows .mixedOrders = true) (hs : seqOk os.toArray = true) (h2 : twoOk os = true) (h : SeqC P w.drew Q os a) : (Code.region id os.toArray true).wp P Q a w := by
  obtain ⟨m, c, s, vs, fr, hl, hc, hs', e, hk, hf⟩ := SeqC.vals _ _ h
  unfold twoOk at h2
  rw [show os.length - 2 = m by omega, show os.length - 1 = m + 1 by omega, hc, hs'] at h2
  simp only [Bool.and_eq_true] at h2
  obtain ⟨gc, wc⟩ := waits_iff h2.1
  obtain ⟨gl, wl⟩ := waits_iff h2.2
  refine wp_region_any hm (wpAny_two (vs := vs) (W := w.drew) hs m (by simpa using hl) c s (by simpa using hc) (by simpa using hs') gc gl wc wl fr e (fun i hi => ?_) (fun i o hi ho => ?_) hf _ _ _ _ (by simp) (by simp) (fun j oj hoj hl' => ?_) (fun _ => ⟨?_, rfl⟩) (fun hx => ?_) (fun hx => ?_))
  · obtain ⟨o, ho⟩ : ∃ o, os[i]? = some o := ⟨os[i]'(by omega), by simp⟩
    rw [(hk i o hi ho).1]
    simp [dstAt, ho]
  · exact (hk i o hi (by simpa using ho)).2
  · exfalso
    have hjl : j < os.length := by simpa using (Array.getElem?_eq_some_iff.1 hoj).1
    simp [hjl] at hl'
  · refine ⟨rfl, rfl, fun i d hi => ?_, fun _ _ => rfl⟩
    by_cases hlt : i < os.length
    · simp [hlt] at hi
    · simp [hlt] at hi
  · exfalso
    have : m < os.length := by omega
    simp [this] at hx
  · exfalso
    have : m + 1 < os.length := by omega
    simp [this] at hx
end
end Go.Proofs.YtaeeoehmocelhaaGreatDoor
namespace Go.Proofs.YtaeeoehmocelhaaGreatDoor
open Go.RowKit Go.Shelf

section
variable {l nF : Nat} {P : Program} {ops : Array Oper} {vs : Nat → Value} {a0 : Act} {Q : Exit → Act → World → Prop}

def noDefer (ops : Array Oper) : Bool := ops.all fun o => match o.op with
  | .defer _ => false
  | _ => true
theorem noDefer_op {ops : Array Oper} (h : noDefer ops = true) {i : Nat} {o : Oper} (ho : ops[i]? = some o) : ∀ c, o.op ≠ .defer c := by
  intro c e
  have := Array.all_eq_true_iff_forall_mem.1 h o (Array.mem_of_getElem? ho)
  rw [e] at this
  cases this
theorem StepK.wpOpIn {W : World} {i : Nat} {v : Value} {a b : Act} (h : StepK P ops W i v b) (hnd : noDefer ops = true)
    (he : ∀ o, ops[i]? = some o → execOp a.eval o = execOp b.eval o ∧ Region.wanted o (yielded ops a.tmps) = Region.wanted o (yielded ops b.tmps))
    {K : Act → World → Prop} {w : World} (hw : Kept W w) (hK : ∀ w', Kept w w' → K (a.put (dstAt ops i) v) w') : wpOpIn (Fence.wide.inRound l) nF P ops Q i K a w := by
  obtain ⟨o, ho, h⟩ := h
  obtain ⟨e1, e2⟩ := he o ho
  have g2 := noDefer_op hnd ho
  have hdst : dstAt ops i = o.dst := by simp [dstAt, ho]
  rw [hdst] at hK
  unfold Go.wpOpIn
  simp only [ho]
  rw [e2]
  rcases h with ⟨hn, rfl⟩ | ⟨hy, h⟩
  · simp only [hn, Bool.false_eq_true, if_false]
    exact ⟨fun _ _ => trivial, hK w (Below.refl _ _)⟩
  · simp only [hy, if_true]
    refine ⟨fun _ _ => trivial, ?_⟩
    rw [Oper.semAt_eq _ _ _ g2, e1]
    rcases h w hw with h | ⟨f, args, h, hc⟩
    · rw [h]; exact hK w (Below.refl _ _)
    · rw [h, Oper.uponIn_enter]
      refine ⟨(fun h => by cases h), (CallsIn.inRound l (callsIn_wide.2 hc)).mono ?_⟩
      rintro e w' ⟨rfl, hk⟩
      exact hK w' hk
theorem wpAnyIn_seq {W : World} (hs : seqOk ops = true) (hnd : noDefer ops = true) (fr : Nat → Act) (h0 : fr 0 = a0)
    (hn : ∀ i, i < ops.size → fr (i + 1) = (fr i).put (dstAt ops i) (vs i)) (hstep : ∀ i, i < ops.size → StepK P ops W i (vs i) (fr i)) (hfin : ∀ w, Kept W w → Q .normal (fr ops.size) w) :
    ∀ (f : Nat) (listed : Array Bool) (a : Act) (w : World), listed.size = ops.size → listed.count false ≤ f → Kept W w → (∀ j oj, ops[j]? = some oj → listed.getD j false = true → ∀ e ∈ oj.after, Region.binds .any e = true → listed.getD e.on false = true) → Fr ops vs a0 (fun i => listed.getD i false = true) a → wpAnyIn (Fence.wide.inRound l) nF P .any ops Q f listed a w := by
  have hlt : ∀ j t, dstAt ops j = some t → j < ops.size := fun j t hj => by
    unfold dstAt at hj
    cases hoj : ops[j]? with
    | none => rw [hoj] at hj; cases hj
    | some oj => exact (Array.getElem?_eq_some_iff.1 hoj).1
  have hd : ∀ i j t, dstAt ops i = some t → dstAt ops j = some t → i = j := fun i j t hi hj => by
    have hil := hlt i t hi
    have ho : ops[i]? = some ops[i] := by simp [hil]
    rcases ((seqOk_op hs ho).2 j t hj).1 with h | h
    · exact h.symm
    · exact absurd (by simpa [dstAt, ho] using hi) h
  have hfr : ∀ i, i ≤ ops.size → Fr ops vs a0 (fun j => j < i) (fr i) := by
    intro i
    induction i with
    | zero => intro _; rw [h0]; exact ⟨rfl, rfl, fun _ _ h => (Nat.not_lt_zero _ h).elim, fun _ _ => rfl⟩
    | succ i ih =>
      intro hi
      rw [hn i (by omega)]
      have := (ih (by omega)).put hd i
      have e : (fun j => j < i ∨ j = i) = (fun j => j < i + 1) := by funext j; apply propext; omega
      rw [e] at this
      exact this
  have hdone : ∀ (listed : Array Bool) (a : Act) (w : World), listed.size = ops.size → Kept W w → Fr ops vs a0 (fun i => listed.getD i false = true) a → Region.ready .any ops listed = [] → Q .normal a w := by
    intro listed a w hz hw hF hr
    have := hF.ext hd (hfr ops.size (Nat.le_refl _)) (fun j t hj => ⟨ready_none hs hz hr j (hlt j t hj), hlt j t hj⟩)
    rw [this]
    exact hfin w hw
  intro f
  induction f with
  | zero =>
    intro listed a w hz hc hw _ hF
    have hr : Region.ready .any ops listed = [] := by
      cases hr : Region.ready .any ops listed with
      | nil => rfl
      | cons i l =>
        exfalso
        have hm : i ∈ Region.ready .any ops listed := by rw [hr]; exact List.mem_cons_self
        have h1 := (mem_ready.1 hm).1
        have hil : i < listed.size := by
          rcases Nat.lt_or_ge i listed.size with h | h
          · exact h
          · simp [Array.getElem?_eq_none h] at h1
        have : false ∈ listed := by
          simp [hil] at h1
          rw [← h1]; exact Array.getElem_mem hil
        have := Array.count_pos_iff.2 this
        omega
    exact ⟨hr, hdone listed a w hz hw hF hr⟩
  | succ f ih =>
    intro listed a w hz hc hw hcl hF
    refine ⟨hdone listed a w hz hw hF, fun i hi => ?_⟩
    obtain ⟨hun, o, ho, hall⟩ := mem_ready.1 hi
    have hil : i < ops.size := (Array.getElem?_eq_some_iff.1 ho).1
    have hFi := hfr i (by omega)
    have hnot : listed.getD i false = false := by
      have hl' : i < listed.size := by omega
      simp [hl'] at hun ⊢
      exact hun
    have hlook : ∀ t, t ∈ o.looksAt ops → a.tmps[t]? = (fr i).tmps[t]? := fun t ht => hF.look hd hFi t (fun j hj => by
      rcases ((seqOk_op hs ho).2 j t hj).2 ht with ⟨e, he, hb, hon⟩ | ⟨hij, oj, hoj, e, he, hb, hon⟩
      · have h1 := hall e he hb
        have h2 := (seqOk_op hs ho).1 e he hb
        rw [hon] at h1 h2
        exact .inl ⟨h1, h2⟩
      · refine .inr ⟨fun hl => ?_, by omega⟩
        have := hcl j oj hoj hl e he hb
        rw [hon, hnot] at this
        cases this)
    refine (hstep i hil).wpOpIn (a := a) hnd ?_ hw ?_
    · intro o' ho'
      rw [ho] at ho'; cases ho'
      refine ⟨execOp_congr o (fun cs b => Region.noSelect_spec (seqOk_sel hs) i o cs b ho) fun x hx => ?_, ?_⟩
      · cases x with
        | tmp t =>
          have := hlook t (List.mem_append_left _ (List.mem_filterMap.2 ⟨.tmp t, by simpa using hx, rfl⟩))
          simp only [Act.eval, Array.getD_eq_getD_getElem?, this]
        | _ => rfl
      · unfold Region.wanted
        cases hg : o.guard with
        | none => rfl
        | some gw =>
          obtain ⟨g, want⟩ := gw
          have hy : yielded ops a.tmps g = yielded ops (fr i).tmps g := by
            unfold yielded
            cases ht : (ops[g]?).bind (·.dst) with
            | none => rfl
            | some t =>
              have := hlook t (by simp [Oper.looksAt, hg, ht])
              simp [this]
          simp only [hy]
    · intro w' hw'
      refine ih _ _ _ (by simp [hz]) ?_ (hw.trans hw') (fun j oj hoj hl e he hb => ?_) ?_
      · have hl' : i < listed.size := by omega
        simp [hl'] at hun
        rw [Array.setIfInBounds_def, dif_pos hl', Array.count_set hl']
        simp [hun]
        omega
      · have hstay : ∀ k, listed.getD k false = true → (listed.setIfInBounds i true).getD k false = true := fun k hk => by
          by_cases hik : i = k
          · subst hik
            have hl' : i < listed.size := by omega
            simp [hl']
          · rw [getD_set_ne false hik]; exact hk
        by_cases hji : i = j
        · subst hji
          rw [ho] at hoj
          cases hoj
          exact hstay _ (hall e he hb)
        · rw [getD_set_ne false hji] at hl
          exact hstay _ (hcl j oj hoj hl e he hb)
      · have h3 := hF.put hd i
        have e : (fun j => listed.getD j false = true ∨ j = i) = (fun j => (listed.setIfInBounds i true).getD j false = true) := by
          funext j
          apply propext
          by_cases hji : i = j
          · subst hji
            have hl' : i < listed.size := by omega
            simp [hl']
          · rw [getD_set_ne false hji]
            constructor
            · rintro (h | h)
              · exact h
              · exact absurd h.symm hji
            · exact .inl
        rw [e] at h3
        exact h3
/-- A region that draws, in a round, walked in one order. -/
theorem wpIn_region_seqL {os : List Oper} {id : Nat} {a : Act} {w : World} (hm : P.follows .mixedOrders = true) (hs : seqOk os.toArray = true) (hnd : noDefer os.toArray = true)
    (h : SeqL P os.toArray w.drew (fun a' => ∀ w', Kept w.drew w' → Q .normal a' w') os a) : (Code.region id os.toArray true).wpIn (Fence.wide.inRound l) nF P Q a w := by
  have h1 := SeqL.seqK (W := w.drew) os [] a h
  simp only [List.nil_append, List.length_nil] at h1
  obtain ⟨vs, fr, e, hk, hf⟩ := SeqK.vals _ _ _ h1
  rw [Nat.zero_add] at hf
  have hz : os.toArray.size = os.length := by simp
  refine wpIn_region_any hm (wpAnyIn_seq (vs := vs) (W := w.drew) hs hnd fr e (fun i hi => (hk i (Nat.zero_le _) (by omega)).1) (fun i hi => (hk i (Nat.zero_le _) (by omega)).2) (by rw [hz]; exact hf) _ _ _ _ (by simp) (by simp) (Below.refl _ _) (fun j oj hoj hl => ?_) ?_)
  · exfalso
    have hjl : j < os.toArray.size := (Array.getElem?_eq_some_iff.1 hoj).1
    simp at hjl
    simp [hjl] at hl
  refine ⟨rfl, rfl, fun i d hi => ?_, fun _ _ => rfl⟩
  by_cases hlt : i < os.length
  · simp [hlt] at hi
  · simp [hlt] at hi
end
end Go.Proofs.YtaeeoehmocelhaaGreatDoor
namespace Go.Proofs.YtaeeoehmocelhaaGreatDoor
open Go.RowKit Go.Shelf

/-- A fence that lets in all. -/
structure WideF (F : Fence) : Prop where
  fn : ∀ f, F.fn f
  deep : ¬ F.depth.isSome = true
  calls : ∀ {P : Program} {n : Nat} {f : FuncId} {args : Array Value} {w : World} {R : Ending → World → Prop}, Calls P f args w R → CallsIn F n P f args w R
theorem WideF.wide : WideF Fence.wide := ⟨fun _ => trivial, (fun h => (by cases h)), fun h => callsIn_wide.2 h⟩
theorem WideF.round (l : Nat) : WideF (Fence.wide.inRound l) := ⟨fun _ => trivial, (fun h => (by cases h)), fun h => CallsIn.inRound l (callsIn_wide.2 h)⟩
section
variable {F : Fence} {nF : Nat} {P : Program} {ops : Array Oper} {vs : Nat → Value} {a0 : Act} {Q : Exit → Act → World → Prop}

theorem StepK.wpOpF {W : World} {i : Nat} {v : Value} {a b : Act} (hF : WideF F) (h : StepK P ops W i v b) (hnd : noDefer ops = true)
    (he : ∀ o, ops[i]? = some o → execOp a.eval o = execOp b.eval o ∧ Region.wanted o (yielded ops a.tmps) = Region.wanted o (yielded ops b.tmps))
    {K : Act → World → Prop} {w : World} (hw : Kept W w) (hK : ∀ w', Kept w w' → K (a.put (dstAt ops i) v) w') : Go.wpOpIn F nF P ops Q i K a w := by
  obtain ⟨o, ho, h⟩ := h
  obtain ⟨e1, e2⟩ := he o ho
  have g2 := noDefer_op hnd ho
  have hdst : dstAt ops i = o.dst := by simp [dstAt, ho]
  rw [hdst] at hK
  unfold Go.wpOpIn
  simp only [ho]
  rw [e2]
  rcases h with ⟨hn, rfl⟩ | ⟨hy, h⟩
  · simp only [hn, Bool.false_eq_true, if_false]
    exact ⟨fun f _ => hF.fn f, hK w (Below.refl _ _)⟩
  · simp only [hy, if_true]
    refine ⟨fun f _ => hF.fn f, ?_⟩
    rw [Oper.semAt_eq _ _ _ g2, e1]
    rcases h w hw with h | ⟨f, args, h, hc⟩
    · rw [h]; exact hK w (Below.refl _ _)
    · rw [h, Oper.uponIn_enter]
      refine ⟨(fun h => absurd h hF.deep), (hF.calls hc).mono ?_⟩
      rintro e w' ⟨rfl, hk⟩
      exact hK w' hk
theorem wpAnyIn_lastK {W : World} (hF : WideF F) (hs : seqOk ops = true) (hnd : noDefer ops = true) (m : Nat) (hm : ops.size = m + 1) (ol : Oper) (hol : ops[m]? = some ol) (hlg : ol.guard = none) (hall : WaitsT ops ol m) (fr : Nat → Act) (h0 : fr 0 = a0)
    (hn : ∀ i, i < m → fr (i + 1) = (fr i).put (dstAt ops i) (vs i)) (hstep : ∀ i, i < m → StepK P ops W i (vs i) (fr i)) (hlast : ∀ w, Kept W w → ol.wpIn F nF P (fr m) w (fun a w => Q .normal a w) Q) :
    ∀ (f : Nat) (listed : Array Bool) (a : Act) (w : World), listed.size = ops.size → listed.count false ≤ f → (∀ j oj, ops[j]? = some oj → listed.getD j false = true → ∀ e ∈ oj.after, Region.binds .any e = true → listed.getD e.on false = true) →
      (listed.getD m false = false → Fr ops vs a0 (fun i => listed.getD i false = true) a ∧ Kept W w) → (listed.getD m false = true → Q .normal a w) → wpAnyIn F nF P .any ops Q f listed a w := by
  have hlt : ∀ j t, dstAt ops j = some t → j < ops.size := fun j t hj => by
    unfold dstAt at hj
    cases hoj : ops[j]? with
    | none => rw [hoj] at hj; cases hj
    | some oj => exact (Array.getElem?_eq_some_iff.1 hoj).1
  have hd : ∀ i j t, dstAt ops i = some t → dstAt ops j = some t → i = j := fun i j t hi hj => by
    have hil := hlt i t hi
    have ho : ops[i]? = some ops[i] := by simp [hil]
    rcases ((seqOk_op hs ho).2 j t hj).1 with h | h
    · exact h.symm
    · exact absurd (by simpa [dstAt, ho] using hi) h
  have hfr : ∀ i, i ≤ m → Fr ops vs a0 (fun j => j < i) (fr i) := by
    intro i
    induction i with
    | zero => intro _; rw [h0]; exact ⟨rfl, rfl, fun _ _ h => (Nat.not_lt_zero _ h).elim, fun _ _ => rfl⟩
    | succ i ih =>
      intro hi
      rw [hn i (by omega)]
      have := (ih (by omega)).put hd i
      have e : (fun j => j < i ∨ j = i) = (fun j => j < i + 1) := by funext j; apply propext; omega
      rw [e] at this
      exact this
  have hdone : ∀ (listed : Array Bool), listed.size = ops.size → Region.ready .any ops listed = [] → listed.getD m false = true := fun listed hz hr => ready_none hs hz hr m (by omega)
  intro f
  induction f with
  | zero =>
    intro listed a w hz hc _ _ hQ
    have hr : Region.ready .any ops listed = [] := by
      cases hr : Region.ready .any ops listed with
      | nil => rfl
      | cons i l =>
        exfalso
        have hm : i ∈ Region.ready .any ops listed := by rw [hr]; exact List.mem_cons_self
        have h1 := (mem_ready.1 hm).1
        have hil : i < listed.size := by
          rcases Nat.lt_or_ge i listed.size with h | h
          · exact h
          · simp [Array.getElem?_eq_none h] at h1
        have : false ∈ listed := by
          simp [hil] at h1
          rw [← h1]; exact Array.getElem_mem hil
        have := Array.count_pos_iff.2 this
        omega
    exact ⟨hr, hQ (hdone listed hz hr)⟩
  | succ f ih =>
    intro listed a w hz hc hcl hF0 hQ
    refine ⟨fun hr => hQ (hdone listed hz hr), fun i hi => ?_⟩
    obtain ⟨hun, o, ho, hall'⟩ := mem_ready.1 hi
    have hil : i < ops.size := (Array.getElem?_eq_some_iff.1 ho).1
    have hl' : i < listed.size := by omega
    have hnot : listed.getD i false = false := by
      simp [hl'] at hun ⊢
      exact hun
    have hcount : (listed.setIfInBounds i true).count false ≤ f := by
      simp [hl'] at hun
      rw [Array.setIfInBounds_def, dif_pos hl', Array.count_set hl']
      simp [hun]
      omega
    have hcl' : ∀ j oj, ops[j]? = some oj → (listed.setIfInBounds i true).getD j false = true → ∀ e ∈ oj.after, Region.binds .any e = true → (listed.setIfInBounds i true).getD e.on false = true := by
      intro j oj hoj hl e he hb
      have hstay : ∀ k, listed.getD k false = true → (listed.setIfInBounds i true).getD k false = true := fun k hk => by
        by_cases hik : i = k
        · subst hik
          simp [hl']
        · rw [getD_set_ne false hik]; exact hk
      by_cases hji : i = j
      · subst hji
        rw [ho] at hoj
        cases hoj
        exact hstay _ (hall' e he hb)
      · rw [getD_set_ne false hji] at hl
        exact hstay _ (hcl j oj hoj hl e he hb)
    have hnl : listed.getD m false = false := by
      cases hx : listed.getD m false with
      | false => rfl
      | true =>
        exfalso
        by_cases him : i = m
        · subst him; rw [hx] at hnot; cases hnot
        · have := hall _ hcl (hcl m ol hol hx) i (by omega)
          rw [hnot] at this; cases this
    obtain ⟨hFr, hKw⟩ := hF0 hnl
    by_cases him : i = m
    · subst him
      rw [hol] at ho; cases ho
      have ha : a = fr i := by
        have hFi := hfr i (Nat.le_refl _)
        have ht : a.tmps = (fr i).tmps := Array.ext_getElem? fun t => hFr.look hd hFi t (fun j hj => by
          have hjs := hlt j t hj
          rcases Nat.lt_or_ge j i with h | h
          · exact .inl ⟨hall _ hcl hall' j h, h⟩
          · refine .inr ⟨fun hx => ?_, by omega⟩
            obtain rfl : j = i := by omega
            rw [hnot] at hx; cases hx)
        have hdf : a.defers = (fr i).defers := hFr.defers.trans hFi.defers.symm
        have : ∀ (x y : Act), x.tmps = y.tmps → x.defers = y.defers → x = y := fun x y h1 h2 => by cases x; cases y; simp_all
        exact this _ _ ht hdf
      subst ha
      unfold wpOpIn
      simp only [hol]
      rw [if_pos (wanted_none hlg _)]
      refine Oper.wpIn_mono (fun a' w' h => ?_) (hlast w hKw)
      refine ih _ _ _ (by simp [hz]) hcount hcl' (fun hx => ?_) (fun _ => h)
      simp [hl'] at hx
    · have hFi := hfr i (by omega)
      have hlook : ∀ t, t ∈ o.looksAt ops → a.tmps[t]? = (fr i).tmps[t]? := fun t ht => hFr.look hd hFi t (fun j hj => by
        rcases ((seqOk_op hs ho).2 j t hj).2 ht with ⟨e, he, hb, hon⟩ | ⟨hij, oj, hoj, e, he, hb, hon⟩
        · have h1 := hall' e he hb
          have h2 := (seqOk_op hs ho).1 e he hb
          rw [hon] at h1 h2
          exact .inl ⟨h1, h2⟩
        · refine .inr ⟨fun hl => ?_, by omega⟩
          have := hcl j oj hoj hl e he hb
          rw [hon, hnot] at this
          cases this)
      refine (hstep i (by omega)).wpOpF (a := a) hF hnd ?_ hKw ?_
      · intro o' ho'
        rw [ho] at ho'; cases ho'
        refine ⟨execOp_congr o (fun cs b => Region.noSelect_spec (seqOk_sel hs) i o cs b ho) fun x hx => ?_, ?_⟩
        · cases x with
          | tmp t =>
            have := hlook t (List.mem_append_left _ (List.mem_filterMap.2 ⟨.tmp t, by simpa using hx, rfl⟩))
            simp only [Act.eval, Array.getD_eq_getD_getElem?, this]
          | _ => rfl
        · unfold Region.wanted
          cases hg : o.guard with
          | none => rfl
          | some gw =>
            obtain ⟨g, want⟩ := gw
            have hy : yielded ops a.tmps g = yielded ops (fr i).tmps g := by
              unfold yielded
              cases ht : (ops[g]?).bind (·.dst) with
              | none => rfl
              | some t =>
                have := hlook t (by simp [Oper.looksAt, hg, ht])
                simp [this]
            simp only [hy]
      · intro w' hw'
        refine ih _ _ _ (by simp [hz]) hcount hcl' (fun _ => ⟨?_, hKw.trans hw'⟩) (fun hx => ?_)
        · have h3 := hFr.put hd i
          have e : (fun j => listed.getD j false = true ∨ j = i) = (fun j => (listed.setIfInBounds i true).getD j false = true) := by
            funext j
            apply propext
            by_cases hji : i = j
            · subst hji
              simp [hl']
            · rw [getD_set_ne false hji]
              constructor
              · rintro (h | h)
                · exact h
                · exact absurd h.symm hji
              · exact .inl
          rw [e] at h3
          exact h3
        · rw [getD_set_ne false him, hnl] at hx; cases hx
theorem SeqL.seqK2 {W : World} {fin : Act → Prop} : ∀ (os pre post : List Oper) (a : Act), SeqL P (pre ++ os ++ post).toArray W fin os a → SeqK P (pre ++ os ++ post).toArray W fin os.length pre.length a
  | [], _, _, _, h => h
  | o :: os, pre, post, a, h => by
    obtain ⟨v, hs, h⟩ := h
    have ho : (pre ++ o :: os ++ post).toArray[pre.length]? = some o := by simp
    refine ⟨v, ⟨o, ho, hs⟩, ?_⟩
    have hd : dstAt (pre ++ o :: os ++ post).toArray pre.length = o.dst := by simp [dstAt]
    rw [hd]
    have e : pre ++ o :: os ++ post = (pre ++ [o]) ++ os ++ post := by simp
    rw [e] at h ⊢
    have := SeqL.seqK2 os (pre ++ [o]) post _ h
    simpa using this
/-- The last one waits for all ahead of it. -/
def oneOk (os : List Oper) : Bool := match os[os.length - 1]? with
  | some s => waitsAll os.toArray (os.length - 1) s
  | _ => false
/-- A region that draws: all but the last one in one order, then the last one. -/
theorem wpIn_region_lastK {os : List Oper} {ol : Oper} {id : Nat} {a : Act} {w : World} (hF : WideF F) (hm : P.follows .mixedOrders = true) (hs : seqOk os.toArray = true) (hnd : noDefer os.toArray = true) (h1 : oneOk os = true) (hol : os.getLast? = some ol)
    (h : SeqL P os.toArray w.drew (fun a' => ∀ w', Kept w.drew w' → ol.wpIn F nF P a' w' (fun a w => Q .normal a w) Q) os.dropLast a) : (Code.region id os.toArray true).wpIn F nF P Q a w := by
  obtain ⟨os', rfl⟩ : ∃ os', os = os' ++ [ol] := by
    rw [List.getLast?_eq_some_iff] at hol
    exact hol
  rw [List.dropLast_concat] at h
  have h2 := SeqL.seqK2 (W := w.drew) os' [] [ol] a (by simpa using h)
  simp only [List.nil_append, List.length_nil] at h2
  obtain ⟨vs, fr, e, hk, hf⟩ := SeqK.vals _ _ _ h2
  rw [Nat.zero_add] at hf
  have hw : ol.guard = none ∧ WaitsT (os' ++ [ol]).toArray ol os'.length := by
    unfold oneOk at h1
    simp only [List.length_append, List.length_cons, List.length_nil, Nat.zero_add, Nat.add_sub_cancel, List.getElem?_concat_length] at h1
    exact waits_iff h1
  refine wpIn_region_any hm (wpAnyIn_lastK (vs := vs) (W := w.drew) hF hs hnd os'.length (by simp) ol (by simp) hw.1 hw.2 fr e (fun i hi => (hk i (Nat.zero_le _) (by omega)).1) (fun i hi => (hk i (Nat.zero_le _) (by omega)).2) hf _ _ _ _ (by simp) (by simp) (fun j oj hoj hl => ?_) (fun _ => ⟨?_, Below.refl _ _⟩) (fun hx => ?_))
  · exfalso
    simp only [Array.getD_eq_getD_getElem?, Array.getElem?_replicate] at hl
    split at hl <;> simp at hl
  · refine ⟨rfl, rfl, fun i d hi => ?_, fun _ _ => rfl⟩
    simp only [Array.getD_eq_getD_getElem?, Array.getElem?_replicate] at hi
    split at hi <;> simp at hi
  · simp only [Array.getD_eq_getD_getElem?, Array.getElem?_replicate] at hx
    split at hx <;> simp at hx
end
end Go.Proofs.YtaeeoehmocelhaaGreatDoor
namespace Go.Proofs.YtaeeoehmocelhaaGreatDoor
open Go.RowKit

theorem Row.spliced {W : World} {g : Nat} {zs vs : List Int} {cur : List Value} {o : Nat} (hb : ∀ z ∈ zs, -9223372036854775808 ≤ z ∧ z ≤ 9223372036854775807) (hv : ∀ z ∈ vs, -9223372036854775808 ≤ z ∧ z ≤ 9223372036854775807) (hl : zs.length ≤ cur.length) (hc : ∀ j, j < zs.length → cur[j]? = some (.int .i64 (hz zs j))) (hfit : o + vs.length ≤ zs.length)
    (h : W.heap[g]? = some (.cells (splice cur o (vs.map (Value.int .i64))).toArray 3 (0, 0))) : Row W g (Go.Proofs.YtaeeoehmocelhaaGreatDoor.sets zs o vs) := by
  have hlen : (splice cur o (vs.map (Value.int .i64))).length = cur.length := length_splice _ _ _ (by simp; omega)
  refine ⟨?_, _, h, ?_, fun j hj => ?_⟩
  · intro z hz'
    obtain ⟨j, hj, e⟩ := List.getElem_of_mem hz'
    have e1 : hz (Go.Proofs.YtaeeoehmocelhaaGreatDoor.sets zs o vs) j = z := by simp [hz, List.getElem?_eq_getElem hj, e]
    rw [sets_len] at hj
    rw [hz_sets _ _ _ _ hfit] at e1
    rw [← e1]
    split
    · rename_i hh
      have : j - o < vs.length := by omega
      unfold hz
      rw [List.getElem?_eq_getElem this]
      exact hv _ (List.getElem_mem this)
    · unfold hz
      rw [List.getElem?_eq_getElem hj]
      exact hb _ (List.getElem_mem hj)
  · rw [sets_len, List.size_toArray, hlen]; exact hl
  · rw [sets_len] at hj
    rw [hz_sets _ _ _ _ hfit]
    simp only [List.getElem?_toArray, splice]
    by_cases h1 : j < o
    · rw [if_neg (by omega), List.getElem?_append_left (by simp; omega), List.getElem?_take, if_pos h1]
      exact hc j hj
    · rw [List.getElem?_append_right (by simp; omega)]
      rw [show (cur.take o).length = o by simp; omega]
      by_cases h2 : j < o + vs.length
      · rw [if_pos ⟨by omega, h2⟩, List.getElem?_append_left (by simp; omega)]
        have : j - o < vs.length := by omega
        simp [hz, List.getElem?_eq_getElem this]
      · rw [if_neg (by omega), List.getElem?_append_right (by simp; omega), List.getElem?_drop]
        rw [show o + (vs.map (Value.int .i64)).length + (j - o - (vs.map (Value.int .i64)).length) = j by simp; omega]
        exact hc j hj
theorem wpList_copy_grown {P : Program} {w : World} {ops : Array Oper} {rest : List Oper} {o : Oper} {a : Act} {Q : Exit → Act → World → Prop} (hgd : o.guard = none) (d s : Operand) (dT sT : TypeId)
    (ho : o.op = .call { callee := .builtin .copy, args := #[d, s], argTypes := #[dT, sT] }) (elem : TypeId) (hu : P.underlying dT = some (.slice elem)) (hsz : (P.info? elem).map (·.size) = some 1)
    (g off dLen dCap : Nat) (ad : Addr) (sLen sCap : Nat) (hd : a.eval d = .slice (some ⟨g, off, none⟩) dLen dCap) (hs : a.eval s = .slice (some ad) sLen sCap)
    (cur : Array Value) (t : TypeId) (hg : w.heap[g]? = some (.cells cur t (0, 0))) (cs : List Value) (hn : cs.length = Nat.min sLen dLen)
    (hsrc : ∀ j v, cs[j]? = some v → w.cell? (ad.add j) = some v) (hfit : off + cs.length ≤ cur.size) (h1 : ∀ v ∈ cs, v.oneCell' = true)
    (h : ∀ w', Hid (w'.heap[g]? = some (.cells (splice cur.toList off cs).toArray t (0, 0))) → w.grownBy w' (some g) → wpList P ops Q rest (a.put o.dst (goInt cs.length)) w') : wpList P ops Q (o :: rest) a w :=
  wpList_copy_own hgd d s dT sT ho elem hu hsz g off dLen dCap ad sLen sCap hd hs cur t hg cs hn hsrc hfit h1 (h _ (setRow_heap w g _ _ t _ hg) ⟨rfl, rfl, rfl, by simp [World.setRow], fun k _ hk => setRow_other w g k _ (fun e => hk (by rw [e]))⟩)
theorem wpIn_copy {F : Fence} {nF : Nat} {P : Program} {w : World} {o : Oper} {a : Act} {K : Act → World → Prop} {Q : Exit → Act → World → Prop} (hF : WideF F) (d s : Operand) (dT sT : TypeId)
    (ho : o.op = .call { callee := .builtin .copy, args := #[d, s], argTypes := #[dT, sT] }) (elem : TypeId) (hu : P.underlying dT = some (.slice elem)) (hsz : (P.info? elem).map (·.size) = some 1)
    (g off dLen dCap : Nat) (ad : Addr) (sLen sCap : Nat) (hd : a.eval d = .slice (some ⟨g, off, none⟩) dLen dCap) (hs : a.eval s = .slice (some ad) sLen sCap)
    (cur : Array Value) (t : TypeId) (hg : w.heap[g]? = some (.cells cur t (0, 0))) (cs : List Value) (hn : cs.length = Nat.min sLen dLen)
    (hsrc : ∀ j v, cs[j]? = some v → w.cell? (ad.add j) = some v) (hfit : off + cs.length ≤ cur.size) (h1 : ∀ v ∈ cs, v.oneCell' = true)
    (h : ∀ w', Hid (w'.heap[g]? = some (.cells (splice cur.toList off cs).toArray t (0, 0))) → w.grownBy w' (some g) → K (a.put o.dst (goInt cs.length)) w') : o.wpIn F nF P a w K Q := by
  have hrun := run_copy_row (P := P) w dT sT o.type elem g off dLen dCap ad sLen sCap cur t cs hu hsz hg hn hsrc hfit h1
  refine ⟨fun f _ => hF.fn f, ?_⟩
  rw [Oper.semAt_eq _ _ _ (by intro c e; rw [ho] at e; cases e)]
  simp [execOp, ho, resolve, invoke, builtin, hd, hs, hrun, Result.andThen]
  exact h _ (setRow_heap w g _ _ t _ hg) ⟨rfl, rfl, rfl, by simp [World.setRow], fun k _ hk => setRow_other w g k _ (fun e => hk (by rw [e]))⟩
end Go.Proofs.YtaeeoehmocelhaaGreatDoor
namespace Go.Proofs.YtaeeoehmocelhaaGreatDoor
open Go.RowKit Go.Shelf

theorem ext_hz {l m : List Int} (hlen : l.length = m.length) (h : ∀ j, j < l.length → hz l j = hz m j) : l = m := by
  refine List.ext_getElem hlen (fun j h1 h2 => ?_)
  have := h j h1
  unfold hz at this
  rw [List.getElem?_eq_getElem h1, List.getElem?_eq_getElem h2] at this
  simpa using this
/-- The words of a block, of which those from off on, so many, are moved. -/
def blkP (f : Int → Int) (zs : List Int) (a s off i : Nat) : List Int := (List.range s).map (fun k => if off ≤ k ∧ k < off + i then f (hz zs (a + k)) else hz zs (a + k))
theorem blkP_len (f : Int → Int) (zs : List Int) (a s off i : Nat) : (blkP f zs a s off i).length = s := by simp [blkP]
theorem hz_blkP {f : Int → Int} {zs : List Int} {a s off i j : Nat} (h : j < s) : hz (blkP f zs a s off i) j = if off ≤ j ∧ j < off + i then f (hz zs (a + j)) else hz zs (a + j) := by
  unfold blkP hz
  rw [List.getElem?_map, List.getElem?_range h]
  rfl
theorem blkP_zero {f : Int → Int} {zs : List Int} {a s off : Nat} (h : a + s ≤ zs.length) : blkP f zs a s off 0 = (zs.drop a).take s := by
  refine ext_hz (by rw [blkP_len]; simp; omega) (fun j hj => ?_)
  rw [blkP_len] at hj
  rw [hz_blkP hj, if_neg (by omega)]
  unfold hz
  rw [List.getElem?_take_of_lt hj, List.getElem?_drop]
theorem blkP_step {f : Int → Int} {zs ys : List Int} {a s off i o : Nat} (h : off + i < s) (ho : o + s ≤ ys.length) : (sets ys o (blkP f zs a s off i)).set (o + off + i) (f (hz zs (a + off + i))) = sets ys o (blkP f zs a s off (i + 1)) := by
  refine ext_hz (by simp [sets_len]) (fun j hj => ?_)
  rw [List.length_set, sets_len] at hj
  rw [hz_set (by rw [sets_len]; omega), hz_sets _ _ _ _ (by rw [blkP_len]; exact ho), hz_sets _ _ _ _ (by rw [blkP_len]; exact ho), blkP_len, blkP_len]
  by_cases e : j = o + off + i
  · rw [if_pos e, if_pos (by omega), hz_blkP (by omega), if_pos (by omega)]
    rw [show a + (j - o) = a + off + i by omega]
  · rw [if_neg e]
    by_cases h2 : o ≤ j ∧ j < o + s
    · rw [if_pos h2, if_pos h2, hz_blkP (by omega), hz_blkP (by omega)]
      by_cases h3 : off ≤ j - o ∧ j - o < off + i
      · rw [if_pos h3, if_pos (by omega)]
      · rw [if_neg h3, if_neg (by omega)]
    · rw [if_neg h2, if_neg h2]
theorem hz_slL {a q s i : Nat} (h : i < (slL a q s).length) : hz (slL a q s) i = ((a + slOff q + i : Nat) : Int) := by
  unfold slL at h ⊢
  rw [someL_len] at h
  exact someL_at h
set_option maxHeartbeats 8000000 in
set_option maxRecDepth 100000 in
theorem slideBlock_ok (w : World) (g cI : Nat) (ys : List Int) (o : Nat) (ao : Option Addr) (cap : Nat) (zs : List Int) (a s q : Nat) (rv : Value) (f : Int → Int) (hR : Row w g ys) (hcI : ys.length ≤ cI) (hly : ys.length ≤ 1048576) (hI : Ints w ao zs) (hcap : zs.length ≤ cap) (hl : zs.length ≤ 1048576) (hne : ∀ b, zs ≠ [] → ao = some b → b.block ≠ g)
    (hle : a + s ≤ zs.length) (hs2 : 2 ≤ s) (hq : q ≤ 5) (hfit : o + s ≤ ys.length) (hf : ∀ v, -9223372036854775808 ≤ v ∧ v ≤ 9223372036854775807 → -9223372036854775808 ≤ f v ∧ f v ≤ 9223372036854775807)
    (hF : ∀ (u : World), w.grownBy u (some g) → ∀ v, -9223372036854775808 ≤ v ∧ v ≤ 9223372036854775807 → Calls Tryz.prog 33 #[rv, .int .i64 v] u fun e w' => e = .returned (.int .i64 (f v)) ∧ Kept u w') :
    Calls Tryz.prog 69 #[.slice (some ⟨g, 0, none⟩) ys.length cI, .int .i64 (o : Nat), .slice ao zs.length cap, bkV (a : Nat) (s : Nat) (q : Nat), .func (.func 33) #[rv] #[]] w fun e w' => (∃ v, e = .returned v) ∧ Row w' g (sets ys o (blkP f zs a s (slOff q) (slL a q s).length)) ∧ w.grownBy w' (some g) := by
  obtain ⟨i0, hi, hz0, hz1, hz2⟩ := info_parts infoI
  have hsz : (Tryz.prog.info? 3).map (·.size) = some 1 := by rw [hi]; simp [hz1]
  have k0 : Kept w (w.alloc (.cells (bkC (a : Nat) (s : Nat) (q : Nat)) 56)) := Kept.alloc (Below.refl _ _) _
  have b0 := Cells.new w 56 (bkC (a : Nat) (s : Nat) (q : Nat))
  obtain ⟨bb, off, rfl, hc⟩ := hI.at (k := a) (by omega)
  have hbg : bb ≠ g := hne _ (by intro h; rw [h] at hle; simp at hle; omega) rfl
  obtain ⟨W1, hW1⟩ : ∃ W1, w.alloc (.cells (bkC (a : Nat) (s : Nat) (q : Nat)) 56) = W1 := ⟨_, rfl⟩
  rw [hW1] at k0 b0
  have kd1 : Kept W1 W1.drew := (Below.refl _ W1).drew
  have HB : Hid (∀ u, Kept W1.drew u → u.cell? ⟨w.heap.size, 0, none⟩ = some (.int .i64 (a : Nat)) ∧ u.cell? ⟨w.heap.size, 1, none⟩ = some (.int .i64 (s : Nat)) ∧ u.cell? ⟨w.heap.size, 2, none⟩ = some (.int .i64 (q : Nat))) := fun u hu => by
    have := b0.kept (kd1.trans hu)
    exact ⟨this.cell 0, this.cell 1, this.cell 2⟩
  have HE : Hid (∀ u : World, Kept W1.drew u → Calls Tryz.prog 89 #[bkV (a : Nat) (s : Nat) (q : Nat)] u fun e w' => e = .returned (.int .i64 ((a : Nat) + (s : Nat))) ∧ Kept u w') := fun u _ => (end_ok _ _ _ u (by omega) (by omega)).mono (fun e w' h => ⟨h.1, by rw [h.2]; exact Kept.alloc (Below.refl _ _) _⟩)
  have p1 : ((o : Nat) : Int) ≤ (ys.length : Int) := by omega
  have p2 : ((o : Nat) : Int) ≤ (cI : Int) := by omega
  have p3 : ¬ cI = o := by omega
  have p4 : ((a : Nat) : Int) + ((s : Nat) : Int) ≤ (cap : Int) := by omega
  have p5 : ¬ cap = a := by omega
  have p6 : (((a : Nat) : Int) + ((s : Nat) : Int)).toNat = a + s := by omega
  go_enter Tryz.func69, Tryz.ntmps69
  go_wp2_with fail
  refine (wpIn_wide (n := 9)).1 ?_
  refine wpIn_region_lastK WideF.wide (by kernel_rfl) (by kernel_rfl) (by kernel_rfl) (by kernel_rfl) (by rfl) ?_
  dsimp only [List.dropLast]
  repeat (first
    | (refine SeqL.pure ?_ (by rfl) ?_ ?_; rotate_left; (focus (intro u hu; obtain ⟨y0, y1, y2⟩ := HB.out u hu; go_simp; first | done | exact rfl)); simp only [Act.put, List.setIfInBounds_toArray, List.set_cons_zero, List.set_cons_succ])
    | (refine SeqL.call _ _ _ (by rfl) ?_ HE.out ?_; (focus (intro u; go_simp; done)); simp only [Act.put, List.setIfInBounds_toArray, List.set_cons_zero, List.set_cons_succ]))
  refine SeqL.nil ?_
  intro w2 hk2
  have k2 : Kept w w2 := k0.trans (kd1.trans hk2)
  have b2 := b0.kept (kd1.trans hk2)
  obtain ⟨hb, cur, hg, hcl, hcc⟩ := hR.kept k2
  have hI2 := hI.kept k2
  refine wpIn_copy WideF.wide (.tmp 14) (.tmp 20) 24 24 rfl 3 Tryz.underlying24 hsz g o (ys.length - o) (cI - o) ⟨bb, off + a, none⟩ s (cap - a) rfl rfl cur 3 hg (((zs.drop a).take s).map (Value.int .i64)) (by rw [List.length_map, List.length_take, List.length_drop]; show min s (zs.length - a) = min s (ys.length - o); omega) (fun j v hj => ?src) (by simp; omega) (by intro v hv; obtain ⟨z, _, rfl⟩ := List.mem_map.1 hv; rfl) ?_
  case src =>
    rw [WideShapes.add_plain]
    rw [List.getElem?_map] at hj
    cases hz' : ((zs.drop a).take s)[j]? with
    | none => rw [hz'] at hj; cases hj
    | some z =>
      rw [hz'] at hj
      cases hj
      have hj' : j < s := by
        have := (List.getElem?_eq_some_iff.1 hz').1
        simp at this
        omega
      rw [List.getElem?_take_of_lt hj', List.getElem?_drop] at hz'
      obtain ⟨b', o', e', hc'⟩ := hI2.at (k := a) (by omega)
      cases e'
      have h3 := hc' (a + j) (by omega)
      rw [← Nat.add_assoc] at h3
      rw [h3]
      simp [hz, hz']
  intro w3 hrow hgr
  have hR3 : Row w3 g (sets ys o (blkP f zs a s (slOff q) 0)) := by
    rw [blkP_zero hle]
    exact Row.spliced hb (fun z hz' => hI.1 z (List.mem_of_mem_drop (List.mem_of_mem_take hz'))) (by simpa using hcl) (fun j hj => by simpa using hcc j hj) (by simp; omega) hrow.out
  have g3 : w.grownBy w3 (some g) := grown_trans ⟨k2.os, k2.tape, k2.output, k2.size, fun k hk _ => k2.block k hk⟩ hgr
  have hlt : g < w.heap.size := hR.lt
  have b3 := b2.grown hgr (by intro e; cases e; omega)
  have hI3 : Ints w3 (some ⟨bb, off, none⟩) zs := hI.far g3 (fun x e => by cases e; intro e2; cases e2; exact hbg rfl)
  have hSl := slotsOf_ok w3 (some ⟨bb, off, none⟩) cap zs a s q hI3 hl hle hs2 hq
  have c30 := b3.cell 0
  have c31 := b3.cell 1
  have c32 := b3.cell 2
  have HR3 : Hid (Row w3 g (sets ys o (blkP f zs a s (slOff q) 0))) := hR3
  have HG3 : Hid (w.grownBy w3 (some g)) := g3
  have HF : Hid _ := hF
  have Hf : Hid _ := hf
  have HI : Hid (Ints w (some ⟨bb, off, none⟩) zs) := hI
  clear hR3 g3 hrow hgr hg hcl hcc hb HB HE hI2 hW1 hk2 kd1 b2 k2 hI3 k0 b0 hF hf hI hne hc p1 p2 p3 p4 p5 p6
  go_wp2_with fail
  refine hSl.mono ?_
  rintro e w4 ⟨v4, rfl, hO4, hk4⟩
  obtain ⟨sa, sc, rfl, _⟩ := hO4.ints
  have b4 := b3.kept hk4
  have hs3 := HG3.out.size
  have hs4 := hk4.size
  clear hSl b3 c30 c31 c32
  obtain ⟨n, hn⟩ : ∃ n, (slL a q s).length = n := ⟨_, rfl⟩
  have hns : slOff q + n ≤ s ∨ n = 0 := by
    rw [← hn, slL, someL_len]
    omega
  have HSl : Hid (∀ i, i < n → hz (slL a q s) i = ((a + slOff q + i : Nat) : Int)) := fun i h => hz_slL (by omega)
  have HO4 : Hid (OwnL w4 w3.heap.size (.slice sa n sc) (slL a q s)) := by rw [← hn]; exact hO4
  have HR4 : Hid (Row w4 g (sets ys o (blkP f zs a s (slOff q) 0))) := Row.kept HR3.out hk4
  have HG4 : Hid (w.grownBy w4 (some g)) := grown_trans HG3.out ⟨hk4.os, hk4.tape, hk4.output, hk4.size, fun k hk _ => hk4.block k hk⟩
  rw [hn]
  clear hO4 HR3 HG3 hk4
  go_wp2_with fail
  go_loopw [26] (fun iv wr => ∃ (i : Nat), iv = .int .i64 i ∧ i ≤ n ∧ Hid (Row wr g (sets ys o (blkP f zs a s (slOff q) i))) ∧ Hid (w4.grownBy wr (some g))) (fun i _ => n - (intOf i).toNat)
  case atStart => exact ⟨0, rfl, Nat.zero_le _, HR4.out, World.grownBy.refl _ _⟩
  case round =>
    obtain ⟨i, rfl, hi', HR, HG⟩ := hrel
    by_cases hlt' : i < n
    · have hns' : slOff q + i < s := by omega
      have hoff : 1 ≤ slOff q := by unfold slOff; split <;> omega
      have hib : i < 1048576 := by omega
      have hgr : w.grownBy wr (some g) := grown_trans HG4.out HG.out
      have hO := HO4.out.kept HG.out (fun k e j hj => by cases e; have := (HO4.out.2.lt j hj).1; omega)
      obtain ⟨_, _, eO, hOI⟩ := hO.ints
      have eO' := eO
      cases eO'
      obtain ⟨pb, po, rfl, hpc⟩ := hOI.at (k := i) (by omega)
      have hpk := hpc i (by omega)
      rw [HSl.out i hlt'] at hpk
      obtain ⟨_, _, eI, hIc⟩ := (HI.out.far hgr (fun x e => by cases e; intro e2; cases e2; exact hbg rfl)).at (k := a + slOff q + i) (by omega)
      cases eI
      have hwk := hIc (a + slOff q + i) (by omega)
      have bw := b4.grown HG.out (by intro e; cases e; omega)
      have hrc := HR.out.cell (j := o + slOff q + i) (by rw [sets_len]; omega)
      have hrf := HR.out.frozen (o + slOff q + i)
      have hvb := HI.out.bd (a + slOff q + i)
      have hfb := Hf.out _ hvb
      have hlr := HR.out.lt
      have HN := blkP_step (f := f) (zs := zs) (ys := ys) (a := a) (s := s) (off := slOff q) (i := i) (o := o) hns' hfit
      obtain ⟨p, hp⟩ : ∃ p, a + slOff q + i = p := ⟨_, rfl⟩
      obtain ⟨r, hr⟩ : ∃ r, o + slOff q + i = r := ⟨_, rfl⟩
      rw [hp] at hpk hwk hvb hfb HN
      rw [hr] at hrc hrf HN
      obtain ⟨vv, hvv⟩ : ∃ vv, hz zs p = vv := ⟨_, rfl⟩
      rw [hvv] at hwk hvb hfb HN
      have HN' : Hid _ := HN
      have q1 : (i : Int) < ((slL a q s).length : Int) := by omega
      have q2 : IntKind.i64.wrap (((o : Nat) : Int) + ((p : Nat) : Int)) = ((o : Nat) : Int) + ((p : Nat) : Int) := IntWalk.i64_in _ ⟨by omega, by omega⟩
      have q3 : IntKind.i64.wrap (((o : Nat) : Int) + ((p : Nat) : Int) - ((a : Nat) : Int)) = ((r : Nat) : Int) := by
        rw [show ((o : Nat) : Int) + ((p : Nat) : Int) - ((a : Nat) : Int) = ((r : Nat) : Int) by omega]
        exact IntWalk.i64_in _ ⟨by omega, by omega⟩
      have q4 : ((r : Nat) : Int) < (ys.length : Int) := by omega
      have q5 : ((p : Nat) : Int) < (zs.length : Int) := by omega
      have kd : Kept wr wr.drew := (Below.refl _ wr).drew
      have HB : Hid (∀ u, Kept wr.drew u → u.cell? ⟨w.heap.size, 0, none⟩ = some (.int .i64 (a : Nat)) ∧ u.cell? ⟨bb, off + p, none⟩ = some (.int .i64 vv)) := fun u hu => by
        have hu' := kd.trans hu
        exact ⟨(bw.kept hu').cell 0, (hu'.cell (p := ⟨bb, off + p, none⟩) (World.block_lt_of_cell? _ _ hwk)).trans hwk⟩
      have HM : Hid (∀ u : World, Kept wr.drew u → Calls Tryz.prog 33 #[rv, .int .i64 vv] u fun e w' => e = .returned (.int .i64 (f vv)) ∧ Kept u w') := fun u hu => by
        have hu' := kd.trans hu
        exact HF.out u (grown_trans hgr ⟨hu'.os, hu'.tape, hu'.output, hu'.size, fun k hk _ => hu'.block k hk⟩) vv hvb
      clear hp hr hvv hO hOI hpc hIc hgr HN eO hns' hoff hns
      go_wp2_with fail
      refine (wpIn_wide (n := 9)).1 ?_
      refine wpIn_region_lastK WideF.wide (by kernel_rfl) (by kernel_rfl) (by kernel_rfl) (by kernel_rfl) (by rfl) ?_
      dsimp only [List.dropLast]
      repeat (first
        | (refine SeqL.pure ?_ (by rfl) ?_ ?_; rotate_left; (focus (intro u hu; obtain ⟨y0, y1⟩ := HB.out u hu; go_simp; first | done | exact rfl)); simp only [Act.put, List.setIfInBounds_toArray, List.set_cons_zero, List.set_cons_succ])
        | (refine SeqL.call _ _ _ (by rfl) ?_ HM.out ?_; (focus (intro u; go_simp; done)); simp only [Act.put, List.setIfInBounds_toArray, List.set_cons_zero, List.set_cons_succ]))
      refine SeqL.nil ?_
      intro w5 hk5
      have k5 : Kept wr w5 := kd.trans hk5
      have s1 := (k5.cell (p := ⟨g, r, none⟩) hlr).trans hrc
      have s2 := (Row.frozen (Row.kept HR.out k5) r)
      have HR5 : Hid (Row (w5.setCell ⟨g, r, none⟩ (.int .i64 (f vv))) g (sets ys o (blkP f zs a s (slOff q) (i + 1)))) := by
        rw [Hid, ← HN'.out]
        exact Row.set (Row.kept HR.out k5) (by rw [sets_len]; omega) hfb
      have HG5 : Hid (w4.grownBy (w5.setCell ⟨g, r, none⟩ (.int .i64 (f vv))) (some g)) := grown_set (grown_trans HG.out ⟨k5.os, k5.tape, k5.output, k5.size, fun k hk _ => k5.block k hk⟩) _
      refine ⟨fun _ _ => trivial, ?_⟩
      go_simp
      clear s1 s2 HB HM hk5 kd k5 bw hrc hrf hwk hpk
      go_wp2
      go_roundw
      case rel => exact ⟨i + 1, by go_num, by omega, HR5.out, HG5.out⟩
      case measure => simp [intOf]; omega
    · obtain rfl : i = n := by omega
      have hq1 : ¬ (i : Int) < (i : Int) := by omega
      go_wp2
      go_end0
      exact ⟨⟨_, rfl⟩, HR.out, grown_trans HG4.out HG.out⟩
end Go.Proofs.YtaeeoehmocelhaaGreatDoor
namespace Go.Proofs.YtaeeoehmocelhaaGreatDoor
open Go.RowKit

theorem hz_app {l m : List Int} {j : Nat} : hz (l ++ m) j = if j < l.length then hz l j else hz m (j - l.length) := by
  unfold hz
  by_cases h : j < l.length
  · rw [if_pos h, List.getElem?_append_left h]
  · rw [if_neg h, List.getElem?_append_right (by omega)]
theorem hz_rep (n j : Nat) : hz (List.replicate n 0) j = 0 := by
  unfold hz
  rw [List.getElem?_replicate]
  split <;> rfl
/-- The words that are slid so far, and noughts. -/
def upW (zs : List Int) (pre : List (BkOf zs.length)) : List Int := slidW zs pre ++ List.replicate (zs.length - (slidW zs pre).length) 0
theorem tk_pre {L : Nat} {l pre : List (BkOf L)} (h : pre <+: tkL l) : tkL pre = pre := by
  unfold tkL
  rw [List.filter_eq_self]
  intro b hb
  have := h.subset hb
  exact (List.mem_filter.1 this).2
theorem slidW_pre_len {zs : List Int} {pre : List (BkOf zs.length)} (h : pre <+: tkL (blocks zs)) : (slidW zs pre).length = szsB pre := by rw [slidW_szs, tk_pre h]
theorem upW_len {zs : List Int} {pre : List (BkOf zs.length)} (h : pre <+: tkL (blocks zs)) : (upW zs pre).length = zs.length := by
  have h1 := slidW_pre_len h
  have h2 := szs_le h
  unfold upW
  simp
  omega
theorem upW_step {zs : List Int} {pre : List (BkOf zs.length)} {x : BkOf zs.length} (h : pre ++ [x] <+: tkL (blocks zs)) : sets (upW zs pre) (szsB pre) (blkW zs x.1.at' x.1.size) = upW zs (pre ++ [x]) := by
  have hp : pre <+: tkL (blocks zs) := (List.prefix_append pre [x]).trans h
  have h1 := slidW_pre_len hp
  have h2 := szs_le h
  rw [szsB_snoc] at h2
  have h3 := (movT_tk h).2.2
  have e : slidW zs (pre ++ [x]) = slidW zs pre ++ blkW zs x.1.at' x.1.size := by
    rw [slidW_app]
    simp [slidW, h3]
  have hl2 := upW_len h
  refine ext_hz (by rw [sets_len, upW_len hp, hl2]) (fun j hj => ?_)
  rw [sets_len, upW_len hp] at hj
  rw [hz_sets _ _ _ _ (by rw [blkW_len, upW_len hp]; omega), blkW_len]
  unfold upW
  rw [e, hz_app, hz_app, List.length_append, blkW_len, h1]
  by_cases c1 : j < szsB pre
  · rw [if_neg (by omega), if_pos c1, if_pos (by omega), hz_app, if_pos (by omega)]
  · by_cases c2 : j < szsB pre + x.1.size
    · rw [if_pos (by omega), if_pos (by omega), hz_app, if_neg (by omega), h1]
    · rw [if_neg (by omega), if_neg c1, if_neg (by omega), hz_rep, hz_rep]
theorem mem_someL {a n : Nat} {k : Nat} : ((k : Nat) : Int) ∈ someL a n ↔ a ≤ k ∧ k < a + n := by
  unfold someL
  rw [List.mem_map]
  constructor
  · rintro ⟨i, hi, e⟩
    have := List.mem_range.1 hi
    omega
  · intro h
    exact ⟨k - a, List.mem_range.2 (by omega), by omega⟩
theorem blkP_W {zs : List Int} (hh : heapR zs = true) {x : BkOf zs.length} (hx : x ∈ blocks zs) : blkP (movdV zs) zs x.1.at' x.1.size (slOff x.1.kind) (slL x.1.at' x.1.kind x.1.size).length = blkW zs x.1.at' x.1.size := by
  have hok := heapR_slab hh
  have hr : blkR zs x.1.at' x.1.size x.1.kind = true := by
    unfold heapR allB at hh
    rw [Bool.and_eq_true] at hh
    exact List.all_eq_true.1 hh.2 x hx
  have hv := slots_val hok hx hr
  have hat := atB_mem hok hx
  have hsl : slotsL zs ((x.1.at' : Nat) : Int) = slL x.1.at' x.1.kind x.1.size := by unfold slotsL; rw [hat]
  unfold blkP blkW
  refine List.map_congr_left (fun k hk => ?_)
  have hk' := List.mem_range.1 hk
  unfold movW
  rw [hsl]
  have hm : (((x.1.at' + k : Nat) : Int) ∈ slL x.1.at' x.1.kind x.1.size) ↔ (slOff x.1.kind ≤ k ∧ k < slOff x.1.kind + (slL x.1.at' x.1.kind x.1.size).length) := by
    unfold slL
    rw [mem_someL, someL_len]
    omega
  by_cases h : slOff x.1.kind ≤ k ∧ k < slOff x.1.kind + (slL x.1.at' x.1.kind x.1.size).length
  · rw [if_pos h, if_pos (hm.2 h)]
    obtain ⟨r, hvr⟩ := hv (hz zs (x.1.at' + k)) (List.mem_map.2 ⟨_, by rw [hsl]; exact hm.2 h, by rw [Int.toNat_natCast]⟩)
    exact movdV_val hvr
  · rw [if_neg h, if_neg (fun c => h (hm.1 c))]
theorem slid_all {zs : List Int} : slidW zs (tkL (blocks zs)) = slidW zs (blocks zs) := slidW_tk _ _
theorem slid_none {zs : List Int} (h : szsB (tkL (blocks zs)) = zs.length) : upW zs (tkL (blocks zs)) = slidL zs := by
  have h1 := slidW_szs zs (blocks zs)
  unfold upW slidL
  rw [slid_all, h1, h, Nat.sub_self]
  simp [restW]
theorem slid_rest {zs : List Int} (h : szsB (tkL (blocks zs)) < zs.length) : layL (upW zs (tkL (blocks zs))) (szsB (tkL (blocks zs))) (zs.length - szsB (tkL (blocks zs))) (8 * ((zs.length - szsB (tkL (blocks zs)) : Nat) : Int) + ((0 : Nat) : Int)) = slidL zs := by
  have h1 := slidW_szs zs (blocks zs)
  have hu : (upW zs (tkL (blocks zs))).length = zs.length := upW_len (List.prefix_refl _)
  have hlen : (slidL zs).length = zs.length := by
    unfold slidL
    rw [List.length_append, restW_len, h1]
    omega
  refine ext_hz (by rw [layL_len, hu, hlen]) (fun j hj => ?_)
  rw [layL_len, hu] at hj
  rw [hz_layL (by rw [hu]; omega) (by omega)]
  unfold upW slidL
  rw [slid_all, hz_app, hz_app, h1]
  have hrest : ∀ k, k < zs.length - szsB (tkL (blocks zs)) → hz (restW (zs.length - szsB (tkL (blocks zs))) (zs.length - szsB (tkL (blocks zs)))) k = if k = 0 then 8 * ((zs.length - szsB (tkL (blocks zs)) : Nat) : Int) else 0 := fun k hk => by
    unfold restW hz
    rw [List.getElem?_map, List.getElem?_range hk]
    rfl
  by_cases c1 : j < szsB (tkL (blocks zs))
  · rw [if_neg (by omega), if_neg (by omega), if_pos c1, if_pos c1]
  · rw [if_neg c1, if_neg c1, hrest _ (by omega)]
    by_cases c2 : j = szsB (tkL (blocks zs))
    · rw [if_pos c2, if_pos (by omega)]
      simp
    · rw [if_neg c2, if_pos (by omega), if_neg (by omega)]
theorem slidL_len {zs : List Int} : (slidL zs).length = zs.length := by
  have h1 := slidW_le zs
  unfold slidL
  rw [List.length_append, restW_len]
  omega
end Go.Proofs.YtaeeoehmocelhaaGreatDoor
namespace Go.Proofs.YtaeeoehmocelhaaGreatDoor
open Go.RowKit Go.Shelf
attribute [local go_sem] Oper.semAt_some

theorem KeepX.grown {X : Nat → Prop} {nI r : Nat} {W W' : World} (hg : W.grownBy W' (some r)) (hr : X r) : KeepX X nI W W' :=
  ⟨hg.size, fun k o e _ hx _ => (hg.block k (Array.getElem?_eq_some_iff.1 e).1 (fun h => by cases h; exact hx hr)).trans e⟩
theorem Row.keptX {X : Nat → Prop} {nI g : Nat} {W W' : World} {zs : List Int} (h : Row W g zs) (hk : KeepX X nI W W') (hx : ¬ X g) (hg : g < nI) : Row W' g zs := by
  obtain ⟨q1, cur, q2, q3⟩ := h
  exact ⟨q1, cur, hk.2 _ _ q2 rfl hx (fun h => by omega), q3⟩
set_option maxHeartbeats 16000000 in
set_option maxRecDepth 100000 in
theorem slid_ok (w : World) (lo : Option Addr) (lc g tc : Nat) (ao : Option Addr) (cap : Nat) (zs : List Int) (hLy : Ints w lo (lyt zs)) (hR : Row w g (toL zs (tkL (blocks zs)))) (hI : Ints w ao zs) (hcap : zs.length ≤ cap) (hl : zs.length ≤ 1048576) (hh : heapR zs = true) :
    Calls Tryz.prog 31 #[fwV lo zs.length lc (.slice (some ⟨g, 0, none⟩) zs.length tc) (szsB (tkL (blocks zs))), .slice ao zs.length cap] w fun e w' => ∃ gI, e = .returned (.agg #[.slice (some ⟨gI, 0, none⟩) zs.length zs.length]) ∧ w.heap.size ≤ gI ∧ Row w' gI (slidL zs) ∧ Kept w w' := by
  have hL : zs.length * 8 ≤ 140737488351232 := by omega
  obtain ⟨i0, hi, hz0, hz1, hz2⟩ := info_parts infoI
  obtain ⟨en, hen⟩ : ∃ en, szsB (tkL (blocks zs)) = en := ⟨_, rfl⟩
  have henl : en ≤ zs.length := by rw [← hen]; exact szs_le (List.prefix_refl _)
  rw [hen]
  have k0 : Kept w (((w.alloc (.cells #[.slice lo zs.length lc, .slice (some ⟨g, 0, none⟩) zs.length tc, .int .i64 (en : Nat)] 43)).alloc (.cells #[.slice ao zs.length cap] 24)).alloc (.cells #[.slice none 0 0] 26)) := ((Kept.alloc (Below.refl _ _) _).alloc _).alloc _
  have b0 := ((Cells.new w 43 #[.slice lo zs.length lc, .slice (some ⟨g, 0, none⟩) zs.length tc, .int .i64 (en : Nat)]).alloc (.cells #[.slice ao zs.length cap] 24)).alloc (.cells #[.slice none 0 0] 26)
  have b1 := (Cells.new (w.alloc (.cells #[.slice lo zs.length lc, .slice (some ⟨g, 0, none⟩) zs.length tc, .int .i64 (en : Nat)] 43)) 24 #[.slice ao zs.length cap]).alloc (.cells #[.slice none 0 0] 26)
  have b2 := Cells.new ((w.alloc (.cells #[.slice lo zs.length lc, .slice (some ⟨g, 0, none⟩) zs.length tc, .int .i64 (en : Nat)] 43)).alloc (.cells #[.slice ao zs.length cap] 24)) 26 #[.slice none 0 0]
  simp only [World.size_alloc] at b1 b2
  have hsz0 : (((w.alloc (.cells #[.slice lo zs.length lc, .slice (some ⟨g, 0, none⟩) zs.length tc, .int .i64 (en : Nat)] 43)).alloc (.cells #[.slice ao zs.length cap] 24)).alloc (.cells #[.slice none 0 0] 26)).heap.size = w.heap.size + 3 := by simp
  have c1 := b1.cell 0
  have HH : Hid (heapR zs = true) := hh
  refine (callsIn_wide (n := 9)).1 ?_
  refine callsIn_of_wp_marks Tryz.func31 rfl trivial ?_ rfl
  simp only [Tryz.ntmps31, List.size_toArray, List.length_cons, List.length_nil, Nat.reduceAdd, Nat.reduceSub, Array.replicate_succ, Array.replicate_zero, List.push_toArray, List.append_toArray, List.nil_append, List.cons_append]
  refine wpIn_wide.2 ?_
  go_wp2_with (first | (at_make; refine wpList_make_full _ rfl _ _ 24 rfl (w.heap.size + 3) 3 i0 (.int .i64 0) 1 Tryz.underlying24 hi hz0 hz1 .i64 .i64 _ _ zs.length rfl rfl rfl rfl (by rw [hz2]; omega) (by unfold maxLen; omega) (by simp) ?_; intro w2 hown hgrow; have hK2 : Kept (((w.alloc (.cells #[.slice lo zs.length lc, .slice (some ⟨g, 0, none⟩) zs.length tc, .int .i64 (en : Nat)] 43)).alloc (.cells #[.slice ao zs.length cap] 24)).alloc (.cells #[.slice none 0 0] 26)) w2 := (Below.refl _ _).grown hgrow (Nat.le_refl _) (by simp); have d1 := (b1.kept hK2).alloc (.cells #[.slice (some ⟨w.heap.size + 1 + 1 + 1, 0, none⟩) zs.length zs.length] 24); have e1 := d1.cell 0; have l1 := (b1.kept hK2).lt) | (go_at_call 41; refine (takenOf_ok _ _ _ _).mono ?_; rintro e w5 ⟨rfl, rfl⟩))
  rw [madeInts] at hown
  simp only [World.size_alloc] at hown
  have hR2 := (Row.of_owns (zs := List.replicate zs.length 0) (by simpa using hown) (by simp)).1
  have ka : Kept w2 ((w2.alloc (.cells #[.slice (some ⟨w.heap.size + 3, 0, none⟩) zs.length zs.length] 24)).alloc (.cells #[.slice ao zs.length cap] 24)) := (Kept.alloc (Below.refl _ _) _).alloc _
  have xi := (Cells.new w2 24 #[.slice (some ⟨w.heap.size + 3, 0, none⟩) zs.length zs.length]).alloc (.cells #[.slice ao zs.length cap] 24)
  have bB := Cells.new (w2.alloc (.cells #[.slice (some ⟨w.heap.size + 3, 0, none⟩) zs.length zs.length] 24)) 24 #[.slice ao zs.length cap]
  simp only [World.size_alloc] at bB
  have hsz : ((w2.alloc (.cells #[.slice (some ⟨w.heap.size + 3, 0, none⟩) zs.length zs.length] 24)).alloc (.cells #[.slice ao zs.length cap] 24)).heap.size = w2.heap.size + 2 := by simp
  have x0 := (b0.kept hK2).kept ka
  have x1 := (b1.kept hK2).kept ka
  have x2 := (b2.kept hK2).kept ka
  have rI := hR2.kept ka
  have hgI := hR2.lt
  have ky := (k0.trans hK2).trans ka
  have lyW := hLy.kept ky
  have rgW := hR.kept ky
  have hgl := hR.lt
  have hll : ∀ a, lyt zs ≠ [] → lo = some a → a.block < w.heap.size := fun a h e => hLy.lt h e
  obtain ⟨Bi, hBi⟩ : ∃ Bi, w2.heap.size = Bi := ⟨_, rfl⟩
  rw [hBi] at xi bB hsz hgI ⊢
  obtain ⟨W0, hW0⟩ : ∃ W0, (w2.alloc (.cells #[.slice (some ⟨w.heap.size + 3, 0, none⟩) zs.length zs.length] 24)).alloc (.cells #[.slice ao zs.length cap] 24) = W0 := ⟨_, rfl⟩
  rw [hW0] at xi bB hsz x0 x1 x2 rI ky lyW rgW ⊢
  clear hW0 hBi hown hgrow hK2 d1 e1 l1 c1 k0 b0 b1 b2 hsz0 ka hR2
  refine (wpIn_wide (n := 9)).1 ?_
  refine range_tells (X := fun k => k = w.heap.size + 3) (nI := W0.heap.size) (l0 := tkL (blocks zs)) (n := 9) (by omega) rfl (enters_of Tryz.func79 (by kernel_rfl) rfl) (by simp) (by simp) (by decide)
    (takenOf_tells (9 - 1) (by omega) (Bi + 1) (w.heap.size + 4) W0.heap.size W0.heap.size _ ao cap zs hL (fun a h e => ⟨by have := hI.lt h e; omega, by have := hI.lt h e; omega⟩) (by intro k h; omega) W0 (by omega) (Nat.le_refl _) bB (hI.kept ky))
    (fun pre W => Row W (w.heap.size + 3) (upW zs pre) ∧ (Below w.heap.size w W ∧ KeepX (fun k => k = w.heap.size + 3) W0.heap.size W0 W))
    ?oi ⟨by simpa [upW, slidW] using rI, ky, KeepX.of (Below.refl _ _)⟩ ?body ?done
  case oi => exact OwnFrom.and (Own.from (Row.own (w.heap.size + 3) (fun pre => upW zs pre)) _) (OwnFrom.and (ownFrom_below (Nat.le_refl _) (by omega)) (KeepX.own (Nat.le_refl _)))
  case body =>
    rintro l pre x W Bx hBx bX ⟨r1, hB1, hK1⟩ hpre
    have hx := x.2
    obtain ⟨hmv, hxm, hxk⟩ := movT_tk hpre
    have hp : pre <+: tkL (blocks zs) := (List.prefix_append pre [x]).trans hpre
    have hle := szs_le hpre
    rw [szsB_snoc] at hle
    have hup := upW_step hpre
    rw [← blkP_W HH.out hxm] at hup
    have hul := upW_len hp
    have y0 := x0.keptX hK1 (by omega) (by omega)
    have y1 := x1.keptX hK1 (by omega) (by omega)
    have yi := xi.keptX hK1 (by omega) (by omega)
    have lyX := hK1.ints lyW (fun a h e => ⟨by have := hll a h e; omega, by have := hll a h e; omega⟩)
    have rgX := rgW.keptX hK1 (by omega) (by omega)
    have iX := hK1.ints (hI.kept ky) (fun a h e => ⟨by have := hI.lt h e; omega, by have := hI.lt h e; omega⟩)
    have hto := toL_at (zs := zs) (pre := tkL (blocks zs)) (x := x) (hpre.subset (by simp))
    have kd : Kept W W.drew := (Below.refl _ W).drew
    have hyn : lyt zs ≠ [] := by
      intro h
      have h1 := lyt_len zs
      rw [h] at h1
      simp at h1
      omega
    have HB : Hid (∀ u, Kept W.drew u → (u.cell? ⟨w.heap.size, 0, none⟩ = some (.slice lo zs.length lc) ∧ u.cell? ⟨w.heap.size, 1, none⟩ = some (.slice (some ⟨g, 0, none⟩) zs.length tc) ∧ u.cell? ⟨w.heap.size, 2, none⟩ = some (.int .i64 (en : Nat))) ∧ u.cell? ⟨w.heap.size + 1, 0, none⟩ = some (.slice ao zs.length cap) ∧ u.cell? ⟨Bi, 0, none⟩ = some (.slice (some ⟨w.heap.size + 3, 0, none⟩) zs.length zs.length) ∧ u.cell? ⟨Bx, 0, none⟩ = some (.int .i64 (x.1.at' : Nat)) ∧ u.cell? ⟨Bx, 1, none⟩ = some (.int .i64 (x.1.size : Nat)) ∧ u.cell? ⟨Bx, 2, none⟩ = some (.int .i64 (x.1.kind : Nat))) := fun u hu => by
      have hu' := kd.trans hu
      exact ⟨⟨(y0.kept hu').cell 0, (y0.kept hu').cell 1, (y0.kept hu').cell 2⟩, (y1.kept hu').cell 0, (yi.kept hu').cell 0, (bX.kept hu').cell 0, (bX.kept hu').cell 1, (bX.kept hu').cell 2⟩
    have HP : Hid (∀ u : World, Kept W.drew u → Calls Tryz.prog 42 #[fwV lo zs.length lc (.slice (some ⟨g, 0, none⟩) zs.length tc) en, .int .i64 (x.1.at' : Nat)] u fun e w' => e = .returned (.int .i64 ((szsB pre : Nat) : Int)) ∧ Kept u w') := fun u hu => by
      have := place_ok u lo zs.length lc g tc en x.1.at' _ (rgX.kept (kd.trans hu)) (by rw [toL_len]; omega)
      rw [hto, toL_len, hmv] at this
      exact this
    have HS : Hid (∀ u : World, Kept W.drew u → Calls Tryz.prog 69 #[.slice (some ⟨w.heap.size + 3, 0, none⟩) zs.length zs.length, .int .i64 (szsB pre : Nat), .slice ao zs.length cap, bkV (x.1.at' : Nat) (x.1.size : Nat) (x.1.kind : Nat), .func (.func 33) #[fwV lo zs.length lc (.slice (some ⟨g, 0, none⟩) zs.length tc) en] #[]] u fun e w' => (∃ v, e = .returned v) ∧ Row w' (w.heap.size + 3) (upW zs (pre ++ [x])) ∧ u.grownBy w' (some (w.heap.size + 3))) := fun u hu => by
      have hu' := kd.trans hu
      have := slideBlock_ok u (w.heap.size + 3) zs.length (upW zs pre) (szsB pre) ao cap zs x.1.at' x.1.size x.1.kind (fwV lo zs.length lc (.slice (some ⟨g, 0, none⟩) zs.length tc) en) (movdV zs) (r1.kept hu') (by rw [hul]; exact Nat.le_refl _) (by rw [hul]; exact hl) (iX.kept hu') hcap hl (fun b h e => by have := hI.lt h e; omega) hx.2.1 hx.1 hx.2.2 (by rw [hul]; omega) (fun v hv => movdV_bd hv)
        (fun u2 hg2 v hv => moved_ok u2 lo lc g tc en zs v ((lyX.kept hu').far hg2 (fun a e => by
            intro e2
            have h1 := hll a hyn e
            injection e2 with e2
            omega)) ((rgX.kept hu').grown hg2 (by intro e; cases e; omega)) hv)
      rw [hup, hul] at this
      exact this
    clear hup hul hto lyX rgX iX y0 y1 yi r1
    simp only [List.setIfInBounds_toArray, List.set_cons_succ, List.set_cons_zero]
    gi_wp2_with fail
    refine wpIn_region_lastK (WideF.round l) (by kernel_rfl) (by kernel_rfl) (by kernel_rfl) (by kernel_rfl) (by rfl) ?_
    dsimp only [List.dropLast]
    repeat (first
      | (refine SeqL.pure ?_ (by rfl) ?_ ?_; rotate_left; (focus (intro u hu; obtain ⟨⟨z0, z1, z2⟩, z3, z4, z5, z6, z7⟩ := HB.out u hu; go_simp; first | done | exact rfl)); simp only [Act.put, List.setIfInBounds_toArray, List.set_cons_zero, List.set_cons_succ])
      | (refine SeqL.call _ _ _ (by rfl) ?_ HP.out ?_; (focus (intro u; go_simp; done)); simp only [Act.put, List.setIfInBounds_toArray, List.set_cons_zero, List.set_cons_succ]))
    refine SeqL.nil ?_
    intro w5 hk5
    have k5 : Kept W w5 := kd.trans hk5
    refine ⟨fun _ _ => trivial, ?_⟩
    go_simp
    refine ((WideF.round l).calls (HS.out w5 hk5)).mono ?_
    rintro e w6 ⟨⟨v, rfl⟩, r6, g6⟩
    have kx : KeepX (fun k => k = w.heap.size + 3) W0.heap.size W w6 := (KeepX.of k5).t (KeepX.grown g6 rfl)
    exact ⟨rfl, (k5.others.from _).trans (KeepsFrom.of_grownBy g6 (fun j e => by cases e; omega)), kx, r6, (hB1.trans (k5.mono hB1.size)).grown g6 (Nat.le_trans hB1.size k5.size) (fun j e => by cases e; omega), hK1.t kx⟩
  case done =>
    rintro D W hD ⟨r1, hB1, hK1⟩ hK
    have y0 := x0.keptX hK1 (by omega) (by omega)
    have y2 := x2.keptX hK1 (by omega) (by omega)
    have yi := xi.keptX hK1 (by omega) (by omega)
    have hul : (upW zs (tkL (blocks zs))).length = zs.length := upW_len (List.prefix_refl _)
    have e2 := y0.cell 2
    have ei := yi.cell 0
    have hwr : IntKind.i64.wrap (((zs.length : Nat) : Int) - ((en : Nat) : Int)) = ((zs.length - en : Nat) : Int) := by
      rw [show ((zs.length : Nat) : Int) - ((en : Nat) : Int) = ((zs.length - en : Nat) : Int) by omega]
      exact IntWalk.i64_in _ ⟨by omega, by omega⟩
    by_cases hlt : en < zs.length
    · have hq1 : (0 : Int) < ((zs.length - en : Nat) : Int) := by omega
      have hLb := layBlock_ok W (w.heap.size + 3) zs.length (upW zs (tkL (blocks zs))) en (zs.length - en) 0 r1 (by rw [hul]; omega) (by omega) (by omega) (by rw [hul]; exact Nat.le_refl _) (by rw [hul]; exact hl)
      have hsr := slid_rest (zs := zs) (by rw [hen]; exact hlt)
      rw [hen] at hsr
      rw [hsr, hul] at hLb
      have c21 := y2.cell 0
      have f21 := y2.frozen 0
      have l21 := y2.lt
      clear hsr
      go_wp2_with fail
      refine hLb.mono ?_
      rintro e w6 ⟨⟨v, rfl⟩, r6, g6⟩
      have z2 := y2.grown g6 (by intro e; injection e with e; omega)
      have zi := yi.grown g6 (by intro e; injection e with e; omega)
      have c2 := z2.cell 0
      have f2 := z2.frozen 0
      have l2 := z2.lt
      have ci := zi.cell 0
      have hK6 : w6.heap[D]? = some (.deferred (some [])) := (g6.block D (Array.getElem?_eq_some_iff.1 hK).1 (by intro e; injection e with e; omega)).trans hK
      have hB6 := hB1.grown g6 hB1.size (fun j e => by cases e; omega)
      clear hLb c21 f21 l21 ei e2
      go_wp2
      have hK7 := (KeepsOthers.setCell w6 ⟨w.heap.size + 1 + 1, 0, none⟩ (.slice (some ⟨w.heap.size + 3, 0, none⟩) zs.length zs.length)).same D _ hK6 rfl
      refine ⟨by simp, .inl ⟨_, _, rfl, run_takeDeferred hK7, ?_⟩⟩
      have q := (z2.set1 (.slice (some ⟨w.heap.size + 3, 0, none⟩) zs.length zs.length)).put hK7 rfl (.deferred none)
      refine ⟨.agg #[.slice (some ⟨w.heap.size + 3, 0, none⟩) zs.length zs.length], by simp [results, Tryz.results31, go_sem, q.cell 0], _, rfl, by omega, (r6.other (by simp) _).put hK7 rfl _, ?_⟩
      exact Below.trans (hB6.setCell (p := ⟨w.heap.size + 1 + 1, 0, none⟩) (by simp; omega) _) (belowK_b (w := w) (Nat.le_refl _) _ D _ _ (by omega) hK7 rfl rfl)
    · have hen2 : en = zs.length := by omega
      have hq1 : ¬ (0 : Int) < ((zs.length - en : Nat) : Int) := by omega
      have hsr := slid_none (zs := zs) (by rw [hen]; exact hen2)
      rw [hsr] at r1
      have c2 := y2.cell 0
      have f2 := y2.frozen 0
      have l2 := y2.lt
      clear hsr hul hlt hen2 hen
      go_wp2
      have hK7 := (KeepsOthers.setCell W ⟨w.heap.size + 1 + 1, 0, none⟩ (.slice (some ⟨w.heap.size + 3, 0, none⟩) zs.length zs.length)).same D _ hK rfl
      refine ⟨by simp, .inl ⟨_, _, rfl, run_takeDeferred hK7, ?_⟩⟩
      have q := (y2.set1 (.slice (some ⟨w.heap.size + 3, 0, none⟩) zs.length zs.length)).put hK7 rfl (.deferred none)
      refine ⟨.agg #[.slice (some ⟨w.heap.size + 3, 0, none⟩) zs.length zs.length], by simp [results, Tryz.results31, go_sem, q.cell 0], _, rfl, by omega, (r1.other (by simp) _).put hK7 rfl _, ?_⟩
      exact Below.trans (hB1.setCell (p := ⟨w.heap.size + 1 + 1, 0, none⟩) (by simp; omega) _) (belowK_b (w := w) (Nat.le_refl _) _ D _ _ (by omega) hK7 rfl rfl)
end Go.Proofs.YtaeeoehmocelhaaGreatDoor
namespace Go.Proofs.YtaeeoehmocelhaaGreatDoor
open Go.RowKit Go.Shelf

theorem roots_mov {zs rs : List Int} (h : rootsR zs rs = true) : ∀ v ∈ rs, movdV zs v = movV zs v := by
  intro v hv
  unfold rootsR leadAll at h
  simp only [Bool.and_eq_true] at h
  obtain ⟨j, hj, e⟩ := List.getElem_of_mem hv
  have h1 := allR_iff.1 h.2 j hj
  have e1 : hz rs j = v := by unfold hz; rw [List.getElem?_eq_getElem hj]; exact e
  rw [e1, ← val11] at h1
  exact movdV_val h1
theorem slideD_yes (w : World) (B7 B4 B5 : Nat) (b7 : Cells w B7 4 #[.bool true]) :
    CallsD Tryz.prog 30 #[.pointer (some ⟨B7, 0, none⟩), .pointer (some ⟨B4, 0, none⟩), .pointer (some ⟨B5, 0, none⟩)] .returning w fun e u' w' => u' = .returning ∧ (e = .returned (.tuple #[]) ∧ w' = w) := by
  have c7 := b7.cell 0
  go_enter_d Tryz.func30, Tryz.ntmps30
  go_wp2
  go_end0
  exact ⟨rfl, rfl⟩
theorem slideD_no (w : World) (B7 B4 B5 : Nat) (sv tv : Value) (b7 : Cells w B7 4 #[.bool false]) (b4 : Cells w B4 26 #[sv]) (b5 : Cells w B5 24 #[tv]) (h45 : B4 ≠ B5) :
    CallsD Tryz.prog 30 #[.pointer (some ⟨B7, 0, none⟩), .pointer (some ⟨B4, 0, none⟩), .pointer (some ⟨B5, 0, none⟩)] .returning w fun e u' w' => u' = .returning ∧ (e = .returned (.tuple #[]) ∧ w' = (w.setCell ⟨B4, 0, none⟩ (.slice none 0 0)).setCell ⟨B5, 0, none⟩ (.slice none 0 0)) := by
  have c7 := b7.cell 0
  have c4 := b4.cell 0
  have f4 := b4.frozen 0
  have c5 := b5.cell 0
  have f5 := b5.frozen 0
  have d5 := (b5.other (p := ⟨B4, 0, none⟩) (by simp; omega) (.slice none 0 0)).cell 0
  have g5 := (b5.other (p := ⟨B4, 0, none⟩) (by simp; omega) (.slice none 0 0)).frozen 0
  go_enter_d Tryz.func30, Tryz.ntmps30
  go_wp2
  go_end0
  exact ⟨rfl, rfl⟩
set_option maxHeartbeats 16000000 in
set_option maxRecDepth 100000 in
theorem impl_Slide_ok (w : World) (ao ro : Option Addr) (cap rc : Nat) (zs rs : List Int) (hI : Ints w ao zs) (hcap : zs.length ≤ cap) (hl : zs.length ≤ 1048576) (hRs : Ints w ro rs) (hrl : rs.length ≤ 1048576) :
    Calls Tryz.prog 7 #[.agg #[.slice ao zs.length cap], .slice ro rs.length rc] w fun e w' => ∃ v rv, e = .returned (.tuple #[.agg #[v], rv]) ∧ OwnR w' w.heap.size v (slideC zs rs).1 ∧ OwnL w' w.heap.size rv (slideC zs rs).2 ∧ (∀ j k, v.ownBlock = some j → rv.ownBlock = some k → j ≠ k) ∧ Kept w w' := by
  have hmf : ∀ (fn : Fn) (first cap : Array Value) (w : World), (Instr.makeFunc fn first cap).run Tryz.prog w = .ok (.func fn first cap) w := fun _ _ _ _ => rfl
  have b0 := ((Cells.new w 26 #[.slice ao zs.length cap]).alloc (.cells #[.slice none 0 0] 26)).alloc (.cells #[.slice none 0 0] 24)
  have b1 := (Cells.new (w.alloc (.cells #[.slice ao zs.length cap] 26)) 26 #[.slice none 0 0]).alloc (.cells #[.slice none 0 0] 24)
  have b2 := Cells.new ((w.alloc (.cells #[.slice ao zs.length cap] 26)).alloc (.cells #[.slice none 0 0] 26)) 24 #[.slice none 0 0]
  simp only [World.size_alloc] at b1 b2
  have k0 : Kept w (((w.alloc (.cells #[.slice ao zs.length cap] 26)).alloc (.cells #[.slice none 0 0] 26)).alloc (.cells #[.slice none 0 0] 24)) := ((Kept.alloc (Below.refl _ _) _).alloc _).alloc _
  have hF := forwardOf_ok _ ao cap zs (hI.kept k0) hl
  cases hh : heapR zs with
  | false =>
    have HE : Hid (slideC zs rs = ([], [])) := by simp [Hid, slideC, rootsR, hh]
    have hF' := hF.mono (R' := fun e w' => e = .returned (.tuple #[fwV none 0 0 (.slice none 0 0) 0, .bool false]) ∧ Kept (((w.alloc (.cells #[.slice ao zs.length cap] 26)).alloc (.cells #[.slice none 0 0] 26)).alloc (.cells #[.slice none 0 0] 24)) w') (fun e w' h => ⟨h.1 hh, h.2.2⟩)
    clear hh hF hI hRs
    go_enter_defers Tryz.func7, Tryz.ntmps7
    go_wp2_with fail
    refine hF'.mono ?_
    rintro e w1 ⟨rfl, hk1⟩
    have ka : Kept w1 ((w1.alloc (.cells #[.slice none 0 0, .slice none 0 0, .int .i64 0] 43)).alloc (.cells #[.bool false] 4)) := (Kept.alloc (Below.refl _ _) _).alloc _
    have l1 := (b1.kept hk1).lt
    have l2 := (b2.kept hk1).lt
    have d1 := (b1.kept hk1).kept ka
    have d2 := (b2.kept hk1).kept ka
    have c1 := d1.cell 0
    have f1 := d1.frozen 0
    have e2 := d2.other (p := ⟨w.heap.size + 1, 0, none⟩) (by simp) (.slice none 0 0)
    have c2 := e2.cell 0
    have f2 := e2.frozen 0
    have c7 := (Cells.new (w1.alloc (.cells #[.slice none 0 0, .slice none 0 0, .int .i64 0] 43)) 4 #[.bool false]).cell 0
    go_wp2
    have q1 := (d1.set1 (.slice none 0 0)).other (p := ⟨w.heap.size + 1 + 1, 0, none⟩) (by simp) (.slice none 0 0)
    have q2 := e2.set1 (.slice none 0 0)
    refine ⟨.tuple #[.agg #[.slice none 0 0], .slice none 0 0], by simp [results, Tryz.results7, go_sem, q1.cell 0, q2.cell 0], .slice none 0 0, .slice none 0 0, rfl, ?_, ?_, (fun j k h => by simp [Value.ownBlock] at h), ?_⟩
    · rw [HE.out]; exact .inl ⟨rfl, rfl⟩
    · rw [HE.out]; exact ⟨by simp, ⟨by simp, .inl ⟨rfl, rfl⟩⟩⟩
    · exact (((k0.trans hk1).trans ka).set (p := ⟨w.heap.size + 1, 0, none⟩) (by simp) _).set (p := ⟨w.heap.size + 1 + 1, 0, none⟩) (by simp; omega) _
  | true =>
    have hF' := hF.mono (R' := fun e w' => ∃ lo lc g, e = .returned (.tuple #[fwV lo zs.length lc (.slice (some ⟨g, 0, none⟩) zs.length zs.length) (szsB (tkL (blocks zs))), .bool true]) ∧ Ints w' lo (lyt zs) ∧ Row w' g (toL zs (tkL (blocks zs))) ∧ Kept (((w.alloc (.cells #[.slice ao zs.length cap] 26)).alloc (.cells #[.slice none 0 0] 26)).alloc (.cells #[.slice none 0 0] 24)) w') (fun e w' h => by obtain ⟨lo, lc, g, h1, h2, h3⟩ := h.2.1 hh; exact ⟨lo, lc, g, h1, h2, h3, h.2.2⟩)
    clear hF
    go_enter_defers Tryz.func7, Tryz.ntmps7
    go_wp2_with fail
    refine hF'.mono ?_
    rintro e w1 ⟨lo, lc, g, rfl, hLy, hR, hk1⟩
    obtain ⟨en, hen⟩ : ∃ en, szsB (tkL (blocks zs)) = en := ⟨_, rfl⟩
    simp only [hen]
    have ka : Kept w1 ((w1.alloc (.cells #[.slice lo zs.length lc, .slice (some ⟨g, 0, none⟩) zs.length zs.length, .int .i64 (en : Nat)] 43)).alloc (.cells #[.bool true] 4)) := (Kept.alloc (Below.refl _ _) _).alloc _
    have x0 := (b0.kept hk1).kept ka
    have x1 := (b1.kept hk1).kept ka
    have x2 := (b2.kept hk1).kept ka
    have xf := (Cells.new w1 43 #[.slice lo zs.length lc, .slice (some ⟨g, 0, none⟩) zs.length zs.length, .int .i64 (en : Nat)]).alloc (.cells #[.bool true] 4)
    have xb := Cells.new (w1.alloc (.cells #[.slice lo zs.length lc, .slice (some ⟨g, 0, none⟩) zs.length zs.length, .int .i64 (en : Nat)] 43)) 4 #[.bool true]
    simp only [World.size_alloc] at xb
    have cb := xb.cell 0
    have l2 := (b2.kept hk1).lt
    have kW := (k0.trans hk1).trans ka
    have hs1 : w.heap.size + 3 ≤ w1.heap.size := by have := hk1.size; simp at this; omega
    have lyW := hLy.kept ka
    have rgW := hR.kept ka
    clear hF' b0 b1 b2 k0 hk1 hLy hR
    go_wp2_with fail
    obtain ⟨B6, hB6⟩ : ∃ B, w1.heap.size = B := ⟨_, rfl⟩
    obtain ⟨W3, hW3⟩ : ∃ W3, (w1.alloc (.cells #[.slice lo zs.length lc, .slice (some ⟨g, 0, none⟩) zs.length zs.length, .int .i64 (en : Nat)] 43)).alloc (.cells #[.bool true] 4) = W3 := ⟨_, rfl⟩
    simp only [hB6] at xf xb hs1 l2 ⊢
    rw [hW3] at x0 x1 x2 xf xb kW lyW rgW ⊢
    have kd : Kept W3 W3.drew := (Below.refl _ W3).drew
    have hs3 := xb.lt
    have HS : Hid _ := fun (u : World) (hu : Kept W3 u) => slid_ok u lo lc g zs.length ao cap zs (lyW.kept hu) (rgW.kept hu) (hI.kept (kW.trans hu)) hcap hl hh
    rw [hen] at HS
    have HM : Hid _ := fun (u : World) (hu : Kept W3 u) => each_moved u ro rc rs (fwV lo zs.length lc (.slice (some ⟨g, 0, none⟩) zs.length zs.length) en) (movdV zs) (hRs.kept (kW.trans hu)) hrl (fun v hv => movdV_bd (hRs.1 v hv)) (fun u2 hu2 v hv => moved_ok u2 lo lc g zs.length en zs v (lyW.kept (hu.trans hu2)) (rgW.kept (hu.trans hu2)) (hRs.1 v hv))
    have HV : Hid (∀ u, Kept W3 u → u.cell? ⟨w.heap.size, 0, none⟩ = some (.slice ao zs.length cap) ∧ u.cell? ⟨B6, 0, none⟩ = some (.slice lo zs.length lc) ∧ u.cell? ⟨B6, 1, none⟩ = some (.slice (some ⟨g, 0, none⟩) zs.length zs.length) ∧ u.cell? ⟨B6, 2, none⟩ = some (.int .i64 (en : Nat))) := fun u hu => ⟨(x0.kept hu).cell 0, (xf.kept hu).cell 0, (xf.kept hu).cell 1, (xf.kept hu).cell 2⟩
    have H0 := HV.out _ kd
    have HRo : Hid _ := fun (u : World) (hu : Ints u lo (lyt zs)) (hr : Ints u ro rs) => rootsOk_ok u lo ro lc rc zs rs hu hr hrl
    clear hB6 hW3 cb
    go_cut [] from 17 to 24 (fun wx => ∃ (w5 : World) (gI rcc : Nat) (ra : Option Addr), wx = (w5.setCell ⟨w.heap.size + 1, 0, none⟩ (.slice (some ⟨gI, 0, none⟩) zs.length zs.length)).setCell ⟨w.heap.size + 1 + 1, 0, none⟩ (.slice ra rs.length rcc) ∧ Kept W3 w5 ∧ W3.heap.size ≤ gI ∧ Row w5 gI (slidL zs) ∧ OwnL w5 W3.heap.size (.slice ra rs.length rcc) (rs.map (movdV zs)) ∧ Hid (∀ k, (Value.slice ra rs.length rcc).ownBlock = some k → gI ≠ k))
    case first =>
      go_region_held3 (fun u => u.cell? ⟨w.heap.size, 0, none⟩ = some (.slice ao zs.length cap) ∧ u.cell? ⟨B6, 0, none⟩ = some (.slice lo zs.length lc) ∧ u.cell? ⟨B6, 1, none⟩ = some (.slice (some ⟨g, 0, none⟩) zs.length zs.length) ∧ u.cell? ⟨B6, 2, none⟩ = some (.int .i64 (en : Nat)))
        (first | exact HV.out _ (by assumption) | exact ⟨u0.cell 0, uf.cell 0, uf.cell 1, uf.cell 2⟩ | exact ⟨v0.cell 0, vf.cell 0, vf.cell 1, vf.cell 2⟩ | go_keep)
        (first
          | (go_at_call 31; refine (HS.out W3.drew kd).mono ?_; rintro e w4 ⟨gI, rfl, hgI, rI, hk4⟩; have k4 : Kept W3 w4 := kd.trans hk4)
          | (go_at_call 32; refine (HM.out w4 k4).mono ?_; rintro e w5 ⟨rv, rfl, oR, hk5⟩; obtain ⟨ra, rcc, rfl, _⟩ := oR.ints; have k5 : Kept W3 w5 := k4.trans hk5; have y1 := x1.kept k5; have y2 := x2.kept k5; have c1 := y1.cell 0; have f1 := y1.frozen 0; have z2 := y2.other (p := ⟨w.heap.size + 1, 0, none⟩) (by simp) (.slice (some ⟨gI, 0, none⟩) zs.length zs.length); have c2 := z2.cell 0; have f2 := z2.frozen 0; have u0 := (x0.kept k5).other (p := ⟨w.heap.size + 1, 0, none⟩) (by simp) (.slice (some ⟨gI, 0, none⟩) zs.length zs.length); have uf := (xf.kept k5).other (p := ⟨w.heap.size + 1, 0, none⟩) (by simp; omega) (.slice (some ⟨gI, 0, none⟩) zs.length zs.length); have ub := (xb.kept k5).other (p := ⟨w.heap.size + 1, 0, none⟩) (by simp; omega) (.slice (some ⟨gI, 0, none⟩) zs.length zs.length); have v0 := u0.other (p := ⟨w.heap.size + 1 + 1, 0, none⟩) (by simp; omega) (.slice ra rs.length rcc); have vf := uf.other (p := ⟨w.heap.size + 1 + 1, 0, none⟩) (by simp; omega) (.slice ra rs.length rcc); have vb := ub.other (p := ⟨w.heap.size + 1 + 1, 0, none⟩) (by simp; omega) (.slice ra rs.length rcc)))

      all_goals (go_wp2_with fail; go_meet; exact ⟨w5, gI, rcc, ra, rfl, k5, by simpa using hgI, rI.kept hk5, ⟨oR.1, by have h6 := ownsRow_base oR.2 k4.size; simpa using h6⟩, fun k hk => by have h6 := (oR.2.lt k (by simpa using hk)).1; have h7 := rI.lt; omega⟩)
    case rest =>
    obtain ⟨w5, gI, rcc, ra, rfl, k5, hgI, rI, oR, HAp⟩ := hcut
    have y1 := x1.kept k5
    have y2 := x2.kept k5
    have hs5 := k5.size
    have z1 := (y1.set1 (.slice (some ⟨gI, 0, none⟩) zs.length zs.length)).other (p := ⟨w.heap.size + 1 + 1, 0, none⟩) (by simp) (.slice ra rs.length rcc)
    have z2 := (y2.other (p := ⟨w.heap.size + 1, 0, none⟩) (by simp) (.slice (some ⟨gI, 0, none⟩) zs.length zs.length)).set1 (.slice ra rs.length rcc)
    have zf := ((xf.kept k5).other (p := ⟨w.heap.size + 1, 0, none⟩) (by simp; omega) (.slice (some ⟨gI, 0, none⟩) zs.length zs.length)).other (p := ⟨w.heap.size + 1 + 1, 0, none⟩) (by simp; omega) (.slice ra rs.length rcc)
    have zb := ((xb.kept k5).other (p := ⟨w.heap.size + 1, 0, none⟩) (by simp; omega) (.slice (some ⟨gI, 0, none⟩) zs.length zs.length)).other (p := ⟨w.heap.size + 1 + 1, 0, none⟩) (by simp; omega) (.slice ra rs.length rcc)
    have ly5 := lyW.kept k5
    have kx : KeepX (fun k => k = w.heap.size + 1 ∨ k = w.heap.size + 1 + 1) W3.heap.size w5 ((w5.setCell ⟨w.heap.size + 1, 0, none⟩ (.slice (some ⟨gI, 0, none⟩) zs.length zs.length)).setCell ⟨w.heap.size + 1 + 1, 0, none⟩ (.slice ra rs.length rcc)) := (KeepX.setCell (p := ⟨w.heap.size + 1, 0, none⟩) (.inl rfl) _).t (KeepX.setCell (p := ⟨w.heap.size + 1 + 1, 0, none⟩) (.inr rfl) _)
    have lyA := kx.ints ly5 (fun a hne e => ⟨by
        have n1 := ly5.apart y1 (by intro j n; cases j <;> simp) a hne e
        have n2 := ly5.apart y2 (by intro j n; cases j <;> simp) a hne e
        omega, lyW.lt hne e⟩)
    have rA := (rI.other (p := ⟨w.heap.size + 1, 0, none⟩) (by simp; omega) (.slice (some ⟨gI, 0, none⟩) zs.length zs.length)).other (p := ⟨w.heap.size + 1 + 1, 0, none⟩) (by simp; omega) (.slice ra rs.length rcc)
    have oA : OwnL ((w5.setCell ⟨w.heap.size + 1, 0, none⟩ (.slice (some ⟨gI, 0, none⟩) zs.length zs.length)).setCell ⟨w.heap.size + 1 + 1, 0, none⟩ (.slice ra rs.length rcc)) W3.heap.size (.slice ra rs.length rcc) (rs.map (movdV zs)) := ⟨oR.1, ownsRow_setCell_below (ownsRow_setCell_below oR.2 (by simp; omega) _) (by simp; omega) _⟩
    have kA : Kept w ((w5.setCell ⟨w.heap.size + 1, 0, none⟩ (.slice (some ⟨gI, 0, none⟩) zs.length zs.length)).setCell ⟨w.heap.size + 1 + 1, 0, none⟩ (.slice ra rs.length rcc)) := ((kW.trans k5).set (p := ⟨w.heap.size + 1, 0, none⟩) (by simp) _).set (p := ⟨w.heap.size + 1 + 1, 0, none⟩) (by simp; omega) _
    have hsA : ((w5.setCell ⟨w.heap.size + 1, 0, none⟩ (.slice (some ⟨gI, 0, none⟩) zs.length zs.length)).setCell ⟨w.heap.size + 1 + 1, 0, none⟩ (.slice ra rs.length rcc)).heap.size = w5.heap.size := by simp [World.setCell]
    obtain ⟨WA, hWA⟩ : ∃ WA, (w5.setCell ⟨w.heap.size + 1, 0, none⟩ (.slice (some ⟨gI, 0, none⟩) zs.length zs.length)).setCell ⟨w.heap.size + 1 + 1, 0, none⟩ (.slice ra rs.length rcc) = WA := ⟨_, rfl⟩
    rw [hWA] at z1 z2 zf zb lyA rA oA kA hsA ⊢
    have hRo := HRo.out WA lyA (hRs.kept kA)
    have hrr : rootsR zs rs = leadAll zs rs rs.length := by simp [rootsR, hh]
    have HW3 : Hid (w.heap.size + 3 ≤ W3.heap.size) := by rw [Hid]; omega
    have cf := zf.cell 0
    have cb := zb.cell 0
    have fb := zb.frozen 0
    have lb := zb.lt
    clear hWA y1 y2 x0 x1 x2 xf xb lyW rgW k5 rI oR kx lyA H0 HV HS HM HRo kd ly5 hs5 kW hsA
    obtain ⟨bv, hbv⟩ : ∃ bv, leadAll zs rs rs.length = bv := ⟨_, rfl⟩
    rw [hbv] at hRo hrr
    go_wp2_with (go_at_call 34; refine hRo.mono ?_; rintro e wx ⟨rfl, rfl⟩)
    have q1 := z1.other (p := ⟨B6 + 1, 0, none⟩) (by simp; omega) (.bool bv)
    have q2 := z2.other (p := ⟨B6 + 1, 0, none⟩) (by simp; omega) (.bool bv)
    have qb := zb.set1 (.bool bv)
    have lq := HW3.out
    have kB := kA.set (p := ⟨B6 + 1, 0, none⟩) (by simp; omega) (.bool bv)
    have rB := rA.other (p := ⟨B6 + 1, 0, none⟩) (by simp; omega) (.bool bv)
    have oB : OwnL (WA.setCell ⟨B6 + 1, 0, none⟩ (.bool bv)) W3.heap.size (.slice ra rs.length rcc) (rs.map (movdV zs)) := ⟨oA.1, ownsRow_setCell_below oA.2 (by simp; omega) _⟩
    obtain ⟨WB, hWB⟩ : ∃ WB, WA.setCell ⟨B6 + 1, 0, none⟩ (.bool bv) = WB := ⟨_, rfl⟩
    rw [hWB] at q1 q2 qb kB rB oB ⊢
    have c1 := q1.cell 0
    have c2 := q2.cell 0
    have f1 := q1.frozen 0
    have f2 := q2.frozen 0
    have r2 := q2.other (p := ⟨w.heap.size + 1, 0, none⟩) (by simp) (.slice (some ⟨gI, 0, none⟩) zs.length zs.length)
    have d2 := r2.cell 0
    have g2 := r2.frozen 0
    clear hWB z1 z2 zf zb rA oA kA cf cb fb lb hRo
    go_region
    have s1 : Cells _ _ _ _ := ((q1.set1 (.slice (some ⟨gI, 0, none⟩) zs.length zs.length)).other (p := ⟨w.heap.size + 1 + 1, 0, none⟩) (by simp) (.slice ra rs.length rcc)).kept ((Below.refl _ _).drew)
    have s2 : Cells _ _ _ _ := (r2.set1 (.slice ra rs.length rcc)).kept ((Below.refl _ _).drew)
    have sb : Cells _ _ _ _ := ((qb.other (p := ⟨w.heap.size + 1, 0, none⟩) (by simp; omega) (.slice (some ⟨gI, 0, none⟩) zs.length zs.length)).other (p := ⟨w.heap.size + 1 + 1, 0, none⟩) (by simp; omega) (.slice ra rs.length rcc)).kept ((Below.refl _ _).drew)
    have kC : Kept w ((WB.setCell ⟨w.heap.size + 1, 0, none⟩ (.slice (some ⟨gI, 0, none⟩) zs.length zs.length)).setCell ⟨w.heap.size + 1 + 1, 0, none⟩ (.slice ra rs.length rcc)).drew := ((kB.set (p := ⟨w.heap.size + 1, 0, none⟩) (by simp) _).set (p := ⟨w.heap.size + 1 + 1, 0, none⟩) (by simp; omega) _).drew
    have rC : Row ((WB.setCell ⟨w.heap.size + 1, 0, none⟩ (.slice (some ⟨gI, 0, none⟩) zs.length zs.length)).setCell ⟨w.heap.size + 1 + 1, 0, none⟩ (.slice ra rs.length rcc)).drew gI (slidL zs) := ((rB.other (p := ⟨w.heap.size + 1, 0, none⟩) (by simp; omega) _).other (p := ⟨w.heap.size + 1 + 1, 0, none⟩) (by simp; omega) _).kept ((Below.refl _ _).drew)
    have oC : OwnL ((WB.setCell ⟨w.heap.size + 1, 0, none⟩ (.slice (some ⟨gI, 0, none⟩) zs.length zs.length)).setCell ⟨w.heap.size + 1 + 1, 0, none⟩ (.slice ra rs.length rcc)).drew W3.heap.size (.slice ra rs.length rcc) (rs.map (movdV zs)) := ⟨oB.1, ((show OwnL _ _ _ (rs.map (movdV zs)) from ⟨oB.1, ownsRow_setCell_below (ownsRow_setCell_below oB.2 (by simp; omega) _) (by simp; omega) _⟩).kept (row := none) (Kept.grown ((Below.refl _ _).drew)) (fun _ e => by cases e)).2⟩
    obtain ⟨WC, hWC⟩ : ∃ WC, ((WB.setCell ⟨w.heap.size + 1, 0, none⟩ (.slice (some ⟨gI, 0, none⟩) zs.length zs.length)).setCell ⟨w.heap.size + 1 + 1, 0, none⟩ (.slice ra rs.length rcc)).drew = WC := ⟨_, rfl⟩
    rw [hWC] at s1 s2 sb kC rC oC ⊢
    clear hWC q1 q2 qb r2 c1 c2 f1 f2 d2 g2 rB oB kB
    go_wp2
    refine leaves_cons (f := 30) (args := #[.pointer (some ⟨B6 + 1, 0, none⟩), .pointer (some ⟨w.heap.size + 1, 0, none⟩), .pointer (some ⟨w.heap.size + 1 + 1, 0, none⟩)]) (by simp) (by simp [go_sem]) ?_
    cases bv with
    | true =>
      refine (slideD_yes WC (B6 + 1) (w.heap.size + 1) (w.heap.size + 1 + 1) sb).mono ?_
      rintro e u' w'' ⟨rfl, rfl, rfl⟩
      refine ⟨.tuple #[.agg #[.slice (some ⟨gI, 0, none⟩) zs.length zs.length], .slice ra rs.length rcc], by simp [results, Tryz.results7, go_sem, s1.cell 0, s2.cell 0], _, _, rfl, ?_, ?_, (fun j k h1 h2 => by simp only [Value.ownBlock, Option.some.injEq] at h1; subst h1; exact HAp.out k h2), kC⟩
      · have e1 : (slideC zs rs).1 = slidL zs := by simp [slideC, hrr]
        rw [e1]
        exact .inr ⟨gI, zs.length, by rw [slidL_len], by omega, by rw [slidL_len]; exact Nat.le_refl _, rC⟩
      · have e2 : (slideC zs rs).2 = rs.map (movdV zs) := by
          simp only [slideC, hrr, if_true]
          refine List.map_congr_left (fun v hv => (roots_mov hrr v hv).symm)
        rw [e2]
        exact ⟨oC.1, ownsRow_base oC.2 (by omega)⟩
    | false =>
      refine (slideD_no WC (B6 + 1) (w.heap.size + 1) (w.heap.size + 1 + 1) _ _ sb s1 s2 (by omega)).mono ?_
      rintro e u' w'' ⟨rfl, rfl, rfl⟩
      have t1 := (s1.set1 (.slice none 0 0)).other (p := ⟨w.heap.size + 1 + 1, 0, none⟩) (by simp) (.slice none 0 0)
      have t2 := (s2.other (p := ⟨w.heap.size + 1, 0, none⟩) (by simp) (.slice none 0 0)).set1 (.slice none 0 0)
      have e1 : slideC zs rs = ([], []) := by simp [slideC, hrr]
      refine ⟨.tuple #[.agg #[.slice none 0 0], .slice none 0 0], by simp [results, Tryz.results7, go_sem, t1.cell 0, t2.cell 0], .slice none 0 0, .slice none 0 0, rfl, ?_, ?_, (fun j k h => by simp [Value.ownBlock] at h), (kC.set (p := ⟨w.heap.size + 1, 0, none⟩) (by simp) _).set (p := ⟨w.heap.size + 1 + 1, 0, none⟩) (by simp; omega) _⟩
      · rw [e1]; exact .inl ⟨rfl, rfl⟩
      · rw [e1]; exact ⟨by simp, ⟨by simp, .inl ⟨rfl, rfl⟩⟩⟩
end Go.Proofs.YtaeeoehmocelhaaGreatDoor
