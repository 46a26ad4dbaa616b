/-
  A region whose order is drawn, walked in one order: where each operation yields the same in whatever world in which all that lay lies as it lay, and leaves all that lay as it lay, the order makes no difference.
-/
import Derived.Test.YtpbafjcoomfooaaGreatSlabI
import Derived.OrdersHeld
namespace Go.Proofs.YtpbafjcoomfooaaGreat
open Go.RowKit

def dstAt (ops : Array Oper) (i : Nat) : Option Tmp := (ops[i]?).bind (·.dst)

/-- Each operation waits for those alone that stand ahead of it, and for each one into whose temporary it looks, or that one waits for it; no two have one temporary. -/
def seqOk (ops : Array Oper) : Bool :=
  Region.noSelect ops && (List.range ops.size).all fun i => match ops[i]? with
    | none => true
    | some o =>
      (o.after.all fun e => !Region.binds .any e || decide (e.on < i)) &&
      (List.range ops.size).all fun j => match dstAt ops j with
        | none => true
        | some t => (j == i || o.dst != some t) && (!(o.looksAt ops).contains t || (o.after.any fun e => Region.binds .any e && e.on == j) || (decide (i < j) && ((ops[j]?).map (·.after.any fun e => Region.binds .any e && e.on == i)).getD false))

theorem seqOk_sel {ops : Array Oper} (h : seqOk ops = true) : Region.noSelect ops = true := by
  unfold seqOk at h; rw [Bool.and_eq_true] at h; exact h.1
theorem seqOk_op {ops : Array Oper} (h : seqOk ops = true) {i : Nat} {o : Oper} (hi : ops[i]? = some o) :
    (∀ e ∈ o.after, Region.binds .any e = true → e.on < i) ∧ ∀ j t, dstAt ops j = some t → (j = i ∨ o.dst ≠ some t) ∧ (t ∈ o.looksAt ops → (∃ e ∈ o.after, Region.binds .any e = true ∧ e.on = j) ∨ (i < j ∧ ∃ oj, ops[j]? = some oj ∧ ∃ e ∈ oj.after, Region.binds .any e = true ∧ e.on = i)) := by
  unfold seqOk at h; rw [Bool.and_eq_true] at h
  have hlt : i < ops.size := (Array.getElem?_eq_some_iff.1 hi).1
  have h2 := List.all_eq_true.1 h.2 i (List.mem_range.2 hlt)
  simp only [hi, Bool.and_eq_true] at h2
  refine ⟨fun e he hb => ?_, fun j t hj => ?_⟩
  · have := (Array.all_eq_true_iff_forall_mem.1 h2.1) e he
    simpa [hb] using this
  · have hjlt : j < ops.size := by
      unfold dstAt at hj
      cases hoj : ops[j]? with
      | none => rw [hoj] at hj; cases hj
      | some oj => exact (Array.getElem?_eq_some_iff.1 hoj).1
    have h3 := List.all_eq_true.1 h2.2 j (List.mem_range.2 hjlt)
    simp only [hj, Bool.and_eq_true, Bool.or_eq_true, beq_iff_eq, bne_iff_ne, ne_eq, Bool.not_eq_true'] at h3
    refine ⟨h3.1, fun ht => ?_⟩
    rcases h3.2 with (h4 | h4) | h4
    · rw [List.contains_iff_mem.2 ht] at h4; cases h4
    · obtain ⟨k, hk, hb⟩ := Array.any_eq_true.1 h4
      rw [Bool.and_eq_true, beq_iff_eq] at hb
      exact .inl ⟨o.after[k], Array.getElem_mem hk, hb.1, hb.2⟩
    · obtain ⟨h5, h6⟩ := h4
      have ho : ops[j]? = some ops[j] := Array.getElem?_eq_getElem hjlt
      rw [ho] at h6
      simp only [Option.map_some, Option.getD_some] at h6
      obtain ⟨k, hk, hb⟩ := Array.any_eq_true.1 h6
      rw [Bool.and_eq_true, beq_iff_eq] at hb
      exact .inr ⟨by simpa using h5, ops[j], ho, ops[j].after[k], Array.getElem_mem hk, hb.1, hb.2⟩

/-- What the frame holds when the operations of L have come up. -/
structure Fr (ops : Array Oper) (vs : Nat → Value) (a0 : Act) (L : Nat → Prop) (a : Act) : Prop where
  size : a.tmps.size = a0.tmps.size
  defers : a.defers = a0.defers
  hit : ∀ i d, L i → dstAt ops i = some d → d < a0.tmps.size → a.tmps[d]? = some (vs i)
  miss : ∀ t, (∀ i, L i → dstAt ops i ≠ some t) → a.tmps[t]? = a0.tmps[t]?

section
variable {P : Program} {ops : Array Oper} {vs : Nat → Value} {a0 : Act}

theorem Fr.start : Fr ops vs a0 (fun _ => False) a0 := ⟨rfl, rfl, fun _ _ h => h.elim, fun _ _ => rfl⟩
theorem Fr.put (hd : ∀ i j t, dstAt ops i = some t → dstAt ops j = some t → i = j) {L : Nat → Prop} {a : Act} (h : Fr ops vs a0 L a) (i : Nat) :
    Fr ops vs a0 (fun j => L j ∨ j = i) (a.put (dstAt ops i) (vs i)) := by
  cases hi : dstAt ops i with
  | none =>
    refine ⟨h.size, h.defers, fun j d hj he hlt => ?_, fun t ht => h.miss t (fun j hj => ht j (.inl hj))⟩
    rcases hj with hj | rfl
    · exact h.hit j d hj he hlt
    · rw [hi] at he; cases he
  | some t =>
    refine ⟨by simp [Act.put, h.size], h.defers, fun j d hj he hlt => ?_, fun u hu => ?_⟩
    · by_cases hji : j = i
      · subst hji
        rw [hi] at he; cases he
        have : t < a.tmps.size := by rw [h.size]; exact hlt
        simp [Act.put, this]
      · have hne : t ≠ d := fun e => hji (hd j i d he (e ▸ hi))
        rcases hj with hj | hj
        · simp only [Act.put]
          rw [Array.getElem?_setIfInBounds_ne hne]
          exact h.hit j d hj he hlt
        · exact absurd hj hji
    · have hne : t ≠ u := fun e => hu i (.inr rfl) (e ▸ hi)
      simp only [Act.put]
      rw [Array.getElem?_setIfInBounds_ne hne]
      exact h.miss u (fun j hj => hu j (.inl hj))
theorem Fr.look (hd : ∀ i j t, dstAt ops i = some t → dstAt ops j = some t → i = j) {L L' : Nat → Prop} {a b : Act} (h : Fr ops vs a0 L a) (h' : Fr ops vs a0 L' b) (t : Nat) (ht : ∀ j, dstAt ops j = some t → (L j ∧ L' j) ∨ (¬ L j ∧ ¬ L' j)) : a.tmps[t]? = b.tmps[t]? := by
  by_cases hx : ∃ j, dstAt ops j = some t
  · obtain ⟨j, hj⟩ := hx
    rcases ht j hj with hl | hl
    · by_cases hlt : t < a0.tmps.size
      · rw [h.hit j t hl.1 hj hlt, h'.hit j t hl.2 hj hlt]
      · rw [Array.getElem?_eq_none (by rw [h.size]; omega), Array.getElem?_eq_none (by rw [h'.size]; omega)]
    · rw [h.miss t (fun i hi e => hl.1 (hd i j t e hj ▸ hi)), h'.miss t (fun i hi e => hl.2 (hd i j t e hj ▸ hi))]
  · rw [h.miss t (fun j _ e => hx ⟨j, e⟩), h'.miss t (fun j _ e => hx ⟨j, e⟩)]
theorem Fr.ext (hd : ∀ i j t, dstAt ops i = some t → dstAt ops j = some t → i = j) {L L' : Nat → Prop} {a b : Act} (h : Fr ops vs a0 L a) (h' : Fr ops vs a0 L' b) (hL : ∀ j t, dstAt ops j = some t → L j ∧ L' j) : a = b := by
  have ht : a.tmps = b.tmps := Array.ext_getElem? fun t => h.look hd h' t (fun j hj => .inl (hL j t hj))
  have hdf : a.defers = b.defers := h.defers.trans h'.defers.symm
  cases a; cases b; simp_all

/-- Operation i yields v from frame a, in whatever world in which all that lay in W lies as it lay; all that lay stays. -/
def StepK (P : Program) (ops : Array Oper) (W : World) (i : Nat) (v : Value) (a : Act) : Prop :=
  ∃ o, ops[i]? = some o ∧ ((Region.wanted o (yielded ops a.tmps) = false ∧ v = undef) ∨
    (Region.wanted o (yielded ops a.tmps) = true ∧ ∀ w, Kept W w → (execOp a.eval o).run P w = .ok (.value v) w ∨
      ∃ f args, (execOp a.eval o).run P w = .ok (.enter f args) w ∧ Calls P f args w fun e w' => e = .returned v ∧ Kept w w'))

theorem StepK.wpOp {Q : Exit → Act → World → Prop} {W : World} {i : Nat} {v : Value} {a b : Act} (h : StepK P ops W i v b)
    (he : ∀ o, ops[i]? = some o → execOp a.eval o = execOp b.eval o ∧ Region.wanted o (yielded ops a.tmps) = Region.wanted o (yielded ops b.tmps))
    {K : Act → World → Prop} {w : World} (hw : Kept W w) (hK : ∀ w', Kept w w' → K (a.put (dstAt ops i) v) w') : wpOp P ops Q i K a w := by
  obtain ⟨o, ho, h⟩ := h
  obtain ⟨e1, e2⟩ := he o ho
  have hdst : dstAt ops i = o.dst := by simp [dstAt, ho]
  rw [hdst] at hK
  unfold Go.wpOp
  simp only [ho]
  rw [e2]
  rcases h with ⟨hn, rfl⟩ | ⟨hy, h⟩
  · simp only [hn, Bool.false_eq_true, if_false]
    exact hK w (Below.refl _ _)
  · simp only [hy, if_true]
    refine .inl ?_
    unfold Oper.wp
    rw [e1]
    rcases h w hw with h | ⟨f, args, h, hc⟩
    · rw [h]; exact hK w (Below.refl _ _)
    · rw [h, Oper.upon_enter]
      refine hc.mono ?_
      rintro e w' ⟨rfl, hk⟩
      exact hK w' hk

theorem ready_none {listed : Array Bool} (hs : seqOk ops = true) (hz : listed.size = ops.size) (hr : Region.ready .any ops listed = []) (i : Nat) (hi : i < ops.size) : listed.getD i false = true := by
  induction i using Nat.strongRecOn with
  | _ i ih =>
    cases hl : listed.getD i false with
    | true => rfl
    | false =>
      exfalso
      have hm : i ∈ Region.ready .any ops listed := by
        refine mem_ready.2 ⟨?_, ops[i], Array.getElem?_eq_getElem hi, fun e he hb => ?_⟩
        · have : i < listed.size := by omega
          have hx : listed[i] = false := by simpa [this] using hl
          simp [this, hx]
        · have := (seqOk_op hs (o := ops[i]) (Array.getElem?_eq_getElem hi)).1 e he hb
          exact ih _ this (by omega)
      rw [hr] at hm; cases hm

theorem wpAny_seq {Q : Exit → Act → World → Prop} {W : World} (hs : seqOk ops = true) (fr : Nat → Act) (h0 : fr 0 = a0)
    (hn : ∀ i, i < ops.size → fr (i + 1) = (fr i).put (dstAt ops i) (vs i)) (hstep : ∀ i, i < ops.size → StepK P ops W i (vs i) (fr i)) (hfin : ∀ w, Kept W w → Q .normal (fr ops.size) w) :
    ∀ (f : Nat) (listed : Array Bool) (a : Act) (w : World), listed.size = ops.size → listed.count false ≤ f → Kept W w → (∀ j oj, ops[j]? = some oj → listed.getD j false = true → ∀ e ∈ oj.after, Region.binds .any e = true → listed.getD e.on false = true) → Fr ops vs a0 (fun i => listed.getD i false = true) a → wpAny P .any ops Q f listed a w := by
  have hlt : ∀ j t, dstAt ops j = some t → j < ops.size := fun j t hj => by
    unfold dstAt at hj
    cases hoj : ops[j]? with
    | none => rw [hoj] at hj; cases hj
    | some oj => exact (Array.getElem?_eq_some_iff.1 hoj).1
  have hd : ∀ i j t, dstAt ops i = some t → dstAt ops j = some t → i = j := fun i j t hi hj => by
    have hil := hlt i t hi
    have ho : ops[i]? = some ops[i] := by simp [hil]
    rcases ((seqOk_op hs ho).2 j t hj).1 with h | h
    · exact h.symm
    · exact absurd (by simpa [dstAt, ho] using hi) h
  have hfr : ∀ i, i ≤ ops.size → Fr ops vs a0 (fun j => j < i) (fr i) := by
    intro i
    induction i with
    | zero => intro _; rw [h0]; exact ⟨rfl, rfl, fun _ _ h => (Nat.not_lt_zero _ h).elim, fun _ _ => rfl⟩
    | succ i ih =>
      intro hi
      rw [hn i (by omega)]
      have := (ih (by omega)).put hd i
      have e : (fun j => j < i ∨ j = i) = (fun j => j < i + 1) := by funext j; apply propext; omega
      rw [e] at this
      exact this
  have hdone : ∀ (listed : Array Bool) (a : Act) (w : World), listed.size = ops.size → Kept W w → Fr ops vs a0 (fun i => listed.getD i false = true) a → Region.ready .any ops listed = [] → Q .normal a w := by
    intro listed a w hz hw hF hr
    have := hF.ext hd (hfr ops.size (Nat.le_refl _)) (fun j t hj => ⟨ready_none hs hz hr j (hlt j t hj), hlt j t hj⟩)
    rw [this]
    exact hfin w hw
  intro f
  induction f with
  | zero =>
    intro listed a w hz hc hw _ hF
    have hr : Region.ready .any ops listed = [] := by
      cases hr : Region.ready .any ops listed with
      | nil => rfl
      | cons i l =>
        exfalso
        have hm : i ∈ Region.ready .any ops listed := by rw [hr]; exact List.mem_cons_self
        have h1 := (mem_ready.1 hm).1
        have hil : i < listed.size := by
          rcases Nat.lt_or_ge i listed.size with h | h
          · exact h
          · simp [Array.getElem?_eq_none h] at h1
        have : false ∈ listed := by
          simp [hil] at h1
          rw [← h1]; exact Array.getElem_mem hil
        have := Array.count_pos_iff.2 this
        omega
    exact ⟨hr, hdone listed a w hz hw hF hr⟩
  | succ f ih =>
    intro listed a w hz hc hw hcl hF
    refine ⟨hdone listed a w hz hw hF, fun i hi => ?_⟩
    obtain ⟨hun, o, ho, hall⟩ := mem_ready.1 hi
    have hil : i < ops.size := (Array.getElem?_eq_some_iff.1 ho).1
    have hFi := hfr i (by omega)
    have hnot : listed.getD i false = false := by
      have hl' : i < listed.size := by omega
      simp [hl'] at hun ⊢
      exact hun
    have hlook : ∀ t, t ∈ o.looksAt ops → a.tmps[t]? = (fr i).tmps[t]? := fun t ht => hF.look hd hFi t (fun j hj => by
      rcases ((seqOk_op hs ho).2 j t hj).2 ht with ⟨e, he, hb, hon⟩ | ⟨hij, oj, hoj, e, he, hb, hon⟩
      · have h1 := hall e he hb
        have h2 := (seqOk_op hs ho).1 e he hb
        rw [hon] at h1 h2
        exact .inl ⟨h1, h2⟩
      · refine .inr ⟨fun hl => ?_, by omega⟩
        have := hcl j oj hoj hl e he hb
        rw [hon, hnot] at this
        cases this)
    refine (hstep i hil).wpOp (a := a) ?_ hw ?_
    · intro o' ho'
      rw [ho] at ho'; cases ho'
      refine ⟨execOp_congr o (fun cs b => Region.noSelect_spec (seqOk_sel hs) i o cs b ho) fun x hx => ?_, ?_⟩
      · cases x with
        | tmp t =>
          have := hlook t (List.mem_append_left _ (List.mem_filterMap.2 ⟨.tmp t, by simpa using hx, rfl⟩))
          simp only [Act.eval, Array.getD_eq_getD_getElem?, this]
        | _ => rfl
      · unfold Region.wanted
        cases hg : o.guard with
        | none => rfl
        | some gw =>
          obtain ⟨g, want⟩ := gw
          have hy : yielded ops a.tmps g = yielded ops (fr i).tmps g := by
            unfold yielded
            cases ht : (ops[g]?).bind (·.dst) with
            | none => rfl
            | some t =>
              have := hlook t (by simp [Oper.looksAt, hg, ht])
              simp [this]
          simp only [hy]
    · intro w' hw'
      refine ih _ _ _ (by simp [hz]) ?_ (hw.trans hw') (fun j oj hoj hl e he hb => ?_) ?_
      · have hl' : i < listed.size := by omega
        simp [hl'] at hun
        rw [Array.setIfInBounds_def, dif_pos hl', Array.count_set hl']
        simp [hun]
        omega
      · have hstay : ∀ k, listed.getD k false = true → (listed.setIfInBounds i true).getD k false = true := fun k hk => by
          by_cases hik : i = k
          · subst hik
            have hl' : i < listed.size := by omega
            simp [hl']
          · rw [getD_set_ne false hik]; exact hk
        by_cases hji : i = j
        · subst hji
          rw [ho] at hoj
          cases hoj
          exact hstay _ (hall e he hb)
        · rw [getD_set_ne false hji] at hl
          exact hstay _ (hcl j oj hoj hl e he hb)
      · have h3 := hF.put hd i
        have e : (fun j => listed.getD j false = true ∨ j = i) = (fun j => (listed.setIfInBounds i true).getD j false = true) := by
          funext j
          apply propext
          by_cases hji : i = j
          · subst hji
            have hl' : i < listed.size := by omega
            simp [hl']
          · rw [getD_set_ne false hji]
            constructor
            · rintro (h | h)
              · exact h
              · exact absurd h.symm hji
            · exact .inl
        rw [e] at h3
        exact h3

/-- The operations from number i on, n of them, in their order. -/
def SeqK (P : Program) (ops : Array Oper) (W : World) (fin : Act → Prop) : Nat → Nat → Act → Prop
  | 0, _, a => fin a
  | n + 1, i, a => ∃ v, StepK P ops W i v a ∧ SeqK P ops W fin n (i + 1) (a.put (dstAt ops i) v)

theorem SeqK.vals {W : World} {fin : Act → Prop} : ∀ (n i : Nat) (a : Act), SeqK P ops W fin n i a → ∃ (vs : Nat → Value) (fr : Nat → Act), fr i = a ∧ (∀ k, i ≤ k → k < i + n → fr (k + 1) = (fr k).put (dstAt ops k) (vs k) ∧ StepK P ops W k (vs k) (fr k)) ∧ fin (fr (i + n))
  | 0, i, a, h => ⟨fun _ => undef, fun _ => a, rfl, fun k h1 h2 => by omega, h⟩
  | n + 1, i, a, h => by
    obtain ⟨v, hs, h⟩ := h
    obtain ⟨vs, fr, e, hk, hf⟩ := SeqK.vals n (i + 1) _ h
    refine ⟨fun k => if k = i then v else vs k, fun k => if k = i then a else fr k, by simp, fun k h1 h2 => ?_, ?_⟩
    · by_cases hki : k = i
      · subst hki
        simp [e, hs]
      · have := hk k (by omega) (by omega)
        simp [hki, show k + 1 ≠ i by omega, this.1, this.2]
    · have : i + (n + 1) ≠ i := by omega
      simp only [this, if_false]
      rw [show i + (n + 1) = i + 1 + n by omega]
      exact hf

/-- A region that draws, walked in one order. -/
theorem wp_region_seq {id : Nat} {Q : Exit → Act → World → Prop} {a : Act} {w : World} (n : Nat) (hm : P.follows .mixedOrders = true) (hs : seqOk ops = true) (hz : ops.size = n)
    (h : SeqK P ops w.drew (fun a' => ∀ w', Kept w.drew w' → Q .normal a' w') n 0 a) : (Code.region id ops true).wp P Q a w := by
  subst hz
  obtain ⟨vs, fr, e, hk, hf⟩ := SeqK.vals _ _ _ h
  rw [Nat.zero_add] at hf
  refine wp_region_any hm (wpAny_seq (vs := vs) (W := w.drew) hs fr e (fun i hi => (hk i (Nat.zero_le _) (by omega)).1) (fun i hi => (hk i (Nat.zero_le _) (by omega)).2) hf _ _ _ _ (by simp) (by simp) (Below.refl _ _) (fun j oj hoj hl => ?_) ?_)
  · exfalso
    have hjl : j < ops.size := (Array.getElem?_eq_some_iff.1 hoj).1
    simp [hjl] at hl
  refine ⟨rfl, rfl, fun i d hi => ?_, fun _ _ => rfl⟩
  by_cases hlt : i < ops.size
  · simp [hlt] at hi
  · simp [hlt] at hi

/-- Operation o yields v from frame a, in whatever world in which all that lay in W lies as it lay; all that lay stays. -/
def StepO (P : Program) (ops : Array Oper) (W : World) (o : Oper) (v : Value) (a : Act) : Prop :=
  (Region.wanted o (yielded ops a.tmps) = false ∧ v = undef) ∨
    (Region.wanted o (yielded ops a.tmps) = true ∧ ∀ w, Kept W w → (execOp a.eval o).run P w = .ok (.value v) w ∨
      ∃ f args, (execOp a.eval o).run P w = .ok (.enter f args) w ∧ Calls P f args w fun e w' => e = .returned v ∧ Kept w w')
def SeqL (P : Program) (ops : Array Oper) (W : World) (fin : Act → Prop) : List Oper → Act → Prop
  | [], a => fin a
  | o :: os, a => ∃ v, StepO P ops W o v a ∧ SeqL P ops W fin os (a.put o.dst v)

theorem SeqL.seqK {W : World} {fin : Act → Prop} : ∀ (os pre : List Oper) (a : Act), SeqL P (pre ++ os).toArray W fin os a → SeqK P (pre ++ os).toArray W fin os.length pre.length a
  | [], _, _, h => h
  | o :: os, pre, a, h => by
    obtain ⟨v, hs, h⟩ := h
    have ho : (pre ++ o :: os).toArray[pre.length]? = some o := by simp
    refine ⟨v, ⟨o, ho, hs⟩, ?_⟩
    have hd : dstAt (pre ++ o :: os).toArray pre.length = o.dst := by simp [dstAt]
    rw [hd]
    have := SeqL.seqK os (pre ++ [o]) (a.put o.dst v) (by simpa using h)
    simpa using this

/-- A region that draws, walked in its own order. -/
theorem wp_region_seqL {os : List Oper} {id : Nat} {Q : Exit → Act → World → Prop} {a : Act} {w : World} (hm : P.follows .mixedOrders = true) (hs : seqOk os.toArray = true)
    (h : SeqL P os.toArray w.drew (fun a' => ∀ w', Kept w.drew w' → Q .normal a' w') os a) : (Code.region id os.toArray true).wp P Q a w :=
  wp_region_seq os.length hm hs (by simp) (SeqL.seqK os [] a h)

theorem SeqL.nil {W : World} {fin : Act → Prop} {a : Act} (h : fin a) : SeqL P ops W fin [] a := h
theorem SeqL.skip {W : World} {fin : Act → Prop} {os : List Oper} {o : Oper} {a : Act} (hw : Region.wanted o (yielded ops a.tmps) = false) (h : SeqL P ops W fin os (a.put o.dst undef)) : SeqL P ops W fin (o :: os) a :=
  ⟨undef, .inl ⟨hw, rfl⟩, h⟩
theorem SeqL.pure {W : World} {fin : Act → Prop} {os : List Oper} {o : Oper} {a : Act} (v : Value) (hw : Region.wanted o (yielded ops a.tmps) = true) (hv : ∀ w, Kept W w → (execOp a.eval o).run P w = .ok (.value v) w) (h : SeqL P ops W fin os (a.put o.dst v)) : SeqL P ops W fin (o :: os) a :=
  ⟨v, .inr ⟨hw, fun w hk => .inl (hv w hk)⟩, h⟩
theorem SeqL.call {W : World} {fin : Act → Prop} {os : List Oper} {o : Oper} {a : Act} (v : Value) (f : FuncId) (args : Array Value) (hw : Region.wanted o (yielded ops a.tmps) = true) (he : ∀ w, (execOp a.eval o).run P w = .ok (.enter f args) w)
    (hc : ∀ w, Kept W w → Calls P f args w fun e w' => e = .returned v ∧ Kept w w') (h : SeqL P ops W fin os (a.put o.dst v)) : SeqL P ops W fin (o :: os) a :=
  ⟨v, .inr ⟨hw, fun w hk => .inr ⟨f, args, he w, hc w hk⟩⟩, h⟩
end
theorem calls_kept {P : Program} {f : FuncId} {args : Array Value} {v : Value} {w : World} (h : Calls P f args w fun e w' => e = .returned v ∧ w = w') : Calls P f args w fun e w' => e = .returned v ∧ Kept w w' :=
  h.mono (fun _ _ ⟨h1, h2⟩ => ⟨h1, h2 ▸ Below.refl _ _⟩)
end Go.Proofs.YtpbafjcoomfooaaGreat
