/-
  A region whose order is drawn, in a round of a range over a function: walked in one order, as Seq walks those outside.
-/
import Derived.Test.YthkhlmbhickdbaaSeqIn
import Derived.Test.YthkhlmbhickdbaaSlabT
namespace Go.Proofs.Ythkhlmbhickdbaa
open Go.RowKit Go.Shelf

section
variable {l nF : Nat} {P : Program} {ops : Array Oper} {vs : Nat → Value} {a0 : Act} {Q : Exit → Act → World → Prop}

def noDefer (ops : Array Oper) : Bool := ops.all fun o => match o.op with
  | .defer _ => false
  | _ => true
theorem noDefer_op {ops : Array Oper} (h : noDefer ops = true) {i : Nat} {o : Oper} (ho : ops[i]? = some o) : ∀ c, o.op ≠ .defer c := by
  intro c e
  have := Array.all_eq_true_iff_forall_mem.1 h o (Array.mem_of_getElem? ho)
  rw [e] at this
  cases this
theorem StepK.wpOpIn {W : World} {i : Nat} {v : Value} {a b : Act} (h : StepK P ops W i v b) (hnd : noDefer ops = true)
    (he : ∀ o, ops[i]? = some o → execOp a.eval o = execOp b.eval o ∧ Region.wanted o (yielded ops a.tmps) = Region.wanted o (yielded ops b.tmps))
    {K : Act → World → Prop} {w : World} (hw : Kept W w) (hK : ∀ w', Kept w w' → K (a.put (dstAt ops i) v) w') : wpOpIn (Fence.wide.inRound l) nF P ops Q i K a w := by
  obtain ⟨o, ho, h⟩ := h
  obtain ⟨e1, e2⟩ := he o ho
  have g2 := noDefer_op hnd ho
  have hdst : dstAt ops i = o.dst := by simp [dstAt, ho]
  rw [hdst] at hK
  unfold Go.wpOpIn
  simp only [ho]
  rw [e2]
  rcases h with ⟨hn, rfl⟩ | ⟨hy, h⟩
  · simp only [hn, Bool.false_eq_true, if_false]
    exact ⟨fun _ _ => trivial, hK w (Below.refl _ _)⟩
  · simp only [hy, if_true]
    refine ⟨fun _ _ => trivial, ?_⟩
    rw [Oper.semAt_eq _ _ _ g2, e1]
    rcases h w hw with h | ⟨f, args, h, hc⟩
    · rw [h]; exact hK w (Below.refl _ _)
    · rw [h, Oper.uponIn_enter]
      refine ⟨(fun h => by cases h), (CallsIn.inRound l (callsIn_wide.2 hc)).mono ?_⟩
      rintro e w' ⟨rfl, hk⟩
      exact hK w' hk
theorem wpAnyIn_seq {W : World} (hs : seqOk ops = true) (hnd : noDefer ops = true) (fr : Nat → Act) (h0 : fr 0 = a0)
    (hn : ∀ i, i < ops.size → fr (i + 1) = (fr i).put (dstAt ops i) (vs i)) (hstep : ∀ i, i < ops.size → StepK P ops W i (vs i) (fr i)) (hfin : ∀ w, Kept W w → Q .normal (fr ops.size) w) :
    ∀ (f : Nat) (listed : Array Bool) (a : Act) (w : World), listed.size = ops.size → listed.count false ≤ f → Kept W w → (∀ j oj, ops[j]? = some oj → listed.getD j false = true → ∀ e ∈ oj.after, Region.binds .any e = true → listed.getD e.on false = true) → Fr ops vs a0 (fun i => listed.getD i false = true) a → wpAnyIn (Fence.wide.inRound l) nF P .any ops Q f listed a w := by
  have hlt : ∀ j t, dstAt ops j = some t → j < ops.size := fun j t hj => by
    unfold dstAt at hj
    cases hoj : ops[j]? with
    | none => rw [hoj] at hj; cases hj
    | some oj => exact (Array.getElem?_eq_some_iff.1 hoj).1
  have hd : ∀ i j t, dstAt ops i = some t → dstAt ops j = some t → i = j := fun i j t hi hj => by
    have hil := hlt i t hi
    have ho : ops[i]? = some ops[i] := by simp [hil]
    rcases ((seqOk_op hs ho).2 j t hj).1 with h | h
    · exact h.symm
    · exact absurd (by simpa [dstAt, ho] using hi) h
  have hfr : ∀ i, i ≤ ops.size → Fr ops vs a0 (fun j => j < i) (fr i) := by
    intro i
    induction i with
    | zero => intro _; rw [h0]; exact ⟨rfl, rfl, fun _ _ h => (Nat.not_lt_zero _ h).elim, fun _ _ => rfl⟩
    | succ i ih =>
      intro hi
      rw [hn i (by omega)]
      have := (ih (by omega)).put hd i
      have e : (fun j => j < i ∨ j = i) = (fun j => j < i + 1) := by funext j; apply propext; omega
      rw [e] at this
      exact this
  have hdone : ∀ (listed : Array Bool) (a : Act) (w : World), listed.size = ops.size → Kept W w → Fr ops vs a0 (fun i => listed.getD i false = true) a → Region.ready .any ops listed = [] → Q .normal a w := by
    intro listed a w hz hw hF hr
    have := hF.ext hd (hfr ops.size (Nat.le_refl _)) (fun j t hj => ⟨ready_none hs hz hr j (hlt j t hj), hlt j t hj⟩)
    rw [this]
    exact hfin w hw
  intro f
  induction f with
  | zero =>
    intro listed a w hz hc hw _ hF
    have hr : Region.ready .any ops listed = [] := by
      cases hr : Region.ready .any ops listed with
      | nil => rfl
      | cons i l =>
        exfalso
        have hm : i ∈ Region.ready .any ops listed := by rw [hr]; exact List.mem_cons_self
        have h1 := (mem_ready.1 hm).1
        have hil : i < listed.size := by
          rcases Nat.lt_or_ge i listed.size with h | h
          · exact h
          · simp [Array.getElem?_eq_none h] at h1
        have : false ∈ listed := by
          simp [hil] at h1
          rw [← h1]; exact Array.getElem_mem hil
        have := Array.count_pos_iff.2 this
        omega
    exact ⟨hr, hdone listed a w hz hw hF hr⟩
  | succ f ih =>
    intro listed a w hz hc hw hcl hF
    refine ⟨hdone listed a w hz hw hF, fun i hi => ?_⟩
    obtain ⟨hun, o, ho, hall⟩ := mem_ready.1 hi
    have hil : i < ops.size := (Array.getElem?_eq_some_iff.1 ho).1
    have hFi := hfr i (by omega)
    have hnot : listed.getD i false = false := by
      have hl' : i < listed.size := by omega
      simp [hl'] at hun ⊢
      exact hun
    have hlook : ∀ t, t ∈ o.looksAt ops → a.tmps[t]? = (fr i).tmps[t]? := fun t ht => hF.look hd hFi t (fun j hj => by
      rcases ((seqOk_op hs ho).2 j t hj).2 ht with ⟨e, he, hb, hon⟩ | ⟨hij, oj, hoj, e, he, hb, hon⟩
      · have h1 := hall e he hb
        have h2 := (seqOk_op hs ho).1 e he hb
        rw [hon] at h1 h2
        exact .inl ⟨h1, h2⟩
      · refine .inr ⟨fun hl => ?_, by omega⟩
        have := hcl j oj hoj hl e he hb
        rw [hon, hnot] at this
        cases this)
    refine (hstep i hil).wpOpIn (a := a) hnd ?_ hw ?_
    · intro o' ho'
      rw [ho] at ho'; cases ho'
      refine ⟨execOp_congr o (fun cs b => Region.noSelect_spec (seqOk_sel hs) i o cs b ho) fun x hx => ?_, ?_⟩
      · cases x with
        | tmp t =>
          have := hlook t (List.mem_append_left _ (List.mem_filterMap.2 ⟨.tmp t, by simpa using hx, rfl⟩))
          simp only [Act.eval, Array.getD_eq_getD_getElem?, this]
        | _ => rfl
      · unfold Region.wanted
        cases hg : o.guard with
        | none => rfl
        | some gw =>
          obtain ⟨g, want⟩ := gw
          have hy : yielded ops a.tmps g = yielded ops (fr i).tmps g := by
            unfold yielded
            cases ht : (ops[g]?).bind (·.dst) with
            | none => rfl
            | some t =>
              have := hlook t (by simp [Oper.looksAt, hg, ht])
              simp [this]
          simp only [hy]
    · intro w' hw'
      refine ih _ _ _ (by simp [hz]) ?_ (hw.trans hw') (fun j oj hoj hl e he hb => ?_) ?_
      · have hl' : i < listed.size := by omega
        simp [hl'] at hun
        rw [Array.setIfInBounds_def, dif_pos hl', Array.count_set hl']
        simp [hun]
        omega
      · have hstay : ∀ k, listed.getD k false = true → (listed.setIfInBounds i true).getD k false = true := fun k hk => by
          by_cases hik : i = k
          · subst hik
            have hl' : i < listed.size := by omega
            simp [hl']
          · rw [getD_set_ne false hik]; exact hk
        by_cases hji : i = j
        · subst hji
          rw [ho] at hoj
          cases hoj
          exact hstay _ (hall e he hb)
        · rw [getD_set_ne false hji] at hl
          exact hstay _ (hcl j oj hoj hl e he hb)
      · have h3 := hF.put hd i
        have e : (fun j => listed.getD j false = true ∨ j = i) = (fun j => (listed.setIfInBounds i true).getD j false = true) := by
          funext j
          apply propext
          by_cases hji : i = j
          · subst hji
            have hl' : i < listed.size := by omega
            simp [hl']
          · rw [getD_set_ne false hji]
            constructor
            · rintro (h | h)
              · exact h
              · exact absurd h.symm hji
            · exact .inl
        rw [e] at h3
        exact h3
/-- A region that draws, in a round, walked in one order. -/
theorem wpIn_region_seqL {os : List Oper} {id : Nat} {a : Act} {w : World} (hm : P.follows .mixedOrders = true) (hs : seqOk os.toArray = true) (hnd : noDefer os.toArray = true)
    (h : SeqL P os.toArray w.drew (fun a' => ∀ w', Kept w.drew w' → Q .normal a' w') os a) : (Code.region id os.toArray true).wpIn (Fence.wide.inRound l) nF P Q a w := by
  have h1 := SeqL.seqK (W := w.drew) os [] a h
  simp only [List.nil_append, List.length_nil] at h1
  obtain ⟨vs, fr, e, hk, hf⟩ := SeqK.vals _ _ _ h1
  rw [Nat.zero_add] at hf
  have hz : os.toArray.size = os.length := by simp
  refine wpIn_region_any hm (wpAnyIn_seq (vs := vs) (W := w.drew) hs hnd fr e (fun i hi => (hk i (Nat.zero_le _) (by omega)).1) (fun i hi => (hk i (Nat.zero_le _) (by omega)).2) (by rw [hz]; exact hf) _ _ _ _ (by simp) (by simp) (Below.refl _ _) (fun j oj hoj hl => ?_) ?_)
  · exfalso
    have hjl : j < os.toArray.size := (Array.getElem?_eq_some_iff.1 hoj).1
    simp at hjl
    simp [hjl] at hl
  refine ⟨rfl, rfl, fun i d hi => ?_, fun _ _ => rfl⟩
  by_cases hlt : i < os.length
  · simp [hlt] at hi
  · simp [hlt] at hi
end
end Go.Proofs.Ythkhlmbhickdbaa
