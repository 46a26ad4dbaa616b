/-
  A region whose order is drawn, inside a fence (a round of a range over a function too): operations that yield the same in whatever world in which all that lay lies as it lay, in whatever order, then one last one that waits for all of them.
-/
import Derived.Test.YthkhlmbhickdbaaSeqT
import Derived.Test.YthkhlmbhickdbaaSeqY
namespace Go.Proofs.Ythkhlmbhickdbaa
open Go.RowKit Go.Shelf

/-- A fence that lets in all. -/
structure WideF (F : Fence) : Prop where
  fn : ∀ f, F.fn f
  deep : ¬ F.depth.isSome = true
  calls : ∀ {P : Program} {n : Nat} {f : FuncId} {args : Array Value} {w : World} {R : Ending → World → Prop}, Calls P f args w R → CallsIn F n P f args w R
theorem WideF.wide : WideF Fence.wide := ⟨fun _ => trivial, (fun h => (by cases h)), fun h => callsIn_wide.2 h⟩
theorem WideF.round (l : Nat) : WideF (Fence.wide.inRound l) := ⟨fun _ => trivial, (fun h => (by cases h)), fun h => CallsIn.inRound l (callsIn_wide.2 h)⟩
section
variable {F : Fence} {nF : Nat} {P : Program} {ops : Array Oper} {vs : Nat → Value} {a0 : Act} {Q : Exit → Act → World → Prop}

theorem StepK.wpOpF {W : World} {i : Nat} {v : Value} {a b : Act} (hF : WideF F) (h : StepK P ops W i v b) (hnd : noDefer ops = true)
    (he : ∀ o, ops[i]? = some o → execOp a.eval o = execOp b.eval o ∧ Region.wanted o (yielded ops a.tmps) = Region.wanted o (yielded ops b.tmps))
    {K : Act → World → Prop} {w : World} (hw : Kept W w) (hK : ∀ w', Kept w w' → K (a.put (dstAt ops i) v) w') : Go.wpOpIn F nF P ops Q i K a w := by
  obtain ⟨o, ho, h⟩ := h
  obtain ⟨e1, e2⟩ := he o ho
  have g2 := noDefer_op hnd ho
  have hdst : dstAt ops i = o.dst := by simp [dstAt, ho]
  rw [hdst] at hK
  unfold Go.wpOpIn
  simp only [ho]
  rw [e2]
  rcases h with ⟨hn, rfl⟩ | ⟨hy, h⟩
  · simp only [hn, Bool.false_eq_true, if_false]
    exact ⟨fun f _ => hF.fn f, hK w (Below.refl _ _)⟩
  · simp only [hy, if_true]
    refine ⟨fun f _ => hF.fn f, ?_⟩
    rw [Oper.semAt_eq _ _ _ g2, e1]
    rcases h w hw with h | ⟨f, args, h, hc⟩
    · rw [h]; exact hK w (Below.refl _ _)
    · rw [h, Oper.uponIn_enter]
      refine ⟨(fun h => absurd h hF.deep), (hF.calls hc).mono ?_⟩
      rintro e w' ⟨rfl, hk⟩
      exact hK w' hk
theorem wpAnyIn_lastK {W : World} (hF : WideF F) (hs : seqOk ops = true) (hnd : noDefer ops = true) (m : Nat) (hm : ops.size = m + 1) (ol : Oper) (hol : ops[m]? = some ol) (hlg : ol.guard = none) (hall : WaitsT ops ol m) (fr : Nat → Act) (h0 : fr 0 = a0)
    (hn : ∀ i, i < m → fr (i + 1) = (fr i).put (dstAt ops i) (vs i)) (hstep : ∀ i, i < m → StepK P ops W i (vs i) (fr i)) (hlast : ∀ w, Kept W w → ol.wpIn F nF P (fr m) w (fun a w => Q .normal a w) Q) :
    ∀ (f : Nat) (listed : Array Bool) (a : Act) (w : World), listed.size = ops.size → listed.count false ≤ f → (∀ j oj, ops[j]? = some oj → listed.getD j false = true → ∀ e ∈ oj.after, Region.binds .any e = true → listed.getD e.on false = true) →
      (listed.getD m false = false → Fr ops vs a0 (fun i => listed.getD i false = true) a ∧ Kept W w) → (listed.getD m false = true → Q .normal a w) → wpAnyIn F nF P .any ops Q f listed a w := by
  have hlt : ∀ j t, dstAt ops j = some t → j < ops.size := fun j t hj => by
    unfold dstAt at hj
    cases hoj : ops[j]? with
    | none => rw [hoj] at hj; cases hj
    | some oj => exact (Array.getElem?_eq_some_iff.1 hoj).1
  have hd : ∀ i j t, dstAt ops i = some t → dstAt ops j = some t → i = j := fun i j t hi hj => by
    have hil := hlt i t hi
    have ho : ops[i]? = some ops[i] := by simp [hil]
    rcases ((seqOk_op hs ho).2 j t hj).1 with h | h
    · exact h.symm
    · exact absurd (by simpa [dstAt, ho] using hi) h
  have hfr : ∀ i, i ≤ m → Fr ops vs a0 (fun j => j < i) (fr i) := by
    intro i
    induction i with
    | zero => intro _; rw [h0]; exact ⟨rfl, rfl, fun _ _ h => (Nat.not_lt_zero _ h).elim, fun _ _ => rfl⟩
    | succ i ih =>
      intro hi
      rw [hn i (by omega)]
      have := (ih (by omega)).put hd i
      have e : (fun j => j < i ∨ j = i) = (fun j => j < i + 1) := by funext j; apply propext; omega
      rw [e] at this
      exact this
  have hdone : ∀ (listed : Array Bool), listed.size = ops.size → Region.ready .any ops listed = [] → listed.getD m false = true := fun listed hz hr => ready_none hs hz hr m (by omega)
  intro f
  induction f with
  | zero =>
    intro listed a w hz hc _ _ hQ
    have hr : Region.ready .any ops listed = [] := by
      cases hr : Region.ready .any ops listed with
      | nil => rfl
      | cons i l =>
        exfalso
        have hm : i ∈ Region.ready .any ops listed := by rw [hr]; exact List.mem_cons_self
        have h1 := (mem_ready.1 hm).1
        have hil : i < listed.size := by
          rcases Nat.lt_or_ge i listed.size with h | h
          · exact h
          · simp [Array.getElem?_eq_none h] at h1
        have : false ∈ listed := by
          simp [hil] at h1
          rw [← h1]; exact Array.getElem_mem hil
        have := Array.count_pos_iff.2 this
        omega
    exact ⟨hr, hQ (hdone listed hz hr)⟩
  | succ f ih =>
    intro listed a w hz hc hcl hF0 hQ
    refine ⟨fun hr => hQ (hdone listed hz hr), fun i hi => ?_⟩
    obtain ⟨hun, o, ho, hall'⟩ := mem_ready.1 hi
    have hil : i < ops.size := (Array.getElem?_eq_some_iff.1 ho).1
    have hl' : i < listed.size := by omega
    have hnot : listed.getD i false = false := by
      simp [hl'] at hun ⊢
      exact hun
    have hcount : (listed.setIfInBounds i true).count false ≤ f := by
      simp [hl'] at hun
      rw [Array.setIfInBounds_def, dif_pos hl', Array.count_set hl']
      simp [hun]
      omega
    have hcl' : ∀ j oj, ops[j]? = some oj → (listed.setIfInBounds i true).getD j false = true → ∀ e ∈ oj.after, Region.binds .any e = true → (listed.setIfInBounds i true).getD e.on false = true := by
      intro j oj hoj hl e he hb
      have hstay : ∀ k, listed.getD k false = true → (listed.setIfInBounds i true).getD k false = true := fun k hk => by
        by_cases hik : i = k
        · subst hik
          simp [hl']
        · rw [getD_set_ne false hik]; exact hk
      by_cases hji : i = j
      · subst hji
        rw [ho] at hoj
        cases hoj
        exact hstay _ (hall' e he hb)
      · rw [getD_set_ne false hji] at hl
        exact hstay _ (hcl j oj hoj hl e he hb)
    have hnl : listed.getD m false = false := by
      cases hx : listed.getD m false with
      | false => rfl
      | true =>
        exfalso
        by_cases him : i = m
        · subst him; rw [hx] at hnot; cases hnot
        · have := hall _ hcl (hcl m ol hol hx) i (by omega)
          rw [hnot] at this; cases this
    obtain ⟨hFr, hKw⟩ := hF0 hnl
    by_cases him : i = m
    · subst him
      rw [hol] at ho; cases ho
      have ha : a = fr i := by
        have hFi := hfr i (Nat.le_refl _)
        have ht : a.tmps = (fr i).tmps := Array.ext_getElem? fun t => hFr.look hd hFi t (fun j hj => by
          have hjs := hlt j t hj
          rcases Nat.lt_or_ge j i with h | h
          · exact .inl ⟨hall _ hcl hall' j h, h⟩
          · refine .inr ⟨fun hx => ?_, by omega⟩
            obtain rfl : j = i := by omega
            rw [hnot] at hx; cases hx)
        have hdf : a.defers = (fr i).defers := hFr.defers.trans hFi.defers.symm
        have : ∀ (x y : Act), x.tmps = y.tmps → x.defers = y.defers → x = y := fun x y h1 h2 => by cases x; cases y; simp_all
        exact this _ _ ht hdf
      subst ha
      unfold wpOpIn
      simp only [hol]
      rw [if_pos (wanted_none hlg _)]
      refine Oper.wpIn_mono (fun a' w' h => ?_) (hlast w hKw)
      refine ih _ _ _ (by simp [hz]) hcount hcl' (fun hx => ?_) (fun _ => h)
      simp [hl'] at hx
    · have hFi := hfr i (by omega)
      have hlook : ∀ t, t ∈ o.looksAt ops → a.tmps[t]? = (fr i).tmps[t]? := fun t ht => hFr.look hd hFi t (fun j hj => by
        rcases ((seqOk_op hs ho).2 j t hj).2 ht with ⟨e, he, hb, hon⟩ | ⟨hij, oj, hoj, e, he, hb, hon⟩
        · have h1 := hall' e he hb
          have h2 := (seqOk_op hs ho).1 e he hb
          rw [hon] at h1 h2
          exact .inl ⟨h1, h2⟩
        · refine .inr ⟨fun hl => ?_, by omega⟩
          have := hcl j oj hoj hl e he hb
          rw [hon, hnot] at this
          cases this)
      refine (hstep i (by omega)).wpOpF (a := a) hF hnd ?_ hKw ?_
      · intro o' ho'
        rw [ho] at ho'; cases ho'
        refine ⟨execOp_congr o (fun cs b => Region.noSelect_spec (seqOk_sel hs) i o cs b ho) fun x hx => ?_, ?_⟩
        · cases x with
          | tmp t =>
            have := hlook t (List.mem_append_left _ (List.mem_filterMap.2 ⟨.tmp t, by simpa using hx, rfl⟩))
            simp only [Act.eval, Array.getD_eq_getD_getElem?, this]
          | _ => rfl
        · unfold Region.wanted
          cases hg : o.guard with
          | none => rfl
          | some gw =>
            obtain ⟨g, want⟩ := gw
            have hy : yielded ops a.tmps g = yielded ops (fr i).tmps g := by
              unfold yielded
              cases ht : (ops[g]?).bind (·.dst) with
              | none => rfl
              | some t =>
                have := hlook t (by simp [Oper.looksAt, hg, ht])
                simp [this]
            simp only [hy]
      · intro w' hw'
        refine ih _ _ _ (by simp [hz]) hcount hcl' (fun _ => ⟨?_, hKw.trans hw'⟩) (fun hx => ?_)
        · have h3 := hFr.put hd i
          have e : (fun j => listed.getD j false = true ∨ j = i) = (fun j => (listed.setIfInBounds i true).getD j false = true) := by
            funext j
            apply propext
            by_cases hji : i = j
            · subst hji
              simp [hl']
            · rw [getD_set_ne false hji]
              constructor
              · rintro (h | h)
                · exact h
                · exact absurd h.symm hji
              · exact .inl
          rw [e] at h3
          exact h3
        · rw [getD_set_ne false him, hnl] at hx; cases hx
theorem SeqL.seqK2 {W : World} {fin : Act → Prop} : ∀ (os pre post : List Oper) (a : Act), SeqL P (pre ++ os ++ post).toArray W fin os a → SeqK P (pre ++ os ++ post).toArray W fin os.length pre.length a
  | [], _, _, _, h => h
  | o :: os, pre, post, a, h => by
    obtain ⟨v, hs, h⟩ := h
    have ho : (pre ++ o :: os ++ post).toArray[pre.length]? = some o := by simp
    refine ⟨v, ⟨o, ho, hs⟩, ?_⟩
    have hd : dstAt (pre ++ o :: os ++ post).toArray pre.length = o.dst := by simp [dstAt]
    rw [hd]
    have e : pre ++ o :: os ++ post = (pre ++ [o]) ++ os ++ post := by simp
    rw [e] at h ⊢
    have := SeqL.seqK2 os (pre ++ [o]) post _ h
    simpa using this
/-- The last one waits for all ahead of it. -/
def oneOk (os : List Oper) : Bool := match os[os.length - 1]? with
  | some s => waitsAll os.toArray (os.length - 1) s
  | _ => false
/-- A region that draws: all but the last one in one order, then the last one. -/
theorem wpIn_region_lastK {os : List Oper} {ol : Oper} {id : Nat} {a : Act} {w : World} (hF : WideF F) (hm : P.follows .mixedOrders = true) (hs : seqOk os.toArray = true) (hnd : noDefer os.toArray = true) (h1 : oneOk os = true) (hol : os.getLast? = some ol)
    (h : SeqL P os.toArray w.drew (fun a' => ∀ w', Kept w.drew w' → ol.wpIn F nF P a' w' (fun a w => Q .normal a w) Q) os.dropLast a) : (Code.region id os.toArray true).wpIn F nF P Q a w := by
  obtain ⟨os', rfl⟩ : ∃ os', os = os' ++ [ol] := by
    rw [List.getLast?_eq_some_iff] at hol
    exact hol
  rw [List.dropLast_concat] at h
  have h2 := SeqL.seqK2 (W := w.drew) os' [] [ol] a (by simpa using h)
  simp only [List.nil_append, List.length_nil] at h2
  obtain ⟨vs, fr, e, hk, hf⟩ := SeqK.vals _ _ _ h2
  rw [Nat.zero_add] at hf
  have hw : ol.guard = none ∧ WaitsT (os' ++ [ol]).toArray ol os'.length := by
    unfold oneOk at h1
    simp only [List.length_append, List.length_cons, List.length_nil, Nat.zero_add, Nat.add_sub_cancel, List.getElem?_concat_length] at h1
    exact waits_iff h1
  refine wpIn_region_any hm (wpAnyIn_lastK (vs := vs) (W := w.drew) hF hs hnd os'.length (by simp) ol (by simp) hw.1 hw.2 fr e (fun i hi => (hk i (Nat.zero_le _) (by omega)).1) (fun i hi => (hk i (Nat.zero_le _) (by omega)).2) hf _ _ _ _ (by simp) (by simp) (fun j oj hoj hl => ?_) (fun _ => ⟨?_, Below.refl _ _⟩) (fun hx => ?_))
  · exfalso
    simp only [Array.getD_eq_getD_getElem?, Array.getElem?_replicate] at hl
    split at hl <;> simp at hl
  · refine ⟨rfl, rfl, fun i d hi => ?_, fun _ _ => rfl⟩
    simp only [Array.getD_eq_getD_getElem?, Array.getElem?_replicate] at hi
    split at hi <;> simp at hi
  · simp only [Array.getD_eq_getD_getElem?, Array.getElem?_replicate] at hx
    split at hx <;> simp at hx
end
end Go.Proofs.Ythkhlmbhickdbaa
