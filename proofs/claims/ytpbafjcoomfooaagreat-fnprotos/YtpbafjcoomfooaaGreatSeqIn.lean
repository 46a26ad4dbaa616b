/-
  A region whose order is drawn, inside a fence (a round of a range over a function too): reads in whatever order, then one last operation that waits for all of them.
-/
import Derived.Test.YtpbafjcoomfooaaGreatSeq
import Derived.TacticsIn
import Derived.OrdersIn
namespace Go.Proofs.YtpbafjcoomfooaaGreat
open Go.RowKit

section
variable {F : Fence} {nF : Nat} {P : Program} {ops : Array Oper} {vs : Nat → Value} {a0 : Act} {Q : Exit → Act → World → Prop}

/-- Operation o yields v from frame a in world W, and turns nothing. -/
def ReadO (P : Program) (W : World) (o : Oper) (v : Value) (a : Act) : Prop := o.guard = none ∧ (∀ c, o.op ≠ .defer c) ∧ (execOp a.eval o).run P W = .ok (.value v) W

theorem wanted_none {o : Oper} (h : o.guard = none) (y : Nat → Option Bool) : Region.wanted o y = true := by unfold Region.wanted; rw [h]

theorem wpAnyIn_last {W : World} (hF : ∀ f, F.fn f) (hs : seqOk ops = true) (m : Nat) (hm : ops.size = m + 1) (ol : Oper) (hol : ops[m]? = some ol) (hlg : ol.guard = none) (hld : ol.dst = none)
    (hall : ∀ j, j < m → ∃ e ∈ ol.after, Region.binds .any e = true ∧ e.on = j) (fr : Nat → Act) (h0 : fr 0 = a0)
    (hn : ∀ i, i < m → fr (i + 1) = (fr i).put (dstAt ops i) (vs i)) (hstep : ∀ i o, i < m → ops[i]? = some o → ReadO P W o (vs i) (fr i)) (hlast : ol.wpIn F nF P (fr m) W (fun a w => Q .normal a w) Q) :
    ∀ (f : Nat) (listed : Array Bool) (a : Act) (w : World), listed.size = ops.size → listed.count false ≤ f → (∀ j oj, ops[j]? = some oj → listed.getD j false = true → ∀ e ∈ oj.after, Region.binds .any e = true → listed.getD e.on false = true) →
      (listed.getD m false = false → Fr ops vs a0 (fun i => listed.getD i false = true) a ∧ w = W) → (listed.getD m false = true → Q .normal a w) → wpAnyIn F nF P .any ops Q f listed a w := by
  have hlt : ∀ j t, dstAt ops j = some t → j < ops.size := fun j t hj => by
    unfold dstAt at hj
    cases hoj : ops[j]? with
    | none => rw [hoj] at hj; cases hj
    | some oj => exact (Array.getElem?_eq_some_iff.1 hoj).1
  have hd : ∀ i j t, dstAt ops i = some t → dstAt ops j = some t → i = j := fun i j t hi hj => by
    have hil := hlt i t hi
    have ho : ops[i]? = some ops[i] := by simp [hil]
    rcases ((seqOk_op hs ho).2 j t hj).1 with h | h
    · exact h.symm
    · exact absurd (by simpa [dstAt, ho] using hi) h
  have hml : dstAt ops m = none := by simp [dstAt, hol, hld]
  have hfr : ∀ i, i ≤ m → Fr ops vs a0 (fun j => j < i) (fr i) := by
    intro i
    induction i with
    | zero => intro _; rw [h0]; exact ⟨rfl, rfl, fun _ _ h => (Nat.not_lt_zero _ h).elim, fun _ _ => rfl⟩
    | succ i ih =>
      intro hi
      rw [hn i (by omega)]
      have := (ih (by omega)).put hd i
      have e : (fun j => j < i ∨ j = i) = (fun j => j < i + 1) := by funext j; apply propext; omega
      rw [e] at this
      exact this
  have hdone : ∀ (listed : Array Bool), listed.size = ops.size → Region.ready .any ops listed = [] → listed.getD m false = true := fun listed hz hr => ready_none hs hz hr m (by omega)
  intro f
  induction f with
  | zero =>
    intro listed a w hz hc _ _ hQ
    have hr : Region.ready .any ops listed = [] := by
      cases hr : Region.ready .any ops listed with
      | nil => rfl
      | cons i l =>
        exfalso
        have hm : i ∈ Region.ready .any ops listed := by rw [hr]; exact List.mem_cons_self
        have h1 := (mem_ready.1 hm).1
        have hil : i < listed.size := by
          rcases Nat.lt_or_ge i listed.size with h | h
          · exact h
          · simp [Array.getElem?_eq_none h] at h1
        have : false ∈ listed := by
          simp [hil] at h1
          rw [← h1]; exact Array.getElem_mem hil
        have := Array.count_pos_iff.2 this
        omega
    exact ⟨hr, hQ (hdone listed hz hr)⟩
  | succ f ih =>
    intro listed a w hz hc hcl hF0 hQ
    refine ⟨fun hr => hQ (hdone listed hz hr), fun i hi => ?_⟩
    obtain ⟨hun, o, ho, hall'⟩ := mem_ready.1 hi
    have hil : i < ops.size := (Array.getElem?_eq_some_iff.1 ho).1
    have hl' : i < listed.size := by omega
    have hnot : listed.getD i false = false := by
      simp [hl'] at hun ⊢
      exact hun
    have hml' : listed.getD m false = false := by
      cases hx : listed.getD m false with
      | false => rfl
      | true =>
        exfalso
        by_cases him : i = m
        · subst him; rw [hx] at hnot; cases hnot
        · obtain ⟨e, he, hb, hon⟩ := hall i (by omega)
          have := hcl m ol hol hx e he hb
          rw [hon, hnot] at this; cases this
    obtain ⟨hFr, rfl⟩ := hF0 hml'
    have hcount : (listed.setIfInBounds i true).count false ≤ f := by
      simp [hl'] at hun
      rw [Array.setIfInBounds_def, dif_pos hl', Array.count_set hl']
      simp [hun]
      omega
    have hcl' : ∀ j oj, ops[j]? = some oj → (listed.setIfInBounds i true).getD j false = true → ∀ e ∈ oj.after, Region.binds .any e = true → (listed.setIfInBounds i true).getD e.on false = true := by
      intro j oj hoj hl e he hb
      have hstay : ∀ k, listed.getD k false = true → (listed.setIfInBounds i true).getD k false = true := fun k hk => by
        by_cases hik : i = k
        · subst hik
          simp [hl']
        · rw [getD_set_ne false hik]; exact hk
      by_cases hji : i = j
      · subst hji
        rw [ho] at hoj
        cases hoj
        exact hstay _ (hall' e he hb)
      · rw [getD_set_ne false hji] at hl
        exact hstay _ (hcl j oj hoj hl e he hb)
    by_cases him : i = m
    · subst him
      rw [hol] at ho; cases ho
      have ha : a = fr i := by
        refine hFr.ext hd (hfr i (Nat.le_refl _)) (fun j t hj => ?_)
        have hji : j < i := by
          have := hlt j t hj
          rcases Nat.lt_or_ge j i with h | h
          · exact h
          · obtain rfl : j = i := by omega
            rw [hml] at hj; cases hj
        obtain ⟨e, he, hb, hon⟩ := hall j hji
        have := hall' e he hb
        rw [hon] at this
        exact ⟨this, hji⟩
      subst ha
      unfold wpOpIn
      simp only [hol]
      rw [if_pos (wanted_none hlg _)]
      refine Oper.wpIn_mono (fun a' w' h => ?_) hlast
      refine ih _ _ _ (by simp [hz]) hcount hcl' (fun hx => ?_) (fun _ => h)
      simp [hl'] at hx
    · have hFi := hfr i (by omega)
      have hlook : ∀ t, t ∈ o.looksAt ops → a.tmps[t]? = (fr i).tmps[t]? := fun t ht => hFr.look hd hFi t (fun j hj => by
        rcases ((seqOk_op hs ho).2 j t hj).2 ht with ⟨e, he, hb, hon⟩ | ⟨hij, oj, hoj, e, he, hb, hon⟩
        · have h1 := hall' e he hb
          have h2 := (seqOk_op hs ho).1 e he hb
          rw [hon] at h1 h2
          exact .inl ⟨h1, h2⟩
        · refine .inr ⟨fun hl => ?_, by omega⟩
          have := hcl j oj hoj hl e he hb
          rw [hon, hnot] at this
          cases this)
      obtain ⟨g1, g2, g3⟩ := hstep i o (by omega) ho
      have hex : execOp a.eval o = execOp (fr i).eval o := execOp_congr o (fun cs b => Region.noSelect_spec (seqOk_sel hs) i o cs b ho) fun x hx => by
        cases x with
        | tmp t =>
          have := hlook t (List.mem_append_left _ (List.mem_filterMap.2 ⟨.tmp t, by simpa using hx, rfl⟩))
          simp only [Act.eval, Array.getD_eq_getD_getElem?, this]
        | _ => rfl
      unfold wpOpIn
      simp only [ho]
      rw [if_pos (wanted_none g1 _)]
      refine ⟨fun f _ => hF f, ?_⟩
      rw [Oper.semAt_eq _ _ _ g2, hex, g3, Oper.uponIn_value]
      refine ih _ _ _ (by simp [hz]) hcount hcl' (fun _ => ⟨?_, rfl⟩) (fun hx => ?_)
      · have h3 := hFr.put hd i
        have hdi : dstAt ops i = o.dst := by simp [dstAt, ho]
        rw [hdi] at h3
        have e : (fun j => listed.getD j false = true ∨ j = i) = (fun j => (listed.setIfInBounds i true).getD j false = true) := by
          funext j
          apply propext
          by_cases hji : i = j
          · subst hji
            simp [hl']
          · rw [getD_set_ne false hji]
            constructor
            · rintro (h | h)
              · exact h
              · exact absurd h.symm hji
            · exact .inl
        rw [e] at h3
        exact h3
      · rw [getD_set_ne false him, hml'] at hx; cases hx

/-- The operations, in their order, each a read. -/
def SeqR (P : Program) (W : World) (fin : Act → Prop) : List Oper → Act → Prop
  | [], a => fin a
  | o :: os, a => ∃ v, ReadO P W o v a ∧ SeqR P W fin os (a.put o.dst v)
theorem SeqR.vals {W : World} {fin : Act → Prop} : ∀ (os : List Oper) (a : Act), SeqR P W fin os a → ∃ (vs : Nat → Value) (fr : Nat → Act), fr 0 = a ∧ (∀ k o, os[k]? = some o → fr (k + 1) = (fr k).put o.dst (vs k) ∧ ReadO P W o (vs k) (fr k)) ∧ fin (fr os.length)
  | [], a, h => ⟨fun _ => undef, fun _ => a, rfl, fun k o hk => by simp at hk, h⟩
  | o :: os, a, h => by
    obtain ⟨v, hs, h⟩ := h
    obtain ⟨vs, fr, e, hk, hf⟩ := SeqR.vals os _ h
    refine ⟨fun k => if k = 0 then v else vs (k - 1), fun k => if k = 0 then a else fr (k - 1), by simp, fun k o' ho => ?_, ?_⟩
    · cases k with
      | zero => simp at ho; subst ho; simp [e, hs]
      | succ k => simp at ho; have := hk k o' ho; simpa using this
    · simpa using hf
/-- The last one waits for all the others. -/
def lastOk (m : Nat) (o : Oper) : Bool := (List.range m).all fun j => o.after.any fun e => Region.binds .any e && e.on == j

theorem wpIn_region_last {os : List Oper} {ol : Oper} {id : Nat} {a : Act} {w : World} (hF : ∀ f, F.fn f) (hm : P.follows .mixedOrders = true) (hs : seqOk (os ++ [ol]).toArray = true) (hla : lastOk os.length ol = true) (hlg : ol.guard = none) (hld : ol.dst = none)
    (h : SeqR P w.drew (fun a' => ol.wpIn F nF P a' w.drew (fun a w => Q .normal a w) Q) os a) : (Code.region id (os ++ [ol]).toArray true).wpIn F nF P Q a w := by
  obtain ⟨vs, fr, e, hk, hf⟩ := SeqR.vals _ _ h
  have hg : ∀ i, i < os.length → (os ++ [ol]).toArray[i]? = os[i]? := fun i hi => by simp [List.getElem?_append_left hi]
  refine wpIn_region_any hm (wpAnyIn_last (vs := vs) (W := w.drew) hF hs os.length (by simp) ol (by simp) hlg hld (fun j hj => ?_) fr e (fun i hi => ?_) (fun i o hi ho => ?_) hf _ _ _ _ (by simp) (by simp) (fun j oj hoj hl => ?_) (fun _ => ⟨?_, rfl⟩) (fun hx => ?_))
  · have := List.all_eq_true.1 hla j (List.mem_range.2 hj)
    obtain ⟨k, hk, hb⟩ := Array.any_eq_true.1 this
    rw [Bool.and_eq_true, beq_iff_eq] at hb
    exact ⟨_, Array.getElem_mem hk, hb.1, hb.2⟩
  · obtain ⟨o, ho⟩ : ∃ o, os[i]? = some o := ⟨os[i], by simp⟩
    rw [(hk i o ho).1]
    simp [dstAt, hg i hi, ho]
  · rw [hg i hi] at ho
    exact (hk i o ho).2
  · exfalso
    have hjl : j < (os ++ [ol]).toArray.size := (Array.getElem?_eq_some_iff.1 hoj).1
    simp only [Array.getD_eq_getD_getElem?, Array.getElem?_replicate] at hl
    split at hl <;> simp at hl
  · refine ⟨rfl, rfl, fun i d hi => ?_, fun _ _ => rfl⟩
    simp only [Array.getD_eq_getD_getElem?, Array.getElem?_replicate] at hi
    split at hi <;> simp at hi
  · simp only [Array.getD_eq_getD_getElem?, Array.getElem?_replicate] at hx
    split at hx <;> simp at hx
theorem SeqR.read {W : World} {fin : Act → Prop} {os : List Oper} {o : Oper} {a : Act} (v : Value) (hg : o.guard = none) (hd : ∀ c, o.op ≠ .defer c) (hv : (execOp a.eval o).run P W = .ok (.value v) W) (h : SeqR P W fin os (a.put o.dst v)) : SeqR P W fin (o :: os) a := ⟨v, ⟨hg, hd, hv⟩, h⟩
theorem SeqR.nil {W : World} {fin : Act → Prop} {a : Act} (h : fin a) : SeqR P W fin [] a := h
end
end Go.Proofs.YtpbafjcoomfooaaGreat
