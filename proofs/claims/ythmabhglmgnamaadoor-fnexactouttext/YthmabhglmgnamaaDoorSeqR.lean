/-
  A region whose order is drawn: operations of which each is told by what it yields, in whatever world it comes up, and behind them operations that wait for all ahead of them.
-/
import Derived.Test.YthmabhglmgnamaaDoorSeqX
namespace Go.Proofs.YthmabhglmgnamaaDoor
open Go.RowKit

/-- The frame ahead of operation i, where all ahead of it have yielded. -/
def frR (ops : Array Oper) (a0 : Act) (vs : Nat → Value) : Nat → Act
  | 0 => a0
  | i + 1 => (frR ops a0 vs i).put (dstAt ops i) (vs i)
/-- The operations, one behind the other. -/
def seqWp (P : Program) (Q : Exit → Act → World → Prop) : List Oper → Act → World → Prop
  | [], a, w => Q .normal a w
  | o :: r, a, w => o.wp P a w (fun a1 w1 => seqWp P Q r a1 w1) Q
def depOk (ops : Array Oper) (i j : Nat) : Bool := match ops[i]? with
  | none => false
  | some o => o.after.any fun e => Region.binds .any e && e.on == j
/-- What is told: R of the values that operations yield, B of the world. -/
structure Told where
  R : Nat → (Nat → Value) → World → Prop
  B : World → Prop
/-- Behind operation i; it ends what is told of j where D i j. -/
def Told.behind (T : Told) (ops : Array Oper) (D : Nat → Nat → Bool) (vs : Nat → Value) (i : Nat) (w : World) (v : Value) (w' : World) : Prop :=
  T.B w' ∧ T.R i (vsX vs i v) w' ∧ ∀ j, j ≠ i → depOk ops j i = false → D i j = false → T.R j vs w → T.R j vs w'
/-- What is told of an operation speaks of its own value, and of the values of those that it waits for. -/
def Told.own (T : Told) (ops : Array Oper) : Prop := ∀ j vs vs' w, (∀ k, (k = j ∨ depOk ops j k = true) → vs k = vs' k) → T.R j vs w → T.R j vs' w
/-- Operation i waits for j, and none ends what is told of j ahead of i. -/
def liveDep (ops : Array Oper) (D : Nat → Nat → Bool) (n i j : Nat) : Bool := depOk ops i j && (List.range n).all fun k => !D k j || k == i || depOk ops k i
def StepR (P : Program) (ops : Array Oper) (T : Told) (D : Nat → Nat → Bool) (n i : Nat) (a : Act) (vs : Nat → Value) : Prop :=
  ∃ o, ops[i]? = some o ∧ ∀ w, T.B w → (∀ j, liveDep ops D n i j = true → T.R j vs w) →
    (∃ v w', (execOp a.eval o).run P w = .ok (.value v) w' ∧ T.behind ops D vs i w v w') ∨
    (∃ f args, (execOp a.eval o).run P w = .ok (.enter f args) w ∧ Calls P f args w fun e w' => ∃ v, e = .returned v ∧ T.behind ops D vs i w v w') ∨
    (∃ w', (execOp a.eval o).run P w = .ok .skip w' ∧ T.behind ops D vs i w undef w')
def plainOk (ops : Array Oper) (n : Nat) : Bool := (List.range n).all fun i => match ops[i]? with
  | none => false
  | some o => o.guard.isNone
def postOk (ops : Array Oper) (n : Nat) : Bool := (List.range ops.size).all fun p => decide (p < n) || match ops[p]? with
  | none => true
  | some o => waitsAll ops p o

section
variable {P : Program} {ops : Array Oper} {vs : Nat → Value} {a0 : Act} {Q : Exit → Act → World → Prop}

theorem depOk_iff {i j : Nat} {o : Oper} (ho : ops[i]? = some o) : depOk ops i j = true ↔ ∃ e ∈ o.after, Region.binds .any e = true ∧ e.on = j := by
  unfold depOk
  rw [ho]
  constructor
  · intro h
    obtain ⟨k, hk, hb⟩ := Array.any_eq_true.1 h
    rw [Bool.and_eq_true, beq_iff_eq] at hb
    exact ⟨o.after[k], Array.getElem_mem hk, hb.1, hb.2⟩
  · rintro ⟨e, he, hb, rfl⟩
    obtain ⟨k, hk, rfl⟩ := Array.getElem_of_mem he
    exact Array.any_eq_true.2 ⟨k, hk, by simp [hb]⟩
theorem plainOk_op {n i : Nat} (h : plainOk ops n = true) (hi : i < n) : ∃ o, ops[i]? = some o ∧ o.guard = none := by
  have h1 := List.all_eq_true.1 h i (List.mem_range.2 hi)
  cases ho : ops[i]? with
  | none => simp [ho] at h1
  | some o => exact ⟨o, rfl, by simpa [ho] using h1⟩
theorem liveDep_iff {D : Nat → Nat → Bool} {n i j : Nat} (h : liveDep ops D n i j = true) : depOk ops i j = true ∧ ∀ k, k < n → D k j = true → k = i ∨ depOk ops k i = true := by
  unfold liveDep at h
  rw [Bool.and_eq_true] at h
  refine ⟨h.1, fun k hk hD => ?_⟩
  have h3 := List.all_eq_true.1 h.2 k (List.mem_range.2 hk)
  rw [hD] at h3
  simpa using h3
theorem postOk_op {n p : Nat} {o : Oper} (h : postOk ops n = true) (hp : n ≤ p) (ho : ops[p]? = some o) : o.guard = none ∧ WaitsT ops o p := by
  have hl : p < ops.size := (Array.getElem?_eq_some_iff.1 ho).1
  have h1 := List.all_eq_true.1 h p (List.mem_range.2 hl)
  rw [ho] at h1
  simp only [Bool.or_eq_true, decide_eq_true_eq] at h1
  rcases h1 with h1 | h1
  · omega
  · exact waits_iff h1

theorem wpAny_told {os : List Oper} (hops : ops = os.toArray) (T : Told) (D : Nat → Nat → Bool) (n : Nat) (hn : n ≤ ops.size) (hs : seqOk ops = true) (hk : plainOk ops n = true) (hp : postOk ops n = true) (hcong : T.own ops)
    (hstep : ∀ i, i < n → ∀ vs, StepR P ops T D n i (frR ops a0 vs i) vs)
    (hend : ∀ vs u, T.B u → (∀ j, j < n → (∀ k, k < n → D k j = false) → T.R j vs u) → seqWp P Q (os.drop n) (frR ops a0 vs n) u) :
    ∀ (f : Nat) (listed : Array Bool) (a : Act) (w : World), listed.size = ops.size → listed.count false ≤ f → (∀ j oj, ops[j]? = some oj → listed.getD j false = true → ∀ e ∈ oj.after, Region.binds .any e = true → listed.getD e.on false = true) →
      (listed.getD n false = false → ∃ vs, T.B w ∧ (∀ j, j < n → listed.getD j false = true → (∀ k, k < n → D k j = true → listed.getD k false = false) → T.R j vs w) ∧ Fr ops vs a0 (fun i => listed.getD i false = true) a) →
      (∀ p, n < p → p ≤ ops.size → listed.getD (p - 1) false = true → listed.getD p false = false → seqWp P Q (os.drop p) a w) → wpAny P .any ops Q f listed a w := by
  have hlt : ∀ j t, dstAt ops j = some t → j < ops.size := fun j t hj => by
    unfold dstAt at hj
    cases hoj : ops[j]? with
    | none => rw [hoj] at hj; cases hj
    | some oj => exact (Array.getElem?_eq_some_iff.1 hoj).1
  have hd : ∀ i j t, dstAt ops i = some t → dstAt ops j = some t → i = j := fun i j t hi hj => by
    have hil := hlt i t hi
    have ho : ops[i]? = some ops[i] := by simp [hil]
    rcases ((seqOk_op hs ho).2 j t hj).1 with h | h
    · exact h.symm
    · exact absurd (by simpa [dstAt, ho] using hi) h
  have hfr : ∀ vs i, Fr ops vs a0 (fun j => j < i) (frR ops a0 vs i) := by
    intro vs i
    induction i with
    | zero => exact ⟨rfl, rfl, fun _ _ h => (Nat.not_lt_zero _ h).elim, fun _ _ => rfl⟩
    | succ i ih =>
      have := ih.put hd i
      have e : (fun j => j < i ∨ j = i) = (fun j => j < i + 1) := by funext j; apply propext; omega
      rw [e] at this
      exact this
  have hact : ∀ (x y : Act), x.tmps = y.tmps → x.defers = y.defers → x = y := fun x y h1 h2 => by cases x; cases y; simp_all
  -- all that come ahead have yielded, none of the last ones has
  have hpre : ∀ (listed : Array Bool) (a : Act) (w : World), (∀ j, j < n → listed.getD j false = true) → (∀ j, n ≤ j → j < ops.size → listed.getD j false = false) →
      (∃ vs, T.B w ∧ (∀ j, j < n → listed.getD j false = true → (∀ k, k < n → D k j = true → listed.getD k false = false) → T.R j vs w) ∧ Fr ops vs a0 (fun i => listed.getD i false = true) a) → seqWp P Q (os.drop n) a w := by
    rintro listed a w hall hnone ⟨vs, hB, hR, hFr⟩
    have ha : a = frR ops a0 vs n := by
      refine hact _ _ (Array.ext_getElem? fun t => hFr.look hd (hfr vs n) t (fun j hj => ?_)) (hFr.defers.trans (hfr vs n).defers.symm)
      have hjs := hlt j t hj
      rcases Nat.lt_or_ge j n with h | h
      · exact .inl ⟨hall j h, h⟩
      · exact .inr ⟨fun hx => (by rw [hnone j h hjs] at hx; cases hx), by omega⟩
    subst ha
    exact hend vs w hB (fun j hj hD => hR j hj (hall j hj) (fun k hk' h => by rw [hD k hk'] at h; cases h))
  have hdone : ∀ (listed : Array Bool) (a : Act) (w : World), listed.size = ops.size → Region.ready .any ops listed = [] →
      (listed.getD n false = false → ∃ vs, T.B w ∧ (∀ j, j < n → listed.getD j false = true → (∀ k, k < n → D k j = true → listed.getD k false = false) → T.R j vs w) ∧ Fr ops vs a0 (fun i => listed.getD i false = true) a) →
      (∀ p, n < p → p ≤ ops.size → listed.getD (p - 1) false = true → listed.getD p false = false → seqWp P Q (os.drop p) a w) → Q .normal a w := by
    intro listed a w hz hr h1 h2
    have hall : ∀ j, j < ops.size → listed.getD j false = true := fun j hj => ready_none hs hz hr j hj
    have hout : listed.getD ops.size false = false := by simp [hz]
    have hnil : os.drop ops.size = [] := by rw [hops]; simp
    rcases Nat.lt_or_ge n ops.size with hlt' | hge
    · have := h2 ops.size hlt' (Nat.le_refl _) (hall _ (by omega)) hout
      rw [hnil] at this
      exact this
    · have hne : n = ops.size := by omega
      have := hpre listed a w (fun j hj => hall j (by omega)) (fun j h1' h2' => by omega) (h1 (by rw [hne]; exact hout))
      rw [hne, hnil] at this
      exact this
  intro f
  induction f with
  | zero =>
    intro listed a w hz hc _ h1 h2
    have hr : Region.ready .any ops listed = [] := by
      cases hr : Region.ready .any ops listed with
      | nil => rfl
      | cons i l =>
        exfalso
        have hm : i ∈ Region.ready .any ops listed := by rw [hr]; exact List.mem_cons_self
        have h1 := (mem_ready.1 hm).1
        have hil : i < listed.size := by
          rcases Nat.lt_or_ge i listed.size with h | h
          · exact h
          · simp [Array.getElem?_eq_none h] at h1
        have : false ∈ listed := by
          simp [hil] at h1
          rw [← h1]; exact Array.getElem_mem hil
        have := Array.count_pos_iff.2 this
        omega
    exact ⟨hr, hdone listed a w hz hr h1 h2⟩
  | succ f ih =>
    intro listed a w hz hc hcl hF0 hC
    refine ⟨fun hr => hdone listed a w hz hr hF0 hC, fun i hi => ?_⟩
    obtain ⟨hun, o, ho, hall'⟩ := mem_ready.1 hi
    have hil : i < ops.size := (Array.getElem?_eq_some_iff.1 ho).1
    have hl' : i < listed.size := by omega
    have hnot : listed.getD i false = false := by
      simp [hl'] at hun ⊢
      exact hun
    have hcount : (listed.setIfInBounds i true).count false ≤ f := by
      simp [hl'] at hun
      rw [Array.setIfInBounds_def, dif_pos hl', Array.count_set hl']
      simp [hun]
      omega
    have hself : (listed.setIfInBounds i true).getD i false = true := by simp [hl']
    have hcl' : ∀ j oj, ops[j]? = some oj → (listed.setIfInBounds i true).getD j false = true → ∀ e ∈ oj.after, Region.binds .any e = true → (listed.setIfInBounds i true).getD e.on false = true := by
      intro j oj hoj hl e he hb
      have hstay : ∀ k, listed.getD k false = true → (listed.setIfInBounds i true).getD k false = true := fun k hk => by
        by_cases hik : i = k
        · subst hik
          exact hself
        · rw [getD_set_ne false hik]; exact hk
      by_cases hji : i = j
      · subst hji
        rw [ho] at hoj
        cases hoj
        exact hstay _ (hall' e he hb)
      · rw [getD_set_ne false hji] at hl
        exact hstay _ (hcl j oj hoj hl e he hb)
    have hset : (fun j => listed.getD j false = true ∨ j = i) = (fun j => (listed.setIfInBounds i true).getD j false = true) := by
      funext j
      apply propext
      by_cases hji : i = j
      · subst hji
        simp [hl']
      · rw [getD_set_ne false hji]
        constructor
        · rintro (h | h)
          · exact h
          · exact absurd h.symm hji
        · exact .inl
    -- a last one that has come up has all ahead of it
    have hahead : ∀ p, n ≤ p → p < ops.size → listed.getD p false = true → ∀ j, j < p → listed.getD j false = true := fun p hp1 hp2 hl j hj => by
      have hop : ops[p]? = some ops[p] := by simp [hp2]
      exact (postOk_op hp hp1 hop).2 _ hcl (hcl p _ hop hl) j hj
    rcases Nat.lt_or_ge i n with hin | hin
    · have hnl : ∀ p, n ≤ p → p < ops.size → listed.getD p false = false := fun p hp1 hp2 => by
        cases hx : listed.getD p false with
        | false => rfl
        | true => have := hahead p hp1 hp2 hx i (by omega); rw [hnot] at this; cases this
      have hnn : listed.getD n false = false := by
        rcases Nat.lt_or_ge n ops.size with h | h
        · exact hnl n (Nat.le_refl _) h
        · have : n = listed.size := by omega
          rw [this]; simp
      obtain ⟨vs, hB, hR, hFr⟩ := hF0 hnn
      obtain ⟨o', ho', hg⟩ := plainOk_op hk hin
      rw [ho] at ho'
      cases ho'
      obtain ⟨o', ho', hst⟩ := hstep i hin vs
      rw [ho] at ho'
      cases ho'
      have hlook : ∀ t, t ∈ o.looksAt ops → a.tmps[t]? = (frR ops a0 vs i).tmps[t]? := fun t ht => hFr.look hd (hfr vs i) t (fun j hj => by
        rcases ((seqOk_op hs ho).2 j t hj).2 ht with ⟨e, he, hb, hon⟩ | ⟨hij, oj, hoj, e, he, hb, hon⟩
        · have h1 := hall' e he hb
          have h2 := (seqOk_op hs ho).1 e he hb
          rw [hon] at h1 h2
          exact .inl ⟨h1, h2⟩
        · refine .inr ⟨fun hl => ?_, by omega⟩
          have := hcl j oj hoj hl e he hb
          rw [hon, hnot] at this
          cases this)
      have hex : execOp a.eval o = execOp (frR ops a0 vs i).eval o := execOp_congr o (fun cs b => Region.noSelect_spec (seqOk_sel hs) i o cs b ho) fun x hx => by
        cases x with
        | tmp t =>
          have := hlook t (List.mem_append_left _ (List.mem_filterMap.2 ⟨.tmp t, by simpa using hx, rfl⟩))
          simp only [Act.eval, Array.getD_eq_getD_getElem?, this]
        | _ => rfl
      have hdeps : ∀ j, liveDep ops D n i j = true → T.R j vs w := fun j hj => by
        obtain ⟨hj, hkill⟩ := liveDep_iff hj
        obtain ⟨e, he, hb, hon⟩ := (depOk_iff ho).1 hj
        have h1 := hall' e he hb
        have h2 := (seqOk_op hs ho).1 e he hb
        rw [hon] at h1 h2
        refine hR j (by omega) h1 (fun k hk' hD => ?_)
        rcases hkill k hk' hD with rfl | hdk
        · exact hnot
        · cases hx : listed.getD k false with
          | false => rfl
          | true =>
            exfalso
            have hok : ops[k]? = some ops[k] := by simp [show k < ops.size by omega]
            obtain ⟨e, he, hb, hon⟩ := (depOk_iff hok).1 hdk
            have := hcl k _ hok hx e he hb
            rw [hon, hnot] at this
            cases this
      have hnext : ∀ v w', T.behind ops D vs i w v w' → wpAny P .any ops Q f (listed.setIfInBounds i true) (a.put o.dst v) w' := by
        rintro v w' ⟨hB', hRi, hst'⟩
        have hdst : dstAt ops i = o.dst := by simp [dstAt, ho]
        refine ih _ _ _ (by simp [hz]) hcount hcl' (fun _ => ⟨vsX vs i v, hB', fun j hj hl halive => ?_, ?_⟩) (fun p hp1 hp2 hx _ => ?_)
        · by_cases hji : j = i
          · subst hji
            exact hRi
          · rw [getD_set_ne false (fun e => hji e.symm)] at hl
            have hDi : D i j = false := by
              cases hx : D i j with
              | false => rfl
              | true => have := halive i hin hx; rw [hself] at this; cases this
            have hndep : depOk ops j i = false := by
              cases hx : depOk ops j i with
              | false => rfl
              | true =>
                exfalso
                have hoj : ops[j]? = some ops[j] := by simp [show j < ops.size by omega]
                obtain ⟨e, he, hb, hon⟩ := (depOk_iff hoj).1 hx
                have := hcl j _ hoj hl e he hb
                rw [hon, hnot] at this
                cases this
            refine hcong j vs _ w' (fun k hk' => ?_) (hst' j hji hndep hDi (hR j hj hl (fun k hk' hD => ?_)))
            · have hki : k ≠ i := by
                rcases hk' with rfl | hdep
                · exact hji
                · rintro rfl
                  have hoj : ops[j]? = some ops[j] := by simp [show j < ops.size by omega]
                  obtain ⟨e, he, hb, hon⟩ := (depOk_iff hoj).1 hdep
                  have := hcl j _ hoj hl e he hb
                  rw [hon, hnot] at this
                  cases this
              exact (if_neg hki).symm
            · have := halive k hk' hD
              by_cases hki : i = k
              · subst hki; exact hnot
              · rw [getD_set_ne false hki] at this; exact this
        · have h2 : Fr ops (vsX vs i v) a0 (fun j => listed.getD j false = true) a := hFr.congr (fun j hj => by
            have : j ≠ i := fun e => by subst e; rw [hnot] at hj; cases hj
            simp [vsX, this])
          have h3 := h2.put hd i
          have e2 : vsX vs i v i = v := if_pos rfl
          rw [hdst, e2, hset] at h3
          exact h3
        · rw [getD_set_ne false (by omega), hnl (p - 1) (by omega) (by omega)] at hx; cases hx
      unfold wpOp
      simp only [ho]
      rw [if_pos (wantedT hg _)]
      refine .inl ?_
      unfold Oper.wp
      rw [hex]
      rcases hst w hB hdeps with ⟨v, w', hrun, hb⟩ | ⟨ff, args, hrun, hcall⟩ | ⟨w', hrun, hb⟩
      · rw [hrun]
        exact hnext v w' hb
      · rw [hrun, Oper.upon_enter]
        refine hcall.mono ?_
        rintro e w' ⟨v, rfl, hb⟩
        exact hnext v w' hb
      · rw [hrun]
        exact hnext undef w' hb
    · obtain ⟨hg, hw⟩ := postOk_op hp hin ho
      have hbefore : ∀ j, j < i → listed.getD j false = true := fun j hj => hw _ hcl hall' j hj
      have hafter : ∀ j, i ≤ j → j < ops.size → listed.getD j false = false := fun j hj hjs => by
        cases hx : listed.getD j false with
        | false => rfl
        | true =>
          exfalso
          by_cases hji : j = i
          · subst hji; rw [hnot] at hx; cases hx
          · have := hahead j (by omega) hjs hx i (by omega); rw [hnot] at this; cases this
      have hwp : seqWp P Q (os.drop i) a w := by
        rcases Nat.lt_or_ge n i with h | h
        · exact hC i h (by omega) (hbefore _ (by omega)) hnot
        · have hin' : i = n := by omega
          subst hin'
          exact hpre listed a w hbefore hafter (hF0 hnot)
      have hdrop : os.drop i = o :: os.drop (i + 1) := by
        rw [hops] at ho hil
        simp at ho hil
        rw [List.drop_eq_getElem_cons hil]
        rw [List.getElem?_eq_getElem hil] at ho
        injection ho with ho
        rw [ho]
      rw [hdrop] at hwp
      unfold wpOp
      simp only [ho]
      rw [if_pos (wantedT hg _)]
      refine .inl (Oper.wp_mono (fun a' w' h => ?_) hwp)
      refine ih _ _ _ (by simp [hz]) hcount hcl' (fun hx => ?_) (fun p hp1 hp2 hx hy => ?_)
      · exfalso
        by_cases hni : i = n
        · subst hni; rw [hself] at hx; cases hx
        · rw [getD_set_ne false hni, hbefore n (by omega)] at hx; cases hx
      · have : p = i + 1 := by
          rcases Nat.lt_trichotomy p (i + 1) with h1 | h1 | h1
          · exfalso
            by_cases hpi : i = p
            · subst hpi; rw [hself] at hy; cases hy
            · rw [getD_set_ne false hpi, hbefore p (by omega)] at hy; cases hy
          · exact h1
          · exfalso
            rw [getD_set_ne false (by omega), hafter (p - 1) (by omega) (by omega)] at hx; cases hx
        subst this
        exact h
/-- A drawn region, told operation by operation. -/
theorem wp_region_told {os : List Oper} {id : Nat} {a : Act} {w : World} (n : Nat) (T : Told) (D : Nat → Nat → Bool) (hm : P.follows .mixedOrders = true) (hs : seqOk os.toArray = true) (hn : n ≤ os.length) (hk : plainOk os.toArray n = true) (hp : postOk os.toArray n = true) (hcong : T.own os.toArray) (hB : T.B w.drew)
    (hstep : ∀ i, i < n → ∀ vs, StepR P os.toArray T D n i (frR os.toArray a vs i) vs)
    (hend : ∀ vs u, T.B u → (∀ j, j < n → (∀ k, k < n → D k j = false) → T.R j vs u) → seqWp P Q (os.drop n) (frR os.toArray a vs n) u) : (Code.region id os.toArray true).wp P Q a w := by
  refine wp_region_any hm (wpAny_told (os := os) rfl T D n (by simpa using hn) hs hk hp hcong hstep hend _ _ _ _ (by simp) (by simp) (fun j oj hoj hl' => ?_) (fun _ => ⟨fun _ => undef, hB, fun j hj hl _ => ?_, ?_⟩) (fun p hp1 hp2 hx _ => ?_))
  · exfalso
    have hjl : j < os.length := by simpa using (Array.getElem?_eq_some_iff.1 hoj).1
    simp [hjl] at hl'
  · exfalso
    have hjl : j < os.length := by omega
    simp [hjl] at hl
  · have e : (fun i => (Array.replicate os.toArray.size false).getD i false = true) = (fun _ : Nat => False) := by
      funext i
      apply propext
      by_cases hi : i < os.length <;> simp [hi]
    rw [e]
    exact Fr.start
  · exfalso
    have : p - 1 < os.length := by simp at hp2; omega
    simp [this] at hx
end
end Go.Proofs.YthmabhglmgnamaaDoor
