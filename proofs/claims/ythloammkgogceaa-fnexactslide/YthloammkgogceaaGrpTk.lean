/-
  A range over a function whose rounds know what lies in memory where they are called: the statement, and one round.
  To which block a value leads (chapter 8's program): the contract of leadsTo.
  Facts on lists: where the blocks that are not free go when they are slid, as the program works it out (chapter 10).
  Ranges over the blocks of a slab, and over those that are not free (takenOf): the loop's body is told which block comes, and never leaves.
-/
import Derived.Test.YthloammkgogceaaSlabT
import Derived.Test.YthloammkgogceaaShapeD
import Derived.Test.YthloammkgogceaaShapeR
import Derived.Test.YthloammkgogceaaSldP
import Derived.Test.YthloammkgogceaaSlabU
namespace Go.Proofs.Ythloammkgogceaa
open Go.RowKit Go.Shelf
attribute [local go_sem] Oper.semAt_some

/-- The record of a loop that is the outermost one. -/
abbrev recL (fn : FuncId) (tmps : Array Value) (ps : Array Tmp) (assign body : Code) (D : Nat) (st : LoopState) (pe : Option Code) : Loop := { state := st, pending := pe, fn := fn, tmps := tmps, params := ps, assign := assign, body := body, defers := D }
theorem range_told {n : Nat} {P : Program} {g : Operand} {ps : Array Tmp} {assign body : Code} {Q : Exit → Act → World → Prop} {a : Act} {w : World} (h1 : 1 ≤ n) {gf : Nat} {lb : Array Value} (hg : a.eval g = .func (.func gf) #[] lb) (eg : ∀ args w, (callFunc gf args).run P w = .ok (.enter gf args) w)
    (hcall : ∀ fn, CallsIn Fence.wide (n - 1) P gf (#[.func (.yield (w.heap.size + 1)) #[] #[]] ++ lb) ((w.alloc (.deferred (some []))).alloc (.loop (recL fn a.tmps ps assign body w.heap.size .ready none))) fun e W' =>
      (∃ v, e = .returned v) ∧ ∃ (r : Loop) (W4 : World), W'.heap[w.heap.size + 1]? = some (.loop r) ∧ r.state ≠ .busy ∧ W'.putObj (w.heap.size + 1) (.loop { r with state := .exhausted }) = W4 ∧
        ((r.pending = none ∧ Q .normal { a with defers := { target := .collected w.heap.size, args := #[] } :: a.defers } W4) ∨ ∃ c, r.pending = some c ∧ c.wpIn Fence.wide n P Q { a with defers := { target := .collected w.heap.size, args := #[] } :: a.defers } W4)) :
    (Code.rangeFunc g ps assign body).wpIn Fence.wide n P Q a w := by
  refine wpIn_rangeFunc ?_
  intro fn _
  refine ⟨w.heap.size + 1, [{ target := .collected w.heap.size, args := #[] }], ((w.alloc (.deferred (some []))).alloc (.loop (recL fn a.tmps ps assign body w.heap.size .ready none))), { target := .fn (.func gf) lb, args := #[.func (.yield (w.heap.size + 1)) #[] #[]] }, ((w.alloc (.deferred (some []))).alloc (.loop (recL fn a.tmps ps assign body w.heap.size .ready none))), gf, #[.func (.yield (w.heap.size + 1)) #[] #[]] ++ lb, ((w.alloc (.deferred (some []))).alloc (.loop (recL fn a.tmps ps assign body w.heap.size .ready none))), run_enterLoop_outer _ _ _ _ _, ?_, fun _ _ => trivial, ?_, fun _ => h1, ?_⟩
  · simp only [resolve, hg]
    simp [go_sem]
  · simp [invoke, go_sem, eg]
  · refine (hcall fn).mono ?_
    rintro e W' ⟨⟨v, rfl⟩, r, W4, hr, hb, rfl, h⟩
    refine ⟨r.pending, _, run_endLoop hr hb, ?_⟩
    rcases h with ⟨e, h⟩ | ⟨c, e, h⟩
    · rw [e] at h ⊢; exact h
    · rw [e] at h ⊢; exact h
/-- One round that goes on, or returns. -/
theorem round_told {m : Nat} {P : Program} {l : Nat} {r : Loop} {args : Array Value} {W : World} {R : Ending → World → Prop} (hl : W.heap[l]? = some (.loop r)) (hr : r.state = .ready) (hs : args.size = r.params.size)
    (h : r.assign.wpIn (Fence.wide.inRound l) m P (Exit.then (fun a1 W1 => W1.heap[l]? = some (.loop r) ∧ r.body.wpIn (Fence.wide.inRound l) m P (fun e _ W3 => W3.heap[l]? = some (.loop { r with state := .busy }) ∧
        ((e = .normal ∧ R (.returned (.bool true)) (W3.putObj l (.loop { r with state := .ready, pending := none }))) ∨ (e = .ret ∧ R (.returned (.bool false)) (W3.putObj l (.loop { r with state := .done, pending := some .ret }))))) a1 (W1.putObj l (.loop { r with state := .busy }))) (fun _ _ _ => False))
      { tmps := (r.params.zip args).foldl (fun tmps (t, a) => tmps.setIfInBounds t a) r.tmps, defers := [] } W) :
    YieldAt Fence.wide m P l args W R := by
  refine ⟨r.fn, _, r.assign, r.body, run_yield hl hs, roundIn_of_wpIn trivial (Code.wpIn_mono (fun e a1 W1 h1 => ?_) h)⟩
  cases e with
  | normal =>
    obtain ⟨h2, h3⟩ := h1
    refine ⟨_, run_beginRound h2 hr, Code.wpIn_mono (fun e a3 W3 h4 => ?_) h3⟩
    obtain ⟨h5, ⟨rfl, h6⟩ | ⟨rfl, h6⟩⟩ := h4
    · exact ⟨_, _, run_endRound none h5, h6⟩
    · exact ⟨_, _, run_endRound (some .ret) h5, h6⟩
  | _ => exact h1.elim

end Go.Proofs.Ythloammkgogceaa
namespace Go.Proofs.Ythloammkgogceaa
open Go.RowKit

/-- What leadsTo tells. -/
def leadV (zs : List Int) (v : Int) : Bool := decide (4 ≤ v % 8) && (valR zs 11 v || valR zs 6 v)
theorem valR_lead {zs : List Int} {r v : Int} (h : valR zs r v = true) : leadV zs v = decide (4 ≤ v % 8) := by
  unfold leadV
  by_cases h4 : 4 ≤ v % 8
  · have hm : v % 8 < 8 := by omega
    simp only [decide_eq_true h4, Bool.true_and]
    unfold valR at h ⊢
    simp only [decide_eq_true h4, Bool.not_true, Bool.false_or, Bool.and_eq_true, decide_eq_true_eq] at h ⊢
    obtain ⟨⟨h1, h2⟩, h3⟩ := h
    rw [h1, h3]
    have t11 : takesR 11 (v % 8) = true := by simp [takesR]
    rw [t11]
    by_cases hr : r = 6
    · subst hr
      rw [h2]
      simp
    · have e : goalR r (v % 8) = goalR 11 (v % 8) := by unfold goalR; simp [hr]
      rw [e]
      simp
  · simp [h4]
theorem lead_kind {zs : List Int} {v : Int} (h : leadV zs v = true) : 4 ≤ v % 8 ∧ 1 ≤ kindAt zs (v / 8) := by
  unfold leadV at h
  simp only [Bool.and_eq_true, Bool.or_eq_true, decide_eq_true_eq] at h
  refine ⟨h.1, ?_⟩
  rcases h.2 with h2 | h2
  all_goals (
    unfold valR at h2
    simp only [decide_eq_true h.1, Bool.not_true, Bool.false_or, Bool.and_eq_true, decide_eq_true_eq] at h2
    rw [h2.2]
    exact goal_pos _ _)
theorem slots_val {zs : List Int} (hok : slabOk zs = true) {b : BkOf zs.length} (hb : b ∈ blocks zs) (hr : blkR zs b.1.at' b.1.size b.1.kind = true) : ∀ v ∈ (slotsL zs ((b.1.at' : Nat) : Int)).map (fun j => hz zs j.toNat), ∃ r, valR zs r v = true := by
  have ha := atB_mem hok hb
  have hlen := (slabOk_iff.1 hok).1
  have hble := b.2.2.1
  have hk5 := b.2.2.2
  intro v hv
  unfold slotsL at hv
  rw [ha] at hv
  obtain ⟨x, hx, rfl⟩ := List.mem_map.1 hv
  obtain ⟨k, hk, e⟩ := List.getElem_of_mem hx
  simp only at hk e
  have hoff : 1 ≤ slOff b.1.kind := by unfold slOff; split <;> omega
  have hk' := hk
  rw [slL, someL_len] at hk'
  have e' : x = ((b.1.at' + slOff b.1.kind + k : Nat) : Int) := by
    rw [← e]
    have := someL_at (a := b.1.at' + slOff b.1.kind) hk'
    rw [← this]
    unfold hz slL
    rw [List.getElem?_eq_getElem (by rw [someL_len]; exact hk')]
    rfl
  rw [e', Int.toNat_natCast]
  unfold blkR at hr
  rw [Bool.and_eq_true, wordsR_iff] at hr
  have hw := hr.2 (slOff b.1.kind + k) (by omega) (by omega)
  have hrole := role_value hk5 (hz zs (b.1.at' + 1)) (k := slOff b.1.kind + k) (by omega) (by omega)
  rw [show decide (slOff b.1.kind ≤ slOff b.1.kind + k ∧ slOff b.1.kind + k < slOff b.1.kind + slMany b.1.kind) = true by simp; omega] at hrole
  simp only [decide_eq_true_eq] at hrole
  rw [show b.1.at' + (slOff b.1.kind + k) = b.1.at' + slOff b.1.kind + k by omega] at hw
  unfold wordR at hw
  rw [if_neg (by omega), if_neg (by omega), if_neg (by omega), if_neg (by omega), if_neg (by omega)] at hw
  exact ⟨_, hw⟩
set_option maxHeartbeats 4000000 in
set_option maxRecDepth 100000 in
theorem leadsTo_yes (w : World) (lo : Option Addr) (lc : Nat) (zs : List Int) (v : Int) (hI : Ints w lo (lyt zs)) (h0 : -9223372036854775808 ≤ v) (h1 : v ≤ 9223372036854775807) (hy : leadV zs v = true) :
    Calls Try.prog 57 #[.slice lo zs.length lc, .int .i64 v] w fun e w' => e = .returned (.tuple #[.int .i64 (v / 8), .bool true]) ∧ w = w' := by
  unfold leadV at hy
  simp only [Bool.and_eq_true, Bool.or_eq_true, decide_eq_true_eq] at hy
  obtain ⟨h4, hy⟩ := hy
  have hV := fun r => valueOk_ok w lo lc zs r v hI h0 h1
  have hK := impl_Kind_ok v w
  have hL := leads_ok (v % 8) w (by omega)
  have hN := impl_Num_ok v w h0 h1
  rw [decide_eq_true h4] at hL
  have V11 := hV 11
  have V6 := hV 6
  clear hV hI
  cases h11 : valR zs 11 v with
  | true =>
    rw [h11] at V11
    clear h11 V6 hy
    go_enter Try.func57, Try.ntmps57
    go_wp2_with fail
    refine hK.mono ?_
    rintro e w1 ⟨rfl, rfl⟩
    go_wp2_with fail
    refine hL.mono ?_
    rintro e w1 ⟨rfl, rfl⟩
    go_wp2_with fail
    refine V11.mono ?_
    rintro e w1 ⟨rfl, rfl⟩
    go_wp2_with fail
    refine hN.mono ?_
    rintro e w1 ⟨rfl, rfl⟩
    go_wp2_with fail
    go_ret2
    exact ⟨rfl, rfl⟩
  | false =>
    have h6 : valR zs 6 v = true := by
      rcases hy with h | h
      · rw [h11] at h; cases h
      · exact h
    rw [h11] at V11
    rw [h6] at V6
    clear h11 h6 hy
    go_enter Try.func57, Try.ntmps57
    go_wp2_with fail
    refine hK.mono ?_
    rintro e w1 ⟨rfl, rfl⟩
    go_wp2_with fail
    refine hL.mono ?_
    rintro e w1 ⟨rfl, rfl⟩
    go_wp2_with fail
    refine V11.mono ?_
    rintro e w1 ⟨rfl, rfl⟩
    go_wp2_with fail
    refine V6.mono ?_
    rintro e w1 ⟨rfl, rfl⟩
    go_wp2_with fail
    refine hN.mono ?_
    rintro e w1 ⟨rfl, rfl⟩
    go_wp2_with fail
    go_ret2
    exact ⟨rfl, rfl⟩
set_option maxHeartbeats 4000000 in
set_option maxRecDepth 100000 in
theorem leadsTo_no (w : World) (lo : Option Addr) (lc : Nat) (zs : List Int) (v : Int) (hI : Ints w lo (lyt zs)) (h0 : -9223372036854775808 ≤ v) (h1 : v ≤ 9223372036854775807) (hy : leadV zs v = false) :
    Calls Try.prog 57 #[.slice lo zs.length lc, .int .i64 v] w fun e w' => e = .returned (.tuple #[.int .i64 0, .bool false]) ∧ w = w' := by
  unfold leadV at hy
  have hV := fun r => valueOk_ok w lo lc zs r v hI h0 h1
  have hK := impl_Kind_ok v w
  have hL := leads_ok (v % 8) w (by omega)
  have V11 := hV 11
  have V6 := hV 6
  clear hV hI
  by_cases h4 : 4 ≤ v % 8
  · rw [decide_eq_true h4] at hL hy
    simp only [Bool.true_and, Bool.or_eq_false_iff] at hy
    rw [hy.1] at V11
    rw [hy.2] at V6
    clear hy
    go_enter Try.func57, Try.ntmps57
    go_wp2_with fail
    refine hK.mono ?_
    rintro e w1 ⟨rfl, rfl⟩
    go_wp2_with fail
    refine hL.mono ?_
    rintro e w1 ⟨rfl, rfl⟩
    go_wp2_with fail
    refine V11.mono ?_
    rintro e w1 ⟨rfl, rfl⟩
    go_wp2_with fail
    refine V6.mono ?_
    rintro e w1 ⟨rfl, rfl⟩
    go_wp2_with fail
    go_ret2
    exact ⟨rfl, rfl⟩
  · rw [decide_eq_false h4] at hL
    clear hy V11 V6
    go_enter Try.func57, Try.ntmps57
    go_wp2_with fail
    refine hK.mono ?_
    rintro e w1 ⟨rfl, rfl⟩
    go_wp2_with fail
    refine hL.mono ?_
    rintro e w1 ⟨rfl, rfl⟩
    go_wp2_with fail
    go_ret2
    exact ⟨rfl, rfl⟩
end Go.Proofs.Ythloammkgogceaa
namespace Go.Proofs.Ythloammkgogceaa
open Go.RowKit

/-- The blocks that are not free. -/
def tkL {L : Nat} (l : List (BkOf L)) : List (BkOf L) := l.filter (fun b => !decide (b.1.kind = 0))
theorem tkL_app {L : Nat} (l m : List (BkOf L)) : tkL (l ++ m) = tkL l ++ tkL m := by simp [tkL]
theorem tkL_yes {L : Nat} {b : BkOf L} (h : b.1.kind ≠ 0) : tkL [b] = [b] := by simp [tkL, h]
theorem tkL_no {L : Nat} {b : BkOf L} (h : b.1.kind = 0) : tkL [b] = [] := by simp [tkL, h]
/-- How many words they have together. -/
def szsB {L : Nat} (l : List (BkOf L)) : Nat := (l.map (fun b => b.1.size)).sum
theorem szsB_app {L : Nat} (l m : List (BkOf L)) : szsB (l ++ m) = szsB l + szsB m := by simp [szsB]
theorem szsB_snoc {L : Nat} (l : List (BkOf L)) (b : BkOf L) : szsB (l ++ [b]) = szsB l + b.1.size := by simp [szsB]
theorem szsB_cons {L : Nat} (l : List (BkOf L)) (b : BkOf L) : szsB (b :: l) = b.1.size + szsB l := by simp [szsB]
theorem slidW_tk {L : Nat} (zs : List Int) (l : List (BkOf L)) : slidW zs (tkL l) = slidW zs l := by
  induction l with
  | nil => rfl
  | cons b r ih =>
    by_cases h : b.1.kind = 0
    · have e : tkL (b :: r) = tkL r := by simp [tkL, h]
      rw [e, ih]
      simp [slidW, h]
    · have e : tkL (b :: r) = b :: tkL r := by simp [tkL, h]
      rw [e]
      simp only [slidW, ih]
theorem slidW_szs {L : Nat} (zs : List Int) (l : List (BkOf L)) : (slidW zs l).length = szsB (tkL l) := by
  induction l with
  | nil => rfl
  | cons b r ih =>
    by_cases h : b.1.kind = 0
    · have e : tkL (b :: r) = tkL r := by simp [tkL, h]
      rw [e, ← ih]
      simp [slidW, h]
    · have e : tkL (b :: r) = b :: tkL r := by simp [tkL, h]
      rw [e, szsB_cons, ← ih]
      simp [slidW, h, blkW_len]
theorem movF_blks {zs : List Int} {x : BkOf zs.length} {r : List (BkOf zs.length)} : ∀ (q : List (BkOf zs.length)) (k t n : Nat), blks zs k = q ++ x :: r → zs.length < n + k → movF zs x.1.at' n k t = t + szsB (tkL q)
  | [], k, t, n, e, _ => by
    by_cases h : Good zs k
    · rw [blks_yes h] at e
      simp only [List.nil_append, List.cons.injEq] at e
      rw [movF_end (by rw [← e.1]; simp)]
      simp [tkL, szsB]
    · rw [blks_no h] at e
      simp at e
  | y :: q, k, t, n, e, hn => by
    by_cases h : Good zs k
    · rw [blks_yes h] at e
      simp only [List.cons_append, List.cons.injEq] at e
      have hk := h.lt
      have h2 := h.sz2
      have hx : k + sz zs k ≤ x.1.at' := ((Seg.of zs (k + sz zs k)).bd x.1 (by rw [e.2]; simp [raw])).1
      cases n with
      | zero => omega
      | succ n =>
        rw [movF_on (by omega), movF_blks q (k + sz zs k) _ n e.2 (by omega)]
        have hy1 : y.1.kind = kd zs k := by rw [← e.1]
        have hy2 : y.1.size = sz zs k := by rw [← e.1]
        by_cases hq : kd zs k = 0
        · have e1 : tkL (y :: q) = tkL q := by simp [tkL, hy1, hq]
          rw [e1]
          simp [hq]
        · have e1 : tkL (y :: q) = y :: tkL q := by simp [tkL, hy1, hq]
          rw [e1, szsB_cons, hy2]
          simp [hq]
          omega
    · rw [blks_no h] at e
      simp at e
/-- The place that a block gets is how many words those ahead of it have that are not free. -/
theorem movT_blks {zs : List Int} {q r : List (BkOf zs.length)} {x : BkOf zs.length} (e : blocks zs = q ++ x :: r) : movT zs x.1.at' = szsB (tkL q) := by
  have := movF_blks q 0 0 (zs.length + 1) e (by omega)
  rw [movT, this]
  omega
theorem tk_split {L : Nat} : ∀ {l : List (BkOf L)} {pre r : List (BkOf L)} {x : BkOf L}, tkL l = pre ++ x :: r → ∃ q s, l = q ++ x :: s ∧ tkL q = pre
  | [], pre, r, x, e => by simp [tkL] at e
  | b :: l, pre, r, x, e => by
    by_cases h : b.1.kind = 0
    · have e1 : tkL (b :: l) = tkL l := by simp [tkL, h]
      rw [e1] at e
      obtain ⟨q, s, h1, h2⟩ := tk_split e
      exact ⟨b :: q, s, by rw [h1]; rfl, by rw [← h2]; simp [tkL, h]⟩
    · have e1 : tkL (b :: l) = b :: tkL l := by simp [tkL, h]
      rw [e1] at e
      cases pre with
      | nil =>
        simp only [List.nil_append, List.cons.injEq] at e
        exact ⟨[], l, by rw [e.1]; rfl, rfl⟩
      | cons y pre =>
        simp only [List.cons_append, List.cons.injEq] at e
        obtain ⟨q, s, h1, h2⟩ := tk_split e.2
        refine ⟨b :: q, s, by rw [h1]; rfl, ?_⟩
        have e2 : tkL (b :: q) = b :: tkL q := by simp [tkL, h]
        rw [e2, h2, e.1]
theorem movT_tk {zs : List Int} {pre : List (BkOf zs.length)} {x : BkOf zs.length} (h : pre ++ [x] <+: tkL (blocks zs)) : movT zs x.1.at' = szsB pre ∧ x ∈ blocks zs ∧ x.1.kind ≠ 0 := by
  obtain ⟨r, e⟩ := h
  obtain ⟨q, s, h1, h2⟩ := tk_split (l := blocks zs) (pre := pre) (x := x) (r := r) (by rw [← e]; simp)
  refine ⟨by rw [movT_blks h1, h2], by rw [h1]; simp, ?_⟩
  have hm : x ∈ tkL (blocks zs) := by rw [← e]; simp
  simpa [tkL] using (List.mem_filter.1 hm).2
/-- Where the blocks go, as it is written down: at the place where each begins. -/
def toL (zs : List Int) (pre : List (BkOf zs.length)) : List Int := pre.foldl (fun l b => l.set b.1.at' ((movT zs b.1.at' : Nat) : Int)) (List.replicate zs.length 0)
theorem toL_snoc (zs : List Int) (pre : List (BkOf zs.length)) (x : BkOf zs.length) : toL zs (pre ++ [x]) = (toL zs pre).set x.1.at' ((movT zs x.1.at' : Nat) : Int) := by simp [toL]
theorem toF_len (zs : List Int) : ∀ (pre : List (BkOf zs.length)) (l : List Int), (pre.foldl (fun l b => l.set b.1.at' ((movT zs b.1.at' : Nat) : Int)) l).length = l.length
  | [], l => rfl
  | b :: r, l => by rw [List.foldl_cons, toF_len zs r]; simp
theorem toL_len (zs : List Int) (pre : List (BkOf zs.length)) : (toL zs pre).length = zs.length := by
  rw [toL, toF_len]; simp
theorem toF_at {zs : List Int} {x : BkOf zs.length} : ∀ (pre : List (BkOf zs.length)) (l : List Int), l.length = zs.length → x ∈ pre ∨ hz l x.1.at' = ((movT zs x.1.at' : Nat) : Int) → hz (pre.foldl (fun l b => l.set b.1.at' ((movT zs b.1.at' : Nat) : Int)) l) x.1.at' = ((movT zs x.1.at' : Nat) : Int)
  | [], l, _, h => by
    rcases h with h | h
    · simp at h
    · exact h
  | b :: r, l, hl, h => by
    rw [List.foldl_cons]
    refine toF_at r _ (by simpa using hl) ?_
    by_cases e : b.1.at' = x.1.at'
    · refine .inr ?_
      rw [e]
      unfold hz
      rw [List.getElem?_set_self (by rw [hl]; have := x.2; omega)]
      rfl
    · rcases h with h | h
      · rcases List.mem_cons.1 h with h | h
        · rw [h] at e; exact absurd rfl e
        · exact .inl h
      · refine .inr ?_
        unfold hz at h ⊢
        rw [List.getElem?_set_ne (by omega)]
        exact h
theorem toL_at {zs : List Int} {pre : List (BkOf zs.length)} {x : BkOf zs.length} (h : x ∈ pre) : hz (toL zs pre) x.1.at' = ((movT zs x.1.at' : Nat) : Int) := toF_at pre _ (by simp) (.inl h)
/-- What Moved tells of what is right. -/
def movdV (zs : List Int) (v : Int) : Int := if leadV zs v = true then movV zs v else v
def fwdL (zs : List Int) : List Int := if heapR zs = true then (tkL (blocks zs)).map (fun b => ((movT zs b.1.at' : Nat) : Int)) else []
def movedC (zs : List Int) (v : Int) : Int := if heapR zs = true then movdV zs v else v
theorem movdV_val {zs : List Int} {r v : Int} (h : valR zs r v = true) : movdV zs v = movV zs v := by
  unfold movdV
  rw [valR_lead h]
  by_cases h4 : 4 ≤ v % 8
  · simp [h4]
  · simp only [h4, decide_false, Bool.false_eq_true, if_false]
    unfold movV
    rw [if_pos (by omega)]
end Go.Proofs.Ythloammkgogceaa
namespace Go.Proofs.Ythloammkgogceaa
open Go.RowKit Go.Shelf
attribute [local go_sem] Oper.semAt_some

/-- What a round keeps: cells as KeepX has it, and all that is no cells from nB on. -/
def K2 (X : Nat → Prop) (nI nB : Nat) (W W' : World) : Prop := KeepX X nI W W' ∧ KeepsFrom nB W W'
/-- The contract of an iterator over blocks: it yields just these, in order. -/
def Tells (n gf : Nat) (lb : Array Value) {L : Nat} (l0 : List (BkOf L)) (X : Nat → Prop) (nI nB : Nat) (w : World) : Prop :=
  ∀ (l : Nat) (J : List (BkOf L) → World → Prop) (W : World), Kept w W → OwnFrom W.heap.size J →
    (∀ pre x W1, J pre W1 → pre ++ [x] <+: l0 → YieldAt Fence.wide (n - 1) Try.prog l #[bkV (x.1.at' : Nat) (x.1.size : Nat) (x.1.kind : Nat)] W1 fun e W' => e = .returned (.bool true) ∧ J (pre ++ [x]) W' ∧ K2 X nI nB W1 W') →
    J [] W → CallsIn Fence.wide n Try.prog gf (#[.func (.yield l) #[] #[]] ++ lb) W fun e W' => (∃ v, e = .returned v) ∧ J l0 W'

theorem own_kept {β : Type} {B : Nat} {I : β → World → Prop} (h : OwnFrom B I) {s : β} {W W' : World} (hs : I s W) (hk : Kept W W') : I s W' := h s W W' none hs hk.grown (fun _ e => by cases e)
theorem own_le {β : Type} {B B' : Nat} {I : β → World → Prop} (h : OwnFrom B I) (hB : B ≤ B') : OwnFrom B' I := fun s W W' row hs hg hr => h s W W' row hs hg (fun r e => ⟨Nat.le_trans hB (hr r e).1, (hr r e).2⟩)

theorem Cells.keptT {X : Nat → Prop} {nI : Nat} {W W' : World} {B : Nat} {t : TypeId} {cs : Array Value} (h : Cells W B t cs) (hk : KeepX X nI W W') (hx : ¬ X B) (ht : t ≠ 3) : Cells W' B t cs := hk.2 _ _ h rfl hx (fun x => by obtain ⟨_, cs', fr, e⟩ := x; simp at e; exact ht e.2.1)
set_option maxRecDepth 100000 in
set_option maxHeartbeats 2000000 in
theorem blocksOf_tells (n : Nat) (hn : 1 ≤ n) (Bs nX nI nB : Nat) (X : Nat → Prop) (ao : Option Addr) (cap : Nat) (zs : List Int) (hL : zs.length * 8 ≤ 140737488351232) (hXa : ∀ a, zs ≠ [] → ao = some a → ¬ X a.block ∧ a.block < nI) (hXb : ¬ X Bs) (hXn : ∀ k, X k → k < nX)
    (w : World) (hnX : nX ≤ w.heap.size) (hB : Cells w Bs 22 #[.slice ao zs.length cap]) (hI0 : Ints w ao zs) : Tells n 69 #[.pointer (some ⟨Bs, 0, none⟩)] (blocks zs) X nI nB w := by
  intro l J W hW hA hY h0
  have hBs := hB.kept hW
  have hI := hI0.kept hW
  have hBc := hBs.cell 0
  have hnX : nX ≤ W.heap.size := Nat.le_trans hnX hW.size
  refine callsIn_of_wp Try.func69 rfl trivial ?_ rfl
  simp only [Try.ntmps69, List.size_toArray, List.length_cons, List.length_nil, Nat.reduceAdd, Nat.reduceSub, Array.replicate_succ, Array.replicate_zero, List.push_toArray, List.append_toArray, List.nil_append, List.cons_append]
  clear hB hI0
  gi_wp2
  gi_loopw [3] (fun i wr => ∃ (k : Nat) (pre : List (BkOf zs.length)), i = .int .i64 k ∧ k ≤ zs.length ∧ pre ++ blks zs k = blocks zs ∧ J pre wr ∧ Cells wr Bs 22 #[.slice ao zs.length cap] ∧ Ints wr ao zs ∧ nX ≤ wr.heap.size)
    (fun i _ => zs.length - (intOf i).toNat)
  case atStart => exact ⟨0, [], rfl, Nat.zero_le _, rfl, h0, hBs, hI, hnX⟩
  case round =>
    obtain ⟨k, pre, rfl, hk, hpre, hJ, hBC, hIw, hnw⟩ := hrel
    have hBw := hBC.cell 0
    clear hBs hI h0 hnX hBc
    by_cases hlt' : k < zs.length
    · by_cases hg : Good zs k
      · have hle := hg.le
        have hs2 := hg.sz2
        gi_wp2_with (refine ⟨trivial, ?_⟩; gi_at_call 70; refine (callsIn_wide.2 (readBlock_good _ ao cap zs k hIw hg hL)).mono ?_; rintro e w1 ⟨rfl, hk1⟩; have hkA := hk1.alloc (.cells #[.int .i64 k, .int .i64 (sz zs k), .int .i64 (kd zs k)] 55); obtain ⟨fn, tmps, assign, body, hy, hR⟩ := hY pre ⟨⟨k, sz zs k, kd zs k⟩, hg.sz2, hg.le, hg.kd5⟩ _ (own_kept hA hJ hkA) (by rw [← hpre, blks_yes hg]; exact ⟨blks zs (k + sz zs k), by simp⟩); dsimp only at hy)
        refine hR.mono ?_
        rintro e W3 ⟨rfl, hJ3, hk3, _⟩
        have hnew := World.alloc_heap_new w1 (.cells #[.int .i64 k, .int .i64 (sz zs k), .int .i64 (kd zs k)] 55)
        have hb3 := hk3.2 _ _ hnew rfl (fun h => by have := hXn _ h; have := hk1.size; omega) (fun h => by obtain ⟨_, cs, fr, e⟩ := h; simp at e)
        have c0 : W3.cell? ⟨w1.heap.size, 0, none⟩ = some (.int .i64 k) := by simp [World.cell?, hb3]
        have c1 : W3.cell? ⟨w1.heap.size, 1, none⟩ = some (.int .i64 (sz zs k)) := by simp [World.cell?, hb3]
        have c2 : W3.cell? ⟨w1.heap.size, 2, none⟩ = some (.int .i64 (kd zs k)) := by simp [World.cell?, hb3]
        have hBC3 := (hBC.kept hkA).keptT hk3 hXb (by decide)
        have hcB := hBC3.cell 0
        have hI3 := hk3.ints (hIw.kept hkA) hXa
        have hn3 : nX ≤ W3.heap.size := Nat.le_trans hnw (Nat.le_trans hkA.size hk3.1)
        clear hR hy hb3 hnew hY
        gi_wp2_with (refine ⟨trivial, ?_⟩; gi_at_call 71; refine (callsIn_wide.2 (end_ok _ _ _ _ (by omega) (by omega))).mono ?_; rintro e w4 ⟨rfl, rfl⟩)
        go_roundw
        case rel => exact ⟨k + sz zs k, _, by go_num, hle, by rw [← hpre, blks_yes hg]; simp, own_kept hA hJ3 (Kept.alloc (Below.refl _ _) _), hBC3.alloc _, hI3.kept (Kept.alloc (Below.refl _ _) _), by simp; omega⟩
        case measure => simp [intOf]; omega
      · gi_wp2_with (refine ⟨trivial, ?_⟩; gi_at_call 70; refine (callsIn_wide.2 (readBlock_bad _ ao cap zs k hIw hlt' hg hL)).mono ?_; rintro e w1 ⟨rfl, hk1⟩)
        refine ⟨fun _ _ => trivial, ?_⟩
        gi_wp2
        refine bodyPost_ret (results_none rfl _ _ _) rfl ?_
        refine ⟨⟨_, rfl⟩, ?_⟩
        rw [show blocks zs = pre by rw [← hpre, blks_no hg]; simp]
        exact own_kept hA hJ (hk1.alloc _)
    · obtain rfl : k = zs.length := by omega
      gi_wp2
      go_end0
      refine ⟨⟨_, rfl⟩, ?_⟩
      rw [show blocks zs = pre by rw [← hpre, blks_no (fun h => hlt' h.lt)]; simp]
      exact hJ

set_option maxHeartbeats 1000000 in
/-- 'for b := range ..', whatever its body, which never leaves: the body is walked once, told which block comes, at a block of its own for b. -/
theorem range_tells {g : Operand} {p d r gf L : Nat} {pos pos' : String} {aft : Array Edge} {body : Code} {Q : Exit → Act → World → Prop} {a : Act} {w : World} {n : Nat} {X : Nat → Prop} {nI : Nat} {lb : Array Value} {l0 : List (BkOf L)}
    (hn : 2 ≤ n) (hg : a.eval g = .func (.func gf) #[] lb) (eg : ∀ args w, (callFunc gf args).run Try.prog w = .ok (.enter gf args) w) (hp : p < a.tmps.size) (hd : d < a.tmps.size) (hpd : p ≠ d)
    (hT : Tells (n - 1) gf lb l0 X nI w.heap.size w)
    (I : List (BkOf L) → World → Prop) (hOI : OwnFrom w.heap.size I) (h0 : I [] w)
    (hbody : ∀ (l : Nat) (pre : List (BkOf L)) (x : BkOf L) (W : World) (Bx : Nat), w.heap.size ≤ Bx → Cells W Bx 55 (bkC (x.1.at' : Nat) (x.1.size : Nat) (x.1.kind : Nat)) → I pre W → pre ++ [x] <+: l0 →
      body.wpIn (Fence.wide.inRound l) (n - 1 - 1) Try.prog (fun e _ W' => e = .normal ∧ KeepsFrom w.heap.size W W' ∧ KeepX X nI W W' ∧ I (pre ++ [x]) W') { tmps := (a.tmps.setIfInBounds p (bkV (x.1.at' : Nat) (x.1.size : Nat) (x.1.kind : Nat))).setIfInBounds d (.pointer (some ⟨Bx, 0, none⟩)), defers := [] } W)
    (hdone : ∀ (D : Nat) (W : World), w.heap.size ≤ D → I l0 W → W.heap[D]? = some (.deferred (some [])) → Q .normal { a with defers := { target := .collected D, args := #[] } :: a.defers } W) :
    (Code.rangeFunc g #[p] (Code.region r #[{ dst := some d, op := Op.alloc 55, type := 0, pos := pos, after := #[], guard := none }, { dst := none, op := Op.store 55 (Operand.tmp d) (Operand.tmp p), type := 0, pos := pos', after := aft, guard := none }] false) body).wpIn Fence.wide n Try.prog Q a w := by
  refine range_told (by omega) hg eg (fun fn => ?_)
  obtain ⟨asg, has⟩ : ∃ asg, Code.region r #[{ dst := some d, op := Op.alloc 55, type := 0, pos := pos, after := #[], guard := none }, { dst := none, op := Op.store 55 (Operand.tmp d) (Operand.tmp p), type := 0, pos := pos', after := aft, guard := none }] false = asg := ⟨_, rfl⟩
  rw [has]
  obtain ⟨R0, hR0⟩ : ∃ R0, recL fn a.tmps #[p] asg body w.heap.size .ready none = R0 := ⟨_, rfl⟩
  rw [hR0]
  have kW : Kept w ((w.alloc (.deferred (some []))).alloc (.loop R0)) := (Kept.alloc (Below.refl _ _) _).alloc _
  have hsz : ((w.alloc (.deferred (some []))).alloc (.loop R0)).heap.size = w.heap.size + 2 := by simp
  have hl1 : ((w.alloc (.deferred (some []))).alloc (.loop R0)).heap[w.heap.size + 1]? = some (.loop R0) := by
    have := World.alloc_heap_new (w.alloc (.deferred (some []))) (.loop R0); rwa [World.size_alloc] at this
  have hd1 : ((w.alloc (.deferred (some []))).alloc (.loop R0)).heap[w.heap.size]? = some (.deferred (some [])) :=
    (Below.heap_alloc _ _ _ (by simp)).trans (World.alloc_heap_new w _)
  have key := hT (w.heap.size + 1) (fun pre W => I pre W ∧ W.heap[w.heap.size + 1]? = some (.loop R0) ∧ W.heap[w.heap.size]? = some (.deferred (some []))) _ kW ?own ?round ⟨own_kept hOI h0 kW, hl1, hd1⟩
  · refine key.mono ?_
    rintro e W' ⟨hv, hi, hl, hD⟩
    refine ⟨hv, R0, _, hl, by rw [← hR0]; simp, rfl, .inl ⟨by rw [← hR0], ?_⟩⟩
    exact hdone _ _ (Nat.le_refl _) (hOI.putObj _ hi (by omega) hl rfl) ((World.putObj_heap_other (by omega)).trans hD)
  case own =>
    rintro s A B row ⟨h1, h2, h3⟩ hg' hr
    refine ⟨hOI s A B row h1 hg' (fun k e => ⟨by have := (hr k e).1; omega, (hr k e).2⟩), ?_, ?_⟩
    · exact (hg'.block _ (Array.getElem?_eq_some_iff.1 h2).1 (fun e => by have := (hr _ e.symm).1; omega)).trans h2
    · exact (hg'.block _ (Array.getElem?_eq_some_iff.1 h3).1 (fun e => by have := (hr _ e.symm).1; omega)).trans h3
  case round =>
    rintro pre x W ⟨hi, hl, hD⟩ hpre
    have hlt : w.heap.size + 1 < W.heap.size := (Array.getElem?_eq_some_iff.1 hl).1
    subst hR0
    refine round_told hl rfl (by simp) ?_
    have hz : ∀ v : Value, ((#[p] : Array Tmp).zip #[v]).foldl (fun t (p, v) => t.setIfInBounds p v) a.tmps = a.tmps.setIfInBounds p v := fun v => by simp
    show asg.wpIn _ _ _ _ { tmps := ((#[p] : Array Tmp).zip #[_]).foldl (fun t (p, v) => t.setIfInBounds p v) a.tmps, defers := [] } W
    rw [hz, ← has]
    refine assign_b hp hd hpd _ _ _ ?_
    have hk : Kept W (W.alloc (.cells (bkC (x.1.at' : Nat) (x.1.size : Nat) (x.1.kind : Nat)) 55)) := Kept.alloc (Below.refl _ _) _
    have bX := Cells.new W 55 (bkC (x.1.at' : Nat) (x.1.size : Nat) (x.1.kind : Nat))
    obtain ⟨W2, hW2⟩ : ∃ W2, W.alloc (.cells (bkC (x.1.at' : Nat) (x.1.size : Nat) (x.1.kind : Nat)) 55) = W2 := ⟨_, rfl⟩
    rw [hW2] at hk bX ⊢
    have hl2 := (hk.block _ hlt).trans hl
    have hD2 := (hk.block _ (show w.heap.size < W.heap.size by omega)).trans hD
    have hi2 := own_kept hOI hi hk
    have hlt2 : w.heap.size + 1 < W2.heap.size := Nat.lt_of_lt_of_le hlt hk.size
    refine ⟨by rw [hl2, has], ?_⟩
    obtain ⟨RB, hRB⟩ : ∃ RB : Loop, { recL fn a.tmps #[p] asg body w.heap.size .ready none with state := LoopState.busy } = RB := ⟨_, rfl⟩
    have hRB' : { recL fn a.tmps #[p] (Code.region r #[{ dst := some d, op := Op.alloc 55, type := 0, pos := pos, after := #[], guard := none }, { dst := none, op := Op.store 55 (Operand.tmp d) (Operand.tmp p), type := 0, pos := pos', after := aft, guard := none }] false) body w.heap.size .ready none with state := LoopState.busy } = RB := by rw [has]; exact hRB
    have hl3 : (W2.putObj (w.heap.size + 1) (.loop RB)).heap[w.heap.size + 1]? = some (.loop RB) := World.putObj_heap_same hlt2
    have hD3 : (W2.putObj (w.heap.size + 1) (.loop RB)).heap[w.heap.size]? = some (.deferred (some [])) := (World.putObj_heap_other (by omega)).trans hD2
    have hi3 : I pre (W2.putObj (w.heap.size + 1) (.loop RB)) := hOI.putObj _ hi2 (by omega) hl2 rfl
    have bX3 := bX.put hl2 rfl (.loop RB)
    rw [hRB']
    have hb := hbody (w.heap.size + 1) pre x _ W.heap.size (by omega) bX3 hi3 hpre
    refine Code.wpIn_mono (fun e a4 W4 h => ?_) hb
    obtain ⟨rfl, hKF, hKX, hi4⟩ := h
    have hl4 := hKF.same _ _ (by omega) hl3 rfl
    have hD4 := hKF.same _ _ (Nat.le_refl _) hD3 rfl
    have hlt4 := (Array.getElem?_eq_some_iff.1 hl4).1
    refine ⟨hl4, .inl ⟨rfl, rfl, ⟨hOI.putObj _ hi4 (by omega) hl4 rfl, ?_, (World.putObj_heap_other (by omega)).trans hD4⟩, ?_, ?_⟩⟩
    · rw [has]; exact World.putObj_heap_same hlt4
    · exact ((KeepX.of hk).t (KeepX.b _ _ _ _ hl2 rfl)).t (hKX.t (KeepX.b _ _ _ _ hl4 rfl))
    · refine ⟨?_, fun k o hkB hko hco => ?_⟩
      · have h1 := hk.size
        have h2 := hKF.size
        simp at h2 ⊢
        omega
      · by_cases e : k = w.heap.size + 1
        · subst e
          rw [hl] at hko
          cases hko
          rw [has]
          exact World.putObj_heap_same hlt4
        · refine (World.putObj_heap_other e).trans ?_
          refine hKF.same k o hkB ?_ hco
          refine (World.putObj_heap_other e).trans ?_
          exact (hk.block k (Array.getElem?_eq_some_iff.1 hko).1).trans hko

theorem takenOf_ok (ao : Option Addr) (len cap : Nat) (w : World) :
    Calls Try.prog 33 #[.slice ao len cap] w fun e w' => e = .returned (.func (.func 54) #[] #[.pointer (some ⟨w.heap.size, 0, none⟩)]) ∧ w' = w.alloc (.cells #[.slice ao len cap] 22) := by
  go_enter Try.func33, Try.ntmps33
  go_wp2
  go_ret
  exact ⟨rfl, rfl⟩
theorem round_wide {m : Nat} (l' m' : Nat) {P : Program} {l : Nat} {f : FuncId} {tmps : Array Value} {assign body : Code} {w : World} {R : Ending → World → Prop} (h : RoundIn Fence.wide m P l f tmps assign body w R) : RoundIn (Fence.wide.inRound l') m' P l f tmps assign body w R := ⟨trivial, fun c cs _ => h.2 c cs (room_wide _)⟩
theorem KeepX.own {β : Type} {X : Nat → Prop} {nI B : Nat} {W0 : World} (hB : W0.heap.size ≤ B) : OwnFrom B (fun (_ : β) W => KeepX X nI W0 W) := fun _ A C row h hg hr =>
  ⟨Nat.le_trans h.1 hg.size, fun k o e c x i => by
    have h1 := h.2 k o e c x i
    have h2 := (Array.getElem?_eq_some_iff.1 e).1
    exact (hg.block k (Array.getElem?_eq_some_iff.1 h1).1 (fun er => by have := (hr k er.symm).1; omega)).trans h1⟩
set_option maxRecDepth 100000 in
set_option maxHeartbeats 4000000 in
theorem takenOf_tells (n : Nat) (hn : 5 ≤ n) (Bs nX nI nB : Nat) (X : Nat → Prop) (ao : Option Addr) (cap : Nat) (zs : List Int) (hL : zs.length * 8 ≤ 140737488351232) (hXa : ∀ a, zs ≠ [] → ao = some a → ¬ X a.block ∧ a.block < nI) (hXn : ∀ k, X k → k < nX)
    (w : World) (hnX : nX ≤ w.heap.size) (hnB : nB ≤ w.heap.size) (hB : Cells w Bs 22 #[.slice ao zs.length cap]) (hI0 : Ints w ao zs) : Tells n 54 #[.pointer (some ⟨Bs, 0, none⟩)] (tkL (blocks zs)) X nI nB w := by
  intro l J W hW hA hY h0
  have hBW := hB.kept hW
  have hIW := hI0.kept hW
  have hsW := hW.size
  have hn1 : 1 ≤ n := by omega
  have b1 := (Cells.new W 66 #[.func (.yield l) #[] #[]]).alloc (.cells #[.slice ao zs.length cap] 22)
  have b2 := Cells.new (W.alloc (.cells #[.func (.yield l) #[] #[]] 66)) 22 #[.slice ao zs.length cap]
  simp only [World.size_alloc] at b2
  have k1 : Kept W ((W.alloc (.cells #[.func (.yield l) #[] #[]] 66)).alloc (.cells #[.slice ao zs.length cap] 22)) := (Kept.alloc (Below.refl _ _) _).alloc _
  have hBs := hBW.cell 0
  have lBs := hBW.lt
  have hBs' := (hBW.alloc (.cells #[.func (.yield l) #[] #[]] 66)).cell 0
  refine callsIn_of_wp_marks Try.func54 rfl trivial ?_ rfl
  simp only [Try.ntmps54, List.size_toArray, List.length_cons, List.length_nil, Nat.reduceAdd, Nat.reduceSub, Array.replicate_succ, Array.replicate_zero, List.push_toArray, List.append_toArray, List.nil_append, List.cons_append]
  gi_wp2_with (refine ⟨trivial, ?_⟩; gi_at_call 51; refine (callsIn_wide.2 (blocksOf_ok _ _ _ _)).mono ?_; rintro e w' ⟨rfl, rfl⟩)
  have hsz : ((W.alloc (.cells #[.func (.yield l) #[] #[]] 66)).alloc (.cells #[.slice ao zs.length cap] 22)).heap.size = W.heap.size + 2 := by simp
  obtain ⟨W0, hW0⟩ : ∃ W0, (W.alloc (.cells #[.func (.yield l) #[] #[]] 66)).alloc (.cells #[.slice ao zs.length cap] 22) = W0 := ⟨_, rfl⟩
  rw [hW0] at b1 b2 k1 hsz ⊢
  clear hW0 hBs hBs'
  refine range_tells (X := X) (nI := nI) (l0 := blocks zs) (n := n) (by omega) rfl (enters_of Try.func69 (by kernel_rfl) rfl) (by simp) (by simp) (by decide)
    (blocksOf_tells (n - 1) (by omega) (W.heap.size + 1) nX nI W0.heap.size X ao cap zs hL hXa (fun x => by have := hXn _ x; omega) hXn W0 (by omega) b2 (hIW.kept k1))
    (fun pre V => J (tkL pre) V ∧ KeepX X nI W0 V) ?oi ⟨own_kept hA h0 k1, KeepX.of (Below.refl _ _)⟩ ?body ?done
  case oi => exact OwnFrom.and (fun s A B row hs hg hr => hA (tkL s) A B row hs hg (fun r e => ⟨by have := (hr r e).1; omega, (hr r e).2⟩)) (KeepX.own (Nat.le_refl _))
  case body =>
    rintro l' pre x V Bx hBx bX ⟨hJ, hK⟩ hpre
    have y1 := b1.keptT hK (fun h => by have := hXn _ h; omega) (by decide)
    have c0 := bX.cell 0
    have c1 := bX.cell 1
    have c2 := bX.cell 2
    have cy := y1.cell 0
    have lX := bX.lt
    have ly := y1.lt
    have hn2 : 1 ≤ n - 1 - 1 := by omega
    simp only [List.setIfInBounds_toArray, List.set_cons_succ, List.set_cons_zero]
    by_cases hq : x.1.kind = 0
    · have HN : Hid (tkL (pre ++ [x]) = tkL pre) := by rw [Hid, tkL_app, tkL_no hq]; simp
      have hq' : (((x.1.kind : Nat) : Int) == 0) = true := by simp [hq]
      clear hq
      gi_wp2_with (refine ⟨trivial, ?_⟩; gi_at_call 55; refine (CallsIn.inRound l' (callsIn_wide.2 (free_ok _ _ _ _))).mono ?_; rintro e w4 ⟨rfl, rfl⟩)
      refine ⟨fun _ h => (by cases h), ?_⟩
      gi_wp2
      refine ⟨(KeepsOthers.alloc _ _).from _, KeepX.of (Kept.alloc (Below.refl _ _) _), ?_, hK.t (KeepX.of (Kept.alloc (Below.refl _ _) _))⟩
      rw [HN.out]
      exact own_kept hA hJ (Kept.alloc (Below.refl _ _) _)
    · have HN : Hid (tkL (pre ++ [x]) = tkL pre ++ [x]) := by rw [Hid, tkL_app, tkL_yes hq]
      have hq' : (((x.1.kind : Nat) : Int) == 0) = false := by simpa using hq
      have hp2 : tkL pre ++ [x] <+: tkL (blocks zs) := by
        obtain ⟨r, e⟩ := hpre
        exact ⟨tkL r, by rw [← e, tkL_app, HN.out]⟩
      have kx : Kept V (V.alloc (.cells #[.int .i64 (x.1.at' : Nat), .int .i64 (x.1.size : Nat), .int .i64 (x.1.kind : Nat)] 55)) := Kept.alloc (Below.refl _ _) _
      have e0 := (bX.kept kx).cell 0
      have e1 := (bX.kept kx).cell 1
      have e2 := (bX.kept kx).cell 2
      have ey := (y1.kept kx).cell 0
      obtain ⟨fn, tmps, assign, body, hy, hR⟩ := hY (tkL pre) x _ (own_kept hA hJ kx) hp2
      clear hq
      gi_wp2_with (refine ⟨trivial, ?_⟩; gi_at_call 55; refine (CallsIn.inRound l' (callsIn_wide.2 (free_ok _ _ _ _))).mono ?_; rintro e w4 ⟨rfl, rfl⟩)
      refine (round_wide l' (n - 1 - 1 - 1) hR).mono ?_
      rintro e V3 ⟨rfl, hJ3, hk3, hf3⟩
      clear hR hy e0 e1 e2 ey
      gi_wp2
      refine ⟨((KeepsOthers.alloc _ _).from _).trans ⟨hf3.size, fun k o hB' hk' ho' => hf3.same k o (by omega) hk' ho'⟩, (KeepX.of kx).t hk3, ?_, hK.t ((KeepX.of kx).t hk3)⟩
      rw [HN.out]
      exact hJ3
  case done =>
    rintro D V hD ⟨hJ, hK⟩ hd
    gi_wp2
    refine ⟨by simp, .inl ⟨_, _, rfl, run_takeDeferred hd, ?_⟩⟩
    exact ⟨_, results_none rfl _ _ _, ⟨_, rfl⟩, hA.putObj _ hJ (by omega) hd rfl⟩
end Go.Proofs.Ythloammkgogceaa
