/-
  A range over a function whose rounds know what lies in memory where they are called: the statement, and one round. And: whether a number is among others.
-/
import Derived.Test.YtlgaamhjpkkjmaaSlabT
import Derived.Test.YtlgaamhjpkkjmaaLookA
namespace Go.Proofs.Ytlgaamhjpkkjmaa
open Go.RowKit Go.Shelf
attribute [local go_sem] Oper.semAt_some

/-- The record of a loop that is the outermost one. -/
abbrev recL (fn : FuncId) (tmps : Array Value) (ps : Array Tmp) (assign body : Code) (D : Nat) (st : LoopState) (pe : Option Code) : Loop := { state := st, pending := pe, fn := fn, tmps := tmps, params := ps, assign := assign, body := body, defers := D }
theorem range_told {n : Nat} {P : Program} {g : Operand} {ps : Array Tmp} {assign body : Code} {Q : Exit → Act → World → Prop} {a : Act} {w : World} (h1 : 1 ≤ n) {gf : Nat} {lb : Array Value} (hg : a.eval g = .func (.func gf) #[] lb) (eg : ∀ args w, (callFunc gf args).run P w = .ok (.enter gf args) w)
    (hcall : ∀ fn, CallsIn Fence.wide (n - 1) P gf (#[.func (.yield (w.heap.size + 1)) #[] #[]] ++ lb) ((w.alloc (.deferred (some []))).alloc (.loop (recL fn a.tmps ps assign body w.heap.size .ready none))) fun e W' =>
      (∃ v, e = .returned v) ∧ ∃ (r : Loop) (W4 : World), W'.heap[w.heap.size + 1]? = some (.loop r) ∧ r.state ≠ .busy ∧ W'.putObj (w.heap.size + 1) (.loop { r with state := .exhausted }) = W4 ∧
        ((r.pending = none ∧ Q .normal { a with defers := { target := .collected w.heap.size, args := #[] } :: a.defers } W4) ∨ ∃ c, r.pending = some c ∧ c.wpIn Fence.wide n P Q { a with defers := { target := .collected w.heap.size, args := #[] } :: a.defers } W4)) :
    (Code.rangeFunc g ps assign body).wpIn Fence.wide n P Q a w := by
  refine wpIn_rangeFunc ?_
  intro fn _
  refine ⟨w.heap.size + 1, [{ target := .collected w.heap.size, args := #[] }], ((w.alloc (.deferred (some []))).alloc (.loop (recL fn a.tmps ps assign body w.heap.size .ready none))), { target := .fn (.func gf) lb, args := #[.func (.yield (w.heap.size + 1)) #[] #[]] }, ((w.alloc (.deferred (some []))).alloc (.loop (recL fn a.tmps ps assign body w.heap.size .ready none))), gf, #[.func (.yield (w.heap.size + 1)) #[] #[]] ++ lb, ((w.alloc (.deferred (some []))).alloc (.loop (recL fn a.tmps ps assign body w.heap.size .ready none))), run_enterLoop_outer _ _ _ _ _, ?_, fun _ _ => trivial, ?_, fun _ => h1, ?_⟩
  · simp only [resolve, hg]
    simp [go_sem]
  · simp [invoke, go_sem, eg]
  · refine (hcall fn).mono ?_
    rintro e W' ⟨⟨v, rfl⟩, r, W4, hr, hb, rfl, h⟩
    refine ⟨r.pending, _, run_endLoop hr hb, ?_⟩
    rcases h with ⟨e, h⟩ | ⟨c, e, h⟩
    · rw [e] at h ⊢; exact h
    · rw [e] at h ⊢; exact h
/-- One round that goes on, or returns. -/
theorem round_told {m : Nat} {P : Program} {l : Nat} {r : Loop} {args : Array Value} {W : World} {R : Ending → World → Prop} (hl : W.heap[l]? = some (.loop r)) (hr : r.state = .ready) (hs : args.size = r.params.size)
    (h : r.assign.wpIn (Fence.wide.inRound l) m P (Exit.then (fun a1 W1 => W1.heap[l]? = some (.loop r) ∧ r.body.wpIn (Fence.wide.inRound l) m P (fun e _ W3 => W3.heap[l]? = some (.loop { r with state := .busy }) ∧
        ((e = .normal ∧ R (.returned (.bool true)) (W3.putObj l (.loop { r with state := .ready, pending := none }))) ∨ (e = .ret ∧ R (.returned (.bool false)) (W3.putObj l (.loop { r with state := .done, pending := some .ret }))))) a1 (W1.putObj l (.loop { r with state := .busy }))) (fun _ _ _ => False))
      { tmps := (r.params.zip args).foldl (fun tmps (t, a) => tmps.setIfInBounds t a) r.tmps, defers := [] } W) :
    YieldAt Fence.wide m P l args W R := by
  refine ⟨r.fn, _, r.assign, r.body, run_yield hl hs, roundIn_of_wpIn trivial (Code.wpIn_mono (fun e a1 W1 h1 => ?_) h)⟩
  cases e with
  | normal =>
    obtain ⟨h2, h3⟩ := h1
    refine ⟨_, run_beginRound h2 hr, Code.wpIn_mono (fun e a3 W3 h4 => ?_) h3⟩
    obtain ⟨h5, ⟨rfl, h6⟩ | ⟨rfl, h6⟩⟩ := h4
    · exact ⟨_, _, run_endRound none h5, h6⟩
    · exact ⟨_, _, run_endRound (some .ret) h5, h6⟩
  | _ => exact h1.elim

set_option maxHeartbeats 4000000 in
set_option maxRecDepth 100000 in
theorem intIndex_ok (w : World) (ao : Option Addr) (cap : Nat) (vs : List Int) (x : Int) (hI : Ints w ao vs) (hl : vs.length ≤ 1048576) :
    Calls Try.prog 112 #[.slice ao vs.length cap, .int .i64 x] w fun e w' => ∃ r : Int, e = .returned (.int .i64 r) ∧ (0 ≤ r ↔ x ∈ vs) ∧ Kept w w' := by
  have HI : Hid _ := hI
  clear hI
  go_enter Try.func112, Try.ntmps112
  go_wp2_with fail
  go_loopw [8] (fun i wr => ∃ k : Nat, i = .int .i64 k ∧ k ≤ vs.length ∧ (∀ j q, j < k → vs[j]? = some q → q ≠ x) ∧ Kept w wr) (fun i _ => vs.length - (intOf i).toNat)
  case atStart => exact ⟨0, rfl, Nat.zero_le _, fun j q h => absurd h (by omega), Below.refl _ _⟩
  case round =>
    obtain ⟨k, rfl, hk, hno, hK⟩ := hrel
    have HN : Hid _ := hno
    have HK1 : Hid _ := hK
    clear hno
    by_cases hlt : k < vs.length
    · obtain ⟨b, off, rfl, hc⟩ := Ints.at (Ints.kept HI.out hK) (k := k) hlt
      have c0 := hc k hlt
      have hq : vs[k]? = some (hz vs k) := by simp [hz, List.getElem?_eq_getElem hlt]
      obtain ⟨q, hqq⟩ : ∃ q, hz vs k = q := ⟨_, rfl⟩
      rw [hqq] at c0 hq
      have q1 : (k : Int) < (vs.length : Int) := by omega
      have q0 : (0 : Int) ≤ (k : Int) := by omega
      clear hc hK hqq
      by_cases he : q = x
      · subst he
        have HM : Hid (q ∈ vs) := List.mem_of_getElem? hq
        clear hq
        go_wp2
        go_ret
        exact ⟨_, rfl, ⟨fun _ => HM.out, fun _ => by omega⟩, HK1.out⟩
      · have e1 : (x == q) = false := by rw [beq_eq_false_iff_ne]; exact fun h => he h.symm
        have HQ : Hid _ := hq
        clear hq
        go_wp2
        go_roundw
        case rel => exact ⟨k + 1, by go_num, by omega, fun j q' hj hq' => by
          rcases Nat.lt_succ_iff_lt_or_eq.1 hj with h | h
          · exact HN.out j q' h hq'
          · rw [h, HQ.out] at hq'; cases hq'; exact he, HK1.out⟩
        case measure => simp [intOf]; omega
    · obtain rfl : k = vs.length := by omega
      clear hK
      go_wp2
      go_ret
      refine ⟨_, rfl, ⟨fun h => absurd h (by omega), fun h => ?_⟩, HK1.out⟩
      obtain ⟨j, hj, e⟩ := List.getElem_of_mem h
      exact absurd e (HN.out j _ hj (List.getElem?_eq_getElem hj))
set_option maxHeartbeats 4000000 in
set_option maxRecDepth 100000 in
theorem intContains_ok (w : World) (ao : Option Addr) (cap : Nat) (vs : List Int) (x : Int) (hI : Ints w ao vs) (hl : vs.length ≤ 1048576) :
    Calls Try.prog 93 #[.slice ao vs.length cap, .int .i64 x] w fun e w' => e = .returned (.bool (decide (x ∈ vs))) ∧ Kept w w' := by
  have hC := intIndex_ok w ao cap vs x hI hl
  go_enter Try.func93, Try.ntmps93
  go_wp2_with fail
  refine hC.mono ?_
  rintro e w1 ⟨r, rfl, hr, hk1⟩
  have hd : decide (0 ≤ r) = decide (x ∈ vs) := by simp [hr]
  clear hr hC
  go_wp2_with fail
  go_ret
  exact ⟨rfl, hk1⟩
end Go.Proofs.Ytlgaamhjpkkjmaa
