/-
  A copy into a row: what the row is then; the copy as an operation.
-/
import Derived.Test.YthkhlmbhickdbaaSlabL
import Derived.Test.YthkhlmbhickdbaaSeqZ
import Derived.Laws.CopyOwn
namespace Go.Proofs.Ythkhlmbhickdbaa
open Go.RowKit

theorem Row.spliced {W : World} {g : Nat} {zs vs : List Int} {cur : List Value} {o : Nat} (hb : ∀ z ∈ zs, -9223372036854775808 ≤ z ∧ z ≤ 9223372036854775807) (hv : ∀ z ∈ vs, -9223372036854775808 ≤ z ∧ z ≤ 9223372036854775807) (hl : zs.length ≤ cur.length) (hc : ∀ j, j < zs.length → cur[j]? = some (.int .i64 (hz zs j))) (hfit : o + vs.length ≤ zs.length)
    (h : W.heap[g]? = some (.cells (splice cur o (vs.map (Value.int .i64))).toArray 3 (0, 0))) : Row W g (Go.Proofs.Ythkhlmbhickdbaa.sets zs o vs) := by
  have hlen : (splice cur o (vs.map (Value.int .i64))).length = cur.length := length_splice _ _ _ (by simp; omega)
  refine ⟨?_, _, h, ?_, fun j hj => ?_⟩
  · intro z hz'
    obtain ⟨j, hj, e⟩ := List.getElem_of_mem hz'
    have e1 : hz (Go.Proofs.Ythkhlmbhickdbaa.sets zs o vs) j = z := by simp [hz, List.getElem?_eq_getElem hj, e]
    rw [sets_len] at hj
    rw [hz_sets _ _ _ _ hfit] at e1
    rw [← e1]
    split
    · rename_i hh
      have : j - o < vs.length := by omega
      unfold hz
      rw [List.getElem?_eq_getElem this]
      exact hv _ (List.getElem_mem this)
    · unfold hz
      rw [List.getElem?_eq_getElem hj]
      exact hb _ (List.getElem_mem hj)
  · rw [sets_len, List.size_toArray, hlen]; exact hl
  · rw [sets_len] at hj
    rw [hz_sets _ _ _ _ hfit]
    simp only [List.getElem?_toArray, splice]
    by_cases h1 : j < o
    · rw [if_neg (by omega), List.getElem?_append_left (by simp; omega), List.getElem?_take, if_pos h1]
      exact hc j hj
    · rw [List.getElem?_append_right (by simp; omega)]
      rw [show (cur.take o).length = o by simp; omega]
      by_cases h2 : j < o + vs.length
      · rw [if_pos ⟨by omega, h2⟩, List.getElem?_append_left (by simp; omega)]
        have : j - o < vs.length := by omega
        simp [hz, List.getElem?_eq_getElem this]
      · rw [if_neg (by omega), List.getElem?_append_right (by simp; omega), List.getElem?_drop]
        rw [show o + (vs.map (Value.int .i64)).length + (j - o - (vs.map (Value.int .i64)).length) = j by simp; omega]
        exact hc j hj
theorem wpList_copy_grown {P : Program} {w : World} {ops : Array Oper} {rest : List Oper} {o : Oper} {a : Act} {Q : Exit → Act → World → Prop} (hgd : o.guard = none) (d s : Operand) (dT sT : TypeId)
    (ho : o.op = .call { callee := .builtin .copy, args := #[d, s], argTypes := #[dT, sT] }) (elem : TypeId) (hu : P.underlying dT = some (.slice elem)) (hsz : (P.info? elem).map (·.size) = some 1)
    (g off dLen dCap : Nat) (ad : Addr) (sLen sCap : Nat) (hd : a.eval d = .slice (some ⟨g, off, none⟩) dLen dCap) (hs : a.eval s = .slice (some ad) sLen sCap)
    (cur : Array Value) (t : TypeId) (hg : w.heap[g]? = some (.cells cur t (0, 0))) (cs : List Value) (hn : cs.length = Nat.min sLen dLen)
    (hsrc : ∀ j v, cs[j]? = some v → w.cell? (ad.add j) = some v) (hfit : off + cs.length ≤ cur.size) (h1 : ∀ v ∈ cs, v.oneCell' = true)
    (h : ∀ w', Hid (w'.heap[g]? = some (.cells (splice cur.toList off cs).toArray t (0, 0))) → w.grownBy w' (some g) → wpList P ops Q rest (a.put o.dst (goInt cs.length)) w') : wpList P ops Q (o :: rest) a w :=
  wpList_copy_own hgd d s dT sT ho elem hu hsz g off dLen dCap ad sLen sCap hd hs cur t hg cs hn hsrc hfit h1 (h _ (setRow_heap w g _ _ t _ hg) ⟨rfl, rfl, rfl, by simp [World.setRow], fun k _ hk => setRow_other w g k _ (fun e => hk (by rw [e]))⟩)
theorem wpIn_copy {F : Fence} {nF : Nat} {P : Program} {w : World} {o : Oper} {a : Act} {K : Act → World → Prop} {Q : Exit → Act → World → Prop} (hF : WideF F) (d s : Operand) (dT sT : TypeId)
    (ho : o.op = .call { callee := .builtin .copy, args := #[d, s], argTypes := #[dT, sT] }) (elem : TypeId) (hu : P.underlying dT = some (.slice elem)) (hsz : (P.info? elem).map (·.size) = some 1)
    (g off dLen dCap : Nat) (ad : Addr) (sLen sCap : Nat) (hd : a.eval d = .slice (some ⟨g, off, none⟩) dLen dCap) (hs : a.eval s = .slice (some ad) sLen sCap)
    (cur : Array Value) (t : TypeId) (hg : w.heap[g]? = some (.cells cur t (0, 0))) (cs : List Value) (hn : cs.length = Nat.min sLen dLen)
    (hsrc : ∀ j v, cs[j]? = some v → w.cell? (ad.add j) = some v) (hfit : off + cs.length ≤ cur.size) (h1 : ∀ v ∈ cs, v.oneCell' = true)
    (h : ∀ w', Hid (w'.heap[g]? = some (.cells (splice cur.toList off cs).toArray t (0, 0))) → w.grownBy w' (some g) → K (a.put o.dst (goInt cs.length)) w') : o.wpIn F nF P a w K Q := by
  have hrun := run_copy_row (P := P) w dT sT o.type elem g off dLen dCap ad sLen sCap cur t cs hu hsz hg hn hsrc hfit h1
  refine ⟨fun f _ => hF.fn f, ?_⟩
  rw [Oper.semAt_eq _ _ _ (by intro c e; rw [ho] at e; cases e)]
  simp [execOp, ho, resolve, invoke, builtin, hd, hs, hrun, Result.andThen]
  exact h _ (setRow_heap w g _ _ t _ hg) ⟨rfl, rfl, rfl, by simp [World.setRow], fun k _ hk => setRow_other w g k _ (fun e => hk (by rw [e]))⟩
end Go.Proofs.Ythkhlmbhickdbaa
