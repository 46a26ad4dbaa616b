/-
  Facts on lists: where the blocks that are not free go when they are slid, as the program works it out (chapter 10).
-/
import Derived.Test.YthloammkgogceaaSldP
import Derived.Test.YthloammkgogceaaLdtA
namespace Go.Proofs.Ythloammkgogceaa
open Go.RowKit

/-- The blocks that are not free. -/
def tkL {L : Nat} (l : List (BkOf L)) : List (BkOf L) := l.filter (fun b => !decide (b.1.kind = 0))
theorem tkL_app {L : Nat} (l m : List (BkOf L)) : tkL (l ++ m) = tkL l ++ tkL m := by simp [tkL]
theorem tkL_yes {L : Nat} {b : BkOf L} (h : b.1.kind ≠ 0) : tkL [b] = [b] := by simp [tkL, h]
theorem tkL_no {L : Nat} {b : BkOf L} (h : b.1.kind = 0) : tkL [b] = [] := by simp [tkL, h]
/-- How many words they have together. -/
def szsB {L : Nat} (l : List (BkOf L)) : Nat := (l.map (fun b => b.1.size)).sum
theorem szsB_app {L : Nat} (l m : List (BkOf L)) : szsB (l ++ m) = szsB l + szsB m := by simp [szsB]
theorem szsB_snoc {L : Nat} (l : List (BkOf L)) (b : BkOf L) : szsB (l ++ [b]) = szsB l + b.1.size := by simp [szsB]
theorem szsB_cons {L : Nat} (l : List (BkOf L)) (b : BkOf L) : szsB (b :: l) = b.1.size + szsB l := by simp [szsB]
theorem slidW_tk {L : Nat} (zs : List Int) (l : List (BkOf L)) : slidW zs (tkL l) = slidW zs l := by
  induction l with
  | nil => rfl
  | cons b r ih =>
    by_cases h : b.1.kind = 0
    · have e : tkL (b :: r) = tkL r := by simp [tkL, h]
      rw [e, ih]
      simp [slidW, h]
    · have e : tkL (b :: r) = b :: tkL r := by simp [tkL, h]
      rw [e]
      simp only [slidW, ih]
theorem slidW_szs {L : Nat} (zs : List Int) (l : List (BkOf L)) : (slidW zs l).length = szsB (tkL l) := by
  induction l with
  | nil => rfl
  | cons b r ih =>
    by_cases h : b.1.kind = 0
    · have e : tkL (b :: r) = tkL r := by simp [tkL, h]
      rw [e, ← ih]
      simp [slidW, h]
    · have e : tkL (b :: r) = b :: tkL r := by simp [tkL, h]
      rw [e, szsB_cons, ← ih]
      simp [slidW, h, blkW_len]
theorem movF_blks {zs : List Int} {x : BkOf zs.length} {r : List (BkOf zs.length)} : ∀ (q : List (BkOf zs.length)) (k t n : Nat), blks zs k = q ++ x :: r → zs.length < n + k → movF zs x.1.at' n k t = t + szsB (tkL q)
  | [], k, t, n, e, _ => by
    by_cases h : Good zs k
    · rw [blks_yes h] at e
      simp only [List.nil_append, List.cons.injEq] at e
      rw [movF_end (by rw [← e.1]; simp)]
      simp [tkL, szsB]
    · rw [blks_no h] at e
      simp at e
  | y :: q, k, t, n, e, hn => by
    by_cases h : Good zs k
    · rw [blks_yes h] at e
      simp only [List.cons_append, List.cons.injEq] at e
      have hk := h.lt
      have h2 := h.sz2
      have hx : k + sz zs k ≤ x.1.at' := ((Seg.of zs (k + sz zs k)).bd x.1 (by rw [e.2]; simp [raw])).1
      cases n with
      | zero => omega
      | succ n =>
        rw [movF_on (by omega), movF_blks q (k + sz zs k) _ n e.2 (by omega)]
        have hy1 : y.1.kind = kd zs k := by rw [← e.1]
        have hy2 : y.1.size = sz zs k := by rw [← e.1]
        by_cases hq : kd zs k = 0
        · have e1 : tkL (y :: q) = tkL q := by simp [tkL, hy1, hq]
          rw [e1]
          simp [hq]
        · have e1 : tkL (y :: q) = y :: tkL q := by simp [tkL, hy1, hq]
          rw [e1, szsB_cons, hy2]
          simp [hq]
          omega
    · rw [blks_no h] at e
      simp at e
/-- The place that a block gets is how many words those ahead of it have that are not free. -/
theorem movT_blks {zs : List Int} {q r : List (BkOf zs.length)} {x : BkOf zs.length} (e : blocks zs = q ++ x :: r) : movT zs x.1.at' = szsB (tkL q) := by
  have := movF_blks q 0 0 (zs.length + 1) e (by omega)
  rw [movT, this]
  omega
theorem tk_split {L : Nat} : ∀ {l : List (BkOf L)} {pre r : List (BkOf L)} {x : BkOf L}, tkL l = pre ++ x :: r → ∃ q s, l = q ++ x :: s ∧ tkL q = pre
  | [], pre, r, x, e => by simp [tkL] at e
  | b :: l, pre, r, x, e => by
    by_cases h : b.1.kind = 0
    · have e1 : tkL (b :: l) = tkL l := by simp [tkL, h]
      rw [e1] at e
      obtain ⟨q, s, h1, h2⟩ := tk_split e
      exact ⟨b :: q, s, by rw [h1]; rfl, by rw [← h2]; simp [tkL, h]⟩
    · have e1 : tkL (b :: l) = b :: tkL l := by simp [tkL, h]
      rw [e1] at e
      cases pre with
      | nil =>
        simp only [List.nil_append, List.cons.injEq] at e
        exact ⟨[], l, by rw [e.1]; rfl, rfl⟩
      | cons y pre =>
        simp only [List.cons_append, List.cons.injEq] at e
        obtain ⟨q, s, h1, h2⟩ := tk_split e.2
        refine ⟨b :: q, s, by rw [h1]; rfl, ?_⟩
        have e2 : tkL (b :: q) = b :: tkL q := by simp [tkL, h]
        rw [e2, h2, e.1]
theorem movT_tk {zs : List Int} {pre : List (BkOf zs.length)} {x : BkOf zs.length} (h : pre ++ [x] <+: tkL (blocks zs)) : movT zs x.1.at' = szsB pre ∧ x ∈ blocks zs ∧ x.1.kind ≠ 0 := by
  obtain ⟨r, e⟩ := h
  obtain ⟨q, s, h1, h2⟩ := tk_split (l := blocks zs) (pre := pre) (x := x) (r := r) (by rw [← e]; simp)
  refine ⟨by rw [movT_blks h1, h2], by rw [h1]; simp, ?_⟩
  have hm : x ∈ tkL (blocks zs) := by rw [← e]; simp
  simpa [tkL] using (List.mem_filter.1 hm).2
/-- Where the blocks go, as it is written down: at the place where each begins. -/
def toL (zs : List Int) (pre : List (BkOf zs.length)) : List Int := pre.foldl (fun l b => l.set b.1.at' ((movT zs b.1.at' : Nat) : Int)) (List.replicate zs.length 0)
theorem toL_snoc (zs : List Int) (pre : List (BkOf zs.length)) (x : BkOf zs.length) : toL zs (pre ++ [x]) = (toL zs pre).set x.1.at' ((movT zs x.1.at' : Nat) : Int) := by simp [toL]
theorem toF_len (zs : List Int) : ∀ (pre : List (BkOf zs.length)) (l : List Int), (pre.foldl (fun l b => l.set b.1.at' ((movT zs b.1.at' : Nat) : Int)) l).length = l.length
  | [], l => rfl
  | b :: r, l => by rw [List.foldl_cons, toF_len zs r]; simp
theorem toL_len (zs : List Int) (pre : List (BkOf zs.length)) : (toL zs pre).length = zs.length := by
  rw [toL, toF_len]; simp
theorem toF_at {zs : List Int} {x : BkOf zs.length} : ∀ (pre : List (BkOf zs.length)) (l : List Int), l.length = zs.length → x ∈ pre ∨ hz l x.1.at' = ((movT zs x.1.at' : Nat) : Int) → hz (pre.foldl (fun l b => l.set b.1.at' ((movT zs b.1.at' : Nat) : Int)) l) x.1.at' = ((movT zs x.1.at' : Nat) : Int)
  | [], l, _, h => by
    rcases h with h | h
    · simp at h
    · exact h
  | b :: r, l, hl, h => by
    rw [List.foldl_cons]
    refine toF_at r _ (by simpa using hl) ?_
    by_cases e : b.1.at' = x.1.at'
    · refine .inr ?_
      rw [e]
      unfold hz
      rw [List.getElem?_set_self (by rw [hl]; have := x.2; omega)]
      rfl
    · rcases h with h | h
      · rcases List.mem_cons.1 h with h | h
        · rw [h] at e; exact absurd rfl e
        · exact .inl h
      · refine .inr ?_
        unfold hz at h ⊢
        rw [List.getElem?_set_ne (by omega)]
        exact h
theorem toL_at {zs : List Int} {pre : List (BkOf zs.length)} {x : BkOf zs.length} (h : x ∈ pre) : hz (toL zs pre) x.1.at' = ((movT zs x.1.at' : Nat) : Int) := toF_at pre _ (by simp) (.inl h)
/-- What Moved tells of what is right. -/
def movdV (zs : List Int) (v : Int) : Int := if leadV zs v = true then movV zs v else v
def fwdL (zs : List Int) : List Int := if heapR zs = true then (tkL (blocks zs)).map (fun b => ((movT zs b.1.at' : Nat) : Int)) else []
def movedC (zs : List Int) (v : Int) : Int := if heapR zs = true then movdV zs v else v
theorem movdV_val {zs : List Int} {r v : Int} (h : valR zs r v = true) : movdV zs v = movV zs v := by
  unfold movdV
  rw [valR_lead h]
  by_cases h4 : 4 ≤ v % 8
  · simp [h4]
  · simp only [h4, decide_false, Bool.false_eq_true, if_false]
    unfold movV
    rw [if_pos (by omega)]
end Go.Proofs.Ythloammkgogceaa
