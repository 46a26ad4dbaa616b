/-
  What a right tree is (chapter 13), as lists tell it.
-/
import Derived.Test.YtlinbkgeahgkjaaGreatDoorZWrdA
import Derived.Test.YtlinbkgeahgkjaaGreatDoorNodP
namespace Go.Proofs.YtlinbkgeahgkjaaGreatDoor
open Go.RowKit

def Nd.op : Nd → Int
  | .mk op _ _ _ => op
def Nd.s : Nd → ByteArray
  | .mk _ s _ _ => s
def Nd.n : Nd → Int
  | .mk _ _ n _ => n
def Nd.kids : Nd → List Nd
  | .mk _ _ _ ks => ks
/-- Where a node may stand: 1 as a block, 2 as a statement, 3 as an expr, 4 as a pair. -/
def st (op : Int) : Nat := if op = 1 then 1 else if 2 ≤ op ∧ op ≤ 9 then 2 else if (10 ≤ op ∧ op ≤ 25) ∨ op = 27 then 3 else if op = 26 then 4 else 0
/-- Where the kid i of a node belongs. -/
def wantAt (op : Int) (i : Nat) : Nat := if op = 1 then 2 else if op = 5 ∨ op = 6 then (if i = 0 then 3 else 1) else if op = 25 then 4 else if op = 27 then 1 else 3
def one1 (op : Int) : Bool := decide (op = 2 ∨ op = 3 ∨ op = 7 ∨ op = 8 ∨ op = 9 ∨ op = 17 ∨ op = 24 ∨ op = 26)
def two2 (op : Int) : Bool := decide (op = 4 ∨ op = 19 ∨ op = 20 ∨ op = 21 ∨ op = 22 ∨ op = 23)
def countB (op : Int) (n : Nat) : Bool := if op = 1 ∨ op = 25 then true else if one1 op || decide (op = 27) then decide (n = 1) else if two2 op || decide (op = 6) then decide (n = 2) else if op = 5 then decide (2 ≤ n ∧ n ≤ 3) else if op = 18 then decide (1 ≤ n) else decide (n = 0)
/-- S and N are what an op has. -/
def ownB (op : Int) (s : ByteArray) (n : Int) : Bool :=
  if op = 10 then s.toList.isEmpty && decide (-2147483647 ≤ n ∧ n ≤ 2147483647)
  else decide (n = 0) && (if op = 2 ∨ op = 3 ∨ op = 16 ∨ op = 26 then nameR s false else if op = 4 ∨ op = 17 then nameR s true else if op = 11 then textR s else if op = 27 then namesR s else s.toList.isEmpty && decide (1 ≤ op ∧ op ≤ 27))
mutual
def okT : Nd → Bool
  | .mk op s n ks => ownB op s n && (countB op ks.length && okK op 0 ks)
def okK (op : Int) : Nat → List Nd → Bool
  | _, [] => true
  | i, k :: ks => (decide (st k.op = wantAt op i) && okT k) && okK op (i + 1) ks
end
def stOk (a : Nat) (k : Nd) : Bool := decide (st k.op = a) && okT k
def kidsR (op : Int) (ks : List Nd) : Bool := countB op ks.length && okK op 0 ks
def exR (m : Nat) (ks : List Nd) : Bool := decide (m ≤ ks.length) && (ks.take m).all (stOk 3)
def nodeR (t : Nd) : Bool := decide (t.op = 1) && (decide (t.deep ≤ 20) && (decide (t.size ≤ 200) && okT t))
theorem okK_const {op : Int} {a : Nat} (h : ∀ i, wantAt op i = a) : ∀ (ks : List Nd) (i : Nat), okK op i ks = ks.all (stOk a)
  | [], i => by simp [okK]
  | k :: ks, i => by
    rw [okK, okK_const h ks (i + 1), h i]
    rfl
theorem okK_two {op : Int} (h : op = 5 ∨ op = 6) (k : Nd) (ks : List Nd) : okK op 0 (k :: ks) = (stOk 3 k && ks.all (stOk 1)) := by
  have h2 : ∀ (ks : List Nd) (i : Nat), okK op (i + 1) ks = ks.all (stOk 1) := by
    intro ks
    induction ks with
    | nil => intro i; simp [okK]
    | cons k ks ih => intro i; rw [okK, ih]; rcases h with rfl | rfl <;> rfl
  rw [okK, h2]
  rcases h with rfl | rfl <;> rfl
theorem kidsR_1 (ks : List Nd) : kidsR 1 ks = ks.all (stOk 2) := by
  rw [kidsR, okK_const (a := 2) (fun _ => rfl)]
  rfl
theorem kidsR_25 (ks : List Nd) : kidsR 25 ks = ks.all (stOk 4) := by
  rw [kidsR, okK_const (a := 4) (fun _ => rfl)]
  rfl
theorem kidsR_a {op : Int} (h : op = 2 ∨ op = 3 ∨ op = 7 ∨ op = 8 ∨ op = 9 ∨ op = 17 ∨ op = 24 ∨ op = 26) (ks : List Nd) : kidsR op ks = (decide (ks.length = 1) && exR 1 ks) := by
  have h1 : ∀ i, wantAt op i = 3 := by rcases h with rfl | rfl | rfl | rfl | rfl | rfl | rfl | rfl <;> exact fun _ => rfl
  have h2 : countB op ks.length = decide (ks.length = 1) := by rcases h with rfl | rfl | rfl | rfl | rfl | rfl | rfl | rfl <;> rfl
  rw [kidsR, okK_const h1, h2]
  by_cases hl : ks.length = 1
  · simp [exR, hl, List.take_of_length_le (Nat.le_of_eq hl)]
  · simp [hl]
theorem kidsR_b {op : Int} (h : op = 4 ∨ op = 19 ∨ op = 20 ∨ op = 21 ∨ op = 22 ∨ op = 23) (ks : List Nd) : kidsR op ks = (decide (ks.length = 2) && exR 2 ks) := by
  have h1 : ∀ i, wantAt op i = 3 := by rcases h with rfl | rfl | rfl | rfl | rfl | rfl <;> exact fun _ => rfl
  have h2 : countB op ks.length = decide (ks.length = 2) := by rcases h with rfl | rfl | rfl | rfl | rfl | rfl <;> rfl
  rw [kidsR, okK_const h1, h2]
  by_cases hl : ks.length = 2
  · simp [exR, hl, List.take_of_length_le (Nat.le_of_eq hl)]
  · simp [hl]
theorem kidsR_5 (ks : List Nd) : kidsR 5 ks = (decide (2 ≤ ks.length ∧ ks.length ≤ 3) && (exR 1 ks && (ks.drop 1).all (stOk 1))) := by
  rw [kidsR, show countB 5 ks.length = decide (2 ≤ ks.length ∧ ks.length ≤ 3) from rfl]
  cases ks with
  | nil => rfl
  | cons k ks => rw [okK_two (.inl rfl)]; simp [exR]
theorem kidsR_6 (ks : List Nd) : kidsR 6 ks = (decide (ks.length = 2) && (exR 1 ks && (ks.drop 1).all (stOk 1))) := by
  rw [kidsR, show countB 6 ks.length = decide (ks.length = 2) from rfl]
  cases ks with
  | nil => rfl
  | cons k ks => rw [okK_two (.inr rfl)]; simp [exR]
theorem kidsR_18 (ks : List Nd) : kidsR 18 ks = (decide (1 ≤ ks.length) && exR ks.length ks) := by
  rw [kidsR, okK_const (a := 3) (fun _ => rfl), show countB 18 ks.length = decide (1 ≤ ks.length) from rfl]
  simp [exR]
theorem kidsR_27 (ks : List Nd) : kidsR 27 ks = (decide (ks.length = 1) && (ks.drop 0).all (stOk 1)) := by
  rw [kidsR, okK_const (a := 1) (fun _ => rfl), show countB 27 ks.length = decide (ks.length = 1) from rfl]
  simp
theorem kidsR_z {op : Int} (h : ∀ j ∈ [(1 : Int), 2, 3, 4, 5, 6, 7, 8, 9, 17, 18, 19, 20, 21, 22, 23, 24, 25, 26, 27], op ≠ j) (ks : List Nd) : kidsR op ks = decide (ks.length = 0) := by
  simp at h
  have h2 : countB op ks.length = decide (ks.length = 0) := by
    unfold countB one1 two2
    simp [h]
  rw [kidsR, h2]
  cases ks with
  | nil => simp [okK]
  | cons k ks => simp
theorem all_step {P : Nd → Bool} {ks : List Nd} {k : Nat} {x : Nd} (h : (ks.take k).all P = true) (hx : ks[k]? = some x) (hp : P x = true) : (ks.take (k + 1)).all P = true := by
  rw [List.take_add_one, hx]
  simp only [List.all_append, h, Option.toList, List.all_cons, hp, List.all_nil]
  rfl
theorem all_bad {P : Nd → Bool} {ks : List Nd} {k m : Nat} {x : Nd} (hk : k < m) (hx : ks[k]? = some x) (hp : P x = false) : (ks.take m).all P = false := by
  rw [List.all_eq_false]
  exact ⟨x, List.mem_of_getElem? (i := k) (by rw [List.getElem?_take, if_pos hk]; exact hx), by simp [hp]⟩
theorem all_bad' {P : Nd → Bool} {ks : List Nd} {k : Nat} {x : Nd} (hx : ks[k]? = some x) (hp : P x = false) : ks.all P = false := by
  rw [List.all_eq_false]
  exact ⟨x, List.mem_of_getElem? hx, by simp [hp]⟩
theorem drop_bad {P : Nd → Bool} {ks : List Nd} {k m : Nat} {x : Nd} (hk : m ≤ k) (hx : ks[k]? = some x) (hp : P x = false) : (ks.drop m).all P = false := by
  rw [List.all_eq_false]
  exact ⟨x, List.mem_of_getElem? (i := k - m) (by rw [List.getElem?_drop, show m + (k - m) = k by omega]; exact hx), by simp [hp]⟩
theorem st_op {op : Int} : (st op = 1 ↔ op = 1) ∧ (st op = 2 ↔ (2 ≤ op ∧ op ≤ 9)) ∧ (st op = 3 ↔ ((10 ≤ op ∧ op ≤ 25) ∨ op = 27)) ∧ (st op = 4 ↔ op = 26) := by
  unfold st
  refine ⟨?_, ?_, ?_, ?_⟩ <;> (repeat' split) <;> omega
theorem bulk_mem {ks : List Nd} {k : Nat} {t : Nd} (h : ks[k]? = some t) : t.bulk ≤ bulksN ks := by
  have h1 := bulks_take h
  have h2 := bulks_le (ks := ks) (k + 1)
  omega
/-- The cells of the kid k, in a later world. -/
theorem kid_at {w wr : World} {base : Nat} {ks : List Nd} {ao : Option Addr} (h : ks = [] ∨ ∃ b off, ao = some ⟨b, off, none⟩ ∧ base ≤ b ∧ NdsV w base b off ks) (hk : Kept w wr) {k : Nat} {x : Nd} (hx : ks[k]? = some x) :
    ∃ b off a2 c2, ao = some ⟨b, off, none⟩ ∧ wr.cell? ⟨b, off + k * 4, none⟩ = some (.int .i64 x.op) ∧ wr.cell? ⟨b, off + k * 4 + 1, none⟩ = some (.string x.s) ∧ wr.cell? ⟨b, off + k * 4 + 2, none⟩ = some (.int .i64 x.n) ∧ wr.cell? ⟨b, off + k * 4 + 3, none⟩ = some (.slice a2 x.kids.length c2) ∧ NdV wr base x (.agg #[.int .i64 x.op, .string x.s, .int .i64 x.n, .slice a2 x.kids.length c2]) := by
  obtain ⟨b, off, e, hbb, hn⟩ : ∃ b off, ao = some ⟨b, off, none⟩ ∧ base ≤ b ∧ NdsV w base b off ks := by
    rcases h with h | h
    · rw [h] at hx; simp at hx
    · exact h
  obtain ⟨d0, d1, d2, d3, g0, g1, g2, g3, hv⟩ := (NdsV.turn (Turn.kept hk) _ _ _ hbb hn).at hx
  cases x with
  | mk op s n kk =>
    have hv' := hv
    rw [NdV] at hv
    obtain ⟨a2, c2, e2, _⟩ := hv
    injection e2 with e2
    have e3 := congrArg Array.toList e2
    simp at e3
    obtain ⟨rfl, rfl, rfl, rfl⟩ := e3
    exact ⟨b, off, a2, c2, e, g0, g1, g2, g3, hv'⟩
end Go.Proofs.YtlinbkgeahgkjaaGreatDoor
