/-
  The text of a tree (chapter 13), node by node.
  How long the text of a right tree is at most.
-/
import Derived.Test.YtejpjbfmjmfnmaaGreatDoorOkP
import Derived.Test.YtejpjbfmjmfnmaaGreatDoorDigA
namespace Go.Proofs.YtejpjbfmjmfnmaaGreatDoor
open Go.RowKit

/-- Texts with a comma and a blank between. -/
def commaT : List ByteArray → ByteArray
  | [] => ⟨#[]⟩
  | [x] => x
  | x :: y :: r => x ++ (⟨#[44, 32]⟩ ++ commaT (y :: r))
/-- Texts with a byte 10 behind each. -/
def linesT : List ByteArray → ByteArray
  | [] => ⟨#[]⟩
  | x :: r => (x ++ ⟨#[10]⟩) ++ linesT r
/-- Names with a comma ahead of each blank. -/
def commas (s : List UInt8) : List UInt8 := s.flatMap (fun b => if b = 32 then [44, 32] else [b])
def namesT (s : ByteArray) : ByteArray := ⟨(commas s.data.toList).toArray⟩
def signT13 (op : Int) : ByteArray := if op = 19 then ⟨#[43]⟩ else if op = 20 then ⟨#[45]⟩ else if op = 21 then ⟨#[42]⟩ else if op = 22 then ⟨#[60]⟩ else ⟨#[61, 61]⟩
/-- The text of a node, of its kids' texts. -/
def wOp (op : Int) (s : ByteArray) (n : Int) (xs : List ByteArray) : ByteArray :=
  let x := xs.getD 0 ⟨#[]⟩
  let y := xs.getD 1 ⟨#[]⟩
  if op = 1 then (⟨#[123, 10]⟩ ++ linesT xs) ++ ⟨#[125]⟩
  else if op = 2 then (((⟨#[108, 101, 116, 32]⟩ ++ s) ++ ⟨#[32, 61, 32]⟩) ++ x) ++ ⟨#[59]⟩
  else if op = 3 then ((s ++ ⟨#[32, 61, 32]⟩) ++ x) ++ ⟨#[59]⟩
  else if op = 4 then (((((⟨#[40]⟩ ++ x) ++ ⟨#[41, 46]⟩) ++ s) ++ ⟨#[32, 61, 32]⟩) ++ y) ++ ⟨#[59]⟩
  else if op = 5 then (if xs.length = 3 then ((((⟨#[105, 102, 32, 40]⟩ ++ x) ++ ⟨#[41, 32]⟩) ++ y) ++ ⟨#[32, 101, 108, 115, 101, 32]⟩) ++ xs.getD 2 ⟨#[]⟩ else ((⟨#[105, 102, 32, 40]⟩ ++ x) ++ ⟨#[41, 32]⟩) ++ y)
  else if op = 6 then ((⟨#[119, 104, 105, 108, 101, 32, 40]⟩ ++ x) ++ ⟨#[41, 32]⟩) ++ y
  else if op = 7 then (⟨#[114, 101, 116, 117, 114, 110, 32]⟩ ++ x) ++ ⟨#[59]⟩
  else if op = 8 then (⟨#[112, 114, 105, 110, 116, 32]⟩ ++ x) ++ ⟨#[59]⟩
  else if op = 9 then x ++ ⟨#[59]⟩
  else if op = 10 then (if n < 0 then (⟨#[40]⟩ ++ strOfNums (digI n)) ++ ⟨#[41]⟩ else strOfNums (digI n))
  else if op = 11 then (⟨#[34]⟩ ++ s) ++ ⟨#[34]⟩
  else if op = 12 then ⟨#[116, 114, 117, 101]⟩
  else if op = 13 then ⟨#[102, 97, 108, 115, 101]⟩
  else if op = 14 then ⟨#[110, 117, 108, 108]⟩
  else if op = 15 then ⟨#[117, 110, 100, 101, 102, 105, 110, 101, 100]⟩
  else if op = 16 then s
  else if op = 17 then ((⟨#[40]⟩ ++ x) ++ ⟨#[41, 46]⟩) ++ s
  else if op = 18 then (((⟨#[40]⟩ ++ x) ++ ⟨#[41, 40]⟩) ++ commaT (xs.drop 1)) ++ ⟨#[41]⟩
  else if op = 24 then (⟨#[33, 40]⟩ ++ x) ++ ⟨#[41]⟩
  else if op = 25 then (⟨#[123]⟩ ++ commaT xs) ++ ⟨#[125]⟩
  else if op = 26 then (s ++ ⟨#[58, 32]⟩) ++ x
  else if op = 27 then ((⟨#[102, 117, 110, 99, 116, 105, 111, 110, 40]⟩ ++ namesT s) ++ ⟨#[41, 32]⟩) ++ x
  else ((((((⟨#[40]⟩ ++ x) ++ ⟨#[32]⟩) ++ signT13 op) ++ ⟨#[32]⟩) ++ y)) ++ ⟨#[41]⟩
mutual
def wT : Nd → ByteArray
  | .mk op s n ks => wOp op s n (wTs ks)
def wTs : List Nd → List ByteArray
  | [] => []
  | k :: ks => wT k :: wTs ks
end
theorem wTs_map : ∀ ks : List Nd, wTs ks = ks.map wT
  | [] => rfl
  | k :: ks => by rw [wTs, wTs_map ks]; rfl
/-- What Write answers. -/
def writeR (t : Nd) : ByteArray := if nodeR t = true then linesT (t.kids.map wT) else ⟨#[]⟩
def sumT : List ByteArray → Nat
  | [] => 0
  | x :: r => x.size + sumT r
theorem get_sum (xs : List ByteArray) (i : Nat) : (xs.getD i ⟨#[]⟩).size ≤ sumT xs := by
  induction xs generalizing i with
  | nil => exact Nat.le_refl 0
  | cons x r ih =>
    cases i with
    | zero => show x.size ≤ x.size + sumT r; omega
    | succ i => have := ih i; simp only [List.getD_cons_succ, sumT]; omega
theorem two_sum (xs : List ByteArray) : (xs.getD 0 ⟨#[]⟩).size + (xs.getD 1 ⟨#[]⟩).size ≤ sumT xs := by
  match xs with
  | [] => exact Nat.le_refl 0
  | [x] => exact Nat.le_refl (x.size + 0)
  | x :: y :: r => show x.size + y.size ≤ x.size + (y.size + sumT r); omega
theorem three_sum (xs : List ByteArray) : (xs.getD 0 ⟨#[]⟩).size + (xs.getD 1 ⟨#[]⟩).size + (xs.getD 2 ⟨#[]⟩).size ≤ sumT xs := by
  match xs with
  | [] => exact Nat.le_refl 0
  | [x] => exact Nat.le_refl (x.size + 0 + 0)
  | [x, y] => show x.size + y.size + 0 ≤ x.size + (y.size + 0); omega
  | x :: y :: z :: r => show x.size + y.size + z.size ≤ x.size + (y.size + (z.size + sumT r)); omega
theorem lines_size (xs : List ByteArray) : (linesT xs).size = sumT xs + xs.length := by
  induction xs with
  | nil => rfl
  | cons x r ih => simp only [linesT, ByteArray.size_append, sumT, List.length_cons, ih]; show x.size + 1 + _ = _; omega
theorem comma_size : ∀ xs : List ByteArray, (commaT xs).size ≤ sumT xs + 2 * xs.length
  | [] => Nat.le_refl 0
  | [x] => by show x.size ≤ x.size + 0 + 2 * 1; omega
  | x :: y :: r => by
    have ih := comma_size (y :: r)
    simp only [commaT, ByteArray.size_append, sumT, List.length_cons] at ih ⊢
    have : (⟨#[44, 32]⟩ : ByteArray).size = 2 := rfl
    omega
theorem drop_sum (xs : List ByteArray) : (xs.getD 0 ⟨#[]⟩).size + sumT (xs.drop 1) ≤ sumT xs := by
  cases xs with
  | nil => exact Nat.le_refl 0
  | cons x r => exact Nat.le_refl (x.size + sumT r)
theorem names_size (s : ByteArray) : (namesT s).size ≤ 2 * s.size := by
  have h : ∀ l : List UInt8, (commas l).length ≤ 2 * l.length := by
    intro l
    induction l with
    | nil => simp [commas]
    | cons b l ih =>
      have e : commas (b :: l) = (if b = 32 then [44, 32] else [b]) ++ commas l := by simp [commas]
      rw [e, List.length_append, List.length_cons]
      split <;> simp <;> omega
  have h1 := h s.data.toList
  rw [Array.length_toList] at h1
  show (commas s.data.toList).toArray.size ≤ 2 * s.data.size
  simpa using h1
end Go.Proofs.YtejpjbfmjmfnmaaGreatDoor
namespace Go.Proofs.YtejpjbfmjmfnmaaGreatDoor
open Go.RowKit

theorem sign_size (op : Int) : (signT13 op).size ≤ 2 := by
  unfold signT13
  (repeat' split) <;> decide
set_option maxHeartbeats 2000000 in
theorem wOp_size (op n : Int) (s : ByteArray) (xs : List ByteArray) (hn : op = 10 → -2147483647 ≤ n ∧ n ≤ 2147483647) : (wOp op s n xs).size ≤ sumT xs + 2 * xs.length + 2 * s.size + 30 := by
  have h1 := get_sum xs 0
  have h2 := two_sum xs
  have h3 := three_sum xs
  have h4 := lines_size xs
  have h5 := comma_size xs
  have h6 := comma_size (xs.drop 1)
  have h7 := drop_sum xs
  have h8 := names_size s
  have h9 := sign_size op
  have h10 : (xs.drop 1).length ≤ xs.length := by rw [List.length_drop]; omega
  have l0 : (⟨#[123, 10]⟩ : ByteArray).size = 2 := rfl
  have l1 : (⟨#[125]⟩ : ByteArray).size = 1 := rfl
  have l2 : (⟨#[108, 101, 116, 32]⟩ : ByteArray).size = 4 := rfl
  have l3 : (⟨#[32, 61, 32]⟩ : ByteArray).size = 3 := rfl
  have l4 : (⟨#[59]⟩ : ByteArray).size = 1 := rfl
  have l5 : (⟨#[40]⟩ : ByteArray).size = 1 := rfl
  have l6 : (⟨#[41, 46]⟩ : ByteArray).size = 2 := rfl
  have l7 : (⟨#[105, 102, 32, 40]⟩ : ByteArray).size = 4 := rfl
  have l8 : (⟨#[41, 32]⟩ : ByteArray).size = 2 := rfl
  have l9 : (⟨#[32, 101, 108, 115, 101, 32]⟩ : ByteArray).size = 6 := rfl
  have l10 : (⟨#[119, 104, 105, 108, 101, 32, 40]⟩ : ByteArray).size = 7 := rfl
  have l11 : (⟨#[114, 101, 116, 117, 114, 110, 32]⟩ : ByteArray).size = 7 := rfl
  have l12 : (⟨#[112, 114, 105, 110, 116, 32]⟩ : ByteArray).size = 6 := rfl
  have l13 : (⟨#[41]⟩ : ByteArray).size = 1 := rfl
  have l14 : (⟨#[34]⟩ : ByteArray).size = 1 := rfl
  have l15 : (⟨#[116, 114, 117, 101]⟩ : ByteArray).size = 4 := rfl
  have l16 : (⟨#[102, 97, 108, 115, 101]⟩ : ByteArray).size = 5 := rfl
  have l17 : (⟨#[110, 117, 108, 108]⟩ : ByteArray).size = 4 := rfl
  have l18 : (⟨#[117, 110, 100, 101, 102, 105, 110, 101, 100]⟩ : ByteArray).size = 9 := rfl
  have l19 : (⟨#[41, 40]⟩ : ByteArray).size = 2 := rfl
  have l20 : (⟨#[33, 40]⟩ : ByteArray).size = 2 := rfl
  have l21 : (⟨#[123]⟩ : ByteArray).size = 1 := rfl
  have l22 : (⟨#[58, 32]⟩ : ByteArray).size = 2 := rfl
  have l23 : (⟨#[102, 117, 110, 99, 116, 105, 111, 110, 40]⟩ : ByteArray).size = 9 := rfl
  have l24 : (⟨#[32]⟩ : ByteArray).size = 1 := rfl
  have l25 : (⟨#[43]⟩ : ByteArray).size = 1 := rfl
  have l26 : (⟨#[45]⟩ : ByteArray).size = 1 := rfl
  have l27 : (⟨#[42]⟩ : ByteArray).size = 1 := rfl
  have l28 : (⟨#[60]⟩ : ByteArray).size = 1 := rfl
  have l29 : (⟨#[61, 61]⟩ : ByteArray).size = 2 := rfl
  have l30 : (⟨#[44, 32]⟩ : ByteArray).size = 2 := rfl
  have l31 : (⟨#[10]⟩ : ByteArray).size = 1 := rfl
  unfold wOp
  simp only
  by_cases h : op = 10
  · have hd := digI_len (n := n) (by have := hn h; omega)
    have hz : (strOfNums (digI n)).size = (digI n).length := strOfNums_size _
    subst h
    simp only [show ((10 : Int) = 1) = False by decide, show ((10 : Int) = 2) = False by decide, show ((10 : Int) = 3) = False by decide, show ((10 : Int) = 4) = False by decide, show ((10 : Int) = 5) = False by decide, show ((10 : Int) = 6) = False by decide, show ((10 : Int) = 7) = False by decide, show ((10 : Int) = 8) = False by decide, show ((10 : Int) = 9) = False by decide, if_false, if_true]
    split <;> (try simp only [ByteArray.size_append]) <;> omega
  · rw [if_neg h]
    simp only [apply_ite ByteArray.size, ByteArray.size_append]
    by_cases c1 : op = 1
    · rw [if_pos c1]; omega
    rw [if_neg c1]
    by_cases c2 : op = 2
    · rw [if_pos c2]; omega
    rw [if_neg c2]
    by_cases c3 : op = 3
    · rw [if_pos c3]; omega
    rw [if_neg c3]
    by_cases c4 : op = 4
    · rw [if_pos c4]; omega
    rw [if_neg c4]
    by_cases c5 : op = 5
    · rw [if_pos c5]
      by_cases c6 : xs.length = 3
      · rw [if_pos c6]; omega
      · rw [if_neg c6]; omega
    rw [if_neg c5]
    by_cases c6 : op = 6
    · rw [if_pos c6]; omega
    rw [if_neg c6]
    by_cases c7 : op = 7
    · rw [if_pos c7]; omega
    rw [if_neg c7]
    by_cases c8 : op = 8
    · rw [if_pos c8]; omega
    rw [if_neg c8]
    by_cases c9 : op = 9
    · rw [if_pos c9]; omega
    rw [if_neg c9]
    by_cases c11 : op = 11
    · rw [if_pos c11]; omega
    rw [if_neg c11]
    by_cases c12 : op = 12
    · rw [if_pos c12]; omega
    rw [if_neg c12]
    by_cases c13 : op = 13
    · rw [if_pos c13]; omega
    rw [if_neg c13]
    by_cases c14 : op = 14
    · rw [if_pos c14]; omega
    rw [if_neg c14]
    by_cases c15 : op = 15
    · rw [if_pos c15]; omega
    rw [if_neg c15]
    by_cases c16 : op = 16
    · rw [if_pos c16]; omega
    rw [if_neg c16]
    by_cases c17 : op = 17
    · rw [if_pos c17]; omega
    rw [if_neg c17]
    by_cases c18 : op = 18
    · rw [if_pos c18]; omega
    rw [if_neg c18]
    by_cases c24 : op = 24
    · rw [if_pos c24]; omega
    rw [if_neg c24]
    by_cases c25 : op = 25
    · rw [if_pos c25]; omega
    rw [if_neg c25]
    by_cases c26 : op = 26
    · rw [if_pos c26]; omega
    rw [if_neg c26]
    by_cases c27 : op = 27
    · rw [if_pos c27]; omega
    rw [if_neg c27]
    omega
theorem okK_all {op : Int} : ∀ (ks : List Nd) (i : Nat), okK op i ks = true → ∀ k ∈ ks, okT k = true
  | [], _, _, k, h => by simp at h
  | x :: ks, i, h, k, hk => by
    rw [okK, Bool.and_eq_true, Bool.and_eq_true] at h
    rcases List.mem_cons.1 hk with rfl | hk
    · exact h.1.2
    · exact okK_all ks (i + 1) h.2 k hk
theorem okT_parts {op n : Int} {s : ByteArray} {ks : List Nd} (h : okT (.mk op s n ks) = true) : ownB op s n = true ∧ countB op ks.length = true ∧ okK op 0 ks = true := by
  rw [okT, Bool.and_eq_true, Bool.and_eq_true] at h
  exact h
theorem own_num {op n : Int} {s : ByteArray} (h : ownB op s n = true) : op = 10 → -2147483647 ≤ n ∧ n ≤ 2147483647 := by
  rintro rfl
  unfold ownB at h
  rw [if_pos rfl, Bool.and_eq_true, decide_eq_true_eq] at h
  exact h.2
mutual
theorem wT_size : ∀ t : Nd, okT t = true → (wT t).size ≤ 32 * t.size + 2 * t.bulk
  | .mk op s n ks, h => by
    obtain ⟨h1, _, h3⟩ := okT_parts h
    have h4 := wOp_size op n s (wTs ks) (own_num h1)
    have h5 := wTs_size ks (okK_all ks 0 h3)
    have h6 : (wTs ks).length = ks.length := by rw [wTs_map, List.length_map]
    rw [wT]
    simp only [Nd.size, Nd.bulk]
    omega
theorem wTs_size : ∀ ks : List Nd, (∀ k ∈ ks, okT k = true) → sumT (wTs ks) ≤ 32 * sizesN ks + 2 * bulksN ks
  | [], _ => by simp [wTs, sumT]
  | k :: ks, h => by
    have h1 := wT_size k (h k (List.mem_cons_self ..))
    have h2 := wTs_size ks (fun x hx => h x (List.mem_cons_of_mem _ hx))
    simp only [wTs, sumT, sizesN, bulksN]
    omega
end
end Go.Proofs.YtejpjbfmjmfnmaaGreatDoor
