/-
  The contracts of chapter 7's models l7Sort and Reach.
-/
import Derived.Test.YtcjeihnhkickiaaRchA
import Derived.BigQuiet
namespace Go.Proofs.Ytcjeihnhkickiaa
open Go.RowKit
attribute [local go_sem] Plain.and7

/-- x ahead of all that is not less. -/
def insL (x : Int) (out : List Int) : List Int := out.takeWhile (fun y => decide (y < x)) ++ x :: out.dropWhile (fun y => decide (y < x))
def sortF (out l : List Int) : List Int := l.foldl (fun o x => insL x o) out
def sortL (l : List Int) : List Int := sortF [] l
theorem sortF_snoc (out l : List Int) (x : Int) : sortF out (l ++ [x]) = insL x (sortF out l) := by simp [sortF]
theorem insL_len (x : Int) (out : List Int) : (insL x out).length = out.length + 1 := by
  unfold insL
  have := congrArg List.length (List.takeWhile_append_dropWhile (p := fun y => decide (y < x)) (l := out))
  simp only [List.length_append, List.length_cons] at this ⊢
  omega
theorem mem_insL {x y : Int} {out : List Int} : y ∈ insL x out ↔ y = x ∨ y ∈ out := by
  have e := List.takeWhile_append_dropWhile (p := fun y => decide (y < x)) (l := out)
  unfold insL
  rw [List.mem_append, List.mem_cons]
  constructor
  · rintro (h | h | h)
    · right; rw [← e]; exact List.mem_append_left _ h
    · exact .inl h
    · right; rw [← e]; exact List.mem_append_right _ h
  · rintro (h | h)
    · exact .inr (.inl h)
    · rw [← e] at h
      rcases List.mem_append.1 h with h | h
      · exact .inl h
      · exact .inr (.inr h)
theorem insL_at {x : Int} {out : List Int} {k : Nat} (hk : k ≤ out.length) (h1 : ∀ j, j < k → hz out j < x) (h2 : k < out.length → x ≤ hz out k) : insL x out = out.take k ++ x :: out.drop k := by
  have e1 : out.takeWhile (fun y => decide (y < x)) = out.take k := by
    induction out generalizing k with
    | nil => simp
    | cons y out ih =>
      cases k with
      | zero =>
        have := h2 (by simp)
        have h3 : ¬ y < x := by have h4 : x ≤ y := by simpa [hz] using this
                                omega
        simp [h3]
      | succ k =>
        have h3 : y < x := by have := h1 0 (by omega); simpa [hz] using this
        rw [List.takeWhile_cons, if_pos (by simpa using h3), List.take_succ_cons, ih (by simpa using hk) (fun j hj => by have := h1 (j + 1) (by omega); simpa [hz] using this) (fun hlt => by have := h2 (by simpa using hlt); simpa [hz] using this)]
  have e2 : out.dropWhile (fun y => decide (y < x)) = out.drop k := by
    have h := List.takeWhile_append_dropWhile (p := fun y => decide (y < x)) (l := out)
    rw [e1] at h
    exact List.append_cancel_left (h.trans (List.take_append_drop k out).symm)
  unfold insL
  rw [e1, e2]
theorem sortF_len : ∀ (l out : List Int), (sortF out l).length = out.length + l.length
  | [], out => by simp [sortF]
  | x :: l, out => by
    have := sortF_len l (insL x out)
    rw [insL_len] at this
    show (sortF (insL x out) l).length = _
    rw [this, List.length_cons]
    omega
theorem mem_sortF {y : Int} : ∀ (l out : List Int), y ∈ sortF out l ↔ y ∈ out ∨ y ∈ l
  | [], out => by simp [sortF]
  | x :: l, out => by
    show y ∈ sortF (insL x out) l ↔ _
    rw [mem_sortF l, mem_insL, List.mem_cons]
    constructor
    · rintro ((h | h) | h)
      · exact .inr (.inl h)
      · exact .inl h
      · exact .inr (.inr h)
    · rintro (h | h | h)
      · exact .inl (.inr h)
      · exact .inl (.inl h)
      · exact .inr h
theorem insL_sorted {x : Int} {out : List Int} (h : out.Pairwise (· ≤ ·)) : (insL x out).Pairwise (· ≤ ·) := by
  induction out with
  | nil => simp [insL]
  | cons y out ih =>
    have h' := List.pairwise_cons.1 h
    by_cases hy : y < x
    · have e : insL x (y :: out) = y :: insL x out := by simp [insL, hy]
      rw [e]
      refine List.pairwise_cons.2 ⟨fun z hz' => ?_, ih h'.2⟩
      rcases mem_insL.1 hz' with rfl | hz'
      · omega
      · exact h'.1 z hz'
    · have e : insL x (y :: out) = x :: y :: out := by simp [insL, hy]
      rw [e]
      refine List.pairwise_cons.2 ⟨fun z hz' => ?_, h⟩
      rcases List.mem_cons.1 hz' with rfl | hz'
      · omega
      · have := h'.1 z hz'; omega
theorem sortF_sorted : ∀ (l : List Int) {out : List Int}, out.Pairwise (· ≤ ·) → (sortF out l).Pairwise (· ≤ ·)
  | [], _, h => h
  | _ :: l, _, h => sortF_sorted l (insL_sorted h)
theorem ints_news {W : World} {b o : Nat} {l : List Int} (hc : ∀ j, j < l.length → W.cell? ⟨b, o + j, none⟩ = some (.int .i64 (hz l j))) : ∀ (j : Nat) (u : Value), (l.map (Value.int .i64))[j]? = some u → W.cell? ((⟨b, o, none⟩ : Addr).add j) = some u := by
  intro j u hu
  rw [List.getElem?_map] at hu
  cases hj : l[j]? with
  | none => rw [hj] at hu; simp at hu
  | some z =>
    rw [hj] at hu
    have hlt := (List.getElem?_eq_some_iff.1 hj).1
    have e : hz l j = z := by unfold hz; rw [hj]; rfl
    have h1 := hc j hlt
    rw [e] at h1
    rw [show (⟨b, o, none⟩ : Addr).add j = ⟨b, o + j, none⟩ by unfold Addr.add; split <;> simp_all]
    simp at hu
    rw [← hu]
    exact h1
theorem drop_none {W : World} {ad : Addr} {a : Nat} {out : List Int} (h : out.length ≤ a) : ∀ (j : Nat) (u : Value), ((out.drop a).map (Value.int .i64))[j]? = some u → W.cell? (ad.add j) = some u := by
  intro j u hu
  rw [List.drop_eq_nil_of_le h] at hu
  simp at hu
theorem drop_news {W : World} {g a : Nat} {out : List Int} (hr : Row W g out) : ∀ (j : Nat) (u : Value), ((out.drop a).map (Value.int .i64))[j]? = some u → W.cell? ((⟨g, a, none⟩ : Addr).add j) = some u := ints_news (fun j hj => by
  rw [List.length_drop] at hj
  have := hr.cell (j := a + j) (by omega)
  rw [show hz (out.drop a) j = hz out (a + j) by unfold hz; rw [List.getElem?_drop]]
  simpa using this)
end Go.Proofs.Ytcjeihnhkickiaa
