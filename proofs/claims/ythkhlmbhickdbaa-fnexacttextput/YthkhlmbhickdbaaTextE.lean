/-
  The map of the texts that are there: giveOther, first.
-/
import Derived.Test.YthkhlmbhickdbaaTextA
import Derived.Maps.RangeWalk
import Derived.Maps.Views
namespace Go.Proofs.Ythkhlmbhickdbaa
open Go.RowKit Go.Maps

theorem lawI : Keyed Try.prog 3 := int_keyed Try.underlying3
/-- The map has just the places that p tells, each with what the word behind its head says. -/
structure MapIs (zs : List Int) (D : DataW Unit) (p : Nat → Bool) : Prop where
  only : ∀ kl, Maps.has D kl = true → ∃ k : Nat, kl = .int .i64 k
  has : ∀ k : Nat, Maps.has D (.int .i64 k) = p k
  val : ∀ k : Nat, p k = true → ∀ z, D.atKey (.int .i64 k) z = .lit (.int .i64 (hz zs (k + 1)))
theorem MapIs.congr {zs : List Int} {D : DataW Unit} {p q : Nat → Bool} (h : MapIs zs D p) (e : ∀ k, p k = q k) : MapIs zs D q := by
  obtain rfl : p = q := funext e
  exact h
theorem MapIs.empty (zs : List Int) : MapIs zs (.map []) (fun _ => false) := ⟨fun kl h => by simp [Maps.has] at h, fun k => by simp [Maps.has], fun k h => by cases h⟩
theorem key_ne {j k : Nat} (h : j ≠ k) : (Lit.int .i64 (j : Int)) ≠ .int .i64 (k : Int) := by
  intro e
  injection e with _ e
  omega
theorem same_key (j k : Nat) : (Lit.int .i64 (j : Int)).sameKey (.int .i64 (k : Int)) = decide (j = k) := by
  by_cases h : j = k
  · subst h; simp [Lit.sameKey]
  · rw [sameKey_ne (key_ne h)]; simp [h]
theorem MapIs.del {zs : List Int} {D : DataW Unit} {p : Nat → Bool} (h : MapIs zs D p) (k : Nat) : MapIs zs (D.del (.int .i64 k)) (fun j => p j && !decide (j = k)) where
  only kl hk := by
    by_cases e : kl = .int .i64 k
    · exact ⟨k, e⟩
    · rw [has_del_other e] at hk; exact h.only kl hk
  has j := by
    by_cases e : j = k
    · subst e; rw [has_del_same]; simp
    · rw [has_del_other (key_ne e), h.has]; simp [e]
  val j hj z := by
    simp at hj
    rw [atKey_del_other (key_ne hj.2)]
    exact h.val j hj.1 z
theorem MapIs.put {zs : List Int} {D : DataW Unit} {p : Nat → Bool} (h : MapIs zs D p) (hm : IsMap D) (k : Nat) : MapIs zs (D.put (.int .i64 k) (.lit (.int .i64 (hz zs (k + 1))))) (fun j => p j || decide (j = k)) where
  only kl hk := by
    by_cases e : kl = .int .i64 k
    · exact ⟨k, e⟩
    · rw [has_put_other e] at hk; exact h.only kl hk
  has j := by
    by_cases e : j = k
    · subst e; rw [has_put_same hm (k := .int .i64 (j : Int)) trivial]; simp
    · rw [has_put_other (key_ne e), h.has]; simp [e]
  val j hj z := by
    by_cases e : j = k
    · subst e; rw [atKey_put_same hm (k := .int .i64 (j : Int)) trivial]
    · rw [atKey_put_other (key_ne e)]
      exact h.val j (by simpa [e] using hj) z
/-- What a round meets. -/
theorem MapIs.met {zs : List Int} {D : DataW Unit} {p : Nat → Bool} (h : MapIs zs D p) {x c : Int} (hat : ∀ zd, D.atKey (.int .i64 x) zd = .lit (.int .i64 c)) : ∃ k : Nat, x = k ∧ p k = true ∧ c = hz zs (k + 1) := by
  have hh := has_true_of_atKey hat
  obtain ⟨k, e⟩ := h.only _ hh
  injection e with _ e
  subst e
  have hp : p k = true := by rw [← h.has]; exact hh
  refine ⟨k, rfl, hp, ?_⟩
  have := h.val k hp (.map [])
  rw [hat] at this
  injection this with this
  injection this
/-- A sieve: those that stay, and those still to come. -/
def sift (p c : Nat → Bool) (left : Lit → Bool) (k : Nat) : Bool := p k && (c k || left (.int .i64 k))
theorem sift_start {zs : List Int} {D : DataW Unit} {p : Nat → Bool} (h : MapIs zs D p) (c : Nat → Bool) : MapIs zs D (sift p c (Maps.has D)) := h.congr (fun k => by unfold sift; rw [h.has]; cases p k <;> simp)
theorem sift_stays {zs : List Int} {D : DataW Unit} {p c : Nat → Bool} {left : Lit → Bool} (h : MapIs zs D (sift p c left)) {k : Nat} (hc : c k = true) : MapIs zs D (sift p c (fun z => left z && !z.sameKey (.int .i64 k))) :=
  h.congr (fun j => by
    simp only [sift, same_key]
    by_cases e : j = k
    · subst e; simp [hc]
    · simp [e])
theorem sift_struck {zs : List Int} {D : DataW Unit} {p c : Nat → Bool} {left : Lit → Bool} (h : MapIs zs D (sift p c left)) {k : Nat} (hc : c k = false) : MapIs zs (D.del (.int .i64 k)) (sift p c (fun z => left z && !z.sameKey (.int .i64 k))) :=
  (h.del k).congr (fun j => by
    simp only [sift, same_key]
    by_cases e : j = k
    · subst e; simp [hc]
    · simp [e])
theorem sift_end {zs : List Int} {D : DataW Unit} {p c : Nat → Bool} {left : Lit → Bool} (h : MapIs zs D (sift p c left)) (hl : ∀ kl, left kl = false) : MapIs zs D (fun k => p k && c k) :=
  h.congr (fun j => by unfold sift; rw [hl]; simp)
/-- Block b is a map of the texts that p tells. -/
def TextMap (w : World) (b n : Nat) (zs : List Int) (p : Nat → Bool) : Prop := ∃ D : DataW Unit, w.ownsMap Try.prog 3 (plainElem Try.prog 3) b n D ∧ MapIs zs D p

set_option maxHeartbeats 4000000 in
set_option maxRecDepth 100000 in
theorem giveOther_ok (w : World) (b n : Nat) (zs : List Int) (p : Nat → Bool) (m : Nat) (hT : TextMap w b n zs p) :
    Calls Try.prog 59 #[.map (some b), .int .i64 m] w fun e w' => e = .returned (.tuple #[]) ∧ TextMap w' b n zs (fun k => p k && decide (hz zs (k + 1) = m)) ∧ w.grownBy w' (some b) := by
  obtain ⟨D0, hown, hM⟩ := hT
  go_enter Try.func59, Try.ntmps59
  go_wp2_with (first
    | (at_range; refine wpList_range_own _ rfl _ 74 rfl 3 3 lawI Try.underlying74 _ b n _ rfl hown ?_; intro w0 hrg0 hg0 hs0)
    | go_in)
  go_frame
  go_loopw [4] (fun _ wr => ∃ (left : Lit → Bool) (cnt : Nat) (D : DataW Unit), wr.ranges Try.prog 3 (plainElem Try.prog 3) b w.heap.size n D left cnt ∧ MapIs zs D (sift p (fun k => decide (hz zs (k + 1) = m)) left) ∧ w.grownBy wr (some b))
    (fun _ wr => wr.rangeLeft b w.heap.size)
  case atStart => exact ⟨_, _, _, hrg0, sift_start hM _, hg0.but _⟩
  case round =>
    obtain ⟨left, cnt, D, hrg, hMD, hgw⟩ := hrel
    go_wp2_with (first
      | (at_next; refine wpList_next_ranges_ii _ rfl _ rfl 3 3 .i64 .i64 lawI Try.underlying3 Try.underlying3 b w.heap.size n _ _ _ rfl hrg ?_ ?_)
      | go_in)
    · intro _ hl0
      go_wp2
      go_end0
      exact ⟨rfl, ⟨_, hrg.owns, sift_end hMD hl0⟩, hgw⟩
    · intro x c w1 cnt1 hwx hwc hlx hat hrg1 hlt hg1 hs1 hen
      have hgw1 := hgw.andThen hg1 (fun j hj => by cases hj; exact Or.inl (Nat.le_refl _))
      have HM : Hid (∃ k : Nat, x = k ∧ sift p (fun k => decide (hz zs (k + 1) = m)) left k = true ∧ c = hz zs (k + 1)) := hMD.met hat
      clear hat
      go_wp2_with (first
        | (at_delete; refine wpList_delete_ranges _ rfl _ _ 74 3 rfl 3 lawI Try.underlying74 _ b w.heap.size n _ _ _ rfl hrg1 _ _ rfl (keyOf_int_mk Try.underlying3 hwx) ?_; intro w2 cnt2 hrg2 hle hturn; go_frame)
        | go_in)
      · have hc0 : c ≠ m := by simpa using (by assumption : (c != (m : Int)) = true)
        rw [strike_twice] at hrg2
        go_roundw
        case rel =>
          obtain ⟨k, rfl, hp, rfl⟩ := HM.out
          exact ⟨_, cnt2, _, hrg2, sift_struck hMD (by simpa using hc0), hgw1.andThen hturn.grown (fun j hj => by cases hj; exact Or.inr rfl)⟩
        case measure => rw [hrg2.left_eq, hrg.left_eq]; omega
      · have hc0 : c = m := by simpa using (by assumption : (c != (m : Int)) = false)
        go_roundw
        case rel =>
          obtain ⟨k, rfl, hp, rfl⟩ := HM.out
          exact ⟨_, cnt1, _, hrg1, sift_stays hMD (by simpa using hc0), hgw1⟩
        case measure => rw [hrg1.left_eq, hrg.left_eq]; exact hlt
/-- What first hands back: the least of them. -/
def Least (p : Nat → Bool) (left : Nat → Bool) (l : Int) (f : Bool) : Prop := (f = false ∧ l = 0 ∧ ∀ k, p k = true → left k = true) ∨ (f = true ∧ ∃ m : Nat, l = m ∧ p m = true ∧ ∀ k, p k = true → left k = false → m ≤ k)
theorem Least.start {zs : List Int} {D : DataW Unit} {p : Nat → Bool} (h : MapIs zs D p) : Least p (fun k => Maps.has D (.int .i64 k)) 0 false := .inl ⟨rfl, rfl, fun k hk => by show Maps.has D (.int .i64 k) = true; rw [h.has]; exact hk⟩
theorem Least.takes {p : Nat → Bool} {left : Lit → Bool} {l : Int} {f : Bool} (h : Least p (fun k => left (.int .i64 k)) l f) {k : Nat} (hk : p k = true) (ht : f = false ∨ (k : Int) < l) : Least p (fun j => left (.int .i64 j) && !(Lit.int .i64 (j : Int)).sameKey (.int .i64 k)) k true := by
  refine .inr ⟨rfl, k, rfl, hk, fun j hj hl => ?_⟩
  simp only [same_key] at hl
  by_cases e : j = k
  · omega
  · simp [e] at hl
    rcases h with ⟨h1, h2, h3⟩ | ⟨h1, m, rfl, h3, h4⟩
    · have := h3 j hj; simp only at this; rw [this] at hl; cases hl
    · have := h4 j hj hl
      rcases ht with ht | ht
      · rw [h1] at ht; cases ht
      · omega
theorem Least.stays {p : Nat → Bool} {left : Lit → Bool} {l : Int} {f : Bool} (h : Least p (fun k => left (.int .i64 k)) l f) {k : Nat} (hf : f = true) (ht : ¬ (k : Int) < l) : Least p (fun j => left (.int .i64 j) && !(Lit.int .i64 (j : Int)).sameKey (.int .i64 k)) l f := by
  rcases h with ⟨h1, h2, h3⟩ | ⟨h1, m, rfl, h3, h4⟩
  · rw [h1] at hf; cases hf
  · refine .inr ⟨h1, m, rfl, h3, fun j hj hl => ?_⟩
    simp only [same_key] at hl
    by_cases e : j = k
    · omega
    · simp [e] at hl
      exact h4 j hj hl
theorem Least.ends {p : Nat → Bool} {left : Nat → Bool} {l : Int} {f : Bool} (h : Least p left l f) (hl : ∀ k, left k = false) : Least p (fun _ => false) l f := by
  obtain rfl : left = fun _ => false := funext hl
  exact h
set_option maxHeartbeats 4000000 in
set_option maxRecDepth 100000 in
theorem first_ok (w : World) (b n : Nat) (zs : List Int) (p : Nat → Bool) (hT : TextMap w b n zs p) :
    Calls Try.prog 62 #[.map (some b)] w fun e w' => ∃ l f, e = .returned (.tuple #[.int .i64 l, .bool f]) ∧ Least p (fun _ => false) l f ∧ Kept w w' := by
  obtain ⟨D, hown, hM⟩ := hT
  go_enter Try.func62, Try.ntmps62
  go_wp2_with (first
    | (at_range; refine wpList_range_own _ rfl _ 74 rfl 3 3 lawI Try.underlying74 _ b n _ rfl hown ?_; intro w0 hrg0 hg0 hs0)
    | go_in)
  go_frame
  go_loopw [4, 5] (fun l f wr => ∃ (left : Lit → Bool) (cnt : Nat) (li : Int) (fb : Bool), l = .int .i64 li ∧ f = .bool fb ∧ wr.ranges Try.prog 3 (plainElem Try.prog 3) b w.heap.size n D left cnt ∧ Least p (fun k => left (.int .i64 k)) li fb ∧ Kept w wr)
    (fun _ _ wr => wr.rangeLeft b w.heap.size)
  case atStart => exact ⟨_, _, 0, false, rfl, rfl, hrg0, Least.start hM, (Below.refl _ _).grown hg0 (Nat.le_refl _) (by simp)⟩
  case round =>
    obtain ⟨left, cnt, li, fb, rfl, rfl, hrg, hL, hK⟩ := hrel
    go_wp2_with (first
      | (at_next; refine wpList_next_ranges_ii _ rfl _ rfl 3 3 .i64 .i64 lawI Try.underlying3 Try.underlying3 b w.heap.size n _ _ _ rfl hrg ?_ ?_)
      | go_in)
    · intro _ hl0
      go_wp2
      go_ret2
      exact ⟨li, fb, rfl, hL.ends (fun k => hl0 _), hK⟩
    · intro x c w1 cnt1 hwx hwc hlx hat hrg1 hlt hg1 hs1 hen
      have HK : Hid (Kept w w1) := hK.grownRow hg1 (fun j hj => by cases hj; exact Nat.le_refl _)
      obtain ⟨k, rfl, hp, rfl⟩ := hM.met hat
      have HP : Hid (p k = true) := hp
      clear hat hK hp
      cases fb with
      | false =>
        go_wp2
        go_roundw
        case rel => exact ⟨_, cnt1, _, _, rfl, rfl, hrg1, hL.takes HP.out (.inl rfl), HK.out⟩
        case measure => rw [hrg1.left_eq, hrg.left_eq]; exact hlt
      | true =>
        by_cases hkl : (k : Int) < li
        · go_wp2
          go_roundw
          case rel => exact ⟨_, cnt1, _, _, rfl, rfl, hrg1, hL.takes HP.out (.inr hkl), HK.out⟩
          case measure => rw [hrg1.left_eq, hrg.left_eq]; exact hlt
        · go_wp2
          go_roundw
          case rel => exact ⟨_, cnt1, _, _, rfl, rfl, hrg1, hL.stays rfl hkl, HK.out⟩
          case measure => rw [hrg1.left_eq, hrg.left_eq]; exact hlt
end Go.Proofs.Ythkhlmbhickdbaa
