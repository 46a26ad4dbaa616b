/-
  The map of the texts that are there: giveOther, first.
  giveUnlike.
  Whether a block is a text that is right (chapter 3, the code from 54ec384 on): blockOk with no layout, textOk.
  textsOf.
-/
import Derived.Maps.RangeWalk
import Derived.Maps.Views
import Derived.Test.YtpbafjcoomfooaaGreatZTextA
import Derived.Test.YtpbafjcoomfooaaGreatZTextF
import Derived.Test.YtpbafjcoomfooaaGreatShapeE
import Derived.Test.YtpbafjcoomfooaaGreatSlabV
import Derived.Test.YtpbafjcoomfooaaGreatSeqIn
namespace Go.Proofs.YtpbafjcoomfooaaGreat
open Go.RowKit Go.Maps

theorem lawI : Keyed Tryz.prog 3 := int_keyed Tryz.underlying3
/-- The map has just the places that p tells, each with what the word behind its head says. -/
structure MapIs (zs : List Int) (D : DataW Unit) (p : Nat → Bool) : Prop where
  only : ∀ kl, Maps.has D kl = true → ∃ k : Nat, kl = .int .i64 k
  has : ∀ k : Nat, Maps.has D (.int .i64 k) = p k
  val : ∀ k : Nat, p k = true → ∀ z, D.atKey (.int .i64 k) z = .lit (.int .i64 (hz zs (k + 1)))
theorem MapIs.congr {zs : List Int} {D : DataW Unit} {p q : Nat → Bool} (h : MapIs zs D p) (e : ∀ k, p k = q k) : MapIs zs D q := by
  obtain rfl : p = q := funext e
  exact h
theorem MapIs.empty (zs : List Int) : MapIs zs (.map []) (fun _ => false) := ⟨fun kl h => by simp [Maps.has] at h, fun k => by simp [Maps.has], fun k h => by cases h⟩
theorem key_ne {j k : Nat} (h : j ≠ k) : (Lit.int .i64 (j : Int)) ≠ .int .i64 (k : Int) := by
  intro e
  injection e with _ e
  omega
theorem same_key (j k : Nat) : (Lit.int .i64 (j : Int)).sameKey (.int .i64 (k : Int)) = decide (j = k) := by
  by_cases h : j = k
  · subst h; simp [Lit.sameKey]
  · rw [sameKey_ne (key_ne h)]; simp [h]
theorem MapIs.del {zs : List Int} {D : DataW Unit} {p : Nat → Bool} (h : MapIs zs D p) (k : Nat) : MapIs zs (D.del (.int .i64 k)) (fun j => p j && !decide (j = k)) where
  only kl hk := by
    by_cases e : kl = .int .i64 k
    · exact ⟨k, e⟩
    · rw [has_del_other e] at hk; exact h.only kl hk
  has j := by
    by_cases e : j = k
    · subst e; rw [has_del_same]; simp
    · rw [has_del_other (key_ne e), h.has]; simp [e]
  val j hj z := by
    simp at hj
    rw [atKey_del_other (key_ne hj.2)]
    exact h.val j hj.1 z
theorem MapIs.put {zs : List Int} {D : DataW Unit} {p : Nat → Bool} (h : MapIs zs D p) (hm : IsMap D) (k : Nat) : MapIs zs (D.put (.int .i64 k) (.lit (.int .i64 (hz zs (k + 1))))) (fun j => p j || decide (j = k)) where
  only kl hk := by
    by_cases e : kl = .int .i64 k
    · exact ⟨k, e⟩
    · rw [has_put_other e] at hk; exact h.only kl hk
  has j := by
    by_cases e : j = k
    · subst e; rw [has_put_same hm (k := .int .i64 (j : Int)) trivial]; simp
    · rw [has_put_other (key_ne e), h.has]; simp [e]
  val j hj z := by
    by_cases e : j = k
    · subst e; rw [atKey_put_same hm (k := .int .i64 (j : Int)) trivial]
    · rw [atKey_put_other (key_ne e)]
      exact h.val j (by simpa [e] using hj) z
/-- What a round meets. -/
theorem MapIs.met {zs : List Int} {D : DataW Unit} {p : Nat → Bool} (h : MapIs zs D p) {x c : Int} (hat : ∀ zd, D.atKey (.int .i64 x) zd = .lit (.int .i64 c)) : ∃ k : Nat, x = k ∧ p k = true ∧ c = hz zs (k + 1) := by
  have hh := has_true_of_atKey hat
  obtain ⟨k, e⟩ := h.only _ hh
  injection e with _ e
  subst e
  have hp : p k = true := by rw [← h.has]; exact hh
  refine ⟨k, rfl, hp, ?_⟩
  have := h.val k hp (.map [])
  rw [hat] at this
  injection this with this
  injection this
/-- A sieve: those that stay, and those still to come. -/
def sift (p c : Nat → Bool) (left : Lit → Bool) (k : Nat) : Bool := p k && (c k || left (.int .i64 k))
theorem sift_start {zs : List Int} {D : DataW Unit} {p : Nat → Bool} (h : MapIs zs D p) (c : Nat → Bool) : MapIs zs D (sift p c (Maps.has D)) := h.congr (fun k => by unfold sift; rw [h.has]; cases p k <;> simp)
theorem sift_stays {zs : List Int} {D : DataW Unit} {p c : Nat → Bool} {left : Lit → Bool} (h : MapIs zs D (sift p c left)) {k : Nat} (hc : c k = true) : MapIs zs D (sift p c (fun z => left z && !z.sameKey (.int .i64 k))) :=
  h.congr (fun j => by
    simp only [sift, same_key]
    by_cases e : j = k
    · subst e; simp [hc]
    · simp [e])
theorem sift_struck {zs : List Int} {D : DataW Unit} {p c : Nat → Bool} {left : Lit → Bool} (h : MapIs zs D (sift p c left)) {k : Nat} (hc : c k = false) : MapIs zs (D.del (.int .i64 k)) (sift p c (fun z => left z && !z.sameKey (.int .i64 k))) :=
  (h.del k).congr (fun j => by
    simp only [sift, same_key]
    by_cases e : j = k
    · subst e; simp [hc]
    · simp [e])
theorem sift_end {zs : List Int} {D : DataW Unit} {p c : Nat → Bool} {left : Lit → Bool} (h : MapIs zs D (sift p c left)) (hl : ∀ kl, left kl = false) : MapIs zs D (fun k => p k && c k) :=
  h.congr (fun j => by unfold sift; rw [hl]; simp)
/-- Block b is a map of the texts that p tells. -/
def TextMap (w : World) (b n : Nat) (zs : List Int) (p : Nat → Bool) : Prop := ∃ D : DataW Unit, w.ownsMap Tryz.prog 3 (plainElem Tryz.prog 3) b n D ∧ MapIs zs D p

set_option maxHeartbeats 4000000 in
set_option maxRecDepth 100000 in
theorem giveOther_ok (w : World) (b n : Nat) (zs : List Int) (p : Nat → Bool) (m : Nat) (hT : TextMap w b n zs p) :
    Calls Tryz.prog 75 #[.map (some b), .int .i64 m] w fun e w' => e = .returned (.tuple #[]) ∧ TextMap w' b n zs (fun k => p k && decide (hz zs (k + 1) = m)) ∧ w.grownBy w' (some b) := by
  obtain ⟨D0, hown, hM⟩ := hT
  go_enter Tryz.func75, Tryz.ntmps75
  go_wp2_with (first
    | (at_range; refine wpList_range_own _ rfl _ 89 rfl 3 3 lawI Tryz.underlying89 _ b n _ rfl hown ?_; intro w0 hrg0 hg0 hs0)
    | go_in)
  go_frame
  go_loopw [4] (fun _ wr => ∃ (left : Lit → Bool) (cnt : Nat) (D : DataW Unit), wr.ranges Tryz.prog 3 (plainElem Tryz.prog 3) b w.heap.size n D left cnt ∧ MapIs zs D (sift p (fun k => decide (hz zs (k + 1) = m)) left) ∧ w.grownBy wr (some b))
    (fun _ wr => wr.rangeLeft b w.heap.size)
  case atStart => exact ⟨_, _, _, hrg0, sift_start hM _, hg0.but _⟩
  case round =>
    obtain ⟨left, cnt, D, hrg, hMD, hgw⟩ := hrel
    go_wp2_with (first
      | (at_next; refine wpList_next_ranges_ii _ rfl _ rfl 3 3 .i64 .i64 lawI Tryz.underlying3 Tryz.underlying3 b w.heap.size n _ _ _ rfl hrg ?_ ?_)
      | go_in)
    · intro _ hl0
      go_wp2
      go_end0
      exact ⟨rfl, ⟨_, hrg.owns, sift_end hMD hl0⟩, hgw⟩
    · intro x c w1 cnt1 hwx hwc hlx hat hrg1 hlt hg1 hs1 hen
      have hgw1 := hgw.andThen hg1 (fun j hj => by cases hj; exact Or.inl (Nat.le_refl _))
      have HM : Hid (∃ k : Nat, x = k ∧ sift p (fun k => decide (hz zs (k + 1) = m)) left k = true ∧ c = hz zs (k + 1)) := hMD.met hat
      clear hat
      go_wp2_with (first
        | (at_delete; refine wpList_delete_ranges _ rfl _ _ 89 3 rfl 3 lawI Tryz.underlying89 _ b w.heap.size n _ _ _ rfl hrg1 _ _ rfl (keyOf_int_mk Tryz.underlying3 hwx) ?_; intro w2 cnt2 hrg2 hle hturn; go_frame)
        | go_in)
      · have hc0 : c ≠ m := by simpa using (by assumption : (c != (m : Int)) = true)
        rw [strike_twice] at hrg2
        go_roundw
        case rel =>
          obtain ⟨k, rfl, hp, rfl⟩ := HM.out
          exact ⟨_, cnt2, _, hrg2, sift_struck hMD (by simpa using hc0), hgw1.andThen hturn.grown (fun j hj => by cases hj; exact Or.inr rfl)⟩
        case measure => rw [hrg2.left_eq, hrg.left_eq]; omega
      · have hc0 : c = m := by simpa using (by assumption : (c != (m : Int)) = false)
        go_roundw
        case rel =>
          obtain ⟨k, rfl, hp, rfl⟩ := HM.out
          exact ⟨_, cnt1, _, hrg1, sift_stays hMD (by simpa using hc0), hgw1⟩
        case measure => rw [hrg1.left_eq, hrg.left_eq]; exact hlt
/-- What first hands back: the least of them. -/
def Least (p : Nat → Bool) (left : Nat → Bool) (l : Int) (f : Bool) : Prop := (f = false ∧ l = 0 ∧ ∀ k, p k = true → left k = true) ∨ (f = true ∧ ∃ m : Nat, l = m ∧ p m = true ∧ ∀ k, p k = true → left k = false → m ≤ k)
theorem Least.start {zs : List Int} {D : DataW Unit} {p : Nat → Bool} (h : MapIs zs D p) : Least p (fun k => Maps.has D (.int .i64 k)) 0 false := .inl ⟨rfl, rfl, fun k hk => by show Maps.has D (.int .i64 k) = true; rw [h.has]; exact hk⟩
theorem Least.takes {p : Nat → Bool} {left : Lit → Bool} {l : Int} {f : Bool} (h : Least p (fun k => left (.int .i64 k)) l f) {k : Nat} (hk : p k = true) (ht : f = false ∨ (k : Int) < l) : Least p (fun j => left (.int .i64 j) && !(Lit.int .i64 (j : Int)).sameKey (.int .i64 k)) k true := by
  refine .inr ⟨rfl, k, rfl, hk, fun j hj hl => ?_⟩
  simp only [same_key] at hl
  by_cases e : j = k
  · omega
  · simp [e] at hl
    rcases h with ⟨h1, h2, h3⟩ | ⟨h1, m, rfl, h3, h4⟩
    · have := h3 j hj; simp only at this; rw [this] at hl; cases hl
    · have := h4 j hj hl
      rcases ht with ht | ht
      · rw [h1] at ht; cases ht
      · omega
theorem Least.stays {p : Nat → Bool} {left : Lit → Bool} {l : Int} {f : Bool} (h : Least p (fun k => left (.int .i64 k)) l f) {k : Nat} (hf : f = true) (ht : ¬ (k : Int) < l) : Least p (fun j => left (.int .i64 j) && !(Lit.int .i64 (j : Int)).sameKey (.int .i64 k)) l f := by
  rcases h with ⟨h1, h2, h3⟩ | ⟨h1, m, rfl, h3, h4⟩
  · rw [h1] at hf; cases hf
  · refine .inr ⟨h1, m, rfl, h3, fun j hj hl => ?_⟩
    simp only [same_key] at hl
    by_cases e : j = k
    · omega
    · simp [e] at hl
      exact h4 j hj hl
theorem Least.ends {p : Nat → Bool} {left : Nat → Bool} {l : Int} {f : Bool} (h : Least p left l f) (hl : ∀ k, left k = false) : Least p (fun _ => false) l f := by
  obtain rfl : left = fun _ => false := funext hl
  exact h
set_option maxHeartbeats 4000000 in
set_option maxRecDepth 100000 in
theorem first_ok (w : World) (b n : Nat) (zs : List Int) (p : Nat → Bool) (hT : TextMap w b n zs p) :
    Calls Tryz.prog 78 #[.map (some b)] w fun e w' => ∃ l f, e = .returned (.tuple #[.int .i64 l, .bool f]) ∧ Least p (fun _ => false) l f ∧ Kept w w' := by
  obtain ⟨D, hown, hM⟩ := hT
  go_enter Tryz.func78, Tryz.ntmps78
  go_wp2_with (first
    | (at_range; refine wpList_range_own _ rfl _ 89 rfl 3 3 lawI Tryz.underlying89 _ b n _ rfl hown ?_; intro w0 hrg0 hg0 hs0)
    | go_in)
  go_frame
  go_loopw [4, 5] (fun l f wr => ∃ (left : Lit → Bool) (cnt : Nat) (li : Int) (fb : Bool), l = .int .i64 li ∧ f = .bool fb ∧ wr.ranges Tryz.prog 3 (plainElem Tryz.prog 3) b w.heap.size n D left cnt ∧ Least p (fun k => left (.int .i64 k)) li fb ∧ Kept w wr)
    (fun _ _ wr => wr.rangeLeft b w.heap.size)
  case atStart => exact ⟨_, _, 0, false, rfl, rfl, hrg0, Least.start hM, (Below.refl _ _).grown hg0 (Nat.le_refl _) (by simp)⟩
  case round =>
    obtain ⟨left, cnt, li, fb, rfl, rfl, hrg, hL, hK⟩ := hrel
    go_wp2_with (first
      | (at_next; refine wpList_next_ranges_ii _ rfl _ rfl 3 3 .i64 .i64 lawI Tryz.underlying3 Tryz.underlying3 b w.heap.size n _ _ _ rfl hrg ?_ ?_)
      | go_in)
    · intro _ hl0
      go_wp2
      go_ret2
      exact ⟨li, fb, rfl, hL.ends (fun k => hl0 _), hK⟩
    · intro x c w1 cnt1 hwx hwc hlx hat hrg1 hlt hg1 hs1 hen
      have HK : Hid (Kept w w1) := hK.grownRow hg1 (fun j hj => by cases hj; exact Nat.le_refl _)
      obtain ⟨k, rfl, hp, rfl⟩ := hM.met hat
      have HP : Hid (p k = true) := hp
      clear hat hK hp
      cases fb with
      | false =>
        go_wp2
        go_roundw
        case rel => exact ⟨_, cnt1, _, _, rfl, rfl, hrg1, hL.takes HP.out (.inl rfl), HK.out⟩
        case measure => rw [hrg1.left_eq, hrg.left_eq]; exact hlt
      | true =>
        by_cases hkl : (k : Int) < li
        · go_wp2
          go_roundw
          case rel => exact ⟨_, cnt1, _, _, rfl, rfl, hrg1, hL.takes HP.out (.inr hkl), HK.out⟩
          case measure => rw [hrg1.left_eq, hrg.left_eq]; exact hlt
        · go_wp2
          go_roundw
          case rel => exact ⟨_, cnt1, _, _, rfl, rfl, hrg1, hL.stays rfl hkl, HK.out⟩
          case measure => rw [hrg1.left_eq, hrg.left_eq]; exact hlt
end Go.Proofs.YtpbafjcoomfooaaGreat
namespace Go.Proofs.YtpbafjcoomfooaaGreat
open Go.RowKit Go.Maps

def likeAt (zs : List Int) (f : Nat) (t : ByteArray) (k : Nat) : Bool := sameAs (fun i => hz zs (k + 2 + f + i)) t t.size
set_option maxHeartbeats 400000 in
set_option maxRecDepth 100000 in
theorem giveUnlike_ok (w : World) (b n : Nat) (zs : List Int) (p : Nat → Bool) (bb off cap f : Nat) (t : ByteArray) (hT : TextMap w b n zs p) (hI : Ints w (some ⟨bb, off, none⟩) zs) (hne : bb ≠ b) (hl : zs.length ≤ 1048576) (hcap : zs.length ≤ cap) (ht : 0 < t.size) (hfit : ∀ k, p k = true → k + 2 + f + t.size ≤ zs.length) :
    Calls Tryz.prog 77 #[.map (some b), .slice (some ⟨bb, off, none⟩) zs.length cap, .int .i64 f, .string t] w fun e w' => e = .returned (.tuple #[]) ∧ TextMap w' b n zs (fun k => p k && likeAt zs f t k) ∧ w.grownBy w' (some b) := by
  obtain ⟨D0, hown, hM⟩ := hT
  have HF : Hid (∀ k, p k = true → k + 2 + f + t.size ≤ zs.length) := hfit
  clear hfit
  go_enter Tryz.func77, Tryz.ntmps77
  go_wp2_with (first
    | (at_range; refine wpList_range_own _ rfl _ 89 rfl 3 3 lawI Tryz.underlying89 _ b n _ rfl hown ?_; intro w0 hrg0 hg0 hs0)
    | go_in)
  go_frame
  go_loopw [8] (fun _ wr => ∃ (left : Lit → Bool) (cnt : Nat) (D : DataW Unit), wr.ranges Tryz.prog 3 (plainElem Tryz.prog 3) b w.heap.size n D left cnt ∧ MapIs zs D (sift p (likeAt zs f t) left) ∧ w.grownBy wr (some b))
    (fun _ wr => wr.rangeLeft b w.heap.size)
  case atStart => exact ⟨_, _, _, hrg0, sift_start hM _, hg0.but _⟩
  case round =>
    obtain ⟨left, cnt, D, hrg, hMD, hgw⟩ := hrel
    go_wp2_with (first
      | (at_next; refine wpList_next_ranges_ii _ rfl _ rfl 3 3 .i64 .i64 lawI Tryz.underlying3 Tryz.underlying3 b w.heap.size n _ _ _ rfl hrg ?_ ?_)
      | go_in)
    · intro _ hl0
      go_wp2
      go_end0
      exact ⟨rfl, ⟨_, hrg.owns, sift_end hMD hl0⟩, hgw⟩
    · intro x c w1 cnt1 hwx hwc hlx hat hrg1 hlt hg1 hs1 hen
      have hgw1 := hgw.andThen hg1 (fun j hj => by cases hj; exact Or.inl (Nat.le_refl _))
      obtain ⟨k, rfl, hp, rfl⟩ := hMD.met hat
      have hp' : p k = true := by unfold sift at hp; revert hp; cases p k <;> simp
      have hfk := HF.out k hp'
      have hc0 : ¬ cap = k + 2 + f := by omega
      have hf : f ≤ 1048576 := by omega
      obtain ⟨bb', off', e, hc⟩ := hI.at (k := k) (by omega)
      have hblt : bb < w.heap.size := by cases e; exact World.block_lt_of_cell? _ _ (hc k (by omega))
      have hW := wordsAre_ok w1 bb (off + (k + 2 + f)) (zs.length - (k + 2 + f)) (cap - (k + 2 + f)) (fun i => hz zs (k + 2 + f + i)) t (by omega) (by omega) (fun i hi => by
        cases e
        have h1 := hc (k + 2 + f + i) (by omega)
        have h2 := World.cell?_of_block (w := w) (w' := w1) (a := ⟨bb, off + (k + 2 + f + i), none⟩) (hgw1.block bb hblt (by simp; exact hne))
        rw [show off + (k + 2 + f) + i = off + (k + 2 + f + i) by omega, h2]
        exact h1)
      have HM : Hid (MapIs zs D (sift p (likeAt zs f t) left)) := hMD
      clear hat hc hp hp' hMD e
      cases hlk : likeAt zs f t k with
      | true =>
        have HC : Hid (likeAt zs f t k = true) := hlk
        rw [show sameAs (fun i => hz zs (k + 2 + f + i)) t t.size = true from hlk] at hW
        clear hlk
        go_wp2_with (go_at_call 115; refine hW.mono ?_; rintro e w2 ⟨rfl, hk2⟩)
        have hrg2 := hrg1.kept hk2.grown (by simp) (by simp)
        go_roundw
        case rel => exact ⟨_, cnt1, _, hrg2, sift_stays HM.out HC.out, hgw1.andThen hk2.grown (by simp)⟩
        case measure => rw [hrg2.left_eq, hrg.left_eq]; exact hlt
      | false =>
        have HC : Hid (likeAt zs f t k = false) := hlk
        rw [show sameAs (fun i => hz zs (k + 2 + f + i)) t t.size = false from hlk] at hW
        clear hlk
        go_wp2_with (first
          | (go_at_call 115; refine hW.mono ?_; rintro e w2 ⟨rfl, hk2⟩; have hrg2 := hrg1.kept hk2.grown (by simp) (by simp))
          | (at_delete; refine wpList_delete_ranges _ rfl _ _ 89 3 rfl 3 lawI Tryz.underlying89 _ b w.heap.size n _ _ _ rfl hrg2 _ _ rfl (keyOf_int_mk Tryz.underlying3 hwx) ?_; intro w3 cnt2 hrg3 hle hturn; go_frame))
        rw [strike_twice] at hrg3
        go_roundw
        case rel => exact ⟨_, cnt2, _, hrg3, sift_struck HM.out HC.out, (hgw1.andThen hk2.grown (by simp)).andThen hturn.grown (fun j hj => by cases hj; exact Or.inr rfl)⟩
        case measure => rw [hrg3.left_eq, hrg.left_eq]; omega
end Go.Proofs.YtpbafjcoomfooaaGreat
namespace Go.Proofs.YtpbafjcoomfooaaGreat
open Go.RowKit
set_option linter.unusedVariables false
attribute [local go_sem] Plain.and7 mFree mText mObj mCell mFun mScope
theorem textRole_low (n i : Int) : roleOf 1 n i ≤ 4 := by
  simp only [roleOf]
  repeat' split
  all_goals omega
set_option maxHeartbeats 4000000 in
set_option maxRecDepth 100000 in
theorem wordOk_low (w : World) (lo : Option Addr) (ln lc : Nat) (zs : List Int) (r v : Int) (h0 : -9223372036854775808 ≤ v) (h1 : v ≤ 9223372036854775807) (hr : 0 ≤ r) (h5 : r ≤ 4) :
    Calls Tryz.prog 142 #[.slice lo ln lc, .int .i64 r, .int .i64 v] w fun e w' => e = .returned (.bool (wordR zs r v)) ∧ w = w' := by
  rcases (show r = 0 ∨ r = 1 ∨ r = 2 ∨ r = 3 ∨ r = 4 by omega) with rfl | rfl | rfl | rfl | rfl
  · go_enter Tryz.func142, Tryz.ntmps142
    go_wp2
    go_ret
    exact ⟨rfl, rfl⟩
  · go_enter Tryz.func142, Tryz.ntmps142
    go_wp2
    go_ret
    exact ⟨rfl, rfl⟩
  · go_enter Tryz.func142, Tryz.ntmps142
    go_wp2
    go_ret
    exact ⟨rfl, rfl⟩
  · by_cases hv : 0 ≤ v
    · have HR : Hid (wordR zs 3 v = decide (v ≤ 255)) := by simp [Hid, wordR, hv]
      go_enter Tryz.func142, Tryz.ntmps142
      go_wp2
      go_ret
      exact ⟨by rw [HR.out]; rfl, rfl⟩
    · have HR : Hid (wordR zs 3 v = false) := by simp [Hid, wordR, hv]
      go_enter Tryz.func142, Tryz.ntmps142
      go_wp2
      go_ret
      exact ⟨by rw [HR.out]; rfl, rfl⟩
  · by_cases hv : 0 ≤ v
    · have HR : Hid (wordR zs 4 v = decide (v ≤ 99)) := by simp [Hid, wordR, hv]
      go_enter Tryz.func142, Tryz.ntmps142
      go_wp2
      go_ret
      exact ⟨by rw [HR.out]; rfl, rfl⟩
    · have HR : Hid (wordR zs 4 v = false) := by simp [Hid, wordR, hv]
      go_enter Tryz.func142, Tryz.ntmps142
      go_wp2
      go_ret
      exact ⟨by rw [HR.out]; rfl, rfl⟩
set_option maxHeartbeats 8000000 in
set_option maxRecDepth 100000 in
theorem blockOk_nil (w : World) (ao : Option Addr) (cap : Nat) (zs : List Int) (a s q : Nat) (hI : Ints w ao zs) (hl : zs.length ≤ 1048576) (hle : a + s ≤ zs.length) (hs : 2 ≤ s) (h : q = 1) :
    Calls Tryz.prog 99 #[.slice none 0 0, .slice ao zs.length cap, bkV a s q] w fun e w' => e = .returned (.bool (blkR zs a s q)) ∧ Kept w w' := by
  have hq : q ≤ 5 := by omega
  have HQ0 : Hid (q = 1) := h
  clear h
  have k0 : Kept w (w.alloc (.cells (bkC a s q) 111)) := Kept.alloc (Below.refl _ _) _
  have b0 := Cells.new w 111 (bkC a s q)
  obtain ⟨n, hn⟩ : ∃ n, hz zs (a + 1) = n := ⟨_, rfl⟩
  have hSh := shapeOf_ok _ ao cap zs a s q (hI.kept k0) hl hle hs hq
  rw [hn] at hSh
  go_enter Tryz.func99, Tryz.ntmps99
  go_wp2_with fail
  refine hSh.mono ?_
  rintro e w1 ⟨rfl, hk1⟩
  have c1 := (b0.kept hk1).cell 1
  cases hz : sizeR q n s with
  | false =>
    have HR : Hid (blkR zs a s q = false) := by simp [Hid, blkR, hn, hz]
    have hSz := sizeOk_ok w1 q n s hq (by omega) (by omega)
    rw [hz] at hSz
    clear hz hSh
    go_wp2_with (go_at_call 141; refine hSz.mono ?_; rintro e w2 ⟨rfl, hk2⟩)
    go_ret
    exact ⟨by rw [HR.out]; rfl, (k0.trans hk1).trans hk2⟩
  | true =>
    have HR : Hid (blkR zs a s q = wordsR zs a q s) := by simp [Hid, blkR, hn, hz]
    have hSz := sizeOk_ok w1 q n s hq (by omega) (by omega)
    rw [hz] at hSz
    clear hz hSh
    go_wp2_with fail
    refine hSz.mono ?_
    rintro e w2 ⟨rfl, hk2⟩
    have b2 := (b0.kept hk1).kept hk2
    have k2 := (k0.trans hk1).trans hk2
    have hLn := b2.lt
    clear c1 hSz b0 k0 hk1 hk2
    obtain ⟨bb, off, rfl, hc⟩ := hI.at (k := 0) (by omega)
    have hwd : ∀ k, k < s → w.cell? ⟨bb, off + (a + k), none⟩ = some (.int .i64 (hz zs (a + k))) := fun k hk => hc (a + k) (by omega)
    have hbb : bb < w.heap.size := World.block_lt_of_cell? _ _ (hwd 0 (by omega))
    have hbd := fun k => hI.bd (a + k)
    have HRN : Hid (∀ k : Nat, wordsR zs a q (k + 1) = (if k = 0 then true else (wordsR zs a q k && wordR zs (roleOf q n (k : Nat)) (hz zs (a + k))))) := by
      intro k
      by_cases h : k = 0
      · subst h; rw [if_pos rfl]; exact wordsR_one _ _ _
      · rw [if_neg h, wordsR_succ (by omega), hn]
    clear hc hI
    have h := HQ0.out
    have hsh : shV q n = .iface 144 (.agg #[.int .i64 n]) := by rw [h]; rfl
    rw [hsh]
    have HQ : Hid (q = 1) := h
    clear h hsh
    go_wp2_with fail
    go_loopw [8] (fun i wr => ∃ (k : Nat), i = .int .i64 k ∧ 1 ≤ k ∧ k ≤ s ∧ wordsR zs a q k = true ∧ Cells wr w.heap.size 111 (bkC a s q) ∧ Kept w wr) (fun i _ => s - (intOf i).toNat)
    case atStart => exact ⟨1, rfl, Nat.le_refl _, by omega, wordsR_one _ _ _, b2, k2⟩
    case round =>
      obtain ⟨k, rfl, hk1, hks, hok, hb, hK⟩ := hrel
      clear b2 k2
      have HO : Hid (wordsR zs a q k = true) := hok
      have HK : Hid (Kept w wr) := hK
      clear hok
      have cb1 := hb.cell 1
      by_cases hlt : k < s
      · obtain ⟨wd, hwdE⟩ : ∃ wd, wordR zs (roleOf 1 n (k : Nat)) (hz zs (a + k)) = wd := ⟨_, rfl⟩
        have HN : Hid (wordsR zs a q (k + 1) = wd) := by
          show _ = _
          rw [HRN.out k, if_neg (by omega), HO.out, HQ.out, hwdE, Bool.true_and]
        go_wp2_with fail
        go_cut [35] from 23 to 35 (fun t wx => t = .bool (!wd) ∧ Kept wr wx)
        case first =>
          have hbd1 := (hbd k).1
          have hbd2 := (hbd k).2
          have kd : Kept wr wr.drew := (Below.refl _ wr).drew
          have hcw : wr.drew.cell? ⟨bb, off + ((a : Int) + (k : Int)).toNat, none⟩ = some (.int .i64 (hz zs (a + k))) := by
            rw [show ((a : Int) + (k : Int)).toNat = a + k by omega]
            exact ((hK.trans kd).cell (p := ⟨bb, off + (a + k), none⟩) hbb).trans (hwd k hlt)
          have hb0 : wr.drew.cell? ⟨w.heap.size, 0, none⟩ = some (.int .i64 a) := (hb.kept kd).cell 0
          have hix : (a : Int) + (k : Int) < (zs.length : Int) := by omega
          have hix0 : (0 : Int) ≤ (a : Int) + (k : Int) := by omega
          have hixw : IntKind.i64.wrap ((a : Int) + (k : Int)) = (a : Int) + (k : Int) := IntWalk.i64_in _ ⟨by omega, by omega⟩
          have hW := fun (W : World) => wordOk_low W none 0 0 zs (roleOf 1 n (k : Nat)) (hz zs (a + k)) hbd1 hbd2 (roleOf_nn (by omega) _ _) (textRole_low _ _)
          rw [hwdE] at hW
          clear hwdE hbd HN HRN
          go_region_held3 (fun w' => w'.cell? ⟨w.heap.size, 0, none⟩ = some (.int .i64 a) ∧ w'.cell? ⟨bb, off + ((a : Int) + (k : Int)).toNat, none⟩ = some (.int .i64 (hz zs (a + k)))) (first | (refine ⟨?_, ?_⟩ <;> assumption) | go_keep) (first | (go_at_call 177; refine (textRole_ok n _ _ (by omega) (by omega)).mono ?_; rintro e w4 ⟨rfl, hk4⟩; have hcw4 := (hk4.cell (p := ⟨bb, off + ((a : Int) + (k : Int)).toNat, none⟩) (World.block_lt_of_cell? _ _ hcw)).trans hcw; have hb4 := (hk4.cell (p := ⟨w.heap.size, 0, none⟩) (World.block_lt_of_cell? _ _ hb0)).trans hb0) | (go_at_call 142; refine (hW _).mono ?_; rintro e w5 ⟨rfl, rfl⟩))
          all_goals (
            go_wp2_with fail
            go_meet
            exact ⟨rfl, kd.trans hk4⟩)
        case rest =>
        obtain ⟨rfl, hKc⟩ := hcut
        have hbc := hb.kept hKc
        have hkc := hK.trans hKc
        clear hb hK cb1 hwdE
        cases wd with
        | true =>
          go_wp2_with fail
          go_roundw
          case rel => exact ⟨k + 1, by go_num, by omega, by omega, HN.out, hbc, hkc⟩
          case measure => simp [intOf]; omega
        | false =>
          go_wp2
          go_ret
          exact ⟨by rw [HR.out, wordsR_false (show k + 1 ≤ s by omega) HN.out]; rfl, hkc⟩
      · obtain rfl : s = k := by omega
        go_wp2
        go_ret
        exact ⟨by rw [HR.out, HO.out]; rfl, HK.out⟩
/-- A block is a text that is right. -/
def okB (zs : List Int) (a s q : Nat) : Bool := decide (q = 1) && blkR zs a s 1
set_option maxHeartbeats 4000000 in
set_option maxRecDepth 100000 in
theorem textOk_ok (w : World) (ao : Option Addr) (cap : Nat) (zs : List Int) (a s q : Nat) (hI : Ints w ao zs) (hl : zs.length ≤ 1048576) (hle : a + s ≤ zs.length) (hs : 2 ≤ s) :
    Calls Tryz.prog 113 #[.slice ao zs.length cap, bkV a s q] w fun e w' => e = .returned (.bool (okB zs a s q)) ∧ Kept w w' := by
  have k0 : Kept w (w.alloc (.cells (bkC a s q) 111)) := Kept.alloc (Below.refl _ _) _
  have b0 := Cells.new w 111 (bkC a s q)
  have c2 := b0.cell 2
  have c1 := b0.cell 1
  have c0 := b0.cell 0
  by_cases h : q = 1
  · have hB := blockOk_nil (w.alloc (.cells (bkC a s q) 111)) ao cap zs a s q (hI.kept k0) hl hle hs h
    have HE : Hid (okB zs a s q = blkR zs a s q) := by rw [Hid, okB, h]; simp
    obtain ⟨D, hD⟩ : ∃ D, blkR zs a s q = D := ⟨_, rfl⟩
    rw [hD] at hB HE
    subst h
    clear hI hD
    go_enter Tryz.func113, Tryz.ntmps113
    go_wp2_with (go_at_call 99; refine hB.mono ?_; rintro e w1 ⟨rfl, hk1⟩)
    go_ret
    exact ⟨by rw [HE.out]; rfl, k0.trans hk1⟩
  · have HE : Hid (okB zs a s q = false) := by rw [Hid, okB]; simp [h]
    have h1 : ((q : Nat) : Int) ≠ 1 := by omega
    have h2 : (((q : Nat) : Int) == 1) = false := by simp; omega
    clear hI
    go_enter Tryz.func113, Tryz.ntmps113
    go_wp2_with fail
    go_ret
    exact ⟨by rw [HE.out]; rfl, k0⟩
end Go.Proofs.YtpbafjcoomfooaaGreat
namespace Go.Proofs.YtpbafjcoomfooaaGreat
open Go.RowKit Go.Shelf Go.Maps
attribute [local go_sem] Oper.semAt_some

/-- Those of these blocks that are texts. -/
def isThere {L : Nat} (bs : List (BkOf L)) (k : Nat) : Bool := bs.any (fun b => decide (b.1.kind = 1) && decide (k = b.1.at'))
theorem isThere_snoc {L : Nat} (bs : List (BkOf L)) (x : BkOf L) (k : Nat) : isThere (bs ++ [x]) k = (isThere bs k || (decide (x.1.kind = 1) && decide (k = x.1.at'))) := by simp [isThere, List.any_append]
/-- Those of these blocks that are texts which are right. -/
def isTh (zs : List Int) (bs : List (BkOf zs.length)) (k : Nat) : Bool := bs.any (fun b => okB zs b.1.at' b.1.size b.1.kind && decide (k = b.1.at'))
theorem isTh_snoc {zs : List Int} (bs : List (BkOf zs.length)) (x : BkOf zs.length) (k : Nat) : isTh zs (bs ++ [x]) k = (isTh zs bs k || (okB zs x.1.at' x.1.size x.1.kind && decide (k = x.1.at'))) := by simp [isTh, List.any_append]
theorem any_same {α : Type} {p q : α → Bool} : ∀ {l : List α}, (∀ b ∈ l, p b = q b) → l.any p = l.any q
  | [], _ => rfl
  | b :: l, h => by
    rw [List.any_cons, List.any_cons, h b (List.mem_cons_self ..), any_same (fun c hc => h c (List.mem_cons_of_mem _ hc))]
theorem isTh_all {zs : List Int} (hh : heapR zs = true) (k : Nat) : isTh zs (blocks zs) k = isThere (blocks zs) k := by
  unfold isTh isThere
  refine any_same (fun b hb => ?_)
  congr 1
  unfold okB
  by_cases h : b.1.kind = 1
  · have := heapR_blk hh hb
    rw [h] at this
    rw [this, Bool.and_true]
  · simp [h]
theorem TextMap.kept {w w' : World} {b n : Nat} {zs : List Int} {p : Nat → Bool} (h : TextMap w b n zs p) {row : Option Nat} (hg : w.grownBy w' row) (hne : some b ≠ row) : TextMap w' b n zs p := by
  obtain ⟨D, h1, h2⟩ := h
  exact ⟨D, h1.kept hg hne, h2⟩
theorem TextMap.mono {w : World} {b n n' : Nat} {zs : List Int} {p : Nat → Bool} (h : TextMap w b n zs p) (hn : n ≤ n') : TextMap w b n' zs p := by
  obtain ⟨D, h1, h2⟩ := h
  exact ⟨D, h1.mono hn, h2⟩
theorem TextMap.congr {w : World} {b n : Nat} {zs : List Int} {p q : Nat → Bool} (h : TextMap w b n zs p) (e : ∀ k, p k = q k) : TextMap w b n zs q := by
  obtain ⟨D, h1, h2⟩ := h
  exact ⟨D, h1, h2.congr e⟩
set_option maxHeartbeats 2000000 in
set_option maxRecDepth 100000 in
theorem textsOf_ok (w : World) (ao : Option Addr) (cap : Nat) (zs : List Int) (hI : Ints w ao zs) (hl : zs.length ≤ 1048576) (hh : heapR zs = true) :
    Calls Tryz.prog 74 #[.slice ao zs.length cap] w fun e w' => ∃ b n, e = .returned (.map (some b)) ∧ w.heap.size ≤ b ∧ TextMap w' b n zs (isThere (blocks zs)) ∧ Kept w w' := by
  have hL : zs.length * 8 ≤ 140737488351232 := by omega
  have hmm := @run_makeMap Tryz.prog
  refine (callsIn_wide (n := 3)).1 ?_
  refine callsIn_of_wp_marks Tryz.func74 rfl trivial ?_ rfl
  simp only [Tryz.ntmps74, List.size_toArray, List.length_cons, List.length_nil, Nat.reduceAdd, Nat.reduceSub, Array.replicate_succ, Array.replicate_zero, List.push_toArray, List.append_toArray, List.nil_append, List.cons_append]
  gi_wp2_with (refine ⟨trivial, ?_⟩; gi_at_call 98; refine (callsIn_wide.2 (blocksOf_ok _ _ _ _)).mono ?_; rintro e w' ⟨rfl, rfl⟩)
  have bS := (((Cells.new w 24 #[.slice ao zs.length cap]).alloc (.map #[] 0)).alloc (.cells #[.map (some (w.heap.size + 1))] 89)).alloc (.cells #[.slice ao zs.length cap] 24)
  have bT := (Cells.new ((w.alloc (.cells #[.slice ao zs.length cap] 24)).alloc (.map #[] 0)) 89 #[.map (some (w.heap.size + 1))]).alloc (.cells #[.slice ao zs.length cap] 24)
  have bB := Cells.new (((w.alloc (.cells #[.slice ao zs.length cap] 24)).alloc (.map #[] 0)).alloc (.cells #[.map (some (w.heap.size + 1))] 89)) 24 #[.slice ao zs.length cap]
  have hk0 : Kept w ((((w.alloc (.cells #[.slice ao zs.length cap] 24)).alloc (.map #[] 0)).alloc (.cells #[.map (some (w.heap.size + 1))] 89)).alloc (.cells #[.slice ao zs.length cap] 24)) := (((Kept.alloc (Below.refl _ _) _).alloc _).alloc _).alloc _
  have hm0 : TextMap ((((w.alloc (.cells #[.slice ao zs.length cap] 24)).alloc (.map #[] 0)).alloc (.cells #[.map (some (w.heap.size + 1))] 89)).alloc (.cells #[.slice ao zs.length cap] 24)) (w.heap.size + 1) 0 zs (isTh zs []) := by
    refine ⟨.map [], ?_, MapIs.empty zs⟩
    have := World.ownsMap_made (H := Unit) (w.alloc (.cells #[.slice ao zs.length cap] 24)) Tryz.prog 3 (plainElem Tryz.prog 3)
    simp only [World.size_alloc] at this
    exact (this.alloc _).alloc _
  have hsz : ((((w.alloc (.cells #[.slice ao zs.length cap] 24)).alloc (.map #[] 0)).alloc (.cells #[.map (some (w.heap.size + 1))] 89)).alloc (.cells #[.slice ao zs.length cap] 24)).heap.size = w.heap.size + 4 := by simp
  simp only [World.size_alloc] at bT bB
  obtain ⟨W0, hW0⟩ : ∃ W0, (((w.alloc (.cells #[.slice ao zs.length cap] 24)).alloc (.map #[] 0)).alloc (.cells #[.map (some (w.heap.size + 1))] 89)).alloc (.cells #[.slice ao zs.length cap] 24) = W0 := ⟨_, rfl⟩
  rw [hW0] at bS bT bB hk0 hm0 hsz ⊢
  clear hW0 hmm
  refine range_blocks (X := fun _ => False) (nX := w.heap.size + 3) (zs := zs) (ao := ao) (cap := cap) (by omega) rfl (by simp) (by simp) (by decide) hL hI hk0 (by intro k h; exact h.elim) (by intro k h; exact h.elim) (by intro k h; exact h.elim) (by omega) bB
    (fun pre W => (TextMap W (w.heap.size + 1) pre.length zs (isTh zs pre) ∧ Cells W w.heap.size 24 #[.slice ao zs.length cap] ∧ Cells W (w.heap.size + 1 + 1) 89 #[.map (some (w.heap.size + 1))]) ∧ Below w.heap.size w W)
    (fun _ _ _ => False)
    (OwnFrom.and (OwnFrom.and (fun s Y Z row h hg hr => h.kept hg (fun e => by have := (hr _ e.symm).1; omega)) (OwnFrom.and (Own.from (Cells.own _ _ _) _) (Own.from (Cells.own _ _ _) _))) (ownFrom_below (Nat.le_refl _) (by omega)))
    (fun _ _ _ _ _ hs _ _ => hs)
    ⟨⟨hm0, bS, bT⟩, hk0⟩ ?body ?done ?stop
  case body =>
    rintro l pre x W Bx hBx bX ⟨⟨⟨D, hown, hM⟩, bS1, bT1⟩, hB1⟩ hlt
    have hx := x.2
    have c0 := bX.cell 0
    have c1 := bX.cell 1
    have c2 := bX.cell 2
    have cS := bS1.cell 0
    have cT := bT1.cell 0
    obtain ⟨bb, off, e, hc⟩ := (hI.kept hB1).at (k := x.1.at') (by have := hx.1; have := hx.2.1; omega)
    subst e
    have cw := hc (x.1.at' + 1) (by have := hx.1; have := hx.2.1; omega)
    have hlt2 : x.1.at' + 1 < zs.length := by have := hx.1; have := hx.2.1; omega
    have t1 : (((x.1.at' : Nat) : Int) + 1).toNat = x.1.at' + 1 := by omega
    have q1 : ((x.1.at' : Nat) : Int) + 1 < (zs.length : Int) := by omega
    have hTo := textOk_ok W _ cap zs x.1.at' x.1.size x.1.kind (hI.kept hB1) hl hx.2.1 hx.1
    simp only [List.setIfInBounds_toArray, List.set_cons_succ, List.set_cons_zero]
    cases hv : okB zs x.1.at' x.1.size x.1.kind with
    | true =>
      rw [hv] at hTo
      have HV : Hid (okB zs x.1.at' x.1.size x.1.kind = true) := hv
      clear hv
      gi_wp2_with (refine ⟨trivial, ?_⟩; gi_at_call 113; refine (CallsIn.inRound l (callsIn_wide.2 hTo)).mono ?_; rintro e w5 ⟨rfl, hk5⟩)
      have g5 : W.grownBy w5 none := hk5.grown
      have hown5 := hown.kept g5 (by simp)
      have bS5 := bS1.kept hk5
      have bT5 := bT1.kept hk5
      have bX5 := bX.kept hk5
      have c0 := bX5.cell 0
      have cS := bS5.cell 0
      have cT := bT5.cell 0
      have cw5 := (hk5.cell (p := ⟨bb, off + (x.1.at' + 1), none⟩) (World.block_lt_of_cell? _ _ cw)).trans cw
      have hB5 := Below.trans hB1 (hk5.mono hB1.size)
      obtain ⟨w4, hrun, hown4, hturn4⟩ := hown5.drew.store lawI Tryz.underlying89 (by have := blocks_count zs; unfold maxLen; omega) (keyOf_int_mk Tryz.underlying3 (a := (x.1.at' : Nat)) (WalkArith.wf_i64 (by omega))) (plainElem_int Tryz.underlying3 (a := hz zs (x.1.at' + 1)) (WalkArith.wf_i64 (hI.1 _ (by unfold hz; rw [List.getElem?_eq_getElem hlt2]; exact List.getElem_mem hlt2))))
      have hwr : IntKind.i64.wrap (((x.1.at' : Nat) : Int) + 1) = ((x.1.at' : Nat) : Int) + 1 := by rw [IntWalk.i64_left, IntWalk.wrap64_in _ (by omega)]
      have him : Hid (IsMap D) := hown5.isMap
      clear hc hlt hx hown hown5 hTo bX bX5 cw c1 c2
      refine wpIn_region_last (os := [_, _, _, _, _, _, _, _, _]) (ol := _) (fun _ => trivial) (by kernel_rfl) (by kernel_rfl) (by kernel_rfl) rfl rfl ?_
      repeat (refine SeqR.read ?_ rfl (by simp) ?_ ?_; rotate_left; (focus (go_simp; first | done | exact rfl)); simp only [Act.put, List.setIfInBounds_toArray, List.set_cons_zero, List.set_cons_succ])
      refine SeqR.nil ?_
      refine ⟨fun _ _ => trivial, ?_⟩
      go_simp
      have hg4 : w5.grownBy w4 (some (w.heap.size + 1)) := ⟨hturn4.grown.os, hturn4.grown.tape, hturn4.grown.output, hturn4.grown.size, hturn4.grown.block⟩
      have hkx : KeepX (fun _ => False) W0.heap.size w5 w4 := ⟨hg4.size, fun k o ek hc _ _ => (hg4.block k (Array.getElem?_eq_some_iff.1 ek).1 (by
        intro e'
        cases e'
        obtain ⟨es, cl, es', cl', hmp, _⟩ := hturn4
        rw [show w5.heap[w.heap.size + 1]? = _ from hmp] at ek
        cases ek; cases hc)).trans ek⟩
      refine ⟨(hk5.others.from _).trans (KeepsFrom.of_grownBy hg4 (fun j e => by cases e; omega)), KeepX.t (KeepX.of hk5) hkx, ⟨⟨?_, hkx.2 _ _ bS5 rfl id (fun h => by omega), hkx.2 _ _ bT5 rfl id (fun h => by omega)⟩, hB5.grown hg4 hB5.size (fun j e => by cases e; omega)⟩⟩
      exact (show TextMap w4 _ _ _ _ from ⟨_, by simpa using hown4, hM.put him.out x.1.at'⟩).congr (fun k => by rw [isTh_snoc, HV.out, Bool.true_and])
    | false =>
      rw [hv] at hTo
      have HV : Hid (okB zs x.1.at' x.1.size x.1.kind = false) := hv
      clear hv hc
      gi_wp2_with (refine ⟨trivial, ?_⟩; gi_at_call 113; refine (CallsIn.inRound l (callsIn_wide.2 hTo)).mono ?_; rintro e w5 ⟨rfl, hk5⟩)
      have g5 : W.grownBy w5 none := hk5.grown
      refine ⟨hk5.others.from _, KeepX.of hk5, ⟨⟨?_, bS1.kept hk5, bT1.kept hk5⟩, Below.trans hB1 (hk5.mono hB1.size)⟩⟩
      exact (TextMap.mono (TextMap.kept ⟨D, hown, hM⟩ g5 (by simp)) (by simp)).congr (fun k => by rw [isTh_snoc, HV.out, Bool.false_and, Bool.or_false])
  case done =>
    rintro D W hD ⟨⟨hT1, bS1, bT1⟩, hB1⟩ hK
    have cT := bT1.cell 0
    gi_wp2
    refine ⟨by simp, .inl ⟨_, _, rfl, run_takeDeferred hK, ?_⟩⟩
    refine ⟨_, results_tmp rfl _ _ _, ?_⟩
    refine ⟨w.heap.size + 1, (blocks zs).length, rfl, by omega, (hT1.kept (grownBy_putObj' _ _ _) ?_).congr (isTh_all hh), hB1.trans (belowK_b (w := w) (Nat.le_refl _) W D _ _ (by omega) hK rfl rfl)⟩
    intro e
    cases e
    omega
  case stop =>
    rintro D c pre W _ _ h _
    exact h.elim
end Go.Proofs.YtpbafjcoomfooaaGreat
