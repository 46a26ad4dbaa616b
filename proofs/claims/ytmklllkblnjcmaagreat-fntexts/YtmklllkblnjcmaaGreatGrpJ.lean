/-
  The map of the texts that are there: giveOther, first.
  giveUnlike.
  textsOf.
  The contracts of the program's readText and TextOf.
-/
import Derived.Maps.RangeWalk
import Derived.Maps.Views
import Derived.Test.YtmklllkblnjcmaaGreatZTextA
import Derived.Test.YtmklllkblnjcmaaGreatZTextF
import Derived.Test.YtmklllkblnjcmaaGreatSlabV
import Derived.Test.YtmklllkblnjcmaaGreatSeqIn
import Derived.Test.YtmklllkblnjcmaaGreatSeq
namespace Go.Proofs.YtmklllkblnjcmaaGreat
open Go.RowKit Go.Maps

theorem lawI : Keyed Tryz.prog 3 := int_keyed Tryz.underlying3
/-- The map has just the places that p tells, each with what the word behind its head says. -/
structure MapIs (zs : List Int) (D : DataW Unit) (p : Nat → Bool) : Prop where
  only : ∀ kl, Maps.has D kl = true → ∃ k : Nat, kl = .int .i64 k
  has : ∀ k : Nat, Maps.has D (.int .i64 k) = p k
  val : ∀ k : Nat, p k = true → ∀ z, D.atKey (.int .i64 k) z = .lit (.int .i64 (hz zs (k + 1)))
theorem MapIs.congr {zs : List Int} {D : DataW Unit} {p q : Nat → Bool} (h : MapIs zs D p) (e : ∀ k, p k = q k) : MapIs zs D q := by
  obtain rfl : p = q := funext e
  exact h
theorem MapIs.empty (zs : List Int) : MapIs zs (.map []) (fun _ => false) := ⟨fun kl h => by simp [Maps.has] at h, fun k => by simp [Maps.has], fun k h => by cases h⟩
theorem key_ne {j k : Nat} (h : j ≠ k) : (Lit.int .i64 (j : Int)) ≠ .int .i64 (k : Int) := by
  intro e
  injection e with _ e
  omega
theorem same_key (j k : Nat) : (Lit.int .i64 (j : Int)).sameKey (.int .i64 (k : Int)) = decide (j = k) := by
  by_cases h : j = k
  · subst h; simp [Lit.sameKey]
  · rw [sameKey_ne (key_ne h)]; simp [h]
theorem MapIs.del {zs : List Int} {D : DataW Unit} {p : Nat → Bool} (h : MapIs zs D p) (k : Nat) : MapIs zs (D.del (.int .i64 k)) (fun j => p j && !decide (j = k)) where
  only kl hk := by
    by_cases e : kl = .int .i64 k
    · exact ⟨k, e⟩
    · rw [has_del_other e] at hk; exact h.only kl hk
  has j := by
    by_cases e : j = k
    · subst e; rw [has_del_same]; simp
    · rw [has_del_other (key_ne e), h.has]; simp [e]
  val j hj z := by
    simp at hj
    rw [atKey_del_other (key_ne hj.2)]
    exact h.val j hj.1 z
theorem MapIs.put {zs : List Int} {D : DataW Unit} {p : Nat → Bool} (h : MapIs zs D p) (hm : IsMap D) (k : Nat) : MapIs zs (D.put (.int .i64 k) (.lit (.int .i64 (hz zs (k + 1))))) (fun j => p j || decide (j = k)) where
  only kl hk := by
    by_cases e : kl = .int .i64 k
    · exact ⟨k, e⟩
    · rw [has_put_other e] at hk; exact h.only kl hk
  has j := by
    by_cases e : j = k
    · subst e; rw [has_put_same hm (k := .int .i64 (j : Int)) trivial]; simp
    · rw [has_put_other (key_ne e), h.has]; simp [e]
  val j hj z := by
    by_cases e : j = k
    · subst e; rw [atKey_put_same hm (k := .int .i64 (j : Int)) trivial]
    · rw [atKey_put_other (key_ne e)]
      exact h.val j (by simpa [e] using hj) z
/-- What a round meets. -/
theorem MapIs.met {zs : List Int} {D : DataW Unit} {p : Nat → Bool} (h : MapIs zs D p) {x c : Int} (hat : ∀ zd, D.atKey (.int .i64 x) zd = .lit (.int .i64 c)) : ∃ k : Nat, x = k ∧ p k = true ∧ c = hz zs (k + 1) := by
  have hh := has_true_of_atKey hat
  obtain ⟨k, e⟩ := h.only _ hh
  injection e with _ e
  subst e
  have hp : p k = true := by rw [← h.has]; exact hh
  refine ⟨k, rfl, hp, ?_⟩
  have := h.val k hp (.map [])
  rw [hat] at this
  injection this with this
  injection this
/-- A sieve: those that stay, and those still to come. -/
def sift (p c : Nat → Bool) (left : Lit → Bool) (k : Nat) : Bool := p k && (c k || left (.int .i64 k))
theorem sift_start {zs : List Int} {D : DataW Unit} {p : Nat → Bool} (h : MapIs zs D p) (c : Nat → Bool) : MapIs zs D (sift p c (Maps.has D)) := h.congr (fun k => by unfold sift; rw [h.has]; cases p k <;> simp)
theorem sift_stays {zs : List Int} {D : DataW Unit} {p c : Nat → Bool} {left : Lit → Bool} (h : MapIs zs D (sift p c left)) {k : Nat} (hc : c k = true) : MapIs zs D (sift p c (fun z => left z && !z.sameKey (.int .i64 k))) :=
  h.congr (fun j => by
    simp only [sift, same_key]
    by_cases e : j = k
    · subst e; simp [hc]
    · simp [e])
theorem sift_struck {zs : List Int} {D : DataW Unit} {p c : Nat → Bool} {left : Lit → Bool} (h : MapIs zs D (sift p c left)) {k : Nat} (hc : c k = false) : MapIs zs (D.del (.int .i64 k)) (sift p c (fun z => left z && !z.sameKey (.int .i64 k))) :=
  (h.del k).congr (fun j => by
    simp only [sift, same_key]
    by_cases e : j = k
    · subst e; simp [hc]
    · simp [e])
theorem sift_end {zs : List Int} {D : DataW Unit} {p c : Nat → Bool} {left : Lit → Bool} (h : MapIs zs D (sift p c left)) (hl : ∀ kl, left kl = false) : MapIs zs D (fun k => p k && c k) :=
  h.congr (fun j => by unfold sift; rw [hl]; simp)
/-- Block b is a map of the texts that p tells. -/
def TextMap (w : World) (b n : Nat) (zs : List Int) (p : Nat → Bool) : Prop := ∃ D : DataW Unit, w.ownsMap Tryz.prog 3 (plainElem Tryz.prog 3) b n D ∧ MapIs zs D p

set_option maxHeartbeats 4000000 in
set_option maxRecDepth 100000 in
theorem giveOther_ok (w : World) (b n : Nat) (zs : List Int) (p : Nat → Bool) (m : Nat) (hT : TextMap w b n zs p) :
    Calls Tryz.prog 38 #[.map (some b), .int .i64 m] w fun e w' => e = .returned (.tuple #[]) ∧ TextMap w' b n zs (fun k => p k && decide (hz zs (k + 1) = m)) ∧ w.grownBy w' (some b) := by
  obtain ⟨D0, hown, hM⟩ := hT
  go_enter Tryz.func38, Tryz.ntmps38
  go_wp2_with (first
    | (at_range; refine wpList_range_own _ rfl _ 58 rfl 3 3 lawI Tryz.underlying58 _ b n _ rfl hown ?_; intro w0 hrg0 hg0 hs0)
    | go_in)
  go_frame
  go_loopw [4] (fun _ wr => ∃ (left : Lit → Bool) (cnt : Nat) (D : DataW Unit), wr.ranges Tryz.prog 3 (plainElem Tryz.prog 3) b w.heap.size n D left cnt ∧ MapIs zs D (sift p (fun k => decide (hz zs (k + 1) = m)) left) ∧ w.grownBy wr (some b))
    (fun _ wr => wr.rangeLeft b w.heap.size)
  case atStart => exact ⟨_, _, _, hrg0, sift_start hM _, hg0.but _⟩
  case round =>
    obtain ⟨left, cnt, D, hrg, hMD, hgw⟩ := hrel
    go_wp2_with (first
      | (at_next; refine wpList_next_ranges_ii _ rfl _ rfl 3 3 .i64 .i64 lawI Tryz.underlying3 Tryz.underlying3 b w.heap.size n _ _ _ rfl hrg ?_ ?_)
      | go_in)
    · intro _ hl0
      go_wp2
      go_end0
      exact ⟨rfl, ⟨_, hrg.owns, sift_end hMD hl0⟩, hgw⟩
    · intro x c w1 cnt1 hwx hwc hlx hat hrg1 hlt hg1 hs1 hen
      have hgw1 := hgw.andThen hg1 (fun j hj => by cases hj; exact Or.inl (Nat.le_refl _))
      have HM : Hid (∃ k : Nat, x = k ∧ sift p (fun k => decide (hz zs (k + 1) = m)) left k = true ∧ c = hz zs (k + 1)) := hMD.met hat
      clear hat
      go_wp2_with (first
        | (at_delete; refine wpList_delete_ranges _ rfl _ _ 58 3 rfl 3 lawI Tryz.underlying58 _ b w.heap.size n _ _ _ rfl hrg1 _ _ rfl (keyOf_int_mk Tryz.underlying3 hwx) ?_; intro w2 cnt2 hrg2 hle hturn; go_frame)
        | go_in)
      · have hc0 : c ≠ m := by simpa using (by assumption : (c != (m : Int)) = true)
        rw [strike_twice] at hrg2
        go_roundw
        case rel =>
          obtain ⟨k, rfl, hp, rfl⟩ := HM.out
          exact ⟨_, cnt2, _, hrg2, sift_struck hMD (by simpa using hc0), hgw1.andThen hturn.grown (fun j hj => by cases hj; exact Or.inr rfl)⟩
        case measure => rw [hrg2.left_eq, hrg.left_eq]; omega
      · have hc0 : c = m := by simpa using (by assumption : (c != (m : Int)) = false)
        go_roundw
        case rel =>
          obtain ⟨k, rfl, hp, rfl⟩ := HM.out
          exact ⟨_, cnt1, _, hrg1, sift_stays hMD (by simpa using hc0), hgw1⟩
        case measure => rw [hrg1.left_eq, hrg.left_eq]; exact hlt
/-- What first hands back: the least of them. -/
def Least (p : Nat → Bool) (left : Nat → Bool) (l : Int) (f : Bool) : Prop := (f = false ∧ l = 0 ∧ ∀ k, p k = true → left k = true) ∨ (f = true ∧ ∃ m : Nat, l = m ∧ p m = true ∧ ∀ k, p k = true → left k = false → m ≤ k)
theorem Least.start {zs : List Int} {D : DataW Unit} {p : Nat → Bool} (h : MapIs zs D p) : Least p (fun k => Maps.has D (.int .i64 k)) 0 false := .inl ⟨rfl, rfl, fun k hk => by show Maps.has D (.int .i64 k) = true; rw [h.has]; exact hk⟩
theorem Least.takes {p : Nat → Bool} {left : Lit → Bool} {l : Int} {f : Bool} (h : Least p (fun k => left (.int .i64 k)) l f) {k : Nat} (hk : p k = true) (ht : f = false ∨ (k : Int) < l) : Least p (fun j => left (.int .i64 j) && !(Lit.int .i64 (j : Int)).sameKey (.int .i64 k)) k true := by
  refine .inr ⟨rfl, k, rfl, hk, fun j hj hl => ?_⟩
  simp only [same_key] at hl
  by_cases e : j = k
  · omega
  · simp [e] at hl
    rcases h with ⟨h1, h2, h3⟩ | ⟨h1, m, rfl, h3, h4⟩
    · have := h3 j hj; simp only at this; rw [this] at hl; cases hl
    · have := h4 j hj hl
      rcases ht with ht | ht
      · rw [h1] at ht; cases ht
      · omega
theorem Least.stays {p : Nat → Bool} {left : Lit → Bool} {l : Int} {f : Bool} (h : Least p (fun k => left (.int .i64 k)) l f) {k : Nat} (hf : f = true) (ht : ¬ (k : Int) < l) : Least p (fun j => left (.int .i64 j) && !(Lit.int .i64 (j : Int)).sameKey (.int .i64 k)) l f := by
  rcases h with ⟨h1, h2, h3⟩ | ⟨h1, m, rfl, h3, h4⟩
  · rw [h1] at hf; cases hf
  · refine .inr ⟨h1, m, rfl, h3, fun j hj hl => ?_⟩
    simp only [same_key] at hl
    by_cases e : j = k
    · omega
    · simp [e] at hl
      exact h4 j hj hl
theorem Least.ends {p : Nat → Bool} {left : Nat → Bool} {l : Int} {f : Bool} (h : Least p left l f) (hl : ∀ k, left k = false) : Least p (fun _ => false) l f := by
  obtain rfl : left = fun _ => false := funext hl
  exact h
set_option maxHeartbeats 4000000 in
set_option maxRecDepth 100000 in
theorem first_ok (w : World) (b n : Nat) (zs : List Int) (p : Nat → Bool) (hT : TextMap w b n zs p) :
    Calls Tryz.prog 41 #[.map (some b)] w fun e w' => ∃ l f, e = .returned (.tuple #[.int .i64 l, .bool f]) ∧ Least p (fun _ => false) l f ∧ Kept w w' := by
  obtain ⟨D, hown, hM⟩ := hT
  go_enter Tryz.func41, Tryz.ntmps41
  go_wp2_with (first
    | (at_range; refine wpList_range_own _ rfl _ 58 rfl 3 3 lawI Tryz.underlying58 _ b n _ rfl hown ?_; intro w0 hrg0 hg0 hs0)
    | go_in)
  go_frame
  go_loopw [4, 5] (fun l f wr => ∃ (left : Lit → Bool) (cnt : Nat) (li : Int) (fb : Bool), l = .int .i64 li ∧ f = .bool fb ∧ wr.ranges Tryz.prog 3 (plainElem Tryz.prog 3) b w.heap.size n D left cnt ∧ Least p (fun k => left (.int .i64 k)) li fb ∧ Kept w wr)
    (fun _ _ wr => wr.rangeLeft b w.heap.size)
  case atStart => exact ⟨_, _, 0, false, rfl, rfl, hrg0, Least.start hM, (Below.refl _ _).grown hg0 (Nat.le_refl _) (by simp)⟩
  case round =>
    obtain ⟨left, cnt, li, fb, rfl, rfl, hrg, hL, hK⟩ := hrel
    go_wp2_with (first
      | (at_next; refine wpList_next_ranges_ii _ rfl _ rfl 3 3 .i64 .i64 lawI Tryz.underlying3 Tryz.underlying3 b w.heap.size n _ _ _ rfl hrg ?_ ?_)
      | go_in)
    · intro _ hl0
      go_wp2
      go_ret2
      exact ⟨li, fb, rfl, hL.ends (fun k => hl0 _), hK⟩
    · intro x c w1 cnt1 hwx hwc hlx hat hrg1 hlt hg1 hs1 hen
      have HK : Hid (Kept w w1) := hK.grownRow hg1 (fun j hj => by cases hj; exact Nat.le_refl _)
      obtain ⟨k, rfl, hp, rfl⟩ := hM.met hat
      have HP : Hid (p k = true) := hp
      clear hat hK hp
      cases fb with
      | false =>
        go_wp2
        go_roundw
        case rel => exact ⟨_, cnt1, _, _, rfl, rfl, hrg1, hL.takes HP.out (.inl rfl), HK.out⟩
        case measure => rw [hrg1.left_eq, hrg.left_eq]; exact hlt
      | true =>
        by_cases hkl : (k : Int) < li
        · go_wp2
          go_roundw
          case rel => exact ⟨_, cnt1, _, _, rfl, rfl, hrg1, hL.takes HP.out (.inr hkl), HK.out⟩
          case measure => rw [hrg1.left_eq, hrg.left_eq]; exact hlt
        · go_wp2
          go_roundw
          case rel => exact ⟨_, cnt1, _, _, rfl, rfl, hrg1, hL.stays rfl hkl, HK.out⟩
          case measure => rw [hrg1.left_eq, hrg.left_eq]; exact hlt
end Go.Proofs.YtmklllkblnjcmaaGreat
namespace Go.Proofs.YtmklllkblnjcmaaGreat
open Go.RowKit Go.Maps

def likeAt (zs : List Int) (f : Nat) (t : ByteArray) (k : Nat) : Bool := sameAs (fun i => hz zs (k + 2 + f + i)) t t.size
set_option maxHeartbeats 400000 in
set_option maxRecDepth 100000 in
theorem giveUnlike_ok (w : World) (b n : Nat) (zs : List Int) (p : Nat → Bool) (bb off cap f : Nat) (t : ByteArray) (hT : TextMap w b n zs p) (hI : Ints w (some ⟨bb, off, none⟩) zs) (hne : bb ≠ b) (hl : zs.length ≤ 1048576) (hcap : zs.length ≤ cap) (ht : 0 < t.size) (hfit : ∀ k, p k = true → k + 2 + f + t.size ≤ zs.length) :
    Calls Tryz.prog 40 #[.map (some b), .slice (some ⟨bb, off, none⟩) zs.length cap, .int .i64 f, .string t] w fun e w' => e = .returned (.tuple #[]) ∧ TextMap w' b n zs (fun k => p k && likeAt zs f t k) ∧ w.grownBy w' (some b) := by
  obtain ⟨D0, hown, hM⟩ := hT
  have HF : Hid (∀ k, p k = true → k + 2 + f + t.size ≤ zs.length) := hfit
  clear hfit
  go_enter Tryz.func40, Tryz.ntmps40
  go_wp2_with (first
    | (at_range; refine wpList_range_own _ rfl _ 58 rfl 3 3 lawI Tryz.underlying58 _ b n _ rfl hown ?_; intro w0 hrg0 hg0 hs0)
    | go_in)
  go_frame
  go_loopw [8] (fun _ wr => ∃ (left : Lit → Bool) (cnt : Nat) (D : DataW Unit), wr.ranges Tryz.prog 3 (plainElem Tryz.prog 3) b w.heap.size n D left cnt ∧ MapIs zs D (sift p (likeAt zs f t) left) ∧ w.grownBy wr (some b))
    (fun _ wr => wr.rangeLeft b w.heap.size)
  case atStart => exact ⟨_, _, _, hrg0, sift_start hM _, hg0.but _⟩
  case round =>
    obtain ⟨left, cnt, D, hrg, hMD, hgw⟩ := hrel
    go_wp2_with (first
      | (at_next; refine wpList_next_ranges_ii _ rfl _ rfl 3 3 .i64 .i64 lawI Tryz.underlying3 Tryz.underlying3 b w.heap.size n _ _ _ rfl hrg ?_ ?_)
      | go_in)
    · intro _ hl0
      go_wp2
      go_end0
      exact ⟨rfl, ⟨_, hrg.owns, sift_end hMD hl0⟩, hgw⟩
    · intro x c w1 cnt1 hwx hwc hlx hat hrg1 hlt hg1 hs1 hen
      have hgw1 := hgw.andThen hg1 (fun j hj => by cases hj; exact Or.inl (Nat.le_refl _))
      obtain ⟨k, rfl, hp, rfl⟩ := hMD.met hat
      have hp' : p k = true := by unfold sift at hp; revert hp; cases p k <;> simp
      have hfk := HF.out k hp'
      have hc0 : ¬ cap = k + 2 + f := by omega
      have hf : f ≤ 1048576 := by omega
      obtain ⟨bb', off', e, hc⟩ := hI.at (k := k) (by omega)
      have hblt : bb < w.heap.size := by cases e; exact World.block_lt_of_cell? _ _ (hc k (by omega))
      have hW := wordsAre_ok w1 bb (off + (k + 2 + f)) (zs.length - (k + 2 + f)) (cap - (k + 2 + f)) (fun i => hz zs (k + 2 + f + i)) t (by omega) (by omega) (fun i hi => by
        cases e
        have h1 := hc (k + 2 + f + i) (by omega)
        have h2 := World.cell?_of_block (w := w) (w' := w1) (a := ⟨bb, off + (k + 2 + f + i), none⟩) (hgw1.block bb hblt (by simp; exact hne))
        rw [show off + (k + 2 + f) + i = off + (k + 2 + f + i) by omega, h2]
        exact h1)
      have HM : Hid (MapIs zs D (sift p (likeAt zs f t) left)) := hMD
      clear hat hc hp hp' hMD e
      cases hlk : likeAt zs f t k with
      | true =>
        have HC : Hid (likeAt zs f t k = true) := hlk
        rw [show sameAs (fun i => hz zs (k + 2 + f + i)) t t.size = true from hlk] at hW
        clear hlk
        go_wp2_with (go_at_call 77; refine hW.mono ?_; rintro e w2 ⟨rfl, hk2⟩)
        have hrg2 := hrg1.kept hk2.grown (by simp) (by simp)
        go_roundw
        case rel => exact ⟨_, cnt1, _, hrg2, sift_stays HM.out HC.out, hgw1.andThen hk2.grown (by simp)⟩
        case measure => rw [hrg2.left_eq, hrg.left_eq]; exact hlt
      | false =>
        have HC : Hid (likeAt zs f t k = false) := hlk
        rw [show sameAs (fun i => hz zs (k + 2 + f + i)) t t.size = false from hlk] at hW
        clear hlk
        go_wp2_with (first
          | (go_at_call 77; refine hW.mono ?_; rintro e w2 ⟨rfl, hk2⟩; have hrg2 := hrg1.kept hk2.grown (by simp) (by simp))
          | (at_delete; refine wpList_delete_ranges _ rfl _ _ 58 3 rfl 3 lawI Tryz.underlying58 _ b w.heap.size n _ _ _ rfl hrg2 _ _ rfl (keyOf_int_mk Tryz.underlying3 hwx) ?_; intro w3 cnt2 hrg3 hle hturn; go_frame))
        rw [strike_twice] at hrg3
        go_roundw
        case rel => exact ⟨_, cnt2, _, hrg3, sift_struck HM.out HC.out, (hgw1.andThen hk2.grown (by simp)).andThen hturn.grown (fun j hj => by cases hj; exact Or.inr rfl)⟩
        case measure => rw [hrg3.left_eq, hrg.left_eq]; omega
end Go.Proofs.YtmklllkblnjcmaaGreat
namespace Go.Proofs.YtmklllkblnjcmaaGreat
open Go.RowKit Go.Shelf Go.Maps
attribute [local go_sem] Oper.semAt_some

/-- Those of these blocks that are texts. -/
def isThere {L : Nat} (bs : List (BkOf L)) (k : Nat) : Bool := bs.any (fun b => decide (b.1.kind = 1) && decide (k = b.1.at'))
theorem isThere_snoc {L : Nat} (bs : List (BkOf L)) (x : BkOf L) (k : Nat) : isThere (bs ++ [x]) k = (isThere bs k || (decide (x.1.kind = 1) && decide (k = x.1.at'))) := by simp [isThere, List.any_append]
theorem TextMap.kept {w w' : World} {b n : Nat} {zs : List Int} {p : Nat → Bool} (h : TextMap w b n zs p) {row : Option Nat} (hg : w.grownBy w' row) (hne : some b ≠ row) : TextMap w' b n zs p := by
  obtain ⟨D, h1, h2⟩ := h
  exact ⟨D, h1.kept hg hne, h2⟩
theorem TextMap.mono {w : World} {b n n' : Nat} {zs : List Int} {p : Nat → Bool} (h : TextMap w b n zs p) (hn : n ≤ n') : TextMap w b n' zs p := by
  obtain ⟨D, h1, h2⟩ := h
  exact ⟨D, h1.mono hn, h2⟩
theorem TextMap.congr {w : World} {b n : Nat} {zs : List Int} {p q : Nat → Bool} (h : TextMap w b n zs p) (e : ∀ k, p k = q k) : TextMap w b n zs q := by
  obtain ⟨D, h1, h2⟩ := h
  exact ⟨D, h1, h2.congr e⟩
set_option maxHeartbeats 2000000 in
set_option maxRecDepth 100000 in
theorem textsOf_ok (w : World) (ao : Option Addr) (cap : Nat) (zs : List Int) (hI : Ints w ao zs) (hl : zs.length ≤ 1048576) :
    Calls Tryz.prog 37 #[.slice ao zs.length cap] w fun e w' => ∃ b n, e = .returned (.map (some b)) ∧ w.heap.size ≤ b ∧ TextMap w' b n zs (isThere (blocks zs)) ∧ Kept w w' := by
  have hL : zs.length * 8 ≤ 140737488351232 := by omega
  have hmm := @run_makeMap Tryz.prog
  refine (callsIn_wide (n := 3)).1 ?_
  refine callsIn_of_wp_marks Tryz.func37 rfl trivial ?_ rfl
  simp only [Tryz.ntmps37, List.size_toArray, List.length_cons, List.length_nil, Nat.reduceAdd, Nat.reduceSub, Array.replicate_succ, Array.replicate_zero, List.push_toArray, List.append_toArray, List.nil_append, List.cons_append]
  gi_wp2_with (refine ⟨trivial, ?_⟩; gi_at_call 66; refine (callsIn_wide.2 (blocksOf_ok _ _ _ _)).mono ?_; rintro e w' ⟨rfl, rfl⟩)
  have bS := (((Cells.new w 24 #[.slice ao zs.length cap]).alloc (.map #[] 0)).alloc (.cells #[.map (some (w.heap.size + 1))] 58)).alloc (.cells #[.slice ao zs.length cap] 24)
  have bT := (Cells.new ((w.alloc (.cells #[.slice ao zs.length cap] 24)).alloc (.map #[] 0)) 58 #[.map (some (w.heap.size + 1))]).alloc (.cells #[.slice ao zs.length cap] 24)
  have bB := Cells.new (((w.alloc (.cells #[.slice ao zs.length cap] 24)).alloc (.map #[] 0)).alloc (.cells #[.map (some (w.heap.size + 1))] 58)) 24 #[.slice ao zs.length cap]
  have hk0 : Kept w ((((w.alloc (.cells #[.slice ao zs.length cap] 24)).alloc (.map #[] 0)).alloc (.cells #[.map (some (w.heap.size + 1))] 58)).alloc (.cells #[.slice ao zs.length cap] 24)) := (((Kept.alloc (Below.refl _ _) _).alloc _).alloc _).alloc _
  have hm0 : TextMap ((((w.alloc (.cells #[.slice ao zs.length cap] 24)).alloc (.map #[] 0)).alloc (.cells #[.map (some (w.heap.size + 1))] 58)).alloc (.cells #[.slice ao zs.length cap] 24)) (w.heap.size + 1) 0 zs (isThere (L := zs.length) []) := by
    refine ⟨.map [], ?_, MapIs.empty zs⟩
    have := World.ownsMap_made (H := Unit) (w.alloc (.cells #[.slice ao zs.length cap] 24)) Tryz.prog 3 (plainElem Tryz.prog 3)
    simp only [World.size_alloc] at this
    exact (this.alloc _).alloc _
  have hsz : ((((w.alloc (.cells #[.slice ao zs.length cap] 24)).alloc (.map #[] 0)).alloc (.cells #[.map (some (w.heap.size + 1))] 58)).alloc (.cells #[.slice ao zs.length cap] 24)).heap.size = w.heap.size + 4 := by simp
  simp only [World.size_alloc] at bT bB
  obtain ⟨W0, hW0⟩ : ∃ W0, (((w.alloc (.cells #[.slice ao zs.length cap] 24)).alloc (.map #[] 0)).alloc (.cells #[.map (some (w.heap.size + 1))] 58)).alloc (.cells #[.slice ao zs.length cap] 24) = W0 := ⟨_, rfl⟩
  rw [hW0] at bS bT bB hk0 hm0 hsz ⊢
  clear hW0 hmm
  refine range_blocks (X := fun _ => False) (nX := w.heap.size + 3) (zs := zs) (ao := ao) (cap := cap) (by omega) rfl (by simp) (by simp) (by decide) hL hI hk0 (by intro k h; exact h.elim) (by intro k h; exact h.elim) (by intro k h; exact h.elim) (by omega) bB
    (fun pre W => (TextMap W (w.heap.size + 1) pre.length zs (isThere pre) ∧ Cells W w.heap.size 24 #[.slice ao zs.length cap] ∧ Cells W (w.heap.size + 1 + 1) 58 #[.map (some (w.heap.size + 1))]) ∧ Below w.heap.size w W)
    (fun _ _ _ => False)
    (OwnFrom.and (OwnFrom.and (fun s Y Z row h hg hr => h.kept hg (fun e => by have := (hr _ e.symm).1; omega)) (OwnFrom.and (Own.from (Cells.own _ _ _) _) (Own.from (Cells.own _ _ _) _))) (ownFrom_below (Nat.le_refl _) (by omega)))
    (fun _ _ _ _ _ hs _ _ => hs)
    ⟨⟨hm0, bS, bT⟩, hk0⟩ ?body ?done ?stop
  case body =>
    rintro l pre x W Bx hBx bX ⟨⟨⟨D, hown, hM⟩, bS1, bT1⟩, hB1⟩ hlt
    have hx := x.2
    have c0 := bX.cell 0
    have c1 := bX.cell 1
    have c2 := bX.cell 2
    have cS := bS1.cell 0
    have cT := bT1.cell 0
    obtain ⟨bb, off, e, hc⟩ := (hI.kept hB1).at (k := x.1.at') (by have := hx.1; have := hx.2.1; omega)
    subst e
    have cw := hc (x.1.at' + 1) (by have := hx.1; have := hx.2.1; omega)
    have hlt2 : x.1.at' + 1 < zs.length := by have := hx.1; have := hx.2.1; omega
    have t1 : (((x.1.at' : Nat) : Int) + 1).toNat = x.1.at' + 1 := by omega
    have q1 : ((x.1.at' : Nat) : Int) + 1 < (zs.length : Int) := by omega
    simp only [List.setIfInBounds_toArray, List.set_cons_succ, List.set_cons_zero]
    by_cases hk : x.1.kind = 1
    · have e1 : (((x.1.kind : Nat) : Int) == 1) = true := by simp [hk]
      obtain ⟨w4, hrun, hown4, hturn4⟩ := hown.drew.store lawI Tryz.underlying58 (by have := blocks_count zs; unfold maxLen; omega) (keyOf_int_mk Tryz.underlying3 (a := (x.1.at' : Nat)) (WalkArith.wf_i64 (by omega))) (plainElem_int Tryz.underlying3 (a := hz zs (x.1.at' + 1)) (WalkArith.wf_i64 (hI.1 _ (by unfold hz; rw [List.getElem?_eq_getElem hlt2]; exact List.getElem_mem hlt2))))
      have hwr : IntKind.i64.wrap (((x.1.at' : Nat) : Int) + 1) = ((x.1.at' : Nat) : Int) + 1 := by rw [IntWalk.i64_left, IntWalk.wrap64_in _ (by omega)]
      have him : Hid (IsMap D) := hown.isMap
      clear hc hlt hx hown
      gi_wp2_with fail
      refine wpIn_region_last (os := [_, _, _, _, _, _, _, _, _]) (ol := _) (fun _ => trivial) (by kernel_rfl) (by kernel_rfl) (by kernel_rfl) rfl rfl ?_
      repeat (refine SeqR.read ?_ rfl (by simp) ?_ ?_; rotate_left; (focus (go_simp; first | done | exact rfl)); simp only [Act.put, List.setIfInBounds_toArray, List.set_cons_zero, List.set_cons_succ])
      refine SeqR.nil ?_
      refine ⟨fun _ _ => trivial, ?_⟩
      go_simp
      have hg4 : W.grownBy w4 (some (w.heap.size + 1)) := ⟨hturn4.grown.os, hturn4.grown.tape, hturn4.grown.output, hturn4.grown.size, hturn4.grown.block⟩
      have hkx : KeepX (fun _ => False) W0.heap.size W w4 := ⟨hg4.size, fun k o ek hc _ _ => (hg4.block k (Array.getElem?_eq_some_iff.1 ek).1 (by
        intro e'
        cases e'
        obtain ⟨es, cl, es', cl', hmp, _⟩ := hturn4
        rw [show W.heap[w.heap.size + 1]? = _ from hmp] at ek
        cases ek; cases hc)).trans ek⟩
      refine ⟨KeepsFrom.of_grownBy hg4 (fun j e => by cases e; omega), hkx, ⟨⟨?_, hkx.2 _ _ bS1 rfl id (fun h => by omega), hkx.2 _ _ bT1 rfl id (fun h => by omega)⟩, hB1.grown hg4 hB1.size (fun j e => by cases e; omega)⟩⟩
      exact (show TextMap w4 _ _ _ _ from ⟨_, by simpa using hown4, hM.put him.out x.1.at'⟩).congr (fun k => by rw [isThere_snoc]; simp [hk])
    · have e1 : (((x.1.kind : Nat) : Int) == 1) = false := by simp; omega
      clear hc
      gi_wp2
      refine ⟨(KeepsOthers.refl _).from _, KeepX.of (Below.refl _ _), ⟨⟨?_, bS1, bT1⟩, hB1⟩⟩
      exact (TextMap.mono ⟨D, hown, hM⟩ (by simp)).congr (fun k => by rw [isThere_snoc]; simp [hk])
  case done =>
    rintro D W hD ⟨⟨hT1, bS1, bT1⟩, hB1⟩ hK
    have cT := bT1.cell 0
    gi_wp2
    refine ⟨by simp, .inl ⟨_, _, rfl, run_takeDeferred hK, ?_⟩⟩
    refine ⟨_, results_tmp rfl _ _ _, ?_⟩
    refine ⟨w.heap.size + 1, (blocks zs).length, rfl, by omega, hT1.kept (grownBy_putObj' _ _ _) ?_, hB1.trans (belowK_b (w := w) (Nat.le_refl _) W D _ _ (by omega) hK rfl rfl)⟩
    intro e
    cases e
    omega
  case stop =>
    rintro D c pre W _ _ h _
    exact h.elim
end Go.Proofs.YtmklllkblnjcmaaGreat
namespace Go.Proofs.YtmklllkblnjcmaaGreat
open Go.RowKit
attribute [local go_sem] Plain.and7

theorem own_fullB {W : World} {base n g : Nat} {xs : List Value} (h : W.ownsRow base 5 1 (.slice (some ⟨g, 0, none⟩) n n) n xs) : Cells W g 5 xs.toArray := by
  rcases h.2 with ⟨e, _⟩ | ⟨g', cap, cur, e, _, hc, _, _, hs, ht⟩
  · cases e
  · cases e
    have : cur.toList = xs := by rw [← ht, List.take_of_length_le (by simp; omega)]
    show W.heap[g]? = _
    rw [hc, ← this]
theorem madeBytes (n : Nat) : (madeCells (Value.int .u8 0).cells (n * 1)).toList = (List.replicate n (0 : Int)).map (Value.int .u8) := by
  apply List.ext_getElem
  · simp [madeCells]
  · intro i h1 h2
    simp [madeCells, Value.cells, Nat.mod_one]
/-- Bytes that are written so far, of n in all. -/
def mixB (zs : List Int) (f n k : Nat) : List Int := (List.range n).map (fun i => if i < k then hz zs (f + i) else 0)
theorem mixB_len (zs : List Int) (f n k : Nat) : (mixB zs f n k).length = n := by simp [mixB]
theorem mixB_zero (zs : List Int) (f n : Nat) : mixB zs f n 0 = List.replicate n 0 := by
  apply List.ext_getElem
  · simp [mixB]
  · intro i h1 h2; simp [mixB]
theorem mixB_all (zs : List Int) (f n : Nat) : mixB zs f n n = bytesL zs f n := by
  apply List.ext_getElem
  · simp [mixB, bytesL]
  · intro i h1 h2
    have : i < n := by simpa [mixB] using h1
    simp [mixB, bytesL, this]
theorem mixB_succ (zs : List Int) (f n k : Nat) : (mixB zs f n k).set k (hz zs (f + k)) = mixB zs f n (k + 1) := by
  apply List.ext_getElem
  · simp [mixB]
  · intro i h1 h2
    rw [List.getElem_set]
    simp only [mixB, List.getElem_map, List.getElem_range]
    by_cases h : k = i
    · subst h; simp
    · rw [if_neg h]
      by_cases hi : i < k
      · rw [if_pos hi, if_pos (by omega)]
      · rw [if_neg hi, if_neg (by omega)]
abbrev rowB (xs : List Int) : Array Value := (xs.map (Value.int .u8)).toArray
theorem rowB_cell {W : World} {g : Nat} {xs : List Int} (h : Cells W g 5 (rowB xs)) {j : Nat} (hj : j < xs.length) : W.cell? ⟨g, j, none⟩ = some (.int .u8 (xs.getD j 0)) := by
  rw [h.cell j]; simp [hj]
theorem rowB_set {W : World} {g : Nat} {xs : List Int} (h : Cells W g 5 (rowB xs)) (j : Nat) (v : Int) : Cells (W.setCell ⟨g, j, none⟩ (.int .u8 v)) g 5 (rowB (xs.set j v)) := by
  have := h.set j (.int .u8 v)
  simpa [rowB, List.map_set] using this
theorem conv_row {W : World} {g cap : Nat} {xs : List Int} (h : Cells W g 5 (rowB xs)) : (convert 22 9 (.slice (some ⟨g, 0, none⟩) xs.length cap)).run Tryz.prog W = .ok (.string (strOfNums xs)) W :=
  run_convert_bytes_arg W 22 5 Tryz.underlying22 Tryz.underlying5 g 0 xs.length cap xs rfl (fun j hj => by rw [Nat.zero_add]; exact rowB_cell h hj) 9 Tryz.underlying9

set_option maxHeartbeats 4000000 in
set_option maxRecDepth 100000 in
theorem readText_ok (w : World) (ao : Option Addr) (cap : Nat) (zs : List Int) (a n : Nat) (hI : Ints w ao zs) (hl : zs.length ≤ 1048576) (hn : hz zs (a + 1) = (n : Int)) (hbx : a + 2 + n ≤ zs.length) (hby : ∀ k, k < n → 0 ≤ hz zs (a + 2 + k) ∧ hz zs (a + 2 + k) ≤ 255) :
    Calls Tryz.prog 31 #[.slice ao zs.length cap, .int .i64 (a : Int)] w fun e w' => e = .returned (.string (strOfNums (bytesL zs (a + 2) n))) ∧ Kept w w' := by
  obtain ⟨i0, hi, hz0, hz1, hz2⟩ := info_parts infoB
  obtain ⟨bb, off, rfl, hc⟩ := hI.at (k := 0) (by omega)
  have hbl : bb < w.heap.size := World.block_lt_of_cell? _ _ (hc 0 (by omega))
  have h1 : w.cell? ⟨bb, off + (a + 1), none⟩ = some (.int .i64 (n : Int)) := by rw [← hn]; exact hc (a + 1) (by omega)
  have hw : ∀ k, k < n → w.cell? ⟨bb, off + (a + 2 + k), none⟩ = some (.int .i64 (hz zs (a + 2 + k))) := fun k hk => hc (a + 2 + k) (by omega)
  have t1 : ((a : Int) + 1).toNat = a + 1 := by omega
  have p1 : (a : Int) + 1 < (zs.length : Int) := by omega
  clear hc hn hI
  go_enter Tryz.func31, Tryz.ntmps31
  go_wp2_with (at_make; refine wpList_make_full _ rfl _ _ 22 rfl w.heap.size 5 i0 (.int .u8 0) 1 Tryz.underlying22 hi hz0 hz1 .i64 .i64 _ _ n rfl rfl rfl rfl (by rw [hz2]; omega) (by unfold maxLen; omega) (by simp) ?_; intro w2 hown hgrow)
  rw [madeBytes, ← mixB_zero zs (a + 2)] at hown
  have hc2 : Cells w2 w.heap.size 5 (rowB (mixB zs (a + 2) n 0)) := own_fullB hown
  have hK2 : Kept w w2 := (Below.refl _ _).grown hgrow (Nat.le_refl _) (by simp)
  obtain ⟨g, hg⟩ : ∃ g, w.heap.size = g := ⟨_, rfl⟩
  have hgl : bb < g := by omega
  rw [hg] at hc2 ⊢
  clear hown hgrow h1 t1 p1
  go_wp2_with fail
  go_loopw [15] (fun i wr => ∃ k : Nat, i = .int .i64 k ∧ k ≤ n ∧ Cells wr g 5 (rowB (mixB zs (a + 2) n k)) ∧ Kept w wr) (fun i _ => n - (intOf i).toNat)
  case atStart => exact ⟨0, rfl, Nat.zero_le _, hc2, hK2⟩
  case round =>
    obtain ⟨k, rfl, hk, hrow, hK⟩ := hrel
    clear hc2 hK2
    have HK : Hid (Kept w wr) := hK
    by_cases hlt : k < n
    · have cw2 := (hK.cell (p := ⟨bb, off + (a + 2 + k), none⟩) hbl).trans (hw k hlt)
      have t2 : ((a : Int) + 2 + (k : Int)).toNat = a + 2 + k := by omega
      have p2 : (a : Int) + 2 + (k : Int) < (zs.length : Int) := by have := hbx; omega
      have p0 : (0 : Int) ≤ (a : Int) + 2 + (k : Int) := by omega
      have u8 := IntWalk.u8_in _ (hby k hlt)
      have g0 := (hby k hlt).1
      have g1 := (hby k hlt).2
      have cg := rowB_cell hrow (j := k) (by rw [mixB_len]; exact hlt)
      have fg := hrow.frozen k
      have HR2 : Hid _ := rowB_set hrow k (hz zs (a + 2 + k))
      have q1 : (k : Int) < (n : Int) := by omega
      clear hK hrow
      go_wp2_with fail
      go_roundw
      case rel => exact ⟨k + 1, by go_num, by omega, by rw [← mixB_succ]; exact HR2.out, HK.out.set (p := ⟨g, k, none⟩) (by simp; omega) _⟩
      case measure => simp [intOf]; omega
    · obtain rfl : n = k := by omega
      rw [mixB_all] at hrow
      have hcv := conv_row (cap := n) hrow
      rw [bytesL_len] at hcv
      clear hK hrow
      go_wp2
      go_ret
      exact ⟨rfl, HK.out⟩
set_option maxHeartbeats 4000000 in
set_option maxRecDepth 100000 in
theorem impl_TextOf_ok (w : World) (ao : Option Addr) (cap : Nat) (zs : List Int) (v : Int) (hI : Ints w ao zs) (hl : zs.length ≤ 1048576) (hv0 : -9223372036854775808 ≤ v) (hv1 : v ≤ 9223372036854775807) :
    Calls Tryz.prog 13 #[.agg #[.slice ao zs.length cap], .int .i64 v] w fun e w' => e = .returned (.string (textOfR zs v)) ∧ Kept w w' := by
  have b0 := Cells.new w 26 #[.slice ao zs.length cap]
  have k0 : Kept w (w.alloc (.cells #[.slice ao zs.length cap] 26)) := Kept.alloc (Below.refl _ _) _
  have hLo := heapLayout_ok _ ao cap zs (hI.kept k0) hl
  cases hh : heapR zs with
  | false =>
    have HR : Hid (textOfR zs v = ⟨#[]⟩) := by simp [Hid, textOfR, hh]
    have hLo' := hLo.mono (R' := fun e w' => e = .returned (.tuple #[.slice none 0 0, .bool false]) ∧ Kept (w.alloc (.cells #[.slice ao zs.length cap] 26)) w') (fun e w' h => ⟨h.1 hh, h.2.2⟩)
    clear hh hI hLo
    go_enter Tryz.func13, Tryz.ntmps13
    go_wp2_with (go_at_call 29; refine hLo'.mono ?_; rintro e w1 ⟨rfl, hk1⟩)
    go_ret
    exact ⟨by rw [HR.out]; rfl, k0.trans hk1⟩
  | true =>
    have hLo' := hLo.mono (R' := fun e w' => ∃ lo lc, e = .returned (.tuple #[.slice lo zs.length lc, .bool true]) ∧ Ints w' lo (lyt zs) ∧ Kept (w.alloc (.cells #[.slice ao zs.length cap] 26)) w') (fun e w' h => by obtain ⟨lo, lc, h1, h2⟩ := h.2.1 hh; exact ⟨lo, lc, h1, h2, h.2.2⟩)
    clear hLo
    have hV := fun (u : World) (lo : Option Addr) (lc : Nat) (hu : Ints u lo (lyt zs)) => valueOk_ok u lo lc zs 7 v hu hv0 hv1
    rw [val7] at hV
    by_cases hg : v % 8 = 4 ∧ leadsR zs v 0 = true
    · obtain ⟨b, hb, e, hk, hm⟩ := leads_text hg.1 hg.2
      obtain ⟨n, hn, hns, hby⟩ := text_facts hh hm hk
      have hble := b.2.2.1
      have HR : Hid (textOfR zs v = strOfNums (bytesL zs (b.1.at' + 2) n)) := by
        show _ = _
        unfold textOfR textL
        rw [if_pos ⟨hg.1, hh, hg.2⟩, e]
        simp [hn]
      obtain ⟨a, ha⟩ : ∃ a : Nat, b.1.at' = a := ⟨_, rfl⟩
      rw [ha] at e HR hn hble hby
      have hV' : (decide (v % 8 = 4) && leadsR zs v 0) = true := by simp [hg.1, hg.2]
      rw [hV'] at hV
      have hRT := fun (u : World) (hu : Kept w u) => readText_ok u ao cap zs a n (hI.kept hu) hl hn (by omega) hby
      have HRT : Hid _ := hRT
      have HN : Hid (∀ (u : World), Calls Tryz.prog 32 #[.int .i64 v] u fun e w' => e = .returned (.int .i64 (a : Int)) ∧ Kept u w') := fun u => by
        refine (impl_Num_ok v u hv0 hv1).mono ?_
        rintro e' w' ⟨rfl, rfl⟩
        exact ⟨by rw [e], Below.refl _ _⟩
      clear hn hI hh hb hk hm ha hg hV' hns hble hby hRT e
      go_enter Tryz.func13, Tryz.ntmps13
      go_wp2_with (first | (go_at_call 29; refine hLo'.mono ?_; rintro e w1 ⟨lo, lc, rfl, hLy, hk1⟩; have hV1 := hV w1 lo lc hLy; clear hLy) | (go_at_call 30; refine hV1.mono ?_; rintro e wx ⟨rfl, rfl⟩))
      have kd1 : ∀ u, Kept w1.drew u → Kept w u := fun u hu => (k0.trans hk1).trans (Kept.trans (Below.refl _ w1).drew hu)
      have b1 := b0.kept hk1
      have y0 : ∀ u, Kept w1.drew u → u.cell? ⟨w.heap.size, 0, none⟩ = some (.slice ao zs.length cap) := fun u hu => (b1.kept (Kept.trans (Below.refl _ w1).drew hu)).cell 0
      have C1 : Hid (∀ u, Kept w1.drew u → Calls Tryz.prog 32 #[.int .i64 v] u fun e w' => e = .returned (.int .i64 (a : Int)) ∧ Kept u w') := fun u _ => HN.out u
      have C2 : Hid (∀ u, Kept w1.drew u → Calls Tryz.prog 31 #[.slice ao zs.length cap, .int .i64 (a : Int)] u fun e w' => e = .returned (.string (strOfNums (bytesL zs (a + 2) n))) ∧ Kept u w') := fun u hu => HRT.out u (kd1 u hu)
      refine wp_region_seqL (by kernel_rfl) (by kernel_rfl) ?_
      repeat (first
        | (refine SeqL.skip (by rfl) ?_; simp only [Act.put, List.setIfInBounds_toArray, List.set_cons_zero, List.set_cons_succ])
        | (refine SeqL.pure ?_ (by rfl) ?_ ?_; rotate_left; (focus (intro u hu; have y0' := y0 u hu; go_simp; first | done | exact rfl)); simp only [Act.put, List.setIfInBounds_toArray, List.set_cons_zero, List.set_cons_succ])
        | (refine SeqL.call _ _ _ (by rfl) ?_ C1.out ?_; (focus (intro u; go_simp; done)); simp only [Act.put, List.setIfInBounds_toArray, List.set_cons_zero, List.set_cons_succ])
        | (refine SeqL.call _ _ _ (by rfl) ?_ C2.out ?_; (focus (intro u; go_simp; done)); simp only [Act.put, List.setIfInBounds_toArray, List.set_cons_zero, List.set_cons_succ]))
      refine SeqL.nil ?_
      intro w2 hu2
      have k2 := kd1 w2 hu2
      clear y0 C1 C2 kd1 hu2 hV hV1 hLo'
      go_wp2_with fail
      go_ret
      exact ⟨by rw [HR.out]; rfl, k2⟩
    · have HR : Hid (textOfR zs v = ⟨#[]⟩) := by
        show _ = _
        unfold textOfR
        rw [if_neg (fun h => hg ⟨h.1, h.2.2⟩)]
      have hV' : (decide (v % 8 = 4) && leadsR zs v 0) = false := by
        rw [Bool.eq_false_iff]; simpa using hg
      rw [hV'] at hV
      clear hI hh hg hV'
      go_enter Tryz.func13, Tryz.ntmps13
      go_wp2_with (first | (go_at_call 29; refine hLo'.mono ?_; rintro e w1 ⟨lo, lc, rfl, hLy, hk1⟩; have hV1 := hV w1 lo lc hLy; clear hLy) | (go_at_call 30; refine hV1.mono ?_; rintro e wx ⟨rfl, rfl⟩))
      go_ret
      exact ⟨by rw [HR.out]; rfl, k0.trans hk1⟩
end Go.Proofs.YtmklllkblnjcmaaGreat
