/-
  giveUnlike.
-/
import Derived.Test.YthkhlmbhickdbaaTextE
import Derived.Test.YthkhlmbhickdbaaTextF
namespace Go.Proofs.Ythkhlmbhickdbaa
open Go.RowKit Go.Maps

def likeAt (zs : List Int) (f : Nat) (t : ByteArray) (k : Nat) : Bool := sameAs (fun i => hz zs (k + 2 + f + i)) t t.size
set_option maxHeartbeats 400000 in
set_option maxRecDepth 100000 in
theorem giveUnlike_ok (w : World) (b n : Nat) (zs : List Int) (p : Nat → Bool) (bb off cap f : Nat) (t : ByteArray) (hT : TextMap w b n zs p) (hI : Ints w (some ⟨bb, off, none⟩) zs) (hne : bb ≠ b) (hl : zs.length ≤ 1048576) (hcap : zs.length ≤ cap) (ht : 0 < t.size) (hfit : ∀ k, p k = true → k + 2 + f + t.size ≤ zs.length) :
    Calls Try.prog 61 #[.map (some b), .slice (some ⟨bb, off, none⟩) zs.length cap, .int .i64 f, .string t] w fun e w' => e = .returned (.tuple #[]) ∧ TextMap w' b n zs (fun k => p k && likeAt zs f t k) ∧ w.grownBy w' (some b) := by
  obtain ⟨D0, hown, hM⟩ := hT
  have HF : Hid (∀ k, p k = true → k + 2 + f + t.size ≤ zs.length) := hfit
  clear hfit
  go_enter Try.func61, Try.ntmps61
  go_wp2_with (first
    | (at_range; refine wpList_range_own _ rfl _ 74 rfl 3 3 lawI Try.underlying74 _ b n _ rfl hown ?_; intro w0 hrg0 hg0 hs0)
    | go_in)
  go_frame
  go_loopw [8] (fun _ wr => ∃ (left : Lit → Bool) (cnt : Nat) (D : DataW Unit), wr.ranges Try.prog 3 (plainElem Try.prog 3) b w.heap.size n D left cnt ∧ MapIs zs D (sift p (likeAt zs f t) left) ∧ w.grownBy wr (some b))
    (fun _ wr => wr.rangeLeft b w.heap.size)
  case atStart => exact ⟨_, _, _, hrg0, sift_start hM _, hg0.but _⟩
  case round =>
    obtain ⟨left, cnt, D, hrg, hMD, hgw⟩ := hrel
    go_wp2_with (first
      | (at_next; refine wpList_next_ranges_ii _ rfl _ rfl 3 3 .i64 .i64 lawI Try.underlying3 Try.underlying3 b w.heap.size n _ _ _ rfl hrg ?_ ?_)
      | go_in)
    · intro _ hl0
      go_wp2
      go_end0
      exact ⟨rfl, ⟨_, hrg.owns, sift_end hMD hl0⟩, hgw⟩
    · intro x c w1 cnt1 hwx hwc hlx hat hrg1 hlt hg1 hs1 hen
      have hgw1 := hgw.andThen hg1 (fun j hj => by cases hj; exact Or.inl (Nat.le_refl _))
      obtain ⟨k, rfl, hp, rfl⟩ := hMD.met hat
      have hp' : p k = true := by unfold sift at hp; revert hp; cases p k <;> simp
      have hfk := HF.out k hp'
      have hc0 : ¬ cap = k + 2 + f := by omega
      have hf : f ≤ 1048576 := by omega
      obtain ⟨bb', off', e, hc⟩ := hI.at (k := k) (by omega)
      have hblt : bb < w.heap.size := by cases e; exact World.block_lt_of_cell? _ _ (hc k (by omega))
      have hW := wordsAre_ok w1 bb (off + (k + 2 + f)) (zs.length - (k + 2 + f)) (cap - (k + 2 + f)) (fun i => hz zs (k + 2 + f + i)) t (by omega) (by omega) (fun i hi => by
        cases e
        have h1 := hc (k + 2 + f + i) (by omega)
        have h2 := World.cell?_of_block (w := w) (w' := w1) (a := ⟨bb, off + (k + 2 + f + i), none⟩) (hgw1.block bb hblt (by simp; exact hne))
        rw [show off + (k + 2 + f) + i = off + (k + 2 + f + i) by omega, h2]
        exact h1)
      have HM : Hid (MapIs zs D (sift p (likeAt zs f t) left)) := hMD
      clear hat hc hp hp' hMD e
      cases hlk : likeAt zs f t k with
      | true =>
        have HC : Hid (likeAt zs f t k = true) := hlk
        rw [show sameAs (fun i => hz zs (k + 2 + f + i)) t t.size = true from hlk] at hW
        clear hlk
        go_wp2_with (go_at_call 96; refine hW.mono ?_; rintro e w2 ⟨rfl, hk2⟩)
        have hrg2 := hrg1.kept hk2.grown (by simp) (by simp)
        go_roundw
        case rel => exact ⟨_, cnt1, _, hrg2, sift_stays HM.out HC.out, hgw1.andThen hk2.grown (by simp)⟩
        case measure => rw [hrg2.left_eq, hrg.left_eq]; exact hlt
      | false =>
        have HC : Hid (likeAt zs f t k = false) := hlk
        rw [show sameAs (fun i => hz zs (k + 2 + f + i)) t t.size = false from hlk] at hW
        clear hlk
        go_wp2_with (first
          | (go_at_call 96; refine hW.mono ?_; rintro e w2 ⟨rfl, hk2⟩; have hrg2 := hrg1.kept hk2.grown (by simp) (by simp))
          | (at_delete; refine wpList_delete_ranges _ rfl _ _ 74 3 rfl 3 lawI Try.underlying74 _ b w.heap.size n _ _ _ rfl hrg2 _ _ rfl (keyOf_int_mk Try.underlying3 hwx) ?_; intro w3 cnt2 hrg3 hle hturn; go_frame))
        rw [strike_twice] at hrg3
        go_roundw
        case rel => exact ⟨_, cnt2, _, hrg3, sift_struck HM.out HC.out, (hgw1.andThen hk2.grown (by simp)).andThen hturn.grown (fun j hj => by cases hj; exact Or.inr rfl)⟩
        case measure => rw [hrg3.left_eq, hrg.left_eq]; omega
end Go.Proofs.Ythkhlmbhickdbaa
