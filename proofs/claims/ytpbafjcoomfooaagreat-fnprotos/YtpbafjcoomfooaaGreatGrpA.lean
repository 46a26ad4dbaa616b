/-
  A law on regions inside a round (whatever order is drawn), and the pair of assignments of impl.freeAbout by it.
  The contract of impl.freeAbout: how far a block reaches as free and one with the free ones about it.
  The contract of impl.Give.
-/
import Derived.Sort.CutIn
import Derived.Test.YtpbafjcoomfooaaGreatSlabV
import Derived.Test.YtpbafjcoomfooaaGreatSlabX
import Derived.Test.YtpbafjcoomfooaaGreatGrpP
namespace Go.Proofs.YtpbafjcoomfooaaGreat
open Go.RowKit Go.Shelf
attribute [local go_sem] Oper.semAt_some

/-- Whatever order is drawn: what holds ahead of each operation that may come up holds behind it. -/
theorem wpAnyIn_inv {F : Fence} {n : Nat} {P : Program} {md : Region.Mode} {ops : Array Oper} {Q : Exit → Act → World → Prop} (Inv : Nat → Array Bool → Act → World → Prop)
    (h0 : ∀ listed a w, Inv 0 listed a w → Region.ready md ops listed = [])
    (hd : ∀ f listed a w, Inv f listed a w → Region.ready md ops listed = [] → Q .normal a w)
    (hs : ∀ f listed a w i, Inv (f + 1) listed a w → i ∈ Region.ready md ops listed → wpOpIn F n P ops Q i (Inv f (listed.setIfInBounds i true)) a w) :
    ∀ f listed a w, Inv f listed a w → wpAnyIn F n P md ops Q f listed a w
  | 0, _, _, _, h => ⟨h0 _ _ _ h, hd _ _ _ _ h (h0 _ _ _ h)⟩
  | f + 1, _, _, _, h => ⟨hd _ _ _ _ h, fun i hi => wpOpIn_mono (fun a' w' h' => wpAnyIn_inv Inv h0 hd hs f _ a' w' h') (hs _ _ _ _ i h hi)⟩

end Go.Proofs.YtpbafjcoomfooaaGreat
namespace Go.Proofs.YtpbafjcoomfooaaGreat
open Go.RowKit Go.Shelf
attribute [local go_sem] Oper.semAt_some

theorem about_past {zs : List Int} {b : Bk} {pre : List (BkOf zs.length)} {x : BkOf zs.length} (hp : pre ++ [x] <+: blocks zs) (hx : b.at' + b.size ≤ x.1.at') : (raw (pre ++ [x])).foldl (stp b.at' (b.at' + b.size)) (b.at', b.size) = about zs b := by
  obtain ⟨rest, e⟩ := hp
  unfold about
  rw [← e]
  simp only [raw]
  rw [List.map_append (l₂ := rest), List.foldl_append]
  refine (stps_id _ _ ?_).symm
  intro y hy
  obtain ⟨z, hz, rfl⟩ := List.mem_map.1 hy
  have hs := blks_sorted zs 0
  rw [show blks zs 0 = blocks zs from rfl, ← e] at hs
  have := (List.pairwise_append.1 hs).2.2 x (by simp) z hz
  omega
theorem stp_eq {a e f1 f2 : Nat} (x : Bk) : stp a e (f1, f2) x = ((if decide (x.kind = 0 ∧ x.at' + x.size = a) = true then x.at' else f1), (if decide (x.kind = 0 ∧ x.at' = e) = true then (if decide (x.kind = 0 ∧ x.at' + x.size = a) = true then f2 + x.size else f2) + x.size else (if decide (x.kind = 0 ∧ x.at' + x.size = a) = true then f2 + x.size else f2))) := by
  unfold stp
  by_cases h1 : x.kind = 0 ∧ x.at' + x.size = a <;> by_cases h2 : x.kind = 0 ∧ x.at' = e
  · rw [if_pos h2]; simp only [if_pos h1, decide_eq_true h1, decide_eq_true h2, if_true]
  · rw [if_neg h2]; simp only [if_pos h1, decide_eq_true h1, decide_eq_false h2, if_true, Bool.false_eq_true, if_false]
  · rw [if_pos h2]; simp only [if_neg h1, decide_eq_false h1, decide_eq_true h2, if_true, Bool.false_eq_true, if_false]
  · rw [if_neg h2]; simp only [if_neg h1, decide_eq_false h1, decide_eq_false h2, Bool.false_eq_true, if_false]
theorem stp_bd {a e L : Nat} (f : Nat × Nat) (x : Bk) (hx : x.size ≤ L) : (stp a e f x).2 ≤ f.2 + 2 * L := by
  unfold stp
  split <;> split <;> (try simp only) <;> omega
theorem stps_bd {a e L : Nat} : ∀ (l : List (BkOf L)) (f : Nat × Nat), ((raw l).foldl (stp a e) f).2 ≤ f.2 + l.length * (2 * L)
  | [], f => by simp
  | x :: l, f => by
    have h1 := stps_bd (a := a) (e := e) l (stp a e f x.1)
    have h2 := stp_bd (a := a) (e := e) f x.1 (L := L) (by have := x.2; omega)
    simp only [raw, List.map_cons, List.foldl_cons, List.length_cons] at h1 ⊢
    rw [Nat.add_mul]
    omega

end Go.Proofs.YtpbafjcoomfooaaGreat
namespace Go.Proofs.YtpbafjcoomfooaaGreat
open Go.RowKit
attribute [local go_sem] Plain.and7

/-- What Give makes of the words, of a block b that is not free. -/
def giveB (zs : List Int) (b : Bk) : List Int := layL zs (about zs b).1 (about zs b).2 (8 * ((about zs b).2 : Int) + ((0 : Nat) : Int))
theorem giveB_len (zs : List Int) (b : Bk) : (giveB zs b).length = zs.length := layL_len _ _ _ _
theorem about_in {zs : List Int} {a : Int} {b : BkOf zs.length} (hb : atB zs a = some b) (hk : b.1.kind ≠ 0) : (about zs b.1).1 + (about zs b.1).2 ≤ zs.length ∧ 2 ≤ (about zs b.1).2 := by
  have h := atB_some hb
  obtain ⟨_, _, _, _, _, _, _, h1, h2, h3, _⟩ := about_eq h.1 (List.mem_map.2 ⟨b, h.2.2.2.2.2, rfl⟩) hk
  have := b.2
  omega

theorem grown_late {a b : World} {row : Option Nat} {p : Addr} (h : a.grownBy b row) (hp : a.heap.size ≤ p.block) (v : Value) : a.grownBy (b.setCell p v) row :=
  ⟨h.os, h.tape, h.output, by simpa [World.setCell] using h.size, fun k hk hr => (Below.heap_setCell _ _ _ _ (by omega)).trans (h.block k hk hr)⟩

end Go.Proofs.YtpbafjcoomfooaaGreat
