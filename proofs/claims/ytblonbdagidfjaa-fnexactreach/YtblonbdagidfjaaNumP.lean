/-
  The map of numbers: the blocks that were met, each with its number (chapter 7).
-/
import Derived.Test.YtblonbdagidfjaaRchB
import Derived.Maps.RangeWalk
import Derived.Deep.AppendLies
import Derived.Maps.OwnSet
import Derived.Maps.OwnOps
namespace Go.Proofs.Ytblonbdagidfjaa
open Go.RowKit Go.Maps

theorem lawN : Keyed Try.prog 3 := int_keyed Try.underlying3
/-- The map has just the blocks of out, each with its place there. -/
structure NumIs (D : DataW Unit) (out : List Int) : Prop where
  nodup : out.Nodup
  only : ∀ kl, Maps.has D kl = true → ∃ a : Int, kl = .int .i64 a
  has : ∀ a : Int, Maps.has D (.int .i64 a) = decide (a ∈ out)
  val : ∀ (k : Nat) (a : Int), out[k]? = some a → ∀ z, D.atKey (.int .i64 a) z = .lit (.int .i64 k)
  size : Maps.size D = out.length
theorem NumIs.empty : NumIs (.map []) [] := ⟨List.nodup_nil, fun kl h => by simp [Maps.has] at h, fun a => by simp [Maps.has], fun k a h => by simp at h, rfl⟩
theorem keyN_ne {a b : Int} (h : a ≠ b) : (Lit.int .i64 a) ≠ .int .i64 b := by
  intro e
  injection e with _ e
  exact h e
theorem sameN_key (a b : Int) : (Lit.int .i64 a).sameKey (.int .i64 b) = decide (a = b) := by
  by_cases h : a = b
  · subst h; simp [Lit.sameKey]
  · rw [sameKey_ne (keyN_ne h)]; simp [h]
theorem NumIs.put {D : DataW Unit} {out : List Int} (h : NumIs D out) (ht : Tidy D) {a : Int} (ha : a ∉ out) : NumIs (D.put (.int .i64 a) (.lit (.int .i64 out.length))) (out ++ [a]) where
  nodup := by
    rw [List.nodup_append]
    exact ⟨h.nodup, by simp, fun x hx y hy => by simp at hy; subst hy; intro e; subst e; exact ha hx⟩
  only kl hk := by
    by_cases e : kl = .int .i64 a
    · exact ⟨a, e⟩
    · rw [has_put_other e] at hk; exact h.only kl hk
  has x := by
    by_cases e : x = a
    · subst e; rw [has_put_same ht.isMap (k := .int .i64 x) trivial]; simp
    · rw [has_put_other (keyN_ne e), h.has]; simp [e]
  val k x hx z := by
    by_cases e : x = a
    · subst e
      rw [atKey_put_same ht.isMap (k := .int .i64 x) trivial]
      have hk : k = out.length := by
        rcases Nat.lt_or_ge k out.length with hlt | hge
        · rw [List.getElem?_append_left hlt] at hx
          exact absurd (List.mem_of_getElem? hx) ha
        · have := (List.getElem?_eq_some_iff.1 hx).1
          simp at this
          omega
      rw [hk]
    · rw [atKey_put_other (keyN_ne e)]
      refine h.val k x ?_ z
      rcases Nat.lt_or_ge k out.length with hlt | hge
      · rw [List.getElem?_append_left hlt] at hx; exact hx
      · rw [List.getElem?_append_right hge] at hx
        have := (List.getElem?_eq_some_iff.1 hx).1
        simp at this
        rw [this] at hx
        simp at hx
        exact absurd hx.symm e
  size := by
    rw [size_put ht, h.has, h.size]
    simp [ha]
/-- Block b is a map of the numbers of the blocks of out. -/
def NumMap (w : World) (b : Nat) (out : List Int) : Prop := ∃ (n : Nat) (D : DataW Unit), w.ownsMap Try.prog 3 (plainElem Try.prog 3) b n D ∧ NumIs D out ∧ n ≤ out.length
theorem NumMap.kept {w w' : World} {b : Nat} {out : List Int} {row : Option Nat} (h : NumMap w b out) (hg : w.grownBy w' row) (hne : some b ≠ row) : NumMap w' b out := by
  obtain ⟨n, D, h1, h2, h3⟩ := h
  exact ⟨n, D, h1.kept hg hne, h2, h3⟩
theorem NumMap.lt {w : World} {b : Nat} {out : List Int} (h : NumMap w b out) : b < w.heap.size := by
  obtain ⟨n, D, h1, h2, h3⟩ := h
  exact h1.lt
/-- The blocks that values lead to and that were not met yet, in order. -/
def newsB (out vs : List Int) : List Int := (meetL out vs).drop out.length
theorem addB_app (out : List Int) (a : Int) : ∃ r, addB out a = out ++ r := by
  unfold addB
  split
  · exact ⟨[a], rfl⟩
  · exact ⟨[], by simp⟩
theorem meetL_app : ∀ (vs out : List Int), ∃ r, meetL out vs = out ++ r
  | [], out => ⟨[], by simp [meetL]⟩
  | v :: vs, out => by
    obtain ⟨r1, h1⟩ := addB_app out (blkV v)
    obtain ⟨r2, h2⟩ := meetL_app vs (addB out (blkV v))
    refine ⟨r1 ++ r2, ?_⟩
    show meetL (addB out (blkV v)) vs = _
    rw [h2, h1, List.append_assoc]
theorem meetL_new (out vs : List Int) : meetL out vs = out ++ newsB out vs := by
  obtain ⟨r, h⟩ := meetL_app vs out
  unfold newsB
  rw [h, List.drop_left]
theorem newsB_nil (out : List Int) : newsB out [] = [] := by simp [newsB, meetL]
theorem newsB_in {out vs : List Int} {v : Int} (h : ¬ (0 ≤ blkV v ∧ blkV v ∉ meetL out vs)) : newsB out (vs ++ [v]) = newsB out vs := by
  unfold newsB
  rw [meetL_snoc, addB, if_neg h]
theorem newsB_yes {out vs : List Int} {v : Int} (h0 : 0 ≤ blkV v) (h : blkV v ∉ meetL out vs) : newsB out (vs ++ [v]) = newsB out vs ++ [blkV v] := by
  unfold newsB
  rw [meetL_snoc, addB, if_pos ⟨h0, h⟩, List.drop_append_of_le_length (meetL_len vs out)]
/-- Values that lead somewhere, if they lead. -/
def LeadsP (zs vs : List Int) : Prop := ∀ v ∈ vs, ¬ v % 8 < 4 → 1 ≤ kindAt zs (v / 8)
theorem LeadsP.leads {zs vs : List Int} (h : LeadsP zs vs) : Leads zs vs := by
  intro v hv h0
  unfold blkV at h0 ⊢
  split
  · rename_i h4; rw [if_pos h4] at h0; omega
  · rename_i h4; exact h v hv h4
theorem leadsP_roots {zs rs : List Int} (h : rootsR zs rs = true) : LeadsP zs rs := by
  intro v hv h4
  unfold rootsR leadAll at h
  simp only [Bool.and_eq_true] at h
  obtain ⟨j, hj, e⟩ := List.getElem_of_mem hv
  have h1 := allR_iff.1 h.2 j hj
  have e1 : hz rs j = v := by unfold hz; rw [List.getElem?_eq_getElem hj]; exact e
  rw [e1] at h1
  have hk := leads_kind h1 (by omega)
  rw [hk]
  unfold wantK
  repeat' split
  all_goals omega
theorem leadsP_slots {zs : List Int} {a : Int} (hh : heapR zs = true) (ha : 1 ≤ kindAt zs a) : LeadsP zs (slotV zs a) := by
  obtain ⟨n, e, _, _, _, b, hb, hbn⟩ := kind_nat ha
  have hf := slots_facts hh hb
  rw [hbn, ← e] at hf
  intro v hv h4
  obtain ⟨i, hi, ei⟩ := List.getElem_of_mem hv
  rw [slotV_len] at hi
  obtain ⟨p, hp, hpl, hok, hk⟩ := hf.2.2 i hi
  have e1 : v = hz zs p := by
    have := slotV_at hi
    rw [hp, Int.toNat_natCast] at this
    rw [← this]
    unfold hz
    rw [List.getElem?_eq_getElem (by rw [slotV_len]; exact hi)]
    exact ei.symm
  rw [e1] at h4 ⊢
  exact hk (by omega)
theorem NumMap.none {w : World} {b : Nat} {out : List Int} (h : NumMap w b out) (o : Nat) : w.cell? ⟨b, o, none⟩ = none := by
  obtain ⟨n, D, ⟨es, clock, hb, _⟩, _⟩ := h
  simp [World.cell?, hb]
theorem Ints.past {W W' : World} {so : Option Addr} {l : List Int} {b : Nat} {out : List Int} (h : Ints W so l) (hN : NumMap W b out) (hg : W.grownBy W' (some b)) : Ints W' so l := by
  refine ⟨h.1, ?_⟩
  rcases h.2 with h | ⟨b1, off, rfl, hc⟩
  · exact .inl h
  · refine .inr ⟨b1, off, rfl, fun j hj => ?_⟩
    have hcj := hc j hj
    refine (hg.cell_far ⟨b1, off + j, none⟩ (World.block_lt_of_cell? _ _ hcj) ?_).trans hcj
    intro e
    have e' : b1 = b := by simpa using e
    rw [e', hN.none] at hcj
    cases hcj
/-- Lists in order that have the same are the same. -/
theorem sorted_same {l m : List Int} (hl : l.Nodup) (hm : m.Nodup) (h : ∀ a, a ∈ l ↔ a ∈ m) : l.mergeSort (fun x y => decide (x ≤ y)) = sortL m := by
  have h1 : (l.mergeSort (fun x y => decide (x ≤ y))).Pairwise (· ≤ ·) := by
    have := List.pairwise_mergeSort (le := fun x y : Int => decide (x ≤ y)) (fun a b c h1 h2 => by simp at h1 h2 ⊢; omega) (fun a b => by simp; omega) l
    exact this.imp (fun h => by simpa using h)
  have h2 : (sortL m).Pairwise (· ≤ ·) := sortF_sorted m List.Pairwise.nil
  have hp : (l.mergeSort (fun x y => decide (x ≤ y))).Perm (sortL m) := by
    refine (List.mergeSort_perm l _).trans (((List.perm_ext_iff_of_nodup hl hm).2 h).trans ?_)
    have key : ∀ (xs out : List Int), (sortF out xs).Perm (out ++ xs) := by
      intro xs
      induction xs with
      | nil => intro out; simp [sortF]
      | cons x xs ih =>
        intro out
        show (sortF (insL x out) xs).Perm _
        refine (ih (insL x out)).trans ?_
        have e := List.takeWhile_append_dropWhile (p := fun y => decide (y < x)) (l := out)
        have p1 : (insL x out).Perm (x :: out) := by
          unfold insL
          refine List.perm_middle.trans ?_
          rw [e]
        have p2 : (insL x out ++ xs).Perm (x :: out ++ xs) := p1.append_right xs
        refine p2.trans ?_
        exact List.perm_middle.symm
    have := key m []
    simpa [sortL] using this.symm
  exact List.Perm.eq_of_pairwise (fun a b _ _ h1 h2 => by omega) h1 h2 hp
end Go.Proofs.Ytblonbdagidfjaa
