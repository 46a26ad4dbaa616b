/-
  The map of numbers: the blocks that were met, each with its number (chapter 7).
  Facts on lists: all that blocks lead to is among those that are reached (chapter 7).
  Facts on lists: marking that starts with some values ends with all that can be reached (chapter 8).
  The contract of impl.Start (chapter 8).
  The contracts of meet and valuesAt (chapter 7's program).
  The contract of metFrom (chapter 7's program): all blocks that are reached, each with its number.
  Contracts of the library at this program, laid by the kit and written out in plain words.
  The contract of places and of Reach (chapter 7's program).
-/
import Derived.Maps.RangeWalk
import Derived.Deep.AppendLies
import Derived.Maps.OwnSet
import Derived.Maps.OwnOps
import Derived.Deep.LoopGhost
import Derived.Shelf.Small.Bits
import Derived.Shelf.Small.Wraps
import Derived.Shelf.Strconv.Itoa0
import Derived.Shelf.Sort.Plain
import Derived.Ground.Names2Prog
import Derived.Shelf.Slices.SearchI
import Derived.Shelf.Slices.In.SortNone
import Derived.Test.YtpljjeknphnnpaaGreatProg
import Derived.Sort.OwnSorted
import Derived.Lib.OwnBridge
import Derived.Test.YtpljjeknphnnpaaGreatGrpSB
import Derived.Test.YtpljjeknphnnpaaGreatGrpSt
import Derived.Test.YtpljjeknphnnpaaGreatGrpSd
import Derived.Test.YtpljjeknphnnpaaGreatAppA
import Derived.Test.YtpljjeknphnnpaaGreatAppB
namespace Go.Proofs.YtpljjeknphnnpaaGreat
open Go.RowKit Go.Maps

theorem lawN : Keyed Tryz.prog 3 := int_keyed Tryz.underlying3
/-- The map has just the blocks of out, each with its place there. -/
structure NumIs (D : DataW Unit) (out : List Int) : Prop where
  nodup : out.Nodup
  only : ∀ kl, Maps.has D kl = true → ∃ a : Int, kl = .int .i64 a
  has : ∀ a : Int, Maps.has D (.int .i64 a) = decide (a ∈ out)
  val : ∀ (k : Nat) (a : Int), out[k]? = some a → ∀ z, D.atKey (.int .i64 a) z = .lit (.int .i64 k)
  size : Maps.size D = out.length
theorem NumIs.empty : NumIs (.map []) [] := ⟨List.nodup_nil, fun kl h => by simp [Maps.has] at h, fun a => by simp [Maps.has], fun k a h => by simp at h, rfl⟩
theorem keyN_ne {a b : Int} (h : a ≠ b) : (Lit.int .i64 a) ≠ .int .i64 b := by
  intro e
  injection e with _ e
  exact h e
theorem sameN_key (a b : Int) : (Lit.int .i64 a).sameKey (.int .i64 b) = decide (a = b) := by
  by_cases h : a = b
  · subst h; simp [Lit.sameKey]
  · rw [sameKey_ne (keyN_ne h)]; simp [h]
theorem NumIs.put {D : DataW Unit} {out : List Int} (h : NumIs D out) (ht : Tidy D) {a : Int} (ha : a ∉ out) : NumIs (D.put (.int .i64 a) (.lit (.int .i64 out.length))) (out ++ [a]) where
  nodup := by
    rw [List.nodup_append]
    exact ⟨h.nodup, by simp, fun x hx y hy => by simp at hy; subst hy; intro e; subst e; exact ha hx⟩
  only kl hk := by
    by_cases e : kl = .int .i64 a
    · exact ⟨a, e⟩
    · rw [has_put_other e] at hk; exact h.only kl hk
  has x := by
    by_cases e : x = a
    · subst e; rw [has_put_same ht.isMap (k := .int .i64 x) trivial]; simp
    · rw [has_put_other (keyN_ne e), h.has]; simp [e]
  val k x hx z := by
    by_cases e : x = a
    · subst e
      rw [atKey_put_same ht.isMap (k := .int .i64 x) trivial]
      have hk : k = out.length := by
        rcases Nat.lt_or_ge k out.length with hlt | hge
        · rw [List.getElem?_append_left hlt] at hx
          exact absurd (List.mem_of_getElem? hx) ha
        · have := (List.getElem?_eq_some_iff.1 hx).1
          simp at this
          omega
      rw [hk]
    · rw [atKey_put_other (keyN_ne e)]
      refine h.val k x ?_ z
      rcases Nat.lt_or_ge k out.length with hlt | hge
      · rw [List.getElem?_append_left hlt] at hx; exact hx
      · rw [List.getElem?_append_right hge] at hx
        have := (List.getElem?_eq_some_iff.1 hx).1
        simp at this
        rw [this] at hx
        simp at hx
        exact absurd hx.symm e
  size := by
    rw [size_put ht, h.has, h.size]
    simp [ha]
/-- Block b is a map of the numbers of the blocks of out. -/
def NumMap (w : World) (b : Nat) (out : List Int) : Prop := ∃ (n : Nat) (D : DataW Unit), w.ownsMap Tryz.prog 3 (plainElem Tryz.prog 3) b n D ∧ NumIs D out ∧ n ≤ out.length
theorem NumMap.kept {w w' : World} {b : Nat} {out : List Int} {row : Option Nat} (h : NumMap w b out) (hg : w.grownBy w' row) (hne : some b ≠ row) : NumMap w' b out := by
  obtain ⟨n, D, h1, h2, h3⟩ := h
  exact ⟨n, D, h1.kept hg hne, h2, h3⟩
theorem NumMap.lt {w : World} {b : Nat} {out : List Int} (h : NumMap w b out) : b < w.heap.size := by
  obtain ⟨n, D, h1, h2, h3⟩ := h
  exact h1.lt
/-- The blocks that values lead to and that were not met yet, in order. -/
def newsB (out vs : List Int) : List Int := (meetL out vs).drop out.length
theorem addB_app (out : List Int) (a : Int) : ∃ r, addB out a = out ++ r := by
  unfold addB
  split
  · exact ⟨[a], rfl⟩
  · exact ⟨[], by simp⟩
theorem meetL_app : ∀ (vs out : List Int), ∃ r, meetL out vs = out ++ r
  | [], out => ⟨[], by simp [meetL]⟩
  | v :: vs, out => by
    obtain ⟨r1, h1⟩ := addB_app out (blkV v)
    obtain ⟨r2, h2⟩ := meetL_app vs (addB out (blkV v))
    refine ⟨r1 ++ r2, ?_⟩
    show meetL (addB out (blkV v)) vs = _
    rw [h2, h1, List.append_assoc]
theorem meetL_new (out vs : List Int) : meetL out vs = out ++ newsB out vs := by
  obtain ⟨r, h⟩ := meetL_app vs out
  unfold newsB
  rw [h, List.drop_left]
theorem newsB_nil (out : List Int) : newsB out [] = [] := by simp [newsB, meetL]
theorem newsB_in {out vs : List Int} {v : Int} (h : ¬ (0 ≤ blkV v ∧ blkV v ∉ meetL out vs)) : newsB out (vs ++ [v]) = newsB out vs := by
  unfold newsB
  rw [meetL_snoc, addB, if_neg h]
theorem newsB_yes {out vs : List Int} {v : Int} (h0 : 0 ≤ blkV v) (h : blkV v ∉ meetL out vs) : newsB out (vs ++ [v]) = newsB out vs ++ [blkV v] := by
  unfold newsB
  rw [meetL_snoc, addB, if_pos ⟨h0, h⟩, List.drop_append_of_le_length (meetL_len vs out)]
/-- Values that lead somewhere, if they lead. -/
def LeadsP (zs vs : List Int) : Prop := ∀ v ∈ vs, ¬ v % 8 < 4 → 1 ≤ kindAt zs (v / 8)
theorem LeadsP.leads {zs vs : List Int} (h : LeadsP zs vs) : Leads zs vs := by
  intro v hv h0
  unfold blkV at h0 ⊢
  split
  · rename_i h4; rw [if_pos h4] at h0; omega
  · rename_i h4; exact h v hv h4
theorem leadsP_roots {zs rs : List Int} (h : rootsR zs rs = true) : LeadsP zs rs := by
  intro v hv h4
  unfold rootsR leadAll at h
  simp only [Bool.and_eq_true] at h
  obtain ⟨j, hj, e⟩ := List.getElem_of_mem hv
  have h1 := allR_iff.1 h.2 j hj
  have e1 : hz rs j = v := by unfold hz; rw [List.getElem?_eq_getElem hj]; exact e
  rw [e1] at h1
  have hk := leads_kind h1 (by omega)
  rw [hk]
  unfold wantK
  repeat' split
  all_goals omega
theorem leadsP_slots {zs : List Int} {a : Int} (hh : heapR zs = true) (ha : 1 ≤ kindAt zs a) : LeadsP zs (slotV zs a) := by
  obtain ⟨n, e, _, _, _, b, hb, hbn⟩ := kind_nat ha
  have hf := slots_facts hh hb
  rw [hbn, ← e] at hf
  intro v hv h4
  obtain ⟨i, hi, ei⟩ := List.getElem_of_mem hv
  rw [slotV_len] at hi
  obtain ⟨p, hp, hpl, hok, hk⟩ := hf.2.2 i hi
  have e1 : v = hz zs p := by
    have := slotV_at hi
    rw [hp, Int.toNat_natCast] at this
    rw [← this]
    unfold hz
    rw [List.getElem?_eq_getElem (by rw [slotV_len]; exact hi)]
    exact ei.symm
  rw [e1] at h4 ⊢
  exact hk (by omega)
theorem NumMap.none {w : World} {b : Nat} {out : List Int} (h : NumMap w b out) (o : Nat) : w.cell? ⟨b, o, none⟩ = none := by
  obtain ⟨n, D, ⟨es, clock, hb, _⟩, _⟩ := h
  simp [World.cell?, hb]
theorem Ints.past {W W' : World} {so : Option Addr} {l : List Int} {b : Nat} {out : List Int} (h : Ints W so l) (hN : NumMap W b out) (hg : W.grownBy W' (some b)) : Ints W' so l := by
  refine ⟨h.1, ?_⟩
  rcases h.2 with h | ⟨b1, off, rfl, hc⟩
  · exact .inl h
  · refine .inr ⟨b1, off, rfl, fun j hj => ?_⟩
    have hcj := hc j hj
    refine (hg.cell_far ⟨b1, off + j, none⟩ (World.block_lt_of_cell? _ _ hcj) ?_).trans hcj
    intro e
    have e' : b1 = b := by simpa using e
    rw [e', hN.none] at hcj
    cases hcj
/-- Lists in order that have the same are the same. -/
theorem sorted_same {l m : List Int} (hl : l.Nodup) (hm : m.Nodup) (h : ∀ a, a ∈ l ↔ a ∈ m) : l.mergeSort (fun x y => decide (x ≤ y)) = sortL m := by
  have h1 : (l.mergeSort (fun x y => decide (x ≤ y))).Pairwise (· ≤ ·) := by
    have := List.pairwise_mergeSort (le := fun x y : Int => decide (x ≤ y)) (fun a b c h1 h2 => by simp at h1 h2 ⊢; omega) (fun a b => by simp; omega) l
    exact this.imp (fun h => by simpa using h)
  have h2 : (sortL m).Pairwise (· ≤ ·) := sortF_sorted m List.Pairwise.nil
  have hp : (l.mergeSort (fun x y => decide (x ≤ y))).Perm (sortL m) := by
    refine (List.mergeSort_perm l _).trans (((List.perm_ext_iff_of_nodup hl hm).2 h).trans ?_)
    have key : ∀ (xs out : List Int), (sortF out xs).Perm (out ++ xs) := by
      intro xs
      induction xs with
      | nil => intro out; simp [sortF]
      | cons x xs ih =>
        intro out
        show (sortF (insL x out) xs).Perm _
        refine (ih (insL x out)).trans ?_
        have e := List.takeWhile_append_dropWhile (p := fun y => decide (y < x)) (l := out)
        have p1 : (insL x out).Perm (x :: out) := by
          unfold insL
          refine List.perm_middle.trans ?_
          rw [e]
        have p2 : (insL x out ++ xs).Perm (x :: out ++ xs) := p1.append_right xs
        refine p2.trans ?_
        exact List.perm_middle.symm
    have := key m []
    simpa [sortL] using this.symm
  exact List.Perm.eq_of_pairwise (fun a b _ _ h1 h2 => by omega) h1 h2 hp
end Go.Proofs.YtpljjeknphnnpaaGreat
namespace Go.Proofs.YtpljjeknphnnpaaGreat
open Go.RowKit

theorem meet_mem {out : List Int} {x : Int} (h : x ∈ out) (vs : List Int) : x ∈ meetL out vs := by
  rw [meetL_new]
  exact List.mem_append_left _ h
theorem addB_self {out : List Int} {a : Int} (h : 0 ≤ a) : a ∈ addB out a := by
  unfold addB
  split
  · simp
  · rename_i hc
    by_cases hm : a ∈ out
    · exact hm
    · exact absurd ⟨h, hm⟩ hc
theorem meet_lead {v : Int} (h4 : ¬ v % 8 < 4) (h0 : 0 ≤ v / 8) : ∀ (vs out : List Int), v ∈ vs → v / 8 ∈ meetL out vs
  | [], _, h => by simp at h
  | u :: vs, out, h => by
    rcases List.mem_cons.1 h with rfl | h
    · have hb : blkV v = v / 8 := by simp [blkV, h4]
      have : v / 8 ∈ addB out (blkV v) := by rw [hb]; exact addB_self h0
      exact meet_mem this vs
    · exact meet_lead h4 h0 vs (addB out (blkV u)) h
/-- What a block leads to is there. -/
def Shut (zs out : List Int) (a : Int) : Prop := ∀ v ∈ slotV zs a, ¬ v % 8 < 4 → v / 8 ∈ out
theorem Shut.meet {zs out : List Int} {a : Int} (h : Shut zs out a) (vs : List Int) : Shut zs (meetL out vs) a := fun v hv h4 => meet_mem (h v hv h4) vs
theorem ordF_shut {zs : List Int} (hh : heapR zs = true) : ∀ (n k : Nat) {out : List Int}, Met zs out → zs.length + 1 ≤ n + k → (∀ j a, j < k → out[j]? = some a → Shut zs out a) →
    (∀ x ∈ out, x ∈ ordF zs n k out) ∧ ∀ a ∈ ordF zs n k out, Shut zs (ordF zs n k out) a
  | 0, k, out, hM, hk, hs => by
    have hl := hM.len
    rw [show ordF zs 0 k out = out from rfl]
    refine ⟨fun x hx => hx, fun a ha => ?_⟩
    obtain ⟨j, hj, e⟩ := List.getElem_of_mem ha
    exact hs j a (by omega) (by rw [List.getElem?_eq_getElem hj, e])
  | n + 1, k, out, hM, hk, hs => by
    cases hc : out[k]? with
    | none =>
      have hge : out.length ≤ k := by
        rcases Nat.lt_or_ge k out.length with h | h
        · rw [List.getElem?_eq_getElem h] at hc; cases hc
        · exact h
      rw [ordF_end hge]
      refine ⟨fun x hx => hx, fun a ha => ?_⟩
      obtain ⟨j, hj, e⟩ := List.getElem_of_mem ha
      exact hs j a (by omega) (by rw [List.getElem?_eq_getElem hj, e])
    | some a =>
      rw [ordF_on hc]
      have hka := hM.2 a (List.mem_of_getElem? hc)
      have hkl := (List.getElem?_eq_some_iff.1 hc).1
      have hLd := leadsP_slots hh hka
      have ih := ordF_shut hh n (k + 1) (out := meetL out (slotV zs a)) (hM.meet hLd.leads) (by omega) (fun j x hj hx => by
        have hjl : j < out.length := by omega
        rw [meetL_new, List.getElem?_append_left hjl] at hx
        rcases Nat.lt_or_ge j k with h | h
        · exact (hs j x h hx).meet _
        · obtain rfl : j = k := by omega
          rw [hc] at hx
          cases hx
          intro v hv h4
          obtain ⟨m, e, _⟩ := kind_nat (hLd v hv h4)
          exact meet_lead h4 (by omega) _ _ hv)
      exact ⟨fun x hx => ih.1 x (meet_mem hx _), ih.2⟩
theorem ordL_shut {zs rs : List Int} (h : rootsR zs rs = true) : (∀ v ∈ rs, ¬ v % 8 < 4 → v / 8 ∈ ordL zs rs) ∧ ∀ a ∈ ordL zs rs, Shut zs (ordL zs rs) a := by
  have hh : heapR zs = true := by
    unfold rootsR at h
    simp only [Bool.and_eq_true] at h
    exact h.1
  have hM : Met zs (meetL [] rs) := Met.meet ⟨List.nodup_nil, by simp⟩ (leads_roots h)
  have key := ordF_shut hh (zs.length + 1) 0 hM (by omega) (fun j a hj => by omega)
  refine ⟨fun v hv h4 => key.1 _ ?_, key.2⟩
  obtain ⟨m, e, _⟩ := kind_nat (leadsP_roots h v hv h4)
  exact meet_lead h4 (by omega) _ _ hv
end Go.Proofs.YtpljjeknphnnpaaGreat
namespace Go.Proofs.YtpljjeknphnnpaaGreat
open Go.RowKit

/-- Blocks that lead to such as are among them alone. -/
def ClosedP (zs : List Int) (C : List Int) : Prop := ∀ a ∈ C, ∀ v ∈ slotV zs a, 0 ≤ blkV v → blkV v ∈ C
theorem meetL_in {C : List Int} : ∀ {vs out : List Int}, (∀ x ∈ out, x ∈ C) → (∀ v ∈ vs, 0 ≤ blkV v → blkV v ∈ C) → ∀ x ∈ meetL out vs, x ∈ C
  | [], _, h, _ => h
  | v :: vs, out, h, hv => by
    refine meetL_in (vs := vs) (out := addB out (blkV v)) (fun x hx => ?_) (fun u hu => hv u (List.mem_cons_of_mem _ hu))
    unfold addB at hx
    split at hx
    · rename_i hc
      rcases List.mem_append.1 hx with h' | h'
      · exact h x h'
      · simp at h'; subst h'; exact hv v (by simp) hc.1
    · exact h x hx
theorem ordF_in {zs C : List Int} (hC : ClosedP zs C) : ∀ (n k : Nat) (out : List Int), (∀ x ∈ out, x ∈ C) → ∀ x ∈ ordF zs n k out, x ∈ C
  | 0, _, _, h => h
  | n + 1, k, out, h => by
    unfold ordF
    cases ha : out[k]? with
    | none => exact h
    | some a =>
      have hm : a ∈ out := List.mem_of_getElem? ha
      exact ordF_in hC n (k + 1) _ (meetL_in h (fun v hv h0 => hC a (h a hm) v hv h0))
theorem shadesL_in {bs C : List Int} : ∀ {vs gs : List Int}, (∀ x ∈ gs, x ∈ C) → (∀ v ∈ vs, 0 ≤ blkV v → blkV v ∈ C) → ∀ x ∈ shadesL bs gs vs, x ∈ C
  | [], _, h, _ => h
  | v :: vs, gs, h, hv => by
    refine shadesL_in (vs := vs) (gs := shadeL 1 gs bs v) (fun x hx => ?_) (fun u hu => hv u (List.mem_cons_of_mem _ hu))
    unfold shadeL at hx
    split at hx
    · rename_i hc
      rcases List.mem_append.1 hx with h' | h'
      · exact h x h'
      · simp at h'; subst h'; exact hv v (by simp) hc.2.1
    · exact h x hx
theorem stepL_in {zs C : List Int} (hC : ClosedP zs C) : ∀ (k : Nat) (gs bs : List Int), (∀ x ∈ gs, x ∈ C) → (∀ x ∈ bs, x ∈ C) → (∀ x ∈ (stepL zs k gs bs).1, x ∈ C) ∧ ∀ x ∈ (stepL zs k gs bs).2, x ∈ C
  | 0, _, _, h1, h2 => ⟨h1, h2⟩
  | _ + 1, [], _, h1, h2 => ⟨h1, h2⟩
  | k + 1, a :: g, bs, h1, h2 => by
    have ha := h1 a (by simp)
    refine stepL_in hC k _ _ (shadesL_in (fun x hx => h1 x (List.mem_cons_of_mem _ hx)) (hC a ha)) (fun x hx => ?_)
    rcases mem_insL.1 hx with rfl | h'
    · exact ha
    · exact h2 x h'
theorem stepL_has {zs : List Int} {x : Int} : ∀ (k : Nat) (gs bs : List Int), x ∈ gs ∨ x ∈ bs → x ∈ (stepL zs k gs bs).1 ∨ x ∈ (stepL zs k gs bs).2
  | 0, _, _, h => h
  | _ + 1, [], _, h => h
  | k + 1, a :: g, bs, h => by
    refine stepL_has k _ _ ?_
    rcases h with h | h
    · rcases List.mem_cons.1 h with h' | h'
      · exact .inr (mem_insL.2 (.inl h'))
      · exact .inl (shadesL_sub h')
    · exact .inr (mem_insL.2 (.inr h))
theorem sortF_asc : ∀ (l out : List Int), out.Pairwise (· < ·) → l.Nodup → (∀ x ∈ l, x ∉ out) → (sortF out l).Pairwise (· < ·)
  | [], _, h, _, _ => h
  | x :: l, out, h, hn, hx => by
    have hc := List.nodup_cons.1 hn
    refine sortF_asc l (insL x out) (insL_asc h (hx x (by simp))) hc.2 (fun y hy hm => ?_)
    rcases mem_insL.1 hm with rfl | h'
    · exact hc.1 hy
    · exact hx y (List.mem_cons_of_mem _ hy) h'
theorem closed_shut {zs C : List Int} (h : ∀ a ∈ C, Shut zs C a) : ClosedP zs C := by
  intro a ha v hv h0
  unfold blkV at h0 ⊢
  by_cases h4 : v % 8 < 4
  · rw [if_pos h4] at h0; omega
  · rw [if_neg h4]
    exact h a ha v hv h4
/-- What FnStarted asks. -/
theorem started_end {zs rs : List Int} (h : rootsR zs rs = true) : stepL zs 2000 (meetL [] rs) [] = ([], reachL zs rs) ∧ triR zs 1 (meetL [] rs) [] 0 = true ∧ ∀ x ∈ meetL [] rs, x ∈ reachL zs rs := by
  have hh : heapR zs = true := by
    have h' := h
    unfold rootsR at h'
    rw [Bool.and_eq_true] at h'
    exact h'.1
  have hz := (slabOk_iff.1 (heapR_slab hh)).1
  have hM : Met zs (meetL [] rs) := Met.meet ⟨List.nodup_nil, by simp⟩ (leads_roots h)
  have h2 : Two zs (meetL [] rs) [] := ⟨hM, ⟨List.nodup_nil, by simp⟩, by simp⟩
  have hT : TriP zs (meetL [] rs) [] := fun b hb => by cases hb
  obtain ⟨_, hmk⟩ := mark_of hh h2 List.Pairwise.nil
  have htri := tri_of hmk hT
  have he := stepL_end hh 2000 _ _ h2 (by simp; omega)
  obtain ⟨k1, k2, k3⟩ := stepL_keeps hh 2000 _ _ h2 List.Pairwise.nil hT
  obtain ⟨s1, s2⟩ := ordL_shut h
  have hC := closed_shut s2
  have hin : ∀ x ∈ meetL [] rs, x ∈ ordL zs rs := meetL_in (by simp) (fun v hv h0 => by
    unfold blkV at h0 ⊢
    by_cases h4 : v % 8 < 4
    · rw [if_pos h4] at h0; omega
    · rw [if_neg h4]; exact s1 v hv h4)
  have er : reachL zs rs = sortL (ordL zs rs) := if_pos h
  have hmem : ∀ x, x ∈ sortL (ordL zs rs) ↔ x ∈ ordL zs rs := fun x => by
    unfold sortL
    rw [mem_sortF]
    simp
  rw [er]
  refine ⟨Prod.ext he ?_, htri, fun x hx => (hmem x).2 (hin x hx)⟩
  refine asc_same k2 (sortF_asc _ _ List.Pairwise.nil (ordL_met h).1 (by simp)) fun x => ?_
  rw [hmem]
  constructor
  · exact (stepL_in hC 2000 _ _ hin (by simp)).2 x
  · intro hx
    rw [he] at k3
    have hcl : ClosedP zs (stepL zs 2000 (meetL [] rs) []).2 := fun a ha v hv h0 => by
      rcases k3 a ha v hv h0 with h' | h'
      · cases h'
      · exact h'
    refine ordF_in hcl _ _ _ (fun y hy => ?_) x hx
    rcases stepL_has (zs := zs) 2000 _ [] (.inl hy) with h' | h'
    · rw [he] at h'; cases h'
    · exact h'
end Go.Proofs.YtpljjeknphnnpaaGreat
namespace Go.Proofs.YtpljjeknphnnpaaGreat
open Go.RowKit

theorem leadsW_roots {zs rs : List Int} (h : rootsR zs rs = true) : LeadsW zs rs := by
  intro v hv
  unfold rootsR leadAll at h
  simp only [Bool.and_eq_true] at h
  obtain ⟨j, hj, e⟩ := List.getElem_of_mem hv
  have h1 := allR_iff.1 h.2 j hj
  have e1 : hz rs j = v := by unfold hz; rw [List.getElem?_eq_getElem hj]; exact e
  rw [e1, ← val11] at h1
  exact valR_lead h1
theorem shd_meet (rs : List Int) : shdL [] [] rs = meetL [] rs := by
  unfold shdL meetL
  congr 1
  funext g v
  exact shade_add g v
set_option maxHeartbeats 16000000 in
set_option maxRecDepth 100000 in
theorem impl_Start_ok (w : World) (ao ro : Option Addr) (cap rc : Nat) (zs rs : List Int) (hI : Ints w ao zs) (hl : zs.length ≤ 1048576) (hR : Ints w ro rs) (hrl : rs.length ≤ 1048576) :
    Calls Tryz.prog 7 #[.agg #[.slice ao zs.length cap], .slice ro rs.length rc] w fun e w' => ∃ m, e = .returned m ∧ MkO w' w.heap.size m (startC zs rs).1 (startC zs rs).2 [] 0 ∧ Kept w w' := by
  have b0 := (Cells.new w 26 #[.slice ao zs.length cap]).alloc (.cells #[.int .i64 0, .slice none 0 0, .slice none 0 0, .int .i64 0] 30)
  have b1 := Cells.new (w.alloc (.cells #[.slice ao zs.length cap] 26)) 30 #[.int .i64 0, .slice none 0 0, .slice none 0 0, .int .i64 0]
  have k0 : Kept w ((w.alloc (.cells #[.slice ao zs.length cap] 26)).alloc (.cells #[.int .i64 0, .slice none 0 0, .slice none 0 0, .int .i64 0] 30)) := (Kept.alloc (Below.refl _ _) _).alloc _
  simp only [World.size_alloc] at b1
  have hRo := impl_RootsOk_ok _ ao ro cap rc zs rs (hI.kept k0) hl (hR.kept k0) hrl
  have c0 := b0.cell 0
  have nilO : ∀ (W : World) (B : Nat), OwnL W B (.slice none 0 0) [] := fun W B => ⟨by simp, World.ownsRow_nil _ _ _ _⟩
  cases hr : rootsR zs rs with
  | false =>
    have HC : Hid (startC zs rs = (0, [])) := by simp [Hid, startC, hr]
    rw [hr] at hRo
    clear hr hI hR
    go_enter Tryz.func7, Tryz.ntmps7
    go_wp2_with (go_at_call 25; refine hRo.mono ?_; rintro e w1 ⟨rfl, hk1⟩; have z1 := b1.kept hk1; have d0 := z1.cell 0; have d1 := z1.cell 1; have d2 := z1.cell 2; have d3 := z1.cell 3; have f0 := z1.frozen 0; have f1 := z1.frozen 1; have f2 := z1.frozen 2; have f3 := z1.frozen 3; have q := z1.four (.int .i64 0) (.slice none 0 0) (.slice none 0 0) (.int .i64 0); have q0 := q.cell 0; have q1 := q.cell 1; have q2 := q.cell 2; have q3 := q.cell 3)
    refine bodyPost_ret (v := .agg #[.int .i64 0, .slice none 0 0, .slice none 0 0, .int .i64 0]) (by simp [results, Tryz.results7, go_sem, q0, q1, q2, q3]) rfl ⟨_, rfl, ?_, ?_⟩
    · rw [HC.out]
      exact ⟨_, _, rfl, nilO _ _, nilO _ _, fun j hj => by simp [Value.ownBlock] at hj⟩
    · exact ((((k0.trans hk1).set (by simp) _).set (by simp) _).set (by simp) _).set (by simp) _
  | true =>
    have HC : Hid (startC zs rs = (1, meetL [] rs)) := by simp [Hid, startC, hr]
    rw [hr] at hRo
    have HLW : Hid _ := leadsW_roots hr
    have hh : heapR zs = true := by unfold rootsR at hr; rw [Bool.and_eq_true] at hr; exact hr.1
    have hok := heapR_slab hh
    have HOk : Hid _ := hok
    have HR : Hid _ := hR
    have HI : Hid _ := hI
    clear hr hR hI hh hok
    go_enter Tryz.func7, Tryz.ntmps7
    go_wp2_with (go_at_call 25; refine hRo.mono ?_; rintro e w1 ⟨rfl, hk1⟩; have y1 := b0.kept hk1; have d0 := y1.cell 0)
    have K1 := k0.trans hk1
    have hMk := markingOf_ok w1 ao none none cap 0 0 zs [] [] 0 0 (Ints.kept HI.out K1) hl ⟨by simp, .inl rfl⟩ ⟨by simp, .inl rfl⟩ (by simp) (by simp) (fun _ => rfl)
    have HZ1 : Hid (∀ u, Kept w1 u → Cells u (w.heap.size + 1) 30 #[.int .i64 0, .slice none 0 0, .slice none 0 0, .int .i64 0]) := fun u hu => b1.kept (hk1.trans hu)
    refine hMk.mono ?_
    rintro e w2 ⟨v2, rfl, hv2, hk2⟩
    obtain ⟨lo, go, ln, lc, gc, base, rfl, _, hyes, hb1, hb2, hOg⟩ := hv2.is
    obtain ⟨rfl, hly, hlb⟩ := hyes HOk.out
    have hcz := Cells.new w2 55 Tryz.zeroCells55
    go_wp2_with (refine wpList_store_row (by rfl) 55 _ _ (by rfl) w2.heap.size _ (by rfl) (by rfl) _ _ hcz (by rw [mkC_size, colL_len]; exact infoMks) (by rw [mkC_size, colL_len]; exact zeroMk) mkC_one ?_)
    rw [World.setRow_alloc_new]
    obtain ⟨mc, hmc⟩ : ∃ mc, mkC (.slice ao zs.length cap) (.slice lo zs.length lc) (colL [] []) (.slice go 0 gc) = mc := ⟨_, rfl⟩
    have kS : Kept w2 (w2.alloc (.cells mc 55)) := Kept.alloc (Below.refl _ _) _
    have cS := Cells.new w2 55 mc
    have K2 : Kept w w2 := K1.trans hk2
    have s1 := K1.size
    have hs12 := hk2.size
    have ltI : zs ≠ [] → ∀ a, ao = some a → a.block < w.heap.size := fun hn a e => Ints.lt HI.out hn e
    have ltR : rs ≠ [] → ∀ a, ro = some a → a.block < w.heap.size := fun hn a e => Ints.lt HR.out hn e
    have hOlt : ∀ j, (Value.slice go 0 gc).ownBlock = some j → base ≤ j ∧ j < w2.heap.size := fun j hj => hOg.2.lt j hj
    obtain ⟨WS, hWS⟩ : ∃ WS, w2.alloc (.cells mc 55) = WS := ⟨_, rfl⟩
    rw [hWS] at kS cS
    have hS : MkgS WS w2.heap.size base ao lo cap lc zs [] [] (.slice go 0 gc) := ⟨by rw [hmc]; exact cS, OwnL.kept (row := none) hOg kS.grown (fun k e => by cases e), hly.kept kS, Ints.kept HI.out (K2.trans kS), hlb, fun hn a e => by have := ltI hn a e; omega, hb2, fun j hj => by have := (hOlt j hj).2; omega⟩
    have hSh := shade_ok WS w2.heap.size base ao lo ro cap lc rc zs [] [] rs _ hS HOk.out ⟨List.nodup_nil, by simp⟩ (Ints.kept HR.out (K2.trans kS)) hrl (fun hn a e => ⟨by have := ltR hn a e; omega, fun e' => by have := ltR hn a e; have := (hOlt _ e').1; omega⟩) HLW.out
    rw [hmc, hWS]
    rw [shd_meet] at hSh
    have HS : Hid (w.heap.size + 2 ≤ w1.heap.size) := by have := hk1.size; simp at this; exact this
    have HK : Hid _ := K2.trans kS
    have HkS : Hid _ := hk2.trans kS
    have HOlt : Hid _ := hOlt
    clear hmc hWS hS cS kS hk1 hk2 K1 K2 b0 b1 k0 c0 hRo hMk d0 y1 hv2 hOg hly hlb hcz ltI ltR hOlt
    refine hSh.mono ?_
    rintro e w4 ⟨rfl, gv4, hS4, hB4, hg4⟩
    obtain ⟨so4, sc4, rfl, _⟩ := hS4.g.ints
    have hs := HS.out
    have hsW := Below.size HkS.out
    have z4 : Cells w4 (w.heap.size + 1) 30 _ := (hB4.block (w.heap.size + 1) (by omega) (by omega) (fun e' => by have := (HOlt.out _ e').1; omega)).trans (HZ1.out _ HkS.out)
    have cg := hS4.c.cell 2002
    rw [mkC_g (by rw [colL_len])] at cg
    have d0 := z4.cell 0
    have d1 := z4.cell 1
    have d2 := z4.cell 2
    have d3 := z4.cell 3
    have f0 := z4.frozen 0
    have f1 := z4.frozen 1
    have f2 := z4.frozen 2
    have f3 := z4.frozen 3
    have K4 : Kept w w4 := Below.trans HK.out ((hB4.below (base := w.heap.size) (by omega) (fun j hj => by have := (HOlt.out _ hj).1; omega) (by omega)))
    have M4 : MkO w4 (w.heap.size + 2) (.agg #[.int .i64 1, .slice so4 (meetL [] rs).length sc4, .slice none 0 0, .int .i64 0]) 1 (meetL [] rs) [] 0 := ⟨_, _, rfl, ⟨hS4.g.1, ownsRow_base hS4.g.2 (by omega)⟩, nilO _ _, fun j _ e => by simp [Value.ownBlock] at e⟩
    have q := z4.four (.int .i64 1) (.slice so4 (meetL [] rs).length sc4) (.slice none 0 0) (.int .i64 0)
    have q0 := q.cell 0
    have q1 := q.cell 1
    have q2 := q.cell 2
    have q3 := q.cell 3
    have HM4 : Hid _ := M4
    have HK4 : Hid _ := K4
    clear M4 K4 hS4 hB4 hg4 hSh
    go_wp2_with fail
    refine bodyPost_ret (v := .agg #[.int .i64 1, .slice so4 (meetL [] rs).length sc4, .slice none 0 0, .int .i64 0]) (by simp [results, Tryz.results7, go_sem, q0, q1, q2, q3]) rfl ⟨_, rfl, ?_, ?_⟩
    · rw [HC.out]
      exact MkO.base (((((MkO.far (p := ⟨w.heap.size + 1, 0, none⟩) HM4.out (by simp)).far (p := ⟨w.heap.size + 1, 1, none⟩) (by simp)).far (p := ⟨w.heap.size + 1, 2, none⟩) (by simp)).far (p := ⟨w.heap.size + 1, 3, none⟩) (by simp))) (by omega)
    · exact (((Kept.set HK4.out (p := ⟨w.heap.size + 1, 0, none⟩) (by simp) _).set (p := ⟨w.heap.size + 1, 1, none⟩) (by simp) _).set (p := ⟨w.heap.size + 1, 2, none⟩) (by simp) _).set (p := ⟨w.heap.size + 1, 3, none⟩) (by simp) _
end Go.Proofs.YtpljjeknphnnpaaGreat
namespace Go.Proofs.YtpljjeknphnnpaaGreat
open Go.RowKit Go.Maps
attribute [local go_sem] Plain.and7

set_option maxHeartbeats 8000000 in
set_option maxRecDepth 100000 in
theorem valuesAt_ok (w : World) (ao : Option Addr) (cap : Nat) (zs : List Int) (a : Int) (hI : Ints w ao zs) (hl : zs.length ≤ 1048576) (hh : heapR zs = true) (ha : 1 ≤ kindAt zs a) :
    Calls Tryz.prog 77 #[.slice ao zs.length cap, .int .i64 a] w fun e w' => ∃ v, e = .returned v ∧ OwnL w' w.heap.size v (slotV zs a) ∧ Kept w w' := by
  obtain ⟨i0, hi, hz0, hz1, hz2⟩ := info_parts infoI
  obtain ⟨n, en, hn, hg, esl, b, hbm, hbn⟩ := kind_nat ha
  have hls := leads_slots hh ha
  have hL : zs.length * 8 ≤ 140737488351232 := by omega
  have hgl := hg.le
  have hg2 := hg.sz2
  have hgk := hg.kd5
  have HV : Hid (slotV zs a = (slL n (kd zs n) (sz zs n)).map (fun j => hz zs j.toNat)) := by rw [Hid, slotV, esl]
  rw [esl] at hls
  obtain ⟨ss, hss⟩ : ∃ ss, slL n (kd zs n) (sz zs n) = ss := ⟨_, rfl⟩
  rw [hss] at HV hls
  have hml := hls.2.1
  have HLS : Hid (∀ i, i < ss.length → ∃ p : Nat, hz ss i = p ∧ p < zs.length) := hls.2.2
  have hRB := readBlock_good w ao cap zs n hI hg hL
  have hSO := fun (u : World) (hu : Kept w u) => slotsOf_ok u ao cap zs n (sz zs n) (kd zs n) (hI.kept hu) hl hgl hg2 hgk
  rw [hss] at hSO
  have HI : Hid (Ints w ao zs) := hI
  subst en
  clear hI hls hh ha esl hss
  go_enter Tryz.func77, Tryz.ntmps77
  go_wp2_with (first
    | (go_at_call 57; refine hRB.mono ?_; rintro e w1 ⟨rfl, hk1⟩; have kb : Kept w1 (w1.alloc (.cells (bkC n (sz zs n) (kd zs n)) 73)) := Kept.alloc (Below.refl _ _) _; have hS1 := hSO _ (hk1.trans kb); have k1 := hk1.trans kb; have hw1 := k1.size)
    | (go_at_call 52; refine hS1.mono ?_; rintro e w2 ⟨v2, rfl, hO2, hk2⟩; obtain ⟨sa, sc, rfl, hIs⟩ := hO2.ints; have k2 := k1.trans hk2))
  go_loopw [7, 20] (fun v i wr => ∃ (k : Nat), i = .int .i64 k ∧ k ≤ ss.length ∧ wr.ownsRow w2.heap.size 3 1 v ((ss.take k).map (fun j => hz zs j.toNat)).length (((ss.take k).map (fun j => hz zs j.toNat)).map (Value.int .i64)) ∧ Kept w2 wr ∧ w2.heap.size ≤ wr.heap.size)
    (fun _ i _ => ss.length - (intOf i).toNat)
  case atStart => exact ⟨0, rfl, Nat.zero_le _, ⟨by simp, .inl ⟨rfl, rfl⟩⟩, Below.refl _ _, Nat.le_refl _⟩
  case round =>
    obtain ⟨k, rfl, hk, hrow, hK, hsz⟩ := hrel
    have hln : ((ss.take k).map (fun j => hz zs j.toNat)).length = k := by simp; omega
    by_cases hlt : k < ss.length
    · obtain ⟨p, hp, hpl⟩ := HLS.out k hlt
      obtain ⟨b1, o1, rfl, hc1⟩ := Ints.at (hIs.kept hK) hlt
      have c1 := hc1 k hlt
      rw [hp] at c1
      obtain ⟨b2, o2, rfl, hc2⟩ := Ints.at (Ints.kept HI.out (k2.trans hK)) hpl
      have c2 := hc2 p hpl
      have q1 : (k : Int) < (ss.length : Int) := by omega
      have q0 : (0 : Int) ≤ (k : Int) := by omega
      have q2 : (p : Int) < (zs.length : Int) := by omega
      have q3 : (0 : Int) ≤ (p : Int) := by omega
      have HT : Hid ((ss.take (k + 1)).map (fun j => hz zs j.toNat) = (ss.take k).map (fun j => hz zs j.toNat) ++ [hz zs p]) := by rw [Hid, take_hz hlt, List.map_append, hp]; simp
      obtain ⟨xs, hxs⟩ : ∃ xs, (ss.take k).map (fun j => hz zs j.toNat) = xs := ⟨_, rfl⟩
      rw [hxs] at hrow hln HT
      have HK : Hid _ := hK
      clear hc1 hc2 hp hxs hK
      go_wp2_with (first | (at_builtin; refine wpList_append_own _ rfl _ _ 24 rfl w2.heap.size 3 i0 (.int .i64 0) 1 8 Tryz.underlying24 hi hz0 hz1 hz2 rfl (by decide) _ _ _ rfl (hrow.alloc _) ⟨wr.heap.size, 0, none⟩ 1 1 [.int .i64 (hz zs p)] rfl rfl (cell_one_new _ _ _) (by simp [Value.oneCell']) (by unfold maxLen; omega) (by omega) (by simp; omega) ?_; intro v' w5 hown' hgrow _; have kk : Below w2.heap.size wr w5 := ((Below.refl _ wr).alloc hsz _).grown hgrow (by simp; omega) (fun j ej => (hrow.lt j ej).1)))
      go_roundw
      case rel => exact ⟨k + 1, by go_num, by omega, by rw [HT.out]; simpa using hown', Below.trans HK.out (kk.mono (by omega)), Nat.le_trans hsz kk.size⟩
      case measure => simp [intOf]; omega
    · obtain rfl : k = ss.length := by omega
      have HK : Hid _ := hK
      rw [List.take_length] at hrow
      clear hK
      go_wp2
      go_ret
      refine ⟨_, rfl, ?_, k2.trans HK.out⟩
      rw [HV.out]
      refine ⟨fun z hz' => ?_, ownsRow_base hrow k2.size⟩
      obtain ⟨j, hj, rfl⟩ := List.mem_map.1 hz'
      obtain ⟨i, hi', ei⟩ := List.getElem_of_mem hj
      obtain ⟨p, hp, hpl⟩ := HLS.out i hi'
      have e1 : j = p := by rw [← hp, ← ei]; unfold hz; rw [List.getElem?_eq_getElem hi']; rfl
      rw [e1, Int.toNat_natCast]
      exact HI.out.1 _ (hz_mem hpl)
theorem _root_.Go.World.ownsRow.keptOld {W W' : World} {base : Nat} {e : TypeId} {size : Nat} {v : Value} {n b : Nat} {xs : List Value} (h : W.ownsRow base e size v n xs) (hg : W.grownBy W' (some b)) (hb : b < base) : W'.ownsRow base e size v n xs := by
  refine h.kept hg ?_
  cases hv : v.ownBlock with
  | none => exact .inl rfl
  | some j =>
    refine .inr (fun e => ?_)
    have := (h.lt j hv).1
    injection e with e
    omega
theorem _root_.Go.World.ownsRow.notOld {W : World} {base : Nat} {e : TypeId} {size : Nat} {v : Value} {n b : Nat} {xs : List Value} (h : W.ownsRow base e size v n xs) (hb : b < base) : some b ≠ v.ownBlock := by
  intro hv
  have := (h.lt b hv.symm).1
  omega
theorem _root_.Go.World.grownBy.self (w : World) (row : Option Nat) : w.grownBy w row := ⟨rfl, rfl, rfl, Nat.le_refl _, fun _ _ _ => rfl⟩
set_option maxHeartbeats 8000000 in
set_option maxRecDepth 100000 in
theorem meet_ok (w : World) (b : Nat) (va : Option Addr) (vc : Nat) (zs out vs : List Int) (hl : zs.length ≤ 1048576) (hN : NumMap w b out) (hM : Met zs out) (hI : Ints w va vs) (hvl : vs.length ≤ 1048576) (hLd : LeadsP zs vs) :
    Calls Tryz.prog 76 #[.map (some b), .slice va vs.length vc] w fun e w' => ∃ v, e = .returned v ∧ OwnL w' w.heap.size v (newsB out vs) ∧ NumMap w' b (meetL out vs) ∧ w.grownBy w' (some b) := by
  obtain ⟨i0, hi, hz0, hz1, hz2⟩ := info_parts infoI
  have hbw := hN.lt
  have HN0 : Hid (NumMap w b out) := hN
  have HI : Hid (Ints w va vs) := hI
  have HLd : Hid (LeadsP zs vs) := hLd
  have HM0 : Hid (Met zs out) := hM
  have hN0 : NumMap w b (meetL out (vs.take 0)) := by simpa [meetL] using hN
  have n0 : newsB out (vs.take 0) = [] := by simp [newsB, meetL]
  clear hN hI hLd hM
  go_enter Tryz.func76, Tryz.ntmps76
  go_wp2_with fail
  go_loopw [5, 13] (fun v i wr => ∃ (k : Nat), i = .int .i64 k ∧ k ≤ vs.length ∧ wr.ownsRow w.heap.size 3 1 v (newsB out (vs.take k)).length ((newsB out (vs.take k)).map (Value.int .i64)) ∧ NumMap wr b (meetL out (vs.take k)) ∧ w.grownBy wr (some b))
    (fun _ i _ => vs.length - (intOf i).toNat)
  case atStart => exact ⟨0, rfl, Nat.zero_le _, by rw [n0]; exact ⟨by simp, .inl ⟨rfl, rfl⟩⟩, hN0, World.grownBy.self _ _⟩
  case round =>
    obtain ⟨k, rfl, hk, hrow, hN, hG⟩ := hrel
    clear hN0 n0
    have hMk : Met zs (meetL out (vs.take k)) := HM0.out.meet (fun v hv => HLd.out.leads v (List.mem_of_mem_take hv))
    have hml := hMk.len
    have hnl : (newsB out (vs.take k)).length ≤ zs.length := by
      have := congrArg List.length (meetL_new out (vs.take k))
      rw [List.length_append] at this
      omega
    have hsz := hG.size
    by_cases hlt : k < vs.length
    · have hIr := Ints.past HI.out HN0.out hG
      obtain ⟨b1, o1, rfl, hc1⟩ := Ints.at hIr hlt
      have c1 := hc1 k hlt
      have hvb := HI.out.1 _ (hz_mem hlt)
      have hvL := HLd.out _ (hz_mem hlt)
      have HTk : Hid (vs.take (k + 1) = vs.take k ++ [hz vs k]) := take_hz hlt
      obtain ⟨v, hv⟩ : ∃ v, hz vs k = v := ⟨_, rfl⟩
      rw [hv] at c1 hvb hvL HTk
      have q1 : (k : Int) < (vs.length : Int) := by omega
      have q0 : (0 : Int) ≤ (k : Int) := by omega
      have HG : Hid (w.grownBy wr (some b)) := hG
      clear hv hc1 hIr hG
      have hKd := fun (u : World) => impl_Kind_ok v u
      have hNm := fun (u : World) => impl_Num_ok v u hvb.1 hvb.2
      have hLe := fun (u : World) => leads_ok (v % 8) u (by omega)
      by_cases h4 : v % 8 < 4
      · have hd : decide (4 ≤ v % 8) = false := by simp; omega
        rw [hd] at hLe
        have HS : Hid (newsB out (vs.take k ++ [v]) = newsB out (vs.take k) ∧ meetL out (vs.take k ++ [v]) = meetL out (vs.take k)) := by
          have hb : blkV v = -1 := by simp [blkV, h4]
          have hno : ¬ (0 ≤ blkV v ∧ blkV v ∉ meetL out (vs.take k)) := fun h => by rw [hb] at h; omega
          exact ⟨newsB_in hno, by rw [meetL_snoc, addB, if_neg hno]⟩
        clear hd h4 hNm
        go_wp2_with (first | (go_at_call 28; refine (hKd _).mono ?_; rintro e wx ⟨rfl, rfl⟩) | (go_at_call 109; refine (hLe _).mono ?_; rintro e wx ⟨rfl, rfl⟩))
        go_roundw
        case rel => exact ⟨k + 1, by go_num, by omega, by rw [HTk.out, HS.out.1]; exact hrow, by rw [HTk.out, HS.out.2]; exact hN, HG.out⟩
        case measure => simp [intOf]; omega
      · have hd : decide (4 ≤ v % 8) = true := by simp; omega
        rw [hd] at hLe
        have hbv : blkV v = v / 8 := by simp [blkV, h4]
        have hk1 := hvL h4
        obtain ⟨p, hp, hpl, _⟩ := kind_nat hk1
        rw [hp] at hbv hNm
        clear hp hk1
        obtain ⟨n, D, hown, hD, hn⟩ := hN
        have hhas := hD.has ((p : Int))
        by_cases hin : (p : Int) ∈ meetL out (vs.take k)
        · have HS : Hid (newsB out (vs.take k ++ [v]) = newsB out (vs.take k) ∧ meetL out (vs.take k ++ [v]) = meetL out (vs.take k)) := by
            have hno : ¬ (0 ≤ blkV v ∧ blkV v ∉ meetL out (vs.take k)) := fun h => by rw [hbv] at h; exact h.2 hin
            exact ⟨newsB_in hno, by rw [meetL_snoc, addB, if_neg hno]⟩
          have hh : Maps.has D (.int .i64 ((p : Int))) = true := by rw [hhas]; simpa using hin
          have HN : Hid (NumMap wr b (meetL out (vs.take k))) := ⟨n, D, hown, hD, hn⟩
          clear hd h4 hbv hhas hin hD hvL
          go_wp2_with (first | (go_at_call 28; refine (hKd _).mono ?_; rintro e wx ⟨rfl, rfl⟩) | (go_at_call 109; refine (hLe _).mono ?_; rintro e wx ⟨rfl, rfl⟩) | (go_at_call 30; refine (hNm _).mono ?_; rintro e wx ⟨rfl, rfl⟩) | (at_lookup; refine wpList_lookup_own_ok_int _ rfl _ _ 61 rfl 3 3 .i64 lawN Tryz.underlying61 Tryz.underlying3 (Tryz.zeroValue3 _) b n _ rfl hown _ _ rfl (keyOf_int_mk Tryz.underlying3 (WalkArith.wf_i64 (by omega))) ?_; intro c hat hwc; clear hat; rw [hh]))
          go_roundw
          case rel => exact ⟨k + 1, by go_num, by omega, by rw [HTk.out, HS.out.1]; exact hrow, by rw [HTk.out, HS.out.2]; exact HN.out, HG.out⟩
          case measure => simp [intOf]; omega
        · have HS : Hid (newsB out (vs.take k ++ [v]) = newsB out (vs.take k) ++ [(p : Int)] ∧ meetL out (vs.take k ++ [v]) = meetL out (vs.take k) ++ [(p : Int)]) := by
            have h0 : 0 ≤ blkV v := by rw [hbv]; omega
            have hni : blkV v ∉ meetL out (vs.take k) := by rw [hbv]; exact hin
            refine ⟨by rw [newsB_yes h0 hni, hbv], by rw [meetL_snoc, addB, if_pos ⟨h0, hni⟩, hbv]⟩
          have hh : Maps.has D (.int .i64 ((p : Int))) = false := by rw [hhas]; simpa using hin
          have HP : Hid (NumIs (D.put (.int .i64 ((p : Int))) (.lit (.int .i64 (meetL out (vs.take k)).length))) (meetL out (vs.take k) ++ [(p : Int)])) := hD.put (hown.tidy lawN) hin
          have hds := hD.size
          obtain ⟨cur, hcur⟩ : ∃ cur, meetL out (vs.take k) = cur := ⟨_, rfl⟩
          obtain ⟨nw, hnw⟩ : ∃ nw, newsB out (vs.take k) = nw := ⟨_, rfl⟩
          rw [hcur] at HP HS hds hn hml
          rw [hnw] at HS hrow hnl
          have HDS : Hid (Maps.size D = cur.length) := hds
          clear hd h4 hbv hhas hin hD hvL hMk hcur hnw hds
          go_wp2_with (first | (go_at_call 28; refine (hKd _).mono ?_; rintro e wx ⟨rfl, rfl⟩) | (go_at_call 109; refine (hLe _).mono ?_; rintro e wx ⟨rfl, rfl⟩) | (go_at_call 30; refine (hNm _).mono ?_; rintro e wx ⟨rfl, rfl⟩) | (at_lookup; refine wpList_lookup_own_ok_int _ rfl _ _ 61 rfl 3 3 .i64 lawN Tryz.underlying61 Tryz.underlying3 (Tryz.zeroValue3 _) b n _ rfl hown _ _ rfl (keyOf_int_mk Tryz.underlying3 (WalkArith.wf_i64 (by omega))) ?_; intro c hat hwc; clear hat; rw [hh]) | (at_len; refine wpList_len_own _ rfl _ 61 rfl 3 3 Tryz.underlying61 _ b n _ rfl hown ?_; rw [HDS.out]) | (at_mapUpdate; refine wpList_mapUpdate_own _ rfl _ _ _ 61 rfl 3 3 lawN Tryz.underlying61 _ b n _ rfl hown (by unfold maxLen; omega) _ _ _ rfl rfl (keyOf_int_mk Tryz.underlying3 (WalkArith.wf_i64 (by omega))) _ [] (plainElem_int Tryz.underlying3 (WalkArith.wf_i64 (by omega))) ?_; intro w2 hown2 hg2; have hrow2 := hrow.keptOld hg2 hbw; have hsz2 := hg2.size) | (at_builtin; refine wpList_append_own _ rfl _ _ 24 rfl w.heap.size 3 i0 (.int .i64 0) 1 8 Tryz.underlying24 hi hz0 hz1 hz2 rfl (by decide) _ _ _ rfl (hrow2.alloc _) ⟨w2.heap.size, 0, none⟩ 1 1 [.int .i64 ((p : Int))] rfl rfl (cell_one_new _ _ _) (by simp [Value.oneCell']) (by unfold maxLen; omega) (by omega) (by simp; omega) ?_; intro v' w5 hown' hgrow _))
          have hgr5 : w.grownBy w5 (some b) := ((HG.out.andThen hg2 (fun j hj => .inr hj)).andThen (World.grownBy_alloc w2 _ none) (fun j hj => by cases hj)).andThen hgrow (fun j ej => .inl (hrow2.lt j ej).1)
          have hN5 : NumMap w5 b (cur ++ [(p : Int)]) := ⟨n + 1, _, (hown2.alloc _).kept hgrow (hrow2.notOld hbw), HP.out, by simp; omega⟩
          go_roundw
          case rel =>
            refine ⟨k + 1, by go_num, by omega, ?_, ?_, hgr5⟩
            · rw [HTk.out, HS.out.1]; simpa using hown'
            · rw [HTk.out, HS.out.2]; exact hN5
          case measure => simp [intOf]; omega
    · obtain rfl : k = vs.length := by omega
      rw [List.take_length] at hrow hN hMk
      have HN : Hid (NumMap wr b (meetL out vs)) := hN
      have HG : Hid (w.grownBy wr (some b)) := hG
      have HB : Hid _ := hMk.bd hl
      clear hN hG
      go_wp2
      go_ret
      refine ⟨_, rfl, ⟨fun z hz => HB.out z ?_, hrow⟩, HN.out, HG.out⟩
      rw [meetL_new]
      exact List.mem_append_right _ hz
end Go.Proofs.YtpljjeknphnnpaaGreat
namespace Go.Proofs.YtpljjeknphnnpaaGreat
open Go.RowKit Go.Maps
attribute [local go_sem] Plain.and7

theorem OwnL.lies {W : World} {base : Nat} {v : Value} {l : List Int} (h : OwnL W base v l) : Lies W v (l.map (Value.int .i64)) := by
  obtain ⟨hl, h2⟩ := h.2
  simp only [List.length_map, Nat.mul_one] at hl
  rcases h2 with ⟨rfl, h0⟩ | ⟨g, cap, cur, rfl, hb, hgg, rest⟩
  · refine .inl ⟨rfl, ?_⟩
    rw [List.eq_nil_of_length_eq_zero h0]
    rfl
  · refine .inr ⟨⟨g, 0, none⟩, cap, by rw [List.length_map], ?_⟩
    exact h.2.cells rfl
theorem ints_one (l : List Int) : ∀ u ∈ l.map (Value.int .i64), u.oneCell' = true := by
  intro u hu
  obtain ⟨z, _, rfl⟩ := List.mem_map.1 hu
  rfl
set_option maxHeartbeats 8000000 in
set_option maxRecDepth 100000 in
theorem metFrom_ok (w : World) (ao ro : Option Addr) (cap rc : Nat) (zs rs : List Int) (hI : Ints w ao zs) (hl : zs.length ≤ 1048576) (hR : Ints w ro rs) (hrl : rs.length ≤ 1048576) (hr : rootsR zs rs = true) :
    Calls Tryz.prog 36 #[.slice ao zs.length cap, .slice ro rs.length rc] w fun e w' => ∃ b, e = .returned (.map (some b)) ∧ w.heap.size ≤ b ∧ NumMap w' b (ordL zs rs) ∧ Kept w w' := by
  obtain ⟨i0, hi, hz0, hz1, hz2⟩ := info_parts infoI
  have hmm := @run_makeMap Tryz.prog
  have hh : heapR zs = true := by
    unfold rootsR at hr
    simp only [Bool.and_eq_true] at hr
    exact hr.1
  have k0 : Kept w (w.alloc (.map #[] 0)) := Kept.alloc (Below.refl _ _) _
  have m0 : NumMap (w.alloc (.map #[] 0)) w.heap.size [] := ⟨0, _, World.ownsMap_made _ _ _ _, NumIs.empty, Nat.le_refl _⟩
  have M0 : Met zs [] := ⟨List.nodup_nil, by simp⟩
  have hMe := meet_ok _ w.heap.size ro rc zs [] rs hl m0 M0 (hR.kept k0) hrl (leadsP_roots hr)
  have M1 : Met zs (meetL [] rs) := M0.meet (leads_roots hr)
  have HH : Hid _ := hh
  have HI : Hid (Ints w ao zs) := hI
  clear hr hh hR hI m0 M0
  go_enter Tryz.func36, Tryz.ntmps36
  go_wp2_with (go_at_call 76; refine hMe.mono ?_; rintro e w1 ⟨v1, rfl, hO1, hN1, hg1⟩)
  have k1 : Kept w w1 := Below.grown k0 hg1 (by simp) (fun j ej => by cases ej; exact Nat.le_refl _)
  have hs1 : w.heap.size + 1 ≤ w1.heap.size := by have := hg1.size; simp at this; omega
  have o1 : OwnAt w1 (w.heap.size + 1) 3 v1 (((meetL [] rs).drop 0).map (Value.int .i64)) := by
    have := OwnAt.of hO1.2
    have e : newsB [] rs = (meetL [] rs).drop 0 := by simp [newsB]
    rw [e] at this
    simpa using this
  clear hMe hmm k0 hO1 hg1
  go_loopg [6, 7] (zs.length + 1) (fun n v f wr => ∃ (k : Nat) (out : List Int), n + k = zs.length + 1 ∧ ordL zs rs = ordF zs n k out ∧ Met zs out ∧ k ≤ out.length ∧ OwnAt wr (w.heap.size + 1) 3 v ((out.drop k).map (Value.int .i64)) ∧ NumMap wr w.heap.size out ∧ Kept w wr ∧ w.heap.size + 1 ≤ wr.heap.size)
  case atStart => exact ⟨0, meetL [] rs, by omega, rfl, M1, Nat.zero_le _, o1, hN1, k1, hs1⟩
  case round =>
    obtain ⟨k, out, hnk, hord, hM, hk, hO, hN, hK, hsz⟩ := hrel
    clear M1 o1 hN1 k1
    have hml := hM.len
    by_cases hlt : k < out.length
    · have hda : out.drop k = hz out k :: out.drop (k + 1) := by
        rw [List.drop_eq_getElem_cons hlt]
        unfold hz
        rw [List.getElem?_eq_getElem hlt]
        rfl
      obtain ⟨a, ha⟩ : ∃ a, hz out k = a := ⟨_, rfl⟩
      have hka : 1 ≤ kindAt zs a := by rw [← ha]; exact hM.2 _ (hz_mem hlt)
      rw [ha] at hda
      have hsome : out[k]? = some a := by rw [← ha]; unfold hz; rw [List.getElem?_eq_getElem hlt]; rfl
      obtain ⟨n', rfl⟩ : ∃ n', gk = n' + 1 := ⟨gk - 1, by omega⟩
      have Hord : Hid (ordL zs rs = ordF zs n' (k + 1) (meetL out (slotV zs a))) := by rw [Hid, hord, ordF_on hsome]
      have hls := leads_slots HH.out hka
      have HM2 : Hid (Met zs (meetL out (slotV zs a))) := hM.meet hls.1
      have hsl : (slotV zs a).length ≤ zs.length := by rw [slotV_len]; exact hls.2.1
      have HD : Hid (out.drop (k + 1) ++ newsB out (slotV zs a) = (meetL out (slotV zs a)).drop (k + 1)) := by rw [Hid, meetL_new out (slotV zs a), List.drop_append_of_le_length hlt]
      rw [hda, List.map_cons] at hO
      have hlr : (out.drop (k + 1)).length ≤ 1048576 := by rw [List.length_drop]; omega
      obtain ⟨rest, hrest⟩ : ∃ rest, out.drop (k + 1) = rest := ⟨_, rfl⟩
      rw [hrest] at hO HD hlr
      rcases (id hO) with ⟨_, h⟩ | ⟨g, off, cp, cur, rfl, hbg, hgg, h1, h2, h3, ht⟩
      · cases h
      simp only [List.length_cons, List.length_map] at hO ⊢
      have hnl : (newsB out (slotV zs a)).length ≤ 1048576 := by
        have := congrArg List.length (meetL_new out (slotV zs a))
        rw [List.length_append] at this
        have := HM2.out.len
        omega
      have c0 : wr.cell? ⟨g, off, none⟩ = some (.int .i64 a) := by
        have := OwnAt.cell (xs := Value.int .i64 a :: rest.map (Value.int .i64)) (by simpa using hO) 0 (.int .i64 a) rfl
        simpa using this
      have hgw := (Array.getElem?_eq_some_iff.1 hgg).1
      have HVA : Hid _ := fun (u : World) (hu : Kept w u) => valuesAt_ok u ao cap zs a (Ints.kept HI.out hu) hl HH.out hka
      have HME : Hid _ := fun (u : World) (va : Option Addr) (vc : Nat) (hu : NumMap u w.heap.size out) (hv : Ints u va (slotV zs a)) => meet_ok u w.heap.size va vc zs out (slotV zs a) hl hu hM hv (by omega) (leadsP_slots HH.out hka)
      have HK : Hid (Kept w wr) := hK
      have HN : Hid (NumMap wr w.heap.size out) := hN
      have HO : Hid (OwnAt wr (w.heap.size + 1) 3 (.slice (some ⟨g, off, none⟩) (rest.length + 1) cp) (.int .i64 a :: rest.map (Value.int .i64))) := hO
      have HCP : Hid (rest.length + 1 ≤ cp ∧ cp ≤ maxLen) := ⟨by simpa using h1, h2⟩
      clear hda ha hka hsome hord hls hrest hK hN hO hM h1 h2 h3 ht hgg
      have z1 : (0 : Int) < (rest.length : Int) + 1 := by omega
      have hcp1 : rest.length + 1 ≤ cp := HCP.out.1
      have hcp2 : cp ≤ 9223372036854775807 := by have := HCP.out.2; unfold maxLen at this; omega
      by_cases hc1 : cp = 1
      · obtain rfl : rest = [] := List.eq_nil_of_length_eq_zero (by omega)
        subst hc1
        simp only [List.length_nil, Nat.zero_add, List.map_nil] at HO ⊢
        go_wp2_with (first | (go_at_call 77; refine (HVA.out _ HK.out).mono ?_; rintro e w2 ⟨v2, rfl, hO2, hk2⟩; obtain ⟨sa, sc, rfl, hI2⟩ := hO2.ints; have hN2 := HN.out.kept hk2.grown (by simp)) | (go_at_call 76; refine (HME.out _ sa sc hN2 hI2).mono ?_; rintro e w3 ⟨v3, rfl, hO3, hN3, hg3⟩; have HO3 : Hid (OwnL w3 w2.heap.size v3 (newsB out (slotV zs a))) := hO3; have hT := OwnAt.tail0 ((HO.out.kept hk2.grown (fun k e => by simp)).kept hg3 (fun k e e' => by injection e' with e'; have := (HO.out.lt k e).1; omega)); have hs3 : w.heap.size + 1 ≤ w3.heap.size := Nat.le_trans hsz (Nat.le_trans hk2.size hg3.size); clear hO3) | (at_builtin; refine wpList_append_at rfl _ _ 24 rfl (w.heap.size + 1) 3 i0 (.int .i64 0) 8 Tryz.underlying24 hi hz0 hz1 hz2 rfl _ _ rfl hT _ _ rfl (OwnL.lies HO3.out) (ints_one _) (by simp only [List.length_map, List.length_nil]; unfold maxLen; omega) (by simp only [List.length_map, List.length_nil]; omega) hs3 ?_; intro v' w4 hO5 hg4))
        have hrow4 : ∀ j, (Value.slice (some ⟨g, off, none⟩) 0 0).ownBlock = some j → w.heap.size + 1 ≤ j := fun j ej => (hT.lt j ej).1
        have K2 : Kept w w2 := Kept.trans HK.out hk2
        have K3 : Kept w w3 := Below.grown K2 hg3 K2.size (fun j ej => by cases ej; exact Nat.le_refl _)
        have K4 : Kept w w4 := Below.grown K3 hg4 K3.size (fun j ej => by have := hrow4 j ej; omega)
        have hN4 : NumMap w4 w.heap.size (meetL out (slotV zs a)) := hN3.kept hg4 (fun ej => by have := hrow4 w.heap.size ej.symm; omega)
        go_roundg n'
        case measure => omega
        case rel =>
          refine ⟨k + 1, meetL out (slotV zs a), by omega, Hord.out, HM2.out, ?_, ?_, hN4, K4, Nat.le_trans hs3 hg4.size⟩
          · have := meetL_len (slotV zs a) out
            omega
          · rw [← HD.out, List.nil_append]
            exact hO5
      · go_wp2_with (first | (go_at_call 77; refine (HVA.out _ HK.out).mono ?_; rintro e w2 ⟨v2, rfl, hO2, hk2⟩; obtain ⟨sa, sc, rfl, hI2⟩ := hO2.ints; have hN2 := HN.out.kept hk2.grown (by simp)) | (go_at_call 76; refine (HME.out _ sa sc hN2 hI2).mono ?_; rintro e w3 ⟨v3, rfl, hO3, hN3, hg3⟩; have HO3 : Hid (OwnL w3 w2.heap.size v3 (newsB out (slotV zs a))) := hO3; have hT : OwnAt w3 (w.heap.size + 1) 3 (.slice (some ⟨g, off + 1, none⟩) rest.length (cp - 1)) (rest.map (Value.int .i64)) := (by have hq := OwnAt.tail (xs := rest.map (Value.int .i64)) (by rw [List.length_map]; exact (HO.out.kept hk2.grown (fun k e => by simp)).kept hg3 (fun k e e' => by injection e' with e'; have := (HO.out.lt k e).1; omega)); rw [List.length_map] at hq; exact hq); have hs3 : w.heap.size + 1 ≤ w3.heap.size := Nat.le_trans hsz (Nat.le_trans hk2.size hg3.size); clear hO3) | (at_builtin; refine wpList_append_at rfl _ _ 24 rfl (w.heap.size + 1) 3 i0 (.int .i64 0) 8 Tryz.underlying24 hi hz0 hz1 hz2 rfl _ _ rfl hT _ _ rfl (OwnL.lies HO3.out) (ints_one _) (by simp only [List.length_map]; unfold maxLen; omega) (by simp only [List.length_map]; omega) hs3 ?_; intro v' w4 hO5 hg4))
        have hrow4 : ∀ j, (Value.slice (some ⟨g, off + 1, none⟩) rest.length (cp - 1)).ownBlock = some j → w.heap.size + 1 ≤ j := fun j ej => (hT.lt j ej).1
        have K2 : Kept w w2 := Kept.trans HK.out hk2
        have K3 : Kept w w3 := Below.grown K2 hg3 K2.size (fun j ej => by cases ej; exact Nat.le_refl _)
        have K4 : Kept w w4 := Below.grown K3 hg4 K3.size (fun j ej => by have := hrow4 j ej; omega)
        have hN4 : NumMap w4 w.heap.size (meetL out (slotV zs a)) := hN3.kept hg4 (fun ej => by have := hrow4 w.heap.size ej.symm; omega)
        go_roundg n'
        case measure => omega
        case rel =>
          refine ⟨k + 1, meetL out (slotV zs a), by omega, Hord.out, HM2.out, ?_, ?_, hN4, K4, Nat.le_trans hs3 hg4.size⟩
          · have := meetL_len (slotV zs a) out
            omega
          · rw [← HD.out, List.map_append]
            exact hO5
    · obtain rfl : k = out.length := by omega
      have HE : Hid (ordL zs rs = out) := by rw [Hid, hord, ordF_end (Nat.le_refl _)]
      have HN : Hid (NumMap wr w.heap.size out) := hN
      have HK : Hid (Kept w wr) := hK
      rw [List.drop_length, List.map_nil] at hO
      clear hord hN hK
      rcases hO with ⟨rfl, _⟩ | ⟨g, off, cp, cur, rfl, _⟩
      · go_wp2
        go_ret
        exact ⟨_, rfl, Nat.le_refl _, by rw [HE.out]; exact HN.out, HK.out⟩
      · simp only [List.length_nil]
        go_wp2
        go_ret
        exact ⟨_, rfl, Nat.le_refl _, by rw [HE.out]; exact HN.out, HK.out⟩
end Go.Proofs.YtpljjeknphnnpaaGreat
namespace Go.Proofs.YtpljjeknphnnpaaGreat
open Go.Shelf
def lays189_ren : Go.Shelf.Ren := ⟨fun | 189 => 78 | 125 => 111 | 257 => 110 | 128 => 139 | 129 => 140 | 294 => 130 | 295 => 131 | 296 => 132 | 297 => 133 | 298 => 134 | 299 => 135 | 216 => 136 | 300 => 137 | 301 => 138 | 328 => 155 | 329 => 156 | 330 => 157 | 331 => 158 | 332 => 159 | 215 => 160 | 343 => 167 | n => n, fun | 28 => 24 | 3 => 3 | 46 => 116 | 0 => 0 | 51 => 147 | 53 => 149 | 4 => 4 | 183 => 141 | 182 => 140 | 131 => 89 | 5 => 5 | 9 => 9 | 218 => 155 | 222 => 159 | 228 => 166 | 229 => 163 | n => n, fun | n => n⟩
theorem lays189 : Go.Proofs.Lays.n189 Tryz.prog lays189_ren := {
  mixed := by kernel_rfl
  f125 := Tryz.func111.trans (congrArg some (by kernel_rfl))
  f128 := Tryz.func139.trans (congrArg some (by kernel_rfl))
  f129 := Tryz.func140.trans (congrArg some (by kernel_rfl))
  f189 := Tryz.func78.trans (congrArg some (by kernel_rfl))
  f215 := Tryz.func160.trans (congrArg some (by kernel_rfl))
  f216 := Tryz.func136.trans (congrArg some (by kernel_rfl))
  f257 := Tryz.func110.trans (congrArg some (by kernel_rfl))
  f294 := Tryz.func130.trans (congrArg some (by kernel_rfl))
  f295 := Tryz.func131.trans (congrArg some (by kernel_rfl))
  f296 := Tryz.func132.trans (congrArg some (by kernel_rfl))
  f297 := Tryz.func133.trans (congrArg some (by kernel_rfl))
  f298 := Tryz.func134.trans (congrArg some (by kernel_rfl))
  f299 := Tryz.func135.trans (congrArg some (by kernel_rfl))
  f300 := Tryz.func137.trans (congrArg some (by kernel_rfl))
  f301 := Tryz.func138.trans (congrArg some (by kernel_rfl))
  f328 := Tryz.func155.trans (congrArg some (by kernel_rfl))
  f329 := Tryz.func156.trans (congrArg some (by kernel_rfl))
  f330 := Tryz.func157.trans (congrArg some (by kernel_rfl))
  f331 := Tryz.func158.trans (congrArg some (by kernel_rfl))
  f332 := Tryz.func159.trans (congrArg some (by kernel_rfl))
  f343 := Tryz.func167.trans (congrArg some (by kernel_rfl))
  t0 := Tryz.underlying0
  a0 := Tryz.isAgg0
  z0 := Tryz.sizeOf0
  v0 := Tryz.zeroValue0
  t3 := Tryz.underlying3
  a3 := Tryz.isAgg3
  z3 := Tryz.sizeOf3
  v3 := Tryz.zeroValue3
  t4 := Tryz.underlying4
  a4 := Tryz.isAgg4
  z4 := Tryz.sizeOf4
  v4 := Tryz.zeroValue4
  t5 := Tryz.underlying5
  a5 := Tryz.isAgg5
  z5 := Tryz.sizeOf5
  v5 := Tryz.zeroValue5
  t9 := Tryz.underlying9
  a9 := Tryz.isAgg9
  z9 := Tryz.sizeOf9
  v9 := Tryz.zeroValue9
  t28 := Tryz.underlying24
  a28 := Tryz.isAgg24
  z28 := Tryz.sizeOf24
  v28 := Tryz.zeroValue24
  t46 := Tryz.underlying116
  a46 := Tryz.isAgg116
  z46 := Tryz.sizeOf116
  v46 := Tryz.zeroValue116
  t51 := Tryz.underlying147
  a51 := Tryz.isAgg147
  z51 := Tryz.sizeOf147
  v51 := Tryz.zeroValue147
  t53 := Tryz.underlying149
  a53 := Tryz.isAgg149
  z53 := Tryz.sizeOf149
  v53 := Tryz.zeroValue149
  t131 := Tryz.underlying89
  a131 := Tryz.isAgg89
  z131 := Tryz.sizeOf89
  v131 := Tryz.zeroValue89
  t182 := Tryz.underlying140
  a182 := Tryz.isAgg140
  z182 := Tryz.sizeOf140
  v182 := Tryz.zeroValue140
  t183 := Tryz.underlying141
  a183 := Tryz.isAgg141
  z183 := Tryz.sizeOf141
  v183 := Tryz.zeroValue141
  t218 := Tryz.underlying155
  a218 := Tryz.isAgg155
  z218 := Tryz.sizeOf155
  v218 := Tryz.zeroValue155
  t222 := Tryz.underlying159
  a222 := Tryz.isAgg159
  z222 := Tryz.sizeOf159
  v222 := Tryz.zeroValue159
  t228 := Tryz.underlying166
  a228 := Tryz.isAgg166
  z228 := Tryz.sizeOf166
  v228 := Tryz.zeroValue166
  t229 := Tryz.underlying163
  a229 := Tryz.isAgg163
  z229 := Tryz.sizeOf163
  v229 := Tryz.zeroValue163 }
open Go.Sort Go.RowKit in
theorem lib_slices_Sort_int (blk off cap : Nat) (zs : List Int) (w : World) (hH : Holds (Value.int .i64) w blk off zs.toArray) (hblk : blk < w.heap.size) (hsz : zs.length < 4611686018427387904) :
    Calls Tryz.prog 78 #[.slice (some ⟨blk, off, none⟩) zs.length cap] w fun e w' =>
      e = .returned (.tuple #[]) ∧ ∃ n os, w' = grow (putRow (Value.int .i64) (Sort.ahead w n) blk off (zs.mergeSort fun x y => decide (x ≤ y)).toArray) os := Any.slices_Sort_int lays189 blk off cap zs w hH hblk hsz
open Go.RowKit Go.Sort in
theorem lib_slices_Sort_int_none (p : Option Addr) (cap : Nat) (w : World) :
    Calls Tryz.prog 78 #[.slice p 0 cap] w fun e w' => e = .returned (.tuple #[]) ∧ w' = w := Any.slices_Sort_int_none lays189 p cap w
end Go.Proofs.YtpljjeknphnnpaaGreat
namespace Go.Proofs.YtpljjeknphnnpaaGreat
open Go.RowKit Go.Maps
open Go.Sort (Holds putRow grow putCells mapBlock onCells heap_grow_old)
attribute [local go_sem] Plain.and7

/-- The keys that were met so far. -/
def Got (out : List Int) (left : Lit → Bool) (l : List Int) : Prop := l.Nodup ∧ ∀ a, a ∈ l ↔ (a ∈ out ∧ left (.int .i64 a) = false)
theorem Got.start {D : DataW Unit} {out : List Int} (h : NumIs D out) : Got out (Maps.has D) [] := ⟨List.nodup_nil, fun a => by rw [h.has]; simp⟩
theorem Got.step {out l : List Int} {left : Lit → Bool} (h : Got out left l) {x : Int} (hx : x ∈ out) (hl : left (.int .i64 x) = true) : Got out (fun z => left z && !z.sameKey (.int .i64 x)) (l ++ [x]) := by
  refine ⟨?_, fun a => ?_⟩
  · rw [List.nodup_append]
    refine ⟨h.1, by simp, fun y hy z hz e => ?_⟩
    simp at hz
    subst hz
    subst e
    have := ((h.2 y).1 hy).2
    rw [hl] at this
    cases this
  · simp only [List.mem_append, List.mem_singleton, sameN_key, Bool.and_eq_false_iff, Bool.not_eq_false', decide_eq_true_eq]
    rw [h.2]
    constructor
    · rintro (⟨h1, h2⟩ | rfl)
      · exact ⟨h1, .inl h2⟩
      · exact ⟨hx, .inr rfl⟩
    · rintro ⟨h1, h2 | h2⟩
      · exact .inl ⟨h1, h2⟩
      · exact .inr h2
theorem Got.len {out l : List Int} {left : Lit → Bool} (h : Got out left l) (ho : out.Nodup) : l.length ≤ out.length := by
  have hp : l.Perm (out.filter fun a => !left (.int .i64 a)) := (List.perm_ext_iff_of_nodup h.1 (ho.filter _)).2 (fun a => by rw [h.2]; simp)
  rw [hp.length_eq]
  exact List.length_filter_le _ _
theorem NumIs.met {D : DataW Unit} {out : List Int} (h : NumIs D out) {x c : Int} (hat : ∀ zd, D.atKey (.int .i64 x) zd = .lit (.int .i64 c)) : x ∈ out ∧ ∃ k : Nat, c = k ∧ out[k]? = some x := by
  have hh := has_true_of_atKey hat
  rw [h.has] at hh
  have hx : x ∈ out := by simpa using hh
  obtain ⟨k, hk, e⟩ := List.getElem_of_mem hx
  have hs : out[k]? = some x := by rw [List.getElem?_eq_getElem hk, e]
  refine ⟨hx, k, ?_, hs⟩
  have := h.val k x hs (.map [])
  rw [hat] at this
  injection this with this
  injection this
theorem sorted_row {W : World} {base g cap n : Nat} {os : Array Obj} {cur : Array Value} {ss ts : List Int} (hl : ts.length = ss.length) (hbase : base ≤ g) (hb : W.heap[g]? = some (.cells cur 3 (0, 0)))
    (h1 : ss.length ≤ cap) (h2 : cap ≤ maxLen) (h3 : cur.size = cap * 1) :
    (grow (putRow (Value.int .i64) (Sort.ahead W n) g 0 ts.toArray) os).ownsRow base 3 1 (.slice (some ⟨g, 0, none⟩) ss.length cap) ss.length (ts.map (Value.int .i64)) := by
  have hg : g < W.heap.size := (Array.getElem?_eq_some_iff.1 hb).1
  refine ⟨by simp [hl], .inr ⟨g, cap, putCells (Value.int .i64) 0 ts.toArray cur, rfl, hbase, ?_, h1, h2, by simp [putCells, h3], ?_⟩⟩
  · rw [heap_grow_old _ _ (by simpa using hg)]
    simp [putRow, mapBlock, Sort.ahead, Array.getElem?_modify, hb, onCells]
  · rw [Nat.mul_one, ← hl]
    apply List.ext_getElem?
    intro j
    by_cases hj : j < ts.length
    · rw [List.getElem?_take_of_lt hj, Array.getElem?_toList]
      simp [putCells, hj, show j < cur.size by omega]
    · rw [List.getElem?_take_eq_none (by omega), List.getElem?_eq_none (by simp; omega)]
theorem sorted_grown {W : World} {g n : Nat} {os : Array Obj} (d : Array Int) : W.grownBy (grow (putRow (Value.int .i64) (Sort.ahead W n) g 0 d) os) (some g) := by
  refine ⟨rfl, rfl, rfl, by simp, fun k hk hne => ?_⟩
  rw [heap_grow_old _ _ (by simpa using hk)]
  have : g ≠ k := fun e => hne (by rw [e])
  simp [putRow, mapBlock, Sort.ahead, Array.getElem?_modify, this]
set_option maxHeartbeats 8000000 in
set_option maxRecDepth 100000 in
theorem places_ok (w : World) (b : Nat) (out : List Int) (hol : out.length ≤ 1048576) (hob : ∀ a ∈ out, -9223372036854775808 ≤ a ∧ a ≤ 9223372036854775807) (hN : NumMap w b out) :
    Calls Tryz.prog 37 #[.map (some b)] w fun e w' => ∃ v, e = .returned v ∧ OwnL w' w.heap.size v (sortL out) ∧ Kept w w' := by
  obtain ⟨i0, hi, hz0, hz1, hz2⟩ := info_parts infoI
  obtain ⟨n, D, hown, hD, hn⟩ := hN
  have hbw := hown.lt
  go_enter Tryz.func37, Tryz.ntmps37
  go_wp2_with (first
    | (at_range; refine wpList_range_own _ rfl _ 61 rfl 3 3 lawN Tryz.underlying61 _ b n _ rfl hown ?_; intro w0 hrg0 hg0 hs0)
    | go_in)
  go_frame
  go_loopw [3, 4] (fun v _ wr => ∃ (left : Lit → Bool) (cnt : Nat) (l : List Int), wr.ranges Tryz.prog 3 (plainElem Tryz.prog 3) b w.heap.size n D left cnt ∧ Got out left l ∧ wr.ownsRow (w.heap.size + 1) 3 1 v l.length (l.map (Value.int .i64)) ∧ Kept w wr ∧ w.heap.size + 1 ≤ wr.heap.size)
    (fun _ _ wr => wr.rangeLeft b w.heap.size)
  case atStart => exact ⟨_, _, [], hrg0, Got.start hD, ⟨by simp, .inl ⟨rfl, rfl⟩⟩, (Below.refl _ _).grown hg0 (Nat.le_refl _) (by simp), by omega⟩
  case round =>
    obtain ⟨left, cnt, l, hrg, hL, hrow, hK, hsz⟩ := hrel
    have hll := hL.len hD.nodup
    go_wp2_with (first
      | (at_next; refine wpList_next_ranges_ii _ rfl _ rfl 3 3 .i64 .i64 lawN Tryz.underlying3 Tryz.underlying3 b w.heap.size n _ _ _ rfl hrg ?_ ?_)
      | go_in)
    · intro _ hl0
      have hmem : ∀ a, a ∈ l ↔ a ∈ out := fun a => by rw [hL.2, hl0]; simp
      have HS : Hid (l.mergeSort (fun x y => decide (x ≤ y)) = sortL out) := sorted_same hL.1 hD.nodup hmem
      have HB : Hid (∀ z ∈ sortL out, -9223372036854775808 ≤ z ∧ z ≤ 9223372036854775807) := fun z hz => hob z (by
        have := (mem_sortF out []).1 hz
        simpa using this)
      have HK : Hid (Kept w wr) := hK
      have hll2 : l.length ≤ 1048576 := by omega
      clear hl0 hmem hK hL hD hob hn hrg hrg0
      rcases (id hrow.2) with ⟨rfl, h0⟩ | ⟨g, cap, cur, rfl, hbg, hgg, hnc, hcm, hcs, htk⟩
      · obtain rfl : l = [] := List.eq_nil_of_length_eq_zero h0
        go_wp2_with (go_at_call 78; refine (lib_slices_Sort_int_none none 0 _).mono ?_; rintro e wx ⟨rfl, rfl⟩)
        go_ret
        refine ⟨_, rfl, ⟨HB.out, ?_⟩, HK.out⟩
        rw [← HS.out, List.mergeSort_nil]
        exact ⟨by simp, .inl ⟨rfl, rfl⟩⟩
      · have hgw := (Array.getElem?_eq_some_iff.1 hgg).1
        have hH : Holds (Value.int .i64) wr g 0 l.toArray := by
          obtain ⟨g', cap', e1, _, _, _, _, _, hH⟩ := Lib.holds_of_ownsRow hrow (by simp)
          cases e1
          exact hH
        have hSrt := lib_slices_Sort_int g 0 cap l wr hH hgw (by omega)
        have HR : Hid (∀ nn os, (grow (putRow (Value.int .i64) (Sort.ahead wr nn) g 0 (l.mergeSort fun x y => decide (x ≤ y)).toArray) os).ownsRow (w.heap.size + 1) 3 1 (.slice (some ⟨g, 0, none⟩) l.length cap) l.length ((l.mergeSort fun x y => decide (x ≤ y)).map (Value.int .i64))) := fun nn os => sorted_row (by simp) hbg hgg hnc hcm hcs
        obtain ⟨ts, hts⟩ : ∃ ts, (l.mergeSort fun x y => decide (x ≤ y)) = ts := ⟨_, rfl⟩
        have HTL : Hid (ts.length = l.length) := by rw [Hid, ← hts]; simp
        rw [hts] at hSrt HR HS
        have HG : Hid (∀ nn os, wr.grownBy (grow (putRow (Value.int .i64) (Sort.ahead wr nn) g 0 ts.toArray) os) (some g)) := fun nn os => sorted_grown _
        have HBG : Hid (w.heap.size + 1 ≤ g) := hbg
        clear hH hrow hts hcs htk hgg hnc hcm
        go_wp2_with (go_at_call 78; refine hSrt.mono ?_; rintro e wx ⟨rfl, nn, os, rfl⟩)
        go_ret
        have K2 : Kept w (grow (putRow (Value.int .i64) (Sort.ahead wr nn) g 0 ts.toArray) os) := Below.grown HK.out (HG.out nn os) (HK.out).size (fun j ej => by cases ej; have := HBG.out; omega)
        refine ⟨_, rfl, ⟨HB.out, ?_⟩, K2⟩
        rw [← HS.out]
        have hr := HR.out nn os
        rw [← HTL.out] at hr ⊢
        exact ownsRow_base hr (by omega)
    · intro x c w1 cnt1 hwx hwc hlx hat hrg1 hlt hg1 hs1 hen
      have HG : Hid (Got out (fun z => left z && !z.sameKey (.int .i64 x)) (l ++ [x])) := hL.step (hD.met hat).1 hlx
      have hK1 : Kept w w1 := Kept.grownRow hK hg1 (fun j hj => by cases hj; exact Nat.le_refl _)
      have hrow1 := hrow.keptOld hg1 (Nat.lt_succ_self _)
      have hsz1 : w.heap.size + 1 ≤ w1.heap.size := Nat.le_trans hsz hg1.size
      clear hat hK hs1
      go_wp2_with (first | (at_builtin; refine wpList_append_own _ rfl _ _ 24 rfl (w.heap.size + 1) 3 i0 (.int .i64 0) 1 8 Tryz.underlying24 hi hz0 hz1 hz2 rfl (by decide) _ _ _ rfl (hrow1.alloc _) ⟨w1.heap.size, 0, none⟩ 1 1 [.int .i64 x] rfl rfl (cell_one_new _ _ _) (by simp [Value.oneCell']) (by unfold maxLen; omega) (by omega) (by simp; omega) ?_; intro v' w5 hown' hgrow _))
      have kk : Below (w.heap.size + 1) w1 w5 := ((Below.refl _ w1).alloc hsz1 _).grown hgrow (by simp; omega) (fun j ej => (hrow1.lt j ej).1)
      have hrg5 := (hrg1.kept (World.grownBy_alloc w1 (.cells #[.int .i64 x] 3) none) (by simp) (by simp)).kept hgrow (hrow1.notOld (by omega)) (hrow1.notOld (by omega))
      go_roundw
      case rel => exact ⟨_, cnt1, l ++ [x], hrg5, HG.out, by simpa using hown', Below.trans hK1 (kk.mono (by omega)), Nat.le_trans hsz1 kk.size⟩
      case measure => rw [hrg5.left_eq, hrg.left_eq]; exact hlt
set_option maxHeartbeats 8000000 in
set_option maxRecDepth 100000 in
theorem impl_Reach_ok (w : World) (ao ro : Option Addr) (cap rc : Nat) (zs rs : List Int) (hI : Ints w ao zs) (hl : zs.length ≤ 1048576) (hR : Ints w ro rs) (hrl : rs.length ≤ 1048576) :
    Calls Tryz.prog 12 #[.agg #[.slice ao zs.length cap], .slice ro rs.length rc] w fun e w' => ∃ v, e = .returned v ∧ OwnL w' w.heap.size v (reachL zs rs) ∧ Kept w w' := by
  have b0 := Cells.new w 26 #[.slice ao zs.length cap]
  have k0 : Kept w (w.alloc (.cells #[.slice ao zs.length cap] 26)) := Kept.alloc (Below.refl _ _) _
  have hRo := impl_RootsOk_ok _ ao ro cap rc zs rs (hI.kept k0) hl (hR.kept k0) hrl
  cases hr : rootsR zs rs with
  | false =>
    have HR : Hid (reachL zs rs = []) := by simp [Hid, reachL, hr]
    rw [hr] at hRo
    clear hr hI hR
    go_enter Tryz.func12, Tryz.ntmps12
    go_wp2_with (go_at_call 25; refine hRo.mono ?_; rintro e w1 ⟨rfl, hk1⟩)
    go_ret
    exact ⟨_, rfl, by rw [HR.out]; exact ⟨by simp, by simp, .inl ⟨rfl, rfl⟩⟩, k0.trans hk1⟩
  | true =>
    have HR : Hid (reachL zs rs = sortL (ordL zs rs)) := by simp [Hid, reachL, hr]
    rw [hr] at hRo
    have hM := ordL_met hr
    have hol := hM.len
    have hob := hM.bd hl
    have HMF : Hid _ := fun (u : World) (hu : Kept w u) => metFrom_ok u ao ro cap rc zs rs (hI.kept hu) hl (hR.kept hu) hrl hr
    have HPl : Hid _ := fun (u : World) (b : Nat) (hu : NumMap u b (ordL zs rs)) => places_ok u b (ordL zs rs) (by omega) hob hu
    clear hr hI hR hM hob
    go_enter Tryz.func12, Tryz.ntmps12
    go_wp2_with (first | (go_at_call 25; refine hRo.mono ?_; rintro e w1 ⟨rfl, hk1⟩; have c1 := (b0.kept hk1).cell 0) | (go_at_call 36; refine (HMF.out _ (k0.trans hk1)).mono ?_; rintro e w2 ⟨b2, rfl, hb2, hN2, hk2⟩) | (go_at_call 37; refine (HPl.out _ b2 hN2).mono ?_; rintro e w3 ⟨v3, rfl, hO3, hk3⟩))
    go_ret
    have K2 := (k0.trans hk1).trans hk2
    refine ⟨_, rfl, ?_, K2.trans hk3⟩
    rw [HR.out]
    exact ⟨hO3.1, ownsRow_base hO3.2 K2.size⟩
end Go.Proofs.YtpljjeknphnnpaaGreat
