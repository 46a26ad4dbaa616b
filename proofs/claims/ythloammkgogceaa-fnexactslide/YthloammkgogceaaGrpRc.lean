/-
  The contracts of chapter 7's models l7Block, l7In and l7Order.
  The contracts of chapter 7's models l7Sort and Reach.
  The map of numbers: the blocks that were met, each with its number (chapter 7).
-/
import Derived.Deep.RegionHeld3
import Derived.Deep.AppendLies
import Derived.BigQuiet
import Derived.Maps.RangeWalk
import Derived.Maps.OwnSet
import Derived.Maps.OwnOps
import Derived.Test.YthloammkgogceaaRchP
import Derived.Test.YthloammkgogceaaShapeQ
import Derived.Test.YthloammkgogceaaHelpM
import Derived.Test.YthloammkgogceaaSeq
namespace Go.Proofs.Ythloammkgogceaa
open Go.RowKit
attribute [local go_sem] Plain.and7

theorem hz_mem {l : List Int} {k : Nat} (h : k < l.length) : hz l k ∈ l := by
  unfold hz
  rw [List.getElem?_eq_getElem h]
  exact List.getElem_mem h
set_option maxHeartbeats 4000000 in
theorem l7In_ok (w : World) (ao : Option Addr) (cap : Nat) (l : List Int) (x : Int) (hI : Ints w ao l) (hl : l.length ≤ 1048576) :
    Calls Try.prog 41 #[.slice ao l.length cap, .int .i64 x] w fun e w' => e = .returned (.bool (decide (x ∈ l))) ∧ w = w' := by
  have HI : Hid _ := hI
  clear hI
  go_enter Try.func41, Try.ntmps41
  go_wp2_with fail
  go_loopw [5] (fun i wr => ∃ k : Nat, i = .int .i64 k ∧ k ≤ l.length ∧ (∀ j, j < k → hz l j ≠ x) ∧ wr = w) (fun i _ => l.length - (intOf i).toNat)
  case atStart => exact ⟨0, rfl, Nat.zero_le _, fun j hj => by omega, rfl⟩
  case round =>
    obtain ⟨k, rfl, hk, hno, rfl⟩ := hrel
    have HNo : Hid _ := hno
    clear hno
    by_cases hlt : k < l.length
    · obtain ⟨b, o, rfl, hc⟩ := Ints.at HI.out hlt
      have c1 := hc k hlt
      have q1 : (k : Int) < (l.length : Int) := by omega
      have q0 : (0 : Int) ≤ (k : Int) := by omega
      clear hc
      by_cases he : hz l k = x
      · have hm : x ∈ l := by rw [← he]; exact hz_mem hlt
        have HD : Hid (decide (x ∈ l) = true) := by simpa [Hid] using hm
        have hq : (hz l k == x) = true := by simpa using he
        clear hm he
        go_wp2_with fail
        go_ret
        exact ⟨by rw [HD.out]; rfl, rfl⟩
      · have hq : (hz l k == x) = false := by simpa using he
        have HE : Hid _ := he
        clear he
        go_wp2_with fail
        go_roundw
        case rel =>
          refine ⟨k + 1, by go_num, by omega, fun j hj => ?_, by trivial⟩
          rcases Nat.lt_or_ge j k with h | h
          · exact HNo.out j h
          · have : j = k := by omega
            subst this
            exact HE.out
        case measure => simp [intOf]; omega
    · obtain rfl : k = l.length := by omega
      have HD : Hid (decide (x ∈ l) = false) := by
        have : x ∉ l := fun hm => by
          obtain ⟨j, hj, e⟩ := List.getElem_of_mem hm
          exact HNo.out j hj (by unfold hz; rw [List.getElem?_eq_getElem hj]; exact e)
        simpa [Hid] using this
      go_wp2_with fail
      go_ret
      exact ⟨by rw [HD.out]; rfl, rfl⟩
theorem addB_yes {out : List Int} {a : Int} (h0 : 0 ≤ a) (h : decide (a ∈ out) = false) : addB out a = out ++ [a] := by
  unfold addB
  rw [if_pos ⟨h0, by simpa using h⟩]
theorem addB_in {out : List Int} {a : Int} (h : decide (a ∈ out) = true) : addB out a = out := by
  unfold addB
  rw [if_neg (fun hc => hc.2 (by simpa using h))]
theorem addB_no {out : List Int} {a : Int} (h : ¬ 0 ≤ a) : addB out a = out := by
  unfold addB
  rw [if_neg (fun hc => h hc.1)]
theorem addB_len (out : List Int) (a : Int) : out.length ≤ (addB out a).length := by
  unfold addB
  split <;> simp
theorem meetL_len : ∀ (vs out : List Int), out.length ≤ (meetL out vs).length
  | [], _ => Nat.le_refl _
  | v :: vs, out => Nat.le_trans (addB_len out (blkV v)) (meetL_len vs (addB out (blkV v)))
theorem take_hz {l : List Int} {k : Nat} (h : k < l.length) : l.take (k + 1) = l.take k ++ [hz l k] := by
  rw [List.take_succ_eq_append_getElem h]
  unfold hz
  rw [List.getElem?_eq_getElem h]
  rfl
theorem OwnL.snoc {W : World} {base : Nat} {v : Value} {l : List Int} {a : Int} (h0 : ∀ z ∈ l ++ [a], -9223372036854775808 ≤ z ∧ z ≤ 9223372036854775807) (h : W.ownsRow base 3 1 v (l.length + 1) (l.map (Value.int .i64) ++ [.int .i64 a])) : OwnL W base v (l ++ [a]) := by
  refine ⟨h0, ?_⟩
  rw [List.length_append, List.map_append]
  exact h
theorem Ints.far {W W' : World} {so : Option Addr} {l : List Int} {row : Option Nat} (h : Ints W so l) (hg : W.grownBy W' row) (hne : ∀ x, so = some x → row ≠ some x.block) : Ints W' so l := by
  refine ⟨h.1, ?_⟩
  rcases h.2 with h | ⟨b, off, rfl, hc⟩
  · exact .inl h
  · exact .inr ⟨b, off, rfl, fun j hj => (hg.cell_far ⟨b, off + j, none⟩ (World.block_lt_of_cell? _ _ (hc j hj)) (Ne.symm (hne ⟨b, off, none⟩ rfl))).trans (hc j hj)⟩
end Go.Proofs.Ythloammkgogceaa
namespace Go.Proofs.Ythloammkgogceaa
open Go.RowKit
attribute [local go_sem] Plain.and7

/-- x ahead of all that is not less. -/
def insL (x : Int) (out : List Int) : List Int := out.takeWhile (fun y => decide (y < x)) ++ x :: out.dropWhile (fun y => decide (y < x))
def sortF (out l : List Int) : List Int := l.foldl (fun o x => insL x o) out
def sortL (l : List Int) : List Int := sortF [] l
theorem sortF_snoc (out l : List Int) (x : Int) : sortF out (l ++ [x]) = insL x (sortF out l) := by simp [sortF]
theorem insL_len (x : Int) (out : List Int) : (insL x out).length = out.length + 1 := by
  unfold insL
  have := congrArg List.length (List.takeWhile_append_dropWhile (p := fun y => decide (y < x)) (l := out))
  simp only [List.length_append, List.length_cons] at this ⊢
  omega
theorem mem_insL {x y : Int} {out : List Int} : y ∈ insL x out ↔ y = x ∨ y ∈ out := by
  have e := List.takeWhile_append_dropWhile (p := fun y => decide (y < x)) (l := out)
  unfold insL
  rw [List.mem_append, List.mem_cons]
  constructor
  · rintro (h | h | h)
    · right; rw [← e]; exact List.mem_append_left _ h
    · exact .inl h
    · right; rw [← e]; exact List.mem_append_right _ h
  · rintro (h | h)
    · exact .inr (.inl h)
    · rw [← e] at h
      rcases List.mem_append.1 h with h | h
      · exact .inl h
      · exact .inr (.inr h)
theorem insL_at {x : Int} {out : List Int} {k : Nat} (hk : k ≤ out.length) (h1 : ∀ j, j < k → hz out j < x) (h2 : k < out.length → x ≤ hz out k) : insL x out = out.take k ++ x :: out.drop k := by
  have e1 : out.takeWhile (fun y => decide (y < x)) = out.take k := by
    induction out generalizing k with
    | nil => simp
    | cons y out ih =>
      cases k with
      | zero =>
        have := h2 (by simp)
        have h3 : ¬ y < x := by have h4 : x ≤ y := by simpa [hz] using this
                                omega
        simp [h3]
      | succ k =>
        have h3 : y < x := by have := h1 0 (by omega); simpa [hz] using this
        rw [List.takeWhile_cons, if_pos (by simpa using h3), List.take_succ_cons, ih (by simpa using hk) (fun j hj => by have := h1 (j + 1) (by omega); simpa [hz] using this) (fun hlt => by have := h2 (by simpa using hlt); simpa [hz] using this)]
  have e2 : out.dropWhile (fun y => decide (y < x)) = out.drop k := by
    have h := List.takeWhile_append_dropWhile (p := fun y => decide (y < x)) (l := out)
    rw [e1] at h
    exact List.append_cancel_left (h.trans (List.take_append_drop k out).symm)
  unfold insL
  rw [e1, e2]
theorem sortF_len : ∀ (l out : List Int), (sortF out l).length = out.length + l.length
  | [], out => by simp [sortF]
  | x :: l, out => by
    have := sortF_len l (insL x out)
    rw [insL_len] at this
    show (sortF (insL x out) l).length = _
    rw [this, List.length_cons]
    omega
theorem mem_sortF {y : Int} : ∀ (l out : List Int), y ∈ sortF out l ↔ y ∈ out ∨ y ∈ l
  | [], out => by simp [sortF]
  | x :: l, out => by
    show y ∈ sortF (insL x out) l ↔ _
    rw [mem_sortF l, mem_insL, List.mem_cons]
    constructor
    · rintro ((h | h) | h)
      · exact .inr (.inl h)
      · exact .inl h
      · exact .inr (.inr h)
    · rintro (h | h | h)
      · exact .inl (.inr h)
      · exact .inl (.inl h)
      · exact .inr h
theorem insL_sorted {x : Int} {out : List Int} (h : out.Pairwise (· ≤ ·)) : (insL x out).Pairwise (· ≤ ·) := by
  induction out with
  | nil => simp [insL]
  | cons y out ih =>
    have h' := List.pairwise_cons.1 h
    by_cases hy : y < x
    · have e : insL x (y :: out) = y :: insL x out := by simp [insL, hy]
      rw [e]
      refine List.pairwise_cons.2 ⟨fun z hz' => ?_, ih h'.2⟩
      rcases mem_insL.1 hz' with rfl | hz'
      · omega
      · exact h'.1 z hz'
    · have e : insL x (y :: out) = x :: y :: out := by simp [insL, hy]
      rw [e]
      refine List.pairwise_cons.2 ⟨fun z hz' => ?_, h⟩
      rcases List.mem_cons.1 hz' with rfl | hz'
      · omega
      · have := h'.1 z hz'; omega
theorem sortF_sorted : ∀ (l : List Int) {out : List Int}, out.Pairwise (· ≤ ·) → (sortF out l).Pairwise (· ≤ ·)
  | [], _, h => h
  | _ :: l, _, h => sortF_sorted l (insL_sorted h)
theorem ints_news {W : World} {b o : Nat} {l : List Int} (hc : ∀ j, j < l.length → W.cell? ⟨b, o + j, none⟩ = some (.int .i64 (hz l j))) : ∀ (j : Nat) (u : Value), (l.map (Value.int .i64))[j]? = some u → W.cell? ((⟨b, o, none⟩ : Addr).add j) = some u := by
  intro j u hu
  rw [List.getElem?_map] at hu
  cases hj : l[j]? with
  | none => rw [hj] at hu; simp at hu
  | some z =>
    rw [hj] at hu
    have hlt := (List.getElem?_eq_some_iff.1 hj).1
    have e : hz l j = z := by unfold hz; rw [hj]; rfl
    have h1 := hc j hlt
    rw [e] at h1
    rw [show (⟨b, o, none⟩ : Addr).add j = ⟨b, o + j, none⟩ by unfold Addr.add; split <;> simp_all]
    simp at hu
    rw [← hu]
    exact h1
theorem drop_none {W : World} {ad : Addr} {a : Nat} {out : List Int} (h : out.length ≤ a) : ∀ (j : Nat) (u : Value), ((out.drop a).map (Value.int .i64))[j]? = some u → W.cell? (ad.add j) = some u := by
  intro j u hu
  rw [List.drop_eq_nil_of_le h] at hu
  simp at hu
theorem drop_news {W : World} {g a : Nat} {out : List Int} (hr : Row W g out) : ∀ (j : Nat) (u : Value), ((out.drop a).map (Value.int .i64))[j]? = some u → W.cell? ((⟨g, a, none⟩ : Addr).add j) = some u := ints_news (fun j hj => by
  rw [List.length_drop] at hj
  have := hr.cell (j := a + j) (by omega)
  rw [show hz (out.drop a) j = hz out (a + j) by unfold hz; rw [List.getElem?_drop]]
  simpa using this)
end Go.Proofs.Ythloammkgogceaa
namespace Go.Proofs.Ythloammkgogceaa
open Go.RowKit Go.Maps

theorem lawN : Keyed Try.prog 3 := int_keyed Try.underlying3
/-- The map has just the blocks of out, each with its place there. -/
structure NumIs (D : DataW Unit) (out : List Int) : Prop where
  nodup : out.Nodup
  only : ∀ kl, Maps.has D kl = true → ∃ a : Int, kl = .int .i64 a
  has : ∀ a : Int, Maps.has D (.int .i64 a) = decide (a ∈ out)
  val : ∀ (k : Nat) (a : Int), out[k]? = some a → ∀ z, D.atKey (.int .i64 a) z = .lit (.int .i64 k)
  size : Maps.size D = out.length
theorem NumIs.empty : NumIs (.map []) [] := ⟨List.nodup_nil, fun kl h => by simp [Maps.has] at h, fun a => by simp [Maps.has], fun k a h => by simp at h, rfl⟩
theorem keyN_ne {a b : Int} (h : a ≠ b) : (Lit.int .i64 a) ≠ .int .i64 b := by
  intro e
  injection e with _ e
  exact h e
theorem sameN_key (a b : Int) : (Lit.int .i64 a).sameKey (.int .i64 b) = decide (a = b) := by
  by_cases h : a = b
  · subst h; simp [Lit.sameKey]
  · rw [sameKey_ne (keyN_ne h)]; simp [h]
theorem NumIs.put {D : DataW Unit} {out : List Int} (h : NumIs D out) (ht : Tidy D) {a : Int} (ha : a ∉ out) : NumIs (D.put (.int .i64 a) (.lit (.int .i64 out.length))) (out ++ [a]) where
  nodup := by
    rw [List.nodup_append]
    exact ⟨h.nodup, by simp, fun x hx y hy => by simp at hy; subst hy; intro e; subst e; exact ha hx⟩
  only kl hk := by
    by_cases e : kl = .int .i64 a
    · exact ⟨a, e⟩
    · rw [has_put_other e] at hk; exact h.only kl hk
  has x := by
    by_cases e : x = a
    · subst e; rw [has_put_same ht.isMap (k := .int .i64 x) trivial]; simp
    · rw [has_put_other (keyN_ne e), h.has]; simp [e]
  val k x hx z := by
    by_cases e : x = a
    · subst e
      rw [atKey_put_same ht.isMap (k := .int .i64 x) trivial]
      have hk : k = out.length := by
        rcases Nat.lt_or_ge k out.length with hlt | hge
        · rw [List.getElem?_append_left hlt] at hx
          exact absurd (List.mem_of_getElem? hx) ha
        · have := (List.getElem?_eq_some_iff.1 hx).1
          simp at this
          omega
      rw [hk]
    · rw [atKey_put_other (keyN_ne e)]
      refine h.val k x ?_ z
      rcases Nat.lt_or_ge k out.length with hlt | hge
      · rw [List.getElem?_append_left hlt] at hx; exact hx
      · rw [List.getElem?_append_right hge] at hx
        have := (List.getElem?_eq_some_iff.1 hx).1
        simp at this
        rw [this] at hx
        simp at hx
        exact absurd hx.symm e
  size := by
    rw [size_put ht, h.has, h.size]
    simp [ha]
/-- Block b is a map of the numbers of the blocks of out. -/
def NumMap (w : World) (b : Nat) (out : List Int) : Prop := ∃ (n : Nat) (D : DataW Unit), w.ownsMap Try.prog 3 (plainElem Try.prog 3) b n D ∧ NumIs D out ∧ n ≤ out.length
theorem NumMap.kept {w w' : World} {b : Nat} {out : List Int} {row : Option Nat} (h : NumMap w b out) (hg : w.grownBy w' row) (hne : some b ≠ row) : NumMap w' b out := by
  obtain ⟨n, D, h1, h2, h3⟩ := h
  exact ⟨n, D, h1.kept hg hne, h2, h3⟩
theorem NumMap.lt {w : World} {b : Nat} {out : List Int} (h : NumMap w b out) : b < w.heap.size := by
  obtain ⟨n, D, h1, h2, h3⟩ := h
  exact h1.lt
/-- The blocks that values lead to and that were not met yet, in order. -/
def newsB (out vs : List Int) : List Int := (meetL out vs).drop out.length
theorem addB_app (out : List Int) (a : Int) : ∃ r, addB out a = out ++ r := by
  unfold addB
  split
  · exact ⟨[a], rfl⟩
  · exact ⟨[], by simp⟩
theorem meetL_app : ∀ (vs out : List Int), ∃ r, meetL out vs = out ++ r
  | [], out => ⟨[], by simp [meetL]⟩
  | v :: vs, out => by
    obtain ⟨r1, h1⟩ := addB_app out (blkV v)
    obtain ⟨r2, h2⟩ := meetL_app vs (addB out (blkV v))
    refine ⟨r1 ++ r2, ?_⟩
    show meetL (addB out (blkV v)) vs = _
    rw [h2, h1, List.append_assoc]
theorem meetL_new (out vs : List Int) : meetL out vs = out ++ newsB out vs := by
  obtain ⟨r, h⟩ := meetL_app vs out
  unfold newsB
  rw [h, List.drop_left]
theorem newsB_nil (out : List Int) : newsB out [] = [] := by simp [newsB, meetL]
theorem newsB_in {out vs : List Int} {v : Int} (h : ¬ (0 ≤ blkV v ∧ blkV v ∉ meetL out vs)) : newsB out (vs ++ [v]) = newsB out vs := by
  unfold newsB
  rw [meetL_snoc, addB, if_neg h]
theorem newsB_yes {out vs : List Int} {v : Int} (h0 : 0 ≤ blkV v) (h : blkV v ∉ meetL out vs) : newsB out (vs ++ [v]) = newsB out vs ++ [blkV v] := by
  unfold newsB
  rw [meetL_snoc, addB, if_pos ⟨h0, h⟩, List.drop_append_of_le_length (meetL_len vs out)]
/-- Values that lead somewhere, if they lead. -/
def LeadsP (zs vs : List Int) : Prop := ∀ v ∈ vs, ¬ v % 8 < 4 → 1 ≤ kindAt zs (v / 8)
theorem LeadsP.leads {zs vs : List Int} (h : LeadsP zs vs) : Leads zs vs := by
  intro v hv h0
  unfold blkV at h0 ⊢
  split
  · rename_i h4; rw [if_pos h4] at h0; omega
  · rename_i h4; exact h v hv h4
theorem leadsP_roots {zs rs : List Int} (h : rootsR zs rs = true) : LeadsP zs rs := by
  intro v hv h4
  unfold rootsR leadAll at h
  simp only [Bool.and_eq_true] at h
  obtain ⟨j, hj, e⟩ := List.getElem_of_mem hv
  have h1 := allR_iff.1 h.2 j hj
  have e1 : hz rs j = v := by unfold hz; rw [List.getElem?_eq_getElem hj]; exact e
  rw [e1] at h1
  have hk := leads_kind h1 (by omega)
  rw [hk]
  unfold wantK
  repeat' split
  all_goals omega
theorem leadsP_slots {zs : List Int} {a : Int} (hh : heapR zs = true) (ha : 1 ≤ kindAt zs a) : LeadsP zs (slotV zs a) := by
  obtain ⟨n, e, _, _, _, b, hb, hbn⟩ := kind_nat ha
  have hf := slots_facts hh hb
  rw [hbn, ← e] at hf
  intro v hv h4
  obtain ⟨i, hi, ei⟩ := List.getElem_of_mem hv
  rw [slotV_len] at hi
  obtain ⟨p, hp, hpl, hok, hk⟩ := hf.2.2 i hi
  have e1 : v = hz zs p := by
    have := slotV_at hi
    rw [hp, Int.toNat_natCast] at this
    rw [← this]
    unfold hz
    rw [List.getElem?_eq_getElem (by rw [slotV_len]; exact hi)]
    exact ei.symm
  rw [e1] at h4 ⊢
  exact hk (by omega)
theorem NumMap.none {w : World} {b : Nat} {out : List Int} (h : NumMap w b out) (o : Nat) : w.cell? ⟨b, o, none⟩ = none := by
  obtain ⟨n, D, ⟨es, clock, hb, _⟩, _⟩ := h
  simp [World.cell?, hb]
theorem Ints.past {W W' : World} {so : Option Addr} {l : List Int} {b : Nat} {out : List Int} (h : Ints W so l) (hN : NumMap W b out) (hg : W.grownBy W' (some b)) : Ints W' so l := by
  refine ⟨h.1, ?_⟩
  rcases h.2 with h | ⟨b1, off, rfl, hc⟩
  · exact .inl h
  · refine .inr ⟨b1, off, rfl, fun j hj => ?_⟩
    have hcj := hc j hj
    refine (hg.cell_far ⟨b1, off + j, none⟩ (World.block_lt_of_cell? _ _ hcj) ?_).trans hcj
    intro e
    have e' : b1 = b := by simpa using e
    rw [e', hN.none] at hcj
    cases hcj
/-- Lists in order that have the same are the same. -/
theorem sorted_same {l m : List Int} (hl : l.Nodup) (hm : m.Nodup) (h : ∀ a, a ∈ l ↔ a ∈ m) : l.mergeSort (fun x y => decide (x ≤ y)) = sortL m := by
  have h1 : (l.mergeSort (fun x y => decide (x ≤ y))).Pairwise (· ≤ ·) := by
    have := List.pairwise_mergeSort (le := fun x y : Int => decide (x ≤ y)) (fun a b c h1 h2 => by simp at h1 h2 ⊢; omega) (fun a b => by simp; omega) l
    exact this.imp (fun h => by simpa using h)
  have h2 : (sortL m).Pairwise (· ≤ ·) := sortF_sorted m List.Pairwise.nil
  have hp : (l.mergeSort (fun x y => decide (x ≤ y))).Perm (sortL m) := by
    refine (List.mergeSort_perm l _).trans (((List.perm_ext_iff_of_nodup hl hm).2 h).trans ?_)
    have key : ∀ (xs out : List Int), (sortF out xs).Perm (out ++ xs) := by
      intro xs
      induction xs with
      | nil => intro out; simp [sortF]
      | cons x xs ih =>
        intro out
        show (sortF (insL x out) xs).Perm _
        refine (ih (insL x out)).trans ?_
        have e := List.takeWhile_append_dropWhile (p := fun y => decide (y < x)) (l := out)
        have p1 : (insL x out).Perm (x :: out) := by
          unfold insL
          refine List.perm_middle.trans ?_
          rw [e]
        have p2 : (insL x out ++ xs).Perm (x :: out ++ xs) := p1.append_right xs
        refine p2.trans ?_
        exact List.perm_middle.symm
    have := key m []
    simpa [sortL] using this.symm
  exact List.Perm.eq_of_pairwise (fun a b _ _ h1 h2 => by omega) h1 h2 hp
end Go.Proofs.Ythloammkgogceaa
