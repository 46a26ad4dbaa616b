/-
  Facts on lists: the colours of places (chapter 8's program), and how many blocks were met.
  Colours in memory: one cell each; the contracts of paint and coloursOf.
  The contract of coloursOf: the colours of all places, of any marker.
  The contract of blacks (chapter 8's program): the black places of an array of colours, ascending.
-/
import Derived.Deep.WholeRow
import Derived.Test.YtgempjjnfpmndaaGreatDoorGrpKa
import Derived.Test.YtgempjjnfpmndaaGreatDoorGrpW
namespace Go.Proofs.YtgempjjnfpmndaaGreatDoor
open Go.RowKit

/-- The colour of a place: 2 of a black one, 1 of a grey one, 0 of any other. -/
def colAt (gs bs : List Int) (j : Nat) : Int := if (j : Int) ∈ bs then 2 else if (j : Int) ∈ gs then 1 else 0
/-- The colours of all places. -/
def colL (gs bs : List Int) : List Int := (List.range 2000).map (colAt gs bs)
theorem colL_len (gs bs : List Int) : (colL gs bs).length = 2000 := by simp [colL]
theorem colL_at {gs bs : List Int} {j : Nat} (h : j < 2000) : hz (colL gs bs) j = colAt gs bs j := by simp [hz, colL, h]
theorem col_ext {gs bs cs : List Int} (hl : cs.length = 2000) (h : ∀ j, j < 2000 → hz cs j = colAt gs bs j) : cs = colL gs bs := by
  apply List.ext_getElem (by rw [hl, colL_len])
  intro j h1 h2
  have e1 := h j (by omega)
  rw [← colL_at (gs := gs) (bs := bs) (by omega)] at e1
  simpa [hz, List.getElem?_eq_getElem h1, List.getElem?_eq_getElem h2] using e1
theorem colAt_bd (gs bs : List Int) (j : Nat) : 0 ≤ colAt gs bs j ∧ colAt gs bs j ≤ 2 := by
  unfold colAt; split
  · omega
  · split <;> omega
theorem hz_setc {cs : List Int} {a j : Nat} {c : Int} (ha : a < cs.length) : hz (cs.set a c) j = if j = a then c else hz cs j := by
  unfold hz
  rw [List.getElem?_set]
  by_cases e : a = j
  · subst e; simp [ha]
  · rw [if_neg e, if_neg (fun h => e h.symm)]
/-- Places painted with a colour, those that no slab has left out. -/
def paintL (cs ps : List Int) (c : Int) : List Int := ps.foldl (fun cs p => if 0 ≤ p ∧ p < 2000 then cs.set p.toNat c else cs) cs
theorem paintL_snoc (cs ps : List Int) (p c : Int) : paintL cs (ps ++ [p]) c = if 0 ≤ p ∧ p < 2000 then (paintL cs ps c).set p.toNat c else paintL cs ps c := by simp [paintL]
theorem paintL_len (c : Int) : ∀ (ps cs : List Int), (paintL cs ps c).length = cs.length
  | [], _ => rfl
  | p :: ps, cs => by
    show (paintL (if 0 ≤ p ∧ p < 2000 then cs.set p.toNat c else cs) ps c).length = _
    rw [paintL_len c ps]; split <;> simp
theorem hz_paintL (c : Int) {j : Nat} (hj : j < 2000) : ∀ (ps cs : List Int), cs.length = 2000 → hz (paintL cs ps c) j = if (j : Int) ∈ ps then c else hz cs j
  | [], cs, _ => by simp [paintL]
  | p :: ps, cs, hl => by
    show hz (paintL (if 0 ≤ p ∧ p < 2000 then cs.set p.toNat c else cs) ps c) j = _
    rw [hz_paintL c hj ps _ (by split <;> simp [hl])]
    by_cases hm : (j : Int) ∈ ps
    · simp [hm]
    · rw [if_neg hm]
      by_cases hp : 0 ≤ p ∧ p < 2000
      · rw [if_pos hp, hz_setc (by omega)]
        by_cases e : j = p.toNat
        · have : (j : Int) = p := by omega
          simp [e]
          intro h; omega
        · have : ¬ (j : Int) = p := by omega
          simp [e, this, hm]
      · have : ¬ (j : Int) = p := by omega
        simp [hp, this, hm]
theorem paint_both (gs bs : List Int) : paintL (paintL (List.replicate 2000 0) gs 1) bs 2 = colL gs bs := by
  refine col_ext (by rw [paintL_len, paintL_len, List.length_replicate]) fun j hj => ?_
  rw [hz_paintL 2 hj _ _ (by rw [paintL_len, List.length_replicate]), hz_paintL 1 hj _ _ List.length_replicate]
  unfold colAt
  have : hz (List.replicate 2000 0) j = 0 := by rw [hz, List.getElem?_replicate, if_pos hj]; rfl
  rw [this]
theorem col_white {gs bs : List Int} {a : Nat} (ha : a < 2000) : hz (colL gs bs) a = 0 ↔ ((a : Int) ∉ gs ∧ (a : Int) ∉ bs) := by
  rw [colL_at ha]; unfold colAt
  by_cases h1 : (a : Int) ∈ bs <;> by_cases h2 : (a : Int) ∈ gs <;> simp [h1, h2]
theorem col_black {gs bs : List Int} {a : Nat} (ha : a < 2000) : hz (colL gs bs) a = 2 ↔ (a : Int) ∈ bs := by
  rw [colL_at ha]; unfold colAt
  by_cases h1 : (a : Int) ∈ bs <;> by_cases h2 : (a : Int) ∈ gs <;> simp [h1, h2]
theorem col_grey {gs bs : List Int} {a : Nat} (ha : a < 2000) (hb : (a : Int) ∉ bs) : (colL gs bs).set a 1 = colL (gs ++ [(a : Int)]) bs := by
  refine col_ext (by simp [colL_len]) fun j hj => ?_
  rw [hz_setc (by rw [colL_len]; exact ha), colL_at hj]
  unfold colAt
  by_cases e : j = a
  · subst e; simp [hb]
  · have : ¬ (j : Int) = (a : Int) := by omega
    simp [e, this]
theorem col_ink {g bs bs' : List Int} {a : Nat} (ha : a < 2000) (hn : (a : Int) ∉ g) (hi : ∀ y, y ∈ bs' ↔ y = (a : Int) ∨ y ∈ bs) : (colL ((a : Int) :: g) bs).set a 2 = colL g bs' := by
  refine col_ext (by simp [colL_len]) fun j hj => ?_
  rw [hz_setc (by rw [colL_len]; exact ha), colL_at hj]
  unfold colAt
  by_cases e : j = a
  · subst e; simp [hi]
  · have : ¬ (j : Int) = (a : Int) := by omega
    simp [e, this, hi]
/-- The black places among the first k, ascending. -/
def blacksL (cs : List Int) (k : Nat) : List Int := ((List.range k).filter (fun j => decide (hz cs j = 2))).map Int.ofNat
theorem blacksL_zero (cs : List Int) : blacksL cs 0 = [] := rfl
theorem blacksL_yes {cs : List Int} {k : Nat} (h : hz cs k = 2) : blacksL cs (k + 1) = blacksL cs k ++ [(k : Int)] := by simp [blacksL, List.range_succ, h]
theorem blacksL_no {cs : List Int} {k : Nat} (h : ¬ hz cs k = 2) : blacksL cs (k + 1) = blacksL cs k := by simp [blacksL, List.range_succ, h]
theorem blacksL_len (cs : List Int) (k : Nat) : (blacksL cs k).length ≤ k := by
  unfold blacksL
  rw [List.length_map]
  exact Nat.le_trans (List.length_filter_le _ _) (by simp)
theorem blacksL_mem {cs : List Int} {k : Nat} {x : Int} : x ∈ blacksL cs k ↔ ∃ j : Nat, j < k ∧ x = j ∧ hz cs j = 2 := by
  unfold blacksL
  simp only [List.mem_map, List.mem_filter, List.mem_range, decide_eq_true_eq]
  constructor
  · rintro ⟨j, ⟨h1, h2⟩, rfl⟩; exact ⟨j, h1, rfl, h2⟩
  · rintro ⟨j, h1, rfl, h2⟩; exact ⟨j, ⟨h1, h2⟩, rfl⟩
theorem blacksL_asc (cs : List Int) (k : Nat) : (blacksL cs k).Pairwise (· < ·) := by
  unfold blacksL
  rw [List.pairwise_map]
  exact List.Pairwise.imp (fun h => by show Int.ofNat _ < Int.ofNat _; simpa using h) ((List.pairwise_lt_range (n := k)).filter _)
theorem asc_same : ∀ {l m : List Int}, l.Pairwise (· < ·) → m.Pairwise (· < ·) → (∀ a, a ∈ l ↔ a ∈ m) → l = m
  | [], [], _, _, _ => rfl
  | [], y :: m, _, _, h => absurd ((h y).2 (by simp)) (by simp)
  | x :: l, [], _, _, h => absurd ((h x).1 (by simp)) (by simp)
  | x :: l, y :: m, hl, hm, h => by
    have hl' := List.pairwise_cons.1 hl
    have hm' := List.pairwise_cons.1 hm
    have e : x = y := by
      have h1 := (h x).1 (by simp)
      have h2 := (h y).2 (by simp)
      rcases List.mem_cons.1 h1 with h1 | h1
      · exact h1
      · rcases List.mem_cons.1 h2 with h2 | h2
        · exact h2.symm
        · have := hl'.1 _ h2; have := hm'.1 _ h1; omega
    subst e
    rw [asc_same hl'.2 hm'.2 fun a => ?_]
    constructor
    · intro ha
      have h1 := (h a).1 (List.mem_cons_of_mem _ ha)
      rcases List.mem_cons.1 h1 with h1 | h1
      · have := hl'.1 _ ha; omega
      · exact h1
    · intro ha
      have h1 := (h a).2 (List.mem_cons_of_mem _ ha)
      rcases List.mem_cons.1 h1 with h1 | h1
      · have := hm'.1 _ ha; omega
      · exact h1
theorem blacks_col {gs bs : List Int} (ha : bs.Pairwise (· < ·)) (hb : ∀ b ∈ bs, 0 ≤ b ∧ b < 2000) : blacksL (colL gs bs) 2000 = bs := by
  refine asc_same (blacksL_asc _ _) ha fun x => ?_
  rw [blacksL_mem]
  constructor
  · rintro ⟨j, hj, rfl, h⟩
    exact (col_black hj).1 h
  · intro hx
    have := hb x hx
    exact ⟨x.toNat, by omega, by omega, (col_black (by omega)).2 (by rwa [Int.toNat_of_nonneg (by omega)])⟩
theorem col_more {gs bs ex : List Int} (hg : ∀ x ∈ ex, x ∉ gs ∧ x ∉ bs ∧ 0 ≤ x ∧ x < 2000) : colL (gs ++ ex) bs = colL gs bs ↔ ex = [] := by
  constructor
  · intro h
    cases ex with
    | nil => rfl
    | cons x r =>
      obtain ⟨h1, h2, h3, h4⟩ := hg x (by simp)
      have e : hz (colL (gs ++ x :: r) bs) x.toNat = hz (colL gs bs) x.toNat := by rw [h]
      have hl : x.toNat < 2000 := by omega
      have hw : hz (colL gs bs) x.toNat = 0 := (col_white hl).2 ⟨by rwa [Int.toNat_of_nonneg h3], by rwa [Int.toNat_of_nonneg h3]⟩
      rw [hw] at e
      have := ((col_white hl).1 e).1
      rw [Int.toNat_of_nonneg h3] at this
      exact absurd (List.mem_append.2 (.inr (List.mem_cons_self ..))) this
  · rintro rfl; rw [List.append_nil]
/-- As many as there are of one's own that are among others, each once. -/
theorem perm_of_sub : ∀ {A L : List Int}, A.Nodup → (∀ a ∈ A, a ∈ L) → L.length ≤ A.length → A.Perm L
  | [], L, _, _, h => by
    have : L = [] := List.length_eq_zero_iff.1 (by simpa using h)
    rw [this]
  | a :: A, L, hd, hs, h => by
    have hd' := List.nodup_cons.1 hd
    have ha := hs a (by simp)
    have h1 := List.perm_cons_erase ha
    have hle : (L.erase a).length = L.length - 1 := List.length_erase_of_mem ha
    refine (List.Perm.cons a (perm_of_sub hd'.2 (fun x hx => ?_) (by simp at h; omega))).trans h1.symm
    have hne : x ≠ a := fun e => hd'.1 (by rw [← e]; exact hx)
    exact (List.mem_erase_of_ne hne).2 (hs x (List.mem_cons_of_mem _ hx))
theorem sub_len : ∀ {A L : List Int}, A.Nodup → (∀ a ∈ A, a ∈ L) → A.length ≤ L.length
  | [], L, _, _ => by simp
  | a :: A, L, hd, hs => by
    have hd' := List.nodup_cons.1 hd
    have ha := hs a (by simp)
    have hle : (L.erase a).length = L.length - 1 := List.length_erase_of_mem ha
    have hp : 0 < L.length := List.length_pos_of_mem ha
    have := sub_len (L := L.erase a) hd'.2 (fun x hx => by
      have hne : x ≠ a := fun e => hd'.1 (by rw [← e]; exact hx)
      exact (List.mem_erase_of_ne hne).2 (hs x (List.mem_cons_of_mem _ hx)))
    simp; omega
theorem count_iff {P L : List Int} (hP : P.Nodup) : (P.filter (fun p => decide (p ∈ L))).length = L.length ↔ L.Nodup ∧ ∀ a ∈ L, a ∈ P := by
  have hA : (P.filter (fun p => decide (p ∈ L))).Nodup := hP.filter _
  have hS : ∀ a ∈ P.filter (fun p => decide (p ∈ L)), a ∈ L := fun a ha => by simpa using (List.mem_filter.1 ha).2
  constructor
  · intro h
    have hp := perm_of_sub hA hS (by omega)
    exact ⟨hp.nodup hA, fun a ha => (List.mem_filter.1 (hp.mem_iff.2 ha)).1⟩
  · rintro ⟨hn, hs⟩
    have h1 := sub_len hA hS
    have h2 := sub_len (L := P.filter (fun p => decide (p ∈ L))) hn (fun a ha => List.mem_filter.2 ⟨hs a ha, by simpa using ha⟩)
    omega
/-- How many of some blocks are not free, and were met. -/
def cntL {L : Nat} (l : List (BkOf L)) (m : List Int) : Nat := (l.filter (fun b => decide (b.1.kind ≠ 0) && decide (((b.1.at' : Nat) : Int) ∈ m))).length
theorem cntL_nil {L : Nat} (m : List Int) : cntL (L := L) [] m = 0 := rfl
theorem cntL_yes {L : Nat} {l : List (BkOf L)} {b : BkOf L} {m : List Int} (h : b.1.kind ≠ 0 ∧ ((b.1.at' : Nat) : Int) ∈ m) : cntL (l ++ [b]) m = cntL l m + 1 := by simp [cntL, List.filter_append, h]
theorem cntL_no {L : Nat} {l : List (BkOf L)} {b : BkOf L} {m : List Int} (h : ¬ (b.1.kind ≠ 0 ∧ ((b.1.at' : Nat) : Int) ∈ m)) : cntL (l ++ [b]) m = cntL l m := by
  unfold cntL
  rw [List.filter_append, List.length_append]
  have this : (decide (b.1.kind ≠ 0) && decide (((b.1.at' : Nat) : Int) ∈ m)) = false := by
    cases hq : (decide (b.1.kind ≠ 0) && decide (((b.1.at' : Nat) : Int) ∈ m)) with
    | false => rfl
    | true => exact absurd (by simpa using hq) h
  rw [List.filter_cons, this]
  rfl
theorem cntL_le {L : Nat} (l : List (BkOf L)) (m : List Int) : cntL l m ≤ l.length := List.length_filter_le _ _
/-- The places of all blocks that are not free. -/
def bound {L : Nat} (l : List (BkOf L)) : List Int := (l.filter (fun b => decide (b.1.kind ≠ 0))).map (fun b => ((b.1.at' : Nat) : Int))
theorem bound_nodup (zs : List Int) : (bound (blocks zs)).Nodup := by
  unfold bound
  refine List.Pairwise.map _ (R := fun b c : BkOf zs.length => b.1.at' < c.1.at') (fun a b h e => by omega) ((blks_sorted zs 0).filter _)
theorem bound_mem {zs : List Int} (hok : slabOk zs = true) {x : Int} : x ∈ bound (blocks zs) ↔ 1 ≤ kindAt zs x := by
  unfold bound
  simp only [List.mem_map, List.mem_filter, decide_eq_true_eq]
  constructor
  · rintro ⟨b, ⟨hb, hk⟩, rfl⟩
    have he : atB zs (b.1.at' : Nat) = some b := by
      unfold atB
      rw [if_pos hok]
      refine List.find?_eq_some_iff_append.2 ⟨by simp, ?_⟩
      obtain ⟨pre, post, e⟩ := List.append_of_mem hb
      refine ⟨pre, post, e, fun c hc => ?_⟩
      have hs := blks_sorted zs 0
      have e' : blks zs 0 = pre ++ b :: post := e
      rw [e'] at hs
      have := (List.pairwise_append.1 hs).2.2 c hc b (by simp)
      simp; omega
    unfold kindAt
    rw [he]
    simp; omega
  · intro h
    obtain ⟨n, e, _, _, _, b, hb, hbn⟩ := kind_nat h
    unfold kindAt at h
    cases hq : atB zs x with
    | none => rw [hq] at h; simp at h
    | some c =>
      rw [hq] at h
      obtain ⟨_, e1, _, _, _, hm⟩ := atB_some hq
      exact ⟨c, ⟨hm, by simp at h; omega⟩, e1⟩
theorem cnt_bound {L : Nat} (l : List (BkOf L)) (m : List Int) : cntL l m = ((bound l).filter (fun p => decide (p ∈ m))).length := by
  unfold cntL bound
  rw [List.filter_map, List.length_map, List.filter_filter]
  congr 1
  apply List.filter_congr
  intro b _
  simp [Bool.and_comm]
/-- Each is at least the one ahead. -/
def sortB (l : List Int) : Bool := allR (fun i => decide (i = 0) || decide (hz l (i - 1) ≤ hz l i)) l.length
/-- What listsOk tells. -/
def listsR (zs gs bs : List Int) : Bool := decide (cntL (blocks zs) (gs ++ bs) = gs.length + bs.length) && sortB bs
theorem lists_is {zs gs bs : List Int} (hok : slabOk zs = true) : listsR zs gs bs = (placesR zs gs && placesR zs bs && blackR gs bs) := by
  rw [Bool.eq_iff_iff]
  unfold listsR
  simp only [Bool.and_eq_true, decide_eq_true_eq, places_iff]
  rw [cnt_bound, ← List.length_append, count_iff (bound_nodup zs)]
  have hb : blackR gs bs = true ↔ ((∀ b ∈ bs, b ∉ gs) ∧ sortB bs = true) := by
    unfold blackR sortB
    rw [allR_iff, allR_iff]
    unfold blackB
    simp only [Bool.and_eq_true, Bool.not_eq_true', decide_eq_false_iff_not]
    constructor
    · intro h
      refine ⟨fun b hb => ?_, fun i hi => (h i hi).2⟩
      obtain ⟨i, hi, e⟩ := List.getElem_of_mem hb
      have := (h i hi).1
      rwa [hz_get hi, e] at this
    · rintro ⟨h1, h2⟩ i hi
      exact ⟨h1 _ (hz_mem hi), h2 i hi⟩
  rw [hb]
  have hm : (∀ a ∈ gs ++ bs, a ∈ bound (blocks zs)) ↔ (∀ a ∈ gs, 1 ≤ kindAt zs a) ∧ (∀ a ∈ bs, 1 ≤ kindAt zs a) := by
    constructor
    · intro h
      exact ⟨fun a ha => (bound_mem hok).1 (h a (List.mem_append.2 (.inl ha))), fun a ha => (bound_mem hok).1 (h a (List.mem_append.2 (.inr ha)))⟩
    · rintro ⟨h1, h2⟩ a ha
      rcases List.mem_append.1 ha with h | h
      · exact (bound_mem hok).2 (h1 a h)
      · exact (bound_mem hok).2 (h2 a h)
  rw [hm, List.nodup_append]
  constructor
  · rintro ⟨⟨⟨h1, h2, h3⟩, h4, h5⟩, h6⟩
    exact ⟨⟨⟨h1, h4⟩, h2, h5⟩, fun b hb hg => h3 b hg b hb rfl, h6⟩
  · rintro ⟨⟨⟨h1, h4⟩, h2, h5⟩, h3, h6⟩
    exact ⟨⟨⟨h1, h2, fun a ha b hb e => h3 b hb (e ▸ ha)⟩, h4, h5⟩, h6⟩
end Go.Proofs.YtgempjjnfpmndaaGreatDoor
namespace Go.Proofs.YtgempjjnfpmndaaGreatDoor
open Go.RowKit

/-- Colours as cells. -/
def colC (cs : List Int) : Array Value := (cs.map (Value.int .u8)).toArray
theorem colC_size (cs : List Int) : (colC cs).size = cs.length := by simp [colC]
theorem colC_at {cs : List Int} {j : Nat} (h : j < cs.length) : (colC cs)[j]? = some (.int .u8 (hz cs j)) := by
  simp [colC, hz, List.getElem?_eq_getElem h]
theorem colC_set (cs : List Int) (j : Nat) (c : Int) : (colC cs).setIfInBounds j (.int .u8 c) = colC (cs.set j c) := by
  unfold colC
  rw [List.setIfInBounds_toArray, List.map_set]
theorem colC_one (cs : List Int) : (colC cs).all (·.oneCell') = true := by
  rw [Array.all_eq_true_iff_forall_mem]
  intro v hv
  obtain ⟨z, _, rfl⟩ := List.mem_map.1 (by simpa [colC] using hv)
  rfl
theorem Ints.grown {W W' : World} {ao : Option Addr} {l : List Int} {B : Nat} (h : Ints W ao l) (hg : W.grownBy W' (some B)) (hne : ∀ a, ao = some a → a.block ≠ B) : Ints W' ao l := by
  refine ⟨h.1, ?_⟩
  rcases h.2 with h | ⟨b, off, e, hc⟩
  · exact .inl h
  · refine .inr ⟨b, off, e, fun j hj => ?_⟩
    have hb : W'.heap[b]? = W.heap[b]? := hg.block b (World.block_lt_of_cell? _ _ (hc j hj)) (fun e' => by injection e' with e'; exact hne _ e e')
    have := hc j hj
    simp only [World.cell?] at this ⊢
    rw [hb]
    exact this
set_option maxHeartbeats 4000000 in
set_option maxRecDepth 100000 in
theorem paint_far (w : World) (B : Nat) (ao : Option Addr) (cap : Nat) (cs ps : List Int) (c : Int) (hC : Cells w B 120 (colC cs)) (hcl : cs.length = 2000) (hI : Ints w ao ps) (hl : ps.length ≤ 1048576) (hne : ps ≠ [] → ∀ a, ao = some a → a.block ≠ B) :
    Calls Tryz.prog 176 #[.pointer (some ⟨B, 0, none⟩), .slice ao ps.length cap, .int .u8 c] w fun e w' => e = .returned (.tuple #[]) ∧ Cells w' B 120 (colC (paintL cs ps c)) ∧ w.grownBy w' (some B) := by
  have HC : Hid _ := hC
  have HI : Hid _ := hI
  have HN : Hid _ := hne
  clear hC hI hne
  go_enter Tryz.func176, Tryz.ntmps176
  go_wp2_with fail
  go_loopw [10] (fun i wr => ∃ k : Nat, i = .int .i64 k ∧ k ≤ ps.length ∧ Cells wr B 120 (colC (paintL cs (ps.take k) c)) ∧ w.grownBy wr (some B)) (fun i _ => ps.length - (intOf i).toNat)
  case atStart => exact ⟨0, rfl, Nat.zero_le _, HC.out, ⟨rfl, rfl, rfl, Nat.le_refl _, fun _ _ _ => rfl⟩⟩
  case round =>
    obtain ⟨k, rfl, hk, hCk, hG⟩ := hrel
    by_cases hlt : k < ps.length
    · obtain ⟨b, off, rfl, hc⟩ := Ints.at (Ints.grown HI.out hG (HN.out (List.ne_nil_of_length_pos (by omega)))) hlt
      have c0 := hc k hlt
      have HT : Hid (paintL cs (ps.take (k + 1)) c = if 0 ≤ hz ps k ∧ hz ps k < 2000 then (paintL cs (ps.take k) c).set (hz ps k).toNat c else paintL cs (ps.take k) c) := by rw [Hid, take_hz hlt, paintL_snoc]
      have hpl : (paintL cs (ps.take k) c).length = 2000 := by rw [paintL_len, hcl]
      obtain ⟨p, hp⟩ : ∃ p, hz ps k = p := ⟨_, rfl⟩
      obtain ⟨ck, hck⟩ : ∃ ck, paintL cs (ps.take k) c = ck := ⟨_, rfl⟩
      rw [hp, hck] at HT
      rw [hp] at c0
      rw [hck] at hCk hpl
      have q1 : (k : Int) < (ps.length : Int) := by omega
      have q0 : (0 : Int) ≤ (k : Int) := by omega
      have HG : Hid _ := hG
      have HCk : Hid _ := hCk
      have HP : Hid _ := hpl
      clear hc hp hck hG hCk hpl
      by_cases hin : 0 ≤ p ∧ p < 2000
      · obtain ⟨n, rfl⟩ : ∃ n : Nat, p = n := ⟨p.toNat, by omega⟩
        have hn : n < 2000 := by omega
        have cc := (show Cells wr B 120 (colC ck) from HCk.out).cell n
        have cf := (show Cells wr B 120 (colC ck) from HCk.out).frozen n
        rw [colC_at (by have := HP.out; omega)] at cc
        have p1 : (0 : Int) ≤ (n : Int) := by omega
        have p2 : (n : Int) < 2000 := by omega
        clear hin
        go_wp2_with (go_at_call 152; go_in)
        go_roundw
        case rel =>
          refine ⟨k + 1, by go_num, by omega, ?_, grown_set HG.out _⟩
          rw [HT.out, if_pos ⟨by omega, by omega⟩, Int.toNat_natCast, ← colC_set]
          exact (show Cells wr B 120 (colC ck) from HCk.out).set n _
        case measure => simp [intOf]; omega
      · have h2 : ¬ 0 ≤ p ∨ ¬ p < 2000 := by omega
        rcases h2 with h2 | h2
        · clear hin
          go_wp2_with (go_at_call 152; go_in)
          go_roundw
          case rel => exact ⟨k + 1, by go_num, by omega, by rw [HT.out, if_neg (by omega)]; exact HCk.out, HG.out⟩
          case measure => simp [intOf]; omega
        · have h3 : 0 ≤ p := by omega
          clear hin
          go_wp2_with (go_at_call 152; go_in)
          go_roundw
          case rel => exact ⟨k + 1, by go_num, by omega, by rw [HT.out, if_neg (by omega)]; exact HCk.out, HG.out⟩
          case measure => simp [intOf]; omega
    · obtain rfl : k = ps.length := by omega
      rw [List.take_length] at hCk
      have HG : Hid _ := hG
      have HCk : Hid _ := hCk
      clear hG hCk
      go_wp2_with fail
      go_end0
      exact ⟨rfl, HCk.out, HG.out⟩
end Go.Proofs.YtgempjjnfpmndaaGreatDoor
namespace Go.Proofs.YtgempjjnfpmndaaGreatDoor
open Go.RowKit

theorem zeroCol : Tryz.zeroCells120 = colC (List.replicate 2000 0) := by kernel_rfl
theorem zeroCells_size : (colC (List.replicate 2000 0)).size = 2000 := by rw [colC_size, List.length_replicate]
theorem Kept.row {a b : World} (h : Kept a b) {B : Nat} (hp : a.heap.size ≤ B) (cs : Array Value) : Kept a (b.setRow B cs) :=
  ⟨h.os, h.tape, h.output, by simpa [World.setRow] using h.size, fun k hk => (setRow_other b B k cs (by omega)).trans (h.block k hk)⟩
theorem Cells.row {W : World} {B : Nat} {t : TypeId} {cs : Array Value} (h : Cells W B t cs) (cs' : Array Value) : Cells (W.setRow B cs') B t cs' := setRow_heap W B cs cs' t (0, 0) h
theorem infoCol : (Tryz.prog.info? 120).map (·.size) = some 2000 := by kernel_rfl
theorem load_col {W : World} {B : Nat} {t : TypeId} {cs : List Int} (h : Cells W B t (colC cs)) (hl : cs.length = 2000) : (loadVar 120 ⟨B, 0, none⟩).run Tryz.prog W = .ok (.agg (colC cs)) W :=
  run_loadVar_row W B t 120 (colC cs) (0, 0) _ h Tryz.underlying120 rfl (by rw [colC_size, hl]; exact infoCol)
theorem store_col {W : World} {B : Nat} {t : TypeId} {old : Array Value} {cs : List Int} (h : Cells W B t old) (ho : old.size = 2000) (hl : cs.length = 2000) : (storeVar 120 ⟨B, 0, none⟩ (.agg (colC cs))).run Tryz.prog W = .ok () (W.setRow B (colC cs)) :=
  run_storeVar_row W B t 120 old (colC cs) h (by rw [colC_size, hl]; exact infoCol) (by rw [colC_size, hl, ho]) (colC_one cs)
theorem Ints.farC {W W' : World} {ao : Option Addr} {l : List Int} {B : Nat} (h : Ints W ao l) (hg : W.grownBy W' (some B)) (hne : l ≠ [] → ∀ a, ao = some a → a.block ≠ B) : Ints W' ao l := by
  by_cases hn : l = []
  · subst hn; exact ⟨by simp, .inl rfl⟩
  · exact h.grown hg (hne hn)
set_option maxHeartbeats 4000000 in
set_option maxRecDepth 100000 in
theorem coloursOf_ok (w : World) (ph at' : Int) (ga ba : Option Addr) (gc bc : Nat) (gs bs : List Int) (hg : Ints w ga gs) (hb : Ints w ba bs) (hgl : gs.length ≤ 1048576) (hbl : bs.length ≤ 1048576) :
    Calls Tryz.prog 137 #[.agg #[.int .i64 ph, .slice ga gs.length gc, .slice ba bs.length bc, .int .i64 at']] w fun e w' => e = .returned (.agg (colC (colL gs bs))) ∧ Kept w w' := by
  obtain ⟨WX, hWX⟩ : ∃ WX, ((w.alloc (.cells #[.int .i64 ph, .slice ga gs.length gc, .slice ba bs.length bc, .int .i64 at'] 40)).alloc (.cells Tryz.zeroCells120 120)).alloc (.cells Tryz.zeroCells120 120) = WX := ⟨_, rfl⟩
  have y0 : Cells WX w.heap.size 40 #[.int .i64 ph, .slice ga gs.length gc, .slice ba bs.length bc, .int .i64 at'] := by rw [← hWX]; exact ((Cells.new w _ _).alloc _).alloc _
  have z0 : Cells WX (w.heap.size + 1) 120 (colC (List.replicate 2000 0)) := by
    rw [← hWX, zeroCol]
    have h := (Cells.new (w.alloc (.cells #[.int .i64 ph, .slice ga gs.length gc, .slice ba bs.length bc, .int .i64 at'] 40)) 120 (colC (List.replicate 2000 0))).alloc (.cells (colC (List.replicate 2000 0)) 120)
    rw [World.size_alloc] at h
    exact h
  have x0 : Cells WX (w.heap.size + 2) 120 (colC (List.replicate 2000 0)) := by
    rw [← hWX, zeroCol]
    have h := Cells.new ((w.alloc (.cells #[.int .i64 ph, .slice ga gs.length gc, .slice ba bs.length bc, .int .i64 at'] 40)).alloc (.cells (colC (List.replicate 2000 0)) 120)) 120 (colC (List.replicate 2000 0))
    rw [World.size_alloc, World.size_alloc] at h
    exact h
  have k0 : Kept w WX := by rw [← hWX]; exact ((Kept.alloc (Below.refl _ _) _).alloc _).alloc _
  have hs0 : WX.heap.size = w.heap.size + 3 := by rw [← hWX]; simp
  have hlt : ∀ {ao : Option Addr} {l : List Int}, Ints w ao l → l ≠ [] → ∀ a, ao = some a → a.block < w.heap.size := fun h hn a e => h.lt hn e
  have hne : ∀ {ao : Option Addr} {l : List Int}, Ints w ao l → Ints WX ao l := fun h => h.kept k0
  have P1 : Calls Tryz.prog 176 #[.pointer (some ⟨w.heap.size + 2, 0, none⟩), .slice ga gs.length gc, .int .u8 1] WX fun e w' => e = .returned (.tuple #[]) ∧ Cells w' (w.heap.size + 2) 120 (colC (paintL (List.replicate 2000 0) gs 1)) ∧ WX.grownBy w' (some (w.heap.size + 2)) :=
    paint_far WX (w.heap.size + 2) ga gc _ gs 1 x0 List.length_replicate (hg.kept k0) hgl (fun hn a e => by have := hlt hg hn a e; omega)
  have HZ : Hid _ := z0
  have HY : Hid _ := y0
  have HK : Hid _ := k0
  have HS : Hid _ := hs0
  have HB : Hid (∀ u, WX.grownBy u (some (w.heap.size + 2)) → Ints u ba bs) := fun u hu => (hb.kept k0).farC hu (fun hn a e => by have := hlt hb hn a e; omega)
  have HLb : Hid (bs ≠ [] → ∀ a, ba = some a → a.block ≠ w.heap.size + 2) := fun hn a e => by have := hlt hb hn a e; omega
  have c1 := y0.cell 1
  go_enter Tryz.func137, Tryz.ntmps137
  go_wp2_with fail
  clear hWX hg hb hlt hne
  refine P1.mono ?_
  rintro e w1 ⟨rfl, x1, g1⟩
  have y1 : Cells w1 w.heap.size 40 _ := (g1.block w.heap.size (by have := HS.out; omega) (by simp)).trans HY.out
  have d2 := y1.cell 2
  have P2 := paint_far w1 (w.heap.size + 2) ba bc _ bs 2 x1 (by rw [paintL_len, List.length_replicate]) (HB.out _ g1) hbl HLb.out
  rw [paint_both] at P2
  clear P1 x1 c1 y1 y0 z0 x0 k0 hs0
  go_wp2_with fail
  refine P2.mono ?_
  rintro e w2 ⟨rfl, x2, g2⟩
  have hs := HS.out
  have z2 : Cells w2 (w.heap.size + 1) 120 (colC (List.replicate 2000 0)) := (g2.block (w.heap.size + 1) (by have := g1.size; omega) (by simp)).trans ((g1.block (w.heap.size + 1) (by omega) (by simp)).trans HZ.out)
  have K2 : Kept w w2 := by
    refine Below.trans HK.out ⟨g2.os.trans g1.os, g2.tape.trans g1.tape, g2.output.trans g1.output, Nat.le_trans g1.size g2.size, fun k hk => ?_⟩
    exact (g2.block k (by have := g1.size; omega) (by simp; omega)).trans (g1.block k (by omega) (by simp; omega))
  go_wp2_with (first
    | (refine wpList_load_row (by rfl) 120 _ (by rfl) (w.heap.size + 2) (by rfl) _ _ _ _ x2 Tryz.underlying120 rfl (by rw [colC_size, colL_len]; exact infoCol) ?_)
    | (refine wpList_store_row (by rfl) 120 _ _ (by rfl) (w.heap.size + 1) (colC (colL gs bs)) (by rfl) (by rfl) _ _ z2 (by rw [colC_size, colL_len]; exact infoCol) (by rw [colC_size, colC_size, colL_len, List.length_replicate]) (colC_one _) ?_))
  have zE := z2.row (colC (colL gs bs))
  refine bodyPost_ret (results_cell_row (by rfl) _ _ (w.heap.size + 1) _ _ _ _ (by rfl) zE Tryz.underlying120 rfl (by rw [colC_size, colL_len]; exact infoCol)) rfl ⟨rfl, K2.row (by omega) _⟩
end Go.Proofs.YtgempjjnfpmndaaGreatDoor
namespace Go.Proofs.YtgempjjnfpmndaaGreatDoor
open Go.RowKit

theorem cell_one8 (w : World) (x : Int) : ∀ (j : Nat) (u : Value), [Value.int .i64 x][j]? = some u → (w.alloc (.cells #[.int .i64 x] 3)).cell? ((⟨w.heap.size, 0, none⟩ : Addr).add j) = some u := cell_one_new _ _ _
theorem index_col (w : World) (ca : Array Value) (k : Nat) (c : Int) (hk : k < 2000) (h : ca[k]? = some (.int .u8 c)) : (Instr.index 120 (.agg ca) (.int .i64 k)).run Tryz.prog w = .ok (.int .u8 c) w := by
  have e2 : (0 : Int) ≤ (k : Int) ∧ (k : Int) < ((2000 : Nat) : Int) := by omega
  simp [Instr.index, asIntOf, run_underlying Tryz.underlying120, e2, part, isAgg, run_underlying Tryz.underlying118, Tryz.sizeOf118, h]
  intro h'
  omega
set_option maxHeartbeats 8000000 in
set_option maxRecDepth 100000 in
theorem blacks_ok (w : World) (cs : List Int) (hl : cs.length = 2000) :
    Calls Tryz.prog 139 #[.agg (colC cs)] w fun e w' => ∃ v, e = .returned v ∧ OwnL w' w.heap.size v (blacksL cs 2000) ∧ Kept w w' := by
  obtain ⟨i0, hi, hz0, hz1, hz2⟩ := info_parts infoI
  have b0 := Cells.new w 120 (colC cs)
  have k0 : Kept w (w.alloc (.cells (colC cs) 120)) := Kept.alloc (Below.refl _ _) _
  have HA : Hid (∀ k, k < 2000 → (colC cs)[k]? = some (.int .u8 (hz cs k))) := fun k hk => colC_at (by omega)
  have hsz : (colC cs).size = 2000 := by rw [colC_size, hl]
  obtain ⟨ca, hca⟩ : ∃ ca, colC cs = ca := ⟨_, rfl⟩
  rw [hca] at b0 k0 HA hsz ⊢
  clear hca
  go_enter Tryz.func139, Tryz.ntmps139
  go_wp2_with (refine wpList_load_row (by rfl) 120 _ (by rfl) w.heap.size (by rfl) _ _ _ _ b0 Tryz.underlying120 rfl (by rw [hsz]; exact infoCol) ?_)
  obtain ⟨W0, hW0⟩ : ∃ W0, w.alloc (.cells ca 120) = W0 := ⟨_, rfl⟩
  rw [hW0] at k0
  simp only [hW0]
  have HK0 : Hid _ := k0
  clear hW0 b0 k0
  go_loopw [3, 7] (fun v i wr => ∃ k : Nat, i = .int .i64 k ∧ k ≤ 2000 ∧ wr.ownsRow W0.heap.size 3 1 v (blacksL cs k).length ((blacksL cs k).map (Value.int .i64)) ∧ Kept W0 wr) (fun _ i _ => 2000 - (intOf i).toNat)
  case atStart => exact ⟨0, rfl, Nat.zero_le _, ⟨by simp [blacksL_zero], .inl ⟨rfl, rfl⟩⟩, Below.refl _ _⟩
  case round =>
    obtain ⟨k, rfl, hk, hrow, hK⟩ := hrel
    have hbl := blacksL_len cs k
    have hsK := hK.size
    by_cases hlt : k < 2000
    · have ck := HA.out k hlt
      obtain ⟨c, hc⟩ : ∃ c, hz cs k = c := ⟨_, rfl⟩
      rw [hc] at ck
      have hIx : ∀ u, (Instr.index 120 (.agg ca) (.int .i64 k)).run Tryz.prog u = .ok (.int .u8 c) u := fun u => index_col u ca k c hlt ck
      have q1 : (k : Int) < 2000 := by omega
      have q0 : (0 : Int) ≤ (k : Int) := by omega
      by_cases h2 : c = 2
      · have HT : Hid (blacksL cs (k + 1) = blacksL cs k ++ [(k : Int)]) := blacksL_yes (hc.trans h2)
        subst h2
        obtain ⟨xs, hxs⟩ : ∃ xs, blacksL cs k = xs := ⟨_, rfl⟩
        rw [hxs] at hrow HT hbl
        have HK : Hid _ := hK
        clear hc hxs hK
        go_wp2_with (at_builtin; refine wpList_append_own _ rfl _ _ 26 rfl W0.heap.size 3 i0 (.int .i64 0) 1 8 Tryz.underlying26 hi hz0 hz1 hz2 rfl (by decide) _ _ _ rfl (hrow.alloc _) ⟨wr.heap.size, 0, none⟩ 1 1 [.int .i64 k] rfl rfl (cell_one_new _ _ _) (by simp [Value.oneCell']) (by unfold maxLen; omega) (by omega) (by simp; omega) ?_; intro v' w5 hown' hgrow _; have kk : Below W0.heap.size wr w5 := ((Below.refl _ wr).alloc hsK _).grown hgrow (by simp; omega) (fun j ej => (hrow.lt j ej).1))
        go_roundw
        case rel => exact ⟨k + 1, by go_num, by omega, by rw [HT.out]; simpa using hown', Below.trans HK.out kk⟩
        case measure => simp [intOf]; omega
      · have HT : Hid (blacksL cs (k + 1) = blacksL cs k) := blacksL_no (by rw [hc]; exact h2)
        have e1 : (c == 2) = false := by simpa using h2
        have HK : Hid _ := hK
        have HR : Hid _ := hrow
        clear hc hK hrow
        go_wp2_with fail
        go_roundw
        case rel => exact ⟨k + 1, by go_num, by omega, by rw [HT.out]; exact HR.out, HK.out⟩
        case measure => simp [intOf]; omega
    · obtain rfl : k = 2000 := by omega
      have HK : Hid _ := hK
      have HR : Hid _ := hrow
      clear hK hrow
      go_wp2_with fail
      go_ret
      refine ⟨_, rfl, ⟨fun z hz' => ?_, ownsRow_base HR.out (Below.size HK0.out)⟩, Kept.trans HK0.out HK.out⟩
      obtain ⟨j, hj, rfl, _⟩ := blacksL_mem.1 hz'
      omega
end Go.Proofs.YtgempjjnfpmndaaGreatDoor
