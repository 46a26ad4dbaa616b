/-
  Facts on lists: a heap that was slid is right, its blocks lie where they were told to, and its words are those that were, with values moved.
  Facts on lists: a heap that was slid is HeapOk, and roots that were moved are right in it.
  The contract of chapter 7's model l7Line.
  The contracts of chapter 7's models Picture and SameSight.
  Facts on lists: what is seen of a heap that was slid is what was seen.
  Facts on lists: the blocks of a heap that was slid lie where Forward tells, and slid again they lie there.
-/
import Derived.Test.YtaeeoehmocelhaaGreatDoorGrpQ
import Derived.Test.YtaeeoehmocelhaaGreatDoorGrpB
import Derived.Test.YtaeeoehmocelhaaGreatDoorGrpS
namespace Go.Proofs.YtaeeoehmocelhaaGreatDoor
open Go.RowKit

/-- A block, where it lies when it was slid. -/
def imgB (zs : List Int) (x : BkOf zs.length) : Bk := ⟨movT zs x.1.at', x.1.size, x.1.kind⟩
/-- The place that a block gets. -/
def movP (zs : List Int) (a : Int) : Int := ((movT zs a.toNat : Nat) : Int)

theorem hz_slid {zs : List Int} {pre r : List (BkOf zs.length)} {x : BkOf zs.length} (e : tkL (blocks zs) = pre ++ x :: r) {k : Nat} (hk : k < x.1.size) : hz (slidL zs) (szsB pre + k) = movW zs x.1.at' k := by
  have hp : pre ++ [x] <+: tkL (blocks zs) := ⟨r, by rw [e]; simp⟩
  have hx := (movT_tk hp).2.2
  have h1 := slidW_pre_len ((List.prefix_append pre [x]).trans hp)
  have e2 : slidW zs (blocks zs) = slidW zs pre ++ (blkW zs x.1.at' x.1.size ++ slidW zs r) := by
    rw [← slid_all, e, slidW_app]
    simp [slidW, hx]
  unfold slidL
  rw [e2, hz_app, if_pos (by simp [blkW_len, h1]; omega), hz_app, if_neg (by omega), hz_app, if_pos (by rw [blkW_len]; omega), h1]
  unfold blkW hz
  rw [show szsB pre + k - szsB pre = k by omega, List.getElem?_map, List.getElem?_range hk]
  rfl
theorem slOff_pos (q : Nat) : 1 ≤ slOff q := by unfold slOff; split <;> omega
theorem slots_of {zs : List Int} (hok : slabOk zs = true) {x : BkOf zs.length} (hx : x ∈ blocks zs) : slotsL zs ((x.1.at' : Nat) : Int) = slL x.1.at' x.1.kind x.1.size := by
  unfold slotsL
  rw [atB_mem hok hx]
theorem slot_mem {a q s k : Nat} (hk : k < s) : (((a + k : Nat) : Int) ∈ slL a q s) ↔ (slOff q ≤ k ∧ k < slOff q + slMany q) := by
  unfold slL
  rw [mem_someL]
  omega
theorem movW_yes {zs : List Int} (hok : slabOk zs = true) {x : BkOf zs.length} (hx : x ∈ blocks zs) {k : Nat} (hk : k < x.1.size) (h : slOff x.1.kind ≤ k ∧ k < slOff x.1.kind + slMany x.1.kind) : movW zs x.1.at' k = movV zs (hz zs (x.1.at' + k)) := by
  unfold movW
  rw [slots_of hok hx, if_pos ((slot_mem hk).2 h)]
theorem movW_no {zs : List Int} (hok : slabOk zs = true) {x : BkOf zs.length} (hx : x ∈ blocks zs) {k : Nat} (hk : k < x.1.size) (h : ¬ (slOff x.1.kind ≤ k ∧ k < slOff x.1.kind + slMany x.1.kind)) : movW zs x.1.at' k = hz zs (x.1.at' + k) := by
  unfold movW
  rw [slots_of hok hx, if_neg (fun c => h ((slot_mem hk).1 c))]
theorem head_of {zs : List Int} {x : BkOf zs.length} (hx : x ∈ blocks zs) : hz zs x.1.at' = 8 * (x.1.size : Int) + (x.1.kind : Int) := by
  obtain ⟨hg, hs, hk⟩ := blks_mem zs 0 x hx
  have h1 := hg.szI
  have h2 := kdI zs x.1.at'
  rw [hs, hk]
  omega
theorem tk_mem {zs : List Int} {x : BkOf zs.length} (hx : x ∈ tkL (blocks zs)) : x ∈ blocks zs ∧ x.1.kind ≠ 0 := by
  obtain ⟨h1, h2⟩ := List.mem_filter.1 hx
  exact ⟨h1, by simpa using h2⟩
theorem seg_slid {zs : List Int} (hok : slabOk zs = true) : ∀ (r pre : List (BkOf zs.length)), tkL (blocks zs) = pre ++ r → Seg (slidL zs) (szsB pre) (r.map (imgB zs)) (szsB (tkL (blocks zs)))
  | [], pre, e => by
    rw [e, List.append_nil]
    exact .nil _
  | x :: r, pre, e => by
    have hp : pre ++ [x] <+: tkL (blocks zs) := ⟨r, by rw [e]; simp⟩
    obtain ⟨hmv, hxm, hxk⟩ := movT_tk hp
    have hle := szs_le hp
    rw [szsB_snoc] at hle
    have hx2 := x.2
    have hoff := slOff_pos x.1.kind
    have hh : hz (slidL zs) (szsB pre) = 8 * (x.1.size : Int) + (x.1.kind : Int) := by
      have := hz_slid e (k := 0) (by omega)
      rw [Nat.add_zero] at this
      rw [this, movW_no hok hxm (by omega) (by omega), Nat.add_zero, head_of hxm]
    obtain ⟨hg, hs, hk⟩ := good_of (zs := slidL zs) (k := szsB pre) (s := x.1.size) (q := x.1.kind) (by rw [slidL_len]; exact hle) hx2.1 hx2.2.2 hh
    have ih := seg_slid hok r (pre ++ [x]) (by rw [e]; simp)
    rw [szsB_snoc, ← hs] at ih
    have := Seg.cons hg ih
    rw [hs, hk] at this
    rw [List.map_cons]
    have ei : imgB zs x = ⟨szsB pre, x.1.size, x.1.kind⟩ := by simp [imgB, hmv]
    rw [ei]
    exact this
theorem szs_free {L : Nat} (l : List (BkOf L)) : szsB l = szsB (tkL l) + szsB (l.filter (fun b => decide (b.1.kind = 0))) := by
  induction l with
  | nil => rfl
  | cons b r ih =>
    by_cases h : b.1.kind = 0
    · have e1 : tkL (b :: r) = tkL r := by simp [tkL, h]
      rw [e1, szsB_cons, ih]
      simp [h, szsB_cons]
      omega
    · have e1 : tkL (b :: r) = b :: tkL r := by simp [tkL, h]
      rw [e1, szsB_cons, szsB_cons, ih]
      simp [h]
      omega
theorem szs_raw {L : Nat} (l : List (BkOf L)) : szsB l = rsum (raw l) := by
  induction l with
  | nil => rfl
  | cons b r ih =>
    rw [szsB_cons, ih]
    rfl
theorem szs_all {zs : List Int} (hok : slabOk zs = true) : szsB (blocks zs) = zs.length := by
  have := (Seg.whole hok).sum
  rw [szs_raw]
  omega
theorem rest_two {zs : List Int} (hok : slabOk zs = true) (h : szsB (tkL (blocks zs)) < zs.length) : 2 ≤ zs.length - szsB (tkL (blocks zs)) := by
  have h1 := szs_all hok
  have h2 := szs_free (blocks zs)
  cases hf : (blocks zs).filter (fun b => decide (b.1.kind = 0)) with
  | nil => rw [hf] at h2; simp [szsB] at h2; simp [szsB] at h1 h; omega
  | cons b r =>
    rw [hf, szsB_cons] at h2
    have := b.2
    omega
/-- What is left over when all is slid. -/
def restB (zs : List Int) : List Bk := if szsB (tkL (blocks zs)) < zs.length then [⟨szsB (tkL (blocks zs)), zs.length - szsB (tkL (blocks zs)), 0⟩] else []
theorem slid_right {zs : List Int} (hok : slabOk zs = true) : slabOk (slidL zs) = true ∧ raw (blocks (slidL zs)) = (tkL (blocks zs)).map (imgB zs) ++ restB zs := by
  have h1 := seg_slid hok (tkL (blocks zs)) [] rfl
  have e0 : szsB ([] : List (BkOf zs.length)) = 0 := rfl
  rw [e0] at h1
  have hlen := slabOk_len hok
  have hle : szsB (tkL (blocks zs)) ≤ zs.length := szs_le (List.prefix_refl _)
  by_cases h : szsB (tkL (blocks zs)) < zs.length
  · have h2 := rest_two hok h
    have hh : hz (slidL zs) (szsB (tkL (blocks zs))) = 8 * ((zs.length - szsB (tkL (blocks zs)) : Nat) : Int) + ((0 : Nat) : Int) := by
      rw [← slid_rest h, hz_layL (by rw [upW_len (List.prefix_refl _)]; omega) (by omega), if_pos rfl]
    have h3 := Seg.one (zs := slidL zs) (by rw [slidL_len]; omega) h2 (by omega) hh
    have h4 := h1.app h3
    rw [show szsB (tkL (blocks zs)) + (zs.length - szsB (tkL (blocks zs))) = (slidL zs).length by rw [slidL_len]; omega] at h4
    have h5 := h4.slab (by rw [slidL_len]; exact hlen)
    rw [restB, if_pos h]
    exact h5
  · rw [show szsB (tkL (blocks zs)) = (slidL zs).length by rw [slidL_len]; omega] at h1
    have h5 := h1.slab (by rw [slidL_len]; exact hlen)
    rw [restB, if_neg h, List.append_nil]
    exact h5
/-- The block that a block is then. -/
theorem img_of {zs : List Int} (hok : slabOk zs = true) {x : BkOf zs.length} (hx : x ∈ tkL (blocks zs)) : ∃ y ∈ blocks (slidL zs), y.1 = imgB zs x := by
  have hm : imgB zs x ∈ raw (blocks (slidL zs)) := by
    rw [(slid_right hok).2]
    exact List.mem_append_left _ (List.mem_map.2 ⟨x, hx, rfl⟩)
  obtain ⟨y, hy, e⟩ := List.mem_map.1 hm
  exact ⟨y, hy, e⟩
theorem word_of {zs : List Int} {x : BkOf zs.length} (hx : x ∈ tkL (blocks zs)) {k : Nat} (hk : k < x.1.size) : hz (slidL zs) (movT zs x.1.at' + k) = movW zs x.1.at' k := by
  obtain ⟨pre, r, e⟩ := List.append_of_mem hx
  have hp : pre ++ [x] <+: tkL (blocks zs) := ⟨r, by rw [e]; simp⟩
  rw [(movT_tk hp).1]
  exact hz_slid e hk
theorem kind_slid {zs : List Int} (hok : slabOk zs = true) {x : BkOf zs.length} (hx : x ∈ tkL (blocks zs)) : kindAt (slidL zs) ((movT zs x.1.at' : Nat) : Int) = ((x.1.kind : Nat) : Int) := by
  obtain ⟨y, hy, e⟩ := img_of hok hx
  have h := atB_mem (slid_right hok).1 hy
  have e1 : y.1.at' = movT zs x.1.at' := by rw [e]; rfl
  rw [e1] at h
  unfold kindAt
  rw [h]
  simp [e, imgB]
theorem slots_slid {zs : List Int} (hok : slabOk zs = true) {x : BkOf zs.length} (hx : x ∈ tkL (blocks zs)) : slotsL (slidL zs) ((movT zs x.1.at' : Nat) : Int) = slL (movT zs x.1.at') x.1.kind x.1.size := by
  obtain ⟨y, hy, e⟩ := img_of hok hx
  have h := slots_of (slid_right hok).1 hy
  rw [e] at h
  exact h
theorem movT_inj {zs : List Int} {x y : BkOf zs.length} (hx : x ∈ tkL (blocks zs)) (hy : y ∈ tkL (blocks zs)) (h : movT zs x.1.at' = movT zs y.1.at') : x.1.at' = y.1.at' := by
  have key : ∀ (pre r : List (BkOf zs.length)) (a b : BkOf zs.length), tkL (blocks zs) = pre ++ a :: r → b ∈ r → movT zs a.1.at' < movT zs b.1.at' := by
    intro pre r a b e hb
    obtain ⟨r1, r2, e2⟩ := List.append_of_mem hb
    have h1 := (movT_tk (zs := zs) (pre := pre) (x := a) ⟨r, by rw [e]; simp⟩).1
    have h2 := (movT_tk (zs := zs) (pre := pre ++ a :: r1) (x := b) ⟨r2, by rw [e, e2]; simp⟩).1
    rw [h1, h2, szsB_app, szsB_cons]
    have := a.2
    omega
  obtain ⟨pre, r, e⟩ := List.append_of_mem hx
  have hy' := hy
  rw [e] at hy'
  rcases List.mem_append.1 hy' with h1 | h1
  · obtain ⟨p1, p2, e2⟩ := List.append_of_mem h1
    have := key p1 (p2 ++ x :: r) y x (by rw [e, e2]; simp) (by simp)
    omega
  · rcases List.mem_cons.1 h1 with h1 | h1
    · rw [h1]
    · have := key pre r x y e h1
      omega
end Go.Proofs.YtaeeoehmocelhaaGreatDoor
namespace Go.Proofs.YtaeeoehmocelhaaGreatDoor
open Go.RowKit

theorem movV_mod {zs : List Int} (v : Int) : movV zs v % 8 = v % 8 := by
  unfold movV
  split
  · rfl
  · omega
theorem movV_div {zs : List Int} {v : Int} (h : ¬ v % 8 < 4) : movV zs v / 8 = movP zs (v / 8) := by
  unfold movV movP
  rw [if_neg h]
  omega
theorem movV_low {zs : List Int} {v : Int} (h : v % 8 < 4) : movV zs v = v := by unfold movV; rw [if_pos h]
theorem movP_of {zs : List Int} {a : Int} (h : 1 ≤ kindAt zs a) : ∃ x ∈ tkL (blocks zs), ((x.1.at' : Nat) : Int) = a ∧ movP zs a = ((movT zs x.1.at' : Nat) : Int) := by
  obtain ⟨x, hx, e, _⟩ := lead_tk h
  refine ⟨x, hx, e, ?_⟩
  unfold movP
  rw [← e, Int.toNat_natCast]
theorem kind_of {zs : List Int} (hok : slabOk zs = true) {x : BkOf zs.length} (hx : x ∈ blocks zs) : kindAt zs ((x.1.at' : Nat) : Int) = ((x.1.kind : Nat) : Int) := by
  unfold kindAt
  rw [atB_mem hok hx]
theorem kind_movP {zs : List Int} (hok : slabOk zs = true) {a : Int} (h : 1 ≤ kindAt zs a) : kindAt (slidL zs) (movP zs a) = kindAt zs a := by
  obtain ⟨x, hx, e, e2⟩ := movP_of h
  rw [e2, kind_slid hok hx, ← e, kind_of hok (tk_mem hx).1]
theorem movP_inj {zs : List Int} {a b : Int} (ha : 1 ≤ kindAt zs a) (hb : 1 ≤ kindAt zs b) (h : movP zs a = movP zs b) : a = b := by
  obtain ⟨x, hx, e1, e2⟩ := movP_of ha
  obtain ⟨y, hy, e3, e4⟩ := movP_of hb
  rw [e2, e4] at h
  have := movT_inj hx hy (by omega)
  omega
theorem movP_bd {zs : List Int} (hok : slabOk zs = true) {a : Int} (h : 1 ≤ kindAt zs a) : 0 ≤ movP zs a ∧ movP zs a ≤ 1998 := by
  obtain ⟨x, hx, e, e2⟩ := movP_of h
  obtain ⟨pre, r, e3⟩ := List.append_of_mem hx
  have hp : pre ++ [x] <+: tkL (blocks zs) := ⟨r, by rw [e3]; simp⟩
  have h1 := (movT_tk hp).1
  have h2 := szs_le hp
  have h3 := slabOk_len hok
  have h4 := x.2
  rw [szsB_snoc] at h2
  rw [e2, h1]
  omega
theorem vOk_mov {zs : List Int} (hok : slabOk zs = true) {v : Int} (hv : vOk v = true) (hk : ¬ v % 8 < 4 → 1 ≤ kindAt zs (v / 8)) : vOk (movV zs v) = true := by
  by_cases h : v % 8 < 4
  · rw [movV_low h]; exact hv
  · have h1 := movP_bd hok (hk h)
    have h2 := movV_div (zs := zs) h
    have h3 := movV_mod (zs := zs) v
    unfold vOk
    rw [if_neg (by omega), if_neg (by omega), if_neg (by omega), h2]
    simp
    omega
theorem val_lead {zs : List Int} {r v : Int} (h : valR zs r v = true) : vOk v = true ∧ takesR r (v % 8) = true ∧ (¬ v % 8 < 4 → kindAt zs (v / 8) = goalR r (v % 8)) := by
  unfold valR at h
  simp only [Bool.and_eq_true, Bool.or_eq_true, Bool.not_eq_true', decide_eq_true_eq, decide_eq_false_iff_not] at h
  exact ⟨h.1.1, h.1.2, fun h4 => by rcases h.2 with h5 | h5; omega; exact h5⟩
theorem val_mov {zs : List Int} (hok : slabOk zs = true) {r v : Int} (h : valR zs r v = true) : valR (slidL zs) r (movV zs v) = true := by
  obtain ⟨h1, h2, h3⟩ := val_lead h
  have hk : ¬ v % 8 < 4 → 1 ≤ kindAt zs (v / 8) := fun h4 => by rw [h3 h4]; exact goal_pos _ _
  unfold valR
  simp only [Bool.and_eq_true, Bool.or_eq_true, Bool.not_eq_true', decide_eq_true_eq, decide_eq_false_iff_not]
  refine ⟨⟨vOk_mov hok h1 hk, by rw [movV_mod]; exact h2⟩, ?_⟩
  rw [movV_mod]
  by_cases h4 : v % 8 < 4
  · left; omega
  · right
    rw [movV_div h4, kind_movP hok (hk h4)]
    exact h3 h4
theorem word_low {zs zs' : List Int} {r v : Int} (h : r < 5) (h0 : 0 ≤ r) : wordR zs r v = wordR zs' r v := by
  unfold wordR
  repeat' split
  all_goals first | rfl | omega
theorem role_any {q : Nat} (n m i : Int) (h : q ≠ 1) : roleOf q n i = roleOf q m i := by
  unfold roleOf
  split <;> first | rfl | exact absurd rfl h
theorem blk_slid {zs : List Int} (hh : heapR zs = true) {x : BkOf zs.length} (hx : x ∈ tkL (blocks zs)) : blkR (slidL zs) (movT zs x.1.at') x.1.size x.1.kind = true := by
  have hok := heapR_slab hh
  obtain ⟨hxm, hxk⟩ := tk_mem hx
  have hb := heapR_blk hh hxm
  have hx2 := x.2
  have hlen := slabOk_len hok
  have hw1 : x.1.kind = 1 → hz (slidL zs) (movT zs x.1.at' + 1) = hz zs (x.1.at' + 1) := fun h1 => by
    rw [word_of hx (by omega), movW_no hok hxm (by omega) (by rw [h1]; simp [slMany])]
  unfold blkR at hb ⊢
  rw [Bool.and_eq_true, wordsR_iff] at hb ⊢
  refine ⟨?_, fun i h1 h2 => ?_⟩
  · by_cases h1 : x.1.kind = 1
    · rw [hw1 h1]; exact hb.1
    · have := hb.1
      unfold sizeR at this ⊢
      split at this <;> first | exact absurd (by assumption) h1 | simp_all
  · have hw := hb.2 i h1 h2
    have hrole : roleOf x.1.kind (hz (slidL zs) (movT zs x.1.at' + 1)) (i : Nat) = roleOf x.1.kind (hz zs (x.1.at' + 1)) (i : Nat) := by
      by_cases h3 : x.1.kind = 1
      · rw [hw1 h3]
      · exact role_any _ _ _ h3
    have hrv := role_value hx2.2.2 (hz zs (x.1.at' + 1)) (k := i) h1 (by omega)
    rw [hrole, word_of hx h2]
    by_cases hs : slOff x.1.kind ≤ i ∧ i < slOff x.1.kind + slMany x.1.kind
    · rw [movW_yes hok hxm h2 hs]
      rw [decide_eq_true hs] at hrv
      simp only [decide_eq_true_eq] at hrv
      unfold wordR at hw ⊢
      rw [if_neg (by omega), if_neg (by omega), if_neg (by omega), if_neg (by omega), if_neg (by omega)] at hw ⊢
      exact val_mov hok hw
    · rw [movW_no hok hxm h2 hs]
      rw [decide_eq_false hs] at hrv
      simp only [decide_eq_false_iff_not] at hrv
      rw [word_low (zs' := zs) (by omega) (roleOf_nn hx2.2.2 _ _)]
      exact hw
theorem heap_slid {zs : List Int} (hh : heapR zs = true) : heapR (slidL zs) = true := by
  have hok := heapR_slab hh
  obtain ⟨h1, h2⟩ := slid_right hok
  unfold heapR
  rw [h1, Bool.true_and]
  unfold allB
  rw [List.all_eq_true]
  intro y hy
  have hm : y.1 ∈ raw (blocks (slidL zs)) := List.mem_map.2 ⟨y, hy, rfl⟩
  rw [h2] at hm
  rcases List.mem_append.1 hm with hm | hm
  · obtain ⟨x, hx, e⟩ := List.mem_map.1 hm
    rw [← e]
    exact blk_slid hh hx
  · unfold restB at hm
    split at hm
    · have e := List.mem_singleton.1 hm
      rw [e]
      simp only [blkR, sizeR, Bool.true_and, wordsR_iff]
      intro i _ _
      simp [wordR, roleOf]
    · simp at hm
theorem roots_slid {zs rs : List Int} (h : rootsR zs rs = true) : rootsR (slidL zs) (rs.map (movV zs)) = true := by
  have h' := h
  unfold rootsR leadAll at h ⊢
  simp only [Bool.and_eq_true] at h ⊢
  have hok := heapR_slab h.1
  refine ⟨heap_slid h.1, allR_iff.2 (fun j hj => ?_)⟩
  rw [List.length_map] at hj
  have h1 := allR_iff.1 h.2 j hj
  have e1 : hz (rs.map (movV zs)) j = movV zs (hz rs j) := by
    unfold hz
    rw [List.getElem?_map, List.getElem?_eq_getElem hj]
    rfl
  rw [e1, ← val11]
  rw [← val11] at h1
  exact val_mov hok h1
end Go.Proofs.YtaeeoehmocelhaaGreatDoor
namespace Go.Proofs.YtaeeoehmocelhaaGreatDoor
open Go.RowKit
attribute [local go_sem] Plain.and7

/-- How many values are left where those that are 0 are left out at the end. -/
def cutN (vs : List Int) : Nat → Nat
  | 0 => 0
  | n + 1 => if hz vs n = 0 then cutN vs n else n + 1
theorem cutN_le (vs : List Int) : ∀ n, cutN vs n ≤ n
  | 0 => Nat.le_refl _
  | n + 1 => by
    unfold cutN
    split
    · have := cutN_le vs n; omega
    · exact Nat.le_refl _
def valsL (vs order : List Int) : List Int := vs.flatMap (fun v => valL v order)
theorem valsL_snoc (vs : List Int) (v : Int) (order : List Int) : valsL (vs ++ [v]) order = valsL vs order ++ valL v order := by simp [valsL]
theorem valsL_len {order : List Int} : ∀ {vs : List Int}, (∀ v ∈ vs, -9223372036854775808 ≤ v ∧ v ≤ 9223372036854775807) → order.length ≤ 1048576 → (valsL vs order).length ≤ 24 * vs.length
  | [], _, _ => by simp [valsL]
  | v :: vs, h, hl => by
    have h1 := valsL_len (vs := vs) (fun x hx => h x (List.mem_cons_of_mem _ hx)) hl
    have h2 := valL_len (h v (by simp)) hl
    have e : valsL (v :: vs) order = valL v order ++ valsL vs order := by simp [valsL]
    rw [e, List.length_append, List.length_cons]
    omega
/-- The bytes of a text, as they are shown. -/
def byteL (zs : List Int) (a : Nat) : Nat → List Int
  | 0 => []
  | n + 1 => byteL zs a n ++ ([32] ++ digI (hz zs (a + 2 + n)))
theorem byteL_len {zs : List Int} {a : Nat} (h : ∀ z ∈ zs, -9223372036854775808 ≤ z ∧ z ≤ 9223372036854775807) : ∀ n, a + 2 + n ≤ zs.length → (byteL zs a n).length ≤ 22 * n
  | 0, _ => by simp [byteL]
  | n + 1, hn => by
    have h1 := byteL_len (a := a) h n (by omega)
    have h2 := digI_len (n := hz zs (a + 2 + n)) (h _ (hz_mem (by omega)))
    unfold byteL
    simp only [List.length_append, List.length_cons, List.length_nil]
    omega
def headL (zs : List Int) (a : Nat) : List Int := match kd zs a with
  | 1 => [116, 101, 120, 116] ++ byteL zs a (hz zs (a + 1)).toNat
  | 2 => [111, 98, 106]
  | 3 => [99, 101, 108, 108]
  | 4 => [102, 117, 110, 32] ++ digI (hz zs (a + 1))
  | 5 => [115, 99, 111, 112, 101]
  | _ => []
def toldL (zs : List Int) (a : Nat) : List Int := if kd zs a = 5 then (slotV zs a).take (cutN (slotV zs a) (slotV zs a).length) else slotV zs a
/-- A block's line. -/
def lineL (zs : List Int) (a : Nat) (order : List Int) : List Int := headL zs a ++ valsL (toldL zs a) order ++ [10]
theorem slots_bd {zs : List Int} {a : Int} (h : ∀ z ∈ zs, -9223372036854775808 ≤ z ∧ z ≤ 9223372036854775807) (hp : ∀ i, i < (slotsL zs a).length → ∃ p : Nat, hz (slotsL zs a) i = p ∧ p < zs.length) : ∀ v ∈ slotV zs a, -9223372036854775808 ≤ v ∧ v ≤ 9223372036854775807 := by
  intro v hv
  obtain ⟨i, hi, e⟩ := List.getElem_of_mem hv
  rw [slotV_len] at hi
  obtain ⟨p, e1, e2⟩ := hp i hi
  have e3 := slotV_at hi
  rw [e1, Int.toNat_natCast] at e3
  have e4 : hz (slotV zs a) i = v := by unfold hz; rw [List.getElem?_eq_getElem (by rw [slotV_len]; exact hi)]; exact e
  rw [← e4, e3]
  exact h _ (hz_mem e2)
theorem own_someE {W : World} {base : Nat} {v : Value} {l : List Int} (h : OwnL W base v l) (h1 : 1 ≤ l.length) : ∃ so sc, v = .slice so l.length sc ∧ Ints W so l ∧ l.length ≤ sc ∧ sc ≤ maxLen ∧ ∃ g, so = some ⟨g, 0, none⟩ := by
  rcases h.cases with ⟨_, e⟩ | ⟨g, cap, e, _, h2, h3, hr⟩
  · rw [e] at h1; simp at h1
  · exact ⟨_, cap, e, hr.ints, h2, h3, g, rfl⟩
set_option maxHeartbeats 32000000 in
set_option maxRecDepth 100000 in
theorem l7Line_ok (w : World) (ao oo : Option Addr) (cap oc : Nat) (zs order : List Int) (n : Nat) (hI : Ints w ao zs) (hO : Ints w oo order) (hol : order.length ≤ 1048576) (hh : heapR zs = true) (hk : 1 ≤ kindAt zs (n : Int)) :
    Calls Tryz.prog 65 #[.agg #[.slice ao zs.length cap], .int .i64 (n : Int), .slice oo order.length oc] w fun e w' => e = .returned (.string (strOfNums (lineL zs n order))) ∧ Kept w w' := by
  have hlen := (slabOk_iff.1 (heapR_slab hh)).1
  have hl : zs.length ≤ 1048576 := by omega
  obtain ⟨n', en, hn, hg, esl, b, hbm, hbn⟩ := kind_nat hk
  obtain rfl : n = n' := by omega
  obtain ⟨-, hsl, hsp⟩ := leads_slots hh hk
  have hkd : (kd zs n : Int) = kindAt zs (n : Int) := by
    have h1 := atB_mem (heapR_slab hh) hbm
    obtain ⟨_, _, _, _, h2, _⟩ := atB_some h1
    rw [hbn] at h1 h2
    unfold kindAt
    rw [h1]
    show (kd zs n : Int) = ((b.1.kind : Nat) : Int)
    rw [h2]
  have hblk := heapR_blk hh hbm
  obtain ⟨-, -, -, hbs, hbk, -⟩ := atB_some (atB_mem (heapR_slab hh) hbm)
  rw [hbn] at hblk hbs hbk
  rw [hbs, hbk] at hblk
  have hgl := hg.le
  have hk5 := hg.kd5
  have hs2 := hg.sz2
  have HSV : Hid (∀ i, i < (slotsL zs (n : Int)).length → hz (slotV zs (n : Int)) i = hz zs (hz (slotsL zs (n : Int)) i).toNat) := fun i hi => slotV_at hi
  have HSL : Hid ((slotV zs (n : Int)).length = (slotsL zs (n : Int)).length) := slotV_len _ _
  have HVB : Hid _ := slots_bd hI.1 hsp
  have HSP : Hid _ := hsp
  have HI : Hid _ := hI
  have HOr : Hid _ := hO
  have b0 := Cells.new w 26 #[.slice ao zs.length cap]
  have k0 : Kept w (w.alloc (.cells #[.slice ao zs.length cap] 26)) := Kept.alloc (Below.refl _ _) _
  have hL3 := l3Slots_ok _ ao cap zs n (hI.kept k0) hl hg
  rw [← esl] at hL3
  have HLD : Hid (lineL zs n order = headL zs n ++ valsL (toldL zs n) order ++ [10]) := rfl
  have HTD : Hid (toldL zs n = if kd zs n = 5 then (slotV zs (n : Int)).take (cutN (slotV zs (n : Int)) (slotV zs (n : Int)).length) else slotV zs (n : Int)) := rfl
  have HHD : Hid (headL zs n = match kd zs n with
    | 1 => [116, 101, 120, 116] ++ byteL zs n (hz zs (n + 1)).toNat
    | 2 => [111, 98, 106]
    | 3 => [99, 101, 108, 108]
    | 4 => [102, 117, 110, 32] ++ digI (hz zs (n + 1))
    | 5 => [115, 99, 111, 112, 101]
    | _ => []) := rfl
  have HSE : Hid (slotsL zs (n : Int) = slL n (kd zs n) (sz zs n)) := esl
  have hkI := kdI zs n
  obtain ⟨sl, hsl0⟩ : ∃ sl, slotsL zs (n : Int) = sl := ⟨_, rfl⟩
  obtain ⟨sv, hsv0⟩ : ∃ sv, slotV zs (n : Int) = sv := ⟨_, rfl⟩
  rw [hsl0] at hL3 hsl HSV HSL HSP HSE
  rw [hsv0] at HSV HSL HVB HTD
  obtain ⟨ba, ofa, ea, hca⟩ := hI.at hn
  subst ea
  have cn : ∀ (j : Nat) (u : World), j < zs.length → Kept w u → u.cell? ⟨ba, ofa + j, none⟩ = some (.int .i64 (hz zs j)) := fun j u hj hu => (hu.cell (p := ⟨ba, ofa + j, none⟩) (World.block_lt_of_cell? _ _ (hca j hj))).trans (hca j hj)
  have CN : Hid _ := cn
  have q1 : (n : Int) < (zs.length : Int) := by omega
  have q0 : (0 : Int) ≤ (n : Int) := by omega
  have HB : Hid _ := hblk
  have hl2 := fun (u : World) => l2Kind_ok (hz zs n) u
  rw [← hkI] at hl2
  obtain ⟨K, hK⟩ : ∃ K, kd zs n = K := ⟨_, rfl⟩
  rw [hK] at hl2 HB HTD HHD HSE hk5 hkd
  have hK1 : 1 ≤ K := by omega
  have Hen : Hid (n + sz zs n ≤ zs.length) := hgl
  have Hs2 : Hid (2 ≤ sz zs n) := hs2
  have Hsl : Hid (sl.length ≤ zs.length) := hsl
  have hslb : sl.length ≤ 1048576 := by omega
  clear hsl0 hsv0 esl hK hkI hh hblk cn hca hI hO hg hkd hbm hbn hsp en hk hbs hbk hgl hs2 hsl b
  rcases (show K = 1 ∨ K = 2 ∨ K = 3 ∨ K = 4 ∨ K = 5 by omega) with rfl | rfl | rfl | rfl | rfl
  · have hb := HB.out
    rw [blk_text] at hb
    unfold textR at hb
    simp only [Bool.and_eq_true, decide_eq_true_eq, bytesR_iff] at hb
    obtain ⟨t, ht⟩ : ∃ t : Nat, hz zs (n + 1) = t := ⟨(hz zs (n + 1)).toNat, by omega⟩
    have hts : n + 2 + t ≤ zs.length := by have := Hen.out; omega
    clear hb
    have htn : (hz zs (n + 1)).toNat = t := by omega
    have hbl := fun (j : Nat) (hj : j ≤ t) => byteL_len (zs := zs) (a := n) HI.out.1 j (by omega)
    have HBL : Hid _ := hbl
    have HHL : Hid ((([116, 101, 120, 116] ++ byteL zs n t) : List Int).length ≤ 50000) := by rw [Hid, List.length_append]; have := hbl t (Nat.le_refl _); simp only [List.length_cons, List.length_nil]; omega
    have HLX : Hid (lineL zs n order = ([116, 101, 120, 116] ++ byteL zs n t) ++ valsL (sv.take sl.length) order ++ [10]) := by rw [Hid, HLD.out, HHD.out, HTD.out, ← HSL.out, List.take_length, htn]; rfl
    have p1 : (n : Int) + 1 < (zs.length : Int) := by omega
    have p0 : (0 : Int) ≤ (n : Int) + 1 := by omega
    have t1 : ((n : Int) + 1).toNat = n + 1 := by omega
    have wr1 : IntKind.i64.wrap ((n : Int) + 1) = (n : Int) + 1 := by rw [IntWalk.i64_left, IntWalk.wrap64_in _ (by omega)]
    have wr2 : IntKind.i64.wrap ((n : Int) + 2) = (n : Int) + 2 := by rw [IntWalk.i64_left, IntWalk.wrap64_in _ (by omega)]
    have hn1 : n + 1 < zs.length := by omega
    clear hbl htn
    go_enter Tryz.func65, Tryz.ntmps65
    go_wp2_with (first | (go_at_call 38; refine hL3.mono ?_; rintro e WX ⟨v3, rfl, hO3, hk3⟩; have KX := k0.trans hk3; have bX := b0.kept hk3; have cX := bX.cell 0; have cN := CN.out n WX hn KX; obtain ⟨so, sc, rfl, hI3⟩ := hO3.ints) | (go_at_call 37; refine (hl2 _).mono ?_; rintro e wx ⟨rfl, rfl⟩))
    have HIX : Hid _ := hI3
    have HKX : Hid _ := KX
    have HbX : Hid _ := bX
    clear hL3 hI3 KX bX cX cN hO3
    go_loopw [7, 9] (fun s i wr => ∃ j : Nat, i = .int .i64 j ∧ j ≤ t ∧ s = .string (strOfNums ([116, 101, 120, 116] ++ byteL zs n j)) ∧ Kept WX wr) (fun _ i _ => t - (intOf i).toNat)
    case atStart => exact ⟨0, rfl, Nat.zero_le _, rfl, Below.refl _ _⟩
    case round =>
      obtain ⟨j, rfl, hj, rfl, hKX⟩ := hrel
      have hjl := HBL.out j hj
      have cS := (Cells.kept HbX.out hKX).cell 0
      have cT := CN.out (n + 1) wr hn1 (Kept.trans HKX.out hKX)
      rw [ht] at cT
      by_cases hlj : j < t
      · have hnj : n + 2 + j < zs.length := by omega
        have cJ := CN.out (n + 2 + j) wr hnj (Kept.trans HKX.out hKX)
        have g1 : (j : Int) < (t : Int) := by omega
        have p2 : (n : Int) + 2 + (j : Int) < (zs.length : Int) := by omega
        have p3 : (0 : Int) ≤ (n : Int) + 2 + (j : Int) := by omega
        have t2 : ((n : Int) + 2 + (j : Int)).toNat = n + 2 + j := by omega
        have wr3 : IntKind.i64.wrap ((n : Int) + 2 + (j : Int)) = (n : Int) + 2 + (j : Int) := by rw [IntWalk.i64_left, IntWalk.wrap64_in _ (by omega)]
        have hzb : -9223372036854775808 ≤ hz zs (n + 2 + j) ∧ hz zs (n + 2 + j) ≤ 9223372036854775807 := HI.out.1 _ (hz_mem hnj)
        have hdl := digI_len hzb
        have hDg := fun (u : World) => l7Digits_ok u (hz zs (n + 2 + j)) hzb
        obtain ⟨D, hD⟩ : ∃ D, digI (hz zs (n + 2 + j)) = D := ⟨_, rfl⟩
        obtain ⟨U, hU⟩ : ∃ U, [116, 101, 120, 116] ++ byteL zs n j = U := ⟨_, rfl⟩
        have hul : U.length ≤ 60000 := by rw [← hU, List.length_append]; simp only [List.length_cons, List.length_nil]; omega
        have HN : Hid ([116, 101, 120, 116] ++ byteL zs n (j + 1) = U ++ [32] ++ D) := by rw [Hid, ← hU, ← hD]; simp [byteL]
        rw [hD] at hdl hDg
        simp only [hU]
        have s1 : strOfNums U ++ ByteArray.mk #[32] = strOfNums (U ++ [32]) := strs_app U [32]
        have hsz : ¬ 9223372036854775807 < (strOfNums U).size + (ByteArray.mk #[32]).size := by rw [strOfNums_size]; show ¬ _ < _ + 1; omega
        have hsz2 : ¬ 9223372036854775807 < (strOfNums (U ++ [32])).size + (strOfNums D).size := by rw [strOfNums_size, strOfNums_size, List.length_append]; simp only [List.length_cons, List.length_nil]; omega
        have HSA : Hid _ := strs_app (U ++ [32]) D
        have HKw : Hid _ := hKX
        clear hD hU hKX hjl hzb
        go_wp2_with (go_at_call 102; refine (hDg _).mono ?_; rintro e w4 ⟨rfl, hk4⟩)
        go_roundw
        case rel => exact ⟨j + 1, by go_num, by omega, by rw [HN.out, ← HSA.out], Kept.trans HKw.out hk4⟩
        case measure => simp [intOf]; omega
      · obtain rfl : t = j := by omega
        have HKw : Hid _ := hKX
        clear hKX hjl
        go_wp2_with fail
        go_loopw [7, 11] (fun s i wr => ∃ j : Nat, i = .int .i64 j ∧ j ≤ sl.length ∧ s = .string (strOfNums (([116, 101, 120, 116] ++ byteL zs n t) ++ valsL (sv.take j) order)) ∧ Kept WX wr) (fun _ i _ => sl.length - (intOf i).toNat)
        case atStart => exact ⟨0, rfl, Nat.zero_le _, by show Value.string _ = Value.string (strOfNums (([116, 101, 120, 116] ++ byteL zs n t) ++ [])); first | (rw [List.append_nil]; done) | (rw [List.append_nil]; exact rfl), HKw.out⟩
        case round =>
          obtain ⟨j, rfl, hj, rfl, hKX⟩ := hrel
          have hjl := valsL_len (vs := sv.take j) (order := order) (fun v hv => HVB.out v (List.mem_of_mem_take hv)) hol
          have hjm : (sv.take j).length ≤ 4194304 := by rw [List.length_take]; have := HSL.out; omega
          have hcl : (([116, 101, 120, 116] ++ byteL zs n t) ++ valsL (sv.take j) order).length ≤ 200000000 := by rw [List.length_append]; have := HHL.out; omega
          by_cases hlj : j < sl.length
          · have hjs : j < sl.length := by omega
            obtain ⟨p, hp, hpl⟩ := HSP.out j hjs
            have evj : hz sv j = hz zs p := by rw [HSV.out j hjs, hp, Int.toNat_natCast]
            have hjv : j < sv.length := by rw [HSL.out]; exact hjs
            have HT : Hid (valsL (sv.take (j + 1)) order = valsL (sv.take j) order ++ valL (hz zs p) order) := by rw [Hid, take_hz hjv, valsL_snoc, evj]
            have hvb : -9223372036854775808 ≤ hz zs p ∧ hz zs p ≤ 9223372036854775807 := by rw [← evj]; exact HVB.out _ (hz_mem hjv)
            have hvl := valL_len hvb hol
            obtain ⟨b5, o5, e5, hc5⟩ := Ints.at (Ints.kept HIX.out hKX) hjs
            have c5 := hc5 j hjs
            rw [hp] at c5
            have c6 := CN.out p wr hpl (Kept.trans HKX.out hKX)
            have l5 : b5 < wr.heap.size := World.block_lt_of_cell? _ _ c5
            have l6 : ba < wr.heap.size := World.block_lt_of_cell? _ _ c6
            have g1 : (j : Int) < ((sl.length : Nat) : Int) := by omega
            have g2 : (0 : Int) ≤ (j : Int) := by omega
            have g3 : (p : Int) < (zs.length : Int) := by omega
            have g4 : (0 : Int) ≤ (p : Int) := by omega
            have g5 : ((p : Int)).toNat = p := by omega
            have kd7 : ∀ u, Kept wr.drew u → Kept wr u := fun u hu => Kept.trans (Below.refl _ wr).drew hu
            have y0 : ∀ u, Kept wr.drew u → u.cell? ⟨w.heap.size, 0, none⟩ = some (.slice (some ⟨ba, ofa, none⟩) zs.length cap) := fun u hu => (Cells.kept HbX.out (Kept.trans hKX (kd7 u hu))).cell 0
            have y1 : ∀ u, Kept wr.drew u → u.cell? ⟨b5, o5 + j, none⟩ = some (.int .i64 (p : Int)) := fun u hu => ((kd7 u hu).cell (p := ⟨b5, o5 + j, none⟩) l5).trans c5
            have y2 : ∀ u, Kept wr.drew u → u.cell? ⟨ba, ofa + p, none⟩ = some (.int .i64 (hz zs p)) := fun u hu => ((kd7 u hu).cell (p := ⟨ba, ofa + p, none⟩) l6).trans c6
            obtain ⟨T, hT⟩ : ∃ T, valL (hz zs p) order = T := ⟨_, rfl⟩
            obtain ⟨U, hU⟩ : ∃ U, ([116, 101, 120, 116] ++ byteL zs n t) ++ valsL (sv.take j) order = U := ⟨_, rfl⟩
            have C1 : Hid (∀ u, Kept wr.drew u → Calls Tryz.prog 64 #[.int .i64 (hz zs p), .slice oo order.length oc] u fun e w' => e = .returned (.string (strOfNums T)) ∧ Kept u w') := fun u hu => by have := l7Value_ok u (hz zs p) oo oc order (Ints.kept HOr.out (Kept.trans HKX.out (Kept.trans hKX (kd7 u hu)))) hol hvb; rw [hT] at this; exact this
            have HU : Hid (([116, 101, 120, 116] ++ byteL zs n t) ++ valsL (sv.take (j + 1)) order = U ++ T) := by rw [Hid, HT.out, hT, ← List.append_assoc, hU]
            rw [hT] at hvl
            simp only [hU]
            rw [hU] at hcl
            have hsz : ¬ 9223372036854775807 < (strOfNums U).size + (strOfNums T).size := by rw [strOfNums_size, strOfNums_size]; omega
            have HSA : Hid _ := strs_app U T
            have HKw : Hid _ := hKX
            cases e5
            try simp only [Nat.zero_add] at y1
            clear hc5 c5 c6 evj hp hT hU hKX hjl hvb
            go_wp2_with fail
            refine wp_region_seqL (by kernel_rfl) (by kernel_rfl) ?_
            repeat (first
              | (refine SeqL.skip (by rfl) ?_; simp only [Act.put, List.setIfInBounds_toArray, List.set_cons_zero, List.set_cons_succ])
              | (refine SeqL.pure ?_ (by rfl) ?_ ?_; rotate_left; (focus (intro u hu; have y0' := y0 u hu; have y1' := y1 u hu; have y2' := y2 u hu; go_simp; first | done | exact rfl)); simp only [Act.put, List.setIfInBounds_toArray, List.set_cons_zero, List.set_cons_succ])
              | (refine SeqL.call _ _ _ (by rfl) ?_ C1.out ?_; (focus (intro u; go_simp; done)); simp only [Act.put, List.setIfInBounds_toArray, List.set_cons_zero, List.set_cons_succ]))
            refine SeqL.nil ?_
            intro w5 hu5
            have K5 := Kept.trans HKw.out (kd7 w5 hu5)
            clear y0 y1 y2 C1 kd7
            go_wp2_with fail
            go_roundw
            case rel => exact ⟨j + 1, by go_num, by omega, by rw [HU.out, ← HSA.out], K5⟩
            case measure => simp [intOf]; omega
          · obtain rfl : j = sl.length := by omega
            have HKw : Hid _ := hKX
            obtain ⟨U, hU⟩ : ∃ U, ([116, 101, 120, 116] ++ byteL zs n t) ++ valsL (sv.take sl.length) order = U := ⟨_, rfl⟩
            have HLn : Hid (lineL zs n order = U ++ [10]) := by rw [Hid, ← hU]; exact HLX.out
            simp only [hU]
            rw [hU] at hcl
            have hsz : ¬ 9223372036854775807 < (strOfNums U).size + (ByteArray.mk #[10]).size := by rw [strOfNums_size]; show ¬ _ < _ + 1; omega
            have HSA : Hid (strOfNums U ++ ByteArray.mk #[10] = strOfNums (U ++ [10])) := strs_app U [10]
            clear hU hKX hjl
            go_wp2_with fail
            go_ret
            refine ⟨?_, Kept.trans HKX.out HKw.out⟩
            rw [HLn.out, ← HSA.out]
            rfl
  · have HHL : Hid (([111, 98, 106] : List Int).length ≤ 50000) := by show _ ≤ _; decide
    have HLX : Hid (lineL zs n order = [111, 98, 106] ++ valsL (sv.take sl.length) order ++ [10]) := by rw [Hid, HLD.out, HHD.out, HTD.out, ← HSL.out, List.take_length]; rfl
    go_enter Tryz.func65, Tryz.ntmps65
    go_wp2_with (first | (go_at_call 38; refine hL3.mono ?_; rintro e WX ⟨v3, rfl, hO3, hk3⟩; have KX := k0.trans hk3; have bX := b0.kept hk3; have cX := bX.cell 0; have cN := CN.out n WX hn KX; obtain ⟨so, sc, rfl, hI3⟩ := hO3.ints) | (go_at_call 37; refine (hl2 _).mono ?_; rintro e wx ⟨rfl, rfl⟩))
    have HIX : Hid _ := hI3
    have HKX : Hid _ := KX
    have HbX : Hid _ := bX
    clear hL3 hI3 KX bX cX cN hO3
    go_loopw [7, 11] (fun s i wr => ∃ j : Nat, i = .int .i64 j ∧ j ≤ sl.length ∧ s = .string (strOfNums ([111, 98, 106] ++ valsL (sv.take j) order)) ∧ Kept WX wr) (fun _ i _ => sl.length - (intOf i).toNat)
    case atStart => exact ⟨0, rfl, Nat.zero_le _, by show Value.string _ = Value.string (strOfNums ([111, 98, 106] ++ [])); first | (rw [List.append_nil]; done) | (rw [List.append_nil]; exact rfl), Below.refl _ _⟩
    case round =>
      obtain ⟨j, rfl, hj, rfl, hKX⟩ := hrel
      have hjl := valsL_len (vs := sv.take j) (order := order) (fun v hv => HVB.out v (List.mem_of_mem_take hv)) hol
      have hjm : (sv.take j).length ≤ 4194304 := by rw [List.length_take]; have := HSL.out; omega
      have hcl : ([111, 98, 106] ++ valsL (sv.take j) order).length ≤ 200000000 := by rw [List.length_append]; have := HHL.out; omega
      by_cases hlj : j < sl.length
      · have hjs : j < sl.length := by omega
        obtain ⟨p, hp, hpl⟩ := HSP.out j hjs
        have evj : hz sv j = hz zs p := by rw [HSV.out j hjs, hp, Int.toNat_natCast]
        have hjv : j < sv.length := by rw [HSL.out]; exact hjs
        have HT : Hid (valsL (sv.take (j + 1)) order = valsL (sv.take j) order ++ valL (hz zs p) order) := by rw [Hid, take_hz hjv, valsL_snoc, evj]
        have hvb : -9223372036854775808 ≤ hz zs p ∧ hz zs p ≤ 9223372036854775807 := by rw [← evj]; exact HVB.out _ (hz_mem hjv)
        have hvl := valL_len hvb hol
        obtain ⟨b5, o5, e5, hc5⟩ := Ints.at (Ints.kept HIX.out hKX) hjs
        have c5 := hc5 j hjs
        rw [hp] at c5
        have c6 := CN.out p wr hpl (Kept.trans HKX.out hKX)
        have l5 : b5 < wr.heap.size := World.block_lt_of_cell? _ _ c5
        have l6 : ba < wr.heap.size := World.block_lt_of_cell? _ _ c6
        have g1 : (j : Int) < ((sl.length : Nat) : Int) := by omega
        have g2 : (0 : Int) ≤ (j : Int) := by omega
        have g3 : (p : Int) < (zs.length : Int) := by omega
        have g4 : (0 : Int) ≤ (p : Int) := by omega
        have g5 : ((p : Int)).toNat = p := by omega
        have kd7 : ∀ u, Kept wr.drew u → Kept wr u := fun u hu => Kept.trans (Below.refl _ wr).drew hu
        have y0 : ∀ u, Kept wr.drew u → u.cell? ⟨w.heap.size, 0, none⟩ = some (.slice (some ⟨ba, ofa, none⟩) zs.length cap) := fun u hu => (Cells.kept HbX.out (Kept.trans hKX (kd7 u hu))).cell 0
        have y1 : ∀ u, Kept wr.drew u → u.cell? ⟨b5, o5 + j, none⟩ = some (.int .i64 (p : Int)) := fun u hu => ((kd7 u hu).cell (p := ⟨b5, o5 + j, none⟩) l5).trans c5
        have y2 : ∀ u, Kept wr.drew u → u.cell? ⟨ba, ofa + p, none⟩ = some (.int .i64 (hz zs p)) := fun u hu => ((kd7 u hu).cell (p := ⟨ba, ofa + p, none⟩) l6).trans c6
        obtain ⟨T, hT⟩ : ∃ T, valL (hz zs p) order = T := ⟨_, rfl⟩
        obtain ⟨U, hU⟩ : ∃ U, [111, 98, 106] ++ valsL (sv.take j) order = U := ⟨_, rfl⟩
        have C1 : Hid (∀ u, Kept wr.drew u → Calls Tryz.prog 64 #[.int .i64 (hz zs p), .slice oo order.length oc] u fun e w' => e = .returned (.string (strOfNums T)) ∧ Kept u w') := fun u hu => by have := l7Value_ok u (hz zs p) oo oc order (Ints.kept HOr.out (Kept.trans HKX.out (Kept.trans hKX (kd7 u hu)))) hol hvb; rw [hT] at this; exact this
        have HU : Hid ([111, 98, 106] ++ valsL (sv.take (j + 1)) order = U ++ T) := by rw [Hid, HT.out, hT, ← List.append_assoc, hU]
        rw [hT] at hvl
        simp only [hU]
        rw [hU] at hcl
        have hsz : ¬ 9223372036854775807 < (strOfNums U).size + (strOfNums T).size := by rw [strOfNums_size, strOfNums_size]; omega
        have HSA : Hid _ := strs_app U T
        have HKw : Hid _ := hKX
        cases e5
        try simp only [Nat.zero_add] at y1
        clear hc5 c5 c6 evj hp hT hU hKX hjl hvb
        go_wp2_with fail
        refine wp_region_seqL (by kernel_rfl) (by kernel_rfl) ?_
        repeat (first
          | (refine SeqL.skip (by rfl) ?_; simp only [Act.put, List.setIfInBounds_toArray, List.set_cons_zero, List.set_cons_succ])
          | (refine SeqL.pure ?_ (by rfl) ?_ ?_; rotate_left; (focus (intro u hu; have y0' := y0 u hu; have y1' := y1 u hu; have y2' := y2 u hu; go_simp; first | done | exact rfl)); simp only [Act.put, List.setIfInBounds_toArray, List.set_cons_zero, List.set_cons_succ])
          | (refine SeqL.call _ _ _ (by rfl) ?_ C1.out ?_; (focus (intro u; go_simp; done)); simp only [Act.put, List.setIfInBounds_toArray, List.set_cons_zero, List.set_cons_succ]))
        refine SeqL.nil ?_
        intro w5 hu5
        have K5 := Kept.trans HKw.out (kd7 w5 hu5)
        clear y0 y1 y2 C1 kd7
        go_wp2_with fail
        go_roundw
        case rel => exact ⟨j + 1, by go_num, by omega, by rw [HU.out, ← HSA.out], K5⟩
        case measure => simp [intOf]; omega
      · obtain rfl : j = sl.length := by omega
        have HKw : Hid _ := hKX
        obtain ⟨U, hU⟩ : ∃ U, [111, 98, 106] ++ valsL (sv.take sl.length) order = U := ⟨_, rfl⟩
        have HLn : Hid (lineL zs n order = U ++ [10]) := by rw [Hid, ← hU]; exact HLX.out
        simp only [hU]
        rw [hU] at hcl
        have hsz : ¬ 9223372036854775807 < (strOfNums U).size + (ByteArray.mk #[10]).size := by rw [strOfNums_size]; show ¬ _ < _ + 1; omega
        have HSA : Hid (strOfNums U ++ ByteArray.mk #[10] = strOfNums (U ++ [10])) := strs_app U [10]
        clear hU hKX hjl
        go_wp2_with fail
        go_ret
        refine ⟨?_, Kept.trans HKX.out HKw.out⟩
        rw [HLn.out, ← HSA.out]
        rfl
  · have HHL : Hid (([99, 101, 108, 108] : List Int).length ≤ 50000) := by show _ ≤ _; decide
    have HLX : Hid (lineL zs n order = [99, 101, 108, 108] ++ valsL (sv.take sl.length) order ++ [10]) := by rw [Hid, HLD.out, HHD.out, HTD.out, ← HSL.out, List.take_length]; rfl
    go_enter Tryz.func65, Tryz.ntmps65
    go_wp2_with (first | (go_at_call 38; refine hL3.mono ?_; rintro e WX ⟨v3, rfl, hO3, hk3⟩; have KX := k0.trans hk3; have bX := b0.kept hk3; have cX := bX.cell 0; have cN := CN.out n WX hn KX; obtain ⟨so, sc, rfl, hI3⟩ := hO3.ints) | (go_at_call 37; refine (hl2 _).mono ?_; rintro e wx ⟨rfl, rfl⟩))
    have HIX : Hid _ := hI3
    have HKX : Hid _ := KX
    have HbX : Hid _ := bX
    clear hL3 hI3 KX bX cX cN hO3
    go_loopw [7, 11] (fun s i wr => ∃ j : Nat, i = .int .i64 j ∧ j ≤ sl.length ∧ s = .string (strOfNums ([99, 101, 108, 108] ++ valsL (sv.take j) order)) ∧ Kept WX wr) (fun _ i _ => sl.length - (intOf i).toNat)
    case atStart => exact ⟨0, rfl, Nat.zero_le _, by show Value.string _ = Value.string (strOfNums ([99, 101, 108, 108] ++ [])); first | (rw [List.append_nil]; done) | (rw [List.append_nil]; exact rfl), Below.refl _ _⟩
    case round =>
      obtain ⟨j, rfl, hj, rfl, hKX⟩ := hrel
      have hjl := valsL_len (vs := sv.take j) (order := order) (fun v hv => HVB.out v (List.mem_of_mem_take hv)) hol
      have hjm : (sv.take j).length ≤ 4194304 := by rw [List.length_take]; have := HSL.out; omega
      have hcl : ([99, 101, 108, 108] ++ valsL (sv.take j) order).length ≤ 200000000 := by rw [List.length_append]; have := HHL.out; omega
      by_cases hlj : j < sl.length
      · have hjs : j < sl.length := by omega
        obtain ⟨p, hp, hpl⟩ := HSP.out j hjs
        have evj : hz sv j = hz zs p := by rw [HSV.out j hjs, hp, Int.toNat_natCast]
        have hjv : j < sv.length := by rw [HSL.out]; exact hjs
        have HT : Hid (valsL (sv.take (j + 1)) order = valsL (sv.take j) order ++ valL (hz zs p) order) := by rw [Hid, take_hz hjv, valsL_snoc, evj]
        have hvb : -9223372036854775808 ≤ hz zs p ∧ hz zs p ≤ 9223372036854775807 := by rw [← evj]; exact HVB.out _ (hz_mem hjv)
        have hvl := valL_len hvb hol
        obtain ⟨b5, o5, e5, hc5⟩ := Ints.at (Ints.kept HIX.out hKX) hjs
        have c5 := hc5 j hjs
        rw [hp] at c5
        have c6 := CN.out p wr hpl (Kept.trans HKX.out hKX)
        have l5 : b5 < wr.heap.size := World.block_lt_of_cell? _ _ c5
        have l6 : ba < wr.heap.size := World.block_lt_of_cell? _ _ c6
        have g1 : (j : Int) < ((sl.length : Nat) : Int) := by omega
        have g2 : (0 : Int) ≤ (j : Int) := by omega
        have g3 : (p : Int) < (zs.length : Int) := by omega
        have g4 : (0 : Int) ≤ (p : Int) := by omega
        have g5 : ((p : Int)).toNat = p := by omega
        have kd7 : ∀ u, Kept wr.drew u → Kept wr u := fun u hu => Kept.trans (Below.refl _ wr).drew hu
        have y0 : ∀ u, Kept wr.drew u → u.cell? ⟨w.heap.size, 0, none⟩ = some (.slice (some ⟨ba, ofa, none⟩) zs.length cap) := fun u hu => (Cells.kept HbX.out (Kept.trans hKX (kd7 u hu))).cell 0
        have y1 : ∀ u, Kept wr.drew u → u.cell? ⟨b5, o5 + j, none⟩ = some (.int .i64 (p : Int)) := fun u hu => ((kd7 u hu).cell (p := ⟨b5, o5 + j, none⟩) l5).trans c5
        have y2 : ∀ u, Kept wr.drew u → u.cell? ⟨ba, ofa + p, none⟩ = some (.int .i64 (hz zs p)) := fun u hu => ((kd7 u hu).cell (p := ⟨ba, ofa + p, none⟩) l6).trans c6
        obtain ⟨T, hT⟩ : ∃ T, valL (hz zs p) order = T := ⟨_, rfl⟩
        obtain ⟨U, hU⟩ : ∃ U, [99, 101, 108, 108] ++ valsL (sv.take j) order = U := ⟨_, rfl⟩
        have C1 : Hid (∀ u, Kept wr.drew u → Calls Tryz.prog 64 #[.int .i64 (hz zs p), .slice oo order.length oc] u fun e w' => e = .returned (.string (strOfNums T)) ∧ Kept u w') := fun u hu => by have := l7Value_ok u (hz zs p) oo oc order (Ints.kept HOr.out (Kept.trans HKX.out (Kept.trans hKX (kd7 u hu)))) hol hvb; rw [hT] at this; exact this
        have HU : Hid ([99, 101, 108, 108] ++ valsL (sv.take (j + 1)) order = U ++ T) := by rw [Hid, HT.out, hT, ← List.append_assoc, hU]
        rw [hT] at hvl
        simp only [hU]
        rw [hU] at hcl
        have hsz : ¬ 9223372036854775807 < (strOfNums U).size + (strOfNums T).size := by rw [strOfNums_size, strOfNums_size]; omega
        have HSA : Hid _ := strs_app U T
        have HKw : Hid _ := hKX
        cases e5
        try simp only [Nat.zero_add] at y1
        clear hc5 c5 c6 evj hp hT hU hKX hjl hvb
        go_wp2_with fail
        refine wp_region_seqL (by kernel_rfl) (by kernel_rfl) ?_
        repeat (first
          | (refine SeqL.skip (by rfl) ?_; simp only [Act.put, List.setIfInBounds_toArray, List.set_cons_zero, List.set_cons_succ])
          | (refine SeqL.pure ?_ (by rfl) ?_ ?_; rotate_left; (focus (intro u hu; have y0' := y0 u hu; have y1' := y1 u hu; have y2' := y2 u hu; go_simp; first | done | exact rfl)); simp only [Act.put, List.setIfInBounds_toArray, List.set_cons_zero, List.set_cons_succ])
          | (refine SeqL.call _ _ _ (by rfl) ?_ C1.out ?_; (focus (intro u; go_simp; done)); simp only [Act.put, List.setIfInBounds_toArray, List.set_cons_zero, List.set_cons_succ]))
        refine SeqL.nil ?_
        intro w5 hu5
        have K5 := Kept.trans HKw.out (kd7 w5 hu5)
        clear y0 y1 y2 C1 kd7
        go_wp2_with fail
        go_roundw
        case rel => exact ⟨j + 1, by go_num, by omega, by rw [HU.out, ← HSA.out], K5⟩
        case measure => simp [intOf]; omega
      · obtain rfl : j = sl.length := by omega
        have HKw : Hid _ := hKX
        obtain ⟨U, hU⟩ : ∃ U, [99, 101, 108, 108] ++ valsL (sv.take sl.length) order = U := ⟨_, rfl⟩
        have HLn : Hid (lineL zs n order = U ++ [10]) := by rw [Hid, ← hU]; exact HLX.out
        simp only [hU]
        rw [hU] at hcl
        have hsz : ¬ 9223372036854775807 < (strOfNums U).size + (ByteArray.mk #[10]).size := by rw [strOfNums_size]; show ¬ _ < _ + 1; omega
        have HSA : Hid (strOfNums U ++ ByteArray.mk #[10] = strOfNums (U ++ [10])) := strs_app U [10]
        clear hU hKX hjl
        go_wp2_with fail
        go_ret
        refine ⟨?_, Kept.trans HKX.out HKw.out⟩
        rw [HLn.out, ← HSA.out]
        rfl
  · have hb := HB.out
    rw [blk_fun] at hb
    unfold funR at hb
    simp only [Bool.and_eq_true, decide_eq_true_eq] at hb
    have hf3 : 3 ≤ sz zs n := hb.1.1.1.1.1
    have hd9 := hb.1.1.1.2
    have hz3 := Hen.out
    clear hb
    have hdl := digI_len (n := hz zs (n + 1)) (by omega)
    have HHL : Hid ((([102, 117, 110, 32] ++ digI (hz zs (n + 1))) : List Int).length ≤ 50000) := by rw [Hid, List.length_append]; simp only [List.length_cons, List.length_nil]; omega
    have HLX : Hid (lineL zs n order = ([102, 117, 110, 32] ++ digI (hz zs (n + 1))) ++ valsL (sv.take sl.length) order ++ [10]) := by rw [Hid, HLD.out, HHD.out, HTD.out, ← HSL.out, List.take_length]; rfl
    have hDg := fun (u : World) => l7Digits_ok u (hz zs (n + 1)) (by omega)
    have hsz : ¬ 9223372036854775807 < (ByteArray.mk #[102, 117, 110, 32]).size + (strOfNums (digI (hz zs (n + 1)))).size := by rw [strOfNums_size]; show ¬ _ < 4 + _; omega
    have HST : Hid (ByteArray.mk #[102, 117, 110, 32] ++ strOfNums (digI (hz zs (n + 1))) = strOfNums ([102, 117, 110, 32] ++ digI (hz zs (n + 1)))) := strs_app [102, 117, 110, 32] _
    have p1 : (n : Int) + 1 < (zs.length : Int) := by omega
    have p0 : (0 : Int) ≤ (n : Int) + 1 := by omega
    have t1 : ((n : Int) + 1).toNat = n + 1 := by omega
    have wr1 : IntKind.i64.wrap ((n : Int) + 1) = (n : Int) + 1 := by rw [IntWalk.i64_left, IntWalk.wrap64_in _ (by omega)]
    have hn1 : n + 1 < zs.length := by omega
    go_enter Tryz.func65, Tryz.ntmps65
    go_wp2_with (first | (go_at_call 38; refine hL3.mono ?_; rintro e WX ⟨v3, rfl, hO3, hk3⟩; have KX := k0.trans hk3; have bX := b0.kept hk3; have cX := bX.cell 0; have cN := CN.out n WX hn KX; obtain ⟨so, sc, rfl, hI3⟩ := hO3.ints; have cN1 := CN.out (n + 1) WX hn1 KX) | (go_at_call 37; refine (hl2 _).mono ?_; rintro e wx ⟨rfl, rfl⟩) | (go_at_call 102; refine (hDg _).mono ?_; rintro e w4 ⟨rfl, hk4⟩))
    have HIX : Hid _ := hI3
    have HKX : Hid _ := KX
    have HbX : Hid _ := bX
    clear hL3 hI3 KX bX cX cN cN1 hO3
    go_loopw [7, 11] (fun s i wr => ∃ j : Nat, i = .int .i64 j ∧ j ≤ sl.length ∧ s = .string (strOfNums (([102, 117, 110, 32] ++ digI (hz zs (n + 1))) ++ valsL (sv.take j) order)) ∧ Kept WX wr) (fun _ i _ => sl.length - (intOf i).toNat)
    case atStart => exact ⟨0, rfl, Nat.zero_le _, by show Value.string _ = Value.string (strOfNums (([102, 117, 110, 32] ++ digI (hz zs (n + 1))) ++ [])); first | (rw [List.append_nil]; done) | (rw [List.append_nil]; exact congrArg Value.string HST.out), hk4⟩
    case round =>
      obtain ⟨j, rfl, hj, rfl, hKX⟩ := hrel
      have hjl := valsL_len (vs := sv.take j) (order := order) (fun v hv => HVB.out v (List.mem_of_mem_take hv)) hol
      have hjm : (sv.take j).length ≤ 4194304 := by rw [List.length_take]; have := HSL.out; omega
      have hcl : (([102, 117, 110, 32] ++ digI (hz zs (n + 1))) ++ valsL (sv.take j) order).length ≤ 200000000 := by rw [List.length_append]; have := HHL.out; omega
      by_cases hlj : j < sl.length
      · have hjs : j < sl.length := by omega
        obtain ⟨p, hp, hpl⟩ := HSP.out j hjs
        have evj : hz sv j = hz zs p := by rw [HSV.out j hjs, hp, Int.toNat_natCast]
        have hjv : j < sv.length := by rw [HSL.out]; exact hjs
        have HT : Hid (valsL (sv.take (j + 1)) order = valsL (sv.take j) order ++ valL (hz zs p) order) := by rw [Hid, take_hz hjv, valsL_snoc, evj]
        have hvb : -9223372036854775808 ≤ hz zs p ∧ hz zs p ≤ 9223372036854775807 := by rw [← evj]; exact HVB.out _ (hz_mem hjv)
        have hvl := valL_len hvb hol
        obtain ⟨b5, o5, e5, hc5⟩ := Ints.at (Ints.kept HIX.out hKX) hjs
        have c5 := hc5 j hjs
        rw [hp] at c5
        have c6 := CN.out p wr hpl (Kept.trans HKX.out hKX)
        have l5 : b5 < wr.heap.size := World.block_lt_of_cell? _ _ c5
        have l6 : ba < wr.heap.size := World.block_lt_of_cell? _ _ c6
        have g1 : (j : Int) < ((sl.length : Nat) : Int) := by omega
        have g2 : (0 : Int) ≤ (j : Int) := by omega
        have g3 : (p : Int) < (zs.length : Int) := by omega
        have g4 : (0 : Int) ≤ (p : Int) := by omega
        have g5 : ((p : Int)).toNat = p := by omega
        have kd7 : ∀ u, Kept wr.drew u → Kept wr u := fun u hu => Kept.trans (Below.refl _ wr).drew hu
        have y0 : ∀ u, Kept wr.drew u → u.cell? ⟨w.heap.size, 0, none⟩ = some (.slice (some ⟨ba, ofa, none⟩) zs.length cap) := fun u hu => (Cells.kept HbX.out (Kept.trans hKX (kd7 u hu))).cell 0
        have y1 : ∀ u, Kept wr.drew u → u.cell? ⟨b5, o5 + j, none⟩ = some (.int .i64 (p : Int)) := fun u hu => ((kd7 u hu).cell (p := ⟨b5, o5 + j, none⟩) l5).trans c5
        have y2 : ∀ u, Kept wr.drew u → u.cell? ⟨ba, ofa + p, none⟩ = some (.int .i64 (hz zs p)) := fun u hu => ((kd7 u hu).cell (p := ⟨ba, ofa + p, none⟩) l6).trans c6
        obtain ⟨T, hT⟩ : ∃ T, valL (hz zs p) order = T := ⟨_, rfl⟩
        obtain ⟨U, hU⟩ : ∃ U, ([102, 117, 110, 32] ++ digI (hz zs (n + 1))) ++ valsL (sv.take j) order = U := ⟨_, rfl⟩
        have C1 : Hid (∀ u, Kept wr.drew u → Calls Tryz.prog 64 #[.int .i64 (hz zs p), .slice oo order.length oc] u fun e w' => e = .returned (.string (strOfNums T)) ∧ Kept u w') := fun u hu => by have := l7Value_ok u (hz zs p) oo oc order (Ints.kept HOr.out (Kept.trans HKX.out (Kept.trans hKX (kd7 u hu)))) hol hvb; rw [hT] at this; exact this
        have HU : Hid (([102, 117, 110, 32] ++ digI (hz zs (n + 1))) ++ valsL (sv.take (j + 1)) order = U ++ T) := by rw [Hid, HT.out, hT, ← List.append_assoc, hU]
        rw [hT] at hvl
        simp only [hU]
        rw [hU] at hcl
        have hsz : ¬ 9223372036854775807 < (strOfNums U).size + (strOfNums T).size := by rw [strOfNums_size, strOfNums_size]; omega
        have HSA : Hid _ := strs_app U T
        have HKw : Hid _ := hKX
        cases e5
        try simp only [Nat.zero_add] at y1
        clear hc5 c5 c6 evj hp hT hU hKX hjl hvb
        go_wp2_with fail
        refine wp_region_seqL (by kernel_rfl) (by kernel_rfl) ?_
        repeat (first
          | (refine SeqL.skip (by rfl) ?_; simp only [Act.put, List.setIfInBounds_toArray, List.set_cons_zero, List.set_cons_succ])
          | (refine SeqL.pure ?_ (by rfl) ?_ ?_; rotate_left; (focus (intro u hu; have y0' := y0 u hu; have y1' := y1 u hu; have y2' := y2 u hu; go_simp; first | done | exact rfl)); simp only [Act.put, List.setIfInBounds_toArray, List.set_cons_zero, List.set_cons_succ])
          | (refine SeqL.call _ _ _ (by rfl) ?_ C1.out ?_; (focus (intro u; go_simp; done)); simp only [Act.put, List.setIfInBounds_toArray, List.set_cons_zero, List.set_cons_succ]))
        refine SeqL.nil ?_
        intro w5 hu5
        have K5 := Kept.trans HKw.out (kd7 w5 hu5)
        clear y0 y1 y2 C1 kd7
        go_wp2_with fail
        go_roundw
        case rel => exact ⟨j + 1, by go_num, by omega, by rw [HU.out, ← HSA.out], K5⟩
        case measure => simp [intOf]; omega
      · obtain rfl : j = sl.length := by omega
        have HKw : Hid _ := hKX
        obtain ⟨U, hU⟩ : ∃ U, ([102, 117, 110, 32] ++ digI (hz zs (n + 1))) ++ valsL (sv.take sl.length) order = U := ⟨_, rfl⟩
        have HLn : Hid (lineL zs n order = U ++ [10]) := by rw [Hid, ← hU]; exact HLX.out
        simp only [hU]
        rw [hU] at hcl
        have hsz : ¬ 9223372036854775807 < (strOfNums U).size + (ByteArray.mk #[10]).size := by rw [strOfNums_size]; show ¬ _ < _ + 1; omega
        have HSA : Hid (strOfNums U ++ ByteArray.mk #[10] = strOfNums (U ++ [10])) := strs_app U [10]
        clear hU hKX hjl
        go_wp2_with fail
        go_ret
        refine ⟨?_, Kept.trans HKX.out HKw.out⟩
        rw [HLn.out, ← HSA.out]
        rfl
  · have HHL : Hid (([115, 99, 111, 112, 101] : List Int).length ≤ 50000) := by show _ ≤ _; decide
    have HT5 : Hid (toldL zs n = sv.take (cutN sv sv.length)) := by rw [Hid, HTD.out]; simp
    have hsl1 : 1 ≤ sl.length := by rw [HSE.out, slL, someL_len]; have := Hs2.out; have e1 : slOff 5 = 1 := rfl; have e2 : slMany 5 = 4194304 := rfl; rw [e1, e2]; omega
    go_enter Tryz.func65, Tryz.ntmps65
    go_wp2_with (first | (go_at_call 38; refine hL3.mono ?_; rintro e WX ⟨v3, rfl, hO3, hk3⟩; have KX := k0.trans hk3; have bX := b0.kept hk3; have cX := bX.cell 0; have cN := CN.out n WX hn KX; obtain ⟨so, sc, ev3, hI3, hcap, hscm, hsoE⟩ := own_someE hO3 hsl1; subst ev3) | (go_at_call 37; refine (hl2 _).mono ?_; rintro e wx ⟨rfl, rfl⟩))
    have HIX : Hid _ := hI3
    have HKX : Hid _ := KX
    have HbX : Hid _ := bX
    clear hL3 hI3 KX bX cX cN hO3
    go_loopw [10] (fun c wr => ∃ m : Nat, c = .int .i64 m ∧ m ≤ sl.length ∧ cutN sv sl.length = cutN sv m ∧ Kept WX wr) (fun c _ => (intOf c).toNat)
    case atStart => exact ⟨sl.length, rfl, Nat.le_refl _, rfl, Below.refl _ _⟩
    case round =>
      obtain ⟨m, rfl, hm, hcut, hKX⟩ := hrel
      have HCut : Hid _ := hcut
      have HKw : Hid _ := hKX
      by_cases h0 : m = 0
      · subst h0
        have HM : Hid (cutN sv 0 = 0) := rfl
        clear hcut hKX
        go_wp2_with fail
        refine wp_region_seqL (by kernel_rfl) (by kernel_rfl) ?_
        repeat (first
          | (refine SeqL.skip (by rfl) ?_; simp only [Act.put, List.setIfInBounds_toArray, List.set_cons_zero, List.set_cons_succ])
          | (refine SeqL.pure ?_ (by rfl) ?_ ?_; rotate_left; (focus (intro u hu; go_simp; first | done | exact rfl)); simp only [Act.put, List.setIfInBounds_toArray, List.set_cons_zero, List.set_cons_succ])
        )
        refine SeqL.nil ?_
        intro w5 hu5
        have K5 := Kept.trans HKw.out (Kept.trans (Below.refl _ wr).drew hu5)
        have HLX : Hid (lineL zs n order = [115, 99, 111, 112, 101] ++ valsL (sv.take 0) order ++ [10]) := by rw [Hid, HLD.out, HHD.out, HT5.out, HSL.out, HCut.out, HM.out]
        have f1 : ((0 : Nat) : Int) ≤ (sc : Int) := by omega
        have f2 : 0 ≤ sc := by omega
        have f3 : (0 : Int) ≤ ((0 : Nat) : Int) := by omega
        obtain ⟨gS, hgS⟩ := hsoE
        subst hgS
        go_wp2_with fail
        go_loopw [7, 11] (fun s i wr => ∃ j : Nat, i = .int .i64 j ∧ j ≤ 0 ∧ s = .string (strOfNums ([115, 99, 111, 112, 101] ++ valsL (sv.take j) order)) ∧ Kept WX wr) (fun _ i _ => 0 - (intOf i).toNat)
        case atStart => exact ⟨0, rfl, Nat.zero_le _, by show Value.string _ = Value.string (strOfNums ([115, 99, 111, 112, 101] ++ [])); first | (rw [List.append_nil]; done) | (rw [List.append_nil]; exact rfl), K5⟩
        case round =>
          obtain ⟨j, rfl, hj, rfl, hKX⟩ := hrel
          have hjl := valsL_len (vs := sv.take j) (order := order) (fun v hv => HVB.out v (List.mem_of_mem_take hv)) hol
          have hjm : (sv.take j).length ≤ 4194304 := by rw [List.length_take]; have := HSL.out; omega
          have hcl : ([115, 99, 111, 112, 101] ++ valsL (sv.take j) order).length ≤ 200000000 := by rw [List.length_append]; have := HHL.out; omega
          by_cases hlj : j < 0
          · exact absurd hlj (by omega)
          · obtain rfl : j = 0 := by omega
            have HKw : Hid _ := hKX
            obtain ⟨U, hU⟩ : ∃ U, [115, 99, 111, 112, 101] ++ valsL (sv.take 0) order = U := ⟨_, rfl⟩
            have HLn : Hid (lineL zs n order = U ++ [10]) := by rw [Hid, ← hU]; exact HLX.out
            simp only [hU]
            rw [hU] at hcl
            have hsz : ¬ 9223372036854775807 < (strOfNums U).size + (ByteArray.mk #[10]).size := by rw [strOfNums_size]; show ¬ _ < _ + 1; omega
            have HSA : Hid (strOfNums U ++ ByteArray.mk #[10] = strOfNums (U ++ [10])) := strs_app U [10]
            clear hU hKX hjl
            go_wp2_with fail
            go_ret
            refine ⟨?_, Kept.trans HKX.out HKw.out⟩
            rw [HLn.out, ← HSA.out]
            rfl
      · obtain ⟨q, hqm⟩ : ∃ q, m = q + 1 := ⟨m - 1, by omega⟩
        have HQM : Hid _ := hqm
        have hqs : q < sl.length := by omega
        obtain ⟨p, hp, hpl⟩ := HSP.out q hqs
        have evq : hz sv q = hz zs p := by rw [HSV.out q hqs, hp, Int.toNat_natCast]
        obtain ⟨b5, o5, e5, hc5⟩ := Ints.at (Ints.kept HIX.out hKX) hqs
        have c5 := hc5 q hqs
        rw [hp] at c5
        have c6 := CN.out p wr hpl (Kept.trans HKX.out hKX)
        have l5 : b5 < wr.heap.size := World.block_lt_of_cell? _ _ c5
        have l6 : ba < wr.heap.size := World.block_lt_of_cell? _ _ c6
        have g0 : (0 : Int) < (m : Int) := by omega
        have g0n : 0 < m := by omega
        have g1 : (q : Int) < (sl.length : Int) := by omega
        have g2 : (0 : Int) ≤ (q : Int) := by omega
        have g3 : (p : Int) < (zs.length : Int) := by omega
        have g4 : (0 : Int) ≤ (p : Int) := by omega
        have g5 : ((p : Int)).toNat = p := by omega
        have wq : IntKind.i64.wrap ((m : Int) - 1) = (q : Int) := by rw [IntWalk.i64_left, IntWalk.wrap64_in _ (by omega)]; omega
        have kd7 : ∀ u, Kept wr.drew u → Kept wr u := fun u hu => Kept.trans (Below.refl _ wr).drew hu
        have y0 : ∀ u, Kept wr.drew u → u.cell? ⟨w.heap.size, 0, none⟩ = some (.slice (some ⟨ba, ofa, none⟩) zs.length cap) := fun u hu => (Cells.kept HbX.out (Kept.trans hKX (kd7 u hu))).cell 0
        have y1 : ∀ u, Kept wr.drew u → u.cell? ⟨b5, o5 + q, none⟩ = some (.int .i64 (p : Int)) := fun u hu => ((kd7 u hu).cell (p := ⟨b5, o5 + q, none⟩) l5).trans c5
        have y2 : ∀ u, Kept wr.drew u → u.cell? ⟨ba, ofa + p, none⟩ = some (.int .i64 (hz zs p)) := fun u hu => ((kd7 u hu).cell (p := ⟨ba, ofa + p, none⟩) l6).trans c6
        have HSo : Hid _ := hsoE
        obtain ⟨gS, hgS⟩ := hsoE
        subst hgS
        cases e5
        simp only [Nat.zero_add] at y1
        have hqb : q < m := by omega
        clear hc5 c5 c6 hp hcut hKX hqm
        by_cases hx : hz zs p = 0
        · have hd : (hz zs p == 0) = true := by simpa using hx
          have HM : Hid (cutN sv m = cutN sv q) := by rw [Hid, HQM.out, cutN, if_pos (evq.trans hx)]
          clear hx evq
          go_wp2_with fail
          refine wp_region_seqL (by kernel_rfl) (by kernel_rfl) ?_
          repeat (first
            | (refine SeqL.skip (by rfl) ?_; simp only [Act.put, List.setIfInBounds_toArray, List.set_cons_zero, List.set_cons_succ])
            | (refine SeqL.pure ?_ (by rfl) ?_ ?_; rotate_left; (focus (intro u hu; have y0' := y0 u hu; have y1' := y1 u hu; have y2' := y2 u hu; go_simp; first | done | exact rfl)); simp only [Act.put, List.setIfInBounds_toArray, List.set_cons_zero, List.set_cons_succ])
          )
          refine SeqL.nil ?_
          intro w5 hu5
          have K5 := Kept.trans HKw.out (kd7 w5 hu5)
          clear y0 y1 y2 kd7
          go_wp2_with fail
          go_roundw
          case rel => exact ⟨q, by go_num, by omega, HCut.out.trans HM.out, K5⟩
          case measure => simp [intOf]; omega
        · have hd : (hz zs p == 0) = false := by simpa using hx
          have HM : Hid (cutN sv m = m) := by rw [Hid, HQM.out, cutN, if_neg (by rw [evq]; exact hx)]
          clear hx evq
          go_wp2_with fail
          refine wp_region_seqL (by kernel_rfl) (by kernel_rfl) ?_
          repeat (first
            | (refine SeqL.skip (by rfl) ?_; simp only [Act.put, List.setIfInBounds_toArray, List.set_cons_zero, List.set_cons_succ])
            | (refine SeqL.pure ?_ (by rfl) ?_ ?_; rotate_left; (focus (intro u hu; have y0' := y0 u hu; have y1' := y1 u hu; have y2' := y2 u hu; go_simp; first | done | exact rfl)); simp only [Act.put, List.setIfInBounds_toArray, List.set_cons_zero, List.set_cons_succ])
          )
          refine SeqL.nil ?_
          intro w5 hu5
          have K5 := Kept.trans HKw.out (kd7 w5 hu5)
          clear y0 y1 y2 kd7
          have HLX : Hid (lineL zs n order = [115, 99, 111, 112, 101] ++ valsL (sv.take m) order ++ [10]) := by rw [Hid, HLD.out, HHD.out, HT5.out, HSL.out, HCut.out, HM.out]
          have f1 : ((m : Nat) : Int) ≤ (sc : Int) := by omega
          have f2 : m ≤ sc := by omega
          have f3 : (0 : Int) ≤ ((m : Nat) : Int) := by omega
          go_wp2_with fail
          go_loopw [7, 11] (fun s i wr => ∃ j : Nat, i = .int .i64 j ∧ j ≤ m ∧ s = .string (strOfNums ([115, 99, 111, 112, 101] ++ valsL (sv.take j) order)) ∧ Kept WX wr) (fun _ i _ => m - (intOf i).toNat)
          case atStart => exact ⟨0, rfl, Nat.zero_le _, by show Value.string _ = Value.string (strOfNums ([115, 99, 111, 112, 101] ++ [])); first | (rw [List.append_nil]; done) | (rw [List.append_nil]; exact rfl), K5⟩
          case round =>
            obtain ⟨j, rfl, hj, rfl, hKX⟩ := hrel
            have hjl := valsL_len (vs := sv.take j) (order := order) (fun v hv => HVB.out v (List.mem_of_mem_take hv)) hol
            have hjm : (sv.take j).length ≤ 4194304 := by rw [List.length_take]; have := HSL.out; omega
            have hcl : ([115, 99, 111, 112, 101] ++ valsL (sv.take j) order).length ≤ 200000000 := by rw [List.length_append]; have := HHL.out; omega
            by_cases hlj : j < m
            · have hjs : j < sl.length := by omega
              obtain ⟨p, hp, hpl⟩ := HSP.out j hjs
              have evj : hz sv j = hz zs p := by rw [HSV.out j hjs, hp, Int.toNat_natCast]
              have hjv : j < sv.length := by rw [HSL.out]; exact hjs
              have HT : Hid (valsL (sv.take (j + 1)) order = valsL (sv.take j) order ++ valL (hz zs p) order) := by rw [Hid, take_hz hjv, valsL_snoc, evj]
              have hvb : -9223372036854775808 ≤ hz zs p ∧ hz zs p ≤ 9223372036854775807 := by rw [← evj]; exact HVB.out _ (hz_mem hjv)
              have hvl := valL_len hvb hol
              obtain ⟨b5, o5, e5, hc5⟩ := Ints.at (Ints.kept HIX.out hKX) hjs
              have c5 := hc5 j hjs
              rw [hp] at c5
              have c6 := CN.out p wr hpl (Kept.trans HKX.out hKX)
              have l5 : b5 < wr.heap.size := World.block_lt_of_cell? _ _ c5
              have l6 : ba < wr.heap.size := World.block_lt_of_cell? _ _ c6
              have g1 : (j : Int) < ((m : Nat) : Int) := by omega
              have g2 : (0 : Int) ≤ (j : Int) := by omega
              have g3 : (p : Int) < (zs.length : Int) := by omega
              have g4 : (0 : Int) ≤ (p : Int) := by omega
              have g5 : ((p : Int)).toNat = p := by omega
              have kd7 : ∀ u, Kept wr.drew u → Kept wr u := fun u hu => Kept.trans (Below.refl _ wr).drew hu
              have y0 : ∀ u, Kept wr.drew u → u.cell? ⟨w.heap.size, 0, none⟩ = some (.slice (some ⟨ba, ofa, none⟩) zs.length cap) := fun u hu => (Cells.kept HbX.out (Kept.trans hKX (kd7 u hu))).cell 0
              have y1 : ∀ u, Kept wr.drew u → u.cell? ⟨b5, o5 + j, none⟩ = some (.int .i64 (p : Int)) := fun u hu => ((kd7 u hu).cell (p := ⟨b5, o5 + j, none⟩) l5).trans c5
              have y2 : ∀ u, Kept wr.drew u → u.cell? ⟨ba, ofa + p, none⟩ = some (.int .i64 (hz zs p)) := fun u hu => ((kd7 u hu).cell (p := ⟨ba, ofa + p, none⟩) l6).trans c6
              obtain ⟨T, hT⟩ : ∃ T, valL (hz zs p) order = T := ⟨_, rfl⟩
              obtain ⟨U, hU⟩ : ∃ U, [115, 99, 111, 112, 101] ++ valsL (sv.take j) order = U := ⟨_, rfl⟩
              have C1 : Hid (∀ u, Kept wr.drew u → Calls Tryz.prog 64 #[.int .i64 (hz zs p), .slice oo order.length oc] u fun e w' => e = .returned (.string (strOfNums T)) ∧ Kept u w') := fun u hu => by have := l7Value_ok u (hz zs p) oo oc order (Ints.kept HOr.out (Kept.trans HKX.out (Kept.trans hKX (kd7 u hu)))) hol hvb; rw [hT] at this; exact this
              have HU : Hid ([115, 99, 111, 112, 101] ++ valsL (sv.take (j + 1)) order = U ++ T) := by rw [Hid, HT.out, hT, ← List.append_assoc, hU]
              rw [hT] at hvl
              simp only [hU]
              rw [hU] at hcl
              have hsz : ¬ 9223372036854775807 < (strOfNums U).size + (strOfNums T).size := by rw [strOfNums_size, strOfNums_size]; omega
              have HSA : Hid _ := strs_app U T
              have HKw : Hid _ := hKX
              cases e5
              try simp only [Nat.zero_add] at y1
              clear hc5 c5 c6 evj hp hT hU hKX hjl hvb
              go_wp2_with fail
              refine wp_region_seqL (by kernel_rfl) (by kernel_rfl) ?_
              repeat (first
                | (refine SeqL.skip (by rfl) ?_; simp only [Act.put, List.setIfInBounds_toArray, List.set_cons_zero, List.set_cons_succ])
                | (refine SeqL.pure ?_ (by rfl) ?_ ?_; rotate_left; (focus (intro u hu; have y0' := y0 u hu; have y1' := y1 u hu; have y2' := y2 u hu; go_simp; first | done | exact rfl)); simp only [Act.put, List.setIfInBounds_toArray, List.set_cons_zero, List.set_cons_succ])
                | (refine SeqL.call _ _ _ (by rfl) ?_ C1.out ?_; (focus (intro u; go_simp; done)); simp only [Act.put, List.setIfInBounds_toArray, List.set_cons_zero, List.set_cons_succ]))
              refine SeqL.nil ?_
              intro w5 hu5
              have K5 := Kept.trans HKw.out (kd7 w5 hu5)
              clear y0 y1 y2 C1 kd7
              go_wp2_with fail
              go_roundw
              case rel => exact ⟨j + 1, by go_num, by omega, by rw [HU.out, ← HSA.out], K5⟩
              case measure => simp [intOf]; omega
            · obtain rfl : m = j := by omega
              have HKw : Hid _ := hKX
              obtain ⟨U, hU⟩ : ∃ U, [115, 99, 111, 112, 101] ++ valsL (sv.take m) order = U := ⟨_, rfl⟩
              have HLn : Hid (lineL zs n order = U ++ [10]) := by rw [Hid, ← hU]; exact HLX.out
              simp only [hU]
              rw [hU] at hcl
              have hsz : ¬ 9223372036854775807 < (strOfNums U).size + (ByteArray.mk #[10]).size := by rw [strOfNums_size]; show ¬ _ < _ + 1; omega
              have HSA : Hid (strOfNums U ++ ByteArray.mk #[10] = strOfNums (U ++ [10])) := strs_app U [10]
              clear hU hKX hjl
              go_wp2_with fail
              go_ret
              refine ⟨?_, Kept.trans HKX.out HKw.out⟩
              rw [HLn.out, ← HSA.out]
              rfl
end Go.Proofs.YtaeeoehmocelhaaGreatDoor
namespace Go.Proofs.YtaeeoehmocelhaaGreatDoor
open Go.RowKit
attribute [local go_sem] Plain.and7

def linesL (zs order : List Int) (os : List Int) : List Int := os.flatMap (fun a => lineL zs a.toNat order)
theorem linesL_snoc (zs order os : List Int) (a : Int) : linesL zs order (os ++ [a]) = linesL zs order os ++ lineL zs a.toNat order := by simp [linesL]
/-- What Picture tells. -/
def picL (zs rs : List Int) : List Int := if rootsR zs rs = true then [114, 111, 111, 116, 115] ++ valsL rs (ordL zs rs) ++ [10] ++ linesL zs (ordL zs rs) (ordL zs rs) else []
theorem headL_len {zs : List Int} {n : Nat} (hb : ∀ z ∈ zs, -9223372036854775808 ≤ z ∧ z ≤ 9223372036854775807) (hh : heapR zs = true) (hk : 1 ≤ kindAt zs (n : Int)) : (headL zs n).length ≤ 50000 := by
  have hlen := (slabOk_iff.1 (heapR_slab hh)).1
  obtain ⟨n', en, hn, hg, esl, b, hbm, hbn⟩ := kind_nat hk
  obtain rfl : n = n' := by omega
  have hblk := heapR_blk hh hbm
  obtain ⟨-, -, -, hbs, hbk, -⟩ := atB_some (atB_mem (heapR_slab hh) hbm)
  rw [hbn] at hblk hbs hbk
  rw [hbs, hbk] at hblk
  have hgl := hg.le
  have hs2 := hg.sz2
  unfold headL
  split
  · rename_i h1
    rw [h1, blk_text] at hblk
    unfold textR at hblk
    simp only [Bool.and_eq_true, decide_eq_true_eq, bytesR_iff] at hblk
    have := byteL_len (a := n) hb (hz zs (n + 1)).toNat (by omega)
    rw [List.length_append]
    simp only [List.length_cons, List.length_nil]
    omega
  · simp
  · simp
  · have := digI_len (n := hz zs (n + 1)) (hb _ (hz_mem (by omega)))
    rw [List.length_append]
    simp only [List.length_cons, List.length_nil]
    omega
  · simp
  · simp
theorem lineL_len {zs order : List Int} {n : Nat} (hb : ∀ z ∈ zs, -9223372036854775808 ≤ z ∧ z ≤ 9223372036854775807) (hh : heapR zs = true) (hk : 1 ≤ kindAt zs (n : Int)) (hol : order.length ≤ 1048576) : (lineL zs n order).length ≤ 100000 := by
  have hlen := (slabOk_iff.1 (heapR_slab hh)).1
  have h1 := headL_len hb hh hk
  obtain ⟨_, hsl, hsp⟩ := leads_slots hh hk
  have hvb := slots_bd hb hsp
  have h2 : (valsL (toldL zs n) order).length ≤ 24 * (toldL zs n).length := valsL_len (fun v hv => by
    unfold toldL at hv
    split at hv
    · exact hvb v (List.mem_of_mem_take hv)
    · exact hvb v hv) hol
  have h3 : (toldL zs n).length ≤ zs.length := by
    unfold toldL
    split
    · rw [List.length_take, slotV_len]; omega
    · rw [slotV_len]; exact hsl
  unfold lineL
  simp only [List.length_append, List.length_cons, List.length_nil]
  omega
theorem linesL_len {zs order : List Int} (hb : ∀ z ∈ zs, -9223372036854775808 ≤ z ∧ z ≤ 9223372036854775807) (hh : heapR zs = true) (hol : order.length ≤ 1048576) : ∀ {os : List Int}, (∀ a ∈ os, 1 ≤ kindAt zs a) → (linesL zs order os).length ≤ 100000 * os.length
  | [], _ => by simp [linesL]
  | a :: os, h => by
    have h1 := linesL_len hb hh hol (os := os) (fun x hx => h x (List.mem_cons_of_mem _ hx))
    obtain ⟨n, e, _⟩ := kind_nat (h a (by simp))
    have h2 := lineL_len (order := order) (n := n) hb hh (by rw [← e]; exact h a (by simp)) hol
    have e2 : linesL zs order (a :: os) = lineL zs a.toNat order ++ linesL zs order os := by simp [linesL]
    rw [e2, List.length_append, List.length_cons, e, Int.toNat_natCast]
    omega
set_option maxHeartbeats 16000000 in
set_option maxRecDepth 100000 in
theorem spec_Picture_ok (w : World) (ao ro : Option Addr) (cap rc : Nat) (zs rs : List Int) (hI : Ints w ao zs) (hl : zs.length ≤ 1048576) (hR : Ints w ro rs) (hrl : rs.length ≤ 1048576) :
    Calls Tryz.prog 23 #[.agg #[.slice ao zs.length cap], .slice ro rs.length rc] w fun e w' => e = .returned (.string (strOfNums (picL zs rs))) ∧ Kept w w' := by
  have b0 := Cells.new w 26 #[.slice ao zs.length cap]
  have k0 : Kept w (w.alloc (.cells #[.slice ao zs.length cap] 26)) := Kept.alloc (Below.refl _ _) _
  have hRo := spec_RootsOk_ok _ ao ro cap rc zs rs (hI.kept k0) hl (hR.kept k0) hrl
  cases hr : rootsR zs rs with
  | false =>
    have HP : Hid (picL zs rs = []) := by simp [Hid, picL, hr]
    rw [hr] at hRo
    clear hr hI hR
    go_enter Tryz.func23, Tryz.ntmps23
    go_wp2_with (go_at_call 15; refine hRo.mono ?_; rintro e w1 ⟨rfl, hk1⟩)
    go_ret
    exact ⟨by rw [HP.out]; rfl, k0.trans hk1⟩
  | true =>
    have hh : heapR zs = true := by
      unfold rootsR at hr
      simp only [Bool.and_eq_true] at hr
      exact hr.1
    have hlen := (slabOk_iff.1 (heapR_slab hh)).1
    have hM := ordL_met hr
    have hol0 := hM.len
    have hOr := fun (u : World) (hu : Kept w u) => l7Order_ok u ao ro cap rc zs rs (hI.kept hu) hl (hR.kept hu) hrl hr
    have HP0 : Hid (picL zs rs = [114, 111, 111, 116, 115] ++ valsL rs (ordL zs rs) ++ [10] ++ linesL zs (ordL zs rs) (ordL zs rs)) := by rw [Hid, picL, if_pos hr]
    obtain ⟨ord, hord⟩ : ∃ ord, ordL zs rs = ord := ⟨_, rfl⟩
    rw [hord] at hM hol0 hOr HP0
    rw [hr] at hRo
    have hol : ord.length ≤ 1048576 := by omega
    have HM : Hid _ := hM
    have HOr : Hid _ := hOr
    have HI : Hid _ := hI
    have HR : Hid _ := hR
    have HH : Hid _ := hh
    clear hr hord hM hOr hI hR hh
    go_enter Tryz.func23, Tryz.ntmps23
    go_wp2_with (first | (go_at_call 15; refine hRo.mono ?_; rintro e w1 ⟨rfl, hk1⟩; have c1 := (b0.kept hk1).cell 0) | (go_at_call 63; refine (HOr.out _ (k0.trans hk1)).mono ?_; rintro e WX ⟨v2, rfl, hO2, hk2⟩; obtain ⟨oo, oc, rfl, hI2⟩ := hO2.ints))
    have HOX : Hid _ := hI2
    have HKX : Hid _ := (k0.trans hk1).trans hk2
    have HbX : Hid _ := (b0.kept hk1).kept hk2
    clear hRo c1 hI2 hO2 hk1 hk2
    go_loopw [6, 7] (fun s i wr => ∃ j : Nat, i = .int .i64 j ∧ j ≤ rs.length ∧ s = .string (strOfNums ([114, 111, 111, 116, 115] ++ valsL (rs.take j) ord)) ∧ Kept WX wr) (fun _ i _ => rs.length - (intOf i).toNat)
    case atStart => exact ⟨0, rfl, Nat.zero_le _, rfl, Below.refl _ _⟩
    case round =>
      obtain ⟨j, rfl, hj, rfl, hKX⟩ := hrel
      have hjl := valsL_len (vs := rs.take j) (order := ord) (fun v hv => HR.out.1 v (List.mem_of_mem_take hv)) hol
      have hjm : (rs.take j).length ≤ 1048576 := by rw [List.length_take]; omega
      have hcl : ([114, 111, 111, 116, 115] ++ valsL (rs.take j) ord).length ≤ 30000000 := by rw [List.length_append]; simp only [List.length_cons, List.length_nil]; omega
      by_cases hlj : j < rs.length
      · have HT : Hid (valsL (rs.take (j + 1)) ord = valsL (rs.take j) ord ++ valL (hz rs j) ord) := by rw [Hid, take_hz hlj, valsL_snoc]
        have hvb := HR.out.1 _ (hz_mem hlj)
        have hvl := valL_len hvb hol
        obtain ⟨b5, o5, e5, hc5⟩ := Ints.at (Ints.kept HR.out (Kept.trans HKX.out hKX)) hlj
        have c5 := hc5 j hlj
        have g1 : (j : Int) < (rs.length : Int) := by omega
        have g2 : (0 : Int) ≤ (j : Int) := by omega
        have hVa := l7Value_ok wr (hz rs j) oo oc ord (Ints.kept HOX.out hKX) hol hvb
        obtain ⟨T, hT⟩ : ∃ T, valL (hz rs j) ord = T := ⟨_, rfl⟩
        obtain ⟨U, hU⟩ : ∃ U, [114, 111, 111, 116, 115] ++ valsL (rs.take j) ord = U := ⟨_, rfl⟩
        have HU : Hid ([114, 111, 111, 116, 115] ++ valsL (rs.take (j + 1)) ord = U ++ T) := by rw [Hid, HT.out, hT, ← List.append_assoc, hU]
        rw [hT] at hvl hVa
        simp only [hU]
        rw [hU] at hcl
        have hsz : ¬ 9223372036854775807 < (strOfNums U).size + (strOfNums T).size := by rw [strOfNums_size, strOfNums_size]; omega
        have HSA : Hid _ := strs_app U T
        have HKw : Hid _ := hKX
        subst e5
        clear hc5 hT hU hKX hjl hvb
        go_wp2_with (go_at_call 64; refine hVa.mono ?_; rintro e w5 ⟨rfl, hk5⟩)
        go_roundw
        case rel => exact ⟨j + 1, by go_num, by omega, by rw [HU.out, ← HSA.out], Kept.trans HKw.out hk5⟩
        case measure => simp [intOf]; omega
      · obtain rfl : j = rs.length := by omega
        have HKw : Hid _ := hKX
        obtain ⟨U, hU⟩ : ∃ U, [114, 111, 111, 116, 115] ++ valsL (rs.take rs.length) ord = U := ⟨_, rfl⟩
        have HPU : Hid (picL zs rs = (U ++ [10]) ++ linesL zs ord ord) := by rw [Hid, HP0.out, ← hU, List.take_length]
        simp only [hU]
        rw [hU] at hcl
        have hsz : ¬ 9223372036854775807 < (strOfNums U).size + (ByteArray.mk #[10]).size := by rw [strOfNums_size]; show ¬ _ < _ + 1; omega
        have HSA : Hid (strOfNums U ++ ByteArray.mk #[10] = strOfNums (U ++ [10])) := strs_app U [10]
        clear hU hKX hjl
        go_wp2_with fail
        go_loopw [6, 8] (fun s i wr => ∃ j : Nat, i = .int .i64 j ∧ j ≤ ord.length ∧ s = .string (strOfNums ((U ++ [10]) ++ linesL zs ord (ord.take j))) ∧ Kept WX wr) (fun _ i _ => ord.length - (intOf i).toNat)
        case atStart => exact ⟨0, rfl, Nat.zero_le _, by show Value.string _ = Value.string (strOfNums ((U ++ [10]) ++ [])); rw [List.append_nil]; exact congrArg Value.string HSA.out, HKw.out⟩
        case round =>
          obtain ⟨j, rfl, hj, rfl, hKX⟩ := hrel
          have hjl := linesL_len (zs := zs) (order := ord) HI.out.1 HH.out hol (os := ord.take j) (fun a ha => HM.out.2 a (List.mem_of_mem_take ha))
          have hjm : (ord.take j).length ≤ 2000 := by rw [List.length_take]; omega
          have hcl2 : ((U ++ [10]) ++ linesL zs ord (ord.take j)).length ≤ 300000000 := by simp only [List.length_append, List.length_cons, List.length_nil]; omega
          by_cases hlj : j < ord.length
          · have hka := HM.out.2 _ (hz_mem hlj)
            obtain ⟨n, en, hn, _⟩ := kind_nat hka
            rw [en] at hka
            have HT : Hid (linesL zs ord (ord.take (j + 1)) = linesL zs ord (ord.take j) ++ lineL zs n ord) := by rw [Hid, take_hz hlj, linesL_snoc, en, Int.toNat_natCast]
            have hvl := lineL_len (order := ord) HI.out.1 HH.out hka hol
            obtain ⟨b5, o5, e5, hc5⟩ := Ints.at (Ints.kept HOX.out hKX) hlj
            have c5 := hc5 j hlj
            rw [en] at c5
            have l5 : b5 < wr.heap.size := World.block_lt_of_cell? _ _ c5
            have g1 : (j : Int) < (ord.length : Int) := by omega
            have g2 : (0 : Int) ≤ (j : Int) := by omega
            have kd7 : ∀ u, Kept wr.drew u → Kept wr u := fun u hu => Kept.trans (Below.refl _ wr).drew hu
            have y0 : ∀ u, Kept wr.drew u → u.cell? ⟨w.heap.size, 0, none⟩ = some (.slice ao zs.length cap) := fun u hu => (Cells.kept HbX.out (Kept.trans hKX (kd7 u hu))).cell 0
            have y1 : ∀ u, Kept wr.drew u → u.cell? ⟨b5, o5 + j, none⟩ = some (.int .i64 (n : Int)) := fun u hu => ((kd7 u hu).cell (p := ⟨b5, o5 + j, none⟩) l5).trans c5
            obtain ⟨T, hT⟩ : ∃ T, lineL zs n ord = T := ⟨_, rfl⟩
            obtain ⟨V, hV⟩ : ∃ V, (U ++ [10]) ++ linesL zs ord (ord.take j) = V := ⟨_, rfl⟩
            subst e5
            have C1 : Hid (∀ u, Kept wr.drew u → Calls Tryz.prog 65 #[.agg #[.slice ao zs.length cap], .int .i64 (n : Int), .slice (some ⟨b5, o5, none⟩) ord.length oc] u fun e w' => e = .returned (.string (strOfNums T)) ∧ Kept u w') := fun u hu => by have := l7Line_ok u ao (some ⟨b5, o5, none⟩) cap oc zs ord n (Ints.kept HI.out (Kept.trans HKX.out (Kept.trans hKX (kd7 u hu)))) (Ints.kept HOX.out (Kept.trans hKX (kd7 u hu))) hol HH.out hka; rw [hT] at this; exact this
            have HU : Hid ((U ++ [10]) ++ linesL zs ord (ord.take (j + 1)) = V ++ T) := by rw [Hid, HT.out, hT, ← List.append_assoc, hV]
            rw [hT] at hvl
            simp only [hV]
            rw [hV] at hcl2
            have hsz2 : ¬ 9223372036854775807 < (strOfNums V).size + (strOfNums T).size := by rw [strOfNums_size, strOfNums_size]; omega
            have HSB : Hid _ := strs_app V T
            have HKw2 : Hid _ := hKX
            clear hc5 c5 hT hV hKX hjl en hka
            go_wp2_with fail
            refine wp_region_seqL (by kernel_rfl) (by kernel_rfl) ?_
            repeat (first
              | (refine SeqL.skip (by rfl) ?_; simp only [Act.put, List.setIfInBounds_toArray, List.set_cons_zero, List.set_cons_succ])
              | (refine SeqL.pure ?_ (by rfl) ?_ ?_; rotate_left; (focus (intro u hu; have y0' := y0 u hu; have y1' := y1 u hu; go_simp; first | done | exact rfl)); simp only [Act.put, List.setIfInBounds_toArray, List.set_cons_zero, List.set_cons_succ])
              | (refine SeqL.call _ _ _ (by rfl) ?_ C1.out ?_; (focus (intro u; go_simp; done)); simp only [Act.put, List.setIfInBounds_toArray, List.set_cons_zero, List.set_cons_succ]))
            refine SeqL.nil ?_
            intro w5 hu5
            have K5 := Kept.trans HKw2.out (kd7 w5 hu5)
            clear y0 y1 C1 kd7
            go_wp2_with fail
            go_roundw
            case rel => exact ⟨j + 1, by go_num, by omega, by rw [HU.out, ← HSB.out], K5⟩
            case measure => simp [intOf]; omega
          · obtain rfl : j = ord.length := by omega
            have HKw2 : Hid _ := hKX
            have HPV : Hid (picL zs rs = (U ++ [10]) ++ linesL zs ord (ord.take ord.length)) := by rw [Hid, HPU.out, List.take_length]
            clear hKX hjl
            go_wp2_with fail
            go_ret
            refine ⟨?_, Kept.trans HKX.out HKw2.out⟩
            rw [HPV.out]
            rfl
theorem str_empty (xs : List Int) : (strOfNums xs).toList.isEmpty = xs.isEmpty := by
  rw [ByteArray.toList_eq, strOfNums_data]
  cases xs <;> rfl
/-- What SameSight tells. -/
def sightR (xs one ys two : List Int) : Bool := rootsR xs one && (strOfNums (picL xs one) == strOfNums (picL ys two))
set_option maxHeartbeats 8000000 in
set_option maxRecDepth 100000 in
theorem spec_SameSight_ok (w : World) (ao bo ro so : Option Addr) (ca cb cr cs : Nat) (xs one ys two : List Int) (hA : Ints w ao xs) (hB : Ints w bo ys) (hR : Ints w ro one) (hS : Ints w so two) (hl : xs.length ≤ 1048576) (hm : ys.length ≤ 1048576) (h1 : one.length ≤ 1048576) (h2 : two.length ≤ 1048576) :
    Calls Tryz.prog 20 #[.agg #[.slice ao xs.length ca], .slice ro one.length cr, .agg #[.slice bo ys.length cb], .slice so two.length cs] w fun e w' => e = .returned (.bool (sightR xs one ys two)) ∧ Kept w w' := by
  have b0 := (Cells.new w 26 #[.slice ao xs.length ca]).alloc (.cells #[.slice bo ys.length cb] 26)
  have b1 := Cells.new (w.alloc (.cells #[.slice ao xs.length ca] 26)) 26 #[.slice bo ys.length cb]
  have k0 : Kept w ((w.alloc (.cells #[.slice ao xs.length ca] 26)).alloc (.cells #[.slice bo ys.length cb] 26)) := (Kept.alloc (Below.refl _ _) _).alloc _
  simp only [World.size_alloc] at b1
  have c0 := b0.cell 0
  have hP := spec_Picture_ok _ ao ro ca cr xs one (hA.kept k0) hl (hR.kept k0) h1
  have HQ : Hid _ := fun (u : World) (hu : Kept w u) => spec_Picture_ok u bo so cb cs ys two (hB.kept hu) hm (hS.kept hu) h2
  cases hr : rootsR xs one with
  | false =>
    have HE : Hid (sightR xs one ys two = false) := by simp [Hid, sightR, hr]
    have e0 : picL xs one = [] := by simp [picL, hr]
    rw [e0] at hP
    have n1 : (strOfNums []).toList.isEmpty = true := str_empty []
    clear hr e0 hA hB hR hS
    go_enter Tryz.func20, Tryz.ntmps20
    clear HQ
    go_wp2_with fail
    refine hP.mono ?_
    rintro e w1 ⟨rfl, hk1⟩
    go_wp2_with fail
    go_ret
    exact ⟨by rw [HE.out]; rfl, k0.trans hk1⟩
  | true =>
    obtain ⟨P, hPe⟩ : ∃ P, strOfNums (picL xs one) = P := ⟨_, rfl⟩
    obtain ⟨Q, hQe⟩ : ∃ Q, strOfNums (picL ys two) = Q := ⟨_, rfl⟩
    have HE : Hid (sightR xs one ys two = (P == Q)) := by simp [Hid, sightR, hr, hPe, hQe]
    have n1 : P.toList.isEmpty = false := by rw [← hPe, str_empty, picL, if_pos hr]; rfl
    rw [hPe] at hP
    rw [hQe] at HQ
    obtain ⟨r, hrr⟩ : ∃ r, (P == Q) = r := ⟨_, rfl⟩
    have e2 : (P.toList == Q.toList) = r := by rw [← beq_toListBytes]; exact hrr
    rw [hrr] at HE
    clear hr hPe hQe hA hB hR hS
    go_enter Tryz.func20, Tryz.ntmps20
    go_wp2_with fail
    refine hP.mono ?_
    rintro e w1 ⟨rfl, hk1⟩
    have c1 := (b1.kept hk1).cell 0
    have hQ := HQ.out _ (k0.trans hk1)
    clear hP HQ c0
    go_wp2_with fail
    refine hQ.mono ?_
    rintro e w2 ⟨rfl, hk2⟩
    go_wp2_with fail
    go_ret
    exact ⟨by rw [HE.out]; rfl, (k0.trans hk1).trans hk2⟩
end Go.Proofs.YtaeeoehmocelhaaGreatDoor
namespace Go.Proofs.YtaeeoehmocelhaaGreatDoor
open Go.RowKit

/-- Each leads to a block, that is not free. -/
def Dom (zs : List Int) (l : List Int) : Prop := ∀ a ∈ l, 1 ≤ kindAt zs a
theorem slotV_slid {zs : List Int} (hok : slabOk zs = true) {a : Int} (h : 1 ≤ kindAt zs a) : slotV (slidL zs) (movP zs a) = (slotV zs a).map (movV zs) := by
  obtain ⟨x, hx, e, e2⟩ := movP_of h
  have hxm := (tk_mem hx).1
  unfold slotV
  rw [e2, slots_slid hok hx, ← e, slots_of hok hxm, List.map_map]
  unfold slL someL
  rw [List.map_map, List.map_map]
  refine List.map_congr_left (fun i hi => ?_)
  have hi' := List.mem_range.1 hi
  have hoff := slOff_pos x.1.kind
  simp only [Function.comp, Int.toNat_natCast]
  rw [show movT zs x.1.at' + slOff x.1.kind + i = movT zs x.1.at' + (slOff x.1.kind + i) by omega, word_of hx (by omega), movW_yes hok hxm (by omega) (by omega)]
  rw [show x.1.at' + (slOff x.1.kind + i) = x.1.at' + slOff x.1.kind + i by omega]
theorem map_mem {zs : List Int} {out : List Int} (hd : Dom zs out) {a : Int} (ha : 1 ≤ kindAt zs a) : movP zs a ∈ out.map (movP zs) ↔ a ∈ out := by
  constructor
  · intro h
    obtain ⟨b, hb, e⟩ := List.mem_map.1 h
    rw [movP_inj ha (hd b hb) e.symm]
    exact hb
  · intro h
    exact List.mem_map.2 ⟨a, h, rfl⟩
theorem addB_slid {zs : List Int} (hok : slabOk zs = true) {out : List Int} (hd : Dom zs out) {v : Int} (hv : ¬ v % 8 < 4 → 1 ≤ kindAt zs (v / 8)) : addB (out.map (movP zs)) (blkV (movV zs v)) = (addB out (blkV v)).map (movP zs) ∧ Dom zs (addB out (blkV v)) := by
  by_cases h : v % 8 < 4
  · have e1 : blkV v = -1 := by simp [blkV, h]
    have e2 : blkV (movV zs v) = -1 := by unfold blkV; rw [movV_mod, if_pos h]
    rw [e1, e2]
    unfold addB
    rw [if_neg (by omega), if_neg (by omega)]
    exact ⟨rfl, hd⟩
  · have e1 : blkV v = v / 8 := by simp [blkV, h]
    have e2 : blkV (movV zs v) = movP zs (v / 8) := by unfold blkV; rw [movV_mod, if_neg h, movV_div h]
    have hk := hv h
    have hb := movP_bd hok hk
    have h0 : 0 ≤ v / 8 := by
      obtain ⟨x, _, e, _⟩ := movP_of hk
      omega
    rw [e1, e2]
    unfold addB
    by_cases hm : v / 8 ∈ out
    · rw [if_neg (fun c => c.2 ((map_mem hd hk).2 hm)), if_neg (fun c => c.2 hm)]
      exact ⟨rfl, hd⟩
    · rw [if_pos ⟨hb.1, fun c => hm ((map_mem hd hk).1 c)⟩, if_pos ⟨h0, hm⟩]
      refine ⟨by simp, fun a ha => ?_⟩
      rcases List.mem_append.1 ha with h1 | h1
      · exact hd a h1
      · rw [List.mem_singleton.1 h1]; exact hk
theorem meetL_slid {zs : List Int} (hok : slabOk zs = true) : ∀ (vs out : List Int), Dom zs out → (∀ v ∈ vs, ¬ v % 8 < 4 → 1 ≤ kindAt zs (v / 8)) → meetL (out.map (movP zs)) (vs.map (movV zs)) = (meetL out vs).map (movP zs) ∧ Dom zs (meetL out vs)
  | [], out, hd, _ => ⟨rfl, hd⟩
  | v :: vs, out, hd, hv => by
    obtain ⟨h1, h2⟩ := addB_slid hok hd (hv v (by simp))
    have ih := meetL_slid hok vs (addB out (blkV v)) h2 (fun u hu => hv u (by simp [hu]))
    unfold meetL at ih ⊢
    rw [List.map_cons, List.foldl_cons, List.foldl_cons, h1]
    exact ih
theorem ordF_slid {zs : List Int} (hh : heapR zs = true) : ∀ (n k : Nat) (out : List Int), Dom zs out → ordF (slidL zs) n k (out.map (movP zs)) = (ordF zs n k out).map (movP zs) ∧ Dom zs (ordF zs n k out)
  | 0, _, out, hd => ⟨rfl, hd⟩
  | n + 1, k, out, hd => by
    have hok := heapR_slab hh
    cases hc : out[k]? with
    | none =>
      have hge : out.length ≤ k := by
        rcases Nat.lt_or_ge k out.length with h | h
        · rw [List.getElem?_eq_getElem h] at hc; cases hc
        · exact h
      rw [ordF_end hge, ordF_end (by simpa using hge)]
      exact ⟨rfl, hd⟩
    | some a =>
      have hka := hd a (List.mem_of_getElem? hc)
      have hc' : (out.map (movP zs))[k]? = some (movP zs a) := by rw [List.getElem?_map, hc]; rfl
      rw [ordF_on hc, ordF_on hc', slotV_slid hok hka]
      have hLd := leadsP_slots hh hka
      obtain ⟨h1, h2⟩ := meetL_slid hok (slotV zs a) out hd (fun v hv h4 => hLd v hv h4)
      rw [h1]
      exact ordF_slid hh n (k + 1) _ h2
theorem ordL_slid {zs rs : List Int} (h : rootsR zs rs = true) : ordL (slidL zs) (rs.map (movV zs)) = (ordL zs rs).map (movP zs) ∧ Dom zs (ordL zs rs) := by
  have hh : heapR zs = true := by
    unfold rootsR at h
    simp only [Bool.and_eq_true] at h
    exact h.1
  have hL := leadsP_roots h
  obtain ⟨h1, h2⟩ := meetL_slid (heapR_slab hh) rs [] (fun a ha => by simp at ha) (fun v hv h4 => hL v hv h4)
  unfold ordL
  rw [slidL_len]
  rw [List.map_nil] at h1
  rw [h1]
  exact ordF_slid hh _ 0 _ h2
theorem findIdx_map {zs order : List Int} (hd : Dom zs order) {a : Int} (ha : 1 ≤ kindAt zs a) : (order.map (movP zs)).findIdx? (fun y => decide (y = movP zs a)) = order.findIdx? (fun y => decide (y = a)) := by
  induction order with
  | nil => rfl
  | cons b r ih =>
    have hb := hd b (by simp)
    have ih' := ih (fun x hx => hd x (by simp [hx]))
    rw [List.map_cons, List.findIdx?_cons, List.findIdx?_cons, ih']
    have e : decide (movP zs b = movP zs a) = decide (b = a) := by
      rw [Bool.eq_iff_iff]
      simp only [decide_eq_true_eq]
      exact ⟨fun h => movP_inj hb ha h, fun h => by rw [h]⟩
    rw [e]
theorem valL_slid {zs order : List Int} (hd : Dom zs order) {v : Int} (hv : ¬ v % 8 < 4 → 1 ≤ kindAt zs (v / 8)) : valL (movV zs v) (order.map (movP zs)) = valL v order := by
  by_cases h : v % 8 < 4
  · rw [movV_low h]
    unfold valL
    repeat' split
    all_goals first | rfl | omega
  · unfold valL
    rw [movV_mod, if_neg (by omega), if_neg (by omega), if_neg (by omega), if_neg (by omega), if_neg (by omega), if_neg (by omega), if_neg (by omega), if_neg (by omega), movV_div h]
    unfold numL
    rw [findIdx_map hd (hv h)]
theorem valsL_slid {zs order : List Int} (hd : Dom zs order) : ∀ (vs : List Int), (∀ v ∈ vs, ¬ v % 8 < 4 → 1 ≤ kindAt zs (v / 8)) → valsL (vs.map (movV zs)) (order.map (movP zs)) = valsL vs order := by
  intro vs hv
  unfold valsL
  rw [List.flatMap_map]
  induction vs with
  | nil => rfl
  | cons v r ih =>
    rw [List.flatMap_cons, List.flatMap_cons, ih (fun u hu => hv u (by simp [hu])), valL_slid hd (hv v (by simp))]
theorem hz_map {zs vs : List Int} {i : Nat} (h : i < vs.length) : hz (vs.map (movV zs)) i = movV zs (hz vs i) := by
  unfold hz
  rw [List.getElem?_map, List.getElem?_eq_getElem h]
  rfl
theorem movV_zero {zs : List Int} {v : Int} : movV zs v = 0 ↔ v = 0 := by
  by_cases h : v % 8 < 4
  · rw [movV_low h]
  · have := movV_mod (zs := zs) v
    constructor
    · intro e; rw [e] at this; omega
    · intro e; rw [e] at h; omega
theorem cutN_slid {zs vs : List Int} : ∀ n, n ≤ vs.length → cutN (vs.map (movV zs)) n = cutN vs n
  | 0, _ => rfl
  | n + 1, h => by
    unfold cutN
    rw [hz_map (by omega), cutN_slid n (by omega)]
    by_cases e : hz vs n = 0
    · rw [if_pos e, if_pos (movV_zero.2 e)]
    · rw [if_neg e, if_neg (fun c => e (movV_zero.1 c))]
theorem byteL_slid {zs zs' : List Int} {a a' : Nat} : ∀ n, (∀ i, i < n → hz zs' (a' + 2 + i) = hz zs (a + 2 + i)) → byteL zs' a' n = byteL zs a n
  | 0, _ => rfl
  | n + 1, h => by
    unfold byteL
    rw [byteL_slid n (fun i hi => h i (by omega)), h n (by omega)]
theorem lineL_slid {zs order : List Int} (hh : heapR zs = true) (hd : Dom zs order) {a : Int} (ha : 1 ≤ kindAt zs a) : lineL (slidL zs) (movP zs a).toNat (order.map (movP zs)) = lineL zs a.toNat order := by
  have hok := heapR_slab hh
  have hLd := leadsP_slots hh ha
  have hsv := slotV_slid hok ha
  obtain ⟨x, hx, e, e2⟩ := movP_of ha
  obtain ⟨hxm, hxk⟩ := tk_mem hx
  have hx2 := x.2
  obtain ⟨y, hy, ey⟩ := img_of hok hx
  have hblk := heapR_blk hh hxm
  obtain ⟨_, hxs, hxq⟩ := blks_mem zs 0 x hxm
  obtain ⟨_, hys, hyq⟩ := blks_mem (slidL zs) 0 y hy
  rw [ey] at hyq
  have ht : a.toNat = x.1.at' := by omega
  have ht' : (movP zs a).toNat = movT zs x.1.at' := by rw [e2]; simp
  have hq : kd (slidL zs) (movT zs x.1.at') = x.1.kind := hyq.symm
  have e3 : ((movT zs x.1.at' : Nat) : Int) = movP zs a := e2.symm
  have hv : valsL (toldL (slidL zs) (movT zs x.1.at')) (order.map (movP zs)) = valsL (toldL zs x.1.at') order := by
    have hmem : ∀ v ∈ toldL zs x.1.at', ¬ v % 8 < 4 → 1 ≤ kindAt zs (v / 8) := fun v hv h4 => by
      refine hLd v ?_ h4
      rw [← e]
      unfold toldL at hv
      split at hv
      · exact List.mem_of_mem_take hv
      · exact hv
    have et : toldL (slidL zs) (movT zs x.1.at') = (toldL zs x.1.at').map (movV zs) := by
      unfold toldL
      rw [hq, ← hxq, e3, hsv, e]
      split
      · rw [List.length_map, cutN_slid _ (Nat.le_refl _), List.map_take]
      · rfl
    rw [et]
    exact valsL_slid hd _ hmem
  unfold lineL
  rw [ht, ht', hv]
  have hhd : headL (slidL zs) (movT zs x.1.at') = headL zs x.1.at' := by
    unfold headL
    rw [hq, ← hxq]
    split
    · rename_i h1
      have w1 : hz (slidL zs) (movT zs x.1.at' + 1) = hz zs (x.1.at' + 1) := by rw [word_of hx (by omega), movW_no hok hxm (by omega) (by rw [h1]; simp [slMany])]
      rw [h1, blk_text] at hblk
      unfold textR at hblk
      simp only [Bool.and_eq_true, decide_eq_true_eq] at hblk
      rw [w1, byteL_slid (zs := zs) (a := x.1.at') _ (fun i hi => ?_)]
      rw [show movT zs x.1.at' + 2 + i = movT zs x.1.at' + (2 + i) by omega, word_of hx (by omega), movW_no hok hxm (by omega) (by rw [h1]; simp [slMany]), ← Nat.add_assoc]
    · rfl
    · rfl
    · rename_i h1
      have w1 : hz (slidL zs) (movT zs x.1.at' + 1) = hz zs (x.1.at' + 1) := by rw [word_of hx (by omega), movW_no hok hxm (by omega) (by rw [h1]; simp [slOff])]
      rw [w1]
    · rfl
    · rfl
  rw [hhd]
theorem picL_slid {zs rs : List Int} (h : rootsR zs rs = true) : picL (slidL zs) (rs.map (movV zs)) = picL zs rs := by
  have hh : heapR zs = true := by
    have h' := h
    unfold rootsR at h'
    simp only [Bool.and_eq_true] at h'
    exact h'.1
  obtain ⟨h1, h2⟩ := ordL_slid h
  have hL := leadsP_roots h
  unfold picL
  rw [if_pos h, if_pos (roots_slid h), h1, valsL_slid h2 rs (fun v hv h4 => hL v hv h4)]
  have hl : ∀ (os : List Int), Dom zs os → linesL (slidL zs) ((ordL zs rs).map (movP zs)) (os.map (movP zs)) = linesL zs (ordL zs rs) os := by
    intro os hos
    induction os with
    | nil => rfl
    | cons a r ih =>
      have ih' := ih (fun b hb => hos b (by simp [hb]))
      unfold linesL at ih' ⊢
      rw [List.map_cons, List.flatMap_cons, List.flatMap_cons, ih', lineL_slid hh h2 (hos a (by simp))]
  rw [hl _ h2]
theorem bytes_refl (a : ByteArray) : (a == a) = true := by
  obtain ⟨x⟩ := a
  show (x == x) = true
  simp
/-- What is seen of roots is the same of what was slid. -/
theorem sight_slid {zs rs : List Int} (h : rootsR zs rs = true) : sightR zs rs (slidL zs) (rs.map (movV zs)) = true := by
  unfold sightR
  rw [h, picL_slid h, Bool.true_and]
  exact bytes_refl _
end Go.Proofs.YtaeeoehmocelhaaGreatDoor
namespace Go.Proofs.YtaeeoehmocelhaaGreatDoor
open Go.RowKit

/-- Sums of sizes, one behind the other. -/
def psB : Nat → List Nat → List Int
  | _, [] => []
  | t, s :: r => ((t : Nat) : Int) :: psB (t + s) r
theorem mov_ps {zs : List Int} : ∀ (r pre : List (BkOf zs.length)), tkL (blocks zs) = pre ++ r → r.map (fun b => ((movT zs b.1.at' : Nat) : Int)) = psB (szsB pre) (r.map (fun b => b.1.size))
  | [], _, _ => rfl
  | x :: r, pre, e => by
    have hm := (movT_tk (zs := zs) (pre := pre) (x := x) ⟨r, by rw [e]; simp⟩).1
    have ih := mov_ps r (pre ++ [x]) (by rw [e]; simp)
    rw [szsB_snoc] at ih
    rw [List.map_cons, List.map_cons, psB, hm, ih]
theorem sizes_tk {L : Nat} (l : List (BkOf L)) : (tkL l).map (fun b => b.1.size) = ((raw l).filter (fun b => !decide (b.kind = 0))).map (fun b => b.size) := by
  induction l with
  | nil => rfl
  | cons b r ih =>
    by_cases h : b.1.kind = 0
    · have e1 : tkL (b :: r) = tkL r := by simp [tkL, h]
      rw [e1, ih]
      simp [raw, h]
    · have e1 : tkL (b :: r) = b :: tkL r := by simp [tkL, h]
      rw [e1, List.map_cons, ih]
      simp [raw, h]
theorem img_kinds {zs : List Int} : ((tkL (blocks zs)).map (imgB zs) ++ restB zs).filter (fun b => !decide (b.kind = 0)) = (tkL (blocks zs)).map (imgB zs) := by
  rw [List.filter_append]
  have h1 : ((tkL (blocks zs)).map (imgB zs)).filter (fun b => !decide (b.kind = 0)) = (tkL (blocks zs)).map (imgB zs) := by
    rw [List.filter_eq_self]
    intro b hb
    obtain ⟨x, hx, rfl⟩ := List.mem_map.1 hb
    have := (tk_mem hx).2
    simp [imgB, this]
  have h2 : (restB zs).filter (fun b => !decide (b.kind = 0)) = [] := by
    unfold restB
    split <;> simp
  rw [h1, h2, List.append_nil]
theorem fwd_slid {zs : List Int} (hh : heapR zs = true) : fwdL (slidL zs) = fwdL zs := by
  have hok := heapR_slab hh
  obtain ⟨h1, h2⟩ := slid_right hok
  unfold fwdL
  rw [if_pos hh, if_pos (heap_slid hh), mov_ps (tkL (blocks zs)) [] rfl, mov_ps (tkL (blocks (slidL zs))) [] rfl, sizes_tk (blocks (slidL zs)), h2, img_kinds]
  have e0 : szsB ([] : List (BkOf zs.length)) = 0 := rfl
  have e1 : szsB ([] : List (BkOf (slidL zs).length)) = 0 := rfl
  rw [e0, e1, List.map_map]
  rfl
/-- The places at which blocks lie that are not free, up to a number of them. -/
def keptL (ys : List Int) (k : Nat) : List Int := ((places ys).take k).filter (fun a => !decide (kindAt ys a = 0))
theorem places_raw {ys : List Int} (hok : slabOk ys = true) : places ys = (raw (blocks ys)).map (fun b => ((b.at' : Nat) : Int)) := by
  unfold places
  rw [if_pos hok, raw, List.map_map]
  rfl
theorem kept_slid {zs : List Int} (hh : heapR zs = true) : keptL (slidL zs) (places (slidL zs)).length = fwdL zs := by
  have hok := heapR_slab hh
  obtain ⟨h1, h2⟩ := slid_right hok
  unfold keptL
  rw [List.take_length, places_raw h1, List.filter_map]
  have hf : (raw (blocks (slidL zs))).filter ((fun a => !decide (kindAt (slidL zs) a = 0)) ∘ fun b => ((b.at' : Nat) : Int)) = (raw (blocks (slidL zs))).filter (fun b => !decide (b.kind = 0)) := by
    refine List.filter_congr (fun b hb => ?_)
    obtain ⟨y, hy, rfl⟩ := List.mem_map.1 hb
    simp only [Function.comp]
    rw [kind_of h1 hy]
    simp
  rw [hf, h2, img_kinds, List.map_map]
  unfold fwdL
  rw [if_pos hh]
  rfl
theorem keptL_next {ys : List Int} {k : Nat} (h : k < (places ys).length) : keptL ys (k + 1) = keptL ys k ++ (if kindAt ys (hz (places ys) k) = 0 then [] else [hz (places ys) k]) := by
  unfold keptL
  rw [List.take_succ_eq_append_getElem h, List.filter_append]
  have e : hz (places ys) k = (places ys)[k] := by unfold hz; rw [List.getElem?_eq_getElem h]; rfl
  rw [e]
  by_cases h0 : kindAt ys (places ys)[k] = 0
  · simp [h0]
  · simp [h0]
theorem keptL_len (ys : List Int) (k : Nat) : (keptL ys k).length ≤ k := by
  unfold keptL
  have h1 := List.length_filter_le (fun a => !decide (kindAt ys a = 0)) ((places ys).take k)
  have h2 := List.length_take_le k (places ys)
  omega
end Go.Proofs.YtaeeoehmocelhaaGreatDoor
