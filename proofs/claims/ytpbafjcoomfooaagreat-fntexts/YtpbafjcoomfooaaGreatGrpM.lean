/-
  What is taken of a right heap and filled leaves a right heap (facts on lists).
  A text that is put into a right heap leaves a right heap, is found there and is its bytes (facts on lists).
  The contracts of Slots, the program's and its model's: the places of the words of a block that are values.
  What a right heap holds (facts on lists): each block is right, each of its values leads to a block, or nowhere.
  What TextPut leaves of a right heap (facts on lists): a right heap, in which the text is found and is its bytes.
  TextPut of the program and of its model together, and what follows of what was put: it is found, is its bytes, and put again it stays.
-/
import Derived.Test.YtpbafjcoomfooaaGreatGrpE
import Derived.Test.YtpbafjcoomfooaaGreatSlabX
import Derived.Test.YtpbafjcoomfooaaGreatGrpG
import Derived.Test.YtpbafjcoomfooaaGreatShapeA
import Derived.Test.YtpbafjcoomfooaaGreatSlabR
import Derived.Test.YtpbafjcoomfooaaGreatShapeG
import Derived.Test.YtpbafjcoomfooaaGreatSlabAt
import Derived.Test.YtpbafjcoomfooaaGreatGrpL
import Derived.Test.YtpbafjcoomfooaaGreatGrpD
namespace Go.Proofs.YtpbafjcoomfooaaGreat
open Go.RowKit

theorem goal_pos1 (r k : Int) : 1 ≤ goalR r k := by
  unfold goalR
  repeat' split
  all_goals omega
/-- Blocks that are not free stay, of their kind. -/
def Stays (zs zs' : List Int) : Prop := ∀ a : Int, 1 ≤ kindAt zs a → kindAt zs' a = kindAt zs a
theorem valR_mono {zs zs' : List Int} (h : Stays zs zs') {r v : Int} (hv : valR zs r v = true) : valR zs' r v = true := by
  unfold valR at hv ⊢
  simp only [Bool.and_eq_true, Bool.or_eq_true, Bool.not_eq_true', decide_eq_true_eq, decide_eq_false_iff_not] at hv ⊢
  refine ⟨hv.1, ?_⟩
  rcases hv.2 with h4 | h4
  · exact .inl h4
  · right
    rw [h _ (by rw [h4]; exact goal_pos1 _ _), h4]
theorem wordR_mono {zs zs' : List Int} (h : Stays zs zs') {r v : Int} (hv : wordR zs r v = true) : wordR zs' r v = true := by
  unfold wordR at hv ⊢
  repeat' split
  all_goals (repeat' split at hv)
  all_goals first | exact hv | exact valR_mono h hv | (exfalso; omega) | contradiction
theorem blkR_mono {zs zs' : List Int} (h : Stays zs zs') {a s q : Nat} (hw : ∀ j, a < j → j < a + s → hz zs' j = hz zs j) (hs : 2 ≤ s) (hb : blkR zs a s q = true) : blkR zs' a s q = true := by
  unfold blkR at hb ⊢
  rw [Bool.and_eq_true, wordsR_iff] at hb ⊢
  rw [hw (a + 1) (by omega) (by omega)]
  exact ⟨hb.1, fun i h1 h2 => by rw [hw (a + i) (by omega) (by omega)]; exact wordR_mono h (hb.2 i h1 h2)⟩
theorem heapR_iff {zs : List Int} : heapR zs = true ↔ slabOk zs = true ∧ ∀ x ∈ raw (blocks zs), blkR zs x.at' x.size x.kind = true := by
  unfold heapR allB
  rw [Bool.and_eq_true, List.all_eq_true]
  refine and_congr_right fun _ => ⟨fun h x hx => ?_, fun h b hb => h b.1 (List.mem_map.2 ⟨b, hb, rfl⟩)⟩
  obtain ⟨b, hb, rfl⟩ := List.mem_map.1 hx
  exact h b hb
theorem kind_raw {zs : List Int} {a : Int} (h : 1 ≤ kindAt zs a) : ∃ x ∈ raw (blocks zs), ((x.at' : Nat) : Int) = a ∧ ((x.kind : Nat) : Int) = kindAt zs a := by
  unfold kindAt at h ⊢
  cases hb : atB zs a with
  | none => rw [hb] at h; simp at h
  | some b =>
    obtain ⟨_, e, _, _, _, hm⟩ := atB_some hb
    exact ⟨b.1, List.mem_map.2 ⟨b, hm, rfl⟩, e, rfl⟩
/-- A free block of a right heap turns into a block that is right, and maybe a free one behind it. -/
theorem take_heap {zs zs' : List Int} {b : Bk} {s' kind : Nat} (hh : heapR zs = true) (hb : b ∈ raw (blocks zs)) (hfree : b.kind = 0) (hl : zs'.length = zs.length) (h2 : 2 ≤ s') (hs : s' = b.size ∨ s' + 2 ≤ b.size) (h5 : kind ≤ 5)
    (e1 : hz zs' b.at' = 8 * (s' : Int) + (kind : Int)) (e2 : s' + 2 ≤ b.size → hz zs' (b.at' + s') = 8 * ((b.size : Int) - (s' : Int))) (e3 : ∀ j, j < b.at' ∨ b.at' + b.size ≤ j → hz zs' j = hz zs j) (hnew : Stays zs zs' → blkR zs' b.at' s' kind = true) :
    heapR zs' = true ∧ Stays zs zs' ∧ ⟨b.at', s', kind⟩ ∈ raw (blocks zs') ∧ (∀ x ∈ raw (blocks zs'), x.at' = b.at' ∨ x.kind = 0 ∨ (x ∈ raw (blocks zs) ∧ (x.at' + x.size ≤ b.at' ∨ b.at' + b.size ≤ x.at'))) := by
  obtain ⟨hok, hall0⟩ := heapR_iff.1 hh
  have hw := Seg.whole hok
  have hlen := (slabOk_iff.1 hok).1
  obtain ⟨p, r, e⟩ := List.append_of_mem hb
  rw [e] at hw
  obtain ⟨m, h1, hm⟩ := hw.split
  obtain ⟨eb, hg, hr⟩ := hm.head
  have ea : m = b.at' := by rw [eb]
  have es : sz zs m = b.size := by rw [eb]
  rw [es, ea] at hr
  rw [ea] at h1
  have hle := hg.le
  rw [es, ea] at hle
  have h1' : Seg zs' 0 p b.at' := h1.same hl (fun j _ hj => e3 j (.inl hj))
  have hr' : Seg zs' (b.at' + b.size) r zs'.length := by rw [hl]; exact hr.same hl (fun j hj _ => e3 j (.inr hj))
  have main : ∀ mid : List Bk, Seg zs' b.at' (⟨b.at', s', kind⟩ :: mid) (b.at' + b.size) → (∀ x ∈ mid, x.kind = 0) → heapR zs' = true ∧ Stays zs zs' ∧ ⟨b.at', s', kind⟩ ∈ raw (blocks zs') ∧ (∀ x ∈ raw (blocks zs'), x.at' = b.at' ∨ x.kind = 0 ∨ (x ∈ raw (blocks zs) ∧ (x.at' + x.size ≤ b.at' ∨ b.at' + b.size ≤ x.at'))) := by
    intro mid hmid hmf
    have hall := h1'.app (hmid.app hr')
    obtain ⟨ok', eb'⟩ := hall.slab (by omega)
    have hst : Stays zs zs' := by
      intro a ha
      obtain ⟨x, hx, hxa, hxk⟩ := kind_raw ha
      have hx' : x ∈ raw (blocks zs') := by
        rw [eb']
        rw [e] at hx
        rcases List.mem_append.1 hx with hx | hx
        · simp [hx]
        · rcases List.mem_cons.1 hx with rfl | hx
          · rw [hfree] at hxk; omega
          · simp [hx]
      have := (Seg.foundM ok' hx').1
      rw [← hxa, this, hxk, hxa]
    refine ⟨heapR_iff.2 ⟨ok', fun x hx => ?_⟩, hst, by rw [eb']; simp, fun x hx => ?_⟩
    rotate_left
    · rw [eb'] at hx
      rcases List.mem_append.1 hx with hx | hx
      · have hbd := h1.bd x hx
        exact .inr (.inr ⟨by rw [e]; simp [hx], .inl (by omega)⟩)
      · rcases List.mem_append.1 hx with hx | hx
        · rcases List.mem_cons.1 hx with rfl | hx
          · exact .inl rfl
          · exact .inr (.inl (hmf x hx))
        · have hbd := hr.bd x hx
          exact .inr (.inr ⟨by rw [e]; simp [hx], .inr (by omega)⟩)
    rw [eb'] at hx
    rcases List.mem_append.1 hx with hx | hx
    · have hbd := h1.bd x hx
      exact blkR_mono hst (fun j hj1 hj2 => e3 j (.inl (by omega))) hbd.2.2.1 (hall0 x (by rw [e]; simp [hx]))
    · rcases List.mem_append.1 hx with hx | hx
      · rcases List.mem_cons.1 hx with rfl | hx
        · exact hnew hst
        · rw [hmf x hx]; exact blk_free _ _ _
      · have hbd := hr.bd x hx
        exact blkR_mono hst (fun j hj1 hj2 => e3 j (.inr (by omega))) hbd.2.2.1 (hall0 x (by rw [e]; simp [hx]))
  rcases hs with rfl | hs
  · exact main [] (Seg.one (by omega) h2 h5 e1) (by simp)
  · have hm' : Seg zs' b.at' [⟨b.at', s', kind⟩] (b.at' + s') := Seg.one (by omega) h2 h5 e1
    have hm2 : Seg zs' (b.at' + s') [⟨b.at' + s', b.size - s', 0⟩] (b.at' + s' + (b.size - s')) := Seg.one (by omega) (by omega) (by omega) (by rw [e2 hs]; omega)
    rw [show b.at' + s' + (b.size - s') = b.at' + b.size by omega] at hm2
    exact main [⟨b.at' + s', b.size - s', 0⟩] (hm'.app hm2) (by simp)
end Go.Proofs.YtpbafjcoomfooaaGreat
namespace Go.Proofs.YtpbafjcoomfooaaGreat
open Go.RowKit

theorem hz_fillL {ys : List Int} {a : Nat} {t : ByteArray} : ∀ (j : Nat), a + 2 + j ≤ ys.length → ∀ k, hz (fillL ys a t j) k = if k = a + 1 then (t.size : Int) else if a + 2 ≤ k ∧ k < a + 2 + j then byteN t (k - (a + 2)) else hz ys k
  | 0, h, k => by
    rw [show fillL ys a t 0 = ys.set (a + 1) (t.size : Int) by simp [fillL], hz_set (by omega)]
    split
    · rfl
    · rw [if_neg (by omega)]
  | j + 1, h, k => by
    rw [fillL_succ, hz_set (by rw [fillL_len]; omega), hz_fillL j (by omega) k]
    by_cases h1 : k = a + 2 + j
    · subst h1
      rw [if_pos rfl, if_neg (by omega), if_pos (by omega), show a + 2 + j - (a + 2) = j by omega]
    · rw [if_neg h1]
      by_cases h2 : k = a + 1
      · rw [if_pos h2, if_pos h2]
      · rw [if_neg h2, if_neg h2]
        by_cases h3 : a + 2 ≤ k ∧ k < a + 2 + j
        · rw [if_pos h3, if_pos (by omega)]
        · rw [if_neg h3, if_neg (by omega)]
theorem str_bytes (t : ByteArray) : strOfNums ((List.range t.size).map (byteN t)) = t := by
  apply WideShapes.bytes_inj
  rw [strOfNums_data]
  apply List.ext_getElem
  · rw [List.length_map, List.length_map, List.length_range, Array.length_toList]
    rfl
  · intro i h1 h2
    have h3 : i < t.data.size := by simpa using h2
    have h4 : i < t.size := h3
    simp [byteN, Array.getD, h4]
theorem textL_same {zs rs : List Int} {a s : Nat} (h : ∀ j, a < j → j < a + s → hz rs j = hz zs j) (n : Nat) (hn : hz zs (a + 1) = (n : Int)) (hs : n + 2 ≤ s) : textL rs a = textL zs a := by
  unfold textL
  rw [h (a + 1) (by omega) (by omega), hn]
  unfold bytesL
  apply List.map_congr_left
  intro i hi
  have := List.mem_range.1 hi
  simp at this
  exact h (a + 2 + i) (by omega) (by omega)
theorem text_new {ys : List Int} {a s : Nat} {t : ByteArray} (hle : a + s ≤ ys.length) (h2 : t.size + 2 ≤ s) (h3 : s ≤ t.size + 3) (h0 : s = t.size + 3 → hz ys (a + t.size + 2) = 0) : blkR (fillL ys a t t.size) a s 1 = true ∧ strOfNums (textL (fillL ys a t t.size) a) = t := by
  have hz' := hz_fillL (ys := ys) (a := a) (t := t) t.size (by omega)
  have hc : hz (fillL ys a t t.size) (a + 1) = (t.size : Int) := by rw [hz', if_pos rfl]
  have hb : ∀ i, i < t.size → hz (fillL ys a t t.size) (a + 2 + i) = byteN t i := fun i hi => by
    rw [hz', if_neg (by omega), if_pos (by omega), show a + 2 + i - (a + 2) = i by omega]
  refine ⟨?_, ?_⟩
  · rw [blk_text]
    unfold textR
    rw [hc]
    simp only [Bool.and_eq_true, decide_eq_true_eq, bytesR_iff, zeroR_iff, Int.toNat_natCast]
    refine ⟨⟨by omega, fun i hi => ?_⟩, fun i hi => ?_⟩
    · obtain rfl : i = 0 := by omega
      rw [hz', if_neg (by omega), if_neg (by omega)]
      rw [show a + 2 + t.size + 0 = a + t.size + 2 by omega]
      exact h0 (by omega)
    · rw [hb i hi]
      have := byteN_in t i
      omega
  · unfold textL
    rw [hc, Int.toNat_natCast]
    unfold bytesL
    rw [List.map_congr_left (g := byteN t) (fun i hi => hb i (List.mem_range.1 hi)), str_bytes]
end Go.Proofs.YtpbafjcoomfooaaGreat
namespace Go.Proofs.YtpbafjcoomfooaaGreat
open Go.RowKit
attribute [local go_sem] Plain.and7 mFree mText mObj mCell mFun mScope

theorem _root_.Go.World.ownsRow.kept4 {W W' : World} {base : Nat} {e : TypeId} {size : Nat} {v : Value} {n : Nat} {xs : List Value} (h : W.ownsRow base e size v n xs) (hk : Kept W W') : W'.ownsRow base e size v n xs := by
  obtain ⟨h1, h2⟩ := h
  refine ⟨h1, ?_⟩
  rcases h2 with h2 | ⟨g, cap, cur, e1, hb, hc, h3⟩
  · exact .inl h2
  · exact .inr ⟨g, cap, cur, e1, hb, (hk.block g (Array.getElem?_eq_some_iff.1 hc).1).trans hc, h3⟩
/-- So many places from one on. -/
def someL (a n : Nat) : List Int := (List.range n).map (fun i => ((a + i : Nat) : Int))
theorem someL_len (a n : Nat) : (someL a n).length = n := by simp [someL]
theorem someL_snoc (a n : Nat) : someL a (n + 1) = someL a n ++ [((a + n : Nat) : Int)] := by simp [someL, List.range_succ]
theorem someL_bd {a n : Nat} (h : a + n ≤ 9223372036854775807) : ∀ z ∈ someL a n, -9223372036854775808 ≤ z ∧ z ≤ 9223372036854775807 := by
  intro z hz
  obtain ⟨i, hi, rfl⟩ := List.mem_map.1 hz
  have := List.mem_range.1 hi
  omega
/-- Where the values of a block begin, and how many there are at most. -/
def slOff (kind : Nat) : Nat := if kind = 4 then 2 else 1
def slMany (kind : Nat) : Nat := match kind with | 2 => 2 | 3 => 3 | 4 => 1 | 5 => 4194304 | _ => 0
/-- The values among the words of a block up to word k. -/
def slL (a kind k : Nat) : List Int := someL (a + slOff kind) (min (slMany kind) (k - slOff kind))
theorem slL_yes {a kind k : Nat} (h1 : slOff kind ≤ k) (h2 : k < slOff kind + slMany kind) : slL a kind (k + 1) = slL a kind k ++ [((a : Int) + (k : Int))] := by
  unfold slL
  rw [show min (slMany kind) (k + 1 - slOff kind) = min (slMany kind) (k - slOff kind) + 1 by omega, someL_snoc, show a + slOff kind + min (slMany kind) (k - slOff kind) = a + k by omega]
  simp
theorem slL_no {a kind k : Nat} (h : ¬ (slOff kind ≤ k ∧ k < slOff kind + slMany kind)) : slL a kind (k + 1) = slL a kind k := by
  unfold slL
  rw [show min (slMany kind) (k + 1 - slOff kind) = min (slMany kind) (k - slOff kind) by omega]
theorem slL_one (a kind : Nat) : slL a kind 1 = [] := by
  unfold slL slOff
  split <;> simp [someL]
theorem slL_len (a kind k : Nat) : (slL a kind k).length ≤ k := by rw [slL, someL_len]; omega
theorem slL_bd {a kind k : Nat} (h : a + k ≤ 2097152) : ∀ z ∈ slL a kind k, -9223372036854775808 ≤ z ∧ z ≤ 9223372036854775807 :=
  someL_bd (by have : slOff kind ≤ 2 := by unfold slOff; split <;> omega
               omega)
theorem role_value {kind : Nat} (hq : kind ≤ 5) (n : Int) {k : Nat} (h1 : 1 ≤ k) (h2 : k ≤ 1048576) : (decide (5 ≤ roleOf kind n (k : Int))) = decide (slOff kind ≤ k ∧ k < slOff kind + slMany kind) := by
  rcases (show kind = 0 ∨ kind = 1 ∨ kind = 2 ∨ kind = 3 ∨ kind = 4 ∨ kind = 5 by omega) with rfl | rfl | rfl | rfl | rfl | rfl
  all_goals (
    simp only [roleOf, slOff, slMany]
    rw [Bool.eq_iff_iff]
    simp only [decide_eq_true_eq]
    repeat' split
    all_goals first | omega | (simp; omega) | simp_all)
/-- What Slots tells. -/
def slotsL (zs : List Int) (a : Int) : List Int := match atB zs a with | some b => slL b.1.at' b.1.kind b.1.size | none => []

end Go.Proofs.YtpbafjcoomfooaaGreat
namespace Go.Proofs.YtpbafjcoomfooaaGreat
open Go.RowKit

theorem someL_at {a n k : Nat} (h : k < n) : hz (someL a n) k = ((a + k : Nat) : Int) := by simp [hz, someL, h]
theorem goal_pos (r k : Int) : 1 ≤ goalR r k := by
  unfold goalR
  repeat' split
  all_goals omega
theorem slots_facts {zs : List Int} (hh : heapR zs = true) {b : BkOf zs.length} (hb : b ∈ blocks zs) :
    shapeR zs ((b.1.at' : Nat) : Int) = true ∧ (slotsL zs ((b.1.at' : Nat) : Int)).length ≤ zs.length ∧ ∀ k, k < (slotsL zs ((b.1.at' : Nat) : Int)).length → ∃ p : Nat, hz (slotsL zs ((b.1.at' : Nat) : Int)) k = p ∧ p < zs.length ∧ vOk (hz zs p) = true ∧ (4 ≤ hz zs p % 8 → 1 ≤ kindAt zs (hz zs p / 8)) := by
  have hok := heapR_slab hh
  have ha := atB_mem hok hb
  have hr := heapR_blk hh hb
  have hlen := (slabOk_iff.1 hok).1
  have hble := b.2.2.1
  have hk5 := b.2.2.2
  unfold shapeR slotsL
  rw [ha]
  simp only
  refine ⟨hr, by have := slL_len b.1.at' b.1.kind b.1.size; omega, fun k hk => ?_⟩
  have hoff : 1 ≤ slOff b.1.kind := by unfold slOff; split <;> omega
  rw [slL, someL_len] at hk
  rw [slL, someL_at hk]
  refine ⟨_, rfl, by omega, ?_⟩
  unfold blkR at hr
  rw [Bool.and_eq_true, wordsR_iff] at hr
  have hw := hr.2 (slOff b.1.kind + k) (by omega) (by omega)
  have hrole := role_value hk5 (hz zs (b.1.at' + 1)) (k := slOff b.1.kind + k) (by omega) (by omega)
  rw [show decide (slOff b.1.kind ≤ slOff b.1.kind + k ∧ slOff b.1.kind + k < slOff b.1.kind + slMany b.1.kind) = true by simp; omega] at hrole
  simp only [decide_eq_true_eq] at hrole
  rw [show b.1.at' + (slOff b.1.kind + k) = b.1.at' + slOff b.1.kind + k by omega] at hw
  obtain ⟨v, hv⟩ : ∃ v, hz zs (b.1.at' + slOff b.1.kind + k) = v := ⟨_, rfl⟩
  rw [hv] at hw ⊢
  unfold wordR at hw
  rw [if_neg (by omega), if_neg (by omega), if_neg (by omega), if_neg (by omega), if_neg (by omega)] at hw
  unfold valR at hw
  simp only [Bool.and_eq_true, Bool.or_eq_true, Bool.not_eq_true', decide_eq_true_eq, decide_eq_false_iff_not] at hw
  refine ⟨hw.1.1, fun h4 => ?_⟩
  rcases hw.2 with h | h
  · omega
  · rw [h]
    exact goal_pos _ _
end Go.Proofs.YtpbafjcoomfooaaGreat
namespace Go.Proofs.YtpbafjcoomfooaaGreat
open Go.RowKit

theorem textOf_found {zs : List Int} {t : ByteArray} {b : BkOf zs.length} (hh : heapR zs = true) (hf : findT zs t = some b) : textOfR zs (8 * ((b.1.at' : Nat) : Int) + 4) = t := by
  have hm := List.mem_of_find?_eq_some hf
  have hx : isText zs t b = true := List.find?_some hf
  simp only [isText, decide_eq_true_eq] at hx
  have hok := heapR_slab hh
  have hk := kindAt_mem hok hm
  have hle := b.2.2.1
  have h2 := b.2.1
  have hlen := (slabOk_iff.1 hok).1
  have e8 : (8 * ((b.1.at' : Nat) : Int) + 4) / 8 = ((b.1.at' : Nat) : Int) := by omega
  have e4 : (8 * ((b.1.at' : Nat) : Int) + 4) % 8 = 4 := by omega
  unfold textOfR
  rw [if_pos, e8, Int.toNat_natCast]
  · exact hx.2
  · refine ⟨e4, hh, ?_⟩
    unfold leadsR
    rw [e8, e4, hk, hx.1]
    have hv : vOk (8 * ((b.1.at' : Nat) : Int) + 4) = true := vOk_ref (k := 4) ⟨by omega, by omega, by omega, by omega⟩
    rw [hv]
    simp [wantK]
theorem put_laid {zs : List Int} {t : ByteArray} {b : BkOf zs.length} (hh : heapR zs = true) (hf : findT zs t = none) (hff : ffB zs ((t.size + 2 : Nat) : Int) = some b) :
    heapR (fillL (takeL zs b.1 1 (t.size + 2)) b.1.at' t t.size) = true ∧ ∃ x, findT (fillL (takeL zs b.1 1 (t.size + 2)) b.1.at' t t.size) t = some x ∧ x.1.at' = b.1.at' := by
  have hfr : b.1.kind = 0 ∧ ((t.size + 2 : Nat) : Int) ≤ (b.1.size : Int) := by
    have := List.find?_some hff
    simpa [freeP] using this
  have hm : b.1 ∈ raw (blocks zs) := List.mem_map.2 ⟨b, List.mem_of_find?_eq_some hff, rfl⟩
  have hbs := b.2
  have hlT := takeL_length zs b.1 1 (t.size + 2)
  have hz' := hz_fillL (ys := takeL zs b.1 1 (t.size + 2)) (a := b.1.at') (t := t) t.size (by omega)
  obtain ⟨rs, hrs⟩ : ∃ rs, fillL (takeL zs b.1 1 (t.size + 2)) b.1.at' t t.size = rs := ⟨_, rfl⟩
  have hlR : rs.length = zs.length := by rw [← hrs, fillL_len, hlT]
  have key : ∃ s' : Nat, (s' = b.1.size ∨ s' + 2 ≤ b.1.size) ∧ 2 ≤ s' ∧ hz rs b.1.at' = 8 * (s' : Int) + ((1 : Nat) : Int) ∧ (s' + 2 ≤ b.1.size → hz rs (b.1.at' + s') = 8 * ((b.1.size : Int) - (s' : Int))) ∧ (∀ j, j < b.1.at' ∨ b.1.at' + b.1.size ≤ j → hz rs j = hz zs j) ∧ blkR rs b.1.at' s' 1 = true ∧ strOfNums (textL rs b.1.at') = t := by
    by_cases hs : t.size + 2 + 2 ≤ b.1.size
    · have eT : takeL zs b.1 1 (t.size + 2) = layL (zs.set (b.1.at' + (t.size + 2)) (8 * ((b.1.size : Int) - ((t.size + 2 : Nat) : Int)))) b.1.at' (t.size + 2) (8 * ((t.size + 2 : Nat) : Int) + ((1 : Nat) : Int)) := if_pos hs
      have hzT : ∀ j, hz (takeL zs b.1 1 (t.size + 2)) j = if j = b.1.at' then 8 * ((t.size + 2 : Nat) : Int) + ((1 : Nat) : Int) else if b.1.at' < j ∧ j < b.1.at' + (t.size + 2) then 0 else if j = b.1.at' + (t.size + 2) then 8 * ((b.1.size : Int) - ((t.size + 2 : Nat) : Int)) else hz zs j := fun j => by
        rw [eT, hz_layL (by simp; omega) (by omega), hz_set (by omega)]
      have hn := text_new (ys := takeL zs b.1 1 (t.size + 2)) (a := b.1.at') (s := t.size + 2) (t := t) (by omega) (by omega) (by omega) (by omega)
      rw [hrs] at hn hz'
      refine ⟨t.size + 2, .inr hs, by omega, ?_, fun _ => ?_, fun j hj => ?_, hn.1, hn.2⟩
      · rw [hz', if_neg (by omega), if_neg (by omega), hzT, if_pos rfl]
      · rw [hz', if_neg (by omega), if_neg (by omega), hzT, if_neg (by omega), if_neg (by omega), if_pos rfl]
      · rw [hz', if_neg (by omega), if_neg (by omega), hzT, if_neg (by omega), if_neg (by omega), if_neg (by omega)]
    · have eT : takeL zs b.1 1 (t.size + 2) = layL zs b.1.at' b.1.size (8 * (b.1.size : Int) + ((1 : Nat) : Int)) := if_neg hs
      have hzT : ∀ j, hz (takeL zs b.1 1 (t.size + 2)) j = if j = b.1.at' then 8 * (b.1.size : Int) + ((1 : Nat) : Int) else if b.1.at' < j ∧ j < b.1.at' + b.1.size then 0 else hz zs j := fun j => by
        rw [eT, hz_layL (by omega) (by omega)]
      have hn := text_new (ys := takeL zs b.1 1 (t.size + 2)) (a := b.1.at') (s := b.1.size) (t := t) (by omega) (by omega) (by omega) (fun h => by rw [hzT, if_neg (by omega), if_pos (by omega)])
      rw [hrs] at hn hz'
      refine ⟨b.1.size, .inl rfl, by omega, ?_, fun h => by omega, fun j hj => ?_, hn.1, hn.2⟩
      · rw [hz', if_neg (by omega), if_neg (by omega), hzT, if_pos rfl]
      · rw [hz', if_neg (by omega), if_neg (by omega), hzT, if_neg (by omega), if_neg (by omega)]
  rw [hrs]
  obtain ⟨s', k1, k2, k3, k4, k5, k6, k7⟩ := key
  obtain ⟨hR, hst, hin, hcl⟩ := take_heap (zs' := rs) hh hm hfr.1 hlR k2 k1 (kind := 1) (by omega) k3 k4 k5 (fun _ => k6)
  refine ⟨hR, ?_⟩
  obtain ⟨nb, hnb, hnb1⟩ := List.mem_map.1 hin
  have hnt : isText rs t nb = true := by
    simp only [isText, decide_eq_true_eq]
    rw [hnb1]
    exact ⟨rfl, k7⟩
  cases hfx : findT rs t with
  | none =>
    unfold findT at hfx
    rw [List.find?_eq_none] at hfx
    exact absurd hnt (hfx nb hnb)
  | some x =>
    refine ⟨x, rfl, ?_⟩
    have hxm := List.mem_of_find?_eq_some hfx
    have hxt : isText rs t x = true := List.find?_some hfx
    simp only [isText, decide_eq_true_eq] at hxt
    rcases hcl x.1 (List.mem_map.2 ⟨x, hxm, rfl⟩) with h | h | ⟨h, hp⟩
    · exact h
    · omega
    · exfalso
      obtain ⟨y, hy, hyx⟩ := List.mem_map.1 h
      have hyk : y.1.kind = 1 := by rw [hyx]; exact hxt.1
      obtain ⟨n, hn1, hn2, _⟩ := text_facts hh hy hyk
      rw [hyx] at hn1 hn2
      have hsame := textL_same (zs := zs) (rs := rs) (a := x.1.at') (s := x.1.size) (fun j h1 h2 => k5 j (by omega)) n hn1 hn2
      unfold findT at hf
      rw [List.find?_eq_none] at hf
      refine hf y hy ?_
      simp only [isText, decide_eq_true_eq]
      rw [hyx]
      exact ⟨hxt.1, by rw [← hsame]; exact hxt.2⟩
end Go.Proofs.YtpbafjcoomfooaaGreat
namespace Go.Proofs.YtpbafjcoomfooaaGreat
open Go.RowKit

theorem put_facts {zs : List Int} {t : ByteArray} (hh : heapR zs = true) :
    ((putC zs t).2.2 = false → (putC zs t).2.1 = 0 ∧ (putC zs t).1 = zs) ∧
    ((putC zs t).2.2 = true → heapR (putC zs t).1 = true ∧ ∃ x, findT (putC zs t).1 t = some x ∧ (putC zs t).2.1 = 8 * ((x.1.at' : Nat) : Int) + 4) := by
  cases hf : findT zs t with
  | some b =>
    have hp : putC zs t = (zs, 8 * ((b.1.at' : Nat) : Int) + 4, true) := by simp [putC, hf]
    rw [hp]
    exact ⟨fun h => by simp at h, fun _ => ⟨hh, b, hf, rfl⟩⟩
  | none =>
    by_cases ht : 30 < t.size
    · have hp : putC zs t = (zs, 0, false) := by simp [putC, hf, ht]
      rw [hp]
      exact ⟨fun _ => ⟨rfl, rfl⟩, fun h => by simp at h⟩
    · have en : ((t.size + 2 : Nat) : Int) = (t.size : Int) + 2 := by omega
      cases hff : ffB zs ((t.size + 2 : Nat) : Int) with
      | none =>
        have hff' := hff
        rw [en] at hff'
        have hp : putC zs t = (zs, 0, false) := by simp [putC, hf, ht, hff']
        rw [hp]
        exact ⟨fun _ => ⟨rfl, rfl⟩, fun h => by simp at h⟩
      | some b =>
        have hff' := hff
        rw [en] at hff'
        have hp : putC zs t = (fillL (takeL zs b.1 1 (t.size + 2)) b.1.at' t t.size, 8 * ((b.1.at' : Nat) : Int) + 4, true) := by simp [putC, hf, ht, hff']
        rw [hp]
        obtain ⟨h1, x, h2, h3⟩ := put_laid hh hf hff
        exact ⟨fun h => by simp at h, fun _ => ⟨h1, x, h2, by rw [h3]⟩⟩

theorem TextPut_law (zs : List Int) (t : ByteArray) (hl : zs.length ≤ 1048576) : ∃ (rs : List Int) (at' : Int) (ok : Bool), rs.length ≤ 1048576 ∧
    (∀ (w : World) (ao : Option Addr) (cap : Nat), Ints w ao zs → zs.length ≤ cap → Calls Tryz.prog 8 #[.agg #[.slice ao zs.length cap], .string t] w fun e w' => ∃ v, e = .returned (.tuple #[.agg #[v], .int .i64 at', .bool ok]) ∧ OwnR w' w.heap.size v rs ∧ Kept w w') ∧
    (∀ (w : World) (ao : Option Addr) (cap : Nat), Ints w ao zs → Calls Tryz.prog 9 #[.agg #[.slice ao zs.length cap], .string t] w fun e w' => ∃ v, e = .returned (.tuple #[.agg #[v], .int .i64 at', .bool ok]) ∧ OwnR w' w.heap.size v rs ∧ Kept w w') ∧
    (ok = false → at' = 0 ∧ (rs = [] ∨ rs = zs)) ∧
    (ok = true → heapR rs = true ∧ -9223372036854775808 ≤ at' ∧ at' ≤ 9223372036854775807 ∧ textOfR rs at' = t ∧ textFindV rs t = .tuple #[.int .i64 at', .bool true] ∧
      (∀ (w : World) (ao : Option Addr) (cap : Nat), Ints w ao rs → rs.length ≤ cap → Calls Tryz.prog 8 #[.agg #[.slice ao rs.length cap], .string t] w fun e w' => ∃ v, e = .returned (.tuple #[.agg #[v], .int .i64 at', .bool true]) ∧ OwnR w' w.heap.size v rs ∧ Kept w w')) := by
  cases hh : heapR zs with
  | false =>
    refine ⟨[], 0, false, by simp, fun w ao cap hI _ => ?_, fun w ao cap hI => ?_, fun _ => ⟨rfl, .inl rfl⟩, fun h => by simp at h⟩
    · refine (impl_TextPut_bad w ao cap zs t hI hl hh).mono ?_
      rintro e w' ⟨rfl, hk⟩
      exact ⟨_, rfl, .inl ⟨rfl, rfl⟩, hk⟩
    · refine (spec_TextPut_bad w ao cap zs t hI hl hh).mono ?_
      rintro e w' ⟨rfl, hk⟩
      exact ⟨_, rfl, .inl ⟨rfl, rfl⟩, hk⟩
  | true =>
    have hlp : (putC zs t).1.length ≤ 1048576 := by rw [putC_len]; exact hl
    have hpf := put_facts (t := t) hh
    refine ⟨(putC zs t).1, (putC zs t).2.1, (putC zs t).2.2, hlp, fun w ao cap hI hcap => ?_, fun w ao cap hI => (spec_TextPut_do w ao cap zs t hI hl hh).mono (fun _ _ ⟨v, h1, h2, h3, _⟩ => ⟨v, h1, h2, h3⟩), fun h => ⟨(hpf.1 h).1, .inr (hpf.1 h).2⟩, fun h => ?_⟩
    · cases hf : findT zs t with
      | some b =>
        have hp : putC zs t = (zs, 8 * ((b.1.at' : Nat) : Int) + 4, true) := by simp [putC, hf]
        rw [hp]
        exact impl_TextPut_there w ao cap zs t b hI hl hcap hh hf
      | none =>
        by_cases ht : 30 < t.size
        · have hp : putC zs t = (zs, 0, false) := by simp [putC, hf, ht]
          rw [hp]
          exact impl_TextPut_long w ao cap zs t hI hl hcap hh hf ht
        · have en : ((t.size + 2 : Nat) : Int) = (t.size : Int) + 2 := by omega
          cases hff : ffB zs ((t.size + 2 : Nat) : Int) with
          | none =>
            have hff' := hff
            rw [en] at hff'
            have hp : putC zs t = (zs, 0, false) := by simp [putC, hf, ht, hff']
            rw [hp]
            exact impl_TextPut_full w ao cap zs t hI hl hcap hh hf (by omega) hff
          | some b =>
            have hff' := hff
            rw [en] at hff'
            have hp : putC zs t = (fillL (takeL zs b.1 1 (t.size + 2)) b.1.at' t t.size, 8 * ((b.1.at' : Nat) : Int) + 4, true) := by simp [putC, hf, ht, hff']
            rw [hp]
            exact impl_TextPut_laid w ao cap zs t b hI hl hcap hh hf (by omega) hff
    · obtain ⟨h1, x, h2, h3⟩ := hpf.2 h
      have hx := x.2
      rw [h3]
      refine ⟨h1, by omega, by omega, textOf_found h1 h2, ?_, fun w ao cap hI hcap => ?_⟩
      · unfold textFindV
        rw [if_pos h1, h2]
        rfl
      · exact impl_TextPut_there w ao cap _ t x hI hlp hcap h1 h2
end Go.Proofs.YtpbafjcoomfooaaGreat
