/-
  A block of the slab is found at its place.
  The bytes of a text block, as a fact on lists; the contracts of chapter 4's models l4Bytes and TextOf.
  Facts on lists: to what a value leads; lists of places, each once.
  What a right heap holds (facts on lists): each block is right, each of its values leads to a block, or nowhere.
  Facts on lists: the blocks that are reached, in the order in which they are met (chapter 7).
  The contracts of chapter 7's models l7Block, l7In and l7Order.
  The contracts of chapter 7's models l7Sort and Reach.
  The contracts of chapter 7's models Reach and l7Digits.
-/
import Derived.Laws.BytesArg
import Derived.Maps.AppendAt
import Derived.Deep.RegionHeld3
import Derived.Deep.AppendLies
import Derived.BigQuiet
import Derived.Laws.Concat
import Derived.Test.YtpljjeknphnnpaaGreatSlabP
import Derived.Test.YtpljjeknphnnpaaGreatShapeQ
import Derived.Test.YtpljjeknphnnpaaGreatShapeB
import Derived.Test.YtpljjeknphnnpaaGreatShapeG
import Derived.Test.YtpljjeknphnnpaaGreatHelpM
import Derived.Test.YtpljjeknphnnpaaGreatSeq
namespace Go.Proofs.YtpljjeknphnnpaaGreat
open Go.RowKit

theorem atB_mem {zs : List Int} (hok : slabOk zs = true) {b : BkOf zs.length} (hb : b ∈ blocks zs) : atB zs ((b.1.at' : Nat) : Int) = some b := by
  unfold atB
  rw [if_pos hok]
  obtain ⟨p, r, e⟩ := List.append_of_mem hb
  have hs := blks_sorted zs 0
  rw [show blks zs 0 = blocks zs from rfl, e] at hs
  rw [e, List.find?_append]
  have : p.find? (fun c => decide (((c.1.at' : Nat) : Int) = ((b.1.at' : Nat) : Int))) = none := by
    rw [List.find?_eq_none]
    intro c hc
    have := (List.pairwise_append.1 hs).2.2 c hc b (by simp)
    simp; omega
  rw [this]
  simp
end Go.Proofs.YtpljjeknphnnpaaGreat
namespace Go.Proofs.YtpljjeknphnnpaaGreat
open Go.RowKit
attribute [local go_sem] Plain.and7

/-- The bytes from place f on, n of them. -/
def bytesL (zs : List Int) (f n : Nat) : List Int := (List.range n).map (fun i => hz zs (f + i))
theorem bytesL_len (zs : List Int) (f n : Nat) : (bytesL zs f n).length = n := by simp [bytesL]
theorem bytesL_at {zs : List Int} {f n i : Nat} (h : i < n) : (bytesL zs f n).getD i 0 = hz zs (f + i) := by simp [bytesL, List.getD, h]
theorem bytesL_succ (zs : List Int) (f n : Nat) : bytesL zs f (n + 1) = bytesL zs f n ++ [hz zs (f + n)] := by simp [bytesL, List.range_succ]
def textL (zs : List Int) (a : Nat) : List Int := bytesL zs (a + 2) (hz zs (a + 1)).toNat
def textOfR (zs : List Int) (v : Int) : ByteArray := if v % 8 = 4 ∧ heapR zs = true ∧ leadsR zs v 0 = true then strOfNums (textL zs (v / 8).toNat) else ⟨#[]⟩

/-- A block of a right heap is right. -/
theorem heapR_blk {zs : List Int} (hh : heapR zs = true) {b : BkOf zs.length} (hb : b ∈ blocks zs) : blkR zs b.1.at' b.1.size b.1.kind = true := by
  unfold heapR at hh
  rw [Bool.and_eq_true] at hh
  exact List.all_eq_true.1 hh.2 b hb
/-- What a text block of a right heap holds. -/
theorem text_facts {zs : List Int} {b : BkOf zs.length} (hh : heapR zs = true) (hb : b ∈ blocks zs) (hk : b.1.kind = 1) :
    ∃ n : Nat, hz zs (b.1.at' + 1) = (n : Int) ∧ n + 2 ≤ b.1.size ∧ ∀ i, i < n → 0 ≤ hz zs (b.1.at' + 2 + i) ∧ hz zs (b.1.at' + 2 + i) ≤ 255 := by
  have h := heapR_blk hh hb
  rw [hk, blk_text] at h
  unfold textR at h
  simp only [Bool.and_eq_true, decide_eq_true_eq, bytesR_iff] at h
  obtain ⟨⟨⟨h0, h1⟩, _⟩, h2⟩ := h
  refine ⟨(hz zs (b.1.at' + 1)).toNat, by omega, by omega, h2⟩
theorem leads_text {zs : List Int} {v : Int} (h4 : v % 8 = 4) (hl : leadsR zs v 0 = true) : ∃ b : BkOf zs.length, atB zs (v / 8) = some b ∧ v / 8 = (b.1.at' : Int) ∧ b.1.kind = 1 ∧ b ∈ blocks zs := by
  unfold leadsR at hl
  simp only [Bool.and_eq_true, Bool.or_eq_true, decide_eq_true_eq, h4] at hl
  obtain ⟨_, hl | hl⟩ := hl
  · omega
  · simp only [wantK, if_true] at hl
    unfold kindAt at hl
    cases hb : atB zs (v / 8) with
    | none => rw [hb] at hl; simp at hl
    | some b =>
      rw [hb] at hl
      obtain ⟨_, e, _, _, _, hm⟩ := atB_some hb
      exact ⟨b, rfl, e.symm, by simp at hl; omega, hm⟩

theorem infoB : (Tryz.prog.info? 5).map (fun i => (i.zero, i.size, i.bytes)) = some (some (.int .u8 0), 1, 1) := by kernel_rfl
/-- string(b), where b is a row of one's own that holds the numbers xs. -/
theorem conv_own {W : World} {base : Nat} {v : Value} {xs : List Int} (h : W.ownsRow base 5 1 v xs.length (xs.map (Value.int .u8))) : (convert 22 9 v).run Tryz.prog W = .ok (.string (strOfNums xs)) W := by
  obtain ⟨hl, ⟨e, hn⟩ | ⟨g, cap, cur, e, hb, hg, h1, h2, h3, h4⟩⟩ := h
  · subst e
    obtain rfl : xs = [] := List.length_eq_zero_iff.1 hn
    exact run_convert_bytes_nil W 22 5 Tryz.underlying22 Tryz.underlying5 0 0 9 Tryz.underlying9
  · subst e
    refine run_convert_bytes_arg W 22 5 Tryz.underlying22 Tryz.underlying5 g 0 xs.length cap xs rfl (fun j hj => ?_) 9 Tryz.underlying9
    simp at hl h4
    have : (cur.toList.take xs.length)[j]? = (xs.map (Value.int .u8))[j]? := by rw [h4]
    rw [List.getElem?_take, if_pos (by omega)] at this
    simp [List.getElem?_eq_getElem hj] at this
    simp only [World.cell?, hg, Nat.zero_add]
    simp [this, List.getD, List.getElem?_eq_getElem hj]

set_option maxHeartbeats 4000000 in
set_option maxRecDepth 100000 in
theorem l4Bytes_ok (w : World) (ao : Option Addr) (cap : Nat) (zs : List Int) (a s n : Nat) (hI : Ints w ao zs) (hl : zs.length ≤ 1048576) (hle : a + s ≤ zs.length) (hn : hz zs (a + 1) = (n : Int)) (hns : n + 2 ≤ s) (hby : ∀ i, i < n → 0 ≤ hz zs (a + 2 + i) ∧ hz zs (a + 2 + i) ≤ 255) :
    Calls Tryz.prog 168 #[.agg #[.slice ao zs.length cap], .int .i64 a] w fun e w' => e = .returned (.string (strOfNums (bytesL zs (a + 2) n))) ∧ Kept w w' := by
  obtain ⟨i0, hi, hz0, hz1, hz2⟩ := info_parts infoB
  have b0 := (Cells.new w 26 #[.slice ao zs.length cap]).alloc (.cells #[] 5)
  have k0 : Kept w ((w.alloc (.cells #[.slice ao zs.length cap] 26)).alloc (.cells #[] 5)) := (Kept.alloc (Below.refl _ _) _).alloc _
  have o0 : ((w.alloc (.cells #[.slice ao zs.length cap] 26)).alloc (.cells #[] 5)).ownsRow (w.heap.size + 1) 5 1 (.slice (some ⟨w.heap.size + 1, 0, none⟩) 0 0) 0 [] := by
    have := World.ownsRow_made (base := w.heap.size + 1) (e := 5) (size := 1) (w.alloc (.cells #[.slice ao zs.length cap] 26)) #[] 0 (by simp) (by unfold maxLen; omega) (by simp)
    simpa using this
  obtain ⟨bb, off, rfl, hc⟩ := hI.at (k := 0) (by omega)
  have hbl : bb < w.heap.size := World.block_lt_of_cell? _ _ (hc 0 (by omega))
  have h1 : w.cell? ⟨bb, off + (a + 1), none⟩ = some (.int .i64 (n : Int)) := by rw [← hn]; exact hc (a + 1) (by omega)
  have hw : ∀ k, k < n → w.cell? ⟨bb, off + (a + 2 + k), none⟩ = some (.int .i64 (hz zs (a + 2 + k))) := fun k hk => hc (a + 2 + k) (by omega)
  have t1 : ((a : Int) + 1).toNat = a + 1 := by omega
  have p1 : (a : Int) + 1 < (zs.length : Int) := by omega
  clear hc hn hI
  go_enter Tryz.func168, Tryz.ntmps168
  go_wp2
  go_loopw [5, 6] (fun v i wr => ∃ k : Nat, i = .int .i64 k ∧ k ≤ n ∧ wr.ownsRow (w.heap.size + 1) 5 1 v (bytesL zs (a + 2) k).length ((bytesL zs (a + 2) k).map (Value.int .u8)) ∧ Cells wr w.heap.size 26 #[.slice (some ⟨bb, off, none⟩) zs.length cap] ∧ Kept w wr ∧ w.heap.size + 1 ≤ wr.heap.size)
    (fun _ i _ => n - (intOf i).toNat)
  case atStart => exact ⟨0, rfl, Nat.zero_le _, o0, b0, k0, by simp⟩
  case round =>
    obtain ⟨k, rfl, hk, hrow, hb, hK, hsz⟩ := hrel
    clear b0 k0 o0
    have cb := hb.cell 0
    have cw1 := (hK.cell (p := ⟨bb, off + (a + 1), none⟩) hbl).trans h1
    have HK : Hid (Kept w wr) := hK
    by_cases hlt : k < n
    · have cw2 := (hK.cell (p := ⟨bb, off + (a + 2 + k), none⟩) hbl).trans (hw k hlt)
      have t2 : ((a : Int) + 2 + (k : Int)).toNat = a + 2 + k := by omega
      have p2 : (a : Int) + 2 + (k : Int) < (zs.length : Int) := by omega
      have p0 : (0 : Int) ≤ (a : Int) + 2 + (k : Int) := by omega
      have u8 := IntWalk.u8_in _ (hby k hlt)
      have g0 := (hby k hlt).1
      have g1 := (hby k hlt).2
      have hll := bytesL_len zs (a + 2) k
      have HS : Hid (bytesL zs (a + 2) (k + 1) = bytesL zs (a + 2) k ++ [hz zs (a + 2 + k)]) := bytesL_succ _ _ _
      clear hK
      go_wp2_with (first | (at_builtin; refine wpList_append_own _ rfl _ _ 22 rfl (w.heap.size + 1) 5 i0 (.int .u8 0) 1 1 Tryz.underlying22 hi hz0 hz1 hz2 rfl (by decide) _ _ _ rfl (hrow.alloc _) ⟨wr.heap.size, 0, none⟩ 1 1 [.int .u8 (hz zs (a + 2 + k))] rfl rfl (cell_one_new _ _ _) (by simp [Value.oneCell']) (by unfold maxLen; omega) (by omega) (by simp; omega) ?_; intro v' w1 hown' hgrow _; have kk : Below (w.heap.size + 1) wr w1 := ((Below.refl _ wr).alloc hsz _).grown hgrow (by simp; omega) (fun j ej => (hrow.lt j ej).1)))
      go_roundw
      case rel => exact ⟨k + 1, by go_num, by omega, by rw [HS.out]; simpa using hown', (kk.block w.heap.size (by omega)).trans hb, Below.trans HK.out (kk.mono (by omega)), Nat.le_trans hsz kk.size⟩
      case measure => simp [intOf]; omega
    · obtain rfl : n = k := by omega
      have hcv := conv_own hrow
      clear hK
      go_wp2
      go_ret
      exact ⟨rfl, HK.out⟩
end Go.Proofs.YtpljjeknphnnpaaGreat
namespace Go.Proofs.YtpljjeknphnnpaaGreat
open Go.RowKit

theorem leads_kind {zs : List Int} {v inner : Int} (h : leadsR zs v inner = true) (h4 : 4 ≤ v % 8) : kindAt zs (v / 8) = wantK (v % 8) inner := by
  unfold leadsR at h
  simp only [Bool.and_eq_true, Bool.or_eq_true, decide_eq_true_eq] at h
  rcases h.2 with h | h
  · omega
  · exact h
theorem nodup_le : ∀ (n : Nat) (ps : List Nat), ps.Nodup → (∀ p ∈ ps, p < n) → ps.length ≤ n
  | 0, ps, _, h => by
    cases ps with
    | nil => simp
    | cons p _ => exact absurd (h p (by simp)) (by omega)
  | n + 1, ps, hd, h => by
    have h1 := nodup_le n (ps.erase n) (hd.erase n) (fun p hp => by
      have := hd.mem_erase_iff.1 hp
      have := h p this.2
      omega)
    have := List.length_erase (a := n) (l := ps)
    split at this <;> omega
end Go.Proofs.YtpljjeknphnnpaaGreat
namespace Go.Proofs.YtpljjeknphnnpaaGreat
open Go.RowKit

theorem someL_at {a n k : Nat} (h : k < n) : hz (someL a n) k = ((a + k : Nat) : Int) := by simp [hz, someL, h]
theorem goal_pos (r k : Int) : 1 ≤ goalR r k := by
  unfold goalR
  repeat' split
  all_goals omega
theorem slots_facts {zs : List Int} (hh : heapR zs = true) {b : BkOf zs.length} (hb : b ∈ blocks zs) :
    shapeR zs ((b.1.at' : Nat) : Int) = true ∧ (slotsL zs ((b.1.at' : Nat) : Int)).length ≤ zs.length ∧ ∀ k, k < (slotsL zs ((b.1.at' : Nat) : Int)).length → ∃ p : Nat, hz (slotsL zs ((b.1.at' : Nat) : Int)) k = p ∧ p < zs.length ∧ vOk (hz zs p) = true ∧ (4 ≤ hz zs p % 8 → 1 ≤ kindAt zs (hz zs p / 8)) := by
  have hok := heapR_slab hh
  have ha := atB_mem hok hb
  have hr := heapR_blk hh hb
  have hlen := (slabOk_iff.1 hok).1
  have hble := b.2.2.1
  have hk5 := b.2.2.2
  unfold shapeR slotsL
  rw [ha]
  simp only
  refine ⟨hr, by have := slL_len b.1.at' b.1.kind b.1.size; omega, fun k hk => ?_⟩
  have hoff : 1 ≤ slOff b.1.kind := by unfold slOff; split <;> omega
  rw [slL, someL_len] at hk
  rw [slL, someL_at hk]
  refine ⟨_, rfl, by omega, ?_⟩
  unfold blkR at hr
  rw [Bool.and_eq_true, wordsR_iff] at hr
  have hw := hr.2 (slOff b.1.kind + k) (by omega) (by omega)
  have hrole := role_value hk5 (hz zs (b.1.at' + 1)) (k := slOff b.1.kind + k) (by omega) (by omega)
  rw [show decide (slOff b.1.kind ≤ slOff b.1.kind + k ∧ slOff b.1.kind + k < slOff b.1.kind + slMany b.1.kind) = true by simp; omega] at hrole
  simp only [decide_eq_true_eq] at hrole
  rw [show b.1.at' + (slOff b.1.kind + k) = b.1.at' + slOff b.1.kind + k by omega] at hw
  obtain ⟨v, hv⟩ : ∃ v, hz zs (b.1.at' + slOff b.1.kind + k) = v := ⟨_, rfl⟩
  rw [hv] at hw ⊢
  unfold wordR at hw
  rw [if_neg (by omega), if_neg (by omega), if_neg (by omega), if_neg (by omega), if_neg (by omega)] at hw
  unfold valR at hw
  simp only [Bool.and_eq_true, Bool.or_eq_true, Bool.not_eq_true', decide_eq_true_eq, decide_eq_false_iff_not] at hw
  refine ⟨hw.1.1, fun h4 => ?_⟩
  rcases hw.2 with h | h
  · omega
  · rw [h]
    exact goal_pos _ _
end Go.Proofs.YtpljjeknphnnpaaGreat
namespace Go.Proofs.YtpljjeknphnnpaaGreat
open Go.RowKit

/-- The block to which a value leads, or -1. -/
def blkV (v : Int) : Int := if v % 8 < 4 then -1 else v / 8
/-- A block that was not met yet is met. -/
def addB (out : List Int) (a : Int) : List Int := if 0 ≤ a ∧ a ∉ out then out ++ [a] else out
def meetL (out vs : List Int) : List Int := vs.foldl (fun o v => addB o (blkV v)) out
theorem meetL_snoc (out vs : List Int) (v : Int) : meetL out (vs ++ [v]) = addB (meetL out vs) (blkV v) := by simp [meetL]
/-- The values of a block. -/
def slotV (zs : List Int) (a : Int) : List Int := (slotsL zs a).map (fun j => hz zs j.toNat)
theorem slotV_len (zs : List Int) (a : Int) : (slotV zs a).length = (slotsL zs a).length := by simp [slotV]
def ordF (zs : List Int) : Nat → Nat → List Int → List Int
  | 0, _, out => out
  | n + 1, k, out => match out[k]? with | some a => ordF zs n (k + 1) (meetL out (slotV zs a)) | none => out
theorem ordF_on {zs out : List Int} {n k : Nat} {a : Int} (h : out[k]? = some a) : ordF zs (n + 1) k out = ordF zs n (k + 1) (meetL out (slotV zs a)) := by simp [ordF, h]
theorem ordF_end {zs out : List Int} {n k : Nat} (h : out.length ≤ k) : ordF zs n k out = out := by
  cases n with
  | zero => rfl
  | succ n => simp [ordF, List.getElem?_eq_none h]
/-- All blocks that are reached, in the order in which they are met. -/
def ordL (zs rs : List Int) : List Int := ordF zs (zs.length + 1) 0 (meetL [] rs)
/-- Blocks that are there, each once. -/
def Met (zs out : List Int) : Prop := out.Nodup ∧ ∀ a ∈ out, 1 ≤ kindAt zs a
theorem kind_nat {zs : List Int} {a : Int} (h : 1 ≤ kindAt zs a) : ∃ n : Nat, a = n ∧ n < zs.length ∧ Good zs n ∧ slotsL zs a = slL n (kd zs n) (sz zs n) ∧ ∃ b ∈ blocks zs, b.1.at' = n := by
  unfold kindAt at h
  cases hb : atB zs a with
  | none => rw [hb] at h; simp at h
  | some b =>
    obtain ⟨_, e, hg, hs, hk, hm⟩ := atB_some hb
    exact ⟨b.1.at', e.symm, hg.lt, hg, by unfold slotsL; rw [hb, ← hs, ← hk], b, hm, rfl⟩
theorem nodup_toNat {l : List Int} (h0 : ∀ a ∈ l, 0 ≤ a) (hd : l.Nodup) : (l.map Int.toNat).Nodup := by
  induction l with
  | nil => simp
  | cons x l ih =>
    have hd' := List.nodup_cons.1 hd
    rw [List.map_cons]
    refine List.nodup_cons.2 ⟨fun hm => ?_, ih (fun a ha => h0 a (List.mem_cons_of_mem _ ha)) hd'.2⟩
    obtain ⟨y, hy, e⟩ := List.mem_map.1 hm
    have h1 := h0 x (by simp)
    have h2 := h0 y (List.mem_cons_of_mem _ hy)
    have : y = x := by omega
    rw [this] at hy
    exact hd'.1 hy
theorem Met.len {zs out : List Int} (h : Met zs out) : out.length ≤ zs.length := by
  have h0 : ∀ a ∈ out, 0 ≤ a := fun a ha => by
    obtain ⟨n, e, _⟩ := kind_nat (h.2 a ha)
    omega
  have := nodup_le zs.length (out.map Int.toNat) (nodup_toNat h0 h.1) (fun p hp => by
    obtain ⟨a, ha, rfl⟩ := List.mem_map.1 hp
    obtain ⟨n, e, hn, _⟩ := kind_nat (h.2 a ha)
    omega)
  simpa using this
theorem Met.bd {zs out : List Int} (h : Met zs out) (hl : zs.length ≤ 1048576) : ∀ a ∈ out, -9223372036854775808 ≤ a ∧ a ≤ 9223372036854775807 := fun a ha => by
  obtain ⟨n, e, hn, _⟩ := kind_nat (h.2 a ha)
  omega
theorem Met.add {zs out : List Int} {a : Int} (h : Met zs out) (ha : 0 ≤ a → 1 ≤ kindAt zs a) : Met zs (addB out a) := by
  unfold addB
  split
  · rename_i hc
    refine ⟨?_, fun x hx => ?_⟩
    · rw [List.nodup_append]
      exact ⟨h.1, by simp, fun x hx y hy => by simp at hy; subst hy; intro e; subst e; exact hc.2 hx⟩
    · rcases List.mem_append.1 hx with h' | h'
      · exact h.2 x h'
      · simp at h'; subst h'; exact ha hc.1
  · exact h
/-- Values that lead somewhere. -/
def Leads (zs vs : List Int) : Prop := ∀ v ∈ vs, 0 ≤ blkV v → 1 ≤ kindAt zs (blkV v)
theorem Met.meet {zs : List Int} : ∀ {vs out : List Int}, Met zs out → Leads zs vs → Met zs (meetL out vs)
  | [], out, h, _ => h
  | v :: vs, out, h, hv => Met.meet (vs := vs) (h.add (hv v (by simp))) (fun x hx => hv x (List.mem_cons_of_mem _ hx))
theorem blkV_bd {v : Int} (h : -9223372036854775808 ≤ v ∧ v ≤ 9223372036854775807) : -9223372036854775808 ≤ blkV v ∧ blkV v ≤ 9223372036854775807 := by
  unfold blkV
  split <;> omega
theorem leads_roots {zs rs : List Int} (h : rootsR zs rs = true) : Leads zs rs := by
  intro v hv h0
  unfold rootsR leadAll at h
  simp only [Bool.and_eq_true] at h
  obtain ⟨j, hj, e⟩ := List.getElem_of_mem hv
  have h1 := allR_iff.1 h.2 j hj
  have e1 : hz rs j = v := by unfold hz; rw [List.getElem?_eq_getElem hj]; exact e
  rw [e1] at h1
  unfold blkV at h0 ⊢
  split
  · rename_i h4; rw [if_pos h4] at h0; omega
  · rename_i h4
    have hk := leads_kind h1 (by omega)
    rw [hk]
    unfold wantK
    repeat' split
    all_goals omega
theorem slotV_at {zs : List Int} {a : Int} {i : Nat} (h : i < (slotsL zs a).length) : hz (slotV zs a) i = hz zs (hz (slotsL zs a) i).toNat := by
  unfold slotV hz
  rw [List.getElem?_map, List.getElem?_eq_getElem h]
  rfl
theorem leads_slots {zs : List Int} {a : Int} (hh : heapR zs = true) (ha : 1 ≤ kindAt zs a) : Leads zs (slotV zs a) ∧ (slotsL zs a).length ≤ zs.length ∧ ∀ i, i < (slotsL zs a).length → ∃ p : Nat, hz (slotsL zs a) i = p ∧ p < zs.length := by
  obtain ⟨n, e, _, _, _, b, hb, hbn⟩ := kind_nat ha
  have hf := slots_facts hh hb
  rw [hbn, ← e] at hf
  refine ⟨fun v hv h0 => ?_, hf.2.1, fun i hi => ?_⟩
  · obtain ⟨i, hi, ei⟩ := List.getElem_of_mem hv
    rw [slotV_len] at hi
    obtain ⟨p, hp, hpl, hok, hk⟩ := hf.2.2 i hi
    have e1 : v = hz zs p := by
      have := slotV_at hi
      rw [hp, Int.toNat_natCast] at this
      rw [← this]
      unfold hz
      rw [List.getElem?_eq_getElem (by rw [slotV_len]; exact hi)]
      exact ei.symm
    rw [e1] at h0 ⊢
    unfold blkV at h0 ⊢
    split
    · rename_i h4; rw [if_pos h4] at h0; omega
    · rename_i h4
      exact hk (by omega)
  · obtain ⟨p, hp, hpl, _⟩ := hf.2.2 i hi
    exact ⟨p, hp, hpl⟩
theorem addB_mem {out : List Int} {a x : Int} (h : x ∈ out) : x ∈ addB out a := by
  unfold addB
  split
  · exact List.mem_append_left _ h
  · exact h
theorem addB_pre {out : List Int} {a x : Int} {k : Nat} (h : out[k]? = some x) : (addB out a)[k]? = some x := by
  unfold addB
  split
  · rw [List.getElem?_append_left (List.getElem?_eq_some_iff.1 h).1]; exact h
  · exact h
theorem Met.ord {zs : List Int} (hh : heapR zs = true) : ∀ (n k : Nat) {out : List Int}, Met zs out → Met zs (ordF zs n k out)
  | 0, _, _, h => h
  | n + 1, k, out, h => by
    unfold ordF
    split
    · rename_i a ha
      have hk := h.2 a (List.mem_of_getElem? ha)
      exact Met.ord hh n (k + 1) (h.meet (leads_slots hh hk).1)
    · exact h
theorem ordL_met {zs rs : List Int} (h : rootsR zs rs = true) : Met zs (ordL zs rs) := by
  have hh : heapR zs = true := by
    unfold rootsR at h
    simp only [Bool.and_eq_true] at h
    exact h.1
  exact Met.ord hh _ _ (Met.meet ⟨List.nodup_nil, by simp⟩ (leads_roots h))
end Go.Proofs.YtpljjeknphnnpaaGreat
namespace Go.Proofs.YtpljjeknphnnpaaGreat
open Go.RowKit
attribute [local go_sem] Plain.and7

set_option maxHeartbeats 2000000 in
theorem l7Block_ok (v : Int) (w : World) : Calls Tryz.prog 70 #[.int .i64 v] w fun e w' => e = .returned (.int .i64 (blkV v)) ∧ w = w' := by
  by_cases h : v % 8 < 4
  · have HB : Hid (blkV v = -1) := by simp [Hid, blkV, h]
    go_enter Tryz.func70, Tryz.ntmps70
    go_wp2_with (first | (go_at_call 74; refine (spec_Kind_ok _ _).mono ?_; rintro e wx ⟨rfl, rfl⟩))
    go_ret
    exact ⟨by rw [HB.out]; rfl, rfl⟩
  · have HB : Hid (blkV v = v / 8) := by simp [Hid, blkV, h]
    go_enter Tryz.func70, Tryz.ntmps70
    go_wp2_with (first | (go_at_call 74; refine (spec_Kind_ok _ _).mono ?_; rintro e wx ⟨rfl, rfl⟩) | (go_at_call 73; refine (spec_Num_ok _ _).mono ?_; rintro e wx ⟨rfl, rfl⟩))
    go_ret
    exact ⟨by rw [HB.out]; rfl, rfl⟩
theorem hz_mem {l : List Int} {k : Nat} (h : k < l.length) : hz l k ∈ l := by
  unfold hz
  rw [List.getElem?_eq_getElem h]
  exact List.getElem_mem h
set_option maxHeartbeats 4000000 in
theorem l7In_ok (w : World) (ao : Option Addr) (cap : Nat) (l : List Int) (x : Int) (hI : Ints w ao l) (hl : l.length ≤ 1048576) :
    Calls Tryz.prog 71 #[.slice ao l.length cap, .int .i64 x] w fun e w' => e = .returned (.bool (decide (x ∈ l))) ∧ w = w' := by
  have HI : Hid _ := hI
  clear hI
  go_enter Tryz.func71, Tryz.ntmps71
  go_wp2_with fail
  go_loopw [5] (fun i wr => ∃ k : Nat, i = .int .i64 k ∧ k ≤ l.length ∧ (∀ j, j < k → hz l j ≠ x) ∧ wr = w) (fun i _ => l.length - (intOf i).toNat)
  case atStart => exact ⟨0, rfl, Nat.zero_le _, fun j hj => by omega, rfl⟩
  case round =>
    obtain ⟨k, rfl, hk, hno, rfl⟩ := hrel
    have HNo : Hid _ := hno
    clear hno
    by_cases hlt : k < l.length
    · obtain ⟨b, o, rfl, hc⟩ := Ints.at HI.out hlt
      have c1 := hc k hlt
      have q1 : (k : Int) < (l.length : Int) := by omega
      have q0 : (0 : Int) ≤ (k : Int) := by omega
      clear hc
      by_cases he : hz l k = x
      · have hm : x ∈ l := by rw [← he]; exact hz_mem hlt
        have HD : Hid (decide (x ∈ l) = true) := by simpa [Hid] using hm
        have hq : (hz l k == x) = true := by simpa using he
        clear hm he
        go_wp2_with fail
        go_ret
        exact ⟨by rw [HD.out]; rfl, rfl⟩
      · have hq : (hz l k == x) = false := by simpa using he
        have HE : Hid _ := he
        clear he
        go_wp2_with fail
        go_roundw
        case rel =>
          refine ⟨k + 1, by go_num, by omega, fun j hj => ?_, by trivial⟩
          rcases Nat.lt_or_ge j k with h | h
          · exact HNo.out j h
          · have : j = k := by omega
            subst this
            exact HE.out
        case measure => simp [intOf]; omega
    · obtain rfl : k = l.length := by omega
      have HD : Hid (decide (x ∈ l) = false) := by
        have : x ∉ l := fun hm => by
          obtain ⟨j, hj, e⟩ := List.getElem_of_mem hm
          exact HNo.out j hj (by unfold hz; rw [List.getElem?_eq_getElem hj]; exact e)
        simpa [Hid] using this
      go_wp2_with fail
      go_ret
      exact ⟨by rw [HD.out]; rfl, rfl⟩
theorem addB_yes {out : List Int} {a : Int} (h0 : 0 ≤ a) (h : decide (a ∈ out) = false) : addB out a = out ++ [a] := by
  unfold addB
  rw [if_pos ⟨h0, by simpa using h⟩]
theorem addB_in {out : List Int} {a : Int} (h : decide (a ∈ out) = true) : addB out a = out := by
  unfold addB
  rw [if_neg (fun hc => hc.2 (by simpa using h))]
theorem addB_no {out : List Int} {a : Int} (h : ¬ 0 ≤ a) : addB out a = out := by
  unfold addB
  rw [if_neg (fun hc => h hc.1)]
theorem addB_len (out : List Int) (a : Int) : out.length ≤ (addB out a).length := by
  unfold addB
  split <;> simp
theorem meetL_len : ∀ (vs out : List Int), out.length ≤ (meetL out vs).length
  | [], _ => Nat.le_refl _
  | v :: vs, out => Nat.le_trans (addB_len out (blkV v)) (meetL_len vs (addB out (blkV v)))
theorem take_hz {l : List Int} {k : Nat} (h : k < l.length) : l.take (k + 1) = l.take k ++ [hz l k] := by
  rw [List.take_succ_eq_append_getElem h]
  unfold hz
  rw [List.getElem?_eq_getElem h]
  rfl
theorem OwnL.snoc {W : World} {base : Nat} {v : Value} {l : List Int} {a : Int} (h0 : ∀ z ∈ l ++ [a], -9223372036854775808 ≤ z ∧ z ≤ 9223372036854775807) (h : W.ownsRow base 3 1 v (l.length + 1) (l.map (Value.int .i64) ++ [.int .i64 a])) : OwnL W base v (l ++ [a]) := by
  refine ⟨h0, ?_⟩
  rw [List.length_append, List.map_append]
  exact h
theorem Ints.far {W W' : World} {so : Option Addr} {l : List Int} {row : Option Nat} (h : Ints W so l) (hg : W.grownBy W' row) (hne : ∀ x, so = some x → row ≠ some x.block) : Ints W' so l := by
  refine ⟨h.1, ?_⟩
  rcases h.2 with h | ⟨b, off, rfl, hc⟩
  · exact .inl h
  · exact .inr ⟨b, off, rfl, fun j hj => (hg.cell_far ⟨b, off + j, none⟩ (World.block_lt_of_cell? _ _ (hc j hj)) (Ne.symm (hne ⟨b, off, none⟩ rfl))).trans (hc j hj)⟩
end Go.Proofs.YtpljjeknphnnpaaGreat
namespace Go.Proofs.YtpljjeknphnnpaaGreat
open Go.RowKit
attribute [local go_sem] Plain.and7

/-- x ahead of all that is not less. -/
def insL (x : Int) (out : List Int) : List Int := out.takeWhile (fun y => decide (y < x)) ++ x :: out.dropWhile (fun y => decide (y < x))
def sortF (out l : List Int) : List Int := l.foldl (fun o x => insL x o) out
def sortL (l : List Int) : List Int := sortF [] l
theorem sortF_snoc (out l : List Int) (x : Int) : sortF out (l ++ [x]) = insL x (sortF out l) := by simp [sortF]
theorem insL_len (x : Int) (out : List Int) : (insL x out).length = out.length + 1 := by
  unfold insL
  have := congrArg List.length (List.takeWhile_append_dropWhile (p := fun y => decide (y < x)) (l := out))
  simp only [List.length_append, List.length_cons] at this ⊢
  omega
theorem mem_insL {x y : Int} {out : List Int} : y ∈ insL x out ↔ y = x ∨ y ∈ out := by
  have e := List.takeWhile_append_dropWhile (p := fun y => decide (y < x)) (l := out)
  unfold insL
  rw [List.mem_append, List.mem_cons]
  constructor
  · rintro (h | h | h)
    · right; rw [← e]; exact List.mem_append_left _ h
    · exact .inl h
    · right; rw [← e]; exact List.mem_append_right _ h
  · rintro (h | h)
    · exact .inr (.inl h)
    · rw [← e] at h
      rcases List.mem_append.1 h with h | h
      · exact .inl h
      · exact .inr (.inr h)
theorem insL_at {x : Int} {out : List Int} {k : Nat} (hk : k ≤ out.length) (h1 : ∀ j, j < k → hz out j < x) (h2 : k < out.length → x ≤ hz out k) : insL x out = out.take k ++ x :: out.drop k := by
  have e1 : out.takeWhile (fun y => decide (y < x)) = out.take k := by
    induction out generalizing k with
    | nil => simp
    | cons y out ih =>
      cases k with
      | zero =>
        have := h2 (by simp)
        have h3 : ¬ y < x := by have h4 : x ≤ y := by simpa [hz] using this
                                omega
        simp [h3]
      | succ k =>
        have h3 : y < x := by have := h1 0 (by omega); simpa [hz] using this
        rw [List.takeWhile_cons, if_pos (by simpa using h3), List.take_succ_cons, ih (by simpa using hk) (fun j hj => by have := h1 (j + 1) (by omega); simpa [hz] using this) (fun hlt => by have := h2 (by simpa using hlt); simpa [hz] using this)]
  have e2 : out.dropWhile (fun y => decide (y < x)) = out.drop k := by
    have h := List.takeWhile_append_dropWhile (p := fun y => decide (y < x)) (l := out)
    rw [e1] at h
    exact List.append_cancel_left (h.trans (List.take_append_drop k out).symm)
  unfold insL
  rw [e1, e2]
theorem sortF_len : ∀ (l out : List Int), (sortF out l).length = out.length + l.length
  | [], out => by simp [sortF]
  | x :: l, out => by
    have := sortF_len l (insL x out)
    rw [insL_len] at this
    show (sortF (insL x out) l).length = _
    rw [this, List.length_cons]
    omega
theorem mem_sortF {y : Int} : ∀ (l out : List Int), y ∈ sortF out l ↔ y ∈ out ∨ y ∈ l
  | [], out => by simp [sortF]
  | x :: l, out => by
    show y ∈ sortF (insL x out) l ↔ _
    rw [mem_sortF l, mem_insL, List.mem_cons]
    constructor
    · rintro ((h | h) | h)
      · exact .inr (.inl h)
      · exact .inl h
      · exact .inr (.inr h)
    · rintro (h | h | h)
      · exact .inl (.inr h)
      · exact .inl (.inl h)
      · exact .inr h
theorem insL_sorted {x : Int} {out : List Int} (h : out.Pairwise (· ≤ ·)) : (insL x out).Pairwise (· ≤ ·) := by
  induction out with
  | nil => simp [insL]
  | cons y out ih =>
    have h' := List.pairwise_cons.1 h
    by_cases hy : y < x
    · have e : insL x (y :: out) = y :: insL x out := by simp [insL, hy]
      rw [e]
      refine List.pairwise_cons.2 ⟨fun z hz' => ?_, ih h'.2⟩
      rcases mem_insL.1 hz' with rfl | hz'
      · omega
      · exact h'.1 z hz'
    · have e : insL x (y :: out) = x :: y :: out := by simp [insL, hy]
      rw [e]
      refine List.pairwise_cons.2 ⟨fun z hz' => ?_, h⟩
      rcases List.mem_cons.1 hz' with rfl | hz'
      · omega
      · have := h'.1 z hz'; omega
theorem sortF_sorted : ∀ (l : List Int) {out : List Int}, out.Pairwise (· ≤ ·) → (sortF out l).Pairwise (· ≤ ·)
  | [], _, h => h
  | _ :: l, _, h => sortF_sorted l (insL_sorted h)
theorem ints_news {W : World} {b o : Nat} {l : List Int} (hc : ∀ j, j < l.length → W.cell? ⟨b, o + j, none⟩ = some (.int .i64 (hz l j))) : ∀ (j : Nat) (u : Value), (l.map (Value.int .i64))[j]? = some u → W.cell? ((⟨b, o, none⟩ : Addr).add j) = some u := by
  intro j u hu
  rw [List.getElem?_map] at hu
  cases hj : l[j]? with
  | none => rw [hj] at hu; simp at hu
  | some z =>
    rw [hj] at hu
    have hlt := (List.getElem?_eq_some_iff.1 hj).1
    have e : hz l j = z := by unfold hz; rw [hj]; rfl
    have h1 := hc j hlt
    rw [e] at h1
    rw [show (⟨b, o, none⟩ : Addr).add j = ⟨b, o + j, none⟩ by unfold Addr.add; split <;> simp_all]
    simp at hu
    rw [← hu]
    exact h1
theorem drop_none {W : World} {ad : Addr} {a : Nat} {out : List Int} (h : out.length ≤ a) : ∀ (j : Nat) (u : Value), ((out.drop a).map (Value.int .i64))[j]? = some u → W.cell? (ad.add j) = some u := by
  intro j u hu
  rw [List.drop_eq_nil_of_le h] at hu
  simp at hu
theorem drop_news {W : World} {g a : Nat} {out : List Int} (hr : Row W g out) : ∀ (j : Nat) (u : Value), ((out.drop a).map (Value.int .i64))[j]? = some u → W.cell? ((⟨g, a, none⟩ : Addr).add j) = some u := ints_news (fun j hj => by
  rw [List.length_drop] at hj
  have := hr.cell (j := a + j) (by omega)
  rw [show hz (out.drop a) j = hz out (a + j) by unfold hz; rw [List.getElem?_drop]]
  simpa using this)
end Go.Proofs.YtpljjeknphnnpaaGreat
namespace Go.Proofs.YtpljjeknphnnpaaGreat
open Go.RowKit
attribute [local go_sem] Plain.and7

/-- What Reach tells. -/
def reachL (zs rs : List Int) : List Int := if rootsR zs rs = true then sortL (ordL zs rs) else []
theorem strs_app (xs ys : List Int) : strOfNums xs ++ strOfNums ys = strOfNums (xs ++ ys) := by
  unfold strOfNums
  rw [ByteArray.mk_append_mk]
  simp
/-- The digits of a number above 0. -/
def digN (m : Nat) : List Int := if m = 0 then [] else digN (m / 10) ++ [48 + ((m % 10 : Nat) : Int)]
  termination_by m
  decreasing_by omega
theorem digN_zero : digN 0 = [] := by rw [digN]; simp
theorem digN_pos {m : Nat} (h : m ≠ 0) : digN m = digN (m / 10) ++ [48 + ((m % 10 : Nat) : Int)] := by
  rw [digN, if_neg h]
theorem digN_len : ∀ (k m : Nat), m < 10 ^ k → (digN m).length ≤ k
  | 0, m, h => by
    have : m = 0 := by simpa using h
    subst this
    rw [digN_zero]
    simp
  | k + 1, m, h => by
    by_cases h0 : m = 0
    · subst h0; rw [digN_zero]; simp
    · rw [digN_pos h0, List.length_append]
      have : m / 10 < 10 ^ k := by rw [Nat.pow_succ] at h; omega
      have := digN_len k (m / 10) this
      simpa using this
def digI (n : Int) : List Int := if n = 0 then [48] else (if n < 0 then [45] else []) ++ digN n.natAbs
theorem digI_len {n : Int} (h : -9223372036854775808 ≤ n ∧ n ≤ 9223372036854775807) : (digI n).length ≤ 21 := by
  have := digN_len 20 n.natAbs (by omega)
  unfold digI
  split
  · simp
  · split <;> simp <;> omega
end Go.Proofs.YtpljjeknphnnpaaGreat
