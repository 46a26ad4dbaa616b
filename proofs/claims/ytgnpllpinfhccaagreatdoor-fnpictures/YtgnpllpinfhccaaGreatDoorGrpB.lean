/-
  The bytes of a text block, as a fact on lists; the contracts of chapter 4's models l4Bytes and TextOf.
  Facts on lists: to what a value leads; lists of places, each once.
  A block of the slab is found at its place.
  What a right heap holds (facts on lists): each block is right, each of its values leads to a block, or nowhere.
  Facts on lists: the blocks that are reached, in the order in which they are met (chapter 7).
  The contracts of chapter 7's models l7Block, l7In and l7Order.
  The contracts of chapter 7's models l7Sort and Reach.
  The contracts of chapter 7's models Reach and l7Digits.
  The contract of chapter 7's model l7Value.
-/
import Derived.Laws.BytesArg
import Derived.Maps.AppendAt
import Derived.Deep.RegionHeld3
import Derived.Deep.AppendLies
import Derived.BigQuiet
import Derived.Laws.Concat
import Derived.Test.YtgnpllpinfhccaaGreatDoorZShapeQ
import Derived.Test.YtgnpllpinfhccaaGreatDoorGrpY
import Derived.Test.YtgnpllpinfhccaaGreatDoorZShapeB
import Derived.Test.YtgnpllpinfhccaaGreatDoorZShapeG
import Derived.Test.YtgnpllpinfhccaaGreatDoorZHelpM
import Derived.Test.YtgnpllpinfhccaaGreatDoorZSeq
namespace Go.Proofs.YtgnpllpinfhccaaGreatDoor
open Go.RowKit
attribute [local go_sem] Plain.and7

def bytesL (zs : List Int) (f n : Nat) : List Int := (List.range n).map (fun i => hz zs (f + i))
theorem bytesL_len (zs : List Int) (f n : Nat) : (bytesL zs f n).length = n := by simp [bytesL]
theorem bytesL_at {zs : List Int} {f n i : Nat} (h : i < n) : (bytesL zs f n).getD i 0 = hz zs (f + i) := by simp [bytesL, List.getD, h]
theorem bytesL_succ (zs : List Int) (f n : Nat) : bytesL zs f (n + 1) = bytesL zs f n ++ [hz zs (f + n)] := by simp [bytesL, List.range_succ]
def textL (zs : List Int) (a : Nat) : List Int := bytesL zs (a + 2) (hz zs (a + 1)).toNat
theorem heapR_blk {zs : List Int} (hh : heapR zs = true) {b : BkOf zs.length} (hb : b ∈ blocks zs) : blkR zs b.1.at' b.1.size b.1.kind = true := by
  unfold heapR at hh
  rw [Bool.and_eq_true] at hh
  exact List.all_eq_true.1 hh.2 b hb
theorem text_facts {zs : List Int} {b : BkOf zs.length} (hh : heapR zs = true) (hb : b ∈ blocks zs) (hk : b.1.kind = 1) :
    ∃ n : Nat, hz zs (b.1.at' + 1) = (n : Int) ∧ n + 2 ≤ b.1.size ∧ ∀ i, i < n → 0 ≤ hz zs (b.1.at' + 2 + i) ∧ hz zs (b.1.at' + 2 + i) ≤ 255 := by
  have h := heapR_blk hh hb
  rw [hk, blk_text] at h
  unfold textR at h
  simp only [Bool.and_eq_true, decide_eq_true_eq, bytesR_iff] at h
  obtain ⟨⟨⟨h0, h1⟩, _⟩, h2⟩ := h
  refine ⟨(hz zs (b.1.at' + 1)).toNat, by omega, by omega, h2⟩
theorem infoB : (Tryz.prog.info? 5).map (fun i => (i.zero, i.size, i.bytes)) = some (some (.int .u8 0), 1, 1) := by kernel_rfl
theorem conv_own {W : World} {base : Nat} {v : Value} {xs : List Int} (h : W.ownsRow base 5 1 v xs.length (xs.map (Value.int .u8))) : (convert 22 9 v).run Tryz.prog W = .ok (.string (strOfNums xs)) W := by
  obtain ⟨hl, ⟨e, hn⟩ | ⟨g, cap, cur, e, hb, hg, h1, h2, h3, h4⟩⟩ := h
  · subst e
    obtain rfl : xs = [] := List.length_eq_zero_iff.1 hn
    exact run_convert_bytes_nil W 22 5 Tryz.underlying22 Tryz.underlying5 0 0 9 Tryz.underlying9
  · subst e
    refine run_convert_bytes_arg W 22 5 Tryz.underlying22 Tryz.underlying5 g 0 xs.length cap xs rfl (fun j hj => ?_) 9 Tryz.underlying9
    simp at hl h4
    have : (cur.toList.take xs.length)[j]? = (xs.map (Value.int .u8))[j]? := by rw [h4]
    rw [List.getElem?_take, if_pos (by omega)] at this
    simp [List.getElem?_eq_getElem hj] at this
    simp only [World.cell?, hg, Nat.zero_add]
    simp [this, List.getD, List.getElem?_eq_getElem hj]

set_option maxHeartbeats 4000000 in
set_option maxRecDepth 100000 in
theorem l4Bytes_ok (w : World) (ao : Option Addr) (cap : Nat) (zs : List Int) (a s n : Nat) (hI : Ints w ao zs) (hl : zs.length ≤ 1048576) (hle : a + s ≤ zs.length) (hn : hz zs (a + 1) = (n : Int)) (hns : n + 2 ≤ s) (hby : ∀ i, i < n → 0 ≤ hz zs (a + 2 + i) ∧ hz zs (a + 2 + i) ≤ 255) :
    Calls Tryz.prog 187 #[.agg #[.slice ao zs.length cap], .int .i64 a] w fun e w' => e = .returned (.string (strOfNums (bytesL zs (a + 2) n))) ∧ Kept w w' := by
  obtain ⟨i0, hi, hz0, hz1, hz2⟩ := info_parts infoB
  have b0 := (Cells.new w 26 #[.slice ao zs.length cap]).alloc (.cells #[] 5)
  have k0 : Kept w ((w.alloc (.cells #[.slice ao zs.length cap] 26)).alloc (.cells #[] 5)) := (Kept.alloc (Below.refl _ _) _).alloc _
  have o0 : ((w.alloc (.cells #[.slice ao zs.length cap] 26)).alloc (.cells #[] 5)).ownsRow (w.heap.size + 1) 5 1 (.slice (some ⟨w.heap.size + 1, 0, none⟩) 0 0) 0 [] := by
    have := World.ownsRow_made (base := w.heap.size + 1) (e := 5) (size := 1) (w.alloc (.cells #[.slice ao zs.length cap] 26)) #[] 0 (by simp) (by unfold maxLen; omega) (by simp)
    simpa using this
  obtain ⟨bb, off, rfl, hc⟩ := hI.at (k := 0) (by omega)
  have hbl : bb < w.heap.size := World.block_lt_of_cell? _ _ (hc 0 (by omega))
  have h1 : w.cell? ⟨bb, off + (a + 1), none⟩ = some (.int .i64 (n : Int)) := by rw [← hn]; exact hc (a + 1) (by omega)
  have hw : ∀ k, k < n → w.cell? ⟨bb, off + (a + 2 + k), none⟩ = some (.int .i64 (hz zs (a + 2 + k))) := fun k hk => hc (a + 2 + k) (by omega)
  have t1 : ((a : Int) + 1).toNat = a + 1 := by omega
  have p1 : (a : Int) + 1 < (zs.length : Int) := by omega
  clear hc hn hI
  go_enter Tryz.func187, Tryz.ntmps187
  go_wp2
  go_loopw [5, 6] (fun v i wr => ∃ k : Nat, i = .int .i64 k ∧ k ≤ n ∧ wr.ownsRow (w.heap.size + 1) 5 1 v (bytesL zs (a + 2) k).length ((bytesL zs (a + 2) k).map (Value.int .u8)) ∧ Cells wr w.heap.size 26 #[.slice (some ⟨bb, off, none⟩) zs.length cap] ∧ Kept w wr ∧ w.heap.size + 1 ≤ wr.heap.size)
    (fun _ i _ => n - (intOf i).toNat)
  case atStart => exact ⟨0, rfl, Nat.zero_le _, o0, b0, k0, by simp⟩
  case round =>
    obtain ⟨k, rfl, hk, hrow, hb, hK, hsz⟩ := hrel
    clear b0 k0 o0
    have cb := hb.cell 0
    have cw1 := (hK.cell (p := ⟨bb, off + (a + 1), none⟩) hbl).trans h1
    have HK : Hid (Kept w wr) := hK
    by_cases hlt : k < n
    · have cw2 := (hK.cell (p := ⟨bb, off + (a + 2 + k), none⟩) hbl).trans (hw k hlt)
      have t2 : ((a : Int) + 2 + (k : Int)).toNat = a + 2 + k := by omega
      have p2 : (a : Int) + 2 + (k : Int) < (zs.length : Int) := by omega
      have p0 : (0 : Int) ≤ (a : Int) + 2 + (k : Int) := by omega
      have u8 := IntWalk.u8_in _ (hby k hlt)
      have g0 := (hby k hlt).1
      have g1 := (hby k hlt).2
      have hll := bytesL_len zs (a + 2) k
      have HS : Hid (bytesL zs (a + 2) (k + 1) = bytesL zs (a + 2) k ++ [hz zs (a + 2 + k)]) := bytesL_succ _ _ _
      clear hK
      go_wp2_with (first | (at_builtin; refine wpList_append_own _ rfl _ _ 22 rfl (w.heap.size + 1) 5 i0 (.int .u8 0) 1 1 Tryz.underlying22 hi hz0 hz1 hz2 rfl (by decide) _ _ _ rfl (hrow.alloc _) ⟨wr.heap.size, 0, none⟩ 1 1 [.int .u8 (hz zs (a + 2 + k))] rfl rfl (cell_one_new _ _ _) (by simp [Value.oneCell']) (by unfold maxLen; omega) (by omega) (by simp; omega) ?_; intro v' w1 hown' hgrow _; have kk : Below (w.heap.size + 1) wr w1 := ((Below.refl _ wr).alloc hsz _).grown hgrow (by simp; omega) (fun j ej => (hrow.lt j ej).1)))
      go_roundw
      case rel => exact ⟨k + 1, by go_num, by omega, by rw [HS.out]; simpa using hown', (kk.block w.heap.size (by omega)).trans hb, Below.trans HK.out (kk.mono (by omega)), Nat.le_trans hsz kk.size⟩
      case measure => simp [intOf]; omega
    · obtain rfl : n = k := by omega
      have hcv := conv_own hrow
      clear hK
      go_wp2
      go_ret
      exact ⟨rfl, HK.out⟩
end Go.Proofs.YtgnpllpinfhccaaGreatDoor
namespace Go.Proofs.YtgnpllpinfhccaaGreatDoor
open Go.RowKit

theorem leads_kind {zs : List Int} {v inner : Int} (h : leadsR zs v inner = true) (h4 : 4 ≤ v % 8) : kindAt zs (v / 8) = wantK (v % 8) inner := by
  unfold leadsR at h
  simp only [Bool.and_eq_true, Bool.or_eq_true, decide_eq_true_eq] at h
  rcases h.2 with h | h
  · omega
  · exact h
theorem nodup_le : ∀ (n : Nat) (ps : List Nat), ps.Nodup → (∀ p ∈ ps, p < n) → ps.length ≤ n
  | 0, ps, _, h => by
    cases ps with
    | nil => simp
    | cons p _ => exact absurd (h p (by simp)) (by omega)
  | n + 1, ps, hd, h => by
    have h1 := nodup_le n (ps.erase n) (hd.erase n) (fun p hp => by
      have := hd.mem_erase_iff.1 hp
      have := h p this.2
      omega)
    have := List.length_erase (a := n) (l := ps)
    split at this <;> omega
end Go.Proofs.YtgnpllpinfhccaaGreatDoor
namespace Go.Proofs.YtgnpllpinfhccaaGreatDoor
open Go.RowKit

theorem atB_mem {zs : List Int} (hok : slabOk zs = true) {b : BkOf zs.length} (hb : b ∈ blocks zs) : atB zs ((b.1.at' : Nat) : Int) = some b := by
  unfold atB
  rw [if_pos hok]
  obtain ⟨p, r, e⟩ := List.append_of_mem hb
  have hs := blks_sorted zs 0
  rw [show blks zs 0 = blocks zs from rfl, e] at hs
  rw [e, List.find?_append]
  have : p.find? (fun c => decide (((c.1.at' : Nat) : Int) = ((b.1.at' : Nat) : Int))) = none := by
    rw [List.find?_eq_none]
    intro c hc
    have := (List.pairwise_append.1 hs).2.2 c hc b (by simp)
    simp; omega
  rw [this]
  simp
end Go.Proofs.YtgnpllpinfhccaaGreatDoor
namespace Go.Proofs.YtgnpllpinfhccaaGreatDoor
open Go.RowKit

theorem someL_at {a n k : Nat} (h : k < n) : hz (someL a n) k = ((a + k : Nat) : Int) := by simp [hz, someL, h]
theorem goal_pos (r k : Int) : 1 ≤ goalR r k := by
  unfold goalR
  repeat' split
  all_goals omega
theorem slots_facts {zs : List Int} (hh : heapR zs = true) {b : BkOf zs.length} (hb : b ∈ blocks zs) :
    shapeR zs ((b.1.at' : Nat) : Int) = true ∧ (slotsL zs ((b.1.at' : Nat) : Int)).length ≤ zs.length ∧ ∀ k, k < (slotsL zs ((b.1.at' : Nat) : Int)).length → ∃ p : Nat, hz (slotsL zs ((b.1.at' : Nat) : Int)) k = p ∧ p < zs.length ∧ vOk (hz zs p) = true ∧ (4 ≤ hz zs p % 8 → 1 ≤ kindAt zs (hz zs p / 8)) := by
  have hok := heapR_slab hh
  have ha := atB_mem hok hb
  have hr := heapR_blk hh hb
  have hlen := (slabOk_iff.1 hok).1
  have hble := b.2.2.1
  have hk5 := b.2.2.2
  unfold shapeR slotsL
  rw [ha]
  simp only
  refine ⟨hr, by have := slL_len b.1.at' b.1.kind b.1.size; omega, fun k hk => ?_⟩
  have hoff : 1 ≤ slOff b.1.kind := by unfold slOff; split <;> omega
  rw [slL, someL_len] at hk
  rw [slL, someL_at hk]
  refine ⟨_, rfl, by omega, ?_⟩
  unfold blkR at hr
  rw [Bool.and_eq_true, wordsR_iff] at hr
  have hw := hr.2 (slOff b.1.kind + k) (by omega) (by omega)
  have hrole := role_value hk5 (hz zs (b.1.at' + 1)) (k := slOff b.1.kind + k) (by omega) (by omega)
  rw [show decide (slOff b.1.kind ≤ slOff b.1.kind + k ∧ slOff b.1.kind + k < slOff b.1.kind + slMany b.1.kind) = true by simp; omega] at hrole
  simp only [decide_eq_true_eq] at hrole
  rw [show b.1.at' + (slOff b.1.kind + k) = b.1.at' + slOff b.1.kind + k by omega] at hw
  obtain ⟨v, hv⟩ : ∃ v, hz zs (b.1.at' + slOff b.1.kind + k) = v := ⟨_, rfl⟩
  rw [hv] at hw ⊢
  unfold wordR at hw
  rw [if_neg (by omega), if_neg (by omega), if_neg (by omega), if_neg (by omega), if_neg (by omega)] at hw
  unfold valR at hw
  simp only [Bool.and_eq_true, Bool.or_eq_true, Bool.not_eq_true', decide_eq_true_eq, decide_eq_false_iff_not] at hw
  refine ⟨hw.1.1, fun h4 => ?_⟩
  rcases hw.2 with h | h
  · omega
  · rw [h]
    exact goal_pos _ _
end Go.Proofs.YtgnpllpinfhccaaGreatDoor
namespace Go.Proofs.YtgnpllpinfhccaaGreatDoor
open Go.RowKit

def blkV (v : Int) : Int := if v % 8 < 4 then -1 else v / 8
def addB (out : List Int) (a : Int) : List Int := if 0 ≤ a ∧ a ∉ out then out ++ [a] else out
def meetL (out vs : List Int) : List Int := vs.foldl (fun o v => addB o (blkV v)) out
theorem meetL_snoc (out vs : List Int) (v : Int) : meetL out (vs ++ [v]) = addB (meetL out vs) (blkV v) := by simp [meetL]
def slotV (zs : List Int) (a : Int) : List Int := (slotsL zs a).map (fun j => hz zs j.toNat)
theorem slotV_len (zs : List Int) (a : Int) : (slotV zs a).length = (slotsL zs a).length := by simp [slotV]
def ordF (zs : List Int) : Nat → Nat → List Int → List Int
  | 0, _, out => out
  | n + 1, k, out => match out[k]? with | some a => ordF zs n (k + 1) (meetL out (slotV zs a)) | none => out
theorem ordF_on {zs out : List Int} {n k : Nat} {a : Int} (h : out[k]? = some a) : ordF zs (n + 1) k out = ordF zs n (k + 1) (meetL out (slotV zs a)) := by simp [ordF, h]
theorem ordF_end {zs out : List Int} {n k : Nat} (h : out.length ≤ k) : ordF zs n k out = out := by
  cases n with
  | zero => rfl
  | succ n => simp [ordF, List.getElem?_eq_none h]
def ordL (zs rs : List Int) : List Int := ordF zs (zs.length + 1) 0 (meetL [] rs)
def Met (zs out : List Int) : Prop := out.Nodup ∧ ∀ a ∈ out, 1 ≤ kindAt zs a
theorem kind_nat {zs : List Int} {a : Int} (h : 1 ≤ kindAt zs a) : ∃ n : Nat, a = n ∧ n < zs.length ∧ Good zs n ∧ slotsL zs a = slL n (kd zs n) (sz zs n) ∧ ∃ b ∈ blocks zs, b.1.at' = n := by
  unfold kindAt at h
  cases hb : atB zs a with
  | none => rw [hb] at h; simp at h
  | some b =>
    obtain ⟨_, e, hg, hs, hk, hm⟩ := atB_some hb
    exact ⟨b.1.at', e.symm, hg.lt, hg, by unfold slotsL; rw [hb, ← hs, ← hk], b, hm, rfl⟩
theorem nodup_toNat {l : List Int} (h0 : ∀ a ∈ l, 0 ≤ a) (hd : l.Nodup) : (l.map Int.toNat).Nodup := by
  induction l with
  | nil => simp
  | cons x l ih =>
    have hd' := List.nodup_cons.1 hd
    rw [List.map_cons]
    refine List.nodup_cons.2 ⟨fun hm => ?_, ih (fun a ha => h0 a (List.mem_cons_of_mem _ ha)) hd'.2⟩
    obtain ⟨y, hy, e⟩ := List.mem_map.1 hm
    have h1 := h0 x (by simp)
    have h2 := h0 y (List.mem_cons_of_mem _ hy)
    have : y = x := by omega
    rw [this] at hy
    exact hd'.1 hy
theorem Met.len {zs out : List Int} (h : Met zs out) : out.length ≤ zs.length := by
  have h0 : ∀ a ∈ out, 0 ≤ a := fun a ha => by
    obtain ⟨n, e, _⟩ := kind_nat (h.2 a ha)
    omega
  have := nodup_le zs.length (out.map Int.toNat) (nodup_toNat h0 h.1) (fun p hp => by
    obtain ⟨a, ha, rfl⟩ := List.mem_map.1 hp
    obtain ⟨n, e, hn, _⟩ := kind_nat (h.2 a ha)
    omega)
  simpa using this
theorem Met.bd {zs out : List Int} (h : Met zs out) (hl : zs.length ≤ 1048576) : ∀ a ∈ out, -9223372036854775808 ≤ a ∧ a ≤ 9223372036854775807 := fun a ha => by
  obtain ⟨n, e, hn, _⟩ := kind_nat (h.2 a ha)
  omega
theorem Met.add {zs out : List Int} {a : Int} (h : Met zs out) (ha : 0 ≤ a → 1 ≤ kindAt zs a) : Met zs (addB out a) := by
  unfold addB
  split
  · rename_i hc
    refine ⟨?_, fun x hx => ?_⟩
    · rw [List.nodup_append]
      exact ⟨h.1, by simp, fun x hx y hy => by simp at hy; subst hy; intro e; subst e; exact hc.2 hx⟩
    · rcases List.mem_append.1 hx with h' | h'
      · exact h.2 x h'
      · simp at h'; subst h'; exact ha hc.1
  · exact h
def Leads (zs vs : List Int) : Prop := ∀ v ∈ vs, 0 ≤ blkV v → 1 ≤ kindAt zs (blkV v)
theorem Met.meet {zs : List Int} : ∀ {vs out : List Int}, Met zs out → Leads zs vs → Met zs (meetL out vs)
  | [], out, h, _ => h
  | v :: vs, out, h, hv => Met.meet (vs := vs) (h.add (hv v (by simp))) (fun x hx => hv x (List.mem_cons_of_mem _ hx))
theorem blkV_bd {v : Int} (h : -9223372036854775808 ≤ v ∧ v ≤ 9223372036854775807) : -9223372036854775808 ≤ blkV v ∧ blkV v ≤ 9223372036854775807 := by
  unfold blkV
  split <;> omega
theorem leads_roots {zs rs : List Int} (h : rootsR zs rs = true) : Leads zs rs := by
  intro v hv h0
  unfold rootsR leadAll at h
  simp only [Bool.and_eq_true] at h
  obtain ⟨j, hj, e⟩ := List.getElem_of_mem hv
  have h1 := allR_iff.1 h.2 j hj
  have e1 : hz rs j = v := by unfold hz; rw [List.getElem?_eq_getElem hj]; exact e
  rw [e1] at h1
  unfold blkV at h0 ⊢
  split
  · rename_i h4; rw [if_pos h4] at h0; omega
  · rename_i h4
    have hk := leads_kind h1 (by omega)
    rw [hk]
    unfold wantK
    repeat' split
    all_goals omega
theorem slotV_at {zs : List Int} {a : Int} {i : Nat} (h : i < (slotsL zs a).length) : hz (slotV zs a) i = hz zs (hz (slotsL zs a) i).toNat := by
  unfold slotV hz
  rw [List.getElem?_map, List.getElem?_eq_getElem h]
  rfl
theorem leads_slots {zs : List Int} {a : Int} (hh : heapR zs = true) (ha : 1 ≤ kindAt zs a) : Leads zs (slotV zs a) ∧ (slotsL zs a).length ≤ zs.length ∧ ∀ i, i < (slotsL zs a).length → ∃ p : Nat, hz (slotsL zs a) i = p ∧ p < zs.length := by
  obtain ⟨n, e, _, _, _, b, hb, hbn⟩ := kind_nat ha
  have hf := slots_facts hh hb
  rw [hbn, ← e] at hf
  refine ⟨fun v hv h0 => ?_, hf.2.1, fun i hi => ?_⟩
  · obtain ⟨i, hi, ei⟩ := List.getElem_of_mem hv
    rw [slotV_len] at hi
    obtain ⟨p, hp, hpl, hok, hk⟩ := hf.2.2 i hi
    have e1 : v = hz zs p := by
      have := slotV_at hi
      rw [hp, Int.toNat_natCast] at this
      rw [← this]
      unfold hz
      rw [List.getElem?_eq_getElem (by rw [slotV_len]; exact hi)]
      exact ei.symm
    rw [e1] at h0 ⊢
    unfold blkV at h0 ⊢
    split
    · rename_i h4; rw [if_pos h4] at h0; omega
    · rename_i h4
      exact hk (by omega)
  · obtain ⟨p, hp, hpl, _⟩ := hf.2.2 i hi
    exact ⟨p, hp, hpl⟩
theorem Met.ord {zs : List Int} (hh : heapR zs = true) : ∀ (n k : Nat) {out : List Int}, Met zs out → Met zs (ordF zs n k out)
  | 0, _, _, h => h
  | n + 1, k, out, h => by
    unfold ordF
    split
    · rename_i a ha
      have hk := h.2 a (List.mem_of_getElem? ha)
      exact Met.ord hh n (k + 1) (h.meet (leads_slots hh hk).1)
    · exact h
theorem ordL_met {zs rs : List Int} (h : rootsR zs rs = true) : Met zs (ordL zs rs) := by
  have hh : heapR zs = true := by
    unfold rootsR at h
    simp only [Bool.and_eq_true] at h
    exact h.1
  exact Met.ord hh _ _ (Met.meet ⟨List.nodup_nil, by simp⟩ (leads_roots h))
end Go.Proofs.YtgnpllpinfhccaaGreatDoor
namespace Go.Proofs.YtgnpllpinfhccaaGreatDoor
open Go.RowKit
attribute [local go_sem] Plain.and7

set_option maxHeartbeats 2000000 in
theorem l7Block_ok (v : Int) (w : World) : Calls Tryz.prog 61 #[.int .i64 v] w fun e w' => e = .returned (.int .i64 (blkV v)) ∧ w = w' := by
  by_cases h : v % 8 < 4
  · have HB : Hid (blkV v = -1) := by simp [Hid, blkV, h]
    go_enter Tryz.func61, Tryz.ntmps61
    go_wp2_with (first | (go_at_call 64; refine (spec_Kind_ok _ _).mono ?_; rintro e wx ⟨rfl, rfl⟩))
    go_ret
    exact ⟨by rw [HB.out]; rfl, rfl⟩
  · have HB : Hid (blkV v = v / 8) := by simp [Hid, blkV, h]
    go_enter Tryz.func61, Tryz.ntmps61
    go_wp2_with (first | (go_at_call 64; refine (spec_Kind_ok _ _).mono ?_; rintro e wx ⟨rfl, rfl⟩) | (go_at_call 65; refine (spec_Num_ok _ _).mono ?_; rintro e wx ⟨rfl, rfl⟩))
    go_ret
    exact ⟨by rw [HB.out]; rfl, rfl⟩
theorem hz_mem {l : List Int} {k : Nat} (h : k < l.length) : hz l k ∈ l := by
  unfold hz
  rw [List.getElem?_eq_getElem h]
  exact List.getElem_mem h
set_option maxHeartbeats 4000000 in
theorem l7In_ok (w : World) (ao : Option Addr) (cap : Nat) (l : List Int) (x : Int) (hI : Ints w ao l) (hl : l.length ≤ 1048576) :
    Calls Tryz.prog 62 #[.slice ao l.length cap, .int .i64 x] w fun e w' => e = .returned (.bool (decide (x ∈ l))) ∧ w = w' := by
  have HI : Hid _ := hI
  clear hI
  go_enter Tryz.func62, Tryz.ntmps62
  go_wp2_with fail
  go_loopw [5] (fun i wr => ∃ k : Nat, i = .int .i64 k ∧ k ≤ l.length ∧ (∀ j, j < k → hz l j ≠ x) ∧ wr = w) (fun i _ => l.length - (intOf i).toNat)
  case atStart => exact ⟨0, rfl, Nat.zero_le _, fun j hj => by omega, rfl⟩
  case round =>
    obtain ⟨k, rfl, hk, hno, rfl⟩ := hrel
    have HNo : Hid _ := hno
    clear hno
    by_cases hlt : k < l.length
    · obtain ⟨b, o, rfl, hc⟩ := Ints.at HI.out hlt
      have c1 := hc k hlt
      have q1 : (k : Int) < (l.length : Int) := by omega
      have q0 : (0 : Int) ≤ (k : Int) := by omega
      clear hc
      by_cases he : hz l k = x
      · have hm : x ∈ l := by rw [← he]; exact hz_mem hlt
        have HD : Hid (decide (x ∈ l) = true) := by simpa [Hid] using hm
        have hq : (hz l k == x) = true := by simpa using he
        clear hm he
        go_wp2_with fail
        go_ret
        exact ⟨by rw [HD.out]; rfl, rfl⟩
      · have hq : (hz l k == x) = false := by simpa using he
        have HE : Hid _ := he
        clear he
        go_wp2_with fail
        go_roundw
        case rel =>
          refine ⟨k + 1, by go_num, by omega, fun j hj => ?_, by trivial⟩
          rcases Nat.lt_or_ge j k with h | h
          · exact HNo.out j h
          · have : j = k := by omega
            subst this
            exact HE.out
        case measure => simp [intOf]; omega
    · obtain rfl : k = l.length := by omega
      have HD : Hid (decide (x ∈ l) = false) := by
        have : x ∉ l := fun hm => by
          obtain ⟨j, hj, e⟩ := List.getElem_of_mem hm
          exact HNo.out j hj (by unfold hz; rw [List.getElem?_eq_getElem hj]; exact e)
        simpa [Hid] using this
      go_wp2_with fail
      go_ret
      exact ⟨by rw [HD.out]; rfl, rfl⟩
theorem addB_yes {out : List Int} {a : Int} (h0 : 0 ≤ a) (h : decide (a ∈ out) = false) : addB out a = out ++ [a] := by
  unfold addB
  rw [if_pos ⟨h0, by simpa using h⟩]
theorem addB_in {out : List Int} {a : Int} (h : decide (a ∈ out) = true) : addB out a = out := by
  unfold addB
  rw [if_neg (fun hc => hc.2 (by simpa using h))]
theorem addB_no {out : List Int} {a : Int} (h : ¬ 0 ≤ a) : addB out a = out := by
  unfold addB
  rw [if_neg (fun hc => h hc.1)]
theorem addB_len (out : List Int) (a : Int) : out.length ≤ (addB out a).length := by
  unfold addB
  split <;> simp
theorem meetL_len : ∀ (vs out : List Int), out.length ≤ (meetL out vs).length
  | [], _ => Nat.le_refl _
  | v :: vs, out => Nat.le_trans (addB_len out (blkV v)) (meetL_len vs (addB out (blkV v)))
theorem take_hz {l : List Int} {k : Nat} (h : k < l.length) : l.take (k + 1) = l.take k ++ [hz l k] := by
  rw [List.take_succ_eq_append_getElem h]
  unfold hz
  rw [List.getElem?_eq_getElem h]
  rfl
theorem OwnL.snoc {W : World} {base : Nat} {v : Value} {l : List Int} {a : Int} (h0 : ∀ z ∈ l ++ [a], -9223372036854775808 ≤ z ∧ z ≤ 9223372036854775807) (h : W.ownsRow base 3 1 v (l.length + 1) (l.map (Value.int .i64) ++ [.int .i64 a])) : OwnL W base v (l ++ [a]) := by
  refine ⟨h0, ?_⟩
  rw [List.length_append, List.map_append]
  exact h
theorem Ints.far {W W' : World} {so : Option Addr} {l : List Int} {row : Option Nat} (h : Ints W so l) (hg : W.grownBy W' row) (hne : ∀ x, so = some x → row ≠ some x.block) : Ints W' so l := by
  refine ⟨h.1, ?_⟩
  rcases h.2 with h | ⟨b, off, rfl, hc⟩
  · exact .inl h
  · exact .inr ⟨b, off, rfl, fun j hj => (hg.cell_far ⟨b, off + j, none⟩ (World.block_lt_of_cell? _ _ (hc j hj)) (Ne.symm (hne ⟨b, off, none⟩ rfl))).trans (hc j hj)⟩
set_option maxHeartbeats 16000000 in
set_option maxRecDepth 100000 in
theorem l7Order_ok (w : World) (ao ro : Option Addr) (cap rc : Nat) (zs rs : List Int) (hI : Ints w ao zs) (hl : zs.length ≤ 1048576) (hR : Ints w ro rs) (hrl : rs.length ≤ 1048576) (hr : rootsR zs rs = true) :
    Calls Tryz.prog 37 #[.agg #[.slice ao zs.length cap], .slice ro rs.length rc] w fun e w' => ∃ v, e = .returned v ∧ OwnL w' w.heap.size v (ordL zs rs) ∧ Kept w w' := by
  obtain ⟨i0, hi, hz0, hz1, hz2⟩ := info_parts infoI
  have hh : heapR zs = true := by
    unfold rootsR at hr
    simp only [Bool.and_eq_true] at hr
    exact hr.1
  have HH : Hid _ := hh
  have HLR : Hid _ := leads_roots hr
  have HI : Hid _ := hI
  have HR : Hid _ := hR
  have b0 := (Cells.new w 26 #[.slice ao zs.length cap]).alloc (.cells #[] 3)
  have k0 : Kept w ((w.alloc (.cells #[.slice ao zs.length cap] 26)).alloc (.cells #[] 3)) := (Kept.alloc (Below.refl _ _) _).alloc _
  have o0 : OwnL ((w.alloc (.cells #[.slice ao zs.length cap] 26)).alloc (.cells #[] 3)) (w.heap.size + 1) (.slice (some ⟨w.heap.size + 1, 0, none⟩) 0 0) [] := by
    refine ⟨by simp, ?_⟩
    have := World.ownsRow_made (base := w.heap.size + 1) (e := 3) (size := 1) (w.alloc (.cells #[.slice ao zs.length cap] 26)) #[] 0 (by simp) (by unfold maxLen; omega) (by simp)
    simpa using this
  clear hr hh hI hR
  go_enter Tryz.func37, Tryz.ntmps37
  go_wp2_with fail
  go_loopw [5, 6] (fun v i wr => ∃ k : Nat, i = .int .i64 k ∧ k ≤ rs.length ∧ OwnL wr (w.heap.size + 1) v (meetL [] (rs.take k)) ∧ Cells wr w.heap.size 26 #[.slice ao zs.length cap] ∧ Kept w wr ∧ w.heap.size + 1 ≤ wr.heap.size)
    (fun _ i _ => rs.length - (intOf i).toNat)
  case atStart => exact ⟨0, rfl, Nat.zero_le _, by simpa [meetL] using o0, b0, k0, by simp⟩
  case round =>
    obtain ⟨k, rfl, hk, hO, hb, hK, hsz⟩ := hrel
    clear b0 k0 o0
    have HM : Hid (Met zs (meetL [] (rs.take k))) := Met.meet ⟨List.nodup_nil, by simp⟩ (fun v hv => HLR.out v (List.mem_of_mem_take hv))
    have hml := Met.len HM.out
    by_cases hlt : k < rs.length
    · have HT : Hid (meetL [] (rs.take (k + 1)) = addB (meetL [] (rs.take k)) (blkV (hz rs k))) := by rw [Hid, take_hz hlt, meetL_snoc]
      have HM2 : Hid (Met zs (meetL [] (rs.take (k + 1)))) := Met.meet ⟨List.nodup_nil, by simp⟩ (fun v hv => HLR.out v (List.mem_of_mem_take hv))
      obtain ⟨b1, o1, e1, hc1⟩ := Ints.at (Ints.kept HR.out hK) hlt
      have c1 := hc1 k hlt
      obtain ⟨out, hout⟩ : ∃ out, meetL [] (rs.take k) = out := ⟨_, rfl⟩
      rw [hout] at HT HM hml hO
      obtain ⟨va, vc, rfl, hIv⟩ := hO.ints
      have HO : Hid _ := hO
      have q1 : (k : Int) < (rs.length : Int) := by omega
      have q0 : (0 : Int) ≤ (k : Int) := by omega
      have hIn := l7In_ok wr va vc out (blkV (hz rs k)) hIv (by omega)
      have HK : Hid _ := hK
      obtain ⟨bv, hbv⟩ : ∃ bv, blkV (hz rs k) = bv := ⟨_, rfl⟩
      have hBk := fun (u : World) => l7Block_ok (hz rs k) u
      rw [hbv] at HT hIn hBk
      have hrow := hO.2
      have hlt' := fun j (ej : (Value.slice va out.length vc).ownBlock = some j) => (hrow.lt j ej).1
      subst e1
      clear hc1 hK hbv hout hO hIv
      by_cases h0 : (0 : Int) ≤ bv
      · have g0 : decide ((0 : Int) ≤ bv) = true := by simpa using h0
        cases hd : decide (bv ∈ out) with
        | true =>
          rw [hd] at hIn
          have HE : Hid _ := addB_in hd
          clear hd
          go_wp2_with (first | (go_at_call 61; refine (hBk _).mono ?_; rintro e wx ⟨rfl, rfl⟩) | (go_at_call 62; refine hIn.mono ?_; rintro e wx ⟨rfl, rfl⟩))
          go_roundw
          case rel => exact ⟨k + 1, by go_num, by omega, by rw [HT.out, HE.out]; exact HO.out, hb, HK.out, hsz⟩
          case measure => simp [intOf]; omega
        | false =>
          rw [hd] at hIn
          have HE : Hid _ := addB_yes h0 hd
          clear hd
          go_wp2_with (first | (go_at_call 61; refine (hBk _).mono ?_; rintro e wx ⟨rfl, rfl⟩) | (go_at_call 62; refine hIn.mono ?_; rintro e wx ⟨rfl, rfl⟩) | (at_builtin; refine wpList_append_own _ rfl _ _ 24 rfl (w.heap.size + 1) 3 i0 (.int .i64 0) 1 8 Tryz.underlying24 hi hz0 hz1 hz2 rfl (by decide) _ _ _ rfl (hrow.alloc _) ⟨wr.heap.size, 0, none⟩ 1 1 [.int .i64 bv] rfl rfl (cell_one_new _ _ _) (by simp [Value.oneCell']) (by unfold maxLen; omega) (by omega) (by simp; omega) ?_; intro v' w1 hown' hgrow _; have kk : Below (w.heap.size + 1) wr w1 := ((Below.refl _ wr).alloc hsz _).grown hgrow (by simp; omega) (fun j ej => hlt' j ej)))
          go_roundw
          case rel =>
            refine ⟨k + 1, by go_num, by omega, ?_, (kk.block w.heap.size (by omega)).trans hb, Below.trans HK.out (kk.mono (by omega)), Nat.le_trans hsz kk.size⟩
            have hbd := Met.bd HM2.out hl
            rw [HT.out, HE.out] at hbd ⊢
            exact OwnL.snoc hbd hown'
          case measure => simp [intOf]; omega
      · have g0 : decide ((0 : Int) ≤ bv) = false := by simpa using h0
        have HE : Hid _ := addB_no (out := out) h0
        clear hIn
        go_wp2_with (first | (go_at_call 61; refine (hBk _).mono ?_; rintro e wx ⟨rfl, rfl⟩))
        go_roundw
        case rel => exact ⟨k + 1, by go_num, by omega, by rw [HT.out, HE.out]; exact HO.out, hb, HK.out, hsz⟩
        case measure => simp [intOf]; omega
    · obtain rfl : k = rs.length := by omega
      rw [List.take_length] at HM hO hml
      have HOR : Hid (ordL zs rs = ordF zs (zs.length + 1 - 0) 0 (meetL [] rs)) := rfl
      obtain ⟨out0, hout⟩ : ∃ out, meetL [] rs = out := ⟨_, rfl⟩
      rw [hout] at HM hO hml HOR
      have HO : Hid _ := hO
      have HK : Hid _ := hK
      have Hb : Hid _ := hb
      have Hsz : Hid _ := hsz
      clear hout hO hK hb hsz
      go_wp2_with fail
      go_loopw [5, 8] (fun v i wr => ∃ (k : Nat) (out : List Int), i = .int .i64 k ∧ k ≤ out.length ∧ Met zs out ∧ ordL zs rs = ordF zs (zs.length + 1 - k) k out ∧ OwnL wr (w.heap.size + 1) v out ∧ Cells wr w.heap.size 26 #[.slice ao zs.length cap] ∧ Kept w wr ∧ w.heap.size + 1 ≤ wr.heap.size)
        (fun _ i _ => zs.length - (intOf i).toNat)
      case atStart => exact ⟨0, out0, rfl, Nat.zero_le _, HM.out, HOR.out, HO.out, Hb.out, HK.out, Hsz.out⟩
      case round =>
        obtain ⟨k, out, rfl, hk, hM, hOF, hO, hb, hK, hsz⟩ := hrel
        have hol := hM.len
        have HM : Hid _ := hM
        have HOF : Hid _ := hOF
        obtain ⟨va, vc, rfl, hIv⟩ := hO.ints
        have HO : Hid _ := hO
        by_cases hlt : k < out.length
        · have ek : out[k]? = some (hz out k) := by unfold hz; rw [List.getElem?_eq_getElem hlt]; rfl
          have hka := hM.2 _ (hz_mem hlt)
          obtain ⟨hLd, hsl, hsp⟩ := leads_slots HH.out hka
          obtain ⟨n, en, hn, hg, esl, _⟩ := kind_nat hka
          have HN : Hid (ordL zs rs = ordF zs (zs.length + 1 - (k + 1)) (k + 1) (meetL out (slotV zs (hz out k)))) := by
            rw [Hid, hOF, show zs.length + 1 - k = (zs.length + 1 - (k + 1)) + 1 by omega, ordF_on ek]
          have HLd : Hid _ := hLd
          have HSV : Hid (∀ i, i < (slotsL zs (hz out k)).length → hz (slotV zs (hz out k)) i = hz zs (hz (slotsL zs (hz out k)) i).toNat) := fun i hi => slotV_at hi
          have HSL : Hid ((slotV zs (hz out k)).length = (slotsL zs (hz out k)).length) := slotV_len _ _
          obtain ⟨b1, o1, e1, hc1⟩ := hIv.at hlt
          have c1 := hc1 k hlt
          rw [en] at c1
          have hL3 := fun (u : World) (hu : Kept w u) => l3Slots_ok u ao cap zs n (Ints.kept HI.out hu) hl hg
          rw [← esl] at hL3
          obtain ⟨sl, hsl0⟩ : ∃ sl, slotsL zs (hz out k) = sl := ⟨_, rfl⟩
          obtain ⟨sv, hsv0⟩ : ∃ sv, slotV zs (hz out k) = sv := ⟨_, rfl⟩
          rw [hsl0] at hL3 hsl HSV HSL hsp
          rw [hsv0] at HN HLd HSV HSL
          have HL3 : Hid _ := hL3
          have q1 : (k : Int) < (out.length : Int) := by omega
          have q0 : (0 : Int) ≤ (k : Int) := by omega
          have kd : Kept wr wr.drew := (Below.refl _ wr).drew
          have cb := (hb.kept kd).cell 0
          have lb1 : b1 < wr.heap.size := World.block_lt_of_cell? _ _ c1
          have cd := (kd.cell (p := ⟨b1, o1 + k, none⟩) lb1).trans c1
          have K2 := hK.trans kd
          subst e1
          have Hb : Hid _ := hb
          have HK : Hid _ := hK
          have HSP : Hid _ := hsp
          clear hc1 hM hOF hO hIv hka hLd en hg esl hsl0 hsv0 hL3 c1 hb hK ek hsp
          go_wp2_with fail
          go_region_held3 (fun w' => w'.cell? ⟨w.heap.size, 0, none⟩ = some (.slice ao zs.length cap) ∧ w'.cell? ⟨b1, o1 + k, none⟩ = some (.int .i64 (n : Int)))
            (first
              | exact ⟨by assumption, by assumption⟩
              | go_keep)
            (first
              | (go_at_call 63; refine (HL3.out _ K2).mono ?_; rintro e w3 ⟨v3, rfl, hO3, hk3⟩; have kx := kd.trans hk3; have cb3 := (Cells.kept Hb.out kx).cell 0; have cd3 := (hk3.cell (p := ⟨b1, o1 + k, none⟩) (by simpa using lb1)).trans cd; obtain ⟨so, sc, rfl, hI3⟩ := hO3.ints; have hbl3 := hO3.2.lt))
          all_goals (
            have O3 := OwnL.kept (row := none) HO.out (Kept.grown kx) (fun k e => by cases e)
            have b3 := Cells.kept Hb.out kx
            have K3 := Kept.trans HK.out kx
            have hs3 := kx.size
            have hvb : ∀ j, (Value.slice (some ⟨b1, o1, none⟩) out.length vc).ownBlock = some j → j < wr.heap.size := fun j e => by simp [Value.ownBlock] at e; omega
            have hso : ∀ x, so = some x → sl ≠ [] → wr.heap.size ≤ x.block ∧ x.block < w3.heap.size := fun x ex _ => by
              have := hbl3 x.block (by rw [ex]; rfl)
              simpa using this
            have HI3 : Hid _ := hI3
            have HO3 : Hid _ := O3
            have Hb3 : Hid _ := b3
            have HK3 : Hid _ := K3
            have Hso : Hid _ := hso
            have Hvb : Hid _ := hvb
            clear hI3 O3 b3 K3 hO3 hbl3 cb3 cd3 cb cd hso hvb kx kd K2
            go_wp2_with fail
            go_loopw [5, 10] (fun v i wr => ∃ j : Nat, i = .int .i64 j ∧ j ≤ sl.length ∧ OwnL wr (w.heap.size + 1) v (meetL out (sv.take j)) ∧ Ints wr so sl ∧ (∀ x, so = some x → sl ≠ [] → x.block < wr.heap.size ∧ v.ownBlock ≠ some x.block) ∧ Cells wr w.heap.size 26 #[.slice ao zs.length cap] ∧ Kept w wr ∧ w.heap.size + 1 ≤ wr.heap.size)
              (fun _ i _ => sl.length - (intOf i).toNat)
            case atStart => exact ⟨0, rfl, Nat.zero_le _, by rw [List.take_zero]; exact HO3.out, HI3.out, fun x ex hx => ⟨(Hso.out x ex hx).2, fun e => by have := Hvb.out _ e; have := (Hso.out x ex hx).1; omega⟩, Hb3.out, HK3.out, by omega⟩
            case round =>
              obtain ⟨j, rfl, hj, hO4, hI4, hso4, hb4, hK4, hsz4⟩ := hrel
              have HM4 : Hid (Met zs (meetL out (sv.take j))) := Met.meet HM.out (fun v hv => HLd.out v (List.mem_of_mem_take hv))
              have hml := Met.len HM4.out
              by_cases hlj : j < sl.length
              · obtain ⟨p, hp, hpl⟩ := HSP.out j hlj
                have evj : hz sv j = hz zs p := by rw [HSV.out j hlj, hp, Int.toNat_natCast]
                have hjv : j < sv.length := by rw [HSL.out]; exact hlj
                have HT : Hid (meetL out (sv.take (j + 1)) = addB (meetL out (sv.take j)) (blkV (hz zs p))) := by rw [Hid, take_hz hjv, meetL_snoc, evj]
                have HM5 : Hid (Met zs (meetL out (sv.take (j + 1)))) := Met.meet HM.out (fun v hv => HLd.out v (List.mem_of_mem_take hv))
                obtain ⟨b5, o5, e5, hc5⟩ := hI4.at hlj
                have c5 := hc5 j hlj
                rw [hp] at c5
                obtain ⟨b6, o6, e6, hc6⟩ := Ints.at (Ints.kept HI.out hK4) hpl
                have c6 := hc6 p hpl
                have l5 : b5 < wr.heap.size := World.block_lt_of_cell? _ _ c5
                have l6 : b6 < wr.heap.size := World.block_lt_of_cell? _ _ c6
                obtain ⟨out4, hout4⟩ : ∃ o, meetL out (sv.take j) = o := ⟨_, rfl⟩
                rw [hout4] at HT HM4 hml hO4
                obtain ⟨ua, uc, rfl, hIu⟩ := hO4.ints
                have HO4 : Hid _ := hO4
                have g1 : (j : Int) < (sl.length : Int) := by omega
                have g2 : (0 : Int) ≤ (j : Int) := by omega
                have g3 : (p : Int) < (zs.length : Int) := by omega
                have g4 : (0 : Int) ≤ (p : Int) := by omega
                have g5 : ((p : Int)).toNat = p := by omega
                have kd7 : ∀ u, Kept wr.drew u → Kept wr u := fun u hu => Kept.trans (Below.refl _ wr).drew hu
                have y0 : ∀ u, Kept wr.drew u → u.cell? ⟨w.heap.size, 0, none⟩ = some (.slice ao zs.length cap) := fun u hu => (hb4.kept (kd7 u hu)).cell 0
                have y1 : ∀ u, Kept wr.drew u → u.cell? ⟨b5, o5 + j, none⟩ = some (.int .i64 (p : Int)) := fun u hu => ((kd7 u hu).cell (p := ⟨b5, o5 + j, none⟩) l5).trans c5
                have y2 : ∀ u, Kept wr.drew u → u.cell? ⟨b6, o6 + p, none⟩ = some (.int .i64 (hz zs p)) := fun u hu => ((kd7 u hu).cell (p := ⟨b6, o6 + p, none⟩) l6).trans c6
                obtain ⟨bv, hbv⟩ : ∃ bv, blkV (hz zs p) = bv := ⟨_, rfl⟩
                have C1 : Hid (∀ u, Kept wr.drew u → Calls Tryz.prog 61 #[.int .i64 (hz zs p)] u fun e w' => e = .returned (.int .i64 bv) ∧ Kept u w') := fun u _ => calls_kept (by have := l7Block_ok (hz zs p) u; rw [hbv] at this; exact this)
                rw [hbv] at HT
                have HIu : Hid _ := hIu
                have HI4 : Hid _ := hI4
                have Hso4 : Hid _ := hso4
                have Hb4 : Hid _ := hb4
                have HK4 : Hid _ := hK4
                subst e5
                subst e6
                clear hc5 hc6 c5 c6 hout4 hbv hO4 hIu hI4 hso4 hb4 hK4 evj
                go_wp2_with fail
                refine wp_region_seqL (by kernel_rfl) (by kernel_rfl) ?_
                repeat (first
                  | (refine SeqL.skip (by rfl) ?_; simp only [Act.put, List.setIfInBounds_toArray, List.set_cons_zero, List.set_cons_succ])
                  | (refine SeqL.pure ?_ (by rfl) ?_ ?_; rotate_left; (focus (intro u hu; have y0' := y0 u hu; have y1' := y1 u hu; have y2' := y2 u hu; go_simp; first | done | exact rfl)); simp only [Act.put, List.setIfInBounds_toArray, List.set_cons_zero, List.set_cons_succ])
                  | (refine SeqL.call _ _ _ (by rfl) ?_ C1.out ?_; (focus (intro u; go_simp; done)); simp only [Act.put, List.setIfInBounds_toArray, List.set_cons_zero, List.set_cons_succ]))
                refine SeqL.nil ?_
                intro w5 hu5
                have k5 := kd7 w5 hu5
                have HO5 : Hid _ := OwnL.kept (row := none) HO4.out (Kept.grown k5) (fun k e => by cases e)
                have Hb5 : Hid _ := Cells.kept Hb4.out k5
                have HK5 : Hid _ := Kept.trans HK4.out k5
                have hs5 := k5.size
                have hIn := l7In_ok w5 ua uc out4 bv (Ints.kept HIu.out k5) (by omega)
                have HI5 : Hid _ := Ints.kept HI4.out k5
                have hrow := HO5.out.2
                have hrl5 := hrow.lt
                clear y0 y1 y2 C1 kd7
                by_cases h0 : (0 : Int) ≤ bv
                · have g0 : decide ((0 : Int) ≤ bv) = true := by simpa using h0
                  cases hd : decide (bv ∈ out4) with
                  | true =>
                    rw [hd] at hIn
                    have HE : Hid _ := addB_in hd
                    clear hd
                    go_wp2_with (first | (go_at_call 62; refine hIn.mono ?_; rintro e wx ⟨rfl, rfl⟩))
                    go_roundw
                    case rel => exact ⟨j + 1, by go_num, by omega, by rw [HT.out, HE.out]; exact HO5.out, HI5.out, fun x ex hx => ⟨by have := (Hso4.out x ex hx).1; omega, (Hso4.out x ex hx).2⟩, Hb5.out, HK5.out, by omega⟩
                    case measure => simp [intOf]; omega
                  | false =>
                    rw [hd] at hIn
                    have HE : Hid _ := addB_yes h0 hd
                    clear hd
                    go_wp2_with (first | (go_at_call 62; refine hIn.mono ?_; rintro e wx ⟨rfl, rfl⟩) | (at_builtin; refine wpList_append_lies _ rfl _ _ 24 rfl (w.heap.size + 1) 3 i0 (.int .i64 0) 1 8 Tryz.underlying24 hi hz0 hz1 hz2 rfl (by decide) _ _ _ rfl (hrow.alloc _) ⟨w5.heap.size, 0, none⟩ 1 1 [.int .i64 bv] rfl rfl (cell_one_new _ _ _) (by simp [Value.oneCell']) (by omega) (by unfold maxLen; omega) (by omega) (by simp; omega) (w5.heap.size + 1) (by simp) ?_; intro gg cg w6 hown' hgrow hat hlt6; have kk : Below (w.heap.size + 1) w5 w6 := ((Below.refl _ w5).alloc (by omega) _).grown hgrow (by simp; omega) (fun j ej => (hrl5 j ej).1)))
                    go_roundw
                    case rel =>
                      have hk6 := kk.size
                      refine ⟨j + 1, by go_num, by omega, ?_, ?_, fun x ex hx => ⟨by have := (Hso4.out x ex hx).1; omega, ?_⟩, (kk.block w.heap.size (by omega)).trans Hb5.out, Below.trans HK5.out (kk.mono (by omega)), by omega⟩
                      · have hbd := Met.bd HM5.out hl
                        rw [HT.out, HE.out] at hbd ⊢
                        exact OwnL.snoc hbd hown'
                      · refine Ints.far (Ints.kept HI5.out (Kept.alloc (Below.refl _ w5) _)) hgrow (fun x ex => ?_)
                        exact (Hso4.out x ex (fun e => by rw [e] at hlj; simp at hlj)).2
                      · have h1 := Hso4.out x ex hx
                        intro e
                        simp [Value.ownBlock] at e
                        rcases hat with h2 | h2
                        · exact h1.2 (by have h3 : (Value.slice ua out4.length uc).ownBlock = some gg := h2; rw [h3, e])
                        · omega
                    case measure => simp [intOf]; omega
                · have g0 : decide ((0 : Int) ≤ bv) = false := by simpa using h0
                  have HE : Hid _ := addB_no (out := out4) h0
                  clear hIn
                  go_wp2_with fail
                  go_roundw
                  case rel => exact ⟨j + 1, by go_num, by omega, by rw [HT.out, HE.out]; exact HO5.out, HI5.out, fun x ex hx => ⟨by have := (Hso4.out x ex hx).1; omega, (Hso4.out x ex hx).2⟩, Hb5.out, HK5.out, by omega⟩
                  case measure => simp [intOf]; omega
              · obtain rfl : j = sl.length := by omega
                rw [← HSL.out, List.take_length] at hO4
                have HO4 : Hid _ := hO4
                have HM6 : Hid (Met zs (meetL out sv)) := Met.meet HM.out HLd.out
                have HP6 : Hid (out.length ≤ (meetL out sv).length) := meetL_len _ _
                have Hb4 : Hid _ := hb4
                have HK4 : Hid _ := hK4
                clear hO4 hI4 hso4 hb4 hK4 HM4 hml
                go_wp2_with fail
                go_roundw
                case rel => exact ⟨k + 1, meetL out sv, by go_num, by have := HP6.out; omega, HM6.out, HN.out, HO4.out, Hb4.out, HK4.out, hsz4⟩
                case measure => simp [intOf]; omega)
        · obtain rfl : k = out.length := by omega
          have HE : Hid (ordL zs rs = out) := by rw [Hid, hOF, ordF_end (Nat.le_refl _)]
          have HK : Hid _ := hK
          clear hOF hIv hO hb hK hM
          go_wp2_with fail
          go_ret
          exact ⟨_, rfl, by rw [HE.out]; exact ⟨HO.out.1, ownsRow_base HO.out.2 (by omega)⟩, HK.out⟩
end Go.Proofs.YtgnpllpinfhccaaGreatDoor
namespace Go.Proofs.YtgnpllpinfhccaaGreatDoor
open Go.RowKit
attribute [local go_sem] Plain.and7

def insL (x : Int) (out : List Int) : List Int := out.takeWhile (fun y => decide (y < x)) ++ x :: out.dropWhile (fun y => decide (y < x))
def sortF (out l : List Int) : List Int := l.foldl (fun o x => insL x o) out
def sortL (l : List Int) : List Int := sortF [] l
theorem sortF_snoc (out l : List Int) (x : Int) : sortF out (l ++ [x]) = insL x (sortF out l) := by simp [sortF]
theorem insL_len (x : Int) (out : List Int) : (insL x out).length = out.length + 1 := by
  unfold insL
  have := congrArg List.length (List.takeWhile_append_dropWhile (p := fun y => decide (y < x)) (l := out))
  simp only [List.length_append, List.length_cons] at this ⊢
  omega
theorem mem_insL {x y : Int} {out : List Int} : y ∈ insL x out ↔ y = x ∨ y ∈ out := by
  have e := List.takeWhile_append_dropWhile (p := fun y => decide (y < x)) (l := out)
  unfold insL
  rw [List.mem_append, List.mem_cons]
  constructor
  · rintro (h | h | h)
    · right; rw [← e]; exact List.mem_append_left _ h
    · exact .inl h
    · right; rw [← e]; exact List.mem_append_right _ h
  · rintro (h | h)
    · exact .inr (.inl h)
    · rw [← e] at h
      rcases List.mem_append.1 h with h | h
      · exact .inl h
      · exact .inr (.inr h)
theorem insL_at {x : Int} {out : List Int} {k : Nat} (hk : k ≤ out.length) (h1 : ∀ j, j < k → hz out j < x) (h2 : k < out.length → x ≤ hz out k) : insL x out = out.take k ++ x :: out.drop k := by
  have e1 : out.takeWhile (fun y => decide (y < x)) = out.take k := by
    induction out generalizing k with
    | nil => simp
    | cons y out ih =>
      cases k with
      | zero =>
        have := h2 (by simp)
        have h3 : ¬ y < x := by have h4 : x ≤ y := by simpa [hz] using this
                                omega
        simp [h3]
      | succ k =>
        have h3 : y < x := by have := h1 0 (by omega); simpa [hz] using this
        rw [List.takeWhile_cons, if_pos (by simpa using h3), List.take_succ_cons, ih (by simpa using hk) (fun j hj => by have := h1 (j + 1) (by omega); simpa [hz] using this) (fun hlt => by have := h2 (by simpa using hlt); simpa [hz] using this)]
  have e2 : out.dropWhile (fun y => decide (y < x)) = out.drop k := by
    have h := List.takeWhile_append_dropWhile (p := fun y => decide (y < x)) (l := out)
    rw [e1] at h
    exact List.append_cancel_left (h.trans (List.take_append_drop k out).symm)
  unfold insL
  rw [e1, e2]
theorem sortF_len : ∀ (l out : List Int), (sortF out l).length = out.length + l.length
  | [], out => by simp [sortF]
  | x :: l, out => by
    have := sortF_len l (insL x out)
    rw [insL_len] at this
    show (sortF (insL x out) l).length = _
    rw [this, List.length_cons]
    omega
theorem mem_sortF {y : Int} : ∀ (l out : List Int), y ∈ sortF out l ↔ y ∈ out ∨ y ∈ l
  | [], out => by simp [sortF]
  | x :: l, out => by
    show y ∈ sortF (insL x out) l ↔ _
    rw [mem_sortF l, mem_insL, List.mem_cons]
    constructor
    · rintro ((h | h) | h)
      · exact .inr (.inl h)
      · exact .inl h
      · exact .inr (.inr h)
    · rintro (h | h | h)
      · exact .inl (.inr h)
      · exact .inl (.inl h)
      · exact .inr h
theorem insL_sorted {x : Int} {out : List Int} (h : out.Pairwise (· ≤ ·)) : (insL x out).Pairwise (· ≤ ·) := by
  induction out with
  | nil => simp [insL]
  | cons y out ih =>
    have h' := List.pairwise_cons.1 h
    by_cases hy : y < x
    · have e : insL x (y :: out) = y :: insL x out := by simp [insL, hy]
      rw [e]
      refine List.pairwise_cons.2 ⟨fun z hz' => ?_, ih h'.2⟩
      rcases mem_insL.1 hz' with rfl | hz'
      · omega
      · exact h'.1 z hz'
    · have e : insL x (y :: out) = x :: y :: out := by simp [insL, hy]
      rw [e]
      refine List.pairwise_cons.2 ⟨fun z hz' => ?_, h⟩
      rcases List.mem_cons.1 hz' with rfl | hz'
      · omega
      · have := h'.1 z hz'; omega
theorem sortF_sorted : ∀ (l : List Int) {out : List Int}, out.Pairwise (· ≤ ·) → (sortF out l).Pairwise (· ≤ ·)
  | [], _, h => h
  | _ :: l, _, h => sortF_sorted l (insL_sorted h)
theorem ints_news {W : World} {b o : Nat} {l : List Int} (hc : ∀ j, j < l.length → W.cell? ⟨b, o + j, none⟩ = some (.int .i64 (hz l j))) : ∀ (j : Nat) (u : Value), (l.map (Value.int .i64))[j]? = some u → W.cell? ((⟨b, o, none⟩ : Addr).add j) = some u := by
  intro j u hu
  rw [List.getElem?_map] at hu
  cases hj : l[j]? with
  | none => rw [hj] at hu; simp at hu
  | some z =>
    rw [hj] at hu
    have hlt := (List.getElem?_eq_some_iff.1 hj).1
    have e : hz l j = z := by unfold hz; rw [hj]; rfl
    have h1 := hc j hlt
    rw [e] at h1
    rw [show (⟨b, o, none⟩ : Addr).add j = ⟨b, o + j, none⟩ by unfold Addr.add; split <;> simp_all]
    simp at hu
    rw [← hu]
    exact h1
theorem drop_none {W : World} {ad : Addr} {a : Nat} {out : List Int} (h : out.length ≤ a) : ∀ (j : Nat) (u : Value), ((out.drop a).map (Value.int .i64))[j]? = some u → W.cell? (ad.add j) = some u := by
  intro j u hu
  rw [List.drop_eq_nil_of_le h] at hu
  simp at hu
theorem drop_news {W : World} {g a : Nat} {out : List Int} (hr : Row W g out) : ∀ (j : Nat) (u : Value), ((out.drop a).map (Value.int .i64))[j]? = some u → W.cell? ((⟨g, a, none⟩ : Addr).add j) = some u := ints_news (fun j hj => by
  rw [List.length_drop] at hj
  have := hr.cell (j := a + j) (by omega)
  rw [show hz (out.drop a) j = hz out (a + j) by unfold hz; rw [List.getElem?_drop]]
  simpa using this)
set_option maxHeartbeats 16000000 in
set_option maxRecDepth 100000 in
theorem l7Sort_ok (w : World) (ao : Option Addr) (cap : Nat) (l : List Int) (hI : Ints w ao l) (hl : l.length ≤ 1048576) :
    Calls Tryz.prog 43 #[.slice ao l.length cap] w fun e w' => ∃ v, e = .returned v ∧ OwnL w' w.heap.size v (sortL l) ∧ Kept w w' := by
  obtain ⟨i0, hi, hz0, hz1, hz2⟩ := info_parts infoI
  have HI : Hid _ := hI
  have k0 : Kept w (w.alloc (.cells #[] 3)) := Kept.alloc (Below.refl _ _) _
  have o0 : OwnL (w.alloc (.cells #[] 3)) w.heap.size (.slice (some ⟨w.heap.size, 0, none⟩) 0 0) [] := by
    refine ⟨by simp, ?_⟩
    have := World.ownsRow_made (base := w.heap.size) (e := 3) (size := 1) w #[] 0 (by simp) (by unfold maxLen; omega) (by simp)
    simpa using this
  clear hI
  go_enter Tryz.func43, Tryz.ntmps43
  go_wp2_with fail
  go_loopw [3, 4] (fun v i wr => ∃ (k g c : Nat), i = .int .i64 k ∧ k ≤ l.length ∧ v = .slice (some ⟨g, 0, none⟩) (sortF [] (l.take k)).length c ∧ OwnL wr w.heap.size v (sortF [] (l.take k)) ∧ Kept w wr)
    (fun _ i _ => l.length - (intOf i).toNat)
  case atStart => exact ⟨0, w.heap.size, 0, rfl, Nat.zero_le _, by simp [sortF], by simpa [sortF] using o0, k0⟩
  case round =>
    obtain ⟨k, g, c, rfl, hk, rfl, hO, hK⟩ := hrel
    clear k0 o0
    have hsl := sortF_len (l.take k) []
    rw [List.length_take, Nat.min_eq_left hk, List.length_nil, Nat.zero_add] at hsl
    by_cases hlt : k < l.length
    · have HT : Hid (sortF [] (l.take (k + 1)) = insL (hz l k) (sortF [] (l.take k))) := by rw [Hid, take_hz hlt, sortF_snoc]
      obtain ⟨out, hout⟩ : ∃ out, sortF [] (l.take k) = out := ⟨_, rfl⟩
      rw [hout] at HT hsl hO
      simp only [hout]
      have hol : out.length ≤ 1048576 := by omega
      have Hsl : Hid _ := hsl
      clear hsl
      obtain ⟨b1, o1, e1, hc1⟩ := Ints.at (Ints.kept HI.out hK) hlt
      have c1 := hc1 k hlt
      have HO : Hid _ := hO
      have HK : Hid _ := hK
      obtain ⟨x, hx⟩ : ∃ x, hz l k = x := ⟨_, rfl⟩
      rw [hx] at HT c1
      have hxb : -9223372036854775808 ≤ x ∧ x ≤ 9223372036854775807 := by rw [← hx]; exact HI.out.1 _ (hz_mem hlt)
      have q1 : (k : Int) < (l.length : Int) := by omega
      have q0 : (0 : Int) ≤ (k : Int) := by omega
      have c0 : w.cell? ⟨b1, o1 + k, none⟩ = some (.int .i64 x) := by
        obtain ⟨b3, o3, e3, hc3⟩ := Ints.at HI.out hlt
        rw [e1] at e3
        cases e3
        rw [← hx]
        exact hc3 k hlt
      have Hb1 : Hid (b1 < w.heap.size) := World.block_lt_of_cell? _ _ c0
      subst e1
      clear hc1 hout hx hK
      go_wp2_with fail
      go_loopw [5] (fun i wr2 => ∃ at' : Nat, i = .int .i64 at' ∧ at' ≤ out.length ∧ (∀ j, j < at' → hz out j < x) ∧ Kept wr wr2) (fun i _ => out.length - (intOf i).toNat)
      case atStart => exact ⟨0, rfl, Nat.zero_le _, fun j hj => by omega, Below.refl _ _⟩
      case round =>
        obtain ⟨a, rfl, ha, hlow, hK2⟩ := hrel
        by_cases hla : a < out.length
        · have O2 := OwnL.kept (row := none) HO.out (Kept.grown hK2) (fun k e => by cases e)
          obtain ⟨ga, gc, eg, hI2⟩ := O2.ints
          cases eg
          obtain ⟨b2, o2, e2, hc2⟩ := hI2.at hla
          cases e2
          have c2 := hc2 a hla
          have l2 : g < wr.heap.size := World.block_lt_of_cell? _ _ c2
          have l0 : b1 < _ := World.block_lt_of_cell? _ _ c1
          have l1 : b1 < wr.heap.size := Nat.lt_of_lt_of_le l0 hK2.size
          have c1' := (hK2.cell (p := ⟨b1, o1 + k, none⟩) (World.block_lt_of_cell? _ _ c1)).trans c1
          have kd7 : ∀ u, Kept wr.drew u → Kept wr u := fun u hu => Kept.trans (Below.refl _ wr).drew hu
          have y1 : ∀ u, Kept wr.drew u → u.cell? ⟨g, 0 + a, none⟩ = some (.int .i64 (hz out a)) := fun u hu => ((kd7 u hu).cell (p := ⟨g, 0 + a, none⟩) l2).trans c2
          have y2 : ∀ u, Kept wr.drew u → u.cell? ⟨b1, o1 + k, none⟩ = some (.int .i64 x) := fun u hu => ((kd7 u hu).cell (p := ⟨b1, o1 + k, none⟩) l1).trans c1'
          simp only [Nat.zero_add] at y1
          have r1 : (a : Int) < (out.length : Int) := by omega
          have r0 : (0 : Int) ≤ (a : Int) := by omega
          have HK2 : Hid _ := hK2
          have Hlow : Hid _ := hlow
          clear hc2 hI2 O2 c2 hK2 hlow
          by_cases hx : hz out a < x
          · have hd : decide (hz out a < x) = true := by simpa using hx
            have HX : Hid _ := hx
            clear hx
            go_wp2_with fail
            refine wp_region_seqL (by kernel_rfl) (by kernel_rfl) ?_
            repeat (first
              | (refine SeqL.skip (by rfl) ?_; simp only [Act.put, List.setIfInBounds_toArray, List.set_cons_zero, List.set_cons_succ])
              | (refine SeqL.pure ?_ (by rfl) ?_ ?_; rotate_left; (focus (intro u hu; have y1' := y1 u hu; have y2' := y2 u hu; go_simp; first | done | exact rfl)); simp only [Act.put, List.setIfInBounds_toArray, List.set_cons_zero, List.set_cons_succ])
            )
            refine SeqL.nil ?_
            intro w5 hu5
            have K5 := Kept.trans HK2.out (kd7 w5 hu5)
            clear y1 y2 kd7
            go_wp2_with fail
            go_roundw
            case rel =>
              refine ⟨a + 1, by go_num, by omega, fun j hj => ?_, K5⟩
              rcases Nat.lt_or_ge j a with h | h
              · exact Hlow.out j h
              · have : j = a := by omega
                subst this
                exact HX.out
            case measure => simp [intOf]; omega
          · have hd : decide (hz out a < x) = false := by simpa using hx
            have Hstop : Hid (a < out.length → x ≤ hz out a) := fun _ => by omega
            go_wp2_with fail
            refine wp_region_seqL (by kernel_rfl) (by kernel_rfl) ?_
            repeat (first
              | (refine SeqL.skip (by rfl) ?_; simp only [Act.put, List.setIfInBounds_toArray, List.set_cons_zero, List.set_cons_succ])
              | (refine SeqL.pure ?_ (by rfl) ?_ ?_; rotate_left; (focus (intro u hu; have y1' := y1 u hu; have y2' := y2 u hu; go_simp; first | done | exact rfl)); simp only [Act.put, List.setIfInBounds_toArray, List.set_cons_zero, List.set_cons_succ])
            )
            refine SeqL.nil ?_
            intro w5 hu5
            have K5 := Kept.trans HK2.out (kd7 w5 hu5)
            have hlow := Hlow.out
            clear y1 y2 kd7 hd r1 hx
            have eIns := insL_at (x := x) (out := out) ha hlow Hstop.out
            have HT2 : Hid (sortF [] (l.take (k + 1)) = out.take a ++ x :: out.drop a) := by rw [Hid, HT.out, eIns]
            have O5 := OwnL.kept (row := none) HO.out (Kept.grown K5) (fun k e => by cases e)
            obtain ⟨hrow5, hcc, hcm⟩ : Row w5 g out ∧ out.length ≤ c ∧ c ≤ maxLen := by
              rcases O5.cases with ⟨e, _⟩ | ⟨g', c', e, _, h1, h2, h3⟩
              · cases e
              · cases e
                exact ⟨h3, h1, h2⟩
            have lg5 := hrow5.lt
            have K5w := Kept.trans HK.out K5
            have hs5 := K5w.size
            have kE : Kept w5 (w5.alloc (.cells #[] 3)) := Kept.alloc (Below.refl _ _) _
            have oE : (w5.alloc (.cells #[] 3)).ownsRow w5.heap.size 3 1 (.slice (some ⟨w5.heap.size, 0, none⟩) 0 0) 0 [] := by
              have := World.ownsRow_made (base := w5.heap.size) (e := 3) (size := 1) w5 #[] 0 (by simp) (by unfold maxLen; omega) (by simp)
              simpa using this
            have hrE := hrow5.kept kE
            have news1 : ∀ (j : Nat) (u : Value), ((out.take a).map (Value.int .i64))[j]? = some u → (w5.alloc (.cells #[] 3)).cell? ((⟨g, 0, none⟩ : Addr).add j) = some u := ints_news (fun j hj => by
              have hj' : j < out.length := by rw [List.length_take] at hj; omega
              have := hrE.cell (j := j) hj'
              rw [show hz (out.take a) j = hz out j by unfold hz; rw [List.getElem?_take_of_lt (by rw [List.length_take] at hj; omega)]]
              simpa using this)
            have lta : (out.take a).length = a := by rw [List.length_take]; omega
            have ltd : (out.drop a).length = out.length - a := List.length_drop
            have g0 : (0 : Int) ≤ (a : Int) := by omega
            have g1 : (a : Int) ≤ (out.length : Int) := by omega
            have g2 : (a : Int) ≤ (c : Int) := by omega
            have g3 : ((a : Int)).toNat = a := by omega
            have g4 : a ≤ c := by omega
            have g5 : a ≤ out.length := ha
            have Hlta : Hid _ := lta
            have Hltd : Hid _ := ltd
            have HR5 : Hid _ := hrow5
            clear lta ltd eIns hlow O5
            have l5 : b1 < w.heap.size := Hb1.out
            have c5 := (K5w.cell (p := ⟨b1, o1 + k, none⟩) l5).trans c0
            go_wp2_with (first | (at_builtin; refine wpList_append_own _ rfl _ _ 24 rfl w5.heap.size 3 i0 (.int .i64 0) 1 8 Tryz.underlying24 hi hz0 hz1 hz2 rfl (by decide) _ _ _ rfl oE ⟨g, 0, none⟩ a c ((out.take a).map (Value.int .i64)) rfl (by rw [List.length_map, Hlta.out, Nat.mul_one]) news1 (by intro u hu; obtain ⟨z, _, rfl⟩ := List.mem_map.1 hu; rfl) (by unfold maxLen; omega) (by omega) (by simp) ?_; intro v6 w6 own6 grow6 _; have kk6 : Kept w5 w6 := Below.grown kE grow6 (by simp) (fun j ej => by have h3 : (Value.slice (some ⟨w5.heap.size, 0, none⟩) 0 0).ownBlock = some j := ej; simp [Value.ownBlock] at h3; omega); have c6 := (kk6.cell (p := ⟨b1, o1 + k, none⟩) (by simp; omega)).trans c5; have kF : Kept w6 (w6.alloc (.cells #[.int .i64 x] 3)) := Kept.alloc (Below.refl _ _) _; have hs6 := kk6.size; simp only [Nat.zero_add, List.nil_append] at own6) | (at_builtin; refine wpList_append_own _ rfl _ _ 24 rfl w5.heap.size 3 i0 (.int .i64 0) 1 8 Tryz.underlying24 hi hz0 hz1 hz2 rfl (by decide) _ _ _ rfl (own6.alloc _) ⟨w6.heap.size, 0, none⟩ 1 1 [.int .i64 x] rfl rfl (cell_one_new _ _ _) (by simp [Value.oneCell']) (by unfold maxLen; omega) (by omega) (by simp; omega) ?_; intro v7 w7 own7 grow7 _; have kk7 : Kept w5 w7 := Below.grown (kk6.trans kF) grow7 (by simp; omega) (fun j ej => (own6.lt j ej).1); have hs7 := kk7.size; have hr7 := Row.kept HR5.out kk7; have news3 := drop_news (a := a) hr7) | (at_builtin; refine wpList_append_own _ rfl _ _ 24 rfl w5.heap.size 3 i0 (.int .i64 0) 1 8 Tryz.underlying24 hi hz0 hz1 hz2 rfl (by decide) _ _ _ rfl own7 ⟨g, a, none⟩ (out.length - a) (c - a) ((out.drop a).map (Value.int .i64)) rfl (by rw [List.length_map, Hltd.out, Nat.mul_one]) news3 (by intro u hu; obtain ⟨z, _, rfl⟩ := List.mem_map.1 hu; rfl) (by unfold maxLen; omega) (by omega) (by omega) ?_; intro v8 w8 own8 grow8 _; have kk8 : Kept w5 w8 := Below.grown kk7 grow8 (by omega) (fun j ej => (own7.lt j ej).1)))
            go_roundw
            case rel =>
              have e8 : (sortF [] (l.take (k + 1))).length = a + 1 + (out.length - a) := by rw [HT2.out, List.length_append, List.length_cons, Hlta.out, Hltd.out]; omega
              obtain ⟨g8, c8, ev8, _, _⟩ := own8.form (by omega)
              refine ⟨k + 1, g8, c8, by go_num, by omega, by rw [e8]; exact ev8, ⟨fun z hz' => ?_, ?_⟩, K5w.trans kk8⟩
              · rw [HT2.out] at hz'
                rcases List.mem_append.1 hz' with h | h
                · exact HO.out.1 z (List.mem_of_mem_take h)
                · rcases List.mem_cons.1 h with rfl | h
                  · exact hxb
                  · exact HO.out.1 z (List.mem_of_mem_drop h)
              · rw [e8, HT2.out, List.map_append, List.map_cons]
                have := ownsRow_base own8 hs5
                rw [List.append_assoc] at this
                exact this
            case measure => simp [intOf]; omega
        · have Hstop : Hid (a < out.length → x ≤ hz out a) := fun h => absurd h hla
          have r1 : decide ((a : Int) < (out.length : Int)) = false := by simp; omega
          have HK2 : Hid _ := hK2
          have Hlow : Hid _ := hlow
          clear hK2 hlow
          go_wp2_with fail
          refine wp_region_seqL (by kernel_rfl) (by kernel_rfl) ?_
          repeat (first
            | (refine SeqL.skip (by rfl) ?_; simp only [Act.put, List.setIfInBounds_toArray, List.set_cons_zero, List.set_cons_succ])
            | (refine SeqL.pure ?_ (by rfl) ?_ ?_; rotate_left; (focus (intro u hu; go_simp; first | done | exact rfl)); simp only [Act.put, List.setIfInBounds_toArray, List.set_cons_zero, List.set_cons_succ])
          )
          refine SeqL.nil ?_
          intro w5 hu5
          have K5 := Kept.trans HK2.out (Kept.trans (Below.refl _ wr).drew hu5)
          have hlow := Hlow.out
          have Hla : Hid (out.length ≤ a) := by simpa [Hid] using hla
          clear r1 hla
          have eIns := insL_at (x := x) (out := out) ha hlow Hstop.out
          have HT2 : Hid (sortF [] (l.take (k + 1)) = out.take a ++ x :: out.drop a) := by rw [Hid, HT.out, eIns]
          have O5 := OwnL.kept (row := none) HO.out (Kept.grown K5) (fun k e => by cases e)
          obtain ⟨hrow5, hcc, hcm⟩ : Row w5 g out ∧ out.length ≤ c ∧ c ≤ maxLen := by
            rcases O5.cases with ⟨e, _⟩ | ⟨g', c', e, _, h1, h2, h3⟩
            · cases e
            · cases e
              exact ⟨h3, h1, h2⟩
          have lg5 := hrow5.lt
          have K5w := Kept.trans HK.out K5
          have hs5 := K5w.size
          have kE : Kept w5 (w5.alloc (.cells #[] 3)) := Kept.alloc (Below.refl _ _) _
          have oE : (w5.alloc (.cells #[] 3)).ownsRow w5.heap.size 3 1 (.slice (some ⟨w5.heap.size, 0, none⟩) 0 0) 0 [] := by
            have := World.ownsRow_made (base := w5.heap.size) (e := 3) (size := 1) w5 #[] 0 (by simp) (by unfold maxLen; omega) (by simp)
            simpa using this
          have hrE := hrow5.kept kE
          have news1 : ∀ (j : Nat) (u : Value), ((out.take a).map (Value.int .i64))[j]? = some u → (w5.alloc (.cells #[] 3)).cell? ((⟨g, 0, none⟩ : Addr).add j) = some u := ints_news (fun j hj => by
            have hj' : j < out.length := by rw [List.length_take] at hj; omega
            have := hrE.cell (j := j) hj'
            rw [show hz (out.take a) j = hz out j by unfold hz; rw [List.getElem?_take_of_lt (by rw [List.length_take] at hj; omega)]]
            simpa using this)
          have lta : (out.take a).length = a := by rw [List.length_take]; omega
          have ltd : (out.drop a).length = out.length - a := List.length_drop
          have g0 : (0 : Int) ≤ (a : Int) := by omega
          have g1 : (a : Int) ≤ (out.length : Int) := by omega
          have g2 : (a : Int) ≤ (c : Int) := by omega
          have g3 : ((a : Int)).toNat = a := by omega
          have g4 : a ≤ c := by omega
          have g5 : a ≤ out.length := ha
          have Hlta : Hid _ := lta
          have Hltd : Hid _ := ltd
          have HR5 : Hid _ := hrow5
          clear lta ltd eIns hlow O5
          have l5 : b1 < w.heap.size := Hb1.out
          have c5 := (K5w.cell (p := ⟨b1, o1 + k, none⟩) l5).trans c0
          rcases Nat.lt_or_ge a c with hca | hca
          · go_wp2_with (first | (at_builtin; refine wpList_append_own _ rfl _ _ 24 rfl w5.heap.size 3 i0 (.int .i64 0) 1 8 Tryz.underlying24 hi hz0 hz1 hz2 rfl (by decide) _ _ _ rfl oE ⟨g, 0, none⟩ a _ ((out.take a).map (Value.int .i64)) rfl (by rw [List.length_map, Hlta.out, Nat.mul_one]) news1 (by intro u hu; obtain ⟨z, _, rfl⟩ := List.mem_map.1 hu; rfl) (by unfold maxLen; omega) (by omega) (by simp) ?_; intro v6 w6 own6 grow6 _; have kk6 : Kept w5 w6 := Below.grown kE grow6 (by simp) (fun j ej => by have h3 : (Value.slice (some ⟨w5.heap.size, 0, none⟩) 0 0).ownBlock = some j := ej; simp [Value.ownBlock] at h3; omega); have c6 := (kk6.cell (p := ⟨b1, o1 + k, none⟩) (by simp; omega)).trans c5; have kF : Kept w6 (w6.alloc (.cells #[.int .i64 x] 3)) := Kept.alloc (Below.refl _ _) _; have hs6 := kk6.size; simp only [Nat.zero_add, List.nil_append] at own6) | (at_builtin; refine wpList_append_own _ rfl _ _ 24 rfl w5.heap.size 3 i0 (.int .i64 0) 1 8 Tryz.underlying24 hi hz0 hz1 hz2 rfl (by decide) _ _ _ rfl (own6.alloc _) ⟨w6.heap.size, 0, none⟩ 1 1 [.int .i64 x] rfl rfl (cell_one_new _ _ _) (by simp [Value.oneCell']) (by unfold maxLen; omega) (by omega) (by simp; omega) ?_; intro v7 w7 own7 grow7 _; have kk7 : Kept w5 w7 := Below.grown (kk6.trans kF) grow7 (by simp; omega) (fun j ej => (own6.lt j ej).1); have hs7 := kk7.size; have hr7 := Row.kept HR5.out kk7; have news3 := drop_news (a := a) hr7) | (at_builtin; refine wpList_append_own _ rfl _ _ 24 rfl w5.heap.size 3 i0 (.int .i64 0) 1 8 Tryz.underlying24 hi hz0 hz1 hz2 rfl (by decide) _ _ _ rfl own7 ⟨g, a, none⟩ (out.length - a) (c - a) ((out.drop a).map (Value.int .i64)) rfl (by rw [List.length_map, Hltd.out, Nat.mul_one]) news3 (by intro u hu; obtain ⟨z, _, rfl⟩ := List.mem_map.1 hu; rfl) (by unfold maxLen; omega) (by omega) (by omega) ?_; intro v8 w8 own8 grow8 _; have kk8 : Kept w5 w8 := Below.grown kk7 grow8 (by omega) (fun j ej => (own7.lt j ej).1)))
            go_roundw
            case rel =>
              have e8 : (sortF [] (l.take (k + 1))).length = a + 1 + (out.length - a) := by rw [HT2.out, List.length_append, List.length_cons, Hlta.out, Hltd.out]; omega
              obtain ⟨g8, c8, ev8, _, _⟩ := own8.form (by omega)
              refine ⟨k + 1, g8, c8, by go_num, by omega, by rw [e8]; exact ev8, ⟨fun z hz' => ?_, ?_⟩, K5w.trans kk8⟩
              · rw [HT2.out] at hz'
                rcases List.mem_append.1 hz' with h | h
                · exact HO.out.1 z (List.mem_of_mem_take h)
                · rcases List.mem_cons.1 h with rfl | h
                  · exact hxb
                  · exact HO.out.1 z (List.mem_of_mem_drop h)
              · rw [e8, HT2.out, List.map_append, List.map_cons]
                have := ownsRow_base own8 hs5
                rw [List.append_assoc] at this
                exact this
            case measure => simp [intOf]; omega
          · obtain rfl : a = c := by have := Hla.out; omega
            go_wp2_with (first | (at_builtin; refine wpList_append_own _ rfl _ _ 24 rfl w5.heap.size 3 i0 (.int .i64 0) 1 8 Tryz.underlying24 hi hz0 hz1 hz2 rfl (by decide) _ _ _ rfl oE ⟨g, 0, none⟩ a _ ((out.take a).map (Value.int .i64)) rfl (by rw [List.length_map, Hlta.out, Nat.mul_one]) news1 (by intro u hu; obtain ⟨z, _, rfl⟩ := List.mem_map.1 hu; rfl) (by unfold maxLen; omega) (by omega) (by simp) ?_; intro v6 w6 own6 grow6 _; have kk6 : Kept w5 w6 := Below.grown kE grow6 (by simp) (fun j ej => by have h3 : (Value.slice (some ⟨w5.heap.size, 0, none⟩) 0 0).ownBlock = some j := ej; simp [Value.ownBlock] at h3; omega); have c6 := (kk6.cell (p := ⟨b1, o1 + k, none⟩) (by simp; omega)).trans c5; have kF : Kept w6 (w6.alloc (.cells #[.int .i64 x] 3)) := Kept.alloc (Below.refl _ _) _; have hs6 := kk6.size; simp only [Nat.zero_add, List.nil_append] at own6) | (at_builtin; refine wpList_append_own _ rfl _ _ 24 rfl w5.heap.size 3 i0 (.int .i64 0) 1 8 Tryz.underlying24 hi hz0 hz1 hz2 rfl (by decide) _ _ _ rfl (own6.alloc _) ⟨w6.heap.size, 0, none⟩ 1 1 [.int .i64 x] rfl rfl (cell_one_new _ _ _) (by simp [Value.oneCell']) (by unfold maxLen; omega) (by omega) (by simp; omega) ?_; intro v7 w7 own7 grow7 _; have kk7 : Kept w5 w7 := Below.grown (kk6.trans kF) grow7 (by simp; omega) (fun j ej => (own6.lt j ej).1); have hs7 := kk7.size; have hr7 := Row.kept HR5.out kk7; have news3 := drop_news (a := a) hr7) | (at_builtin; refine wpList_append_own _ rfl _ _ 24 rfl w5.heap.size 3 i0 (.int .i64 0) 1 8 Tryz.underlying24 hi hz0 hz1 hz2 rfl (by decide) _ _ _ rfl own7 ⟨g, 0, none⟩ _ _ ((out.drop a).map (Value.int .i64)) rfl (by first | (rw [List.length_map, Hltd.out, Nat.mul_one]; done) | (rw [List.length_map, Hltd.out]; have := Hla.out; omega)) (drop_none Hla.out) (by intro u hu; obtain ⟨z, _, rfl⟩ := List.mem_map.1 hu; rfl) (by unfold maxLen; omega) (by omega) (by omega) ?_; intro v8 w8 own8 grow8 _; have kk8 : Kept w5 w8 := Below.grown kk7 grow8 (by omega) (fun j ej => (own7.lt j ej).1)))
            have hz8 : out.length - a = 0 := by have := Hla.out; omega
            replace own8 : w8.ownsRow w5.heap.size 3 1 v8 (a + 1 + (out.length - a)) (List.map (Value.int .i64) (List.take a out) ++ [Value.int .i64 x] ++ List.map (Value.int .i64) (List.drop a out)) := by rw [hz8]; exact own8
            clear hz8
            go_roundw
            case rel =>
              have e8 : (sortF [] (l.take (k + 1))).length = a + 1 + (out.length - a) := by rw [HT2.out, List.length_append, List.length_cons, Hlta.out, Hltd.out]; omega
              obtain ⟨g8, c8, ev8, _, _⟩ := own8.form (by omega)
              refine ⟨k + 1, g8, c8, by go_num, by omega, by rw [e8]; exact ev8, ⟨fun z hz' => ?_, ?_⟩, K5w.trans kk8⟩
              · rw [HT2.out] at hz'
                rcases List.mem_append.1 hz' with h | h
                · exact HO.out.1 z (List.mem_of_mem_take h)
                · rcases List.mem_cons.1 h with rfl | h
                  · exact hxb
                  · exact HO.out.1 z (List.mem_of_mem_drop h)
              · rw [e8, HT2.out, List.map_append, List.map_cons]
                have := ownsRow_base own8 hs5
                rw [List.append_assoc] at this
                exact this
            case measure => simp [intOf]; omega
    · obtain rfl : k = l.length := by omega
      have HO : Hid _ := hO
      have HK : Hid _ := hK
      clear hO hK hsl
      go_wp2_with fail
      go_ret
      refine ⟨.slice (some ⟨g, 0, none⟩) (sortF [] (l.take l.length)).length c, rfl, ?_, HK.out⟩
      have h := HO.out
      unfold sortL
      rw [List.take_length] at h ⊢
      exact h
end Go.Proofs.YtgnpllpinfhccaaGreatDoor
namespace Go.Proofs.YtgnpllpinfhccaaGreatDoor
open Go.RowKit
attribute [local go_sem] Plain.and7

def reachL (zs rs : List Int) : List Int := if rootsR zs rs = true then sortL (ordL zs rs) else []
set_option maxHeartbeats 8000000 in
set_option maxRecDepth 100000 in
theorem spec_Reach_ok (w : World) (ao ro : Option Addr) (cap rc : Nat) (zs rs : List Int) (hI : Ints w ao zs) (hl : zs.length ≤ 1048576) (hR : Ints w ro rs) (hrl : rs.length ≤ 1048576) :
    Calls Tryz.prog 17 #[.agg #[.slice ao zs.length cap], .slice ro rs.length rc] w fun e w' => ∃ v, e = .returned v ∧ OwnL w' w.heap.size v (reachL zs rs) ∧ Kept w w' := by
  have b0 := Cells.new w 26 #[.slice ao zs.length cap]
  have k0 : Kept w (w.alloc (.cells #[.slice ao zs.length cap] 26)) := Kept.alloc (Below.refl _ _) _
  have hRo := spec_RootsOk_ok _ ao ro cap rc zs rs (hI.kept k0) hl (hR.kept k0) hrl
  cases hr : rootsR zs rs with
  | false =>
    have HR : Hid (reachL zs rs = []) := by simp [Hid, reachL, hr]
    rw [hr] at hRo
    clear hr hI hR
    go_enter Tryz.func17, Tryz.ntmps17
    go_wp2_with (go_at_call 36; refine hRo.mono ?_; rintro e w1 ⟨rfl, hk1⟩)
    go_ret
    have hs1 := (k0.trans hk1).size
    refine ⟨.slice (some ⟨w1.heap.size, 0, none⟩) 0 0, rfl, ?_, Kept.alloc (k0.trans hk1) _⟩
    rw [HR.out]
    refine ⟨by simp, ?_⟩
    have := World.ownsRow_made (base := w1.heap.size) (e := 3) (size := 1) w1 #[] 0 (by simp) (by unfold maxLen; omega) (by simp)
    exact ownsRow_base (by simpa using this) hs1
  | true =>
    have HR : Hid (reachL zs rs = sortL (ordL zs rs)) := by simp [Hid, reachL, hr]
    rw [hr] at hRo
    have hol := (ordL_met hr).len
    have HOr : Hid _ := fun (u : World) (hu : Kept w u) => l7Order_ok u ao ro cap rc zs rs (hI.kept hu) hl (hR.kept hu) hrl hr
    clear hr hI hR
    go_enter Tryz.func17, Tryz.ntmps17
    go_wp2_with (first | (go_at_call 36; refine hRo.mono ?_; rintro e w1 ⟨rfl, hk1⟩; have c1 := (b0.kept hk1).cell 0) | (go_at_call 37; refine (HOr.out _ (k0.trans hk1)).mono ?_; rintro e w2 ⟨v2, rfl, hO2, hk2⟩; obtain ⟨oa, oc, rfl, hI2⟩ := hO2.ints) | (go_at_call 43; refine (l7Sort_ok _ oa oc _ hI2 (by omega)).mono ?_; rintro e w3 ⟨v3, rfl, hO3, hk3⟩))
    go_ret
    have K2 := (k0.trans hk1).trans hk2
    refine ⟨_, rfl, ?_, K2.trans hk3⟩
    rw [HR.out]
    exact ⟨hO3.1, ownsRow_base hO3.2 K2.size⟩
theorem strs_app (xs ys : List Int) : strOfNums xs ++ strOfNums ys = strOfNums (xs ++ ys) := by
  unfold strOfNums
  rw [ByteArray.mk_append_mk]
  simp
def digN (m : Nat) : List Int := if m = 0 then [] else digN (m / 10) ++ [48 + ((m % 10 : Nat) : Int)]
  termination_by m
  decreasing_by omega
theorem digN_zero : digN 0 = [] := by rw [digN]; simp
theorem digN_pos {m : Nat} (h : m ≠ 0) : digN m = digN (m / 10) ++ [48 + ((m % 10 : Nat) : Int)] := by
  rw [digN, if_neg h]
theorem digN_len : ∀ (k m : Nat), m < 10 ^ k → (digN m).length ≤ k
  | 0, m, h => by
    have : m = 0 := by simpa using h
    subst this
    rw [digN_zero]
    simp
  | k + 1, m, h => by
    by_cases h0 : m = 0
    · subst h0; rw [digN_zero]; simp
    · rw [digN_pos h0, List.length_append]
      have : m / 10 < 10 ^ k := by rw [Nat.pow_succ] at h; omega
      have := digN_len k (m / 10) this
      simpa using this
def digI (n : Int) : List Int := if n = 0 then [48] else (if n < 0 then [45] else []) ++ digN n.natAbs
theorem digI_len {n : Int} (h : -9223372036854775808 ≤ n ∧ n ≤ 9223372036854775807) : (digI n).length ≤ 21 := by
  have := digN_len 20 n.natAbs (by omega)
  unfold digI
  split
  · simp
  · split <;> simp <;> omega
theorem conv_one7 (W : World) (x : Int) : (convert 22 9 (.slice (some ⟨W.heap.size, 0, none⟩) 1 1)).run Tryz.prog (W.alloc (.cells #[.int .u8 x] 5)) = .ok (.string (strOfNums [x])) (W.alloc (.cells #[.int .u8 x] 5)) :=
  run_convert_bytes_arg _ 22 5 Tryz.underlying22 Tryz.underlying5 W.heap.size 0 1 1 [x] rfl (fun j hj => by
    obtain rfl : j = 0 := by simpa using hj
    exact (Cells.new W 5 #[.int .u8 x]).cell 0) 9 Tryz.underlying9
set_option maxHeartbeats 8000000 in
set_option maxRecDepth 100000 in
theorem l7Digits_ok (w : World) (n0 : Int) (hn0 : -9223372036854775808 ≤ n0 ∧ n0 ≤ 9223372036854775807) :
    Calls Tryz.prog 66 #[.int .i64 n0] w fun e w' => e = .returned (.string (strOfNums (digI n0))) ∧ Kept w w' := by
  by_cases h0 : n0 = 0
  · subst h0
    have HD : Hid (digI 0 = [48]) := by simp [Hid, digI]
    go_enter Tryz.func66, Tryz.ntmps66
    go_wp2_with fail
    go_ret
    exact ⟨by rw [HD.out]; rfl, Below.refl _ _⟩
  · have hd0 : (n0 == 0) = false := by simpa using h0
    obtain ⟨neg, hneg⟩ : ∃ neg, decide (n0 < 0) = neg := ⟨_, rfl⟩
    have HD : Hid (digI n0 = (if neg then [45] else []) ++ digN n0.natAbs) := by
      rw [Hid, digI, if_neg h0, ← hneg]
      by_cases h : n0 < 0 <;> simp [h]
    have hl0 := digN_len 20 n0.natAbs (by omega)
    have H0 : Hid _ := h0
    clear h0
    go_enter Tryz.func66, Tryz.ntmps66
    go_wp2_with fail
    go_loopw [0, 4] (fun nv o wr => ∃ (n : Int) (xs : List Int), nv = .int .i64 n ∧ o = .string (strOfNums xs) ∧ digN n.natAbs ++ xs = digN n0.natAbs ∧ (-9223372036854775808 ≤ n ∧ n ≤ 9223372036854775807) ∧ Kept w wr) (fun nv _ _ => (intOf nv).natAbs)
    case atStart => exact ⟨n0, [], rfl, rfl, by simp, hn0, Below.refl _ _⟩
    case round =>
      obtain ⟨n, xs, rfl, rfl, hx, hb, hK⟩ := hrel
      have hxl : xs.length ≤ 20 := by
        have := congrArg List.length hx
        rw [List.length_append] at this
        omega
      have hxs : (strOfNums xs).size = xs.length := strOfNums_size xs
      have HK : Hid _ := hK
      have HX : Hid _ := hx
      clear hK hx
      by_cases h0 : n = 0
      · subst h0
        have HX2 : Hid (xs = digN n0.natAbs) := by have := HX.out; rw [Int.natAbs_zero, digN_zero, List.nil_append] at this; exact this
        have hsz : ¬ 9223372036854775807 < (ByteArray.mk #[45]).size + (strOfNums xs).size := by rw [hxs]; show ¬ _ < 1 + _; omega
        have hsb : (ByteArray.mk #[45] ++ strOfNums xs) = strOfNums ([45] ++ xs) := strs_app [45] xs
        have HSB : Hid _ := hsb
        clear hsb
        cases neg with
        | true =>
          go_wp2_with fail
          go_ret
          refine ⟨?_, HK.out⟩
          rw [HD.out, ← HX2.out]
          show Ending.returned (Value.string (ByteArray.mk #[45] ++ strOfNums xs)) = Ending.returned (Value.string (strOfNums ([45] ++ xs)))
          rw [HSB.out]
        | false =>
          go_wp2_with fail
          go_ret
          refine ⟨?_, HK.out⟩
          rw [HD.out, ← HX2.out]
          rfl
      · have hd : (n != 0) = true := by simpa using h0
        obtain ⟨m, hm⟩ : ∃ m, n.natAbs = m := ⟨_, rfl⟩
        obtain ⟨r, hr⟩ : ∃ r, m % 10 = r := ⟨_, rfl⟩
        obtain ⟨q, hq⟩ : ∃ q, m / 10 = q := ⟨_, rfl⟩
        have hm0 : m ≠ 0 := by omega
        have HR : Hid (m % 10 = r) := hr
        have HQ : Hid (m / 10 = q) := hq
        have hr9 : r < 10 := by omega
        have hqm : q < m := by omega
        have hmb : (m : Int) ≤ 9223372036854775808 := by omega
        have wr1 : IntKind.i64.wrap (48 + (r : Int)) = 48 + (r : Int) := by rw [IntWalk.i64_left, IntWalk.wrap64_in _ (by omega)]
        have md1 : (48 + (r : Int)) % 256 = 48 + (r : Int) := by omega
        have hcv := conv_one7 wr (48 + (r : Int))
        have hsz : ¬ 9223372036854775807 < (strOfNums [48 + (r : Int)]).size + (strOfNums xs).size := by rw [hxs, strOfNums_size]; simp; omega
        have kA : Kept wr (wr.alloc (.cells #[.int .u8 (48 + (r : Int))] 5)) := Kept.alloc (Below.refl _ _) _
        by_cases hp : n < 0
        · obtain rfl : n = -(m : Int) := by omega
          have hdv : (-(m : Int)).tdiv 10 = -(q : Int) := by rw [Int.neg_tdiv, Int.tdiv_eq_ediv_of_nonneg (by omega)]; omega
          have hmd : (-(m : Int)).tmod 10 = -(r : Int) := by rw [Int.neg_tmod, Int.tmod_eq_emod_of_nonneg (by omega)]; omega
          clear hm hr hq h0 hd hp
          have hd : (-(m : Int) != 0) = true := by simp; omega
          by_cases h00 : r = 0
          · have hmd0 : (-(m : Int)).tmod 10 = 0 := by rw [hmd, h00]; rfl
            have HR0 : Hid (m % 10 = 0) := by rw [Hid, HR.out, h00]
            clear hmd wr1 md1 hcv hsz kA HR h00
            have HR : Hid _ := HR0
            have hcv := conv_one7 wr 48
            have hsz : ¬ 9223372036854775807 < (strOfNums [48]).size + (strOfNums xs).size := by rw [hxs, strOfNums_size]; simp; omega
            have kA : Kept wr (wr.alloc (.cells #[.int .u8 48] 5)) := Kept.alloc (Below.refl _ _) _
            go_wp2_with fail
            go_roundw
            case rel =>
              refine ⟨-(q : Int), [48] ++ xs, rfl, by rw [strs_app], ?_, by omega, Kept.trans HK.out kA⟩
              have e1 := HX.out
              rw [Int.natAbs_neg, Int.natAbs_natCast, digN_pos hm0, HQ.out, HR.out, List.append_assoc] at e1
              rw [Int.natAbs_neg, Int.natAbs_natCast]
              exact e1
            case measure => simp [intOf]; omega
          · have dn : decide (-(r : Int) < 0) = true := by simp; omega
            have wn : IntKind.i64.wrap (0 - -(r : Int)) = (r : Int) := by rw [IntWalk.i64_left, IntWalk.wrap64_in _ (by omega)]; omega
            go_wp2_with fail
            go_roundw
            case rel =>
              refine ⟨-(q : Int), [48 + (r : Int)] ++ xs, rfl, by rw [strs_app], ?_, by omega, Kept.trans HK.out kA⟩
              have e1 := HX.out
              rw [Int.natAbs_neg, Int.natAbs_natCast, digN_pos hm0, HQ.out, HR.out, List.append_assoc] at e1
              rw [Int.natAbs_neg, Int.natAbs_natCast]
              exact e1
            case measure => simp [intOf]; omega
        · obtain rfl : n = (m : Int) := by omega
          have hdv : ((m : Int)).tdiv 10 = (q : Int) := by rw [Int.tdiv_eq_ediv_of_nonneg (by omega)]; omega
          have hmd : ((m : Int)).tmod 10 = (r : Int) := by rw [Int.tmod_eq_emod_of_nonneg (by omega)]; omega
          have dn : decide ((r : Int) < 0) = false := by simp
          clear hm hr hq h0 hd hp
          have hd : ((m : Int) != 0) = true := by simp; omega
          go_wp2_with fail
          go_roundw
          case rel =>
            refine ⟨(q : Int), [48 + (r : Int)] ++ xs, rfl, by rw [strs_app], ?_, by omega, Kept.trans HK.out kA⟩
            have e1 := HX.out
            rw [Int.natAbs_natCast, digN_pos hm0, HQ.out, HR.out, List.append_assoc] at e1
            rw [Int.natAbs_natCast]
            exact e1
          case measure => simp [intOf]; omega
end Go.Proofs.YtgnpllpinfhccaaGreatDoor
namespace Go.Proofs.YtgnpllpinfhccaaGreatDoor
open Go.RowKit
attribute [local go_sem] Plain.and7

def numL (order : List Int) (x : Int) : List Int := match order.findIdx? (fun y => decide (y = x)) with
  | some i => [32, 64] ++ digI (i : Nat)
  | none => [32, 64]
def valL (v : Int) (order : List Int) : List Int :=
  if v % 8 = 0 then [32, 117, 110, 100, 101, 102] else if v % 8 = 1 then [32, 110, 117, 108, 108] else if v % 8 = 2 then (if v / 8 = 1 then [32, 116, 114, 117, 101] else [32, 102, 97, 108, 115, 101])
  else if v % 8 = 3 then [32] ++ digI (v / 8) else numL order (v / 8)
theorem numL_len {order : List Int} {x : Int} (hl : order.length ≤ 1048576) : (numL order x).length ≤ 24 := by
  unfold numL
  split
  · rename_i i hi
    have hlt := (List.findIdx?_eq_some_iff_getElem.1 hi).1
    have := digI_len (n := ((i : Nat) : Int)) (by omega)
    rw [List.length_append]
    simp
    omega
  · simp
theorem valL_len {v : Int} {order : List Int} (hv : -9223372036854775808 ≤ v ∧ v ≤ 9223372036854775807) (hl : order.length ≤ 1048576) : (valL v order).length ≤ 24 := by
  unfold valL
  have h1 := numL_len (x := v / 8) hl
  have h2 := digI_len (n := v / 8) (by omega)
  repeat' split
  all_goals (first | omega | (simp; done) | (rw [List.length_append]; simp; omega))
theorem findIdx_at {order : List Int} {x : Int} {k : Nat} (hno : ∀ j, j < k → hz order j ≠ x) (hk : k < order.length) (he : hz order k = x) : order.findIdx? (fun y => decide (y = x)) = some k := by
  have hg : ∀ j (hj : j < order.length), hz order j = order[j] := fun j hj => by unfold hz; rw [List.getElem?_eq_getElem hj]; rfl
  refine List.findIdx?_eq_some_iff_getElem.2 ⟨hk, by rw [← hg k hk]; simpa using he, fun j hj => ?_⟩
  have := hno j hj
  rw [hg j (by omega)] at this
  simpa using this
theorem findIdx_none {order : List Int} {x : Int} (hno : ∀ j, j < order.length → hz order j ≠ x) : order.findIdx? (fun y => decide (y = x)) = none := by
  refine List.findIdx?_eq_none_iff.2 fun y hy => ?_
  obtain ⟨j, hj, e⟩ := List.getElem_of_mem hy
  have := hno j hj
  unfold hz at this
  rw [List.getElem?_eq_getElem hj] at this
  have h2 : ¬ y = x := by rw [← e]; simpa using this
  simpa using h2
set_option maxHeartbeats 8000000 in
set_option maxRecDepth 100000 in
theorem l7Value_ok (w : World) (v : Int) (oo : Option Addr) (oc : Nat) (order : List Int) (hO : Ints w oo order) (hl : order.length ≤ 1048576) (hv : -9223372036854775808 ≤ v ∧ v ≤ 9223372036854775807) :
    Calls Tryz.prog 38 #[.int .i64 v, .slice oo order.length oc] w fun e w' => e = .returned (.string (strOfNums (valL v order))) ∧ Kept w w' := by
  have hNm := fun (u : World) => spec_Num_ok v u
  have hKd := fun (u : World) => spec_Kind_ok v u
  by_cases k0 : v % 8 = 0
  · have HV : Hid (valL v order = [32, 117, 110, 100, 101, 102]) := by simp [Hid, valL, k0]
    rw [k0] at hKd
    clear k0 hO
    go_enter Tryz.func38, Tryz.ntmps38
    go_wp2_with (go_at_call 64; refine (hKd _).mono ?_; rintro e wx ⟨rfl, rfl⟩)
    go_ret
    exact ⟨by rw [HV.out]; rfl, Below.refl _ _⟩
  · by_cases k1 : v % 8 = 1
    · have HV : Hid (valL v order = [32, 110, 117, 108, 108]) := by simp [Hid, valL, k1]
      rw [k1] at hKd
      clear k0 k1 hO
      go_enter Tryz.func38, Tryz.ntmps38
      go_wp2_with (go_at_call 64; refine (hKd _).mono ?_; rintro e wx ⟨rfl, rfl⟩)
      go_ret
      exact ⟨by rw [HV.out]; rfl, Below.refl _ _⟩
    · by_cases k2 : v % 8 = 2
      · rw [k2] at hKd
        by_cases h1 : v / 8 = 1
        · have HV : Hid (valL v order = [32, 116, 114, 117, 101]) := by simp [Hid, valL, k2, h1]
          rw [h1] at hNm
          clear k0 k1 k2 h1 hO
          go_enter Tryz.func38, Tryz.ntmps38
          go_wp2_with (first | (go_at_call 64; refine (hKd _).mono ?_; rintro e wx ⟨rfl, rfl⟩) | (go_at_call 65; refine (hNm _).mono ?_; rintro e wx ⟨rfl, rfl⟩))
          go_ret
          exact ⟨by rw [HV.out]; rfl, Below.refl _ _⟩
        · have HV : Hid (valL v order = [32, 102, 97, 108, 115, 101]) := by simp [Hid, valL, k2, h1]
          have hd : (v / 8 == 1) = false := by simpa using h1
          clear k0 k1 k2 h1 hO
          go_enter Tryz.func38, Tryz.ntmps38
          go_wp2_with (first | (go_at_call 64; refine (hKd _).mono ?_; rintro e wx ⟨rfl, rfl⟩) | (go_at_call 65; refine (hNm _).mono ?_; rintro e wx ⟨rfl, rfl⟩))
          go_ret
          exact ⟨by rw [HV.out]; rfl, Below.refl _ _⟩
      · by_cases k3 : v % 8 = 3
        · have HV : Hid (valL v order = [32] ++ digI (v / 8)) := by simp [Hid, valL, k3]
          rw [k3] at hKd
          have hln := digI_len (n := v / 8) (by omega)
          have hsz : ¬ 9223372036854775807 < (ByteArray.mk #[32]).size + (strOfNums (digI (v / 8))).size := by rw [strOfNums_size]; show ¬ _ < 1 + _; omega
          have HSB : Hid (ByteArray.mk #[32] ++ strOfNums (digI (v / 8)) = strOfNums ([32] ++ digI (v / 8))) := strs_app [32] _
          have hDg := fun (u : World) => l7Digits_ok u (v / 8) (by omega)
          clear k0 k1 k2 k3 hO
          go_enter Tryz.func38, Tryz.ntmps38
          go_wp2_with (first | (go_at_call 64; refine (hKd _).mono ?_; rintro e wx ⟨rfl, rfl⟩) | (go_at_call 65; refine (hNm _).mono ?_; rintro e wx ⟨rfl, rfl⟩) | (go_at_call 66; refine (hDg _).mono ?_; rintro e w1 ⟨rfl, hk1⟩))
          go_ret
          refine ⟨?_, hk1⟩
          rw [HV.out, ← HSB.out]
          rfl
        · have HV : Hid (valL v order = numL order (v / 8)) := by simp [Hid, valL, k0, k1, k2, k3]
          have d0 : (v % 8 == 0) = false := by simpa using k0
          have d1 : (v % 8 == 1) = false := by simpa using k1
          have d2 : (v % 8 == 2) = false := by simpa using k2
          have d3 : (v % 8 == 3) = false := by simpa using k3
          obtain ⟨x, hx⟩ : ∃ x, v / 8 = x := ⟨_, rfl⟩
          rw [hx] at HV hNm
          have HO : Hid _ := hO
          clear k0 k1 k2 k3 hO hx
          go_enter Tryz.func38, Tryz.ntmps38
          go_wp2_with (first | (go_at_call 64; refine (hKd _).mono ?_; rintro e wx ⟨rfl, rfl⟩))
          go_loopw [5] (fun i wr => ∃ k : Nat, i = .int .i64 k ∧ k ≤ order.length ∧ (∀ j, j < k → hz order j ≠ x) ∧ Kept w wr) (fun i _ => order.length - (intOf i).toNat)
          case atStart => exact ⟨0, rfl, Nat.zero_le _, fun j hj => by omega, Below.refl _ _⟩
          case round =>
            obtain ⟨k, rfl, hk, hno, hK⟩ := hrel
            have HNo : Hid _ := hno
            have HK : Hid _ := hK
            clear hno
            by_cases hlt : k < order.length
            · obtain ⟨b, o, rfl, hc⟩ := Ints.at (Ints.kept HO.out hK) hlt
              have c1 := hc k hlt
              have lb : b < wr.heap.size := World.block_lt_of_cell? _ _ c1
              have q1 : (k : Int) < (order.length : Int) := by omega
              have q0 : (0 : Int) ≤ (k : Int) := by omega
              have kd7 : ∀ u, Kept wr.drew u → Kept wr u := fun u hu => Kept.trans (Below.refl _ wr).drew hu
              have y1 : ∀ u, Kept wr.drew u → u.cell? ⟨b, o + k, none⟩ = some (.int .i64 (hz order k)) := fun u hu => ((kd7 u hu).cell (p := ⟨b, o + k, none⟩) lb).trans c1
              have C1 : Hid (∀ u, Kept wr.drew u → Calls Tryz.prog 65 #[.int .i64 v] u fun e w' => e = .returned (.int .i64 x) ∧ Kept u w') := fun u _ => calls_kept (hNm u)
              clear hc hK c1
              by_cases he : hz order k = x
              · have HN : Hid (numL order x = [32, 64] ++ digI (k : Nat)) := by rw [Hid, numL, findIdx_at HNo.out hlt he]
                have hq : (hz order k == x) = true := by simpa using he
                have hln := digI_len (n := (k : Int)) (by omega)
                have hsz : ¬ 9223372036854775807 < (ByteArray.mk #[32, 64]).size + (strOfNums (digI (k : Int))).size := by rw [strOfNums_size]; show ¬ _ < 2 + _; omega
                have HSB : Hid (ByteArray.mk #[32, 64] ++ strOfNums (digI (k : Int)) = strOfNums ([32, 64] ++ digI (k : Int))) := strs_app [32, 64] _
                have hDg := fun (u : World) => l7Digits_ok u (k : Int) (by omega)
                clear he
                go_wp2_with fail
                refine wp_region_seqL (by kernel_rfl) (by kernel_rfl) ?_
                repeat (first
                  | (refine SeqL.skip (by rfl) ?_; simp only [Act.put, List.setIfInBounds_toArray, List.set_cons_zero, List.set_cons_succ])
                  | (refine SeqL.pure ?_ (by rfl) ?_ ?_; rotate_left; (focus (intro u hu; have y1' := y1 u hu; go_simp; first | done | exact rfl)); simp only [Act.put, List.setIfInBounds_toArray, List.set_cons_zero, List.set_cons_succ])
                  | (refine SeqL.call _ _ _ (by rfl) ?_ C1.out ?_; (focus (intro u; go_simp; done)); simp only [Act.put, List.setIfInBounds_toArray, List.set_cons_zero, List.set_cons_succ]))
                refine SeqL.nil ?_
                intro w5 hu5
                have K5 := Kept.trans HK.out (kd7 w5 hu5)
                clear y1 C1 kd7
                go_wp2_with (go_at_call 66; refine (hDg _).mono ?_; rintro e w6 ⟨rfl, hk6⟩)
                go_ret
                refine ⟨?_, K5.trans hk6⟩
                rw [HV.out, HN.out, ← HSB.out]
                rfl
              · have hq : (hz order k == x) = false := by simpa using he
                have HE : Hid _ := he
                clear he
                go_wp2_with fail
                refine wp_region_seqL (by kernel_rfl) (by kernel_rfl) ?_
                repeat (first
                  | (refine SeqL.skip (by rfl) ?_; simp only [Act.put, List.setIfInBounds_toArray, List.set_cons_zero, List.set_cons_succ])
                  | (refine SeqL.pure ?_ (by rfl) ?_ ?_; rotate_left; (focus (intro u hu; have y1' := y1 u hu; go_simp; first | done | exact rfl)); simp only [Act.put, List.setIfInBounds_toArray, List.set_cons_zero, List.set_cons_succ])
                  | (refine SeqL.call _ _ _ (by rfl) ?_ C1.out ?_; (focus (intro u; go_simp; done)); simp only [Act.put, List.setIfInBounds_toArray, List.set_cons_zero, List.set_cons_succ]))
                refine SeqL.nil ?_
                intro w5 hu5
                have K5 := Kept.trans HK.out (kd7 w5 hu5)
                clear y1 C1 kd7
                go_wp2_with fail
                go_roundw
                case rel =>
                  refine ⟨k + 1, by go_num, by omega, fun j hj => ?_, K5⟩
                  rcases Nat.lt_or_ge j k with h | h
                  · exact HNo.out j h
                  · have : j = k := by omega
                    subst this
                    exact HE.out
                case measure => simp [intOf]; omega
            · obtain rfl : k = order.length := by omega
              have HN : Hid (numL order x = [32, 64]) := by rw [Hid, numL, findIdx_none HNo.out]
              clear hK
              go_wp2_with fail
              go_ret
              exact ⟨by rw [HV.out, HN.out]; rfl, HK.out⟩
end Go.Proofs.YtgnpllpinfhccaaGreatDoor
