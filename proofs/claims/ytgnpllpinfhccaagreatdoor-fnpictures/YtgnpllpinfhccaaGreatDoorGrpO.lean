/-
  Where only one block, and new ones, have turned: the cursor.
  Facts on lists: places at which a block begins.
  Facts on lists: sweeping (chapter 9's models): the place behind the block in which a place lies; what a sweep of some steps leaves.
  Facts on lists: sliding (chapter 10's models): the place that a block gets, values that go along, the words that are slid.
  The contracts of spec.l10To and spec.l10Moved.
  The contract of spec.Slide.
-/
import Derived.Deep.RegionHeld3
import Derived.Deep.AppendLies
import Derived.Deep.CutRange
import Derived.Test.YtgnpllpinfhccaaGreatDoorGrpI
import Derived.Test.YtgnpllpinfhccaaGreatDoorGrpC
import Derived.Test.YtgnpllpinfhccaaGreatDoorZSlabX
import Derived.Test.YtgnpllpinfhccaaGreatDoorGrpG
import Derived.Test.YtgnpllpinfhccaaGreatDoorGrpB
import Derived.Test.YtgnpllpinfhccaaGreatDoorZSlabS
import Derived.Test.YtgnpllpinfhccaaGreatDoorZVal
import Derived.Test.YtgnpllpinfhccaaGreatDoorZSeq
import Derived.Test.YtgnpllpinfhccaaGreatDoorZShapeQ
import Derived.Test.YtgnpllpinfhccaaGreatDoorGrpS
import Derived.Test.YtgnpllpinfhccaaGreatDoorZSlabR
namespace Go.Proofs.YtgnpllpinfhccaaGreatDoor
open Go.RowKit

theorem Cur.on {c : Nat} {a : Option Addr} {len cap : Nat} {z : Nat → Int} {w w' : World} {row : Option Nat} (h : Cur w c a len cap z) (hg : w.grownBy w' row) (hr : ∀ k, row = some k → c < k) : Cur w' c a len cap z :=
  h.upto hg.size (fun k hk => hg.block k (by have := h.lt; omega) (fun e => by have := hr k e.symm; omega))

end Go.Proofs.YtgnpllpinfhccaaGreatDoor
namespace Go.Proofs.YtgnpllpinfhccaaGreatDoor

def Bnd (zs : List Int) (k : Nat) : Prop := ∃ p r, Seg zs 0 p k ∧ Seg zs k r zs.length
theorem Bnd.zero {zs : List Int} (h : slabOk zs = true) : Bnd zs 0 := ⟨[], _, .nil 0, Seg.whole h⟩
theorem Bnd.le {zs : List Int} {k : Nat} (h : Bnd zs k) : k ≤ zs.length := by
  obtain ⟨_, _, _, h2⟩ := h
  exact h2.le
theorem Bnd.good {zs : List Int} {k : Nat} (h : Bnd zs k) (hk : k < zs.length) : Good zs k ∧ Bnd zs (k + sz zs k) := by
  obtain ⟨p, r, h1, h2⟩ := h
  cases r with
  | nil => have := h2.endN; omega
  | cons x r =>
    obtain ⟨_, hg, h3⟩ := h2.head
    exact ⟨hg, _, r, h1.app (Seg.cons hg (.nil _)), h3⟩
theorem Bnd.mem {zs : List Int} {k : Nat} (h : Bnd zs k) (hk : k < zs.length) (hl : zs.length ≤ 2000) : (⟨k, sz zs k, kd zs k⟩ : Bk) ∈ raw (blocks zs) := by
  obtain ⟨p, r, h1, h2⟩ := h
  rw [((h1.app h2).slab hl).2]
  cases r with
  | nil => have := h2.endN; omega
  | cons x r =>
    obtain ⟨e, _, _⟩ := h2.head
    rw [← e]
    simp
end Go.Proofs.YtgnpllpinfhccaaGreatDoor
namespace Go.Proofs.YtgnpllpinfhccaaGreatDoor
open Go.RowKit

def behF (zs : List Int) (a : Nat) : Nat → Nat → Nat
  | 0, k => k
  | n + 1, k => if k ≤ a then behF zs a n (k + sz zs k) else k
def behL (zs : List Int) (a : Nat) : Nat := behF zs a (zs.length + 1) 0
theorem behF_on {zs : List Int} {a n k : Nat} (h : k ≤ a) : behF zs a (n + 1) k = behF zs a n (k + sz zs k) := by simp [behF, h]
theorem behF_end {zs : List Int} {a k : Nat} (h : a < k) : ∀ n, behF zs a n k = k
  | 0 => rfl
  | n + 1 => by simp [behF, show ¬ k ≤ a by omega]
theorem behF_bnd {zs : List Int} {a : Nat} (ha : a < zs.length) : ∀ (n k : Nat), Bnd zs k → zs.length < n + k → Bnd zs (behF zs a n k) ∧ a < behF zs a n k
  | 0, k, h, hn => by have := h.le; omega
  | n + 1, k, h, hn => by
    by_cases hk : k ≤ a
    · rw [behF_on hk]
      obtain ⟨hg, hb⟩ := h.good (by omega)
      have := hg.sz2
      exact behF_bnd ha n _ hb (by omega)
    · rw [behF_end (by omega)]
      exact ⟨h, by omega⟩
theorem behL_bnd {zs : List Int} {a : Nat} (hok : slabOk zs = true) (ha : a < zs.length) : Bnd zs (behL zs a) ∧ a < behL zs a := behF_bnd ha _ 0 (Bnd.zero hok) (by omega)
def swpW (zs bs : List Int) (a : Nat) : List Int := if kd zs a ≠ 0 ∧ ((a : Nat) : Int) ∉ bs then giveB zs ⟨a, sz zs a, kd zs a⟩ else zs
theorem swpW_len (zs bs : List Int) (a : Nat) : (swpW zs bs a).length = zs.length := by
  unfold swpW
  split
  · exact giveB_len _ _
  · rfl
def sweepL (bs : List Int) : Nat → List Int → Nat → List Int × Nat
  | 0, zs, a => (zs, a)
  | n + 1, zs, a => if a < zs.length then sweepL bs n (swpW zs bs a) (behL (swpW zs bs a) a) else (zs, a)
theorem sweepL_on {zs bs : List Int} {n a : Nat} (h : a < zs.length) : sweepL bs (n + 1) zs a = sweepL bs n (swpW zs bs a) (behL (swpW zs bs a) a) := by simp [sweepL, h]
theorem sweepL_end {zs bs : List Int} {a : Nat} (h : ¬ a < zs.length) : ∀ n, sweepL bs n zs a = (zs, a)
  | 0 => rfl
  | n + 1 => by simp [sweepL, h]
theorem swpW_ok {zs bs : List Int} {a : Nat} (hok : slabOk zs = true) (hb : Bnd zs a) (ha : a < zs.length) : slabOk (swpW zs bs a) = true ∧ Bnd (swpW zs bs a) (behL (swpW zs bs a) a) ∧ a < behL (swpW zs bs a) a := by
  have h1 : slabOk (swpW zs bs a) = true := by
    unfold swpW
    split
    · rename_i h
      exact (giveB_ok hok (hb.mem ha (slabOk_len hok)) h.1).1
    · exact hok
  exact ⟨h1, behL_bnd h1 (by rw [swpW_len]; exact ha)⟩
theorem sweepL_len (bs : List Int) : ∀ (n : Nat) (zs : List Int) (a : Nat), (sweepL bs n zs a).1.length = zs.length
  | 0, _, _ => rfl
  | n + 1, zs, a => by
    unfold sweepL
    split
    · rw [sweepL_len bs n, swpW_len]
    · rfl
end Go.Proofs.YtgnpllpinfhccaaGreatDoor
namespace Go.Proofs.YtgnpllpinfhccaaGreatDoor
open Go.RowKit

def movF (zs : List Int) (a : Nat) : Nat → Nat → Nat → Nat
  | 0, _, to' => to'
  | n + 1, k, to' => if k < a then movF zs a n (k + sz zs k) (if kd zs k ≠ 0 then to' + sz zs k else to') else to'
def movT (zs : List Int) (a : Nat) : Nat := movF zs a (zs.length + 1) 0 0
theorem movF_on {zs : List Int} {a n k t : Nat} (h : k < a) : movF zs a (n + 1) k t = movF zs a n (k + sz zs k) (if kd zs k ≠ 0 then t + sz zs k else t) := by simp [movF, h]
theorem movF_end {zs : List Int} {a k t : Nat} (h : ¬ k < a) : ∀ n, movF zs a n k t = t
  | 0 => rfl
  | n + 1 => by simp [movF, h]
def movV (zs : List Int) (v : Int) : Int := if v % 8 < 4 then v else 8 * (movT zs (v / 8).toNat : Nat) + v % 8
def movW (zs : List Int) (a k : Nat) : Int := if ((a + k : Nat) : Int) ∈ slotsL zs a then movV zs (hz zs (a + k)) else hz zs (a + k)
def blkW (zs : List Int) (a n : Nat) : List Int := (List.range n).map (movW zs a)
theorem blkW_len (zs : List Int) (a n : Nat) : (blkW zs a n).length = n := by simp [blkW]
theorem blkW_succ (zs : List Int) (a n : Nat) : blkW zs a (n + 1) = blkW zs a n ++ [movW zs a n] := by simp [blkW, List.range_succ]
def slidW {L : Nat} (zs : List Int) : List (BkOf L) → List Int
  | [] => []
  | b :: r => (if b.1.kind ≠ 0 then blkW zs b.1.at' b.1.size else []) ++ slidW zs r
theorem slidW_app {L : Nat} (zs : List Int) (xs ys : List (BkOf L)) : slidW zs (xs ++ ys) = slidW zs xs ++ slidW zs ys := by
  induction xs with
  | nil => simp [slidW]
  | cons x xs ih => simp only [List.cons_append, slidW, ih, List.append_assoc]
def restW (r j : Nat) : List Int := (List.range j).map (fun k => if k = 0 then 8 * (r : Int) else 0)
theorem restW_succ (r j : Nat) : restW r (j + 1) = restW r j ++ [if j = 0 then 8 * (r : Int) else 0] := by simp [restW, List.range_succ]
theorem restW_len (r j : Nat) : (restW r j).length = j := by simp [restW]
def slidL (zs : List Int) : List Int := slidW zs (blocks zs) ++ restW (zs.length - (slidW zs (blocks zs)).length) (zs.length - (slidW zs (blocks zs)).length)
def slideC (zs rs : List Int) : List Int × List Int := if rootsR zs rs = true then (slidL zs, rs.map (movV zs)) else ([], [])
theorem movF_le {zs : List Int} {a : Nat} (ha : a ≤ zs.length) : ∀ (n k t : Nat), Bnd zs k → t ≤ k → movF zs a n k t ≤ zs.length
  | 0, k, t, h, ht => by have := h.le; simp only [movF]; omega
  | n + 1, k, t, h, ht => by
    by_cases hk : k < a
    · rw [movF_on hk]
      obtain ⟨hg, hb⟩ := h.good (by omega)
      exact movF_le ha n _ _ hb (by split <;> omega)
    · rw [movF_end hk]
      have := h.le
      omega
theorem movT_le {zs : List Int} {a : Nat} (hok : slabOk zs = true) (ha : a ≤ zs.length) : movT zs a ≤ zs.length := movF_le ha _ 0 0 (Bnd.zero hok) (Nat.le_refl _)
theorem slidW_blks (zs : List Int) (k : Nat) (hk : k ≤ zs.length) : k + (slidW zs (blks zs k)).length ≤ zs.length := by
  refine blks_ind zs (P := fun k => k ≤ zs.length → k + (slidW zs (blks zs k)).length ≤ zs.length) (fun k h ih hk => ?_) (fun k h hk => by rw [blks_no h]; simpa [slidW] using hk) k hk
  rw [blks_yes h]
  have h1 := ih h.le
  simp only [slidW, List.length_append]
  split
  · rw [blkW_len]; omega
  · simp only [List.length_nil]; omega
theorem slidW_le (zs : List Int) : (slidW zs (blocks zs)).length ≤ zs.length := by
  have := slidW_blks zs 0 (Nat.zero_le _)
  rw [show blks zs 0 = blocks zs from rfl] at this
  omega
theorem slidW_pre {zs : List Int} (j : Nat) : (slidW zs ((blocks zs).take j)).length ≤ zs.length := by
  have h := slidW_le zs
  rw [← List.take_append_drop j (blocks zs), slidW_app, List.length_append] at h
  omega
theorem slidW_next {zs : List Int} {j : Nat} (h : j < (blocks zs).length) : slidW zs ((blocks zs).take (j + 1)) = slidW zs ((blocks zs).take j) ++ (if ((blocks zs)[j]).1.kind ≠ 0 then blkW zs ((blocks zs)[j]).1.at' ((blocks zs)[j]).1.size else []) := by
  rw [List.take_add_one, List.getElem?_eq_getElem h]
  simp only [Option.toList_some, slidW_app, slidW, List.append_nil]
theorem movV_in {zs : List Int} {v : Int} (hok : slabOk zs = true) (hv : -9223372036854775808 ≤ v ∧ v ≤ 9223372036854775807) (hp : ¬ v % 8 < 4 → v / 8 ≤ (zs.length : Int)) : -9223372036854775808 ≤ movV zs v ∧ movV zs v ≤ 9223372036854775807 := by
  unfold movV
  split
  · exact hv
  · rename_i h
    have h1 := hp h
    have h2 := movT_le (a := (v / 8).toNat) hok (by omega)
    have h3 := slabOk_len hok
    omega
end Go.Proofs.YtgnpllpinfhccaaGreatDoor
namespace Go.Proofs.YtgnpllpinfhccaaGreatDoor
open Go.RowKit
attribute [local go_sem] Plain.and7

set_option maxHeartbeats 4000000 in
set_option maxRecDepth 100000 in
theorem l10To_ok (w : World) (ao : Option Addr) (cap : Nat) (zs : List Int) (a : Nat) (hI : Ints w ao zs) (hok : slabOk zs = true) (ha : a ≤ zs.length) :
    Calls Tryz.prog 124 #[.agg #[.slice ao zs.length cap], .int .i64 (a : Nat)] w fun e w' => e = .returned (.int .i64 (movT zs a : Nat)) ∧ Kept w w' := by
  have hlen := slabOk_len hok
  have b0 := Cells.new w 26 #[.slice ao zs.length cap]
  have k0 : Kept w (w.alloc (.cells #[.slice ao zs.length cap] 26)) := Kept.alloc (Below.refl _ _) _
  have HB0 : Hid _ := Bnd.zero hok
  have HI : Hid _ := hI.kept k0
  clear hI hok
  have c0 := b0.cell 0
  go_enter Tryz.func124, Tryz.ntmps124
  go_wp2_with fail
  go_loopw [5, 6] (fun t v wr => ∃ k n s : Nat, v = .int .i64 k ∧ t = .int .i64 s ∧ Hid (Bnd zs k ∧ movT zs a = movF zs a n k s ∧ zs.length < n + k) ∧ s ≤ k ∧ k ≤ zs.length ∧ wr = w.alloc (.cells #[.slice ao zs.length cap] 26)) (fun _ v _ => zs.length + 1 - (intOf v).toNat)
  case atStart => exact ⟨0, zs.length + 1, 0, rfl, rfl, ⟨HB0.out, rfl, by omega⟩, Nat.le_refl _, Nat.zero_le _, rfl⟩
  case round =>
    obtain ⟨k, n, s, rfl, rfl, HR, hsk, hk, rfl⟩ := hrel
    by_cases hlt : k < a
    · obtain ⟨hg, hb⟩ := HR.out.1.good (by omega)
      have hgl := hg.lt
      have hszI := hg.szI
      have hle := hg.le
      have hs2 := hg.sz2
      have hkdI := kdI zs k
      obtain ⟨bb, off, rfl, hc⟩ := Ints.at HI.out hgl
      have hck := hc _ hgl
      have HB : Hid (Bnd zs (k + sz zs k)) := hb
      have HN : Hid (movT zs a = movF zs a (n - 1) (k + sz zs k) (if kd zs k ≠ 0 then s + sz zs k else s)) := by
        have hn : n = (n - 1) + 1 := by have := HR.out.2.2; omega
        rw [Hid, HR.out.2.1, hn, movF_on hlt]
        rfl
      have HNL : Hid (zs.length < n + k) := HR.out.2.2
      have hq1 : (k : Int) < (a : Int) := by omega
      have hq2 : (k : Int) < (zs.length : Int) := by omega
      have hq3 : (0 : Int) ≤ (k : Int) := by omega
      have HS : Hid ((sz zs k : Int) = hz zs k / 8) := hszI
      have HQ : Hid ((kd zs k : Int) = hz zs k % 8) := hkdI
      have hsb : (k : Int) + hz zs k / 8 ≤ 4000 := by omega
      have hsb0 : 0 ≤ hz zs k / 8 := by omega
      clear hc hg hb hszI hlt hkdI
      by_cases hz8 : hz zs k % 8 = 0
      · have hd : (hz zs k % 8 != 0) = false := by simp [hz8]
        have HZ : Hid (kd zs k = 0) := by have := HQ.out; rw [Hid]; omega
        clear hz8
        go_wp2_with (first | (go_at_call 74; refine (l2Size_ok _ _).mono ?_; rintro e wx ⟨rfl, rfl⟩) | (go_at_call 67; refine (l2Kind_ok _ _).mono ?_; rintro e wx ⟨rfl, rfl⟩))
        go_roundw
        case rel => exact ⟨k + sz zs k, n - 1, s, by have := HS.out; go_num, rfl, ⟨HB.out, by rw [HN.out, if_neg (by rw [HZ.out]; simp)], by have := HNL.out; omega⟩, by omega, hle, by first | trivial | rfl⟩
        case measure => have := HS.out; simp [intOf]; omega
      · have hd : (hz zs k % 8 != 0) = true := by simpa using hz8
        have HZ : Hid (kd zs k ≠ 0) := by have := HQ.out; rw [Hid]; omega
        clear hz8
        go_wp2_with (first | (go_at_call 74; refine (l2Size_ok _ _).mono ?_; rintro e wx ⟨rfl, rfl⟩) | (go_at_call 67; refine (l2Kind_ok _ _).mono ?_; rintro e wx ⟨rfl, rfl⟩))
        go_roundw
        case rel => exact ⟨k + sz zs k, n - 1, s + sz zs k, by have := HS.out; go_num, by have := HS.out; go_num, ⟨HB.out, by rw [HN.out, if_pos HZ.out], by have := HNL.out; omega⟩, by omega, hle, by first | trivial | rfl⟩
        case measure => have := HS.out; simp [intOf]; omega
    · have HE : Hid (movT zs a = s) := by rw [Hid, HR.out.2.1, movF_end hlt]
      have hq1 : (a : Int) ≤ (k : Int) := by omega
      clear hlt
      go_wp2_with fail
      go_ret
      exact ⟨by rw [HE.out]; rfl, k0⟩
set_option maxHeartbeats 4000000 in
set_option maxRecDepth 100000 in
theorem l10Moved_ok (w : World) (ao : Option Addr) (cap : Nat) (zs : List Int) (v : Int) (hI : Ints w ao zs) (hok : slabOk zs = true) (hp : ¬ v % 8 < 4 → 0 ≤ v / 8 ∧ v / 8 ≤ (zs.length : Int)) :
    Calls Tryz.prog 75 #[.agg #[.slice ao zs.length cap], .int .i64 v] w fun e w' => e = .returned (.int .i64 (movV zs v)) ∧ Kept w w' := by
  have hlen := slabOk_len hok
  have b0 := Cells.new w 26 #[.slice ao zs.length cap]
  have k0 : Kept w (w.alloc (.cells #[.slice ao zs.length cap] 26)) := Kept.alloc (Below.refl _ _) _
  have hKd := fun (u : World) => spec_Kind_ok v u
  have hNm := fun (u : World) => spec_Num_ok v u
  by_cases h4 : v % 8 < 4
  · have HV : Hid (movV zs v = v) := if_pos h4
    go_enter Tryz.func75, Tryz.ntmps75
    go_wp2_with (first | (go_at_call 64; refine (hKd _).mono ?_; rintro e wx ⟨rfl, rfl⟩))
    go_ret
    exact ⟨by rw [HV.out]; rfl, k0⟩
  · obtain ⟨h0, h1⟩ := hp h4
    obtain ⟨a, ha⟩ : ∃ a : Nat, v / 8 = a := ⟨(v / 8).toNat, by omega⟩
    have HV : Hid (movV zs v = 8 * (movT zs a : Nat) + v % 8) := by
      rw [Hid]
      unfold movV
      rw [if_neg h4, ha, Int.toNat_natCast]
    have hmt := movT_le (a := a) hok (by omega)
    have C2 : Hid (∀ u, Kept (w.alloc (.cells #[.slice ao zs.length cap] 26)).drew u → Calls Tryz.prog 124 #[.agg #[.slice ao zs.length cap], .int .i64 (a : Nat)] u fun e w' => e = .returned (.int .i64 (movT zs a : Nat)) ∧ Kept u w') := fun u hu => l10To_ok u ao cap zs a ((hI.kept k0).kept (Kept.trans (Below.refl _ _).drew hu)) hok (by omega)
    have C1 : Hid (∀ u, Kept (w.alloc (.cells #[.slice ao zs.length cap] 26)).drew u → Calls Tryz.prog 65 #[.int .i64 v] u fun e w' => e = .returned (.int .i64 (a : Nat)) ∧ Kept u w') := fun u _ => by
      have := calls_kept (hNm u)
      rwa [ha] at this
    have C3 : Hid (∀ u, Kept (w.alloc (.cells #[.slice ao zs.length cap] 26)).drew u → Calls Tryz.prog 64 #[.int .i64 v] u fun e w' => e = .returned (.int .i64 (v % 8)) ∧ Kept u w') := fun u _ => calls_kept (hKd u)
    have y0 : ∀ u, Kept (w.alloc (.cells #[.slice ao zs.length cap] 26)).drew u → u.cell? ⟨w.heap.size, 0, none⟩ = some (.slice ao zs.length cap) := fun u hu => (b0.kept (Kept.trans (Below.refl _ _).drew hu)).cell 0
    obtain ⟨mt, hmt'⟩ : ∃ mt, movT zs a = mt := ⟨_, rfl⟩
    rw [hmt'] at HV C2 hmt
    have hw1 : IntKind.i64.wrap (8 * (mt : Int)) = 8 * (mt : Int) := by rw [IntWalk.i64_left, IntWalk.wrap64_in _ (by omega)]
    have hw2 : IntKind.i64.wrap (8 * (mt : Int) + v % 8) = 8 * (mt : Int) + v % 8 := by rw [IntWalk.i64_left, IntWalk.wrap64_in _ (by omega)]
    clear h0 h1 ha hNm hmt' hI hok hp
    go_enter Tryz.func75, Tryz.ntmps75
    go_wp2_with (first | (go_at_call 64; refine (hKd _).mono ?_; rintro e wx ⟨rfl, rfl⟩))
    refine wp_region_seqL (by kernel_rfl) (by kernel_rfl) ?_
    repeat (first
      | (refine SeqL.skip (by rfl) ?_; simp only [Act.put, List.setIfInBounds_toArray, List.set_cons_zero, List.set_cons_succ])
      | (refine SeqL.pure ?_ (by rfl) ?_ ?_; rotate_left; (focus (intro u hu; have y0' := y0 u hu; go_simp; first | done | exact rfl)); simp only [Act.put, List.setIfInBounds_toArray, List.set_cons_zero, List.set_cons_succ])
      | (refine SeqL.call _ _ _ (by rfl) ?_ C1.out ?_; (focus (intro u; go_simp; done)); simp only [Act.put, List.setIfInBounds_toArray, List.set_cons_zero, List.set_cons_succ])
      | (refine SeqL.call _ _ _ (by rfl) ?_ C2.out ?_; (focus (intro u; go_simp; done)); simp only [Act.put, List.setIfInBounds_toArray, List.set_cons_zero, List.set_cons_succ])
      | (refine SeqL.call _ _ _ (by rfl) ?_ C3.out ?_; (focus (intro u; go_simp; done)); simp only [Act.put, List.setIfInBounds_toArray, List.set_cons_zero, List.set_cons_succ]))
    refine SeqL.nil ?_
    intro w5 hu5
    go_wp2_with fail
    go_ret
    exact ⟨by rw [HV.out]; rfl, Kept.trans k0 (Kept.trans (Below.refl _ _).drew hu5)⟩
end Go.Proofs.YtgnpllpinfhccaaGreatDoor
namespace Go.Proofs.YtgnpllpinfhccaaGreatDoor
open Go.RowKit
attribute [local go_sem] Plain.and7
set_option linter.unusedSimpArgs false

theorem Keeps.ofKept {c : Nat} {W W' : World} (hk : Kept W W') : Keeps c W W' := ⟨hk.os, hk.tape, hk.output, hk.size, fun k h _ => hk.block k h⟩
structure SlO (w2 : World) (B : Nat) (l : List Int) (ov : Value) (W : World) : Prop where
  box : Cells W B 26 #[ov]
  own : OwnL W w2.heap.size ov l
  k : Keeps B w2 W
  hB : B < w2.heap.size
theorem SlO.go {w2 : World} {B : Nat} {l : List Int} {ov : Value} {W W' : World} (h : SlO w2 B l ov W) (hk : Kept W W') : SlO w2 B l ov W' :=
  ⟨h.box.kept hk, h.own.kept (row := none) hk.grown (fun _ e => by cases e), h.k.trans (Keeps.ofKept hk), h.hB⟩
theorem SlO.put {w2 : World} {B : Nat} {l : List Int} {ov v' : Value} {x : Int} {W W' : World} (h : SlO w2 B l ov W) (hx : -9223372036854775808 ≤ x ∧ x ≤ 9223372036854775807) (hown : W'.ownsRow w2.heap.size 3 1 v' (l.length + 1) (l.map (Value.int .i64) ++ [.int .i64 x])) (hgr : W.grownBy W' ov.ownBlock) :
    Cells W' B 26 #[ov] ∧ SlO w2 B (l ++ [x]) v' (W'.setCell ⟨B, 0, none⟩ v') := by
  have hB := h.hB
  have hb : Cells W' B 26 #[ov] := h.box.grown hgr (fun e => by have := (h.own.2.lt B e.symm).1; omega)
  have o1 : OwnL W' w2.heap.size v' (l ++ [x]) := OwnL.snoc (fun z hz => by
    rcases List.mem_append.1 hz with h' | h'
    · exact h.own.1 z h'
    · rw [List.mem_singleton.1 h']; exact hx) hown
  refine ⟨hb, hb.set1 v', o1.turned ((Keeps.refl B W').setCell 0 v') hB, ?_, hB⟩
  exact (h.k.on hgr (fun k e => (h.own.2.lt k e).1)).setCell 0 v'
set_option maxHeartbeats 32000000 in
set_option maxRecDepth 100000 in
theorem spec_Slide_ok (w : World) (ao ro : Option Addr) (cap rc : Nat) (zs rs : List Int) (hI : Ints w ao zs) (hl : zs.length ≤ 1048576) (hR : Ints w ro rs) (hrl : rs.length ≤ 1048576) :
    Calls Tryz.prog 46 #[.agg #[.slice ao zs.length cap], .slice ro rs.length rc] w fun e w' => ∃ v rv, e = .returned (.tuple #[.agg #[v], rv]) ∧ OwnL w' w.heap.size v (slideC zs rs).1 ∧ OwnL w' w.heap.size rv (slideC zs rs).2 ∧ Kept w w' := by
  obtain ⟨i0, hi, hz0, hz1, hz2⟩ := info_parts infoI
  have hL : zs.length * 8 ≤ 140737488351232 := by omega
  have b0 := (Cells.new w 26 #[.slice ao zs.length cap]).alloc (.cells #[.slice none 0 0] 26)
  have b1 := Cells.new (w.alloc (.cells #[.slice ao zs.length cap] 26)) 26 #[.slice none 0 0]
  simp only [World.size_alloc] at b1
  have k0 : Kept w ((w.alloc (.cells #[.slice ao zs.length cap] 26)).alloc (.cells #[.slice none 0 0] 26)) := (Kept.alloc (Below.refl _ _) _).alloc _
  have hRo := spec_RootsOk_ok _ ao ro cap rc zs rs (hI.kept k0) hl (hR.kept k0) hrl
  cases hr : rootsR zs rs with
  | false =>
    have HR : Hid (slideC zs rs = ([], [])) := by simp [Hid, slideC, hr]
    rw [hr] at hRo
    clear hr hI hR
    go_enter Tryz.func46, Tryz.ntmps46
    go_wp2_with (go_at_call 36; refine hRo.mono ?_; rintro e w1 ⟨rfl, hk1⟩; have d0 := (b1.kept hk1).cell 0; have f0 := (b1.kept hk1).frozen 0; have l0 := (b1.kept hk1).lt)
    have x1 := (b1.kept hk1).set1 (.slice none 0 0)
    have q := (x1.alloc (.cells #[] 3)).cell 0
    have k1 := (k0.trans hk1).set (p := ⟨w.heap.size + 1, 0, none⟩) (by simp) (.slice none 0 0)
    have hs1 := k1.size
    have on0 : OwnL ((w1.setCell ⟨w.heap.size + 1, 0, none⟩ (.slice none 0 0)).alloc (.cells #[] 3)) w.heap.size (.slice none 0 0) [] := ⟨by simp, ⟨by simp, .inl ⟨rfl, rfl⟩⟩⟩
    have on1 : OwnL ((w1.setCell ⟨w.heap.size + 1, 0, none⟩ (.slice none 0 0)).alloc (.cells #[] 3)) w.heap.size (.slice (some ⟨w1.heap.size, 0, none⟩) 0 0) [] := by
      refine ⟨by simp, ?_⟩
      have := World.ownsRow_made (base := (w1.setCell ⟨w.heap.size + 1, 0, none⟩ (.slice none 0 0)).heap.size) (e := 3) (size := 1) (w1.setCell ⟨w.heap.size + 1, 0, none⟩ (.slice none 0 0)) #[] 0 (by simp) (by unfold maxLen; omega) (by simp)
      have e : (w1.setCell ⟨w.heap.size + 1, 0, none⟩ (.slice none 0 0)).heap.size = w1.heap.size := by simp [World.setCell]
      rw [e] at this
      exact ownsRow_base (by simpa using this) (by rw [e] at hs1; exact hs1)
    refine bodyPost_ret (v := .tuple #[.agg #[.slice none 0 0], .slice (some ⟨w1.heap.size, 0, none⟩) 0 0]) (by simp [results, Tryz.results46, go_sem, q]) rfl ⟨_, _, rfl, by rw [HR.out]; exact on0, by rw [HR.out]; exact on1, k1.alloc _⟩
  | true =>
    have hok : slabOk zs = true := by
      unfold rootsR heapR at hr
      simp only [Bool.and_eq_true] at hr
      exact hr.1.1
    have hh : heapR zs = true := by
      unfold rootsR at hr
      simp only [Bool.and_eq_true] at hr
      exact hr.1
    have HC : Hid (slideC zs rs = (slidL zs, rs.map (movV zs))) := by simp [Hid, slideC, hr]
    have hlen := slabOk_len hok
    have hcount := blocks_count zs
    have HRL : Hid (LeadsP zs rs) := leadsP_roots hr
    rw [hr] at hRo
    have HOK : Hid (slabOk zs = true) := hok
    have HH : Hid (heapR zs = true) := hh
    have HI : Hid (∀ u, Kept w u → Ints u ao zs) := fun u hu => hI.kept hu
    have HRs : Hid (∀ u, Kept w u → Ints u ro rs) := fun u hu => hR.kept hu
    have HBl : Hid _ := fun (u : World) (hu : Kept w u) => l2Blocks_ok u ao cap zs (hI.kept hu) hL hok
    have hal : (atsOf (blocks zs)).length = (blocks zs).length := by simp [atsOf]
    have HL : Hid _ := hal
    clear hr hok hh hI hR hal
    go_enter Tryz.func46, Tryz.ntmps46
    go_wp2_with (first | (go_at_call 36; refine hRo.mono ?_; rintro e w1 ⟨rfl, hk1⟩; have c1 := (((b0.kept hk1).alloc (.cells #[.slice none 0 0] 26))).cell 0; have lb := (b0.kept hk1).lt) | (go_at_call 73; refine (HBl.out _ ((k0.trans hk1).alloc _)).mono ?_; rintro e w2 ⟨v2, rfl, hO2, hk2⟩; obtain ⟨pa, pc, rfl, hP⟩ := hO2.ints; rw [HL.out]))
    have ka : Kept w1 (w1.alloc (.cells #[.slice none 0 0] 26)) := Kept.alloc (Below.refl _ _) _
    have x2 := ((b0.kept hk1).kept ka).kept hk2
    have x4 := ((b1.kept hk1).kept ka).kept hk2
    have x6 := (Cells.new w1 26 #[.slice none 0 0]).kept hk2
    have K2 := ((k0.trans hk1).trans ka).trans hk2
    have hs1 := (k0.trans hk1).size
    have hs2 := hk2.size
    simp only [World.size_alloc] at hs2
    have hs0 : w.heap.size + 2 ≤ w1.heap.size := by have := hk1.size; simp at this; omega
    obtain ⟨B6, hB6⟩ : ∃ B, w1.heap.size = B := ⟨_, rfl⟩
    rw [hB6] at x6 hs2 hs0 hs1
    simp only [World.size_alloc, hB6] at hO2
    simp only [hB6]
    have S0 : SlO w2 B6 (slidW zs ((blocks zs).take 0)) (.slice none 0 0) w2 := ⟨x6, ⟨by simp [slidW], ⟨by simp [slidW], .inl ⟨rfl, by simp [slidW]⟩⟩⟩, Keeps.refl _ _, by omega⟩
    have HS0 : Hid _ := S0
    have HP : Hid (OwnL w2 (B6 + 1) (.slice pa (atsOf (blocks zs)).length pc) (atsOf (blocks zs))) := hO2
    clear hB6 hRo hk1 hk2 ka HBl c1 lb b0 b1 k0 x6 hP hO2 S0
    go_loopw [8] (fun i wr => ∃ (j : Nat) (ov : Value), i = .int .i64 j ∧ j ≤ (blocks zs).length ∧ Hid (SlO w2 B6 (slidW zs ((blocks zs).take j)) ov wr)) (fun i _ => (blocks zs).length - (intOf i).toNat)
    case atStart => exact ⟨0, _, rfl, Nat.zero_le _, HS0.out⟩
    case round =>
      obtain ⟨j, ov, rfl, hj, HS⟩ := hrel
      obtain ⟨wA, hwA⟩ : ∃ x, x = wr := ⟨_, rfl⟩
      subst hwA
      clear HS0
      have KA : Kept w wA := Below.trans K2 (HS.out.k.below (by omega) K2.size)
      have y2 := x2.keeps HS.out.k (by omega)
      have y20 := y2.cell 0
      by_cases hlt : j < (blocks zs).length
      · have hpj : hz (atsOf (blocks zs)) j = (((blocks zs)[j]).1.at' : Nat) := by simp [hz, atsOf, hlt]
        have hm := blks_mem zs 0 _ (List.getElem_mem (l := blocks zs) hlt)
        have hPA := HP.out.turned HS.out.k (by omega)
        obtain ⟨_, _, ePA, hPI⟩ := hPA.ints
        cases ePA
        obtain ⟨pb, po, rfl, hpc⟩ := hPI.at (k := j) (by rw [HL.out]; exact hlt)
        have hpck := hpc j (by rw [HL.out]; exact hlt)
        rw [hpj] at hpck
        have HNx : Hid _ := slidW_next hlt
        have hs := hm.2.1
        have hq := hm.2.2
        have hgd := hm.1
        have hka : ∀ h : ((blocks zs)[j]).1.kind ≠ 0, 1 ≤ kindAt zs ((((blocks zs)[j]).1.at' : Nat) : Int) := fun h => by
          have := atB_mem HOK.out (List.getElem_mem (l := blocks zs) hlt)
          unfold kindAt
          rw [this]
          simp only
          omega
        obtain ⟨a0, ha0⟩ : ∃ a0, ((blocks zs)[j]).1.at' = a0 := ⟨_, rfl⟩
        rw [hs, hq, ha0] at HNx
        rw [hq, ha0] at hka
        rw [ha0] at hpck hgd
        have hgl := hgd.lt
        have hszI := hgd.szI
        have hkdI := kdI zs a0
        have hle := hgd.le
        have hs2' := hgd.sz2
        obtain ⟨bb, off, eao, hc⟩ := (HI.out wA KA).at hgl
        have hck := hc _ hgl
        have HS8 : Hid ((sz zs a0 : Int) = hz zs a0 / 8) := hszI
        have HQ : Hid ((kd zs a0 : Int) = hz zs a0 % 8) := hkdI
        have hlt' : (j : Int) < ((blocks zs).length : Int) := by omega
        have hj0 : (0 : Int) ≤ (j : Int) := by omega
        have hgl' : (a0 : Int) < (zs.length : Int) := by omega
        have ha00 : (0 : Int) ≤ (a0 : Int) := by omega
        have HGd : Hid (Good zs a0) := hgd
        have HKA : Hid _ := hka
        clear hpc hm hs hq hpj hPA hPI hszI hkdI hc hgd hka ha0
        subst eao
        by_cases hz8 : hz zs a0 % 8 = 0
        · have hd : (hz zs a0 % 8 == 0) = true := by simp [hz8]
          have HN : Hid (slidW zs ((blocks zs).take (j + 1)) = slidW zs ((blocks zs).take j)) := by rw [Hid, HNx.out, if_neg (by have := HQ.out; omega), List.append_nil]
          clear hz8
          go_wp2_with (first | (go_at_call 74; refine (l2Size_ok _ _).mono ?_; rintro e wx ⟨rfl, rfl⟩) | (go_at_call 67; refine (l2Kind_ok _ _).mono ?_; rintro e wx ⟨rfl, rfl⟩))
          go_roundw
          case rel => exact ⟨j + 1, ov, by go_num, by omega, by rw [Hid, HN.out]; exact HS.out⟩
          case measure => simp [intOf]; omega
        · have hd : (hz zs a0 % 8 == 0) = false := by simpa using hz8
          have hkd : kd zs a0 ≠ 0 := by have := HQ.out; omega
          have HN : Hid (slidW zs ((blocks zs).take (j + 1)) = slidW zs ((blocks zs).take j) ++ blkW zs a0 (sz zs a0)) := by rw [Hid, HNx.out, if_pos hkd]
          have h1k := HKA.out hkd
          obtain ⟨n1, en1, _, _, esl, _⟩ := kind_nat h1k
          obtain rfl : n1 = a0 := by omega
          have HLd : Hid (LeadsP zs (slotV zs n1)) := leadsP_slots HH.out h1k
          have HEs : Hid (slotsL zs (n1 : Nat) = slL n1 (kd zs n1) (sz zs n1)) := esl
          have hSl := l3Slots_ok wA (some ⟨bb, off, none⟩) cap zs n1 (HI.out wA KA) hl HGd.out
          have hsll : (slL n1 (kd zs n1) (sz zs n1)).length ≤ 1048576 := by
            have := (leads_slots HH.out h1k).2.1
            rw [esl] at this
            omega
          obtain ⟨sl, hsl⟩ : ∃ sl, slL n1 (kd zs n1) (sz zs n1) = sl := ⟨_, rfl⟩
          rw [hsl] at hSl HEs hsll
          obtain ⟨s0, hs0'⟩ : ∃ s0, sz zs n1 = s0 := ⟨_, rfl⟩
          rw [hs0'] at HS8 HN hle hs2'
          have hsI : hz zs n1 / 8 = (s0 : Int) := HS8.out.symm
          clear hz8 hkd h1k esl hsl hs0' HNx HKA en1
          go_wp2_with (first | (go_at_call 74; refine (l2Size_ok _ _).mono ?_; rintro e wx ⟨rfl, rfl⟩) | (go_at_call 67; refine (l2Kind_ok _ _).mono ?_; rintro e wx ⟨rfl, rfl⟩) | (go_at_call 63; refine hSl.mono ?_; rintro e w3 ⟨v3, rfl, hO3, hk3⟩; obtain ⟨sa, sc, rfl, _⟩ := hO3.ints))
          have HS3 : Hid (SlO w2 B6 (slidW zs ((blocks zs).take j) ++ blkW zs n1 0) ov w3) := by
            have := HS.out.go hk3
            simpa [Hid, blkW] using this
          have HO3 : Hid (OwnL w3 wA.heap.size (.slice sa sl.length sc) sl) := hO3
          have hwA := HS.out.k.size
          clear hSl hO3 hk3
          go_loopw [12] (fun kk wr => ∃ (q : Nat) (ow : Value), kk = .int .i64 q ∧ q ≤ s0 ∧ Hid (SlO w2 B6 (slidW zs ((blocks zs).take j) ++ blkW zs n1 q) ow wr) ∧ Hid (OwnL wr wA.heap.size (.slice sa sl.length sc) sl) ∧ Hid (∀ b, ow.ownBlock = some b → (Value.slice sa sl.length sc).ownBlock ≠ some b)) (fun kk _ => s0 - (intOf kk).toNat)
          case atStart => exact ⟨0, ov, rfl, Nat.zero_le _, HS3.out, HO3.out, fun b hb e => by have := (HO3.out.2.lt b e).1; have := (HS.out.own.2.lt b hb).2; omega⟩
          case round =>
            obtain ⟨q, ow, rfl, hq, HSq, HOq, HAp⟩ := hrel
            obtain ⟨wB, hwB⟩ : ∃ x, x = wr := ⟨_, rfl⟩
            subst hwB
            clear HS3 HO3
            have KB : Kept w wB := Below.trans K2 (HSq.out.k.below (by omega) K2.size)
            have z20 := (x2.keeps HSq.out.k (by omega)).cell 0
            by_cases hql : q < s0
            · obtain ⟨p, hp⟩ : ∃ p, n1 + q = p := ⟨_, rfl⟩
              have hpI : (n1 : Int) + (q : Int) = (p : Int) := by omega
              have hpl : p < zs.length := by omega
              obtain ⟨bb', off', eao, hc⟩ := (HI.out wB KB).at hpl
              cases eao
              have hck' := hc _ hpl
              have hpl' : (p : Int) < (zs.length : Int) := by omega
              have hp0 : (0 : Int) ≤ (p : Int) := by omega
              have hql' : (q : Int) < (s0 : Int) := by omega
              have hvb := (HI.out wB KB).bd p
              obtain ⟨_, _, eO, hIs⟩ := HOq.out.ints
              cases eO
              have hIn := l7In_ok wB sa sc sl ((p : Nat) : Int) hIs hsll
              have hbl := slidW_pre (zs := zs) j
              have HBk : Hid (blkW zs n1 (q + 1) = blkW zs n1 q ++ [movW zs n1 q]) := blkW_succ _ _ _
              have hll : (slidW zs ((blocks zs).take j) ++ blkW zs n1 q).length ≤ 4000 := by rw [List.length_append, blkW_len]; omega
              have HMW : Hid (movW zs n1 q = if ((p : Nat) : Int) ∈ sl then movV zs (hz zs p) else hz zs p) := by
                rw [Hid]
                unfold movW
                rw [HEs.out, hp]
              have o6 := HSq.out.box.cell 0
              have f6 := HSq.out.box.frozen 0
              have l6 := HSq.out.box.lt
              obtain ⟨oa, oc, eow, _⟩ := HSq.out.own.ints
              subst eow
              obtain ⟨ls, hls⟩ : ∃ ls, slidW zs ((blocks zs).take j) ++ blkW zs n1 q = ls := ⟨_, rfl⟩
              rw [hls] at HSq hll o6 HAp
              have HLS : Hid (slidW zs ((blocks zs).take j) ++ blkW zs n1 (q + 1) = ls ++ [movW zs n1 q]) := by rw [Hid, HBk.out, ← List.append_assoc, hls]
              clear hc hIs hp hls hbl
              by_cases hin : ((p : Nat) : Int) ∈ sl
              · have hv4 : ¬ hz zs p % 8 < 4 → 0 ≤ hz zs p / 8 ∧ hz zs p / 8 ≤ (zs.length : Int) := fun h => by
                  have hmv : hz zs p ∈ slotV zs (n1 : Nat) := by
                    unfold slotV
                    rw [HEs.out]
                    exact List.mem_map.2 ⟨_, hin, by rw [Int.toNat_natCast]⟩
                  obtain ⟨n2, e2, hn2, _⟩ := kind_nat (HLd.out _ hmv h)
                  omega
                rw [decide_eq_true hin] at hIn
                have HX : Hid (movW zs n1 q = movV zs (hz zs p)) := by rw [Hid, HMW.out, if_pos hin]
                have hxb := movV_in HOK.out hvb (fun h => (hv4 h).2)
                have hMv := l10Moved_ok wB (some ⟨bb, off, none⟩) cap zs (hz zs p) (HI.out wB KB) HOK.out hv4
                obtain ⟨x, hx⟩ : ∃ x, movV zs (hz zs p) = x := ⟨_, rfl⟩
                rw [hx] at HX hxb hMv
                clear hin hv4 hx HMW
                go_wp2_with (first | (go_at_call 62; refine hIn.mono ?_; rintro e wx ⟨rfl, rfl⟩) | (go_at_call 75; refine hMv.mono ?_; rintro e w4 ⟨rfl, hk4⟩; have S4 := HSq.out.go hk4; have O4 := HOq.out.kept (row := none) hk4.grown (fun _ e => by cases e); have d6 := S4.box.cell 0; have dd6 := S4.box.lt; have S5 := S4.go (Kept.alloc (Below.refl _ _) (.cells #[.int .i64 x] 3)); have hs4 := S4.k.size) | (at_builtin; refine wpList_append_lies _ rfl _ _ 24 rfl w2.heap.size 3 i0 (.int .i64 0) 1 8 Tryz.underlying24 hi hz0 hz1 hz2 rfl (by decide) _ _ _ rfl S5.own.2 ⟨w4.heap.size, 0, none⟩ 1 1 [.int .i64 x] rfl rfl (cell_one_new _ _ _) (by simp [Value.oneCell']) (by omega) (by unfold maxLen; omega) (by omega) (by simp; omega) (w4.heap.size + 1) (by simp) ?_; intro gg cg w5 hown' hgrow hat hlt5; obtain ⟨bx5, S6⟩ := S5.put hxb (by simpa using hown') hgrow; have g6 := bx5.cell 0; have gf6 := bx5.frozen 0; have gl6 := bx5.lt))
                have OA := O4.kept (row := none) (Kept.grown (Kept.alloc (Below.refl _ w4) (.cells #[.int .i64 x] 3))) (fun _ e => by cases e)
                have OB := OA.kept hgrow (fun b e i hi hib => by subst hib; exact HAp.out i e hi)
                have OQ := OB.turned ((Keeps.refl B6 w5).setCell 0 (.slice (some ⟨gg, 0, none⟩) (ls.length + 1) cg)) (by omega)
                have HOQ : Hid _ := OQ
                have HS6 : Hid _ := S6
                have HAT : Hid (∀ b, (Value.slice (some ⟨gg, 0, none⟩) (ls.length + 1) cg).ownBlock = some b → (Value.slice sa sl.length sc).ownBlock ≠ some b) := fun b hb e => by
                  simp [Value.ownBlock] at hb
                  subst hb
                  rcases hat with h | h
                  · exact HAp.out _ h e
                  · have := (O4.2.lt _ e).2
                    omega
                clear OA OB OQ S6 hown' hgrow hat
                go_wp2_with fail
                go_roundw
                case rel => exact ⟨q + 1, _, by go_num, by omega, by rw [Hid, HLS.out, HX.out]; exact HS6.out, HOQ.out, HAT.out⟩
                case measure => simp [intOf]; omega
              · rw [decide_eq_false hin] at hIn
                have HX : Hid (movW zs n1 q = hz zs p) := by rw [Hid, HMW.out, if_neg hin]
                obtain ⟨x, hx⟩ : ∃ x, hz zs p = x := ⟨_, rfl⟩
                rw [hx] at HX hck' hvb
                have hxb := hvb
                clear hin hx HMW
                have S4 := HSq.out
                have O4 := HOq.out
                have S5 := S4.go (Kept.alloc (Below.refl _ _) (.cells #[.int .i64 x] 3))
                have hs4 := S4.k.size
                go_wp2_with (first | (go_at_call 62; refine hIn.mono ?_; rintro e wx ⟨rfl, rfl⟩) | (at_builtin; refine wpList_append_lies _ rfl _ _ 24 rfl w2.heap.size 3 i0 (.int .i64 0) 1 8 Tryz.underlying24 hi hz0 hz1 hz2 rfl (by decide) _ _ _ rfl S5.own.2 ⟨wB.heap.size, 0, none⟩ 1 1 [.int .i64 x] rfl rfl (cell_one_new _ _ _) (by simp [Value.oneCell']) (by omega) (by unfold maxLen; omega) (by omega) (by simp; omega) (wB.heap.size + 1) (by simp) ?_; intro gg cg w5 hown' hgrow hat hlt5; obtain ⟨bx5, S6⟩ := S5.put hxb (by simpa using hown') hgrow; have g6 := bx5.cell 0; have gf6 := bx5.frozen 0; have gl6 := bx5.lt))
                have OA := O4.kept (row := none) (Kept.grown (Kept.alloc (Below.refl _ wB) (.cells #[.int .i64 x] 3))) (fun _ e => by cases e)
                have OB := OA.kept hgrow (fun b e i hi hib => by subst hib; exact HAp.out i e hi)
                have OQ := OB.turned ((Keeps.refl B6 w5).setCell 0 (.slice (some ⟨gg, 0, none⟩) (ls.length + 1) cg)) (by omega)
                have HOQ : Hid _ := OQ
                have HS6 : Hid _ := S6
                have HAT : Hid (∀ b, (Value.slice (some ⟨gg, 0, none⟩) (ls.length + 1) cg).ownBlock = some b → (Value.slice sa sl.length sc).ownBlock ≠ some b) := fun b hb e => by
                  simp [Value.ownBlock] at hb
                  subst hb
                  rcases hat with h | h
                  · exact HAp.out _ h e
                  · have := (O4.2.lt _ e).2
                    omega
                clear OA OB OQ S6 hown' hgrow hat
                go_wp2_with fail
                go_roundw
                case rel => exact ⟨q + 1, _, by go_num, by omega, by rw [Hid, HLS.out, HX.out]; exact HS6.out, HOQ.out, HAT.out⟩
                case measure => simp [intOf]; omega
            · obtain rfl : q = s0 := by omega
              have hqe : (q : Int) ≤ (q : Int) := Int.le_refl _
              go_wp2_with fail
              go_roundw
              case rel => exact ⟨j + 1, ow, by go_num, by omega, by rw [Hid, HN.out]; exact HSq.out⟩
              case measure => simp [intOf]; omega
      · obtain rfl : j = (blocks zs).length := by omega
        rw [List.take_length] at HS
        have hsw := slidW_le zs
        obtain ⟨sw, hsw'⟩ : ∃ sw, slidW zs (blocks zs) = sw := ⟨_, rfl⟩
        rw [hsw'] at HS hsw
        obtain ⟨rr, hrr⟩ : ∃ rr, zs.length - sw.length = rr := ⟨_, rfl⟩
        have HC2 : Hid (slideC zs rs = (sw ++ restW rr rr, rs.map (movV zs))) := by rw [Hid, HC.out]; unfold slidL; rw [hsw', hrr]
        have o6 := HS.out.box.cell 0
        obtain ⟨oa, oc, eow, _⟩ := HS.out.own.ints
        subst eow
        have hrI : (zs.length : Int) - (sw.length : Int) = (rr : Int) := by omega
        have hrl2 : rr ≤ 2000 := by omega
        have hswl : sw.length ≤ 2000 := by omega
        have HS2 : Hid (SlO w2 B6 (sw ++ restW rr 0) (.slice oa sw.length oc) wA) := by simpa [Hid, restW] using HS.out
        clear hsw' hrr HC hsw HS
        go_wp2_with fail
        go_loopw [15] (fun kk wr => ∃ (q : Nat) (ow : Value), kk = .int .i64 q ∧ q ≤ rr ∧ Hid (SlO w2 B6 (sw ++ restW rr q) ow wr)) (fun kk _ => rr - (intOf kk).toNat)
        case atStart => exact ⟨0, _, rfl, Nat.zero_le _, HS2.out⟩
        case round =>
          obtain ⟨q, ow, rfl, hq, HSq⟩ := hrel
          obtain ⟨wB, hwB⟩ : ∃ x, x = wr := ⟨_, rfl⟩
          subst hwB
          clear HS2 o6
          have KB : Kept w wB := Below.trans K2 (HSq.out.k.below (by omega) K2.size)
          by_cases hql : q < rr
          · have hql' : (q : Int) < (rr : Int) := by omega
            have o6 := HSq.out.box.cell 0
            obtain ⟨oa', oc', eow, _⟩ := HSq.out.own.ints
            subst eow
            have hll : (sw ++ restW rr q).length ≤ 4000 := by rw [List.length_append, restW_len]; omega
            have HRn : Hid (sw ++ restW rr (q + 1) = (sw ++ restW rr q) ++ [if q = 0 then 8 * (rr : Int) else 0]) := by rw [Hid, restW_succ, List.append_assoc]
            obtain ⟨ls, hls⟩ : ∃ ls, sw ++ restW rr q = ls := ⟨_, rfl⟩
            rw [hls] at HSq hll o6 HRn
            clear hls
            have hs4 := HSq.out.k.size
            by_cases hq0 : q = 0
            · have hqb : ((q : Int) == 0) = true := by simp [hq0]
              obtain ⟨x, hx⟩ : ∃ x, 8 * (rr : Int) = x := ⟨_, rfl⟩
              have HX : Hid ((if q = 0 then 8 * (rr : Int) else 0) = x) := by rw [Hid, if_pos hq0, hx]
              have hxb : -9223372036854775808 ≤ x ∧ x ≤ 9223372036854775807 := by omega
              have hxw : IntKind.i64.wrap x = x := by rw [IntWalk.i64_left, IntWalk.wrap64_in _ (by omega)]
              clear hq0
              have S5 := HSq.out.go (Kept.alloc (Below.refl _ _) (.cells #[.int .i64 x] 3))
              go_wp2_with (first | (at_builtin; refine wpList_append_lies _ rfl _ _ 24 rfl w2.heap.size 3 i0 (.int .i64 0) 1 8 Tryz.underlying24 hi hz0 hz1 hz2 rfl (by decide) _ _ _ rfl S5.own.2 ⟨wB.heap.size, 0, none⟩ 1 1 [.int .i64 x] rfl rfl (cell_one_new _ _ _) (by simp [Value.oneCell']) (by omega) (by unfold maxLen; omega) (by omega) (by simp; omega) (wB.heap.size + 1) (by simp) ?_; intro gg cg w5 hown' hgrow hat hlt5; obtain ⟨bx5, S6⟩ := S5.put hxb (by simpa using hown') hgrow; have g6 := bx5.cell 0; have gf6 := bx5.frozen 0; have gl6 := bx5.lt))
              have HS6 : Hid _ := S6
              clear S6 hown' hgrow hat
              go_wp2_with fail
              go_roundw
              case rel => exact ⟨q + 1, _, by go_num, by omega, by rw [Hid, HRn.out, HX.out]; exact HS6.out⟩
              case measure => simp [intOf]; omega
            · have hqb : ((q : Int) == 0) = false := by simp [hq0]
              have HX : Hid ((if q = 0 then 8 * (rr : Int) else 0) = 0) := if_neg hq0
              have hxb : (-9223372036854775808 : Int) ≤ 0 ∧ (0 : Int) ≤ 9223372036854775807 := by omega
              clear hq0
              have S5 := HSq.out.go (Kept.alloc (Below.refl _ _) (.cells #[.int .i64 0] 3))
              go_wp2_with (first | (at_builtin; refine wpList_append_lies _ rfl _ _ 24 rfl w2.heap.size 3 i0 (.int .i64 0) 1 8 Tryz.underlying24 hi hz0 hz1 hz2 rfl (by decide) _ _ _ rfl S5.own.2 ⟨wB.heap.size, 0, none⟩ 1 1 [.int .i64 0] rfl rfl (cell_one_new _ _ _) (by simp [Value.oneCell']) (by omega) (by unfold maxLen; omega) (by omega) (by simp; omega) (wB.heap.size + 1) (by simp) ?_; intro gg cg w5 hown' hgrow hat hlt5; obtain ⟨bx5, S6⟩ := S5.put hxb (by simpa using hown') hgrow; have g6 := bx5.cell 0; have gf6 := bx5.frozen 0; have gl6 := bx5.lt))
              have HS6 : Hid _ := S6
              clear S6 hown' hgrow hat
              go_wp2_with fail
              go_roundw
              case rel => exact ⟨q + 1, _, by go_num, by omega, by rw [Hid, HRn.out, HX.out]; exact HS6.out⟩
              case measure => simp [intOf]; omega
          · obtain rfl : q = rr := by omega
            have hqe : (q : Int) ≤ (q : Int) := Int.le_refl _
            have KBs := HSq.out.k.size
            obtain ⟨fl, hfl⟩ : ∃ fl, sw ++ restW q q = fl := ⟨_, rfl⟩
            rw [hfl] at HSq HC2
            clear hfl
            have on1 : OwnL (wB.alloc (.cells #[] 3)) wB.heap.size (.slice (some ⟨wB.heap.size, 0, none⟩) 0 0) [] := by
              refine ⟨by simp, ?_⟩
              have := World.ownsRow_made (base := wB.heap.size) (e := 3) (size := 1) wB #[] 0 (by simp) (by unfold maxLen; omega) (by simp)
              simpa using this
            have kbm : Kept wB (wB.alloc (.cells #[] 3)) := Kept.alloc (Below.refl _ _) _
            have HON : Hid _ := on1
            have HKB : Hid (Kept wB (wB.alloc (.cells #[] 3))) := kbm
            clear on1 kbm
            go_wp2_with fail
            go_loopw [17, 18] (fun mv kk wr => ∃ (i : Nat), kk = .int .i64 i ∧ i ≤ rs.length ∧ Hid (OwnL wr wB.heap.size mv ((rs.take i).map (movV zs))) ∧ Hid (Kept wB wr)) (fun _ kk _ => rs.length - (intOf kk).toNat)
            case atStart => exact ⟨0, rfl, Nat.zero_le _, by rw [Hid, List.take_zero, List.map_nil]; exact HON.out, HKB.out⟩
            case round =>
              obtain ⟨i, rfl, hi', HMv, HKr⟩ := hrel
              obtain ⟨wC, hwC⟩ : ∃ x, x = wr := ⟨_, rfl⟩
              subst hwC
              clear HON HKB
              have KC := KB.trans HKr.out
              have SC := HSq.out.go HKr.out
              by_cases hil : i < rs.length
              · obtain ⟨rb, roff, ero, hrc⟩ := (HRs.out wB KB).at hil
                have hriB := hrc i hil
                have hvb := (HRs.out wC KC).bd i
                have hil' : (i : Int) < (rs.length : Int) := by omega
                have hi0 : (0 : Int) ≤ (i : Int) := by omega
                have hv4 : ¬ hz rs i % 8 < 4 → 0 ≤ hz rs i / 8 ∧ hz rs i / 8 ≤ (zs.length : Int) := fun h => by
                  obtain ⟨n2, e2, hn2, _⟩ := kind_nat (HRL.out _ (hz_mem hil) h)
                  omega
                have hxb := movV_in HOK.out hvb (fun h => (hv4 h).2)
                have hMv := fun (u : World) (hu : Kept w u) => l10Moved_ok u ao cap zs (hz rs i) (HI.out u hu) HOK.out hv4
                have HTk : Hid ((rs.take (i + 1)).map (movV zs) = (rs.take i).map (movV zs) ++ [movV zs (hz rs i)]) := by rw [Hid, take_hz hil, List.map_append]; rfl
                obtain ⟨x, hx⟩ : ∃ x, movV zs (hz rs i) = x := ⟨_, rfl⟩
                simp only [hx] at hMv
                rw [hx] at HTk hxb
                obtain ⟨ml, hml⟩ : ∃ ml, (rs.take i).map (movV zs) = ml := ⟨_, rfl⟩
                have hmll : ml.length ≤ 1048576 := by rw [← hml]; simp; omega
                rw [hml] at HTk HMv
                obtain ⟨ma, mc, emv, _⟩ := HMv.out.ints
                subst emv
                have hbw : rb < wB.heap.size := World.block_lt_of_cell? _ _ hriB
                have HE : Hid (∀ u, Kept wB u → u.cell? ⟨w.heap.size, 0, none⟩ = some (.slice ao zs.length cap) ∧ u.cell? ⟨rb, roff + i, none⟩ = some (.int .i64 (hz rs i))) := fun u hu => ⟨((x2.keeps HSq.out.k (by omega)).kept hu).cell 0, (hu.cell (p := ⟨rb, roff + i, none⟩) hbw).trans hriB⟩
                have HMM : Hid _ := hMv
                have hsC := HKr.out.size
                clear hx hml hrc hv4 hMv
                subst ero
                go_wp2_with fail
                have kd : Kept wC wC.drew := (Below.refl _ wC).drew
                have kdB : Kept wB wC.drew := HKr.out.trans kd
                have H0 := HE.out _ kdB
                go_region_held3 (fun u => u.cell? ⟨w.heap.size, 0, none⟩ = some (.slice ao zs.length cap) ∧ u.cell? ⟨rb, roff + i, none⟩ = some (.int .i64 (hz rs i)))
                  (first | exact HE.out _ (by assumption) | exact HE.out _ (Kept.alloc (by assumption) _) | go_keep)
                  ((first
                      | (go_at_call 75; refine (HMM.out _ (KC.trans kd)).mono ?_; rintro e w4 ⟨rfl, hk4⟩; have kq : Kept wC w4 := kd.trans hk4; have kqB : Kept wB w4 := HKr.out.trans kq; have M4 := HMv.out.kept (row := none) kq.grown (fun _ e => by cases e); have M5 := M4.kept (row := none) (Kept.grown (Kept.alloc (Below.refl _ w4) (.cells #[.int .i64 x] 3))) (fun _ e => by cases e); have hs4 := kq.size)
                      | (refine step_append_lies _ (by rfl) _ _ _ (by rfl) wB.heap.size 3 i0 _ 1 8 Tryz.underlying24 hi hz0 hz1 hz2 rfl (by omega) (.slice ma ml.length mc) ml.length (ml.map (Value.int .i64)) (by rfl) M5.2 ⟨w4.heap.size, 0, none⟩ 1 1 [.int .i64 x] (by rfl) (by rfl) (cell_one_new _ _ _) (by simp [Value.oneCell']) (by omega) (by unfold maxLen; omega) (by omega) (by simp; omega) (w4.heap.size + 1) (by simp) ?_; intro gg cg w5 hown' hgrow hat hlt5; have k5 : Kept wB w5 := Below.grown (Kept.trans HKr.out (Kept.alloc kq _)) hgrow (by simp; omega) (fun k e => (M5.2.lt k e).1))))
                all_goals (
                  have o5 : OwnL w5 wB.heap.size (.slice (some ⟨gg, 0, none⟩) (ml.length + 1) cg) (ml ++ [x]) := OwnL.snoc (fun z hz => by
                    rcases List.mem_append.1 hz with h' | h'
                    · exact M5.1 z h'
                    · rw [List.mem_singleton.1 h']; exact hxb) (by simpa using hown')
                  have HO5 : Hid _ := o5
                  have HK5 : Hid _ := k5
                  clear o5 k5 hown' hgrow hat
                  go_wp2_with fail
                  go_roundw
                  case rel => exact ⟨i + 1, by go_num, by omega, by rw [Hid, HTk.out]; exact HO5.out, HK5.out⟩
                  case measure => simp [intOf]; omega)
              · obtain rfl : i = rs.length := by omega
                rw [List.take_length] at HMv
                have o6 := SC.box.cell 0
                obtain ⟨oa', oc', eow, _⟩ := SC.own.ints
                subst eow
                have x4c := x4.keeps SC.k (by omega)
                have d4 := x4c.cell 0
                have f4 := x4c.frozen 0
                have l4 := x4c.lt
                obtain ⟨ma, mc, emv, _⟩ := HMv.out.ints
                subst emv
                go_wp2_with fail
                have q4 := (x4c.set1 (.slice oa' fl.length oc')).cell 0
                have hw2 : w.heap.size + 1 < w2.heap.size := by omega
                have hwB2 : w2.heap.size ≤ wB.heap.size := HSq.out.k.size
                have fo := (SC.own.turned ((Keeps.refl (w.heap.size + 1) wC).setCell 0 (.slice oa' fl.length oc')) hw2)
                have fm := (HMv.out.turned ((Keeps.refl (w.heap.size + 1) wC).setCell 0 (.slice oa' fl.length oc')) (by omega))
                have fo' : OwnL _ w.heap.size _ _ := ⟨fo.1, ownsRow_base fo.2 (by omega)⟩
                have fm' : OwnL _ w.heap.size _ _ := ⟨fm.1, ownsRow_base fm.2 (by omega)⟩
                refine bodyPost_ret (v := .tuple #[.agg #[.slice oa' fl.length oc'], .slice ma (rs.map (movV zs)).length mc]) (by simp [results, Tryz.results46, go_sem, q4]) rfl ⟨_, _, rfl, by rw [HC2.out]; exact fo', by rw [HC2.out]; exact fm', KC.set (by simp) _⟩
end Go.Proofs.YtgnpllpinfhccaaGreatDoor
