/-
  Facts on lists: the blocks that are reached, in the order in which they are met (chapter 7).
  The contracts of chapter 7's models l7Block, l7In and l7Order.
  The contracts of chapter 7's models l7Sort and Reach.
  The contracts of chapter 7's models Reach and l7Digits.
-/
import Derived.Deep.RegionHeld3
import Derived.Deep.AppendLies
import Derived.BigQuiet
import Derived.Laws.Concat
import Derived.Laws.BytesArg
import Derived.Test.YtgempjjnfpmndaaGreatDoorGrpHs
import Derived.Test.YtgempjjnfpmndaaGreatDoorGrpSq
import Derived.Test.YtgempjjnfpmndaaGreatDoorGrpW
import Derived.Test.YtgempjjnfpmndaaGreatDoorSeq
import Derived.Test.YtgempjjnfpmndaaGreatDoorDigA
namespace Go.Proofs.YtgempjjnfpmndaaGreatDoor
open Go.RowKit

/-- The block to which a value leads, or -1. -/
def blkV (v : Int) : Int := if v % 8 < 4 then -1 else v / 8
/-- A block that was not met yet is met. -/
def addB (out : List Int) (a : Int) : List Int := if 0 ≤ a ∧ a ∉ out then out ++ [a] else out
def meetL (out vs : List Int) : List Int := vs.foldl (fun o v => addB o (blkV v)) out
theorem meetL_snoc (out vs : List Int) (v : Int) : meetL out (vs ++ [v]) = addB (meetL out vs) (blkV v) := by simp [meetL]
/-- The values of a block. -/
def slotV (zs : List Int) (a : Int) : List Int := (slotsL zs a).map (fun j => hz zs j.toNat)
theorem slotV_len (zs : List Int) (a : Int) : (slotV zs a).length = (slotsL zs a).length := by simp [slotV]
def ordF (zs : List Int) : Nat → Nat → List Int → List Int
  | 0, _, out => out
  | n + 1, k, out => match out[k]? with | some a => ordF zs n (k + 1) (meetL out (slotV zs a)) | none => out
theorem ordF_on {zs out : List Int} {n k : Nat} {a : Int} (h : out[k]? = some a) : ordF zs (n + 1) k out = ordF zs n (k + 1) (meetL out (slotV zs a)) := by simp [ordF, h]
theorem ordF_end {zs out : List Int} {n k : Nat} (h : out.length ≤ k) : ordF zs n k out = out := by
  cases n with
  | zero => rfl
  | succ n => simp [ordF, List.getElem?_eq_none h]
/-- All blocks that are reached, in the order in which they are met. -/
def ordL (zs rs : List Int) : List Int := ordF zs (zs.length + 1) 0 (meetL [] rs)
/-- Blocks that are there, each once. -/
def Met (zs out : List Int) : Prop := out.Nodup ∧ ∀ a ∈ out, 1 ≤ kindAt zs a
theorem kind_nat {zs : List Int} {a : Int} (h : 1 ≤ kindAt zs a) : ∃ n : Nat, a = n ∧ n < zs.length ∧ Good zs n ∧ slotsL zs a = slL n (kd zs n) (sz zs n) ∧ ∃ b ∈ blocks zs, b.1.at' = n := by
  unfold kindAt at h
  cases hb : atB zs a with
  | none => rw [hb] at h; simp at h
  | some b =>
    obtain ⟨_, e, hg, hs, hk, hm⟩ := atB_some hb
    exact ⟨b.1.at', e.symm, hg.lt, hg, by unfold slotsL; rw [hb, ← hs, ← hk], b, hm, rfl⟩
theorem nodup_toNat {l : List Int} (h0 : ∀ a ∈ l, 0 ≤ a) (hd : l.Nodup) : (l.map Int.toNat).Nodup := by
  induction l with
  | nil => simp
  | cons x l ih =>
    have hd' := List.nodup_cons.1 hd
    rw [List.map_cons]
    refine List.nodup_cons.2 ⟨fun hm => ?_, ih (fun a ha => h0 a (List.mem_cons_of_mem _ ha)) hd'.2⟩
    obtain ⟨y, hy, e⟩ := List.mem_map.1 hm
    have h1 := h0 x (by simp)
    have h2 := h0 y (List.mem_cons_of_mem _ hy)
    have : y = x := by omega
    rw [this] at hy
    exact hd'.1 hy
theorem Met.len {zs out : List Int} (h : Met zs out) : out.length ≤ zs.length := by
  have h0 : ∀ a ∈ out, 0 ≤ a := fun a ha => by
    obtain ⟨n, e, _⟩ := kind_nat (h.2 a ha)
    omega
  have := nodup_le zs.length (out.map Int.toNat) (nodup_toNat h0 h.1) (fun p hp => by
    obtain ⟨a, ha, rfl⟩ := List.mem_map.1 hp
    obtain ⟨n, e, hn, _⟩ := kind_nat (h.2 a ha)
    omega)
  simpa using this
theorem Met.bd {zs out : List Int} (h : Met zs out) (hl : zs.length ≤ 1048576) : ∀ a ∈ out, -9223372036854775808 ≤ a ∧ a ≤ 9223372036854775807 := fun a ha => by
  obtain ⟨n, e, hn, _⟩ := kind_nat (h.2 a ha)
  omega
theorem Met.add {zs out : List Int} {a : Int} (h : Met zs out) (ha : 0 ≤ a → 1 ≤ kindAt zs a) : Met zs (addB out a) := by
  unfold addB
  split
  · rename_i hc
    refine ⟨?_, fun x hx => ?_⟩
    · rw [List.nodup_append]
      exact ⟨h.1, by simp, fun x hx y hy => by simp at hy; subst hy; intro e; subst e; exact hc.2 hx⟩
    · rcases List.mem_append.1 hx with h' | h'
      · exact h.2 x h'
      · simp at h'; subst h'; exact ha hc.1
  · exact h
/-- Values that lead somewhere. -/
def Leads (zs vs : List Int) : Prop := ∀ v ∈ vs, 0 ≤ blkV v → 1 ≤ kindAt zs (blkV v)
theorem Met.meet {zs : List Int} : ∀ {vs out : List Int}, Met zs out → Leads zs vs → Met zs (meetL out vs)
  | [], out, h, _ => h
  | v :: vs, out, h, hv => Met.meet (vs := vs) (h.add (hv v (by simp))) (fun x hx => hv x (List.mem_cons_of_mem _ hx))
theorem blkV_bd {v : Int} (h : -9223372036854775808 ≤ v ∧ v ≤ 9223372036854775807) : -9223372036854775808 ≤ blkV v ∧ blkV v ≤ 9223372036854775807 := by
  unfold blkV
  split <;> omega
theorem leads_roots {zs rs : List Int} (h : rootsR zs rs = true) : Leads zs rs := by
  intro v hv h0
  unfold rootsR leadAll at h
  simp only [Bool.and_eq_true] at h
  obtain ⟨j, hj, e⟩ := List.getElem_of_mem hv
  have h1 := allR_iff.1 h.2 j hj
  have e1 : hz rs j = v := by unfold hz; rw [List.getElem?_eq_getElem hj]; exact e
  rw [e1] at h1
  unfold blkV at h0 ⊢
  split
  · rename_i h4; rw [if_pos h4] at h0; omega
  · rename_i h4
    have hk := leads_kind h1 (by omega)
    rw [hk]
    unfold wantK
    repeat' split
    all_goals omega
theorem slotV_at {zs : List Int} {a : Int} {i : Nat} (h : i < (slotsL zs a).length) : hz (slotV zs a) i = hz zs (hz (slotsL zs a) i).toNat := by
  unfold slotV hz
  rw [List.getElem?_map, List.getElem?_eq_getElem h]
  rfl
theorem leads_slots {zs : List Int} {a : Int} (hh : heapR zs = true) (ha : 1 ≤ kindAt zs a) : Leads zs (slotV zs a) ∧ (slotsL zs a).length ≤ zs.length ∧ ∀ i, i < (slotsL zs a).length → ∃ p : Nat, hz (slotsL zs a) i = p ∧ p < zs.length := by
  obtain ⟨n, e, _, _, _, b, hb, hbn⟩ := kind_nat ha
  have hf := slots_facts hh hb
  rw [hbn, ← e] at hf
  refine ⟨fun v hv h0 => ?_, hf.2.1, fun i hi => ?_⟩
  · obtain ⟨i, hi, ei⟩ := List.getElem_of_mem hv
    rw [slotV_len] at hi
    obtain ⟨p, hp, hpl, hok, hk⟩ := hf.2.2 i hi
    have e1 : v = hz zs p := by
      have := slotV_at hi
      rw [hp, Int.toNat_natCast] at this
      rw [← this]
      unfold hz
      rw [List.getElem?_eq_getElem (by rw [slotV_len]; exact hi)]
      exact ei.symm
    rw [e1] at h0 ⊢
    unfold blkV at h0 ⊢
    split
    · rename_i h4; rw [if_pos h4] at h0; omega
    · rename_i h4
      exact hk (by omega)
  · obtain ⟨p, hp, hpl, _⟩ := hf.2.2 i hi
    exact ⟨p, hp, hpl⟩
theorem addB_mem {out : List Int} {a x : Int} (h : x ∈ out) : x ∈ addB out a := by
  unfold addB
  split
  · exact List.mem_append_left _ h
  · exact h
theorem addB_pre {out : List Int} {a x : Int} {k : Nat} (h : out[k]? = some x) : (addB out a)[k]? = some x := by
  unfold addB
  split
  · rw [List.getElem?_append_left (List.getElem?_eq_some_iff.1 h).1]; exact h
  · exact h
theorem Met.ord {zs : List Int} (hh : heapR zs = true) : ∀ (n k : Nat) {out : List Int}, Met zs out → Met zs (ordF zs n k out)
  | 0, _, _, h => h
  | n + 1, k, out, h => by
    unfold ordF
    split
    · rename_i a ha
      have hk := h.2 a (List.mem_of_getElem? ha)
      exact Met.ord hh n (k + 1) (h.meet (leads_slots hh hk).1)
    · exact h
theorem ordL_met {zs rs : List Int} (h : rootsR zs rs = true) : Met zs (ordL zs rs) := by
  have hh : heapR zs = true := by
    unfold rootsR at h
    simp only [Bool.and_eq_true] at h
    exact h.1
  exact Met.ord hh _ _ (Met.meet ⟨List.nodup_nil, by simp⟩ (leads_roots h))
end Go.Proofs.YtgempjjnfpmndaaGreatDoor
namespace Go.Proofs.YtgempjjnfpmndaaGreatDoor
open Go.RowKit
attribute [local go_sem] Plain.and7

set_option maxHeartbeats 2000000 in
theorem l7Block_ok (v : Int) (w : World) : Calls Tryz.prog 75 #[.int .i64 v] w fun e w' => e = .returned (.int .i64 (blkV v)) ∧ w = w' := by
  by_cases h : v % 8 < 4
  · have HB : Hid (blkV v = -1) := by simp [Hid, blkV, h]
    go_enter Tryz.func75, Tryz.ntmps75
    go_wp2_with (first | (go_at_call 72; refine (spec_Kind_ok _ _).mono ?_; rintro e wx ⟨rfl, rfl⟩))
    go_ret
    exact ⟨by rw [HB.out]; rfl, rfl⟩
  · have HB : Hid (blkV v = v / 8) := by simp [Hid, blkV, h]
    go_enter Tryz.func75, Tryz.ntmps75
    go_wp2_with (first | (go_at_call 72; refine (spec_Kind_ok _ _).mono ?_; rintro e wx ⟨rfl, rfl⟩) | (go_at_call 120; refine (spec_Num_ok _ _).mono ?_; rintro e wx ⟨rfl, rfl⟩))
    go_ret
    exact ⟨by rw [HB.out]; rfl, rfl⟩
theorem hz_mem {l : List Int} {k : Nat} (h : k < l.length) : hz l k ∈ l := by
  unfold hz
  rw [List.getElem?_eq_getElem h]
  exact List.getElem_mem h
set_option maxHeartbeats 4000000 in
theorem l7In_ok (w : World) (ao : Option Addr) (cap : Nat) (l : List Int) (x : Int) (hI : Ints w ao l) (hl : l.length ≤ 1048576) :
    Calls Tryz.prog 76 #[.slice ao l.length cap, .int .i64 x] w fun e w' => e = .returned (.bool (decide (x ∈ l))) ∧ w = w' := by
  have HI : Hid _ := hI
  clear hI
  go_enter Tryz.func76, Tryz.ntmps76
  go_wp2_with fail
  go_loopw [5] (fun i wr => ∃ k : Nat, i = .int .i64 k ∧ k ≤ l.length ∧ (∀ j, j < k → hz l j ≠ x) ∧ wr = w) (fun i _ => l.length - (intOf i).toNat)
  case atStart => exact ⟨0, rfl, Nat.zero_le _, fun j hj => by omega, rfl⟩
  case round =>
    obtain ⟨k, rfl, hk, hno, rfl⟩ := hrel
    have HNo : Hid _ := hno
    clear hno
    by_cases hlt : k < l.length
    · obtain ⟨b, o, rfl, hc⟩ := Ints.at HI.out hlt
      have c1 := hc k hlt
      have q1 : (k : Int) < (l.length : Int) := by omega
      have q0 : (0 : Int) ≤ (k : Int) := by omega
      clear hc
      by_cases he : hz l k = x
      · have hm : x ∈ l := by rw [← he]; exact hz_mem hlt
        have HD : Hid (decide (x ∈ l) = true) := by simpa [Hid] using hm
        have hq : (hz l k == x) = true := by simpa using he
        clear hm he
        go_wp2_with fail
        go_ret
        exact ⟨by rw [HD.out]; rfl, rfl⟩
      · have hq : (hz l k == x) = false := by simpa using he
        have HE : Hid _ := he
        clear he
        go_wp2_with fail
        go_roundw
        case rel =>
          refine ⟨k + 1, by go_num, by omega, fun j hj => ?_, by trivial⟩
          rcases Nat.lt_or_ge j k with h | h
          · exact HNo.out j h
          · have : j = k := by omega
            subst this
            exact HE.out
        case measure => simp [intOf]; omega
    · obtain rfl : k = l.length := by omega
      have HD : Hid (decide (x ∈ l) = false) := by
        have : x ∉ l := fun hm => by
          obtain ⟨j, hj, e⟩ := List.getElem_of_mem hm
          exact HNo.out j hj (by unfold hz; rw [List.getElem?_eq_getElem hj]; exact e)
        simpa [Hid] using this
      go_wp2_with fail
      go_ret
      exact ⟨by rw [HD.out]; rfl, rfl⟩
theorem addB_yes {out : List Int} {a : Int} (h0 : 0 ≤ a) (h : decide (a ∈ out) = false) : addB out a = out ++ [a] := by
  unfold addB
  rw [if_pos ⟨h0, by simpa using h⟩]
theorem addB_in {out : List Int} {a : Int} (h : decide (a ∈ out) = true) : addB out a = out := by
  unfold addB
  rw [if_neg (fun hc => hc.2 (by simpa using h))]
theorem addB_no {out : List Int} {a : Int} (h : ¬ 0 ≤ a) : addB out a = out := by
  unfold addB
  rw [if_neg (fun hc => h hc.1)]
theorem addB_len (out : List Int) (a : Int) : out.length ≤ (addB out a).length := by
  unfold addB
  split <;> simp
theorem meetL_len : ∀ (vs out : List Int), out.length ≤ (meetL out vs).length
  | [], _ => Nat.le_refl _
  | v :: vs, out => Nat.le_trans (addB_len out (blkV v)) (meetL_len vs (addB out (blkV v)))
theorem take_hz {l : List Int} {k : Nat} (h : k < l.length) : l.take (k + 1) = l.take k ++ [hz l k] := by
  rw [List.take_succ_eq_append_getElem h]
  unfold hz
  rw [List.getElem?_eq_getElem h]
  rfl
theorem OwnL.snoc {W : World} {base : Nat} {v : Value} {l : List Int} {a : Int} (h0 : ∀ z ∈ l ++ [a], -9223372036854775808 ≤ z ∧ z ≤ 9223372036854775807) (h : W.ownsRow base 3 1 v (l.length + 1) (l.map (Value.int .i64) ++ [.int .i64 a])) : OwnL W base v (l ++ [a]) := by
  refine ⟨h0, ?_⟩
  rw [List.length_append, List.map_append]
  exact h
theorem Ints.far {W W' : World} {so : Option Addr} {l : List Int} {row : Option Nat} (h : Ints W so l) (hg : W.grownBy W' row) (hne : ∀ x, so = some x → row ≠ some x.block) : Ints W' so l := by
  refine ⟨h.1, ?_⟩
  rcases h.2 with h | ⟨b, off, rfl, hc⟩
  · exact .inl h
  · exact .inr ⟨b, off, rfl, fun j hj => (hg.cell_far ⟨b, off + j, none⟩ (World.block_lt_of_cell? _ _ (hc j hj)) (Ne.symm (hne ⟨b, off, none⟩ rfl))).trans (hc j hj)⟩
set_option maxHeartbeats 16000000 in
set_option maxRecDepth 100000 in
theorem l7Order_ok (w : World) (ao ro : Option Addr) (cap rc : Nat) (zs rs : List Int) (hI : Ints w ao zs) (hl : zs.length ≤ 1048576) (hR : Ints w ro rs) (hrl : rs.length ≤ 1048576) (hr : rootsR zs rs = true) :
    Calls Tryz.prog 27 #[.agg #[.slice ao zs.length cap], .slice ro rs.length rc] w fun e w' => ∃ v, e = .returned v ∧ OwnL w' w.heap.size v (ordL zs rs) ∧ Kept w w' := by
  obtain ⟨i0, hi, hz0, hz1, hz2⟩ := info_parts infoI
  have hh : heapR zs = true := by
    unfold rootsR at hr
    simp only [Bool.and_eq_true] at hr
    exact hr.1
  have HH : Hid _ := hh
  have HLR : Hid _ := leads_roots hr
  have HI : Hid _ := hI
  have HR : Hid _ := hR
  have b0 := (Cells.new w 39 #[.slice ao zs.length cap]).alloc (.cells #[] 3)
  have k0 : Kept w ((w.alloc (.cells #[.slice ao zs.length cap] 39)).alloc (.cells #[] 3)) := (Kept.alloc (Below.refl _ _) _).alloc _
  have o0 : OwnL ((w.alloc (.cells #[.slice ao zs.length cap] 39)).alloc (.cells #[] 3)) (w.heap.size + 1) (.slice (some ⟨w.heap.size + 1, 0, none⟩) 0 0) [] := by
    refine ⟨by simp, ?_⟩
    have := World.ownsRow_made (base := w.heap.size + 1) (e := 3) (size := 1) (w.alloc (.cells #[.slice ao zs.length cap] 39)) #[] 0 (by simp) (by unfold maxLen; omega) (by simp)
    simpa using this
  clear hr hh hI hR
  go_enter Tryz.func27, Tryz.ntmps27
  go_wp2_with fail
  go_loopw [5, 6] (fun v i wr => ∃ k : Nat, i = .int .i64 k ∧ k ≤ rs.length ∧ OwnL wr (w.heap.size + 1) v (meetL [] (rs.take k)) ∧ Cells wr w.heap.size 39 #[.slice ao zs.length cap] ∧ Kept w wr ∧ w.heap.size + 1 ≤ wr.heap.size)
    (fun _ i _ => rs.length - (intOf i).toNat)
  case atStart => exact ⟨0, rfl, Nat.zero_le _, by simpa [meetL] using o0, b0, k0, by simp⟩
  case round =>
    obtain ⟨k, rfl, hk, hO, hb, hK, hsz⟩ := hrel
    clear b0 k0 o0
    have HM : Hid (Met zs (meetL [] (rs.take k))) := Met.meet ⟨List.nodup_nil, by simp⟩ (fun v hv => HLR.out v (List.mem_of_mem_take hv))
    have hml := Met.len HM.out
    by_cases hlt : k < rs.length
    · have HT : Hid (meetL [] (rs.take (k + 1)) = addB (meetL [] (rs.take k)) (blkV (hz rs k))) := by rw [Hid, take_hz hlt, meetL_snoc]
      have HM2 : Hid (Met zs (meetL [] (rs.take (k + 1)))) := Met.meet ⟨List.nodup_nil, by simp⟩ (fun v hv => HLR.out v (List.mem_of_mem_take hv))
      obtain ⟨b1, o1, e1, hc1⟩ := Ints.at (Ints.kept HR.out hK) hlt
      have c1 := hc1 k hlt
      obtain ⟨out, hout⟩ : ∃ out, meetL [] (rs.take k) = out := ⟨_, rfl⟩
      rw [hout] at HT HM hml hO
      obtain ⟨va, vc, rfl, hIv⟩ := hO.ints
      have HO : Hid _ := hO
      have q1 : (k : Int) < (rs.length : Int) := by omega
      have q0 : (0 : Int) ≤ (k : Int) := by omega
      have hIn := l7In_ok wr va vc out (blkV (hz rs k)) hIv (by omega)
      have HK : Hid _ := hK
      obtain ⟨bv, hbv⟩ : ∃ bv, blkV (hz rs k) = bv := ⟨_, rfl⟩
      have hBk := fun (u : World) => l7Block_ok (hz rs k) u
      rw [hbv] at HT hIn hBk
      have hrow := hO.2
      have hlt' := fun j (ej : (Value.slice va out.length vc).ownBlock = some j) => (hrow.lt j ej).1
      subst e1
      clear hc1 hK hbv hout hO hIv
      by_cases h0 : (0 : Int) ≤ bv
      · have g0 : decide ((0 : Int) ≤ bv) = true := by simpa using h0
        cases hd : decide (bv ∈ out) with
        | true =>
          rw [hd] at hIn
          have HE : Hid _ := addB_in hd
          clear hd
          go_wp2_with (first | (go_at_call 75; refine (hBk _).mono ?_; rintro e wx ⟨rfl, rfl⟩) | (go_at_call 76; refine hIn.mono ?_; rintro e wx ⟨rfl, rfl⟩))
          go_roundw
          case rel => exact ⟨k + 1, by go_num, by omega, by rw [HT.out, HE.out]; exact HO.out, hb, HK.out, hsz⟩
          case measure => simp [intOf]; omega
        | false =>
          rw [hd] at hIn
          have HE : Hid _ := addB_yes h0 hd
          clear hd
          go_wp2_with (first | (go_at_call 75; refine (hBk _).mono ?_; rintro e wx ⟨rfl, rfl⟩) | (go_at_call 76; refine hIn.mono ?_; rintro e wx ⟨rfl, rfl⟩) | (at_builtin; refine wpList_append_own _ rfl _ _ 26 rfl (w.heap.size + 1) 3 i0 (.int .i64 0) 1 8 Tryz.underlying26 hi hz0 hz1 hz2 rfl (by decide) _ _ _ rfl (hrow.alloc _) ⟨wr.heap.size, 0, none⟩ 1 1 [.int .i64 bv] rfl rfl (cell_one_new _ _ _) (by simp [Value.oneCell']) (by unfold maxLen; omega) (by omega) (by simp; omega) ?_; intro v' w1 hown' hgrow _; have kk : Below (w.heap.size + 1) wr w1 := ((Below.refl _ wr).alloc hsz _).grown hgrow (by simp; omega) (fun j ej => hlt' j ej)))
          go_roundw
          case rel =>
            refine ⟨k + 1, by go_num, by omega, ?_, (kk.block w.heap.size (by omega)).trans hb, Below.trans HK.out (kk.mono (by omega)), Nat.le_trans hsz kk.size⟩
            have hbd := Met.bd HM2.out hl
            rw [HT.out, HE.out] at hbd ⊢
            exact OwnL.snoc hbd hown'
          case measure => simp [intOf]; omega
      · have g0 : decide ((0 : Int) ≤ bv) = false := by simpa using h0
        have HE : Hid _ := addB_no (out := out) h0
        clear hIn
        go_wp2_with (first | (go_at_call 75; refine (hBk _).mono ?_; rintro e wx ⟨rfl, rfl⟩))
        go_roundw
        case rel => exact ⟨k + 1, by go_num, by omega, by rw [HT.out, HE.out]; exact HO.out, hb, HK.out, hsz⟩
        case measure => simp [intOf]; omega
    · obtain rfl : k = rs.length := by omega
      rw [List.take_length] at HM hO hml
      have HOR : Hid (ordL zs rs = ordF zs (zs.length + 1 - 0) 0 (meetL [] rs)) := rfl
      obtain ⟨out0, hout⟩ : ∃ out, meetL [] rs = out := ⟨_, rfl⟩
      rw [hout] at HM hO hml HOR
      have HO : Hid _ := hO
      have HK : Hid _ := hK
      have Hb : Hid _ := hb
      have Hsz : Hid _ := hsz
      clear hout hO hK hb hsz
      go_wp2_with fail
      go_loopw [5, 8] (fun v i wr => ∃ (k : Nat) (out : List Int), i = .int .i64 k ∧ k ≤ out.length ∧ Met zs out ∧ ordL zs rs = ordF zs (zs.length + 1 - k) k out ∧ OwnL wr (w.heap.size + 1) v out ∧ Cells wr w.heap.size 39 #[.slice ao zs.length cap] ∧ Kept w wr ∧ w.heap.size + 1 ≤ wr.heap.size)
        (fun _ i _ => zs.length - (intOf i).toNat)
      case atStart => exact ⟨0, out0, rfl, Nat.zero_le _, HM.out, HOR.out, HO.out, Hb.out, HK.out, Hsz.out⟩
      case round =>
        obtain ⟨k, out, rfl, hk, hM, hOF, hO, hb, hK, hsz⟩ := hrel
        have hol := hM.len
        have HM : Hid _ := hM
        have HOF : Hid _ := hOF
        obtain ⟨va, vc, rfl, hIv⟩ := hO.ints
        have HO : Hid _ := hO
        by_cases hlt : k < out.length
        · have ek : out[k]? = some (hz out k) := by unfold hz; rw [List.getElem?_eq_getElem hlt]; rfl
          have hka := hM.2 _ (hz_mem hlt)
          obtain ⟨hLd, hsl, hsp⟩ := leads_slots HH.out hka
          obtain ⟨n, en, hn, hg, esl, _⟩ := kind_nat hka
          have HN : Hid (ordL zs rs = ordF zs (zs.length + 1 - (k + 1)) (k + 1) (meetL out (slotV zs (hz out k)))) := by
            rw [Hid, hOF, show zs.length + 1 - k = (zs.length + 1 - (k + 1)) + 1 by omega, ordF_on ek]
          have HLd : Hid _ := hLd
          have HSV : Hid (∀ i, i < (slotsL zs (hz out k)).length → hz (slotV zs (hz out k)) i = hz zs (hz (slotsL zs (hz out k)) i).toNat) := fun i hi => slotV_at hi
          have HSL : Hid ((slotV zs (hz out k)).length = (slotsL zs (hz out k)).length) := slotV_len _ _
          obtain ⟨b1, o1, e1, hc1⟩ := hIv.at hlt
          have c1 := hc1 k hlt
          rw [en] at c1
          have hL3 := fun (u : World) (hu : Kept w u) => l3Slots_ok u ao cap zs n (Ints.kept HI.out hu) hl hg
          rw [← esl] at hL3
          obtain ⟨sl, hsl0⟩ : ∃ sl, slotsL zs (hz out k) = sl := ⟨_, rfl⟩
          obtain ⟨sv, hsv0⟩ : ∃ sv, slotV zs (hz out k) = sv := ⟨_, rfl⟩
          rw [hsl0] at hL3 hsl HSV HSL hsp
          rw [hsv0] at HN HLd HSV HSL
          have HL3 : Hid _ := hL3
          have q1 : (k : Int) < (out.length : Int) := by omega
          have q0 : (0 : Int) ≤ (k : Int) := by omega
          have kd : Kept wr wr.drew := (Below.refl _ wr).drew
          have cb := (hb.kept kd).cell 0
          have lb1 : b1 < wr.heap.size := World.block_lt_of_cell? _ _ c1
          have cd := (kd.cell (p := ⟨b1, o1 + k, none⟩) lb1).trans c1
          have K2 := hK.trans kd
          subst e1
          have Hb : Hid _ := hb
          have HK : Hid _ := hK
          have HSP : Hid _ := hsp
          clear hc1 hM hOF hO hIv hka hLd en hg esl hsl0 hsv0 hL3 c1 hb hK ek hsp
          go_wp2_with fail
          go_region_held3 (fun w' => w'.cell? ⟨w.heap.size, 0, none⟩ = some (.slice ao zs.length cap) ∧ w'.cell? ⟨b1, o1 + k, none⟩ = some (.int .i64 (n : Int)))
            (first
              | exact ⟨by assumption, by assumption⟩
              | go_keep)
            (first
              | (go_at_call 77; refine (HL3.out _ K2).mono ?_; rintro e w3 ⟨v3, rfl, hO3, hk3⟩; have kx := kd.trans hk3; have cb3 := (Cells.kept Hb.out kx).cell 0; have cd3 := (hk3.cell (p := ⟨b1, o1 + k, none⟩) (by simpa using lb1)).trans cd; obtain ⟨so, sc, rfl, hI3⟩ := hO3.ints; have hbl3 := hO3.2.lt))
          all_goals (
            have O3 := OwnL.kept (row := none) HO.out (Kept.grown kx) (fun k e => by cases e)
            have b3 := Cells.kept Hb.out kx
            have K3 := Kept.trans HK.out kx
            have hs3 := kx.size
            have hvb : ∀ j, (Value.slice (some ⟨b1, o1, none⟩) out.length vc).ownBlock = some j → j < wr.heap.size := fun j e => by simp [Value.ownBlock] at e; omega
            have hso : ∀ x, so = some x → sl ≠ [] → wr.heap.size ≤ x.block ∧ x.block < w3.heap.size := fun x ex _ => by
              have := hbl3 x.block (by rw [ex]; rfl)
              simpa using this
            have HI3 : Hid _ := hI3
            have HO3 : Hid _ := O3
            have Hb3 : Hid _ := b3
            have HK3 : Hid _ := K3
            have Hso : Hid _ := hso
            have Hvb : Hid _ := hvb
            clear hI3 O3 b3 K3 hO3 hbl3 cb3 cd3 cb cd hso hvb kx kd K2
            go_wp2_with fail
            go_loopw [5, 10] (fun v i wr => ∃ j : Nat, i = .int .i64 j ∧ j ≤ sl.length ∧ OwnL wr (w.heap.size + 1) v (meetL out (sv.take j)) ∧ Ints wr so sl ∧ (∀ x, so = some x → sl ≠ [] → x.block < wr.heap.size ∧ v.ownBlock ≠ some x.block) ∧ Cells wr w.heap.size 39 #[.slice ao zs.length cap] ∧ Kept w wr ∧ w.heap.size + 1 ≤ wr.heap.size)
              (fun _ i _ => sl.length - (intOf i).toNat)
            case atStart => exact ⟨0, rfl, Nat.zero_le _, by rw [List.take_zero]; exact HO3.out, HI3.out, fun x ex hx => ⟨(Hso.out x ex hx).2, fun e => by have := Hvb.out _ e; have := (Hso.out x ex hx).1; omega⟩, Hb3.out, HK3.out, by omega⟩
            case round =>
              obtain ⟨j, rfl, hj, hO4, hI4, hso4, hb4, hK4, hsz4⟩ := hrel
              have HM4 : Hid (Met zs (meetL out (sv.take j))) := Met.meet HM.out (fun v hv => HLd.out v (List.mem_of_mem_take hv))
              have hml := Met.len HM4.out
              by_cases hlj : j < sl.length
              · obtain ⟨p, hp, hpl⟩ := HSP.out j hlj
                have evj : hz sv j = hz zs p := by rw [HSV.out j hlj, hp, Int.toNat_natCast]
                have hjv : j < sv.length := by rw [HSL.out]; exact hlj
                have HT : Hid (meetL out (sv.take (j + 1)) = addB (meetL out (sv.take j)) (blkV (hz zs p))) := by rw [Hid, take_hz hjv, meetL_snoc, evj]
                have HM5 : Hid (Met zs (meetL out (sv.take (j + 1)))) := Met.meet HM.out (fun v hv => HLd.out v (List.mem_of_mem_take hv))
                obtain ⟨b5, o5, e5, hc5⟩ := hI4.at hlj
                have c5 := hc5 j hlj
                rw [hp] at c5
                obtain ⟨b6, o6, e6, hc6⟩ := Ints.at (Ints.kept HI.out hK4) hpl
                have c6 := hc6 p hpl
                have l5 : b5 < wr.heap.size := World.block_lt_of_cell? _ _ c5
                have l6 : b6 < wr.heap.size := World.block_lt_of_cell? _ _ c6
                obtain ⟨out4, hout4⟩ : ∃ o, meetL out (sv.take j) = o := ⟨_, rfl⟩
                rw [hout4] at HT HM4 hml hO4
                obtain ⟨ua, uc, rfl, hIu⟩ := hO4.ints
                have HO4 : Hid _ := hO4
                have g1 : (j : Int) < (sl.length : Int) := by omega
                have g2 : (0 : Int) ≤ (j : Int) := by omega
                have g3 : (p : Int) < (zs.length : Int) := by omega
                have g4 : (0 : Int) ≤ (p : Int) := by omega
                have g5 : ((p : Int)).toNat = p := by omega
                have kd7 : ∀ u, Kept wr.drew u → Kept wr u := fun u hu => Kept.trans (Below.refl _ wr).drew hu
                have y0 : ∀ u, Kept wr.drew u → u.cell? ⟨w.heap.size, 0, none⟩ = some (.slice ao zs.length cap) := fun u hu => (hb4.kept (kd7 u hu)).cell 0
                have y1 : ∀ u, Kept wr.drew u → u.cell? ⟨b5, o5 + j, none⟩ = some (.int .i64 (p : Int)) := fun u hu => ((kd7 u hu).cell (p := ⟨b5, o5 + j, none⟩) l5).trans c5
                have y2 : ∀ u, Kept wr.drew u → u.cell? ⟨b6, o6 + p, none⟩ = some (.int .i64 (hz zs p)) := fun u hu => ((kd7 u hu).cell (p := ⟨b6, o6 + p, none⟩) l6).trans c6
                obtain ⟨bv, hbv⟩ : ∃ bv, blkV (hz zs p) = bv := ⟨_, rfl⟩
                have C1 : Hid (∀ u, Kept wr.drew u → Calls Tryz.prog 75 #[.int .i64 (hz zs p)] u fun e w' => e = .returned (.int .i64 bv) ∧ Kept u w') := fun u _ => calls_kept (by have := l7Block_ok (hz zs p) u; rw [hbv] at this; exact this)
                rw [hbv] at HT
                have HIu : Hid _ := hIu
                have HI4 : Hid _ := hI4
                have Hso4 : Hid _ := hso4
                have Hb4 : Hid _ := hb4
                have HK4 : Hid _ := hK4
                subst e5
                subst e6
                clear hc5 hc6 c5 c6 hout4 hbv hO4 hIu hI4 hso4 hb4 hK4 evj
                go_wp2_with fail
                refine wp_region_seqL (by kernel_rfl) (by kernel_rfl) ?_
                repeat (first
                  | (refine SeqL.skip (by rfl) ?_; simp only [Act.put, List.setIfInBounds_toArray, List.set_cons_zero, List.set_cons_succ])
                  | (refine SeqL.pure ?_ (by rfl) ?_ ?_; rotate_left; (focus (intro u hu; have y0' := y0 u hu; have y1' := y1 u hu; have y2' := y2 u hu; go_simp; first | done | exact rfl)); simp only [Act.put, List.setIfInBounds_toArray, List.set_cons_zero, List.set_cons_succ])
                  | (refine SeqL.call _ _ _ (by rfl) ?_ C1.out ?_; (focus (intro u; go_simp; done)); simp only [Act.put, List.setIfInBounds_toArray, List.set_cons_zero, List.set_cons_succ]))
                refine SeqL.nil ?_
                intro w5 hu5
                have k5 := kd7 w5 hu5
                have HO5 : Hid _ := OwnL.kept (row := none) HO4.out (Kept.grown k5) (fun k e => by cases e)
                have Hb5 : Hid _ := Cells.kept Hb4.out k5
                have HK5 : Hid _ := Kept.trans HK4.out k5
                have hs5 := k5.size
                have hIn := l7In_ok w5 ua uc out4 bv (Ints.kept HIu.out k5) (by omega)
                have HI5 : Hid _ := Ints.kept HI4.out k5
                have hrow := HO5.out.2
                have hrl5 := hrow.lt
                clear y0 y1 y2 C1 kd7
                by_cases h0 : (0 : Int) ≤ bv
                · have g0 : decide ((0 : Int) ≤ bv) = true := by simpa using h0
                  cases hd : decide (bv ∈ out4) with
                  | true =>
                    rw [hd] at hIn
                    have HE : Hid _ := addB_in hd
                    clear hd
                    go_wp2_with (first | (go_at_call 76; refine hIn.mono ?_; rintro e wx ⟨rfl, rfl⟩))
                    go_roundw
                    case rel => exact ⟨j + 1, by go_num, by omega, by rw [HT.out, HE.out]; exact HO5.out, HI5.out, fun x ex hx => ⟨by have := (Hso4.out x ex hx).1; omega, (Hso4.out x ex hx).2⟩, Hb5.out, HK5.out, by omega⟩
                    case measure => simp [intOf]; omega
                  | false =>
                    rw [hd] at hIn
                    have HE : Hid _ := addB_yes h0 hd
                    clear hd
                    go_wp2_with (first | (go_at_call 76; refine hIn.mono ?_; rintro e wx ⟨rfl, rfl⟩) | (at_builtin; refine wpList_append_lies _ rfl _ _ 26 rfl (w.heap.size + 1) 3 i0 (.int .i64 0) 1 8 Tryz.underlying26 hi hz0 hz1 hz2 rfl (by decide) _ _ _ rfl (hrow.alloc _) ⟨w5.heap.size, 0, none⟩ 1 1 [.int .i64 bv] rfl rfl (cell_one_new _ _ _) (by simp [Value.oneCell']) (by omega) (by unfold maxLen; omega) (by omega) (by simp; omega) (w5.heap.size + 1) (by simp) ?_; intro gg cg w6 hown' hgrow hat hlt6; have kk : Below (w.heap.size + 1) w5 w6 := ((Below.refl _ w5).alloc (by omega) _).grown hgrow (by simp; omega) (fun j ej => (hrl5 j ej).1)))
                    go_roundw
                    case rel =>
                      have hk6 := kk.size
                      refine ⟨j + 1, by go_num, by omega, ?_, ?_, fun x ex hx => ⟨by have := (Hso4.out x ex hx).1; omega, ?_⟩, (kk.block w.heap.size (by omega)).trans Hb5.out, Below.trans HK5.out (kk.mono (by omega)), by omega⟩
                      · have hbd := Met.bd HM5.out hl
                        rw [HT.out, HE.out] at hbd ⊢
                        exact OwnL.snoc hbd hown'
                      · refine Ints.far (Ints.kept HI5.out (Kept.alloc (Below.refl _ w5) _)) hgrow (fun x ex => ?_)
                        exact (Hso4.out x ex (fun e => by rw [e] at hlj; simp at hlj)).2
                      · have h1 := Hso4.out x ex hx
                        intro e
                        simp [Value.ownBlock] at e
                        rcases hat with h2 | h2
                        · exact h1.2 (by have h3 : (Value.slice ua out4.length uc).ownBlock = some gg := h2; rw [h3, e])
                        · omega
                    case measure => simp [intOf]; omega
                · have g0 : decide ((0 : Int) ≤ bv) = false := by simpa using h0
                  have HE : Hid _ := addB_no (out := out4) h0
                  clear hIn
                  go_wp2_with fail
                  go_roundw
                  case rel => exact ⟨j + 1, by go_num, by omega, by rw [HT.out, HE.out]; exact HO5.out, HI5.out, fun x ex hx => ⟨by have := (Hso4.out x ex hx).1; omega, (Hso4.out x ex hx).2⟩, Hb5.out, HK5.out, by omega⟩
                  case measure => simp [intOf]; omega
              · obtain rfl : j = sl.length := by omega
                rw [← HSL.out, List.take_length] at hO4
                have HO4 : Hid _ := hO4
                have HM6 : Hid (Met zs (meetL out sv)) := Met.meet HM.out HLd.out
                have HP6 : Hid (out.length ≤ (meetL out sv).length) := meetL_len _ _
                have Hb4 : Hid _ := hb4
                have HK4 : Hid _ := hK4
                clear hO4 hI4 hso4 hb4 hK4 HM4 hml
                go_wp2_with fail
                go_roundw
                case rel => exact ⟨k + 1, meetL out sv, by go_num, by have := HP6.out; omega, HM6.out, HN.out, HO4.out, Hb4.out, HK4.out, hsz4⟩
                case measure => simp [intOf]; omega)
        · obtain rfl : k = out.length := by omega
          have HE : Hid (ordL zs rs = out) := by rw [Hid, hOF, ordF_end (Nat.le_refl _)]
          have HK : Hid _ := hK
          clear hOF hIv hO hb hK hM
          go_wp2_with fail
          go_ret
          exact ⟨_, rfl, by rw [HE.out]; exact ⟨HO.out.1, ownsRow_base HO.out.2 (by omega)⟩, HK.out⟩
end Go.Proofs.YtgempjjnfpmndaaGreatDoor
namespace Go.Proofs.YtgempjjnfpmndaaGreatDoor
open Go.RowKit
attribute [local go_sem] Plain.and7

/-- x ahead of all that is not less. -/
def insL (x : Int) (out : List Int) : List Int := out.takeWhile (fun y => decide (y < x)) ++ x :: out.dropWhile (fun y => decide (y < x))
def sortF (out l : List Int) : List Int := l.foldl (fun o x => insL x o) out
def sortL (l : List Int) : List Int := sortF [] l
theorem sortF_snoc (out l : List Int) (x : Int) : sortF out (l ++ [x]) = insL x (sortF out l) := by simp [sortF]
theorem insL_len (x : Int) (out : List Int) : (insL x out).length = out.length + 1 := by
  unfold insL
  have := congrArg List.length (List.takeWhile_append_dropWhile (p := fun y => decide (y < x)) (l := out))
  simp only [List.length_append, List.length_cons] at this ⊢
  omega
theorem mem_insL {x y : Int} {out : List Int} : y ∈ insL x out ↔ y = x ∨ y ∈ out := by
  have e := List.takeWhile_append_dropWhile (p := fun y => decide (y < x)) (l := out)
  unfold insL
  rw [List.mem_append, List.mem_cons]
  constructor
  · rintro (h | h | h)
    · right; rw [← e]; exact List.mem_append_left _ h
    · exact .inl h
    · right; rw [← e]; exact List.mem_append_right _ h
  · rintro (h | h)
    · exact .inr (.inl h)
    · rw [← e] at h
      rcases List.mem_append.1 h with h | h
      · exact .inl h
      · exact .inr (.inr h)
theorem insL_at {x : Int} {out : List Int} {k : Nat} (hk : k ≤ out.length) (h1 : ∀ j, j < k → hz out j < x) (h2 : k < out.length → x ≤ hz out k) : insL x out = out.take k ++ x :: out.drop k := by
  have e1 : out.takeWhile (fun y => decide (y < x)) = out.take k := by
    induction out generalizing k with
    | nil => simp
    | cons y out ih =>
      cases k with
      | zero =>
        have := h2 (by simp)
        have h3 : ¬ y < x := by have h4 : x ≤ y := by simpa [hz] using this
                                omega
        simp [h3]
      | succ k =>
        have h3 : y < x := by have := h1 0 (by omega); simpa [hz] using this
        rw [List.takeWhile_cons, if_pos (by simpa using h3), List.take_succ_cons, ih (by simpa using hk) (fun j hj => by have := h1 (j + 1) (by omega); simpa [hz] using this) (fun hlt => by have := h2 (by simpa using hlt); simpa [hz] using this)]
  have e2 : out.dropWhile (fun y => decide (y < x)) = out.drop k := by
    have h := List.takeWhile_append_dropWhile (p := fun y => decide (y < x)) (l := out)
    rw [e1] at h
    exact List.append_cancel_left (h.trans (List.take_append_drop k out).symm)
  unfold insL
  rw [e1, e2]
theorem sortF_len : ∀ (l out : List Int), (sortF out l).length = out.length + l.length
  | [], out => by simp [sortF]
  | x :: l, out => by
    have := sortF_len l (insL x out)
    rw [insL_len] at this
    show (sortF (insL x out) l).length = _
    rw [this, List.length_cons]
    omega
theorem mem_sortF {y : Int} : ∀ (l out : List Int), y ∈ sortF out l ↔ y ∈ out ∨ y ∈ l
  | [], out => by simp [sortF]
  | x :: l, out => by
    show y ∈ sortF (insL x out) l ↔ _
    rw [mem_sortF l, mem_insL, List.mem_cons]
    constructor
    · rintro ((h | h) | h)
      · exact .inr (.inl h)
      · exact .inl h
      · exact .inr (.inr h)
    · rintro (h | h | h)
      · exact .inl (.inr h)
      · exact .inl (.inl h)
      · exact .inr h
theorem insL_sorted {x : Int} {out : List Int} (h : out.Pairwise (· ≤ ·)) : (insL x out).Pairwise (· ≤ ·) := by
  induction out with
  | nil => simp [insL]
  | cons y out ih =>
    have h' := List.pairwise_cons.1 h
    by_cases hy : y < x
    · have e : insL x (y :: out) = y :: insL x out := by simp [insL, hy]
      rw [e]
      refine List.pairwise_cons.2 ⟨fun z hz' => ?_, ih h'.2⟩
      rcases mem_insL.1 hz' with rfl | hz'
      · omega
      · exact h'.1 z hz'
    · have e : insL x (y :: out) = x :: y :: out := by simp [insL, hy]
      rw [e]
      refine List.pairwise_cons.2 ⟨fun z hz' => ?_, h⟩
      rcases List.mem_cons.1 hz' with rfl | hz'
      · omega
      · have := h'.1 z hz'; omega
theorem sortF_sorted : ∀ (l : List Int) {out : List Int}, out.Pairwise (· ≤ ·) → (sortF out l).Pairwise (· ≤ ·)
  | [], _, h => h
  | _ :: l, _, h => sortF_sorted l (insL_sorted h)
theorem ints_news {W : World} {b o : Nat} {l : List Int} (hc : ∀ j, j < l.length → W.cell? ⟨b, o + j, none⟩ = some (.int .i64 (hz l j))) : ∀ (j : Nat) (u : Value), (l.map (Value.int .i64))[j]? = some u → W.cell? ((⟨b, o, none⟩ : Addr).add j) = some u := by
  intro j u hu
  rw [List.getElem?_map] at hu
  cases hj : l[j]? with
  | none => rw [hj] at hu; simp at hu
  | some z =>
    rw [hj] at hu
    have hlt := (List.getElem?_eq_some_iff.1 hj).1
    have e : hz l j = z := by unfold hz; rw [hj]; rfl
    have h1 := hc j hlt
    rw [e] at h1
    rw [show (⟨b, o, none⟩ : Addr).add j = ⟨b, o + j, none⟩ by unfold Addr.add; split <;> simp_all]
    simp at hu
    rw [← hu]
    exact h1
theorem drop_none {W : World} {ad : Addr} {a : Nat} {out : List Int} (h : out.length ≤ a) : ∀ (j : Nat) (u : Value), ((out.drop a).map (Value.int .i64))[j]? = some u → W.cell? (ad.add j) = some u := by
  intro j u hu
  rw [List.drop_eq_nil_of_le h] at hu
  simp at hu
theorem drop_news {W : World} {g a : Nat} {out : List Int} (hr : Row W g out) : ∀ (j : Nat) (u : Value), ((out.drop a).map (Value.int .i64))[j]? = some u → W.cell? ((⟨g, a, none⟩ : Addr).add j) = some u := ints_news (fun j hj => by
  rw [List.length_drop] at hj
  have := hr.cell (j := a + j) (by omega)
  rw [show hz (out.drop a) j = hz out (a + j) by unfold hz; rw [List.getElem?_drop]]
  simpa using this)
end Go.Proofs.YtgempjjnfpmndaaGreatDoor
namespace Go.Proofs.YtgempjjnfpmndaaGreatDoor
open Go.RowKit
attribute [local go_sem] Plain.and7

/-- What Reach tells. -/
def reachL (zs rs : List Int) : List Int := if rootsR zs rs = true then sortL (ordL zs rs) else []
end Go.Proofs.YtgempjjnfpmndaaGreatDoor
