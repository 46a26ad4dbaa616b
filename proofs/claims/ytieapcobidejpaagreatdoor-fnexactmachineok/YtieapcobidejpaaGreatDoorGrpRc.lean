/-
  Facts on lists: the blocks that are reached, in the order in which they are met (chapter 7).
  The contracts of chapter 7's models l7Block, l7In and l7Order.
  The contracts of chapter 7's models l7Sort and Reach.
  The contracts of chapter 7's models Reach and l7Digits.
-/
import Derived.Deep.RegionHeld3
import Derived.Deep.AppendLies
import Derived.BigQuiet
import Derived.Laws.Concat
import Derived.Laws.BytesArg
import Derived.Test.YtieapcobidejpaaGreatDoorGrpHs
import Derived.Test.YtieapcobidejpaaGreatDoorGrpSq
import Derived.Test.YtieapcobidejpaaGreatDoorGrpW
import Derived.Test.YtieapcobidejpaaGreatDoorSeq
import Derived.Test.YtieapcobidejpaaGreatDoorDigA
namespace Go.Proofs.YtieapcobidejpaaGreatDoor
open Go.RowKit

/-- The block to which a value leads, or -1. -/
def blkV (v : Int) : Int := if v % 8 < 4 then -1 else v / 8
/-- A block that was not met yet is met. -/
def addB (out : List Int) (a : Int) : List Int := if 0 ≤ a ∧ a ∉ out then out ++ [a] else out
def meetL (out vs : List Int) : List Int := vs.foldl (fun o v => addB o (blkV v)) out
theorem meetL_snoc (out vs : List Int) (v : Int) : meetL out (vs ++ [v]) = addB (meetL out vs) (blkV v) := by simp [meetL]
/-- The values of a block. -/
def slotV (zs : List Int) (a : Int) : List Int := (slotsL zs a).map (fun j => hz zs j.toNat)
theorem slotV_len (zs : List Int) (a : Int) : (slotV zs a).length = (slotsL zs a).length := by simp [slotV]
def ordF (zs : List Int) : Nat → Nat → List Int → List Int
  | 0, _, out => out
  | n + 1, k, out => match out[k]? with | some a => ordF zs n (k + 1) (meetL out (slotV zs a)) | none => out
theorem ordF_on {zs out : List Int} {n k : Nat} {a : Int} (h : out[k]? = some a) : ordF zs (n + 1) k out = ordF zs n (k + 1) (meetL out (slotV zs a)) := by simp [ordF, h]
theorem ordF_end {zs out : List Int} {n k : Nat} (h : out.length ≤ k) : ordF zs n k out = out := by
  cases n with
  | zero => rfl
  | succ n => simp [ordF, List.getElem?_eq_none h]
/-- All blocks that are reached, in the order in which they are met. -/
def ordL (zs rs : List Int) : List Int := ordF zs (zs.length + 1) 0 (meetL [] rs)
/-- Blocks that are there, each once. -/
def Met (zs out : List Int) : Prop := out.Nodup ∧ ∀ a ∈ out, 1 ≤ kindAt zs a
theorem kind_nat {zs : List Int} {a : Int} (h : 1 ≤ kindAt zs a) : ∃ n : Nat, a = n ∧ n < zs.length ∧ Good zs n ∧ slotsL zs a = slL n (kd zs n) (sz zs n) ∧ ∃ b ∈ blocks zs, b.1.at' = n := by
  unfold kindAt at h
  cases hb : atB zs a with
  | none => rw [hb] at h; simp at h
  | some b =>
    obtain ⟨_, e, hg, hs, hk, hm⟩ := atB_some hb
    exact ⟨b.1.at', e.symm, hg.lt, hg, by unfold slotsL; rw [hb, ← hs, ← hk], b, hm, rfl⟩
theorem nodup_toNat {l : List Int} (h0 : ∀ a ∈ l, 0 ≤ a) (hd : l.Nodup) : (l.map Int.toNat).Nodup := by
  induction l with
  | nil => simp
  | cons x l ih =>
    have hd' := List.nodup_cons.1 hd
    rw [List.map_cons]
    refine List.nodup_cons.2 ⟨fun hm => ?_, ih (fun a ha => h0 a (List.mem_cons_of_mem _ ha)) hd'.2⟩
    obtain ⟨y, hy, e⟩ := List.mem_map.1 hm
    have h1 := h0 x (by simp)
    have h2 := h0 y (List.mem_cons_of_mem _ hy)
    have : y = x := by omega
    rw [this] at hy
    exact hd'.1 hy
theorem Met.len {zs out : List Int} (h : Met zs out) : out.length ≤ zs.length := by
  have h0 : ∀ a ∈ out, 0 ≤ a := fun a ha => by
    obtain ⟨n, e, _⟩ := kind_nat (h.2 a ha)
    omega
  have := nodup_le zs.length (out.map Int.toNat) (nodup_toNat h0 h.1) (fun p hp => by
    obtain ⟨a, ha, rfl⟩ := List.mem_map.1 hp
    obtain ⟨n, e, hn, _⟩ := kind_nat (h.2 a ha)
    omega)
  simpa using this
theorem Met.bd {zs out : List Int} (h : Met zs out) (hl : zs.length ≤ 1048576) : ∀ a ∈ out, -9223372036854775808 ≤ a ∧ a ≤ 9223372036854775807 := fun a ha => by
  obtain ⟨n, e, hn, _⟩ := kind_nat (h.2 a ha)
  omega
theorem Met.add {zs out : List Int} {a : Int} (h : Met zs out) (ha : 0 ≤ a → 1 ≤ kindAt zs a) : Met zs (addB out a) := by
  unfold addB
  split
  · rename_i hc
    refine ⟨?_, fun x hx => ?_⟩
    · rw [List.nodup_append]
      exact ⟨h.1, by simp, fun x hx y hy => by simp at hy; subst hy; intro e; subst e; exact hc.2 hx⟩
    · rcases List.mem_append.1 hx with h' | h'
      · exact h.2 x h'
      · simp at h'; subst h'; exact ha hc.1
  · exact h
/-- Values that lead somewhere. -/
def Leads (zs vs : List Int) : Prop := ∀ v ∈ vs, 0 ≤ blkV v → 1 ≤ kindAt zs (blkV v)
theorem Met.meet {zs : List Int} : ∀ {vs out : List Int}, Met zs out → Leads zs vs → Met zs (meetL out vs)
  | [], out, h, _ => h
  | v :: vs, out, h, hv => Met.meet (vs := vs) (h.add (hv v (by simp))) (fun x hx => hv x (List.mem_cons_of_mem _ hx))
theorem blkV_bd {v : Int} (h : -9223372036854775808 ≤ v ∧ v ≤ 9223372036854775807) : -9223372036854775808 ≤ blkV v ∧ blkV v ≤ 9223372036854775807 := by
  unfold blkV
  split <;> omega
theorem leads_roots {zs rs : List Int} (h : rootsR zs rs = true) : Leads zs rs := by
  intro v hv h0
  unfold rootsR leadAll at h
  simp only [Bool.and_eq_true] at h
  obtain ⟨j, hj, e⟩ := List.getElem_of_mem hv
  have h1 := allR_iff.1 h.2 j hj
  have e1 : hz rs j = v := by unfold hz; rw [List.getElem?_eq_getElem hj]; exact e
  rw [e1] at h1
  unfold blkV at h0 ⊢
  split
  · rename_i h4; rw [if_pos h4] at h0; omega
  · rename_i h4
    have hk := leads_kind h1 (by omega)
    rw [hk]
    unfold wantK
    repeat' split
    all_goals omega
theorem slotV_at {zs : List Int} {a : Int} {i : Nat} (h : i < (slotsL zs a).length) : hz (slotV zs a) i = hz zs (hz (slotsL zs a) i).toNat := by
  unfold slotV hz
  rw [List.getElem?_map, List.getElem?_eq_getElem h]
  rfl
theorem leads_slots {zs : List Int} {a : Int} (hh : heapR zs = true) (ha : 1 ≤ kindAt zs a) : Leads zs (slotV zs a) ∧ (slotsL zs a).length ≤ zs.length ∧ ∀ i, i < (slotsL zs a).length → ∃ p : Nat, hz (slotsL zs a) i = p ∧ p < zs.length := by
  obtain ⟨n, e, _, _, _, b, hb, hbn⟩ := kind_nat ha
  have hf := slots_facts hh hb
  rw [hbn, ← e] at hf
  refine ⟨fun v hv h0 => ?_, hf.2.1, fun i hi => ?_⟩
  · obtain ⟨i, hi, ei⟩ := List.getElem_of_mem hv
    rw [slotV_len] at hi
    obtain ⟨p, hp, hpl, hok, hk⟩ := hf.2.2 i hi
    have e1 : v = hz zs p := by
      have := slotV_at hi
      rw [hp, Int.toNat_natCast] at this
      rw [← this]
      unfold hz
      rw [List.getElem?_eq_getElem (by rw [slotV_len]; exact hi)]
      exact ei.symm
    rw [e1] at h0 ⊢
    unfold blkV at h0 ⊢
    split
    · rename_i h4; rw [if_pos h4] at h0; omega
    · rename_i h4
      exact hk (by omega)
  · obtain ⟨p, hp, hpl, _⟩ := hf.2.2 i hi
    exact ⟨p, hp, hpl⟩
theorem addB_mem {out : List Int} {a x : Int} (h : x ∈ out) : x ∈ addB out a := by
  unfold addB
  split
  · exact List.mem_append_left _ h
  · exact h
theorem addB_pre {out : List Int} {a x : Int} {k : Nat} (h : out[k]? = some x) : (addB out a)[k]? = some x := by
  unfold addB
  split
  · rw [List.getElem?_append_left (List.getElem?_eq_some_iff.1 h).1]; exact h
  · exact h
theorem Met.ord {zs : List Int} (hh : heapR zs = true) : ∀ (n k : Nat) {out : List Int}, Met zs out → Met zs (ordF zs n k out)
  | 0, _, _, h => h
  | n + 1, k, out, h => by
    unfold ordF
    split
    · rename_i a ha
      have hk := h.2 a (List.mem_of_getElem? ha)
      exact Met.ord hh n (k + 1) (h.meet (leads_slots hh hk).1)
    · exact h
theorem ordL_met {zs rs : List Int} (h : rootsR zs rs = true) : Met zs (ordL zs rs) := by
  have hh : heapR zs = true := by
    unfold rootsR at h
    simp only [Bool.and_eq_true] at h
    exact h.1
  exact Met.ord hh _ _ (Met.meet ⟨List.nodup_nil, by simp⟩ (leads_roots h))
end Go.Proofs.YtieapcobidejpaaGreatDoor
namespace Go.Proofs.YtieapcobidejpaaGreatDoor
open Go.RowKit
attribute [local go_sem] Plain.and7

set_option maxHeartbeats 2000000 in
theorem l7Block_ok (v : Int) (w : World) : Calls Tryz.prog 73 #[.int .i64 v] w fun e w' => e = .returned (.int .i64 (blkV v)) ∧ w = w' := by
  by_cases h : v % 8 < 4
  · have HB : Hid (blkV v = -1) := by simp [Hid, blkV, h]
    go_enter Tryz.func73, Tryz.ntmps73
    go_wp2_with (first | (go_at_call 26; refine (spec_Kind_ok _ _).mono ?_; rintro e wx ⟨rfl, rfl⟩))
    go_ret
    exact ⟨by rw [HB.out]; rfl, rfl⟩
  · have HB : Hid (blkV v = v / 8) := by simp [Hid, blkV, h]
    go_enter Tryz.func73, Tryz.ntmps73
    go_wp2_with (first | (go_at_call 26; refine (spec_Kind_ok _ _).mono ?_; rintro e wx ⟨rfl, rfl⟩) | (go_at_call 115; refine (spec_Num_ok _ _).mono ?_; rintro e wx ⟨rfl, rfl⟩))
    go_ret
    exact ⟨by rw [HB.out]; rfl, rfl⟩
theorem hz_mem {l : List Int} {k : Nat} (h : k < l.length) : hz l k ∈ l := by
  unfold hz
  rw [List.getElem?_eq_getElem h]
  exact List.getElem_mem h
set_option maxHeartbeats 4000000 in
theorem l7In_ok (w : World) (ao : Option Addr) (cap : Nat) (l : List Int) (x : Int) (hI : Ints w ao l) (hl : l.length ≤ 1048576) :
    Calls Tryz.prog 70 #[.slice ao l.length cap, .int .i64 x] w fun e w' => e = .returned (.bool (decide (x ∈ l))) ∧ w = w' := by
  have HI : Hid _ := hI
  clear hI
  go_enter Tryz.func70, Tryz.ntmps70
  go_wp2_with fail
  go_loopw [5] (fun i wr => ∃ k : Nat, i = .int .i64 k ∧ k ≤ l.length ∧ (∀ j, j < k → hz l j ≠ x) ∧ wr = w) (fun i _ => l.length - (intOf i).toNat)
  case atStart => exact ⟨0, rfl, Nat.zero_le _, fun j hj => by omega, rfl⟩
  case round =>
    obtain ⟨k, rfl, hk, hno, rfl⟩ := hrel
    have HNo : Hid _ := hno
    clear hno
    by_cases hlt : k < l.length
    · obtain ⟨b, o, rfl, hc⟩ := Ints.at HI.out hlt
      have c1 := hc k hlt
      have q1 : (k : Int) < (l.length : Int) := by omega
      have q0 : (0 : Int) ≤ (k : Int) := by omega
      clear hc
      by_cases he : hz l k = x
      · have hm : x ∈ l := by rw [← he]; exact hz_mem hlt
        have HD : Hid (decide (x ∈ l) = true) := by simpa [Hid] using hm
        have hq : (hz l k == x) = true := by simpa using he
        clear hm he
        go_wp2_with fail
        go_ret
        exact ⟨by rw [HD.out]; rfl, rfl⟩
      · have hq : (hz l k == x) = false := by simpa using he
        have HE : Hid _ := he
        clear he
        go_wp2_with fail
        go_roundw
        case rel =>
          refine ⟨k + 1, by go_num, by omega, fun j hj => ?_, by trivial⟩
          rcases Nat.lt_or_ge j k with h | h
          · exact HNo.out j h
          · have : j = k := by omega
            subst this
            exact HE.out
        case measure => simp [intOf]; omega
    · obtain rfl : k = l.length := by omega
      have HD : Hid (decide (x ∈ l) = false) := by
        have : x ∉ l := fun hm => by
          obtain ⟨j, hj, e⟩ := List.getElem_of_mem hm
          exact HNo.out j hj (by unfold hz; rw [List.getElem?_eq_getElem hj]; exact e)
        simpa [Hid] using this
      go_wp2_with fail
      go_ret
      exact ⟨by rw [HD.out]; rfl, rfl⟩
theorem addB_yes {out : List Int} {a : Int} (h0 : 0 ≤ a) (h : decide (a ∈ out) = false) : addB out a = out ++ [a] := by
  unfold addB
  rw [if_pos ⟨h0, by simpa using h⟩]
theorem addB_in {out : List Int} {a : Int} (h : decide (a ∈ out) = true) : addB out a = out := by
  unfold addB
  rw [if_neg (fun hc => hc.2 (by simpa using h))]
theorem addB_no {out : List Int} {a : Int} (h : ¬ 0 ≤ a) : addB out a = out := by
  unfold addB
  rw [if_neg (fun hc => h hc.1)]
theorem addB_len (out : List Int) (a : Int) : out.length ≤ (addB out a).length := by
  unfold addB
  split <;> simp
theorem meetL_len : ∀ (vs out : List Int), out.length ≤ (meetL out vs).length
  | [], _ => Nat.le_refl _
  | v :: vs, out => Nat.le_trans (addB_len out (blkV v)) (meetL_len vs (addB out (blkV v)))
theorem take_hz {l : List Int} {k : Nat} (h : k < l.length) : l.take (k + 1) = l.take k ++ [hz l k] := by
  rw [List.take_succ_eq_append_getElem h]
  unfold hz
  rw [List.getElem?_eq_getElem h]
  rfl
theorem OwnL.snoc {W : World} {base : Nat} {v : Value} {l : List Int} {a : Int} (h0 : ∀ z ∈ l ++ [a], -9223372036854775808 ≤ z ∧ z ≤ 9223372036854775807) (h : W.ownsRow base 3 1 v (l.length + 1) (l.map (Value.int .i64) ++ [.int .i64 a])) : OwnL W base v (l ++ [a]) := by
  refine ⟨h0, ?_⟩
  rw [List.length_append, List.map_append]
  exact h
theorem Ints.far {W W' : World} {so : Option Addr} {l : List Int} {row : Option Nat} (h : Ints W so l) (hg : W.grownBy W' row) (hne : ∀ x, so = some x → row ≠ some x.block) : Ints W' so l := by
  refine ⟨h.1, ?_⟩
  rcases h.2 with h | ⟨b, off, rfl, hc⟩
  · exact .inl h
  · exact .inr ⟨b, off, rfl, fun j hj => (hg.cell_far ⟨b, off + j, none⟩ (World.block_lt_of_cell? _ _ (hc j hj)) (Ne.symm (hne ⟨b, off, none⟩ rfl))).trans (hc j hj)⟩
end Go.Proofs.YtieapcobidejpaaGreatDoor
namespace Go.Proofs.YtieapcobidejpaaGreatDoor
open Go.RowKit
attribute [local go_sem] Plain.and7

/-- x ahead of all that is not less. -/
def insL (x : Int) (out : List Int) : List Int := out.takeWhile (fun y => decide (y < x)) ++ x :: out.dropWhile (fun y => decide (y < x))
def sortF (out l : List Int) : List Int := l.foldl (fun o x => insL x o) out
def sortL (l : List Int) : List Int := sortF [] l
theorem sortF_snoc (out l : List Int) (x : Int) : sortF out (l ++ [x]) = insL x (sortF out l) := by simp [sortF]
theorem insL_len (x : Int) (out : List Int) : (insL x out).length = out.length + 1 := by
  unfold insL
  have := congrArg List.length (List.takeWhile_append_dropWhile (p := fun y => decide (y < x)) (l := out))
  simp only [List.length_append, List.length_cons] at this ⊢
  omega
theorem mem_insL {x y : Int} {out : List Int} : y ∈ insL x out ↔ y = x ∨ y ∈ out := by
  have e := List.takeWhile_append_dropWhile (p := fun y => decide (y < x)) (l := out)
  unfold insL
  rw [List.mem_append, List.mem_cons]
  constructor
  · rintro (h | h | h)
    · right; rw [← e]; exact List.mem_append_left _ h
    · exact .inl h
    · right; rw [← e]; exact List.mem_append_right _ h
  · rintro (h | h)
    · exact .inr (.inl h)
    · rw [← e] at h
      rcases List.mem_append.1 h with h | h
      · exact .inl h
      · exact .inr (.inr h)
theorem insL_at {x : Int} {out : List Int} {k : Nat} (hk : k ≤ out.length) (h1 : ∀ j, j < k → hz out j < x) (h2 : k < out.length → x ≤ hz out k) : insL x out = out.take k ++ x :: out.drop k := by
  have e1 : out.takeWhile (fun y => decide (y < x)) = out.take k := by
    induction out generalizing k with
    | nil => simp
    | cons y out ih =>
      cases k with
      | zero =>
        have := h2 (by simp)
        have h3 : ¬ y < x := by have h4 : x ≤ y := by simpa [hz] using this
                                omega
        simp [h3]
      | succ k =>
        have h3 : y < x := by have := h1 0 (by omega); simpa [hz] using this
        rw [List.takeWhile_cons, if_pos (by simpa using h3), List.take_succ_cons, ih (by simpa using hk) (fun j hj => by have := h1 (j + 1) (by omega); simpa [hz] using this) (fun hlt => by have := h2 (by simpa using hlt); simpa [hz] using this)]
  have e2 : out.dropWhile (fun y => decide (y < x)) = out.drop k := by
    have h := List.takeWhile_append_dropWhile (p := fun y => decide (y < x)) (l := out)
    rw [e1] at h
    exact List.append_cancel_left (h.trans (List.take_append_drop k out).symm)
  unfold insL
  rw [e1, e2]
theorem sortF_len : ∀ (l out : List Int), (sortF out l).length = out.length + l.length
  | [], out => by simp [sortF]
  | x :: l, out => by
    have := sortF_len l (insL x out)
    rw [insL_len] at this
    show (sortF (insL x out) l).length = _
    rw [this, List.length_cons]
    omega
theorem mem_sortF {y : Int} : ∀ (l out : List Int), y ∈ sortF out l ↔ y ∈ out ∨ y ∈ l
  | [], out => by simp [sortF]
  | x :: l, out => by
    show y ∈ sortF (insL x out) l ↔ _
    rw [mem_sortF l, mem_insL, List.mem_cons]
    constructor
    · rintro ((h | h) | h)
      · exact .inr (.inl h)
      · exact .inl h
      · exact .inr (.inr h)
    · rintro (h | h | h)
      · exact .inl (.inr h)
      · exact .inl (.inl h)
      · exact .inr h
theorem insL_sorted {x : Int} {out : List Int} (h : out.Pairwise (· ≤ ·)) : (insL x out).Pairwise (· ≤ ·) := by
  induction out with
  | nil => simp [insL]
  | cons y out ih =>
    have h' := List.pairwise_cons.1 h
    by_cases hy : y < x
    · have e : insL x (y :: out) = y :: insL x out := by simp [insL, hy]
      rw [e]
      refine List.pairwise_cons.2 ⟨fun z hz' => ?_, ih h'.2⟩
      rcases mem_insL.1 hz' with rfl | hz'
      · omega
      · exact h'.1 z hz'
    · have e : insL x (y :: out) = x :: y :: out := by simp [insL, hy]
      rw [e]
      refine List.pairwise_cons.2 ⟨fun z hz' => ?_, h⟩
      rcases List.mem_cons.1 hz' with rfl | hz'
      · omega
      · have := h'.1 z hz'; omega
theorem sortF_sorted : ∀ (l : List Int) {out : List Int}, out.Pairwise (· ≤ ·) → (sortF out l).Pairwise (· ≤ ·)
  | [], _, h => h
  | _ :: l, _, h => sortF_sorted l (insL_sorted h)
theorem ints_news {W : World} {b o : Nat} {l : List Int} (hc : ∀ j, j < l.length → W.cell? ⟨b, o + j, none⟩ = some (.int .i64 (hz l j))) : ∀ (j : Nat) (u : Value), (l.map (Value.int .i64))[j]? = some u → W.cell? ((⟨b, o, none⟩ : Addr).add j) = some u := by
  intro j u hu
  rw [List.getElem?_map] at hu
  cases hj : l[j]? with
  | none => rw [hj] at hu; simp at hu
  | some z =>
    rw [hj] at hu
    have hlt := (List.getElem?_eq_some_iff.1 hj).1
    have e : hz l j = z := by unfold hz; rw [hj]; rfl
    have h1 := hc j hlt
    rw [e] at h1
    rw [show (⟨b, o, none⟩ : Addr).add j = ⟨b, o + j, none⟩ by unfold Addr.add; split <;> simp_all]
    simp at hu
    rw [← hu]
    exact h1
theorem drop_none {W : World} {ad : Addr} {a : Nat} {out : List Int} (h : out.length ≤ a) : ∀ (j : Nat) (u : Value), ((out.drop a).map (Value.int .i64))[j]? = some u → W.cell? (ad.add j) = some u := by
  intro j u hu
  rw [List.drop_eq_nil_of_le h] at hu
  simp at hu
theorem drop_news {W : World} {g a : Nat} {out : List Int} (hr : Row W g out) : ∀ (j : Nat) (u : Value), ((out.drop a).map (Value.int .i64))[j]? = some u → W.cell? ((⟨g, a, none⟩ : Addr).add j) = some u := ints_news (fun j hj => by
  rw [List.length_drop] at hj
  have := hr.cell (j := a + j) (by omega)
  rw [show hz (out.drop a) j = hz out (a + j) by unfold hz; rw [List.getElem?_drop]]
  simpa using this)
end Go.Proofs.YtieapcobidejpaaGreatDoor
namespace Go.Proofs.YtieapcobidejpaaGreatDoor
open Go.RowKit
attribute [local go_sem] Plain.and7

/-- What Reach tells. -/
def reachL (zs rs : List Int) : List Int := if rootsR zs rs = true then sortL (ordL zs rs) else []
end Go.Proofs.YtieapcobidejpaaGreatDoor
