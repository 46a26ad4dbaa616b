/-
  The contracts of chapter 4's models l4Find and TextFind.
  The contract of chapter 4's model TextFind.
-/
import Derived.Test.YtpbafjcoomfooaaGreatZTextA
namespace Go.Proofs.YtpbafjcoomfooaaGreat
open Go.RowKit
attribute [local go_sem] Plain.and7

theorem same_bytes (a b : ByteArray) : (a.toList == b.toList) = decide (a = b) := by
  rw [ByteArray.toList_eq, ByteArray.toList_eq, Bool.eq_iff_iff]
  simp only [beq_iff_eq, decide_eq_true_eq]
  exact ⟨WideShapes.bytes_inj, fun h => by rw [h]⟩
/-- The block is a text with these bytes. -/
def isText (zs : List Int) (t : ByteArray) {L : Nat} (b : BkOf L) : Bool := decide (b.1.kind = 1 ∧ strOfNums (textL zs b.1.at') = t)
/-- The first text with these bytes. -/
def findT (zs : List Int) (t : ByteArray) : Option (BkOf zs.length) := (blocks zs).find? (isText zs t)
def findV {L : Nat} : Option (BkOf L) → Value
  | some b => .tuple #[.int .i64 (8 * ((b.1.at' : Nat) : Int) + 4), .bool true]
  | none => .tuple #[.int .i64 0, .bool false]
def textFindV (zs : List Int) (t : ByteArray) : Value := if heapR zs = true then findV (findT zs t) else .tuple #[.int .i64 0, .bool false]
theorem findT_hit {zs : List Int} {t : ByteArray} {pre : List (BkOf zs.length)} {x : BkOf zs.length} (hp : pre ++ [x] <+: blocks zs) (hb : ∀ b ∈ pre, isText zs t b = false) (hx : isText zs t x = true) : findT zs t = some x := by
  obtain ⟨rest, e⟩ := hp
  unfold findT
  rw [← e, List.append_assoc, List.find?_append]
  have : pre.find? (isText zs t) = none := by
    rw [List.find?_eq_none]
    intro b h; rw [hb b h]; simp
  rw [this]
  simp [hx]
theorem findT_none {zs : List Int} {t : ByteArray} (hb : ∀ b ∈ blocks zs, isText zs t b = false) : findT zs t = none := by
  unfold findT
  rw [List.find?_eq_none]
  intro b h; rw [hb b h]; simp

set_option maxHeartbeats 8000000 in
set_option maxRecDepth 100000 in
theorem l4Find_ok (w : World) (ao : Option Addr) (cap : Nat) (zs : List Int) (t : ByteArray) (hI : Ints w ao zs) (hl : zs.length ≤ 1048576) (hh : heapR zs = true) :
    Calls Tryz.prog 46 #[.agg #[.slice ao zs.length cap], .string t] w fun e w' => e = .returned (findV (findT zs t)) ∧ Kept w w' := by
  have hok := heapR_slab hh
  have hlen : zs.length ≤ 2000 := (slabOk_iff.1 hok).1
  have HH : Hid (heapR zs = true) := hh
  have HO : Hid (slabOk zs = true) := hok
  have b0 := Cells.new w 26 #[.slice ao zs.length cap]
  have k0 : Kept w (w.alloc (.cells #[.slice ao zs.length cap] 26)) := Kept.alloc (Below.refl _ _) _
  clear hh hok
  go_enter Tryz.func46, Tryz.ntmps46
  go_wp2
  go_loopw [6] (fun i wr => ∃ (k : Nat) (pre : List (BkOf zs.length)), i = .int .i64 k ∧ k ≤ zs.length ∧ At zs k ∧ pre ++ blks zs k = blocks zs ∧ (∀ b ∈ pre, isText zs t b = false) ∧ Cells wr w.heap.size 26 #[.slice ao zs.length cap] ∧ Kept w wr) (fun i _ => zs.length - (intOf i).toNat)
  case atStart => exact ⟨0, [], rfl, Nat.zero_le _, At.zero zs, rfl, by simp, b0, k0⟩
  case round =>
    obtain ⟨k, pre, rfl, hk, hat, hpre, hno, hb, hK⟩ := hrel
    clear b0 k0
    have cb := hb.cell 0
    have lb := hb.lt
    by_cases hlt : k < zs.length
    · have hg := hat.good HO.out hlt
      have hle := hg.le
      have hs2 := hg.sz2
      have hsI := hg.szI
      have hkI := kdI zs k
      have hmem : (⟨⟨k, sz zs k, kd zs k⟩, hg.sz2, hg.le, hg.kd5⟩ : BkOf zs.length) ∈ blocks zs := by rw [← hpre, blks_yes hg]; simp
      have HX : Hid (At zs (k + sz zs k)) := hat.next hg
      have HS : Hid ((sz zs k : Int) = hz zs k / 8) := hsI
      have hs8 : 2 ≤ hz zs k / 8 := by omega
      have hs9 : hz zs k / 8 ≤ 2000 := by omega
      have hpx : pre ++ [⟨⟨k, sz zs k, kd zs k⟩, hg.sz2, hg.le, hg.kd5⟩] <+: blocks zs := ⟨blks zs (k + sz zs k), by rw [← hpre, blks_yes hg]; simp⟩
      have hpn : (pre ++ [⟨⟨k, sz zs k, kd zs k⟩, hg.sz2, hg.le, hg.kd5⟩]) ++ blks zs (k + sz zs k) = blocks zs := by rw [← hpre, blks_yes hg]; simp
      obtain ⟨bb, off, e, hc⟩ := (hI.kept hK).at hlt
      have hck := hc k hlt
      have hbl : bb < w.heap.size := by
        have := hI.lt (a := ⟨bb, off, none⟩) (by intro h; rw [h] at hlt; simp at hlt) e
        exact this
      subst e
      have HK : Hid (Kept w wr) := hK
      have hltI : (k : Int) < (zs.length : Int) := by omega
      by_cases h1 : hz zs k % 8 = 1
      · obtain ⟨n, hn, hns, hby⟩ := text_facts HH.out hmem (by show kd zs k = 1; omega)
        simp only at hn hns hby
        have hB := l4Bytes_ok wr (some ⟨bb, off, none⟩) cap zs k (sz zs k) n (hI.kept hK) hl hle hn hns hby
        have hT : textL zs k = bytesL zs (k + 2) n := by unfold textL; rw [hn]; simp
        have e1 : (hz zs k % 8 == 1) = true := by simp [h1]
        by_cases heq : strOfNums (bytesL zs (k + 2) n) = t
        · have HF : Hid (findT zs t = some ⟨⟨k, sz zs k, kd zs k⟩, hg.sz2, hg.le, hg.kd5⟩) := findT_hit hpx hno (by simp [isText, hT, heq]; show kd zs k = 1; omega)
          have e2 : ((strOfNums (bytesL zs (k + 2) n)).toList == t.toList) = true := by rw [same_bytes]; simp [heq]
          clear hc hno hpre hpx hpn hat hmem hkI h1 hn hT heq hK hI hsI
          go_wp2_with (first | (go_at_call 96; refine (l2Kind_ok _ _).mono ?_; rintro e wx ⟨rfl, rfl⟩) | (go_at_call 52; refine hB.mono ?_; rintro e w1 ⟨rfl, hk1⟩) | (go_at_call 88; refine (spec_RefOf_ok _ _ _).mono ?_; rintro e wx ⟨rfl, rfl⟩))
          go_ret2
          refine ⟨?_, HK.out.trans hk1⟩
          rw [HF.out, vRef_yes (by omega)]
          rfl
        · have e2 : ((strOfNums (bytesL zs (k + 2) n)).toList == t.toList) = false := by rw [same_bytes]; simp [heq]
          have HN : Hid (∀ b ∈ pre ++ [(⟨⟨k, sz zs k, kd zs k⟩, hg.sz2, hg.le, hg.kd5⟩ : BkOf zs.length)], isText zs t b = false) := by
            intro b hb'
            rcases List.mem_append.1 hb' with hb' | hb'
            · exact hno b hb'
            · simp at hb'; subst hb'; simp [isText, hT, heq]
          have HP : Hid _ := hpn
          clear hc hno hpre hpx hpn hat hmem hkI h1 hn hT heq hK hI hsI
          go_wp2_with (first | (go_at_call 96; refine (l2Kind_ok _ _).mono ?_; rintro e wx ⟨rfl, rfl⟩) | (go_at_call 52; refine hB.mono ?_; rintro e w1 ⟨rfl, hk1⟩; have hb1 := hb.kept hk1; have cb1 := hb1.cell 0; have ck1 := (hk1.cell (p := ⟨bb, off + k, none⟩) (World.block_lt_of_cell? _ _ hck)).trans hck) | (go_at_call 95; refine (l2Size_ok _ _).mono ?_; rintro e wx ⟨rfl, rfl⟩))
          go_roundw
          case rel => exact ⟨k + sz zs k, _, by rw [← HS.out]; go_num, hle, HX.out, HP.out, HN.out, hb1, HK.out.trans hk1⟩
          case measure => simp [intOf]; have := HS.out; omega
      · have e1 : (hz zs k % 8 == 1) = false := by simpa using h1
        have HN : Hid (∀ b ∈ pre ++ [(⟨⟨k, sz zs k, kd zs k⟩, hg.sz2, hg.le, hg.kd5⟩ : BkOf zs.length)], isText zs t b = false) := by
          intro b hb'
          rcases List.mem_append.1 hb' with hb' | hb'
          · exact hno b hb'
          · simp at hb'; subst hb'; simp [isText]; intro h; omega
        have HP : Hid _ := hpn
        clear hc hno hpre hpx hpn hat hmem hkI h1 hK hI hsI
        go_wp2_with (first | (go_at_call 96; refine (l2Kind_ok _ _).mono ?_; rintro e wx ⟨rfl, rfl⟩) | (go_at_call 95; refine (l2Size_ok _ _).mono ?_; rintro e wx ⟨rfl, rfl⟩))
        go_roundw
        case rel => exact ⟨k + sz zs k, _, by rw [← HS.out]; go_num, hle, HX.out, HP.out, HN.out, hb, HK.out⟩
        case measure => simp [intOf]; have := HS.out; omega
    · obtain rfl : k = zs.length := by omega
      have HF : Hid (findT zs t = none) := findT_none (fun b hb' => hno b (by rw [← hpre, blks_no (fun h => hlt h.lt)] at hb'; simpa using hb'))
      have HK : Hid (Kept w wr) := hK
      clear hpre hno hat hK hI
      go_wp2
      go_ret2
      exact ⟨by rw [HF.out]; rfl, HK.out⟩
end Go.Proofs.YtpbafjcoomfooaaGreat
namespace Go.Proofs.YtpbafjcoomfooaaGreat
open Go.RowKit

set_option maxHeartbeats 4000000 in
set_option maxRecDepth 100000 in
theorem spec_TextFind_ok (w : World) (ao : Option Addr) (cap : Nat) (zs : List Int) (t : ByteArray) (hI : Ints w ao zs) (hl : zs.length ≤ 1048576) :
    Calls Tryz.prog 14 #[.agg #[.slice ao zs.length cap], .string t] w fun e w' => e = .returned (textFindV zs t) ∧ Kept w w' := by
  have b0 := Cells.new w 26 #[.slice ao zs.length cap]
  have k0 : Kept w (w.alloc (.cells #[.slice ao zs.length cap] 26)) := Kept.alloc (Below.refl _ _) _
  have hH := spec_HeapOk_ok _ ao cap zs (hI.kept k0) hl
  cases hh : heapR zs with
  | false =>
    have HR : Hid (textFindV zs t = .tuple #[.int .i64 0, .bool false]) := by simp [Hid, textFindV, hh]
    rw [hh] at hH
    clear hh hI
    go_enter Tryz.func14, Tryz.ntmps14
    go_wp2_with (go_at_call 39; refine hH.mono ?_; rintro e w1 ⟨rfl, hk1⟩)
    go_ret2
    exact ⟨by rw [HR.out]; rfl, k0.trans hk1⟩
  | true =>
    have HR : Hid (textFindV zs t = findV (findT zs t)) := by simp [Hid, textFindV, hh]
    rw [hh] at hH
    have hF := fun (u : World) (hu : Kept w u) => l4Find_ok u ao cap zs t (hI.kept hu) hl hh
    have HC : Hid (∀ u, Kept w u → Calls Tryz.prog 46 #[.agg #[.slice ao zs.length cap], .string t] u fun e w' => ∃ x y, findV (findT zs t) = .tuple #[.int .i64 x, .bool y] ∧ e = .returned (.tuple #[.int .i64 x, .bool y]) ∧ Kept u w') := fun u hu => (hF u hu).mono (fun e w' h => by
      cases hf : findT zs t with
      | none => exact ⟨_, _, rfl, by rw [h.1, hf]; rfl, h.2⟩
      | some b => exact ⟨_, _, rfl, by rw [h.1, hf]; rfl, h.2⟩)
    clear hh hI hF
    go_enter Tryz.func14, Tryz.ntmps14
    go_wp2_with (first | (go_at_call 39; refine hH.mono ?_; rintro e w1 ⟨rfl, hk1⟩; have hk2 := k0.trans hk1; have hb1 := b0.kept hk1; have cb1 := hb1.cell 0) | (go_at_call 46; refine (HC.out _ hk2).mono ?_; rintro e w2 ⟨x, y, exy, rfl, hk3⟩))
    go_ret2
    exact ⟨by rw [HR.out, exy]; rfl, hk2.trans hk3⟩
end Go.Proofs.YtpbafjcoomfooaaGreat
