/-
  The contracts of chapter 4's models l4Find and TextFind.
  The contract of chapter 4's model TextFind.
  The contract of chapter 4's model l4Put.
  The contract of chapter 4's model TextPut.
-/
import Derived.Test.YtpbafjcoomfooaaGreatZTextA
import Derived.Test.YtpbafjcoomfooaaGreatZTextF
import Derived.Test.YtpbafjcoomfooaaGreatGrpQ
import Derived.Test.YtpbafjcoomfooaaGreatSeqIn
namespace Go.Proofs.YtpbafjcoomfooaaGreat
open Go.RowKit
attribute [local go_sem] Plain.and7

theorem same_bytes (a b : ByteArray) : (a.toList == b.toList) = decide (a = b) := by
  rw [ByteArray.toList_eq, ByteArray.toList_eq, Bool.eq_iff_iff]
  simp only [beq_iff_eq, decide_eq_true_eq]
  exact ⟨WideShapes.bytes_inj, fun h => by rw [h]⟩
/-- The block is a text with these bytes. -/
def isText (zs : List Int) (t : ByteArray) {L : Nat} (b : BkOf L) : Bool := decide (b.1.kind = 1 ∧ strOfNums (textL zs b.1.at') = t)
/-- The first text with these bytes. -/
def findT (zs : List Int) (t : ByteArray) : Option (BkOf zs.length) := (blocks zs).find? (isText zs t)
def findV {L : Nat} : Option (BkOf L) → Value
  | some b => .tuple #[.int .i64 (8 * ((b.1.at' : Nat) : Int) + 4), .bool true]
  | none => .tuple #[.int .i64 0, .bool false]
def textFindV (zs : List Int) (t : ByteArray) : Value := if heapR zs = true then findV (findT zs t) else .tuple #[.int .i64 0, .bool false]
theorem findT_hit {zs : List Int} {t : ByteArray} {pre : List (BkOf zs.length)} {x : BkOf zs.length} (hp : pre ++ [x] <+: blocks zs) (hb : ∀ b ∈ pre, isText zs t b = false) (hx : isText zs t x = true) : findT zs t = some x := by
  obtain ⟨rest, e⟩ := hp
  unfold findT
  rw [← e, List.append_assoc, List.find?_append]
  have : pre.find? (isText zs t) = none := by
    rw [List.find?_eq_none]
    intro b h; rw [hb b h]; simp
  rw [this]
  simp [hx]
theorem findT_none {zs : List Int} {t : ByteArray} (hb : ∀ b ∈ blocks zs, isText zs t b = false) : findT zs t = none := by
  unfold findT
  rw [List.find?_eq_none]
  intro b h; rw [hb b h]; simp

set_option maxHeartbeats 8000000 in
set_option maxRecDepth 100000 in
theorem l4Find_ok (w : World) (ao : Option Addr) (cap : Nat) (zs : List Int) (t : ByteArray) (hI : Ints w ao zs) (hl : zs.length ≤ 1048576) (hh : heapR zs = true) :
    Calls Tryz.prog 46 #[.agg #[.slice ao zs.length cap], .string t] w fun e w' => e = .returned (findV (findT zs t)) ∧ Kept w w' := by
  have hok := heapR_slab hh
  have hlen : zs.length ≤ 2000 := (slabOk_iff.1 hok).1
  have HH : Hid (heapR zs = true) := hh
  have HO : Hid (slabOk zs = true) := hok
  have b0 := Cells.new w 26 #[.slice ao zs.length cap]
  have k0 : Kept w (w.alloc (.cells #[.slice ao zs.length cap] 26)) := Kept.alloc (Below.refl _ _) _
  clear hh hok
  go_enter Tryz.func46, Tryz.ntmps46
  go_wp2
  go_loopw [6] (fun i wr => ∃ (k : Nat) (pre : List (BkOf zs.length)), i = .int .i64 k ∧ k ≤ zs.length ∧ At zs k ∧ pre ++ blks zs k = blocks zs ∧ (∀ b ∈ pre, isText zs t b = false) ∧ Cells wr w.heap.size 26 #[.slice ao zs.length cap] ∧ Kept w wr) (fun i _ => zs.length - (intOf i).toNat)
  case atStart => exact ⟨0, [], rfl, Nat.zero_le _, At.zero zs, rfl, by simp, b0, k0⟩
  case round =>
    obtain ⟨k, pre, rfl, hk, hat, hpre, hno, hb, hK⟩ := hrel
    clear b0 k0
    have cb := hb.cell 0
    have lb := hb.lt
    by_cases hlt : k < zs.length
    · have hg := hat.good HO.out hlt
      have hle := hg.le
      have hs2 := hg.sz2
      have hsI := hg.szI
      have hkI := kdI zs k
      have hmem : (⟨⟨k, sz zs k, kd zs k⟩, hg.sz2, hg.le, hg.kd5⟩ : BkOf zs.length) ∈ blocks zs := by rw [← hpre, blks_yes hg]; simp
      have HX : Hid (At zs (k + sz zs k)) := hat.next hg
      have HS : Hid ((sz zs k : Int) = hz zs k / 8) := hsI
      have hs8 : 2 ≤ hz zs k / 8 := by omega
      have hs9 : hz zs k / 8 ≤ 2000 := by omega
      have hpx : pre ++ [⟨⟨k, sz zs k, kd zs k⟩, hg.sz2, hg.le, hg.kd5⟩] <+: blocks zs := ⟨blks zs (k + sz zs k), by rw [← hpre, blks_yes hg]; simp⟩
      have hpn : (pre ++ [⟨⟨k, sz zs k, kd zs k⟩, hg.sz2, hg.le, hg.kd5⟩]) ++ blks zs (k + sz zs k) = blocks zs := by rw [← hpre, blks_yes hg]; simp
      obtain ⟨bb, off, e, hc⟩ := (hI.kept hK).at hlt
      have hck := hc k hlt
      have hbl : bb < w.heap.size := by
        have := hI.lt (a := ⟨bb, off, none⟩) (by intro h; rw [h] at hlt; simp at hlt) e
        exact this
      subst e
      have HK : Hid (Kept w wr) := hK
      have hltI : (k : Int) < (zs.length : Int) := by omega
      by_cases h1 : hz zs k % 8 = 1
      · obtain ⟨n, hn, hns, hby⟩ := text_facts HH.out hmem (by show kd zs k = 1; omega)
        simp only at hn hns hby
        have hB := l4Bytes_ok wr (some ⟨bb, off, none⟩) cap zs k (sz zs k) n (hI.kept hK) hl hle hn hns hby
        have hT : textL zs k = bytesL zs (k + 2) n := by unfold textL; rw [hn]; simp
        have e1 : (hz zs k % 8 == 1) = true := by simp [h1]
        by_cases heq : strOfNums (bytesL zs (k + 2) n) = t
        · have HF : Hid (findT zs t = some ⟨⟨k, sz zs k, kd zs k⟩, hg.sz2, hg.le, hg.kd5⟩) := findT_hit hpx hno (by simp [isText, hT, heq]; show kd zs k = 1; omega)
          have e2 : ((strOfNums (bytesL zs (k + 2) n)).toList == t.toList) = true := by rw [same_bytes]; simp [heq]
          clear hc hno hpre hpx hpn hat hmem hkI h1 hn hT heq hK hI hsI
          go_wp2_with (first | (go_at_call 96; refine (l2Kind_ok _ _).mono ?_; rintro e wx ⟨rfl, rfl⟩) | (go_at_call 52; refine hB.mono ?_; rintro e w1 ⟨rfl, hk1⟩) | (go_at_call 88; refine (spec_RefOf_ok _ _ _).mono ?_; rintro e wx ⟨rfl, rfl⟩))
          go_ret2
          refine ⟨?_, HK.out.trans hk1⟩
          rw [HF.out, vRef_yes (by omega)]
          rfl
        · have e2 : ((strOfNums (bytesL zs (k + 2) n)).toList == t.toList) = false := by rw [same_bytes]; simp [heq]
          have HN : Hid (∀ b ∈ pre ++ [(⟨⟨k, sz zs k, kd zs k⟩, hg.sz2, hg.le, hg.kd5⟩ : BkOf zs.length)], isText zs t b = false) := by
            intro b hb'
            rcases List.mem_append.1 hb' with hb' | hb'
            · exact hno b hb'
            · simp at hb'; subst hb'; simp [isText, hT, heq]
          have HP : Hid _ := hpn
          clear hc hno hpre hpx hpn hat hmem hkI h1 hn hT heq hK hI hsI
          go_wp2_with (first | (go_at_call 96; refine (l2Kind_ok _ _).mono ?_; rintro e wx ⟨rfl, rfl⟩) | (go_at_call 52; refine hB.mono ?_; rintro e w1 ⟨rfl, hk1⟩; have hb1 := hb.kept hk1; have cb1 := hb1.cell 0; have ck1 := (hk1.cell (p := ⟨bb, off + k, none⟩) (World.block_lt_of_cell? _ _ hck)).trans hck) | (go_at_call 95; refine (l2Size_ok _ _).mono ?_; rintro e wx ⟨rfl, rfl⟩))
          go_roundw
          case rel => exact ⟨k + sz zs k, _, by rw [← HS.out]; go_num, hle, HX.out, HP.out, HN.out, hb1, HK.out.trans hk1⟩
          case measure => simp [intOf]; have := HS.out; omega
      · have e1 : (hz zs k % 8 == 1) = false := by simpa using h1
        have HN : Hid (∀ b ∈ pre ++ [(⟨⟨k, sz zs k, kd zs k⟩, hg.sz2, hg.le, hg.kd5⟩ : BkOf zs.length)], isText zs t b = false) := by
          intro b hb'
          rcases List.mem_append.1 hb' with hb' | hb'
          · exact hno b hb'
          · simp at hb'; subst hb'; simp [isText]; intro h; omega
        have HP : Hid _ := hpn
        clear hc hno hpre hpx hpn hat hmem hkI h1 hK hI hsI
        go_wp2_with (first | (go_at_call 96; refine (l2Kind_ok _ _).mono ?_; rintro e wx ⟨rfl, rfl⟩) | (go_at_call 95; refine (l2Size_ok _ _).mono ?_; rintro e wx ⟨rfl, rfl⟩))
        go_roundw
        case rel => exact ⟨k + sz zs k, _, by rw [← HS.out]; go_num, hle, HX.out, HP.out, HN.out, hb, HK.out⟩
        case measure => simp [intOf]; have := HS.out; omega
    · obtain rfl : k = zs.length := by omega
      have HF : Hid (findT zs t = none) := findT_none (fun b hb' => hno b (by rw [← hpre, blks_no (fun h => hlt h.lt)] at hb'; simpa using hb'))
      have HK : Hid (Kept w wr) := hK
      clear hpre hno hat hK hI
      go_wp2
      go_ret2
      exact ⟨by rw [HF.out]; rfl, HK.out⟩
end Go.Proofs.YtpbafjcoomfooaaGreat
namespace Go.Proofs.YtpbafjcoomfooaaGreat
open Go.RowKit

set_option maxHeartbeats 4000000 in
set_option maxRecDepth 100000 in
theorem spec_TextFind_ok (w : World) (ao : Option Addr) (cap : Nat) (zs : List Int) (t : ByteArray) (hI : Ints w ao zs) (hl : zs.length ≤ 1048576) :
    Calls Tryz.prog 14 #[.agg #[.slice ao zs.length cap], .string t] w fun e w' => e = .returned (textFindV zs t) ∧ Kept w w' := by
  have b0 := Cells.new w 26 #[.slice ao zs.length cap]
  have k0 : Kept w (w.alloc (.cells #[.slice ao zs.length cap] 26)) := Kept.alloc (Below.refl _ _) _
  have hH := spec_HeapOk_ok _ ao cap zs (hI.kept k0) hl
  cases hh : heapR zs with
  | false =>
    have HR : Hid (textFindV zs t = .tuple #[.int .i64 0, .bool false]) := by simp [Hid, textFindV, hh]
    rw [hh] at hH
    clear hh hI
    go_enter Tryz.func14, Tryz.ntmps14
    go_wp2_with (go_at_call 39; refine hH.mono ?_; rintro e w1 ⟨rfl, hk1⟩)
    go_ret2
    exact ⟨by rw [HR.out]; rfl, k0.trans hk1⟩
  | true =>
    have HR : Hid (textFindV zs t = findV (findT zs t)) := by simp [Hid, textFindV, hh]
    rw [hh] at hH
    have hF := fun (u : World) (hu : Kept w u) => l4Find_ok u ao cap zs t (hI.kept hu) hl hh
    have HC : Hid (∀ u, Kept w u → Calls Tryz.prog 46 #[.agg #[.slice ao zs.length cap], .string t] u fun e w' => ∃ x y, findV (findT zs t) = .tuple #[.int .i64 x, .bool y] ∧ e = .returned (.tuple #[.int .i64 x, .bool y]) ∧ Kept u w') := fun u hu => (hF u hu).mono (fun e w' h => by
      cases hf : findT zs t with
      | none => exact ⟨_, _, rfl, by rw [h.1, hf]; rfl, h.2⟩
      | some b => exact ⟨_, _, rfl, by rw [h.1, hf]; rfl, h.2⟩)
    clear hh hI hF
    go_enter Tryz.func14, Tryz.ntmps14
    go_wp2_with (first | (go_at_call 39; refine hH.mono ?_; rintro e w1 ⟨rfl, hk1⟩; have hk2 := k0.trans hk1; have hb1 := b0.kept hk1; have cb1 := hb1.cell 0) | (go_at_call 46; refine (HC.out _ hk2).mono ?_; rintro e w2 ⟨x, y, exy, rfl, hk3⟩))
    go_ret2
    exact ⟨by rw [HR.out, exy]; rfl, hk2.trans hk3⟩
end Go.Proofs.YtpbafjcoomfooaaGreat
namespace Go.Proofs.YtpbafjcoomfooaaGreat
open Go.RowKit

/-- The text's count and its first j bytes, laid. -/
def fillL (ys : List Int) (a : Nat) (t : ByteArray) (j : Nat) : List Int := (List.range j).foldl (fun l i => l.set (a + 2 + i) (byteN t i)) (ys.set (a + 1) (t.size : Int))
theorem fillL_succ (ys : List Int) (a : Nat) (t : ByteArray) (j : Nat) : fillL ys a t (j + 1) = (fillL ys a t j).set (a + 2 + j) (byteN t j) := by
  simp [fillL, List.range_succ, List.foldl_append]
theorem fillL_len (ys : List Int) (a : Nat) (t : ByteArray) (j : Nat) : (fillL ys a t j).length = ys.length := by
  induction j with
  | zero => simp [fillL]
  | succ j ih => rw [fillL_succ, List.length_set, ih]
/-- What l4Put comes to. -/
def putC (zs : List Int) (t : ByteArray) : List Int × Int × Bool := match findT zs t with
  | some b => (zs, 8 * ((b.1.at' : Nat) : Int) + 4, true)
  | none => if 30 < t.size then (zs, 0, false) else match ffB zs (t.size + 2) with
    | none => (zs, 0, false)
    | some b => (fillL (takeL zs b.1 1 (t.size + 2)) b.1.at' t t.size, 8 * ((b.1.at' : Nat) : Int) + 4, true)

set_option maxHeartbeats 4000000 in
set_option maxRecDepth 100000 in
theorem l4Put_ok (w : World) (g cap : Nat) (zs : List Int) (t : ByteArray) (hR : Row w g zs) (hl : zs.length ≤ 1048576) (hh : heapR zs = true) :
    Calls Tryz.prog 40 #[.agg #[.slice (some ⟨g, 0, none⟩) zs.length cap], .string t] w fun e w' =>
      e = .returned (.tuple #[.agg #[.slice (some ⟨g, 0, none⟩) zs.length cap], .int .i64 (putC zs t).2.1, .bool (putC zs t).2.2]) ∧ Row w' g (putC zs t).1 ∧ GS g w w' := by
  have hok := heapR_slab hh
  have hlen := (slabOk_iff.1 hok).1
  have b0 := (Cells.new w 26 #[.slice (some ⟨g, 0, none⟩) zs.length cap]).alloc (.cells #[.slice none 0 0] 26)
  have b1 := Cells.new (w.alloc (.cells #[.slice (some ⟨g, 0, none⟩) zs.length cap] 26)) 26 #[.slice none 0 0]
  have k0 : Kept w ((w.alloc (.cells #[.slice (some ⟨g, 0, none⟩) zs.length cap] 26)).alloc (.cells #[.slice none 0 0] 26)) := (Kept.alloc (Below.refl _ _) _).alloc _
  have hR0 := hR.kept k0
  have lg := hR.lt
  simp only [World.size_alloc] at b1
  have hF := l4Find_ok _ (some ⟨g, 0, none⟩) cap zs t hR0.ints hl hh
  cases hf : findT zs t with
  | some b =>
    have HP : Hid (putC zs t = (zs, 8 * ((b.1.at' : Nat) : Int) + 4, true)) := by simp [Hid, putC, hf]
    rw [hf] at hF
    obtain ⟨m, hm⟩ : ∃ m : Int, 8 * ((b.1.at' : Nat) : Int) + 4 = m := ⟨_, rfl⟩
    simp only [findV, hm] at hF
    rw [hm] at HP
    clear hf hm hh hok
    go_enter Tryz.func40, Tryz.ntmps40
    go_wp2_with fail
    refine hF.mono ?_
    rintro e w1 ⟨rfl, hk1⟩
    have x0 := b0.kept hk1
    have x1 := b1.kept hk1
    have c0 := x0.cell 0
    have c1 := x1.cell 0
    have f1 := x1.frozen 0
    go_wp2
    have q := (x1.set1 (.slice (some ⟨g, 0, none⟩) zs.length cap)).cell 0
    refine bodyPost_ret (v := .tuple #[.agg #[.slice (some ⟨g, 0, none⟩) zs.length cap], .int .i64 m, .bool true]) (by simp [results, Tryz.results40, go_sem, q]) rfl ?_
    rw [HP.out]
    exact ⟨rfl, (hR0.kept hk1).other (by intro h; simp at h; omega) _, GS.setNew (GS.any (k0.trans hk1) g) (by simp) _⟩
  | none =>
    rw [hf] at hF
    simp only [findV] at hF
    by_cases hbig : 30 < t.size
    · have HP : Hid (putC zs t = (zs, 0, false)) := by simp [Hid, putC, hf, hbig]
      have hb' : (30 : Int) < (t.size : Int) := by omega
      clear hf hh hok
      go_enter Tryz.func40, Tryz.ntmps40
      go_wp2_with fail
      refine hF.mono ?_
      rintro e w1 ⟨rfl, hk1⟩
      have x0 := b0.kept hk1
      have x1 := b1.kept hk1
      have c0 := x0.cell 0
      have c1 := x1.cell 0
      have f1 := x1.frozen 0
      go_wp2
      have q := (x1.set1 (.slice (some ⟨g, 0, none⟩) zs.length cap)).cell 0
      refine bodyPost_ret (v := .tuple #[.agg #[.slice (some ⟨g, 0, none⟩) zs.length cap], .int .i64 0, .bool false]) (by simp [results, Tryz.results40, go_sem, q]) rfl ?_
      rw [HP.out]
      exact ⟨rfl, (hR0.kept hk1).other (by intro h; simp at h; omega) _, GS.setNew (GS.any (k0.trans hk1) g) (by simp) _⟩
    · have hb' : ¬ (30 : Int) < (t.size : Int) := by omega
      have hT := fun (u : World) (hu : Row u g zs) => l2Take_ok u g cap zs 1 (t.size + 2) hu hl hok (by omega) (by omega) (by omega) (by omega)
      have en : ((t.size + 2 : Nat) : Int) = (t.size : Int) + 2 := by omega
      rw [en] at hT
      cases hff : ffB zs (t.size + 2) with
      | none =>
        have HP : Hid (putC zs t = (zs, 0, false)) := by simp [Hid, putC, hf, hbig, hff]
        have HT : Hid (∀ u, Row u g zs → Calls Tryz.prog 87 #[.agg #[.slice (some ⟨g, 0, none⟩) zs.length cap], .int .i64 1, .int .i64 ((t.size : Int) + 2)] u fun e w' => e = .returned (.tuple #[.agg #[.slice (some ⟨g, 0, none⟩) zs.length cap], .int .i64 0, .bool false]) ∧ Row w' g zs ∧ GS g u w') := fun u hu => (hT u hu).mono (fun e w' h => ⟨(h.2.1 hff).1, (h.2.1 hff).2, h.2.2⟩)
        clear hf hh hok hff hT en hbig
        go_enter Tryz.func40, Tryz.ntmps40
        go_wp2_with fail
        refine hF.mono ?_
        rintro e w1 ⟨rfl, hk1⟩
        have x0 := b0.kept hk1
        have x1 := b1.kept hk1
        have c0 := x0.cell 0
        have c1 := x1.cell 0
        have f1 := x1.frozen 0
        go_wp2_with fail
        refine (HT.out _ (hR0.kept hk1)).mono ?_
        rintro e w2 ⟨rfl, hr2, hg2⟩
        have y0 := x0.grown hg2.1 (by intro e; simp at e; omega)
        have y1 := x1.grown hg2.1 (by intro e; simp at e; omega)
        have d0 := (y0.alloc (.cells #[.slice (some ⟨g, 0, none⟩) zs.length cap] 26)).cell 0
        have z1 := y1.alloc (.cells #[.slice (some ⟨g, 0, none⟩) zs.length cap] 26)
        have d1 := z1.cell 0
        have e1 := z1.frozen 0
        go_wp2
        have q := (z1.set1 (.slice (some ⟨g, 0, none⟩) zs.length cap)).cell 0
        refine bodyPost_ret (v := .tuple #[.agg #[.slice (some ⟨g, 0, none⟩) zs.length cap], .int .i64 0, .bool false]) (by simp [results, Tryz.results40, go_sem, q]) rfl ?_
        rw [HP.out]
        exact ⟨rfl, (hr2.kept (Kept.alloc (Below.refl _ _) _)).other (by intro h; simp at h; omega) _, GS.setNew (GS.trans (GS.trans (GS.any (k0.trans hk1) g) hg2) (GS.any (Kept.alloc (Below.refl _ _) _) g)) (by simp) _⟩
      | some b =>
        have hfr : freeP ((t.size + 2 : Nat) : Int) b = true := List.find?_some hff
        have hble := b.2.2.1
        have hbs : t.size + 2 ≤ b.1.size := by simp [freeP] at hfr; omega
        obtain ⟨a, ha⟩ : ∃ a : Nat, b.1.at' = a := ⟨_, rfl⟩
        obtain ⟨ys, hys⟩ : ∃ ys, takeL zs b.1 1 (t.size + 2) = ys := ⟨_, rfl⟩
        have hyl : ys.length = zs.length := by rw [← hys]; unfold takeL; split <;> simp [layL_len]
        have HP : Hid (putC zs t = (fillL ys a t t.size, 8 * (a : Int) + 4, true)) := by simp [Hid, putC, hf, hbig, hff, hys, ha]
        have HT : Hid (∀ u, Row u g zs → Calls Tryz.prog 87 #[.agg #[.slice (some ⟨g, 0, none⟩) zs.length cap], .int .i64 1, .int .i64 ((t.size : Int) + 2)] u fun e w' => e = .returned (.tuple #[.agg #[.slice (some ⟨g, 0, none⟩) zs.length cap], .int .i64 (a : Int), .bool true]) ∧ Row w' g ys ∧ GS g u w') := fun u hu => (hT u hu).mono (fun e w' h => ⟨by rw [(h.1 b hff).1, ha], by rw [← hys]; exact (h.1 b hff).2, h.2.2⟩)
        have hfit : a + 2 + t.size ≤ zs.length := by omega
        clear hf hh hok hff hT en hbig hfr hble hbs hys
        clear ha
        go_enter Tryz.func40, Tryz.ntmps40
        go_wp2_with fail
        refine hF.mono ?_
        rintro e w1 ⟨rfl, hk1⟩
        have x0 := b0.kept hk1
        have x1 := b1.kept hk1
        have c0 := x0.cell 0
        have c1 := x1.cell 0
        have f1 := x1.frozen 0
        go_wp2_with fail
        refine (HT.out _ (hR0.kept hk1)).mono ?_
        rintro e w2 ⟨rfl, hr2, hg2⟩
        have bO := Cells.new w2 26 #[.slice (some ⟨g, 0, none⟩) zs.length cap]
        have hr3 := hr2.kept (Kept.alloc (Below.refl _ w2) (.cells #[.slice (some ⟨g, 0, none⟩) zs.length cap] 26))
        have cO := bO.cell 0
        have lg2 := hr2.lt
        have l1 := (x1.grown hg2.1 (by intro e; simp at e; omega)).lt
        have cg := hr3.cell (j := a + 1) (by omega)
        have fg := hr3.frozen (a + 1)
        have p1 : (a : Int) + 1 < (zs.length : Int) := by omega
        have t1 : ((a : Int) + 1).toNat = a + 1 := by omega
        have r4 := (hr2.set (k := a + 1) (v := (t.size : Int)) (by omega) ⟨by omega, by omega⟩).kept (Kept.alloc (Below.refl _ (w2.setCell ⟨g, a + 1, none⟩ (.int .i64 (t.size : Int)))) (.cells #[.slice (some ⟨g, 0, none⟩) zs.length cap] 26))
        have y4 := ((x1.grown hg2.1 (by intro e; simp at e; omega)).other (p := ⟨g, a + 1, none⟩) (by intro h; simp at h; omega) (.int .i64 (t.size : Int))).alloc (.cells #[.slice (some ⟨g, 0, none⟩) zs.length cap] 26)
        have o4 := Cells.new (w2.setCell ⟨g, a + 1, none⟩ (.int .i64 (t.size : Int))) 26 #[.slice (some ⟨g, 0, none⟩) zs.length cap]
        rw [show (w2.setCell ⟨g, a + 1, none⟩ (.int .i64 (t.size : Int))).heap.size = w2.heap.size by simp [World.setCell]] at o4
        have g4 : GS g w ((w2.setCell ⟨g, a + 1, none⟩ (.int .i64 (t.size : Int))).alloc (.cells #[.slice (some ⟨g, 0, none⟩) zs.length cap] 26)) := GS.trans (GS.set (k := a + 1) (GS.trans (GS.any (k0.trans hk1) g) hg2) (.int .i64 (t.size : Int))) (GS.any (Kept.alloc (Below.refl _ _) _) g)
        have H4 : Hid (Row _ g _ ∧ Cells _ _ _ _ ∧ Cells _ _ _ _ ∧ GS g w _) := ⟨r4, o4, y4, g4⟩
        have l0 : w.heap.size + 1 < w2.heap.size := l1
        clear r4 o4 y4 g4 hr3 bO hg2 hr2 x0 x1 c0 c1 f1 hk1 HT hF hR0 k0 b0 b1 hR
        go_wp2
        obtain ⟨O, hO⟩ : ∃ O, w2.heap.size = O := ⟨_, rfl⟩
        rw [hO] at H4 ⊢
        go_loopw [12] (fun i wr => ∃ j : Nat, i = .int .i64 j ∧ j ≤ t.size ∧ Row wr g (fillL ys a t j) ∧ Cells wr O 26 #[.slice (some ⟨g, 0, none⟩) zs.length cap] ∧ Cells wr (w.heap.size + 1) 26 #[.slice none 0 0] ∧ GS g w wr) (fun i _ => t.size - (intOf i).toNat)
        case atStart => exact ⟨0, rfl, Nat.zero_le _, H4.out⟩
        case round =>
          obtain ⟨j, rfl, hj, hrj, hoj, hyj, hgj⟩ := hrel
          have cO' := hoj.cell 0
          clear H4 cO cg fg t1 p1
          by_cases hlt : j < t.size
          · have cj := hrj.cell (j := a + 2 + j) (by rw [fillL_len]; omega)
            have fj := hrj.frozen (a + 2 + j)
            have hwr1 : IntKind.i64.wrap ((a : Int) + 2) = (a : Int) + 2 := by rw [IntWalk.i64_left, IntWalk.wrap64_in _ (by omega)]
            have hwr2 : IntKind.i64.wrap ((a : Int) + 2 + (j : Int)) = (a : Int) + 2 + (j : Int) := by rw [IntWalk.i64_left, IntWalk.wrap64_in _ (by omega)]
            have hbb := byteN_in t j
            have hcv : IntKind.i64.wrap ((t[j].toNat : Nat) : Int) = byteN t j := by rw [byteN_get t j hlt, IntWalk.i64_left, IntWalk.wrap64_in _ (by omega)]
            have t2 : ((a : Int) + 2 + (j : Int)).toNat = a + 2 + j := by omega
            have p2 : (a : Int) + 2 + (j : Int) < (zs.length : Int) := by omega
            have q1 : (j : Int) < (t.size : Int) := by omega
            go_wp2_with fail
            refine (wpIn_wide (n := 3)).1 ?_
            refine wpIn_region_last (os := [_, _, _, _, _, _, _, _, _, _, _]) (ol := _) (fun _ => trivial) (by kernel_rfl) (by kernel_rfl) (by kernel_rfl) rfl rfl ?_
            repeat (refine SeqR.read ?_ rfl (by simp) ?_ ?_; rotate_left; (focus (go_simp; first | done | exact rfl)); simp only [Act.put, List.setIfInBounds_toArray, List.set_cons_zero, List.set_cons_succ])
            refine SeqR.nil ?_
            refine ⟨fun _ _ => trivial, ?_⟩
            go_simp
            have HR : Hid _ := (hrj.kept (Below.refl _ wr).drew).set (k := a + 2 + j) (v := byteN t j) (by rw [fillL_len]; omega) ⟨by omega, by omega⟩
            have HO : Hid _ := (hoj.kept (Below.refl _ wr).drew).other (p := ⟨g, a + 2 + j, none⟩) (by intro h; simp at h; omega) (.int .i64 (byteN t j))
            have HY : Hid _ := (hyj.kept (Below.refl _ wr).drew).other (p := ⟨g, a + 2 + j, none⟩) (by intro h; simp at h; omega) (.int .i64 (byteN t j))
            have HG : Hid _ := GS.set (k := a + 2 + j) (GS.trans hgj (GS.any (Below.refl _ wr).drew g)) (.int .i64 (byteN t j))
            clear hrj hoj hyj hgj cj fj cO'
            go_wp2
            go_roundw
            case rel => exact ⟨j + 1, by go_num, by omega, by rw [fillL_succ]; exact HR.out, HO.out, HY.out, HG.out⟩
            case measure => simp [intOf]; omega
          · obtain rfl : t.size = j := by omega
            have c1 := hyj.cell 0
            have f1 := hyj.frozen 0
            go_wp2_with fail
            go_region_with (go_at_call 88; refine (spec_RefOf_ok _ _ _).mono ?_; rintro e wx ⟨rfl, rfl⟩)
            all_goals go_wp2_with fail
            all_goals (
              have q := ((hyj.set1 (.slice (some ⟨g, 0, none⟩) zs.length cap)).kept (Below.refl _ _).drew).cell 0
              refine bodyPost_ret (v := .tuple #[.agg #[.slice (some ⟨g, 0, none⟩) zs.length cap], .int .i64 (vRef 4 (a : Int)), .bool true]) (by simp [results, Tryz.results40, go_sem, q]) rfl ?_
              rw [HP.out, vRef_yes (by omega)]
              exact ⟨rfl, (hrj.other (p := ⟨w.heap.size + 1, 0, none⟩) (by intro h; simp at h; omega) _).kept (Below.refl _ _).drew, GS.trans (GS.setNew hgj (by simp) _) (GS.any (Below.refl _ _).drew g)⟩)
end Go.Proofs.YtpbafjcoomfooaaGreat
namespace Go.Proofs.YtpbafjcoomfooaaGreat
open Go.RowKit

theorem putC_len (zs : List Int) (t : ByteArray) : (putC zs t).1.length = zs.length := by
  unfold putC
  split
  · rfl
  · split
    · rfl
    · split
      · rfl
      · rw [fillL_len]; unfold takeL; split <;> simp [layL_len]

set_option maxHeartbeats 4000000 in
set_option maxRecDepth 100000 in
theorem spec_TextPut_bad (w : World) (ao : Option Addr) (cap : Nat) (zs : List Int) (t : ByteArray) (hI : Ints w ao zs) (hl : zs.length ≤ 1048576) (hh : heapR zs = false) :
    Calls Tryz.prog 9 #[.agg #[.slice ao zs.length cap], .string t] w fun e w' => e = .returned (.tuple #[.agg #[.slice none 0 0], .int .i64 0, .bool false]) ∧ Kept w w' := by
  have b1 := Cells.new (w.alloc (.cells #[.slice ao zs.length cap] 26)) 26 #[.slice none 0 0]
  have k0 : Kept w ((w.alloc (.cells #[.slice ao zs.length cap] 26)).alloc (.cells #[.slice none 0 0] 26)) := (Kept.alloc (Below.refl _ _) _).alloc _
  simp only [World.size_alloc] at b1
  have hS := spec_HeapOk_ok _ ao cap zs (hI.kept k0) hl
  rw [hh] at hS
  clear hh
  go_enter Tryz.func9, Tryz.ntmps9
  go_wp2_with (go_at_call 39; refine hS.mono ?_; rintro e w1 ⟨rfl, hk1⟩; have d1 := (b1.kept hk1).cell 0; have f1 := (b1.kept hk1).frozen 0)
  have q := ((b1.kept hk1).set1 (.slice none 0 0)).cell 0
  refine bodyPost_ret (v := .tuple #[.agg #[.slice none 0 0], .int .i64 0, .bool false]) (by simp [results, Tryz.results9, go_sem, q]) rfl ⟨rfl, (k0.trans hk1).set (by simp) _⟩
set_option maxHeartbeats 4000000 in
set_option maxRecDepth 100000 in
theorem spec_TextPut_do (w : World) (ao : Option Addr) (cap : Nat) (zs : List Int) (t : ByteArray) (hI : Ints w ao zs) (hl : zs.length ≤ 1048576) (hh : heapR zs = true) :
    Calls Tryz.prog 9 #[.agg #[.slice ao zs.length cap], .string t] w fun e w' => ∃ v, e = .returned (.tuple #[.agg #[v], .int .i64 (putC zs t).2.1, .bool (putC zs t).2.2]) ∧ OwnR w' w.heap.size v (putC zs t).1 ∧ Kept w w' ∧ FullV w' v := by
  have b0 := (Cells.new w 26 #[.slice ao zs.length cap]).alloc (.cells #[.slice none 0 0] 26)
  have b1 := Cells.new (w.alloc (.cells #[.slice ao zs.length cap] 26)) 26 #[.slice none 0 0]
  have k0 : Kept w ((w.alloc (.cells #[.slice ao zs.length cap] 26)).alloc (.cells #[.slice none 0 0] 26)) := (Kept.alloc (Below.refl _ _) _).alloc _
  simp only [World.size_alloc] at b1
  have hS := spec_HeapOk_ok _ ao cap zs (hI.kept k0) hl
  rw [hh] at hS
  have hrl := putC_len zs t
  have hT := fun (u : World) (g c : Nat) (hR : Row u g zs) => l4Put_ok u g c zs t hR hl hh
  obtain ⟨rs, hrs⟩ : ∃ rs, (putC zs t).1 = rs := ⟨_, rfl⟩
  obtain ⟨x, hx⟩ : ∃ x, (putC zs t).2.1 = x := ⟨_, rfl⟩
  obtain ⟨y, hy⟩ : ∃ y, (putC zs t).2.2 = y := ⟨_, rfl⟩
  rw [hrs, hx, hy] at hT ⊢
  rw [hrs] at hrl
  clear hh hrs hx hy
  go_enter Tryz.func9, Tryz.ntmps9
  go_wp2_with (first | (go_at_call 39; refine hS.mono ?_; rintro e w1 ⟨rfl, hk1⟩; have d0 := (b0.kept hk1).cell 0) | (go_at_call 41; refine (l2Copy_ok _ ao cap zs ((hI.kept k0).kept hk1) hl).mono ?_; rintro e w2 ⟨g2, c2, rfl, hg2, hc2, hR2, hk2, sz2⟩) | (go_at_call 40; refine (hT _ g2 c2 hR2).mono ?_; rintro e w3 ⟨rfl, hR3, hG3⟩; have hs1 := hk1.size; simp only [World.size_alloc] at hs1; have x1 := ((b1.kept hk1).kept hk2).grown hG3.1 (by intro e; simp at e; omega); have d1 := x1.cell 0; have f1 := x1.frozen 0; have l1 := x1.lt))
  have k3 := ((k0.trans hk1).trans hk2).grownRow hG3.1 (fun k e => by cases e; omega)
  have q := ((x1.set1 (.slice (some ⟨g2, 0, none⟩) zs.length c2)).alloc (.cells #[.slice (some ⟨g2, 0, none⟩) zs.length c2] 26)).cell 0
  refine bodyPost_ret (v := .tuple #[.agg #[.slice (some ⟨g2, 0, none⟩) zs.length c2], .int .i64 x, .bool y]) (by simp [results, Tryz.results9, go_sem, q]) rfl ⟨_, rfl, .inr ⟨g2, c2, by rw [hrl], by omega, by rw [hrl]; exact hc2, (hR3.other (by intro h; simp at h <;> omega) _).kept (Kept.alloc (Below.refl _ _) _)⟩, (k3.set (by simp) _).alloc _, FullV.one (((hG3.2 _ sz2).set _ _ _).kept (Kept.alloc (Below.refl _ _) _))⟩
end Go.Proofs.YtpbafjcoomfooaaGreat
