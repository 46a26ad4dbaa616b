/-
  The contracts of chapter 5's models that make an object: l5ProtoOk, l5Zero, l5Is, l5New, ObjNew.
-/
import Derived.Test.YthkhlmbhickdbaaTextA
import Derived.Test.YthkhlmbhickdbaaSlabM
namespace Go.Proofs.Ythkhlmbhickdbaa
open Go.RowKit
attribute [local go_sem] Plain.and7

def protoR (v : Int) : Bool := decide (v = 1) || decide (v % 8 = 5)
/-- What is told where something is not right. -/
def zeroL (zs : List Int) : List Int := if heapR zs then zs else []
theorem zeroL_len (zs : List Int) : (zeroL zs).length = zs.length ∨ (zeroL zs).length = 0 := by unfold zeroL; split <;> simp
def isR (zs rs : List Int) (k : Int) : Bool := decide (hz rs 0 % 8 = k) && rootsR zs rs
def objC (zs : List Int) (p : Int) : List Int × Int × Bool := match ffB zs 3 with
  | none => (zs, 0, false)
  | some b => ((takeL zs b.1 2 3).set (b.1.at' + 1) p, 8 * ((b.1.at' : Nat) : Int) + 5, true)
def objNewC (zs : List Int) (p : Int) : List Int × Int × Bool := if protoR p && rootsR zs [p] then objC zs p else (zeroL zs, 0, false)
theorem takeL_length (zs : List Int) (b : Bk) (k n : Nat) : (takeL zs b k n).length = zs.length := by unfold takeL; split <;> simp [layL_len]
theorem objC_len (zs : List Int) (p : Int) : (objC zs p).1.length = zs.length := by
  unfold objC
  split
  · rfl
  · simp [takeL_length]
theorem rootsR_heap {zs rs : List Int} (h : rootsR zs rs = true) : heapR zs = true := by
  unfold rootsR at h; rw [Bool.and_eq_true] at h; exact h.1

set_option maxHeartbeats 4000000 in
set_option maxRecDepth 100000 in
theorem l5Zero_ok (w : World) (ao : Option Addr) (cap : Nat) (zs : List Int) (hI : Ints w ao zs) (hl : zs.length ≤ 1048576) :
    Calls Try.prog 40 #[.agg #[.slice ao zs.length cap]] w fun e w' => ∃ v, e = .returned (.agg #[v]) ∧ OwnR w' w.heap.size v (zeroL zs) ∧ Kept w w' ∧ FullV w' v := by
  have b0 := (Cells.new w 28 #[.slice ao zs.length cap]).alloc (.cells #[.slice none 0 0] 28)
  have b1 := Cells.new (w.alloc (.cells #[.slice ao zs.length cap] 28)) 28 #[.slice none 0 0]
  have k0 : Kept w ((w.alloc (.cells #[.slice ao zs.length cap] 28)).alloc (.cells #[.slice none 0 0] 28)) := (Kept.alloc (Below.refl _ _) _).alloc _
  simp only [World.size_alloc] at b1
  have hS := spec_HeapOk_ok _ ao cap zs (hI.kept k0) hl
  cases hh : heapR zs with
  | false =>
    have HZ : Hid (zeroL zs = []) := by simp [Hid, zeroL, hh]
    rw [hh] at hS
    clear hh
    go_enter Try.func40, Try.ntmps40
    go_wp2_with (go_at_call 21; refine hS.mono ?_; rintro e w1 ⟨rfl, hk1⟩; have d1 := (b1.kept hk1).cell 0; have f1 := (b1.kept hk1).frozen 0)
    have q := ((b1.kept hk1).set1 (.slice none 0 0)).cell 0
    refine bodyPost_ret (v := .agg #[.slice none 0 0]) (by simp [results, Try.results40, go_sem, q]) rfl ⟨_, rfl, by rw [HZ.out]; exact .inl ⟨rfl, rfl⟩, (k0.trans hk1).set (by simp) _, FullV.nil⟩
  | true =>
    have HZ : Hid (zeroL zs = zs) := by simp [Hid, zeroL, hh]
    rw [hh] at hS
    clear hh
    go_enter Try.func40, Try.ntmps40
    go_wp2_with (first | (go_at_call 21; refine hS.mono ?_; rintro e w1 ⟨rfl, hk1⟩; have d0 := (b0.kept hk1).cell 0) | (go_at_call 29; refine (l2Copy_ok _ ao cap zs ((hI.kept k0).kept hk1) hl).mono ?_; rintro e w2 ⟨g2, c2, rfl, hg2, hc2, hR2, hk2, sz2⟩; have d1 := ((b1.kept hk1).kept hk2).cell 0; have f1 := ((b1.kept hk1).kept hk2).frozen 0))
    have hs1 := hk1.size
    simp only [World.size_alloc] at hs1
    have q := (((b1.kept hk1).kept hk2).set1 (.slice (some ⟨g2, 0, none⟩) zs.length c2)).cell 0
    refine bodyPost_ret (v := .agg #[.slice (some ⟨g2, 0, none⟩) zs.length c2]) (by simp [results, Try.results40, go_sem, q]) rfl ⟨_, rfl, by rw [HZ.out]; exact .inr ⟨g2, c2, rfl, by omega, hc2, hR2.other (by intro h; simp at h <;> omega) _⟩, ((k0.trans hk1).trans hk2).set (by simp) _, FullV.one (sz2.set _ _ _)⟩
set_option maxHeartbeats 4000000 in
set_option maxRecDepth 100000 in
theorem l5Is_ok (w : World) (ao ro : Option Addr) (cap rc : Nat) (zs rs : List Int) (k : Int) (hI : Ints w ao zs) (hl : zs.length ≤ 1048576) (hR : Ints w ro rs) (hrl : rs.length ≤ 1048576) (hr0 : 0 < rs.length) :
    Calls Try.prog 35 #[.agg #[.slice ao zs.length cap], .slice ro rs.length rc, .int .i64 k] w fun e w' => e = .returned (.bool (isR zs rs k)) ∧ Kept w w' := by
  have b0 := Cells.new w 28 #[.slice ao zs.length cap]
  have k0 : Kept w (w.alloc (.cells #[.slice ao zs.length cap] 28)) := Kept.alloc (Below.refl _ _) _
  have hS := spec_RootsOk_ok _ ao ro cap rc zs rs (hI.kept k0) hl (hR.kept k0) hrl
  obtain ⟨bb, off, rfl, hc⟩ := (hR.kept k0).at (k := 0) hr0
  have hc0 := hc 0 hr0
  simp only [Nat.add_zero] at hc0
  have p0 : (0 : Int) < (rs.length : Int) := by omega
  obtain ⟨x, hx⟩ : ∃ x, hz rs 0 = x := ⟨_, rfl⟩
  rw [hx] at hc0
  obtain ⟨r, hr⟩ : ∃ r, rootsR zs rs = r := ⟨_, rfl⟩
  rw [hr] at hS
  have hd0 := b0.cell 0
  by_cases hk : x % 8 = k
  · have HR : Hid (isR zs rs k = r) := by simp [Hid, isR, hx, hk, hr]
    have hk' : (x % 8 == k) = true := by simp [hk]
    clear hk hx hr hc hR hI
    go_enter Try.func35, Try.ntmps35
    go_wp2_with (first | (go_at_call 34; refine (spec_Kind_ok _ _).mono ?_; rintro e wx ⟨rfl, rfl⟩) | (go_at_call 69; refine hS.mono ?_; rintro e w1 ⟨rfl, hk1⟩))
    go_ret
    exact ⟨by rw [HR.out]; rfl, k0.trans hk1⟩
  · have HR : Hid (isR zs rs k = false) := by simp [Hid, isR, hx, hk]
    have hk' : (x % 8 == k) = false := by simp [hk]
    clear hk hx hr hc hR hI
    go_enter Try.func35, Try.ntmps35
    go_wp2_with (go_at_call 34; refine (spec_Kind_ok _ _).mono ?_; rintro e wx ⟨rfl, rfl⟩)
    go_ret
    exact ⟨by rw [HR.out]; rfl, k0⟩
end Go.Proofs.Ythkhlmbhickdbaa
