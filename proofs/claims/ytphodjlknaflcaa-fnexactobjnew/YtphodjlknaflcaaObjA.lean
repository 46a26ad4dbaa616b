/-
  The contracts of chapter 5's models that make an object: l5ProtoOk, l5Zero, l5Is, l5New, ObjNew.
-/
import Derived.Test.YtphodjlknaflcaaTextA
import Derived.Test.YtphodjlknaflcaaSlabM
namespace Go.Proofs.Ytphodjlknaflcaa
open Go.RowKit
attribute [local go_sem] Plain.and7

def protoR (v : Int) : Bool := decide (v = 1) || decide (v % 8 = 5)
/-- What is told where something is not right. -/
def zeroL (zs : List Int) : List Int := if heapR zs then zs else []
theorem zeroL_len (zs : List Int) : (zeroL zs).length = zs.length ∨ (zeroL zs).length = 0 := by unfold zeroL; split <;> simp
def isR (zs rs : List Int) (k : Int) : Bool := decide (hz rs 0 % 8 = k) && rootsR zs rs
def objC (zs : List Int) (p : Int) : List Int × Int × Bool := match ffB zs 3 with
  | none => (zs, 0, false)
  | some b => ((takeL zs b.1 2 3).set (b.1.at' + 1) p, 8 * ((b.1.at' : Nat) : Int) + 5, true)
def objNewC (zs : List Int) (p : Int) : List Int × Int × Bool := if protoR p && rootsR zs [p] then objC zs p else (zeroL zs, 0, false)
theorem takeL_length (zs : List Int) (b : Bk) (k n : Nat) : (takeL zs b k n).length = zs.length := by unfold takeL; split <;> simp [layL_len]
theorem objC_len (zs : List Int) (p : Int) : (objC zs p).1.length = zs.length := by
  unfold objC
  split
  · rfl
  · simp [takeL_length]
theorem rootsR_heap {zs rs : List Int} (h : rootsR zs rs = true) : heapR zs = true := by
  unfold rootsR at h; rw [Bool.and_eq_true] at h; exact h.1

theorem l5ProtoOk_ok (v : Int) (w : World) :
    Calls Try.prog 12 #[.int .i64 v] w fun e w' => e = .returned (.bool (protoR v)) ∧ w = w' := by
  by_cases h1 : v = 1
  · subst h1
    go_enter Try.func12, Try.ntmps12
    go_wp2
    go_ret
    exact ⟨rfl, rfl⟩
  · have h1' : (v == 1) = false := by simp [h1]
    by_cases h5 : v % 8 = 5
    · have HR : Hid (protoR v = true) := by simp [Hid, protoR, h5]
      have h5' : (v % 8 == 5) = true := by simp [h5]
      clear h5
      go_enter Try.func12, Try.ntmps12
      go_wp2_with (go_at_call 26; refine (spec_Kind_ok _ _).mono ?_; rintro e wx ⟨rfl, rfl⟩)
      go_ret
      exact ⟨by rw [HR.out]; rfl, rfl⟩
    · have HR : Hid (protoR v = false) := by simp [Hid, protoR, h1, h5]
      have h5' : (v % 8 == 5) = false := by simp [h5]
      clear h5
      go_enter Try.func12, Try.ntmps12
      go_wp2_with (go_at_call 26; refine (spec_Kind_ok _ _).mono ?_; rintro e wx ⟨rfl, rfl⟩)
      go_ret
      exact ⟨by rw [HR.out]; rfl, rfl⟩
set_option maxHeartbeats 4000000 in
set_option maxRecDepth 100000 in
theorem l5Zero_ok (w : World) (ao : Option Addr) (cap : Nat) (zs : List Int) (hI : Ints w ao zs) (hl : zs.length ≤ 1048576) :
    Calls Try.prog 14 #[.agg #[.slice ao zs.length cap]] w fun e w' => ∃ v, e = .returned (.agg #[v]) ∧ OwnR w' w.heap.size v (zeroL zs) ∧ Kept w w' ∧ FullV w' v := by
  have b0 := (Cells.new w 26 #[.slice ao zs.length cap]).alloc (.cells #[.slice none 0 0] 26)
  have b1 := Cells.new (w.alloc (.cells #[.slice ao zs.length cap] 26)) 26 #[.slice none 0 0]
  have k0 : Kept w ((w.alloc (.cells #[.slice ao zs.length cap] 26)).alloc (.cells #[.slice none 0 0] 26)) := (Kept.alloc (Below.refl _ _) _).alloc _
  simp only [World.size_alloc] at b1
  have hS := spec_HeapOk_ok _ ao cap zs (hI.kept k0) hl
  cases hh : heapR zs with
  | false =>
    have HZ : Hid (zeroL zs = []) := by simp [Hid, zeroL, hh]
    rw [hh] at hS
    clear hh
    go_enter Try.func14, Try.ntmps14
    go_wp2_with (go_at_call 27; refine hS.mono ?_; rintro e w1 ⟨rfl, hk1⟩; have d1 := (b1.kept hk1).cell 0; have f1 := (b1.kept hk1).frozen 0)
    have q := ((b1.kept hk1).set1 (.slice none 0 0)).cell 0
    refine bodyPost_ret (v := .agg #[.slice none 0 0]) (by simp [results, Try.results14, go_sem, q]) rfl ⟨_, rfl, by rw [HZ.out]; exact .inl ⟨rfl, rfl⟩, (k0.trans hk1).set (by simp) _, FullV.nil⟩
  | true =>
    have HZ : Hid (zeroL zs = zs) := by simp [Hid, zeroL, hh]
    rw [hh] at hS
    clear hh
    go_enter Try.func14, Try.ntmps14
    go_wp2_with (first | (go_at_call 27; refine hS.mono ?_; rintro e w1 ⟨rfl, hk1⟩; have d0 := (b0.kept hk1).cell 0) | (go_at_call 16; refine (l2Copy_ok _ ao cap zs ((hI.kept k0).kept hk1) hl).mono ?_; rintro e w2 ⟨g2, c2, rfl, hg2, hc2, hR2, hk2, sz2⟩; have d1 := ((b1.kept hk1).kept hk2).cell 0; have f1 := ((b1.kept hk1).kept hk2).frozen 0))
    have hs1 := hk1.size
    simp only [World.size_alloc] at hs1
    have q := (((b1.kept hk1).kept hk2).set1 (.slice (some ⟨g2, 0, none⟩) zs.length c2)).cell 0
    refine bodyPost_ret (v := .agg #[.slice (some ⟨g2, 0, none⟩) zs.length c2]) (by simp [results, Try.results14, go_sem, q]) rfl ⟨_, rfl, by rw [HZ.out]; exact .inr ⟨g2, c2, rfl, by omega, hc2, hR2.other (by intro h; simp at h <;> omega) _⟩, ((k0.trans hk1).trans hk2).set (by simp) _, FullV.one (sz2.set _ _ _)⟩
set_option maxHeartbeats 4000000 in
set_option maxRecDepth 100000 in
theorem l5New_ok (w : World) (g cap : Nat) (zs : List Int) (p : Int) (hR : Row w g zs) (hl : zs.length ≤ 1048576) (hok : slabOk zs = true) (hp : -9223372036854775808 ≤ p ∧ p ≤ 9223372036854775807) :
    Calls Try.prog 15 #[.agg #[.slice (some ⟨g, 0, none⟩) zs.length cap], .int .i64 p] w fun e w' =>
      e = .returned (.tuple #[.agg #[.slice (some ⟨g, 0, none⟩) zs.length cap], .int .i64 (objC zs p).2.1, .bool (objC zs p).2.2]) ∧ Row w' g (objC zs p).1 ∧ GS g w w' := by
  have hlen := (slabOk_iff.1 hok).1
  have b0 := (Cells.new w 26 #[.slice (some ⟨g, 0, none⟩) zs.length cap]).alloc (.cells #[.slice none 0 0] 26)
  have b1 := Cells.new (w.alloc (.cells #[.slice (some ⟨g, 0, none⟩) zs.length cap] 26)) 26 #[.slice none 0 0]
  have k0 : Kept w ((w.alloc (.cells #[.slice (some ⟨g, 0, none⟩) zs.length cap] 26)).alloc (.cells #[.slice none 0 0] 26)) := (Kept.alloc (Below.refl _ _) _).alloc _
  have hR0 := hR.kept k0
  have lg := hR.lt
  simp only [World.size_alloc] at b1
  have hT := l2Take_ok _ g cap zs 2 3 hR0 hl hok (by omega) (by omega) (by omega) (by omega)
  have c0 := b0.cell 0
  cases hff : ffB zs 3 with
  | none =>
    have HP : Hid (objC zs p = (zs, 0, false)) := by simp [Hid, objC, hff]
    have hT' := hT.mono (R' := fun e w' => e = .returned (.tuple #[.agg #[.slice (some ⟨g, 0, none⟩) zs.length cap], .int .i64 0, .bool false]) ∧ Row w' g zs ∧ GS g _ w') (fun e w' h => ⟨(h.2.1 hff).1, (h.2.1 hff).2, h.2.2⟩)
    clear hff hT hok
    go_enter Try.func15, Try.ntmps15
    go_wp2_with fail
    refine hT'.mono ?_
    rintro e w2 ⟨rfl, hr2, hg2⟩
    have y0 := b0.grown hg2.1 (by intro e; simp at e; omega)
    have y1 := b1.grown hg2.1 (by intro e; simp at e; omega)
    have d0 := (y0.alloc (.cells #[.slice (some ⟨g, 0, none⟩) zs.length cap] 26)).cell 0
    have z1 := y1.alloc (.cells #[.slice (some ⟨g, 0, none⟩) zs.length cap] 26)
    have d1 := z1.cell 0
    have e1 := z1.frozen 0
    clear c0
    go_wp2
    have q := (z1.set1 (.slice (some ⟨g, 0, none⟩) zs.length cap)).cell 0
    refine bodyPost_ret (v := .tuple #[.agg #[.slice (some ⟨g, 0, none⟩) zs.length cap], .int .i64 0, .bool false]) (by simp [results, Try.results15, go_sem, q]) rfl ?_
    rw [HP.out]
    exact ⟨rfl, (hr2.kept (Kept.alloc (Below.refl _ _) _)).other (by intro h; simp at h; omega) _, GS.setNew (GS.trans (GS.trans (GS.any k0 g) hg2) (GS.any (Kept.alloc (Below.refl _ _) _) g)) (by simp) _⟩
  | some b =>
    have hfr : freeP ((3 : Nat) : Int) b = true := List.find?_some hff
    have hble := b.2.2.1
    have hbs : 3 ≤ b.1.size := by simp [freeP] at hfr; omega
    obtain ⟨a, ha⟩ : ∃ a : Nat, b.1.at' = a := ⟨_, rfl⟩
    obtain ⟨ys, hys⟩ : ∃ ys, takeL zs b.1 2 3 = ys := ⟨_, rfl⟩
    have hyl : ys.length = zs.length := by rw [← hys, takeL_length]
    have HP : Hid (objC zs p = (ys.set (a + 1) p, 8 * (a : Int) + 5, true)) := by simp [Hid, objC, hff, hys, ha]
    have hT' := hT.mono (R' := fun e w' => e = .returned (.tuple #[.agg #[.slice (some ⟨g, 0, none⟩) zs.length cap], .int .i64 (a : Int), .bool true]) ∧ Row w' g ys ∧ GS g _ w') (fun e w' h => ⟨by rw [(h.1 b hff).1, ha], by rw [← hys]; exact (h.1 b hff).2, h.2.2⟩)
    have hfit : a + 3 ≤ zs.length := by omega
    clear hff hT hok hfr hble hbs hys
    clear ha
    go_enter Try.func15, Try.ntmps15
    go_wp2_with fail
    refine hT'.mono ?_
    rintro e w2 ⟨rfl, hr2, hg2⟩
    have lg2 := hr2.lt
    have y1 := b1.grown hg2.1 (by intro e; simp at e; omega)
    have l1 := y1.lt
    have kA : ∀ W : World, Kept W (W.alloc (.cells #[.slice (some ⟨g, 0, none⟩) zs.length cap] 26)) := fun W => Kept.alloc (Below.refl _ W) _
    have hr3 := hr2.kept (kA w2)
    have cO0 := (Cells.new w2 26 #[.slice (some ⟨g, 0, none⟩) zs.length cap]).cell 0
    have cg := hr3.cell (j := a + 1) (by omega)
    have fg := hr3.frozen (a + 1)
    have p1 : (a : Int) + 1 < (zs.length : Int) := by omega
    have t1 : ((a : Int) + 1).toNat = a + 1 := by omega
    have o4 := Cells.new (w2.setCell ⟨g, a + 1, none⟩ (.int .i64 p)) 26 #[.slice (some ⟨g, 0, none⟩) zs.length cap]
    rw [show (w2.setCell ⟨g, a + 1, none⟩ (.int .i64 p)).heap.size = w2.heap.size by simp [World.setCell]] at o4
    have r4 := hr2.set (k := a + 1) (v := p) (by omega) hp
    have y4 := y1.other (p := ⟨g, a + 1, none⟩) (by intro h; simp at h; omega) (.int .i64 p)
    have G4 : GS g w (w2.setCell ⟨g, a + 1, none⟩ (.int .i64 p)) := GS.set (k := a + 1) (GS.trans (GS.any k0 g) hg2) (.int .i64 p)
    have cO := o4.cell 0
    have c4 := (y4.alloc (.cells #[.slice (some ⟨g, 0, none⟩) zs.length cap] 26)).cell 0
    have f4 := (y4.alloc (.cells #[.slice (some ⟨g, 0, none⟩) zs.length cap] 26)).frozen 0
    have H4 : Hid _ := And.intro r4 (And.intro y4 G4)
    clear c0 r4 y4 G4 o4
    go_wp2_with fail
    go_region_with (go_at_call 30; refine (spec_RefOf_ok _ _ _).mono ?_; rintro e wx ⟨rfl, rfl⟩)
    all_goals go_wp2_with fail
    all_goals (
      obtain ⟨r4, y4, G4⟩ := H4.out
      have q := (((y4.set1 (.slice (some ⟨g, 0, none⟩) zs.length cap)).kept (kA _)).kept (Below.refl _ _).drew).cell 0
      refine bodyPost_ret (v := .tuple #[.agg #[.slice (some ⟨g, 0, none⟩) zs.length cap], .int .i64 (vRef 5 (a : Int)), .bool true]) (by simp [results, Try.results15, go_sem, q]) rfl ?_
      rw [HP.out, vRef_yes (by omega)]
      exact ⟨rfl, ((r4.other (p := ⟨w.heap.size + 1, 0, none⟩) (by intro h; simp at h; omega) _).kept (kA _)).kept (Below.refl _ _).drew, GS.trans (GS.trans (GS.setNew G4 (by simp) _) (GS.any (kA _) g)) (GS.any (Below.refl _ _).drew g)⟩)
end Go.Proofs.Ytphodjlknaflcaa
