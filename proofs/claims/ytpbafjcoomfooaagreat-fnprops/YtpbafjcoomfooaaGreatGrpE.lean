/-
  The contracts of chapter 5's models that make an object: l5ProtoOk, l5Zero, l5Is, l5New, ObjNew.
  Facts on lists: to what a value leads; lists of places, each once.
  What a right heap has where a value leads (facts on lists); lists that are written out.
  The contract of chapter 5's model ObjNew.
  The contracts of chapter 5's models that go from cell to cell: l5Round, l5Cell.
  The contracts of chapter 5's models l5Set and PropSet.
  The contract of chapter 5's model PropSet.
  The contracts of chapter 6's models that make a scope or a function: l6New, ScopeNew, l6Fun, FunNew.
  The contracts of chapter 6's models l6At, l6Place and VarSet.
-/
import Derived.Test.YtpbafjcoomfooaaGreatZTextA
import Derived.Test.YtpbafjcoomfooaaGreatGrpQ
import Derived.Test.YtpbafjcoomfooaaGreatGrpC
import Derived.Test.YtpbafjcoomfooaaGreatSeq
namespace Go.Proofs.YtpbafjcoomfooaaGreat
open Go.RowKit
attribute [local go_sem] Plain.and7

def protoR (v : Int) : Bool := decide (v = 1) || decide (v % 8 = 5)
/-- What is told where something is not right. -/
def zeroL (zs : List Int) : List Int := if heapR zs then zs else []
theorem zeroL_len (zs : List Int) : (zeroL zs).length = zs.length ∨ (zeroL zs).length = 0 := by unfold zeroL; split <;> simp
def isR (zs rs : List Int) (k : Int) : Bool := decide (hz rs 0 % 8 = k) && rootsR zs rs
def objC (zs : List Int) (p : Int) : List Int × Int × Bool := match ffB zs 3 with
  | none => (zs, 0, false)
  | some b => ((takeL zs b.1 2 3).set (b.1.at' + 1) p, 8 * ((b.1.at' : Nat) : Int) + 5, true)
def objNewC (zs : List Int) (p : Int) : List Int × Int × Bool := if protoR p && rootsR zs [p] then objC zs p else (zeroL zs, 0, false)
theorem takeL_length (zs : List Int) (b : Bk) (k n : Nat) : (takeL zs b k n).length = zs.length := by unfold takeL; split <;> simp [layL_len]
theorem objC_len (zs : List Int) (p : Int) : (objC zs p).1.length = zs.length := by
  unfold objC
  split
  · rfl
  · simp [takeL_length]
theorem rootsR_heap {zs rs : List Int} (h : rootsR zs rs = true) : heapR zs = true := by
  unfold rootsR at h; rw [Bool.and_eq_true] at h; exact h.1

theorem l5ProtoOk_ok (v : Int) (w : World) :
    Calls Tryz.prog 68 #[.int .i64 v] w fun e w' => e = .returned (.bool (protoR v)) ∧ w = w' := by
  by_cases h1 : v = 1
  · subst h1
    go_enter Tryz.func68, Tryz.ntmps68
    go_wp2
    go_ret
    exact ⟨rfl, rfl⟩
  · have h1' : (v == 1) = false := by simp [h1]
    by_cases h5 : v % 8 = 5
    · have HR : Hid (protoR v = true) := by simp [Hid, protoR, h5]
      have h5' : (v % 8 == 5) = true := by simp [h5]
      clear h5
      go_enter Tryz.func68, Tryz.ntmps68
      go_wp2_with (go_at_call 50; refine (spec_Kind_ok _ _).mono ?_; rintro e wx ⟨rfl, rfl⟩)
      go_ret
      exact ⟨by rw [HR.out]; rfl, rfl⟩
    · have HR : Hid (protoR v = false) := by simp [Hid, protoR, h1, h5]
      have h5' : (v % 8 == 5) = false := by simp [h5]
      clear h5
      go_enter Tryz.func68, Tryz.ntmps68
      go_wp2_with (go_at_call 50; refine (spec_Kind_ok _ _).mono ?_; rintro e wx ⟨rfl, rfl⟩)
      go_ret
      exact ⟨by rw [HR.out]; rfl, rfl⟩
set_option maxHeartbeats 4000000 in
set_option maxRecDepth 100000 in
theorem l5Zero_ok (w : World) (ao : Option Addr) (cap : Nat) (zs : List Int) (hI : Ints w ao zs) (hl : zs.length ≤ 1048576) :
    Calls Tryz.prog 63 #[.agg #[.slice ao zs.length cap]] w fun e w' => ∃ v, e = .returned (.agg #[v]) ∧ OwnR w' w.heap.size v (zeroL zs) ∧ Kept w w' ∧ FullV w' v := by
  have b0 := (Cells.new w 26 #[.slice ao zs.length cap]).alloc (.cells #[.slice none 0 0] 26)
  have b1 := Cells.new (w.alloc (.cells #[.slice ao zs.length cap] 26)) 26 #[.slice none 0 0]
  have k0 : Kept w ((w.alloc (.cells #[.slice ao zs.length cap] 26)).alloc (.cells #[.slice none 0 0] 26)) := (Kept.alloc (Below.refl _ _) _).alloc _
  simp only [World.size_alloc] at b1
  have hS := spec_HeapOk_ok _ ao cap zs (hI.kept k0) hl
  cases hh : heapR zs with
  | false =>
    have HZ : Hid (zeroL zs = []) := by simp [Hid, zeroL, hh]
    rw [hh] at hS
    clear hh
    go_enter Tryz.func63, Tryz.ntmps63
    go_wp2_with (go_at_call 39; refine hS.mono ?_; rintro e w1 ⟨rfl, hk1⟩; have d1 := (b1.kept hk1).cell 0; have f1 := (b1.kept hk1).frozen 0)
    have q := ((b1.kept hk1).set1 (.slice none 0 0)).cell 0
    refine bodyPost_ret (v := .agg #[.slice none 0 0]) (by simp [results, Tryz.results63, go_sem, q]) rfl ⟨_, rfl, by rw [HZ.out]; exact .inl ⟨rfl, rfl⟩, (k0.trans hk1).set (by simp) _, FullV.nil⟩
  | true =>
    have HZ : Hid (zeroL zs = zs) := by simp [Hid, zeroL, hh]
    rw [hh] at hS
    clear hh
    go_enter Tryz.func63, Tryz.ntmps63
    go_wp2_with (first | (go_at_call 39; refine hS.mono ?_; rintro e w1 ⟨rfl, hk1⟩; have d0 := (b0.kept hk1).cell 0) | (go_at_call 41; refine (l2Copy_ok _ ao cap zs ((hI.kept k0).kept hk1) hl).mono ?_; rintro e w2 ⟨g2, c2, rfl, hg2, hc2, hR2, hk2, sz2⟩; have d1 := ((b1.kept hk1).kept hk2).cell 0; have f1 := ((b1.kept hk1).kept hk2).frozen 0))
    have hs1 := hk1.size
    simp only [World.size_alloc] at hs1
    have q := (((b1.kept hk1).kept hk2).set1 (.slice (some ⟨g2, 0, none⟩) zs.length c2)).cell 0
    refine bodyPost_ret (v := .agg #[.slice (some ⟨g2, 0, none⟩) zs.length c2]) (by simp [results, Tryz.results63, go_sem, q]) rfl ⟨_, rfl, by rw [HZ.out]; exact .inr ⟨g2, c2, rfl, by omega, hc2, hR2.other (by intro h; simp at h <;> omega) _⟩, ((k0.trans hk1).trans hk2).set (by simp) _, FullV.one (sz2.set _ _ _)⟩
set_option maxHeartbeats 4000000 in
set_option maxRecDepth 100000 in
theorem l5Is_ok (w : World) (ao ro : Option Addr) (cap rc : Nat) (zs rs : List Int) (k : Int) (hI : Ints w ao zs) (hl : zs.length ≤ 1048576) (hR : Ints w ro rs) (hrl : rs.length ≤ 1048576) (hr0 : 0 < rs.length) :
    Calls Tryz.prog 61 #[.agg #[.slice ao zs.length cap], .slice ro rs.length rc, .int .i64 k] w fun e w' => e = .returned (.bool (isR zs rs k)) ∧ Kept w w' := by
  have b0 := Cells.new w 26 #[.slice ao zs.length cap]
  have k0 : Kept w (w.alloc (.cells #[.slice ao zs.length cap] 26)) := Kept.alloc (Below.refl _ _) _
  have hS := spec_RootsOk_ok _ ao ro cap rc zs rs (hI.kept k0) hl (hR.kept k0) hrl
  obtain ⟨bb, off, rfl, hc⟩ := (hR.kept k0).at (k := 0) hr0
  have hc0 := hc 0 hr0
  simp only [Nat.add_zero] at hc0
  have p0 : (0 : Int) < (rs.length : Int) := by omega
  obtain ⟨x, hx⟩ : ∃ x, hz rs 0 = x := ⟨_, rfl⟩
  rw [hx] at hc0
  obtain ⟨r, hr⟩ : ∃ r, rootsR zs rs = r := ⟨_, rfl⟩
  rw [hr] at hS
  have hd0 := b0.cell 0
  by_cases hk : x % 8 = k
  · have HR : Hid (isR zs rs k = r) := by simp [Hid, isR, hx, hk, hr]
    have hk' : (x % 8 == k) = true := by simp [hk]
    clear hk hx hr hc hR hI
    go_enter Tryz.func61, Tryz.ntmps61
    go_wp2_with (first | (go_at_call 50; refine (spec_Kind_ok _ _).mono ?_; rintro e wx ⟨rfl, rfl⟩) | (go_at_call 71; refine hS.mono ?_; rintro e w1 ⟨rfl, hk1⟩))
    go_ret
    exact ⟨by rw [HR.out]; rfl, k0.trans hk1⟩
  · have HR : Hid (isR zs rs k = false) := by simp [Hid, isR, hx, hk]
    have hk' : (x % 8 == k) = false := by simp [hk]
    clear hk hx hr hc hR hI
    go_enter Tryz.func61, Tryz.ntmps61
    go_wp2_with (go_at_call 50; refine (spec_Kind_ok _ _).mono ?_; rintro e wx ⟨rfl, rfl⟩)
    go_ret
    exact ⟨by rw [HR.out]; rfl, k0⟩
set_option maxHeartbeats 4000000 in
set_option maxRecDepth 100000 in
theorem l5New_ok (w : World) (g cap : Nat) (zs : List Int) (p : Int) (hR : Row w g zs) (hl : zs.length ≤ 1048576) (hok : slabOk zs = true) (hp : -9223372036854775808 ≤ p ∧ p ≤ 9223372036854775807) :
    Calls Tryz.prog 72 #[.agg #[.slice (some ⟨g, 0, none⟩) zs.length cap], .int .i64 p] w fun e w' =>
      e = .returned (.tuple #[.agg #[.slice (some ⟨g, 0, none⟩) zs.length cap], .int .i64 (objC zs p).2.1, .bool (objC zs p).2.2]) ∧ Row w' g (objC zs p).1 ∧ GS g w w' := by
  have hlen := (slabOk_iff.1 hok).1
  have b0 := (Cells.new w 26 #[.slice (some ⟨g, 0, none⟩) zs.length cap]).alloc (.cells #[.slice none 0 0] 26)
  have b1 := Cells.new (w.alloc (.cells #[.slice (some ⟨g, 0, none⟩) zs.length cap] 26)) 26 #[.slice none 0 0]
  have k0 : Kept w ((w.alloc (.cells #[.slice (some ⟨g, 0, none⟩) zs.length cap] 26)).alloc (.cells #[.slice none 0 0] 26)) := (Kept.alloc (Below.refl _ _) _).alloc _
  have hR0 := hR.kept k0
  have lg := hR.lt
  simp only [World.size_alloc] at b1
  have hT := l2Take_ok _ g cap zs 2 3 hR0 hl hok (by omega) (by omega) (by omega) (by omega)
  have c0 := b0.cell 0
  cases hff : ffB zs 3 with
  | none =>
    have HP : Hid (objC zs p = (zs, 0, false)) := by simp [Hid, objC, hff]
    have hT' := hT.mono (R' := fun e w' => e = .returned (.tuple #[.agg #[.slice (some ⟨g, 0, none⟩) zs.length cap], .int .i64 0, .bool false]) ∧ Row w' g zs ∧ GS g _ w') (fun e w' h => ⟨(h.2.1 hff).1, (h.2.1 hff).2, h.2.2⟩)
    clear hff hT hok
    go_enter Tryz.func72, Tryz.ntmps72
    go_wp2_with fail
    refine hT'.mono ?_
    rintro e w2 ⟨rfl, hr2, hg2⟩
    have y0 := b0.grown hg2.1 (by intro e; simp at e; omega)
    have y1 := b1.grown hg2.1 (by intro e; simp at e; omega)
    have d0 := (y0.alloc (.cells #[.slice (some ⟨g, 0, none⟩) zs.length cap] 26)).cell 0
    have z1 := y1.alloc (.cells #[.slice (some ⟨g, 0, none⟩) zs.length cap] 26)
    have d1 := z1.cell 0
    have e1 := z1.frozen 0
    clear c0
    go_wp2
    have q := (z1.set1 (.slice (some ⟨g, 0, none⟩) zs.length cap)).cell 0
    refine bodyPost_ret (v := .tuple #[.agg #[.slice (some ⟨g, 0, none⟩) zs.length cap], .int .i64 0, .bool false]) (by simp [results, Tryz.results72, go_sem, q]) rfl ?_
    rw [HP.out]
    exact ⟨rfl, (hr2.kept (Kept.alloc (Below.refl _ _) _)).other (by intro h; simp at h; omega) _, GS.setNew (GS.trans (GS.trans (GS.any k0 g) hg2) (GS.any (Kept.alloc (Below.refl _ _) _) g)) (by simp) _⟩
  | some b =>
    have hfr : freeP ((3 : Nat) : Int) b = true := List.find?_some hff
    have hble := b.2.2.1
    have hbs : 3 ≤ b.1.size := by simp [freeP] at hfr; omega
    obtain ⟨a, ha⟩ : ∃ a : Nat, b.1.at' = a := ⟨_, rfl⟩
    obtain ⟨ys, hys⟩ : ∃ ys, takeL zs b.1 2 3 = ys := ⟨_, rfl⟩
    have hyl : ys.length = zs.length := by rw [← hys, takeL_length]
    have HP : Hid (objC zs p = (ys.set (a + 1) p, 8 * (a : Int) + 5, true)) := by simp [Hid, objC, hff, hys, ha]
    have hT' := hT.mono (R' := fun e w' => e = .returned (.tuple #[.agg #[.slice (some ⟨g, 0, none⟩) zs.length cap], .int .i64 (a : Int), .bool true]) ∧ Row w' g ys ∧ GS g _ w') (fun e w' h => ⟨by rw [(h.1 b hff).1, ha], by rw [← hys]; exact (h.1 b hff).2, h.2.2⟩)
    have hfit : a + 3 ≤ zs.length := by omega
    clear hff hT hok hfr hble hbs hys
    clear ha
    go_enter Tryz.func72, Tryz.ntmps72
    go_wp2_with fail
    refine hT'.mono ?_
    rintro e w2 ⟨rfl, hr2, hg2⟩
    have lg2 := hr2.lt
    have y1 := b1.grown hg2.1 (by intro e; simp at e; omega)
    have l1 := y1.lt
    have kA : ∀ W : World, Kept W (W.alloc (.cells #[.slice (some ⟨g, 0, none⟩) zs.length cap] 26)) := fun W => Kept.alloc (Below.refl _ W) _
    have hr3 := hr2.kept (kA w2)
    have cO0 := (Cells.new w2 26 #[.slice (some ⟨g, 0, none⟩) zs.length cap]).cell 0
    have cg := hr3.cell (j := a + 1) (by omega)
    have fg := hr3.frozen (a + 1)
    have p1 : (a : Int) + 1 < (zs.length : Int) := by omega
    have t1 : ((a : Int) + 1).toNat = a + 1 := by omega
    have o4 := Cells.new (w2.setCell ⟨g, a + 1, none⟩ (.int .i64 p)) 26 #[.slice (some ⟨g, 0, none⟩) zs.length cap]
    rw [show (w2.setCell ⟨g, a + 1, none⟩ (.int .i64 p)).heap.size = w2.heap.size by simp [World.setCell]] at o4
    have r4 := hr2.set (k := a + 1) (v := p) (by omega) hp
    have y4 := y1.other (p := ⟨g, a + 1, none⟩) (by intro h; simp at h; omega) (.int .i64 p)
    have G4 : GS g w (w2.setCell ⟨g, a + 1, none⟩ (.int .i64 p)) := GS.set (k := a + 1) (GS.trans (GS.any k0 g) hg2) (.int .i64 p)
    have cO := o4.cell 0
    have c4 := (y4.alloc (.cells #[.slice (some ⟨g, 0, none⟩) zs.length cap] 26)).cell 0
    have f4 := (y4.alloc (.cells #[.slice (some ⟨g, 0, none⟩) zs.length cap] 26)).frozen 0
    have H4 : Hid _ := And.intro r4 (And.intro y4 G4)
    clear c0 r4 y4 G4 o4
    go_wp2_with fail
    go_region_with (go_at_call 88; refine (spec_RefOf_ok _ _ _).mono ?_; rintro e wx ⟨rfl, rfl⟩)
    all_goals go_wp2_with fail
    all_goals (
      obtain ⟨r4, y4, G4⟩ := H4.out
      have q := (((y4.set1 (.slice (some ⟨g, 0, none⟩) zs.length cap)).kept (kA _)).kept (Below.refl _ _).drew).cell 0
      refine bodyPost_ret (v := .tuple #[.agg #[.slice (some ⟨g, 0, none⟩) zs.length cap], .int .i64 (vRef 5 (a : Int)), .bool true]) (by simp [results, Tryz.results72, go_sem, q]) rfl ?_
      rw [HP.out, vRef_yes (by omega)]
      exact ⟨rfl, ((r4.other (p := ⟨w.heap.size + 1, 0, none⟩) (by intro h; simp at h; omega) _).kept (kA _)).kept (Below.refl _ _).drew, GS.trans (GS.trans (GS.setNew G4 (by simp) _) (GS.any (kA _) g)) (GS.any (Below.refl _ _).drew g)⟩)
end Go.Proofs.YtpbafjcoomfooaaGreat
namespace Go.Proofs.YtpbafjcoomfooaaGreat
open Go.RowKit

theorem leads_kind {zs : List Int} {v inner : Int} (h : leadsR zs v inner = true) (h4 : 4 ≤ v % 8) : kindAt zs (v / 8) = wantK (v % 8) inner := by
  unfold leadsR at h
  simp only [Bool.and_eq_true, Bool.or_eq_true, decide_eq_true_eq] at h
  rcases h.2 with h | h
  · omega
  · exact h
theorem nodup_le : ∀ (n : Nat) (ps : List Nat), ps.Nodup → (∀ p ∈ ps, p < n) → ps.length ≤ n
  | 0, ps, _, h => by
    cases ps with
    | nil => simp
    | cons p _ => exact absurd (h p (by simp)) (by omega)
  | n + 1, ps, hd, h => by
    have h1 := nodup_le n (ps.erase n) (hd.erase n) (fun p hp => by
      have := hd.mem_erase_iff.1 hp
      have := h p this.2
      omega)
    have := List.length_erase (a := n) (l := ps)
    split at this <;> omega
end Go.Proofs.YtpbafjcoomfooaaGreat
namespace Go.Proofs.YtpbafjcoomfooaaGreat
open Go.RowKit

theorem kind_block {zs : List Int} {a : Int} {k : Nat} (hh : heapR zs = true) (hk : kindAt zs a = k) :
    ∃ n s : Nat, a = n ∧ n + s ≤ zs.length ∧ 2 ≤ s ∧ hz zs n / 8 = (s : Int) ∧ hz zs n % 8 = (k : Int) ∧ blkR zs n s k = true := by
  unfold kindAt at hk
  cases hb : atB zs a with
  | none => rw [hb] at hk; simp at hk
  | some b =>
    rw [hb] at hk
    obtain ⟨_, e, hg, h1, h2, hm⟩ := atB_some hb
    have hr := heapR_blk hh hm
    have hk' : b.1.kind = k := by simp at hk; omega
    rw [hk'] at hr
    refine ⟨b.1.at', b.1.size, e.symm, b.2.2.1, b.2.1, ?_, ?_, hr⟩
    · rw [h1]; exact hg.szI.symm
    · rw [← kdI, ← h2, hk']
theorem obj_facts {zs : List Int} {v inner : Int} (hh : heapR zs = true) (h5 : v % 8 = 5) (hv : leadsR zs v inner = true) :
    ∃ n s : Nat, v / 8 = n ∧ n + s ≤ zs.length ∧ 3 ≤ s ∧ hz zs n / 8 = (s : Int) ∧ (hz zs (n + 1) = 1 ∨ (hz zs (n + 1) % 8 = 5 ∧ leadsR zs (hz zs (n + 1)) 0 = true)) ∧ nextR zs (hz zs (n + 2)) 3 = true := by
  have hk := leads_kind hv (by omega)
  rw [h5] at hk
  obtain ⟨n, s, e, h1, h2, h3, _, h4⟩ := kind_block (k := 2) hh (by rw [hk]; simp [wantK])
  rw [blk_obj] at h4
  unfold objR at h4
  simp only [Bool.and_eq_true, Bool.or_eq_true, decide_eq_true_eq] at h4
  exact ⟨n, s, e, h1, by omega, h3, h4.1.1.2, h4.1.2⟩
theorem next_facts {zs : List Int} {v : Int} (hh : heapR zs = true) (hv : nextR zs v 3 = true) (h0 : v ≠ 0) :
    ∃ n s : Nat, v / 8 = n ∧ v % 8 = 7 ∧ n + s ≤ zs.length ∧ 4 ≤ s ∧ nextR zs (hz zs (n + 3)) 3 = true := by
  unfold nextR at hv
  simp only [Bool.and_eq_true, Bool.or_eq_true, decide_eq_true_eq, h0, false_or] at hv
  have hk := leads_kind hv.2 (by omega)
  rw [hv.1] at hk
  obtain ⟨n, s, e, h1, h2, _, _, h4⟩ := kind_block (k := 3) hh (by rw [hk]; simp [wantK])
  rw [blk_cell] at h4
  unfold cellR at h4
  simp only [Bool.and_eq_true, decide_eq_true_eq] at h4
  exact ⟨n, s, e, hv.1, h1, by omega, h4.1.2⟩
theorem scope_facts {zs : List Int} {v : Int} (hh : heapR zs = true) (h7 : v % 8 = 7) (hv : leadsR zs v 5 = true) :
    ∃ n s : Nat, v / 8 = n ∧ n + s ≤ zs.length ∧ 2 ≤ s ∧ hz zs n / 8 = (s : Int) ∧ nextR zs (hz zs (n + 1)) 5 = true := by
  have hk := leads_kind hv (by omega)
  rw [h7] at hk
  obtain ⟨n, s, e, h1, h2, h3, _, h4⟩ := kind_block (k := 5) hh (by rw [hk]; simp [wantK])
  rw [blk_scope zs n s h2] at h4
  unfold scopeR at h4
  simp only [Bool.and_eq_true] at h4
  exact ⟨n, s, e, h1, h2, h3, h4.1⟩
theorem next_leads {zs : List Int} {v inner : Int} (hv : nextR zs v inner = true) (h0 : v ≠ 0) : v % 8 = 7 ∧ leadsR zs v inner = true := by
  unfold nextR at hv
  simp only [Bool.and_eq_true, Bool.or_eq_true, decide_eq_true_eq, h0, false_or] at hv
  exact hv
theorem isR_facts {zs rs : List Int} {k : Int} (h : isR zs rs k = true) : heapR zs = true ∧ hz rs 0 % 8 = k ∧ ∀ i, i < rs.length → leadsR zs (hz rs i) 5 = true := by
  unfold isR at h
  rw [Bool.and_eq_true, decide_eq_true_eq] at h
  refine ⟨rootsR_heap h.2, h.1, ?_⟩
  have := h.2
  unfold rootsR at this
  rw [Bool.and_eq_true] at this
  exact allR_iff.1 this.2

theorem lits_ints (w : World) (rs : List Int) (C : Array Value) (hC : C = (rs.map (Value.int .i64)).toArray) (hb : ∀ z ∈ rs, -9223372036854775808 ≤ z ∧ z ≤ 9223372036854775807) : Ints (w.alloc (.cells C 3)) (some ⟨w.heap.size, 0, none⟩) rs := by
  subst hC
  exact (Row.of_cells (Cells.new w 3 _) hb).ints
theorem l5Is_at (w : World) (ao : Option Addr) (cap : Nat) (zs rs : List Int) (n : Nat) (k : Int) (C : Array Value) (hn : rs.length = n) (hC : C = (rs.map (Value.int .i64)).toArray) (hb : ∀ z ∈ rs, -9223372036854775808 ≤ z ∧ z ≤ 9223372036854775807) (h0 : 0 < n) (hn3 : n ≤ 1048576) (hI : Ints w ao zs) (hl : zs.length ≤ 1048576) :
    Calls Tryz.prog 61 #[.agg #[.slice ao zs.length cap], .slice (some ⟨w.heap.size, 0, none⟩) n n, .int .i64 k] (w.alloc (.cells C 3)) fun e w' => e = .returned (.bool (isR zs rs k)) ∧ Kept w w' := by
  subst hn
  have ka : Kept w (w.alloc (.cells C 3)) := Kept.alloc (Below.refl _ _) _
  refine (l5Is_ok _ ao _ cap rs.length zs rs k (hI.kept ka) hl (lits_ints w rs C hC hb) hn3 h0).mono ?_
  rintro e w' ⟨rfl, hk⟩
  exact ⟨rfl, ka.trans hk⟩
theorem RootsOk_at (w : World) (ao : Option Addr) (cap : Nat) (zs rs : List Int) (n : Nat) (C : Array Value) (hn : rs.length = n) (hC : C = (rs.map (Value.int .i64)).toArray) (hb : ∀ z ∈ rs, -9223372036854775808 ≤ z ∧ z ≤ 9223372036854775807) (hn3 : n ≤ 1048576) (hI : Ints w ao zs) (hl : zs.length ≤ 1048576) :
    Calls Tryz.prog 71 #[.agg #[.slice ao zs.length cap], .slice (some ⟨w.heap.size, 0, none⟩) n n] (w.alloc (.cells C 3)) fun e w' => e = .returned (.bool (rootsR zs rs)) ∧ Kept w w' := by
  subst hn
  have ka : Kept w (w.alloc (.cells C 3)) := Kept.alloc (Below.refl _ _) _
  refine (spec_RootsOk_ok _ ao _ cap rs.length zs rs (hI.kept ka) hl (lits_ints w rs C hC hb) hn3).mono ?_
  rintro e w' ⟨rfl, hk⟩
  exact ⟨rfl, ka.trans hk⟩
end Go.Proofs.YtpbafjcoomfooaaGreat
namespace Go.Proofs.YtpbafjcoomfooaaGreat
open Go.RowKit

theorem objNewC_len (zs : List Int) (p : Int) : (objNewC zs p).1.length = zs.length ∨ (objNewC zs p).1.length = 0 := by
  unfold objNewC
  split
  · exact .inl (objC_len zs p)
  · exact zeroL_len zs
set_option maxHeartbeats 8000000 in
set_option maxRecDepth 100000 in
theorem spec_ObjNew_ok (w : World) (ao : Option Addr) (cap : Nat) (zs : List Int) (p : Int) (hI : Ints w ao zs) (hl : zs.length ≤ 1048576) (hp : -9223372036854775808 ≤ p ∧ p ≤ 9223372036854775807) :
    Calls Tryz.prog 33 #[.agg #[.slice ao zs.length cap], .int .i64 p] w fun e w' => ∃ v, e = .returned (.tuple #[.agg #[v], .int .i64 (objNewC zs p).2.1, .bool (objNewC zs p).2.2]) ∧ OwnR w' w.heap.size v (objNewC zs p).1 ∧ Kept w w' ∧ FullV w' v := by
  have b0 := (Cells.new w 26 #[.slice ao zs.length cap]).alloc (.cells #[.slice none 0 0] 26)
  have b1 := Cells.new (w.alloc (.cells #[.slice ao zs.length cap] 26)) 26 #[.slice none 0 0]
  have k0 : Kept w ((w.alloc (.cells #[.slice ao zs.length cap] 26)).alloc (.cells #[.slice none 0 0] 26)) := (Kept.alloc (Below.refl _ _) _).alloc _
  simp only [World.size_alloc] at b1
  have hP := fun (u : World) => l5ProtoOk_ok p u
  have hZ := fun (u : World) (hu : Kept w u) => l5Zero_ok u ao cap zs (hI.kept hu) hl
  have HZ : Hid _ := hZ
  cases hpr : protoR p with
  | false =>
    have HC : Hid (objNewC zs p = (zeroL zs, 0, false)) := by simp [Hid, objNewC, hpr]
    rw [hpr] at hP
    have c0 := b0.cell 0
    clear hpr hZ
    go_enter Tryz.func33, Tryz.ntmps33
    go_wp2_with (first | (go_at_call 68; refine (hP _).mono ?_; rintro e wx ⟨rfl, rfl⟩) | (go_at_call 63; refine (HZ.out _ k0).mono ?_; rintro e w2 ⟨v2, rfl, o2, hk2, fv2⟩; obtain ⟨la2, lc2, rfl, _⟩ := o2.ints; have x1 := b1.kept hk2; have d1 := x1.cell 0; have f1 := x1.frozen 0; have l1 := x1.lt))
    have q := (x1.set1 (.slice la2 (zeroL zs).length lc2)).cell 0
    refine bodyPost_ret (v := .tuple #[.agg #[.slice la2 (zeroL zs).length lc2], .int .i64 0, .bool false]) (by simp [results, Tryz.results33, go_sem, q]) rfl ?_
    rw [HC.out]
    refine ⟨_, rfl, ?_, (k0.trans hk2).set (by simp) _, fv2.set _ _ _⟩
    rcases o2 with ⟨h1, h2⟩ | ⟨g3, c3, h1, h2, h3, h4⟩
    · exact .inl ⟨h1, h2⟩
    · simp only [World.size_alloc] at h2
      exact .inr ⟨g3, c3, h1, by omega, h3, h4.other (by intro h; simp at h <;> omega) _⟩
  | true =>
    rw [hpr] at hP
    have hR := RootsOk_at _ ao cap zs [p] 1 #[.int .i64 p] rfl rfl (by simpa using hp) (by omega) (hI.kept k0) hl
    simp only [World.size_alloc] at hR
    have c0 := (b0.alloc (.cells #[.int .i64 p] 3)).cell 0
    cases hr : rootsR zs [p] with
    | false =>
      have HC : Hid (objNewC zs p = (zeroL zs, 0, false)) := by simp [Hid, objNewC, hpr, hr]
      rw [hr] at hR
      have c0' := b0.cell 0
      clear hpr hZ hr
      go_enter Tryz.func33, Tryz.ntmps33
      go_wp2_with (first | (go_at_call 68; refine (hP _).mono ?_; rintro e wx ⟨rfl, rfl⟩) | (go_at_call 71; refine hR.mono ?_; rintro e w1 ⟨rfl, hk1⟩; have d0 := (b0.kept hk1).cell 0) | (go_at_call 63; refine (HZ.out _ (k0.trans hk1)).mono ?_; rintro e w2 ⟨v2, rfl, o2, hk2, fv2⟩; obtain ⟨la2, lc2, rfl, _⟩ := o2.ints; have x1 := (b1.kept hk1).kept hk2; have d1 := x1.cell 0; have f1 := x1.frozen 0; have l1 := x1.lt))
      have hs1 := hk1.size
      simp only [World.size_alloc] at hs1
      have q := (x1.set1 (.slice la2 (zeroL zs).length lc2)).cell 0
      refine bodyPost_ret (v := .tuple #[.agg #[.slice la2 (zeroL zs).length lc2], .int .i64 0, .bool false]) (by simp [results, Tryz.results33, go_sem, q]) rfl ?_
      rw [HC.out]
      refine ⟨_, rfl, ?_, ((k0.trans hk1).trans hk2).set (by simp) _, fv2.set _ _ _⟩
      rcases o2 with ⟨h1, h2⟩ | ⟨g3, c3, h1, h2, h3, h4⟩
      · exact .inl ⟨h1, h2⟩
      · exact .inr ⟨g3, c3, h1, by omega, h3, h4.other (by intro h; simp at h <;> omega) _⟩
    | true =>
      have hok := heapR_slab (rootsR_heap hr)
      have HC : Hid (objNewC zs p = objC zs p) := by simp [Hid, objNewC, hpr, hr]
      have hrl := objC_len zs p
      have hT := fun (u : World) (g c : Nat) (hu : Row u g zs) => l5New_ok u g c zs p hu hl hok hp
      obtain ⟨rs, hrs⟩ : ∃ rs, (objC zs p).1 = rs := ⟨_, rfl⟩
      obtain ⟨x, hx⟩ : ∃ x, (objC zs p).2.1 = x := ⟨_, rfl⟩
      obtain ⟨y, hy⟩ : ∃ y, (objC zs p).2.2 = y := ⟨_, rfl⟩
      have HC' : Hid (objNewC zs p = (rs, x, y)) := by show _ = _; rw [HC.out, ← hrs, ← hx, ← hy]
      rw [hrs, hx, hy] at hT
      rw [hrs] at hrl
      rw [hr] at hR
      have c0' := b0.cell 0
      clear hpr hZ hr HC hrs hx hy hok
      go_enter Tryz.func33, Tryz.ntmps33
      go_wp2_with (first | (go_at_call 68; refine (hP _).mono ?_; rintro e wx ⟨rfl, rfl⟩) | (go_at_call 71; refine hR.mono ?_; rintro e w1 ⟨rfl, hk1⟩; have d0 := (b0.kept hk1).cell 0) | (go_at_call 41; refine (l2Copy_ok _ ao cap zs ((hI.kept k0).kept hk1) hl).mono ?_; rintro e w2 ⟨g2, c2, rfl, hg2, hc2, hR2, hk2, sz2⟩) | (go_at_call 72; refine (hT _ g2 c2 hR2).mono ?_; rintro e w3 ⟨rfl, hR3, hG3⟩; have hs1 := hk1.size; simp only [World.size_alloc] at hs1; have x1 := ((b1.kept hk1).kept hk2).grown hG3.1 (by intro e; simp at e; omega); have d1 := x1.cell 0; have f1 := x1.frozen 0; have l1 := x1.lt))
      have k3 := ((k0.trans hk1).trans hk2).grownRow hG3.1 (fun k e => by cases e; omega)
      have q := ((x1.set1 (.slice (some ⟨g2, 0, none⟩) zs.length c2)).alloc (.cells #[.slice (some ⟨g2, 0, none⟩) zs.length c2] 26)).cell 0
      refine bodyPost_ret (v := .tuple #[.agg #[.slice (some ⟨g2, 0, none⟩) zs.length c2], .int .i64 x, .bool y]) (by simp [results, Tryz.results33, go_sem, q]) rfl ?_
      rw [HC'.out]
      exact ⟨_, rfl, .inr ⟨g2, c2, by rw [hrl], by omega, by rw [hrl]; exact hc2, (hR3.other (by intro h; simp at h <;> omega) _).kept (Kept.alloc (Below.refl _ _) _)⟩, (k3.set (by simp) _).alloc _, FullV.one (((hG3.2 _ sz2).set _ _ _).kept (Kept.alloc (Below.refl _ _) _))⟩
end Go.Proofs.YtpbafjcoomfooaaGreat
namespace Go.Proofs.YtpbafjcoomfooaaGreat
open Go.RowKit

/-- The place to which a value leads. -/
def plc (v : Int) : Nat := (v / 8).toNat
theorem plc_is {v : Int} {n : Nat} (h : v / 8 = n) : plc v = n := by unfold plc; omega
/-- The link behind so many cells, or none. -/
def chase (zs : List Int) : Nat → Int → Int
  | 0, v => v
  | n + 1, v => if v = 0 then 0 else chase zs n (hz zs (plc v + 3))
theorem chase_zero (zs : List Int) (n : Nat) : chase zs n 0 = 0 := by cases n <;> simp [chase]
def roundR (zs : List Int) (obj : Int) : Bool := decide (chase zs zs.length (hz zs (plc obj + 2)) ≠ 0)
/-- The first cell of a name from a link on, and the last one ahead of it. -/
def cellF (zs : List Int) (name : Int) : Nat → Int → Int → Int × Int
  | 0, _, last => (-1, last)
  | n + 1, v, last => if v = 0 then (-1, last) else if hz zs (plc v + 1) = name then (((plc v : Nat) : Int), last) else cellF zs name n (hz zs (plc v + 3)) ((plc v : Nat) : Int)
theorem cellF_zero (zs : List Int) (name : Int) (n : Nat) (last : Int) : cellF zs name n 0 last = (-1, last) := by cases n <;> simp [cellF]
theorem cellF_yes {zs : List Int} {name v last : Int} {n a : Nat} (h0 : v ≠ 0) (ha : v / 8 = a) (he : hz zs (a + 1) = name) : cellF zs name (n + 1) v last = (((a : Nat) : Int), last) := by
  simp [cellF, h0, plc_is ha, he]
theorem cellF_no {zs : List Int} {name v last : Int} {n a : Nat} (h0 : v ≠ 0) (ha : v / 8 = a) (he : ¬ hz zs (a + 1) = name) : cellF zs name (n + 1) v last = cellF zs name n (hz zs (a + 3)) ((a : Nat) : Int) := by
  simp [cellF, h0, plc_is ha, he]
/-- It is none, or a cell's place. -/
def cellAt (zs : List Int) (x : Int) : Prop := x = -1 ∨ ∃ a : Nat, x = a ∧ a + 4 ≤ zs.length
theorem cellF_facts {zs : List Int} (hh : heapR zs = true) (name : Int) : ∀ (n : Nat) (v last : Int), nextR zs v 3 = true → cellAt zs last → cellAt zs (cellF zs name n v last).1 ∧ cellAt zs (cellF zs name n v last).2
  | 0, v, last, _, hl => ⟨.inl rfl, hl⟩
  | n + 1, v, last, hv, hl => by
    by_cases h0 : v = 0
    · subst h0; rw [cellF_zero]; exact ⟨.inl rfl, hl⟩
    · obtain ⟨a, s, ha, _, hle, hs, hn⟩ := next_facts hh hv h0
      by_cases he : hz zs (a + 1) = name
      · rw [cellF_yes h0 ha he]; exact ⟨.inr ⟨a, rfl, by omega⟩, hl⟩
      · rw [cellF_no h0 ha he]; exact cellF_facts hh name n _ _ hn (.inr ⟨a, rfl, by omega⟩)

theorem Num_to (v : Int) (a : Nat) (ha : v / 8 = a) (u : World) : Calls Tryz.prog 53 #[.int .i64 v] u fun e w' => e = .returned (.int .i64 (a : Int)) ∧ Kept u w' := by
  refine (spec_Num_ok v u).mono ?_
  rintro e w' ⟨rfl, rfl⟩
  exact ⟨by rw [ha], Below.refl _ _⟩
set_option maxHeartbeats 8000000 in
set_option maxRecDepth 100000 in
theorem l5Round_ok (w : World) (ao : Option Addr) (cap : Nat) (zs : List Int) (obj : Int) (hI : Ints w ao zs) (hl : zs.length ≤ 1048576) (hh : heapR zs = true) (h5 : obj % 8 = 5) (hv : leadsR zs obj 5 = true) :
    Calls Tryz.prog 62 #[.agg #[.slice ao zs.length cap], .int .i64 obj] w fun e w' => e = .returned (.bool (roundR zs obj)) ∧ Kept w w' := by
  obtain ⟨a, s, ha, hle, hs, _, _, hnx⟩ := obj_facts hh h5 hv
  have b0 := Cells.new w 26 #[.slice ao zs.length cap]
  have k0 : Kept w (w.alloc (.cells #[.slice ao zs.length cap] 26)) := Kept.alloc (Below.refl _ _) _
  have HR : Hid (roundR zs obj = decide (chase zs zs.length (hz zs (a + 2)) ≠ 0)) := by simp [Hid, roundR, plc_is ha]
  have HH : Hid (heapR zs = true) := hh
  have hN : Hid (∀ u, Kept w u → Calls Tryz.prog 53 #[.int .i64 obj] u fun e w' => e = .returned (.int .i64 (a : Int)) ∧ Kept u w') := fun u _ => Num_to obj a ha u
  obtain ⟨bb, off, rfl, hc⟩ := hI.at (k := a + 2) (by omega)
  have hcell : ∀ (j : Nat) (u : World), j < zs.length → Kept w u → u.cell? ⟨bb, off + j, none⟩ = some (.int .i64 (hz zs j)) := fun j u hj hu => (hu.cell (p := ⟨bb, off + j, none⟩) (World.block_lt_of_cell? _ _ (hc j hj))).trans (hc j hj)
  have HX : Hid _ := hcell
  have HB : Hid _ := fun (u : World) (hu : Kept (w.alloc (.cells #[.slice (some ⟨bb, off, none⟩) zs.length cap] 26)) u) => (b0.kept hu).cell 0
  have q0 : ∀ u, Kept (w.alloc (.cells #[.slice (some ⟨bb, off, none⟩) zs.length cap] 26)).drew u → u.cell? ⟨w.heap.size, 0, none⟩ = some (.slice (some ⟨bb, off, none⟩) zs.length cap) := fun u hu => HB.out u (Kept.trans (Below.refl _ _).drew hu)
  have q1 : ∀ u, Kept (w.alloc (.cells #[.slice (some ⟨bb, off, none⟩) zs.length cap] 26)).drew u → u.cell? ⟨bb, off + (a + 2), none⟩ = some (.int .i64 (hz zs (a + 2))) := fun u hu => HX.out (a + 2) u (by omega) (k0.trans (Kept.trans (Below.refl _ _).drew hu))
  have hN' : Hid (∀ u, Kept (w.alloc (.cells #[.slice (some ⟨bb, off, none⟩) zs.length cap] 26)).drew u → Calls Tryz.prog 53 #[.int .i64 obj] u fun e w' => e = .returned (.int .i64 (a : Int)) ∧ Kept u w') := fun u _ => Num_to obj a ha u
  have wr1 : IntKind.i64.wrap ((a : Int) + 2) = (a : Int) + 2 := by rw [IntWalk.i64_left, IntWalk.wrap64_in _ (by omega)]
  have t1 : ((a : Int) + 2).toNat = a + 2 := by omega
  have p1 : (a : Int) + 2 < (zs.length : Int) := by omega
  clear hc hcell hI ha hv h5 hh hN
  go_enter Tryz.func62, Tryz.ntmps62
  go_wp2_with fail
  refine wp_region_seqL (by kernel_rfl) (by kernel_rfl) ?_
  repeat (first
    | (refine SeqL.pure ?_ (by rfl) ?_ ?_; rotate_left; (focus (intro u hu; have q0' := q0 u hu; have q1' := q1 u hu; go_simp; first | done | exact rfl)); simp only [Act.put, List.setIfInBounds_toArray, List.set_cons_zero, List.set_cons_succ])
    | (refine SeqL.call _ _ _ (by rfl) ?_ hN'.out ?_; (focus (intro u; go_simp; done)); simp only [Act.put, List.setIfInBounds_toArray, List.set_cons_zero, List.set_cons_succ]))
  refine SeqL.nil ?_
  intro w1 hu1
  have kd1 : Kept (w.alloc (.cells #[.slice (some ⟨bb, off, none⟩) zs.length cap] 26)) w1 := Kept.trans (Below.refl _ _).drew hu1
  obtain ⟨v0, hv0⟩ : ∃ v0, hz zs (a + 2) = v0 := ⟨_, rfl⟩
  rw [hv0] at hnx HR
  simp only [hv0]
  clear q0 q1 hN' wr1 t1 p1 hu1 hv0
  go_wp2_with fail
  go_loopw [5, 6] (fun s5 s6 wr => ∃ (v : Int) (n : Nat), s5 = .int .i64 v ∧ s6 = .int .i64 n ∧ n ≤ zs.length ∧ nextR zs v 3 = true ∧ chase zs (zs.length - n) v = chase zs zs.length v0 ∧ Kept (w.alloc (.cells #[.slice (some ⟨bb, off, none⟩) zs.length cap] 26)) wr) (fun _ s6 _ => zs.length - (intOf s6).toNat)
  case atStart => exact ⟨v0, 0, rfl, rfl, Nat.zero_le _, hnx, rfl, kd1⟩
  case round =>
    obtain ⟨v, n, rfl, rfl, hn, hnv, hch, hK⟩ := hrel
    have q0 := HB.out wr hK
    by_cases hv0' : v = 0
    · subst hv0'
      rw [chase_zero] at hch
      have HF : Hid (roundR zs obj = false) := by show _ = _; rw [HR.out, ← hch]; simp
      have HK : Hid (Kept w wr) := k0.trans hK
      clear hch HR
      go_wp2
      go_ret
      exact ⟨by rw [HF.out]; rfl, HK.out⟩
    · have hv' : (v == 0) = false := by simp [hv0']
      have hv2 : (v != 0) = true := by simp [hv0']
      by_cases hlt : n < zs.length
      · obtain ⟨c, s', hc', _, hle', hs', hnx'⟩ := next_facts HH.out hnv hv0'
        have HC : Hid (chase zs (zs.length - (n + 1)) (hz zs (c + 3)) = chase zs zs.length v0) := by
          show _ = _
          rw [← hch, show zs.length - n = (zs.length - (n + 1)) + 1 by omega, chase, if_neg hv0', plc_is hc']
        have q1 : (n : Int) < (zs.length : Int) := by omega
        have x0 : ∀ u, Kept wr.drew u → u.cell? ⟨w.heap.size, 0, none⟩ = some (.slice (some ⟨bb, off, none⟩) zs.length cap) := fun u hu => HB.out u (hK.trans (Kept.trans (Below.refl _ _).drew hu))
        have x1 : ∀ u, Kept wr.drew u → u.cell? ⟨bb, off + (c + 3), none⟩ = some (.int .i64 (hz zs (c + 3))) := fun u hu => HX.out (c + 3) u (by omega) (k0.trans (hK.trans (Kept.trans (Below.refl _ _).drew hu)))
        have hN' : Hid (∀ u, Kept wr.drew u → Calls Tryz.prog 53 #[.int .i64 v] u fun e w' => e = .returned (.int .i64 (c : Int)) ∧ Kept u w') := fun u _ => Num_to v c hc' u
        have wr1 : IntKind.i64.wrap ((c : Int) + 3) = (c : Int) + 3 := by rw [IntWalk.i64_left, IntWalk.wrap64_in _ (by omega)]
        have t1 : ((c : Int) + 3).toNat = c + 3 := by omega
        have p1 : (c : Int) + 3 < (zs.length : Int) := by omega
        have HK : Hid _ := hK
        clear hch hnv hv0' hc' hK
        go_wp2_with fail
        refine wp_region_seqL (by kernel_rfl) (by kernel_rfl) ?_
        repeat (first
          | (refine SeqL.pure ?_ (by rfl) ?_ ?_; rotate_left; (focus (intro u hu; have x0' := x0 u hu; have x1' := x1 u hu; go_simp; first | done | exact rfl)); simp only [Act.put, List.setIfInBounds_toArray, List.set_cons_zero, List.set_cons_succ])
          | (refine SeqL.call _ _ _ (by rfl) ?_ hN'.out ?_; (focus (intro u; go_simp; done)); simp only [Act.put, List.setIfInBounds_toArray, List.set_cons_zero, List.set_cons_succ]))
        refine SeqL.nil ?_
        intro u hu
        have hK' := Kept.trans HK.out (Kept.trans (Below.refl _ _).drew hu)
        clear x0 x1 hN' wr1 t1 p1 q0
        go_wp2
        go_roundw
        case rel => exact ⟨_, n + 1, rfl, by go_num, by omega, hnx', HC.out, hK'⟩
        case measure => simp [intOf]; omega
      · have hg : ¬ (n : Int) < (zs.length : Int) := by omega
        have HF : Hid (roundR zs obj = true) := by
          show _ = _
          rw [HR.out, ← hch, show zs.length - n = 0 by omega, chase]
          simp [hv0']
        have HK : Hid (Kept w wr) := k0.trans hK
        clear hch HR
        go_wp2
        go_ret
        exact ⟨by rw [HF.out]; rfl, HK.out⟩
set_option maxHeartbeats 8000000 in
set_option maxRecDepth 100000 in
theorem l5Cell_ok (w : World) (ao : Option Addr) (cap : Nat) (zs : List Int) (obj name : Int) (hI : Ints w ao zs) (hl : zs.length ≤ 1048576) (hh : heapR zs = true) (h5 : obj % 8 = 5) (hv : leadsR zs obj 5 = true) :
    Calls Tryz.prog 111 #[.agg #[.slice ao zs.length cap], .int .i64 obj, .int .i64 name] w fun e w' => e = .returned (.tuple #[.int .i64 (cellF zs name zs.length (hz zs (plc obj + 2)) (-1)).1, .int .i64 (cellF zs name zs.length (hz zs (plc obj + 2)) (-1)).2]) ∧ Kept w w' := by
  obtain ⟨a, s, ha, hle, hs, _, _, hnx⟩ := obj_facts hh h5 hv
  rw [plc_is ha]
  have b0 := Cells.new w 26 #[.slice ao zs.length cap]
  have k0 : Kept w (w.alloc (.cells #[.slice ao zs.length cap] 26)) := Kept.alloc (Below.refl _ _) _
  have HH : Hid (heapR zs = true) := hh
  obtain ⟨bb, off, rfl, hc⟩ := hI.at (k := a + 2) (by omega)
  have hcell : ∀ (j : Nat) (u : World), j < zs.length → Kept w u → u.cell? ⟨bb, off + j, none⟩ = some (.int .i64 (hz zs j)) := fun j u hj hu => (hu.cell (p := ⟨bb, off + j, none⟩) (World.block_lt_of_cell? _ _ (hc j hj))).trans (hc j hj)
  have HX : Hid _ := hcell
  have HB : Hid _ := fun (u : World) (hu : Kept (w.alloc (.cells #[.slice (some ⟨bb, off, none⟩) zs.length cap] 26)) u) => (b0.kept hu).cell 0
  have q0 : ∀ u, Kept (w.alloc (.cells #[.slice (some ⟨bb, off, none⟩) zs.length cap] 26)).drew u → u.cell? ⟨w.heap.size, 0, none⟩ = some (.slice (some ⟨bb, off, none⟩) zs.length cap) := fun u hu => HB.out u (Kept.trans (Below.refl _ _).drew hu)
  have q1 : ∀ u, Kept (w.alloc (.cells #[.slice (some ⟨bb, off, none⟩) zs.length cap] 26)).drew u → u.cell? ⟨bb, off + (a + 2), none⟩ = some (.int .i64 (hz zs (a + 2))) := fun u hu => HX.out (a + 2) u (by omega) (k0.trans (Kept.trans (Below.refl _ _).drew hu))
  have hN' : Hid (∀ u, Kept (w.alloc (.cells #[.slice (some ⟨bb, off, none⟩) zs.length cap] 26)).drew u → Calls Tryz.prog 53 #[.int .i64 obj] u fun e w' => e = .returned (.int .i64 (a : Int)) ∧ Kept u w') := fun u _ => Num_to obj a ha u
  have wr1 : IntKind.i64.wrap ((a : Int) + 2) = (a : Int) + 2 := by rw [IntWalk.i64_left, IntWalk.wrap64_in _ (by omega)]
  have t1 : ((a : Int) + 2).toNat = a + 2 := by omega
  have p1 : (a : Int) + 2 < (zs.length : Int) := by omega
  clear hc hcell hI ha hv h5 hh
  obtain ⟨R, hRd⟩ : ∃ R, cellF zs name zs.length (hz zs (a + 2)) (-1) = R := ⟨_, rfl⟩
  rw [hRd]
  go_enter Tryz.func111, Tryz.ntmps111
  go_wp2_with fail
  refine wp_region_seqL (by kernel_rfl) (by kernel_rfl) ?_
  repeat (first
    | (refine SeqL.pure ?_ (by rfl) ?_ ?_; rotate_left; (focus (intro u hu; have q0' := q0 u hu; have q1' := q1 u hu; go_simp; first | done | exact rfl)); simp only [Act.put, List.setIfInBounds_toArray, List.set_cons_zero, List.set_cons_succ])
    | (refine SeqL.call _ _ _ (by rfl) ?_ hN'.out ?_; (focus (intro u; go_simp; done)); simp only [Act.put, List.setIfInBounds_toArray, List.set_cons_zero, List.set_cons_succ]))
  refine SeqL.nil ?_
  intro w1 hu1
  have kd1 : Kept (w.alloc (.cells #[.slice (some ⟨bb, off, none⟩) zs.length cap] 26)) w1 := Kept.trans (Below.refl _ _).drew hu1
  clear q0 q1 hN' wr1 t1 p1 hu1
  go_wp2_with fail
  go_loopw [8, 9, 10] (fun s8 s9 s10 wr => ∃ (last v : Int) (n : Nat), s8 = .int .i64 last ∧ s9 = .int .i64 v ∧ s10 = .int .i64 n ∧ n ≤ zs.length ∧ nextR zs v 3 = true ∧ cellF zs name (zs.length - n) v last = R ∧ Kept (w.alloc (.cells #[.slice (some ⟨bb, off, none⟩) zs.length cap] 26)) wr) (fun _ _ s10 _ => zs.length - (intOf s10).toNat)
  case atStart => exact ⟨-1, _, 0, rfl, rfl, rfl, Nat.zero_le _, hnx, hRd, kd1⟩
  case round =>
    obtain ⟨last, v, n, rfl, rfl, rfl, hn, hnv, hch, hK⟩ := hrel
    have q0 := HB.out wr hK
    have HK : Hid (Kept w wr) := k0.trans hK
    by_cases hv0' : v = 0
    · subst hv0'
      rw [cellF_zero] at hch
      have HF : Hid ((-1, last) = R) := hch
      clear hch hRd hK
      go_wp2
      refine bodyPost_ret (v := .tuple #[.int .i64 (-1), .int .i64 last]) (by simp [results, Tryz.results111, go_sem]) rfl ⟨by rw [← HF.out], HK.out⟩
    · have hv' : (v == 0) = false := by simp [hv0']
      have hv2 : (v != 0) = true := by simp [hv0']
      by_cases hlt : n < zs.length
      · obtain ⟨c, s', hc', _, hle', hs', hnx'⟩ := next_facts HH.out hnv hv0'
        have q1 : (n : Int) < (zs.length : Int) := by omega
        have x1 := HX.out (c + 1) wr (by omega) HK.out
        have x3 := HX.out (c + 3) wr (by omega) HK.out
        have wr1 : IntKind.i64.wrap ((c : Int) + 1) = (c : Int) + 1 := by rw [IntWalk.i64_left, IntWalk.wrap64_in _ (by omega)]
        have t1 : ((c : Int) + 1).toNat = c + 1 := by omega
        have p1 : (c : Int) + 1 < (zs.length : Int) := by omega
        have wr3 : IntKind.i64.wrap ((c : Int) + 3) = (c : Int) + 3 := by rw [IntWalk.i64_left, IntWalk.wrap64_in _ (by omega)]
        have t3 : ((c : Int) + 3).toNat = c + 3 := by omega
        have p3 : (c : Int) + 3 < (zs.length : Int) := by omega
        have hN' := (spec_Num_ok v wr)
        rw [hc'] at hN'
        have hsn : zs.length - n = (zs.length - (n + 1)) + 1 := by omega
        rw [hsn] at hch
        by_cases he : hz zs (c + 1) = name
        · rw [cellF_yes hv0' hc' he] at hch
          have he' : (hz zs (c + 1) == name) = true := by simp [he]
          have HF : Hid ((((c : Nat) : Int), last) = R) := hch
          clear hch hRd hK hnv he hc' hsn hv0'
          go_wp2_with (go_at_call 53; refine hN'.mono ?_; rintro e wx ⟨rfl, rfl⟩)
          refine bodyPost_ret (v := .tuple #[.int .i64 (c : Int), .int .i64 last]) (by simp [results, Tryz.results111, go_sem]) rfl ⟨by rw [← HF.out], HK.out⟩
        · rw [cellF_no hv0' hc' he] at hch
          have he' : (hz zs (c + 1) == name) = false := by simp [he]
          have HF : Hid _ := hch
          have HK2 : Hid _ := hK
          clear hch hRd hK hnv he hc' hsn hv0'
          go_wp2_with (go_at_call 53; refine hN'.mono ?_; rintro e wx ⟨rfl, rfl⟩)
          go_roundw
          case rel => exact ⟨_, _, n + 1, rfl, rfl, by go_num, by omega, hnx', HF.out, HK2.out⟩
          case measure => simp [intOf]; omega
      · have hg : ¬ (n : Int) < (zs.length : Int) := by omega
        rw [show zs.length - n = 0 by omega, cellF] at hch
        have HF : Hid ((-1, last) = R) := hch
        clear hch hRd hK
        go_wp2
        refine bodyPost_ret (v := .tuple #[.int .i64 (-1), .int .i64 last]) (by simp [results, Tryz.results111, go_sem]) rfl ⟨by rw [← HF.out], HK.out⟩
end Go.Proofs.YtpbafjcoomfooaaGreat
namespace Go.Proofs.YtpbafjcoomfooaaGreat
open Go.RowKit

/-- Where a new cell is told: in the object, or in its last cell. -/
def linkAt (obj last : Int) : Nat := if last < 0 then plc obj + 2 else last.toNat + 3
def setC (zs : List Int) (obj name v : Int) : List Int × Int × Bool :=
  if 0 ≤ (cellF zs name zs.length (hz zs (plc obj + 2)) (-1)).1 then (zs.set ((cellF zs name zs.length (hz zs (plc obj + 2)) (-1)).1.toNat + 2) v, -1, true) else match ffB zs 4 with
    | none => (zs, -1, false)
    | some b => ((((takeL zs b.1 3 4).set (b.1.at' + 1) name).set (b.1.at' + 2) v).set (linkAt obj (cellF zs name zs.length (hz zs (plc obj + 2)) (-1)).2) (8 * ((b.1.at' : Nat) : Int) + 7), ((b.1.at' : Nat) : Int), true)
theorem setC_len (zs : List Int) (obj name v : Int) : (setC zs obj name v).1.length = zs.length := by
  unfold setC
  split
  · simp
  · split
    · rfl
    · simp [takeL_length]
def propC (zs : List Int) (obj name v : Int) : List Int × Bool :=
  if decide (name % 8 = 4) && decide (v % 8 ≠ 7) && isR zs [obj, name, v] 5 && !roundR zs obj then ((setC zs obj name v).1, (setC zs obj name v).2.2) else (zeroL zs, false)
theorem propC_len (zs : List Int) (obj name v : Int) : (propC zs obj name v).1.length = zs.length ∨ (propC zs obj name v).1.length = 0 := by
  unfold propC
  split
  · exact .inl (setC_len _ _ _ _)
  · exact zeroL_len zs

set_option maxHeartbeats 16000000 in
set_option maxRecDepth 100000 in
theorem l5Set_ok (w : World) (g cap : Nat) (zs : List Int) (obj name v : Int) (hR : Row w g zs) (hl : zs.length ≤ 1048576) (hh : heapR zs = true) (h5 : obj % 8 = 5) (hv : leadsR zs obj 5 = true) (hnb : -9223372036854775808 ≤ name ∧ name ≤ 9223372036854775807) (hvb : -9223372036854775808 ≤ v ∧ v ≤ 9223372036854775807) :
    Calls Tryz.prog 64 #[.agg #[.slice (some ⟨g, 0, none⟩) zs.length cap], .int .i64 obj, .int .i64 name, .int .i64 v] w fun e w' =>
      e = .returned (.tuple #[.agg #[.slice (some ⟨g, 0, none⟩) zs.length cap], .int .i64 (setC zs obj name v).2.1, .bool (setC zs obj name v).2.2]) ∧ Row w' g (setC zs obj name v).1 ∧ GS g w w' := by
  have hok := heapR_slab hh
  have hlen := (slabOk_iff.1 hok).1
  have b0 := (Cells.new w 26 #[.slice (some ⟨g, 0, none⟩) zs.length cap]).alloc (.cells #[.slice none 0 0] 26)
  have b1 := Cells.new (w.alloc (.cells #[.slice (some ⟨g, 0, none⟩) zs.length cap] 26)) 26 #[.slice none 0 0]
  have k0 : Kept w ((w.alloc (.cells #[.slice (some ⟨g, 0, none⟩) zs.length cap] 26)).alloc (.cells #[.slice none 0 0] 26)) := (Kept.alloc (Below.refl _ _) _).alloc _
  have hR0 := hR.kept k0
  have lg := hR.lt
  simp only [World.size_alloc] at b1
  obtain ⟨oa, os, hoa, hole, hos, _, _, hnx⟩ := obj_facts hh h5 hv
  have hCe := l5Cell_ok _ _ cap zs obj name hR0.ints hl hh h5 hv
  have hfa := cellF_facts hh name zs.length (hz zs (plc obj + 2)) (-1) (by rw [plc_is hoa]; exact hnx) (.inl rfl)
  have HP : Hid (setC zs obj name v = if 0 ≤ (cellF zs name zs.length (hz zs (plc obj + 2)) (-1)).1 then (zs.set ((cellF zs name zs.length (hz zs (plc obj + 2)) (-1)).1.toNat + 2) v, -1, true) else match ffB zs 4 with
    | none => (zs, -1, false)
    | some b => ((((takeL zs b.1 3 4).set (b.1.at' + 1) name).set (b.1.at' + 2) v).set (linkAt obj (cellF zs name zs.length (hz zs (plc obj + 2)) (-1)).2) (8 * ((b.1.at' : Nat) : Int) + 7), ((b.1.at' : Nat) : Int), true)) := by simp [Hid, setC]
  have hlk : linkAt obj (cellF zs name zs.length (hz zs (plc obj + 2)) (-1)).2 < zs.length := by
    unfold linkAt
    rcases hfa.2 with h | ⟨n, h, hn⟩
    · rw [h, if_pos (by omega), plc_is hoa]; omega
    · rw [h, if_neg (by omega)]; omega
  have hlk2 : linkAt obj (cellF zs name zs.length (hz zs (plc obj + 2)) (-1)).2 = if (cellF zs name zs.length (hz zs (plc obj + 2)) (-1)).2 < 0 then oa + 2 else (cellF zs name zs.length (hz zs (plc obj + 2)) (-1)).2.toNat + 3 := by unfold linkAt; rw [plc_is hoa]
  obtain ⟨R, hRd⟩ : ∃ R, cellF zs name zs.length (hz zs (plc obj + 2)) (-1) = R := ⟨_, rfl⟩
  rw [hRd] at hCe hfa HP hlk hlk2
  obtain ⟨R1, R2⟩ := R
  simp only at hCe hfa HP hlk hlk2
  obtain ⟨hf1, hf2⟩ := hfa
  have c0 := b0.cell 0
  have HH : Hid (slabOk zs = true) := hok
  clear hRd hh hv h5 hnx hok
  rcases hf1 with rfl | ⟨n1, rfl, hn1⟩
  · have hT := fun (u : World) (hu : Row u g zs) => l2Take_ok u g cap zs 3 4 hu hl HH.out (by omega) (by omega) (by omega) (by omega)
    cases hff : ffB zs 4 with
    | none =>
      have HP2 : Hid (setC zs obj name v = (zs, -1, false)) := by show _ = _; rw [HP.out, hff]; simp
      have HT : Hid (∀ u, Row u g zs → Calls Tryz.prog 87 #[.agg #[.slice (some ⟨g, 0, none⟩) zs.length cap], .int .i64 3, .int .i64 4] u fun e w' => e = .returned (.tuple #[.agg #[.slice (some ⟨g, 0, none⟩) zs.length cap], .int .i64 0, .bool false]) ∧ Row w' g zs ∧ GS g u w') := fun u hu => (hT u hu).mono (fun e w' h => ⟨(h.2.1 hff).1, (h.2.1 hff).2, h.2.2⟩)
      clear hff hT HP hlk hlk2
      go_enter Tryz.func64, Tryz.ntmps64
      go_wp2_with fail
      refine hCe.mono ?_
      rintro e w1 ⟨rfl, hk1⟩
      have x0 := b0.kept hk1
      have x1 := b1.kept hk1
      have c1 := x0.cell 0
      clear c0
      go_wp2_with fail
      refine (HT.out _ (hR0.kept hk1)).mono ?_
      rintro e w2 ⟨rfl, hr2, hg2⟩
      have y0 := x0.grown hg2.1 (by intro e; simp at e; omega)
      have y1 := x1.grown hg2.1 (by intro e; simp at e; omega)
      have d0 := (y0.alloc (.cells #[.slice (some ⟨g, 0, none⟩) zs.length cap] 26)).cell 0
      have z1 := y1.alloc (.cells #[.slice (some ⟨g, 0, none⟩) zs.length cap] 26)
      have d1 := z1.cell 0
      have e1 := z1.frozen 0
      clear c1
      go_wp2
      have q := (z1.set1 (.slice (some ⟨g, 0, none⟩) zs.length cap)).cell 0
      refine bodyPost_ret (v := .tuple #[.agg #[.slice (some ⟨g, 0, none⟩) zs.length cap], .int .i64 (-1), .bool false]) (by simp [results, Tryz.results64, go_sem, q]) rfl ?_
      rw [HP2.out]
      exact ⟨rfl, (hr2.kept (Kept.alloc (Below.refl _ _) _)).other (by intro h; simp at h; omega) _, GS.setNew (GS.trans (GS.trans (GS.any (k0.trans hk1) g) hg2) (GS.any (Kept.alloc (Below.refl _ _) _) g)) (by simp) _⟩
    | some b =>
      have hfr : freeP ((4 : Nat) : Int) b = true := List.find?_some hff
      have hble := b.2.2.1
      have hbs : 4 ≤ b.1.size := by simp [freeP] at hfr; omega
      obtain ⟨a, ha⟩ : ∃ a : Nat, b.1.at' = a := ⟨_, rfl⟩
      obtain ⟨ys, hys⟩ : ∃ ys, takeL zs b.1 3 4 = ys := ⟨_, rfl⟩
      have hyl : ys.length = zs.length := by rw [← hys, takeL_length]
      obtain ⟨L, hL⟩ : ∃ L, linkAt obj R2 = L := ⟨_, rfl⟩
      rw [hL] at hlk hlk2
      have HP2 : Hid (setC zs obj name v = (((ys.set (a + 1) name).set (a + 2) v).set L (8 * (a : Int) + 7), (a : Int), true)) := by show _ = _; rw [HP.out, hff]; simp [hys, ha, hL]
      have HT : Hid (∀ u, Row u g zs → Calls Tryz.prog 87 #[.agg #[.slice (some ⟨g, 0, none⟩) zs.length cap], .int .i64 3, .int .i64 4] u fun e w' => e = .returned (.tuple #[.agg #[.slice (some ⟨g, 0, none⟩) zs.length cap], .int .i64 (a : Int), .bool true]) ∧ Row w' g ys ∧ GS g u w') := fun u hu => (hT u hu).mono (fun e w' h => ⟨by rw [(h.1 b hff).1, ha], by rw [← hys]; exact (h.1 b hff).2, h.2.2⟩)
      have hfit : a + 4 ≤ zs.length := by omega
      clear hff hT HP hfr hble hbs hys hL
      clear ha
      go_enter Tryz.func64, Tryz.ntmps64
      go_wp2_with fail
      refine hCe.mono ?_
      rintro e w1 ⟨rfl, hk1⟩
      have x0 := b0.kept hk1
      have x1 := b1.kept hk1
      have c1 := x0.cell 0
      clear c0
      go_wp2_with fail
      refine (HT.out _ (hR0.kept hk1)).mono ?_
      rintro e w2 ⟨rfl, hr2, hg2⟩
      have lg2 := hr2.lt
      have y1 := x1.grown hg2.1 (by intro e; simp at e; omega)
      have l1 := y1.lt
      have kA : ∀ W : World, Kept W (W.alloc (.cells #[.slice (some ⟨g, 0, none⟩) zs.length cap] 26)) := fun W => Kept.alloc (Below.refl _ W) _
      have sA : ∀ (p : Addr) (u : Value), (w2.setCell p u).heap.size = w2.heap.size := fun p u => by simp [World.setCell]
      have r4 := hr2.set (k := a + 1) (v := name) (by omega) hnb
      have r5 := r4.set (k := a + 2) (v := v) (by simp; omega) hvb
      have y5 := (y1.other (p := ⟨g, a + 1, none⟩) (by intro h; simp at h; omega) (.int .i64 name)).other (p := ⟨g, a + 2, none⟩) (by intro h; simp at h; omega) (.int .i64 v)
      have G5 : GS g w ((w2.setCell ⟨g, a + 1, none⟩ (.int .i64 name)).setCell ⟨g, a + 2, none⟩ (.int .i64 v)) := GS.set (k := a + 2) (GS.set (k := a + 1) (GS.trans (GS.any (k0.trans hk1) g) hg2) (.int .i64 name)) (.int .i64 v)
      have o3 := Cells.new w2 26 #[.slice (some ⟨g, 0, none⟩) zs.length cap]
      have o4 := Cells.new (w2.setCell ⟨g, a + 1, none⟩ (.int .i64 name)) 26 #[.slice (some ⟨g, 0, none⟩) zs.length cap]
      have o5 := Cells.new ((w2.setCell ⟨g, a + 1, none⟩ (.int .i64 name)).setCell ⟨g, a + 2, none⟩ (.int .i64 v)) 26 #[.slice (some ⟨g, 0, none⟩) zs.length cap]
      have sC : ((w2.setCell ⟨g, a + 1, none⟩ (.int .i64 name)).setCell ⟨g, a + 2, none⟩ (.int .i64 v)).heap.size = w2.heap.size := by simp [World.setCell]
      rw [sA] at o4
      rw [sC] at o5
      have cO3 := o3.cell 0
      have cO4 := o4.cell 0
      have cO5 := o5.cell 0
      have cg1 := (hr2.kept (kA _)).cell (j := a + 1) (by omega)
      have fg1 := (hr2.kept (kA _)).frozen (a + 1)
      have cg2 := (r4.kept (kA _)).cell (j := a + 2) (by simp; omega)
      have fg2 := (r4.kept (kA _)).frozen (a + 2)
      have p1 : (a : Int) + 1 < (zs.length : Int) := by omega
      have t1 : ((a : Int) + 1).toNat = a + 1 := by omega
      have p2 : (a : Int) + 2 < (zs.length : Int) := by omega
      have t2 : ((a : Int) + 2).toNat = a + 2 := by omega
      have hV : vRef 7 (a : Int) = 8 * (a : Int) + 7 := vRef_yes (by omega)
      have hRf : ∀ u : World, Calls Tryz.prog 88 #[.int .i64 7, .int .i64 (a : Int)] u fun e w' => e = .returned (.int .i64 (8 * (a : Int) + 7)) ∧ u = w' := fun u => by rw [← hV]; exact spec_RefOf_ok _ _ _
      have hNu : ∀ u : World, Calls Tryz.prog 53 #[.int .i64 obj] u fun e w' => e = .returned (.int .i64 (oa : Int)) ∧ u = w' := fun u => by rw [← hoa]; exact spec_Num_ok _ _
      have H5 : Hid (Row _ g _ ∧ Cells _ _ _ _ ∧ Cells _ _ _ _ ∧ GS g w _) := ⟨r5.kept (kA _), o5, y5.kept (kA _), GS.trans G5 (GS.any (kA _) g)⟩
      have HRf : Hid _ := hRf
      have HNu : Hid _ := hNu
      clear c1 r4 r5 y5 G5 o3 o4 o5 sA sC hV hoa hRf hNu
      rcases hf2 with rfl | ⟨n2, rfl, hn2⟩
      · rw [if_pos (by omega)] at hlk2
        subst hlk2
        have p3 : (oa : Int) + 2 < (zs.length : Int) := by omega
        have t3 : ((oa : Int) + 2).toNat = oa + 2 := by omega
        have wr3 : IntKind.i64.wrap ((oa : Int) + 2) = (oa : Int) + 2 := by rw [IntWalk.i64_left, IntWalk.wrap64_in _ (by omega)]
        have z3 : ¬ (oa : Int) + 2 < 0 := by omega
        go_wp2_with fail
        clear cO3 cO4 cO5 cg1 fg1 cg2 fg2 p1 t1 p2 t2
        obtain ⟨W5, hW5⟩ : ∃ W5, ((w2.setCell ⟨g, a + 1, none⟩ (.int .i64 name)).setCell ⟨g, a + 2, none⟩ (.int .i64 v)).alloc (.cells #[.slice (some ⟨g, 0, none⟩) zs.length cap] 26) = W5 := ⟨_, rfl⟩
        obtain ⟨O, hO⟩ : ∃ O, w2.heap.size = O := ⟨_, rfl⟩
        rw [hW5, hO] at H5
        rw [hO] at lg2 l1
        simp only [hW5, hO]
        obtain ⟨r5, o5, y5, G5⟩ := H5.out
        clear hW5 hO H5 hg2 hr2 y1
        have cO5 := o5.cell 0
        have cgL := r5.cell (j := oa + 2) (by simp; omega)
        have fgL := r5.frozen (oa + 2)
        have r6 := r5.set (k := oa + 2) (v := 8 * (a : Int) + 7) (by simp; omega) ⟨by omega, by omega⟩
        have o6 := o5.other (p := ⟨g, oa + 2, none⟩) (by intro h; simp at h; omega) (.int .i64 (8 * (a : Int) + 7))
        have y6 := y5.other (p := ⟨g, oa + 2, none⟩) (by intro h; simp at h; omega) (.int .i64 (8 * (a : Int) + 7))
        have G6 := GS.set (k := oa + 2) G5 (.int .i64 (8 * (a : Int) + 7))
        have cO6 := o6.cell 0
        have c6 := y6.cell 0
        have f6 := y6.frozen 0
        have H6 : Hid _ := And.intro r6 (And.intro y6 G6)
        clear r6 y6 G6 o6 r5 o5 y5 G5
        go_region_with (first | (go_at_call 88; refine (HRf.out _).mono ?_; rintro e wx ⟨rfl, rfl⟩) | (go_at_call 53; refine (HNu.out _).mono ?_; rintro e wx ⟨rfl, rfl⟩))
        all_goals go_wp2_with fail
        all_goals (
          obtain ⟨r6, y6, G6⟩ := H6.out
          have q := ((y6.set1 (.slice (some ⟨g, 0, none⟩) zs.length cap)).kept (Below.refl _ _).drew).cell 0
          refine bodyPost_ret (v := .tuple #[.agg #[.slice (some ⟨g, 0, none⟩) zs.length cap], .int .i64 (a : Int), .bool true]) (by simp [results, Tryz.results64, go_sem, q]) rfl ?_
          rw [HP2.out]
          exact ⟨rfl, (r6.other (p := ⟨w.heap.size + 1, 0, none⟩) (by intro h; simp at h; omega) _).kept (Below.refl _ _).drew, GS.trans (GS.setNew G6 (by simp) _) (GS.any (Below.refl _ _).drew g)⟩)
      · rw [if_neg (by omega)] at hlk2
        simp only [Int.toNat_natCast] at hlk2
        subst hlk2
        have p3 : (n2 : Int) + 3 < (zs.length : Int) := by omega
        have t3 : ((n2 : Int) + 3).toNat = n2 + 3 := by omega
        have wr3 : IntKind.i64.wrap ((n2 : Int) + 3) = (n2 : Int) + 3 := by rw [IntWalk.i64_left, IntWalk.wrap64_in _ (by omega)]
        have z3 : ¬ (n2 : Int) + 3 < 0 := by omega
        go_wp2_with fail
        clear cO3 cO4 cO5 cg1 fg1 cg2 fg2 p1 t1 p2 t2
        obtain ⟨W5, hW5⟩ : ∃ W5, ((w2.setCell ⟨g, a + 1, none⟩ (.int .i64 name)).setCell ⟨g, a + 2, none⟩ (.int .i64 v)).alloc (.cells #[.slice (some ⟨g, 0, none⟩) zs.length cap] 26) = W5 := ⟨_, rfl⟩
        obtain ⟨O, hO⟩ : ∃ O, w2.heap.size = O := ⟨_, rfl⟩
        rw [hW5, hO] at H5
        rw [hO] at lg2 l1
        simp only [hW5, hO]
        obtain ⟨r5, o5, y5, G5⟩ := H5.out
        clear hW5 hO H5 hg2 hr2 y1
        have cO5 := o5.cell 0
        have cgL := r5.cell (j := n2 + 3) (by simp; omega)
        have fgL := r5.frozen (n2 + 3)
        have r6 := r5.set (k := n2 + 3) (v := 8 * (a : Int) + 7) (by simp; omega) ⟨by omega, by omega⟩
        have o6 := o5.other (p := ⟨g, n2 + 3, none⟩) (by intro h; simp at h; omega) (.int .i64 (8 * (a : Int) + 7))
        have y6 := y5.other (p := ⟨g, n2 + 3, none⟩) (by intro h; simp at h; omega) (.int .i64 (8 * (a : Int) + 7))
        have G6 := GS.set (k := n2 + 3) G5 (.int .i64 (8 * (a : Int) + 7))
        have cO6 := o6.cell 0
        have c6 := y6.cell 0
        have f6 := y6.frozen 0
        have H6 : Hid _ := And.intro r6 (And.intro y6 G6)
        clear r6 y6 G6 o6 r5 o5 y5 G5
        go_region_with (go_at_call 88; refine (HRf.out _).mono ?_; rintro e wx ⟨rfl, rfl⟩)
        all_goals go_wp2_with fail
        all_goals (
          obtain ⟨r6, y6, G6⟩ := H6.out
          have q := ((y6.set1 (.slice (some ⟨g, 0, none⟩) zs.length cap)).kept (Below.refl _ _).drew).cell 0
          refine bodyPost_ret (v := .tuple #[.agg #[.slice (some ⟨g, 0, none⟩) zs.length cap], .int .i64 (a : Int), .bool true]) (by simp [results, Tryz.results64, go_sem, q]) rfl ?_
          rw [HP2.out]
          exact ⟨rfl, (r6.other (p := ⟨w.heap.size + 1, 0, none⟩) (by intro h; simp at h; omega) _).kept (Below.refl _ _).drew, GS.trans (GS.setNew G6 (by simp) _) (GS.any (Below.refl _ _).drew g)⟩)
  · have HP2 : Hid (setC zs obj name v = (zs.set (n1 + 2) v, -1, true)) := by show _ = _; rw [HP.out, if_pos (by omega)]; simp
    clear HP hlk hlk2
    go_enter Tryz.func64, Tryz.ntmps64
    go_wp2_with fail
    refine hCe.mono ?_
    rintro e w1 ⟨rfl, hk1⟩
    have x0 := b0.kept hk1
    have x1 := b1.kept hk1
    have hr1 := hR0.kept hk1
    have c1 := x0.cell 0
    have cg := hr1.cell (j := n1 + 2) (by omega)
    have fg := hr1.frozen (n1 + 2)
    have p2 : (n1 : Int) + 2 < (zs.length : Int) := by omega
    have t2 : ((n1 : Int) + 2).toNat = n1 + 2 := by omega
    have z0 := x0.other (p := ⟨g, n1 + 2, none⟩) (by intro h; simp at h; omega) (.int .i64 v)
    have z1 := x1.other (p := ⟨g, n1 + 2, none⟩) (by intro h; simp at h; omega) (.int .i64 v)
    have d0 := z0.cell 0
    have d1 := z1.cell 0
    have e1 := z1.frozen 0
    clear c0
    go_wp2
    have q := (z1.set1 (.slice (some ⟨g, 0, none⟩) zs.length cap)).cell 0
    refine bodyPost_ret (v := .tuple #[.agg #[.slice (some ⟨g, 0, none⟩) zs.length cap], .int .i64 (-1), .bool true]) (by simp [results, Tryz.results64, go_sem, q]) rfl ?_
    rw [HP2.out]
    exact ⟨rfl, (hr1.set (k := n1 + 2) (v := v) (by omega) hvb).other (by intro h; simp at h; omega) _, GS.setNew (GS.set (k := n1 + 2) (GS.any (k0.trans hk1) g) (.int .i64 v)) (by simp) _⟩
end Go.Proofs.YtpbafjcoomfooaaGreat
namespace Go.Proofs.YtpbafjcoomfooaaGreat
open Go.RowKit

set_option maxHeartbeats 8000000 in
set_option maxRecDepth 100000 in
theorem spec_PropSet_ok (w : World) (ao : Option Addr) (cap : Nat) (zs : List Int) (obj name v : Int) (hI : Ints w ao zs) (hl : zs.length ≤ 1048576) (hob : -9223372036854775808 ≤ obj ∧ obj ≤ 9223372036854775807) (hnb : -9223372036854775808 ≤ name ∧ name ≤ 9223372036854775807) (hvb : -9223372036854775808 ≤ v ∧ v ≤ 9223372036854775807) :
    Calls Tryz.prog 20 #[.agg #[.slice ao zs.length cap], .int .i64 obj, .int .i64 name, .int .i64 v] w fun e w' => ∃ u, e = .returned (.tuple #[.agg #[u], .bool (propC zs obj name v).2]) ∧ OwnR w' w.heap.size u (propC zs obj name v).1 ∧ Kept w w' ∧ FullV w' u := by
  have b0 := (Cells.new w 26 #[.slice ao zs.length cap]).alloc (.cells #[.slice none 0 0] 26)
  have b1 := Cells.new (w.alloc (.cells #[.slice ao zs.length cap] 26)) 26 #[.slice none 0 0]
  have k0 : Kept w ((w.alloc (.cells #[.slice ao zs.length cap] 26)).alloc (.cells #[.slice none 0 0] 26)) := (Kept.alloc (Below.refl _ _) _).alloc _
  simp only [World.size_alloc] at b1
  have HZ : Hid (∀ (u : World), Kept w u → Calls Tryz.prog 63 #[.agg #[.slice ao zs.length cap]] u fun e w' => ∃ v, e = .returned (.agg #[v]) ∧ OwnR w' u.heap.size v (zeroL zs) ∧ Kept u w' ∧ FullV w' v) := fun u hu => l5Zero_ok u ao cap zs (hI.kept hu) hl
  have c0' := b0.cell 0
  by_cases hn4 : name % 8 = 4
  · have hn' : (name % 8 != 4) = false := by simp [hn4]
    by_cases hv7 : v % 8 = 7
    · have hv' : (v % 8 == 7) = true := by simp [hv7]
      have HC : Hid (propC zs obj name v = (zeroL zs, false)) := by simp [Hid, propC, hv7]
      clear hv7 hn4
      go_enter Tryz.func20, Tryz.ntmps20
      go_wp2_with (first | (go_at_call 50; refine (spec_Kind_ok _ _).mono ?_; rintro e wx ⟨rfl, rfl⟩) | (go_at_call 63; refine (HZ.out _ k0).mono ?_; rintro e wz ⟨vz, rfl, oz, hkz, fvz⟩; obtain ⟨laz, lcz, rfl, _⟩ := oz.ints; have xz := b1.kept hkz; have dz := xz.cell 0; have fz := xz.frozen 0; have lz := xz.lt))
      have q := (xz.set1 (.slice laz (zeroL zs).length lcz)).cell 0
      refine bodyPost_ret (v := .tuple #[.agg #[.slice laz (zeroL zs).length lcz], .bool false]) (by simp [results, Tryz.results20, go_sem, q]) rfl ?_
      rw [HC.out]
      refine ⟨_, rfl, ?_, (k0.trans hkz).set (by simp) _, fvz.set _ _ _⟩
      rcases oz with ⟨h1, h2⟩ | ⟨g3, c3, h1, h2, h3, h4⟩
      · exact .inl ⟨h1, h2⟩
      · simp only [World.size_alloc] at h2
        exact .inr ⟨g3, c3, h1, by omega, h3, h4.other (by intro h; simp at h <;> omega) _⟩
    · have hv' : (v % 8 == 7) = false := by simp [hv7]
      have hIs := l5Is_at _ ao cap zs [obj, name, v] 3 5 #[.int .i64 obj, .int .i64 name, .int .i64 v] rfl rfl (by simpa using ⟨hob, hnb, hvb⟩) (by omega) (by omega) (hI.kept k0) hl
      simp only [World.size_alloc] at hIs
      have c0 := (b0.alloc (.cells #[.int .i64 obj, .int .i64 name, .int .i64 v] 3)).cell 0
      cases hi : isR zs [obj, name, v] 5 with
      | false =>
        have HC : Hid (propC zs obj name v = (zeroL zs, false)) := by simp [Hid, propC, hi]
        rw [hi] at hIs
        clear hv7 hn4 hi
        go_enter Tryz.func20, Tryz.ntmps20
        go_wp2_with (first | (go_at_call 50; refine (spec_Kind_ok _ _).mono ?_; rintro e wx ⟨rfl, rfl⟩) | (go_at_call 61; refine hIs.mono ?_; rintro e w1 ⟨rfl, hk1⟩; have d0 := (b0.kept hk1).cell 0) | (go_at_call 63; refine (HZ.out _ (k0.trans hk1)).mono ?_; rintro e wz ⟨vz, rfl, oz, hkz, fvz⟩; obtain ⟨laz, lcz, rfl, _⟩ := oz.ints; have xz := (b1.kept hk1).kept hkz; have dz := xz.cell 0; have fz := xz.frozen 0; have lz := xz.lt))
        have hs0 := hk1.size
        simp only [World.size_alloc] at hs0
        have q := (xz.set1 (.slice laz (zeroL zs).length lcz)).cell 0
        refine bodyPost_ret (v := .tuple #[.agg #[.slice laz (zeroL zs).length lcz], .bool false]) (by simp [results, Tryz.results20, go_sem, q]) rfl ?_
        rw [HC.out]
        refine ⟨_, rfl, ?_, ((k0.trans hk1).trans hkz).set (by simp) _, fvz.set _ _ _⟩
        rcases oz with ⟨h1, h2⟩ | ⟨g3, c3, h1, h2, h3, h4⟩
        · exact .inl ⟨h1, h2⟩
        · exact .inr ⟨g3, c3, h1, by omega, h3, h4.other (by intro h; simp at h <;> omega) _⟩
      | true =>
        rw [hi] at hIs
        obtain ⟨hh, h5, hls⟩ := isR_facts hi
        have h5' : obj % 8 = 5 := h5
        have hle : leadsR zs obj 5 = true := hls 0 (by simp)
        have hO := fun (u : World) (hu : Kept w u) => l5Round_ok u ao cap zs obj (hI.kept hu) hl hh h5' hle
        cases hr : roundR zs obj with
        | true =>
          have HC : Hid (propC zs obj name v = (zeroL zs, false)) := by simp [Hid, propC, hr]
          rw [hr] at hO
          have HO : Hid _ := hO
          clear hv7 hn4 hi hr h5 h5' hle hls hh hO
          go_enter Tryz.func20, Tryz.ntmps20
          go_wp2_with (first | (go_at_call 50; refine (spec_Kind_ok _ _).mono ?_; rintro e wx ⟨rfl, rfl⟩) | (go_at_call 61; refine hIs.mono ?_; rintro e w1 ⟨rfl, hk1⟩; have d0 := (b0.kept hk1).cell 0) | (go_at_call 62; refine (HO.out _ (k0.trans hk1)).mono ?_; rintro e w2 ⟨rfl, hk2⟩; have d00 := ((b0.kept hk1).kept hk2).cell 0) | (go_at_call 63; refine (HZ.out _ ((k0.trans hk1).trans hk2)).mono ?_; rintro e wz ⟨vz, rfl, oz, hkz, fvz⟩; obtain ⟨laz, lcz, rfl, _⟩ := oz.ints; have xz := ((b1.kept hk1).kept hk2).kept hkz; have dz := xz.cell 0; have fz := xz.frozen 0; have lz := xz.lt))
          have hs0 := hk1.size
          have hs1 := hk2.size
          simp only [World.size_alloc] at hs0
          have q := (xz.set1 (.slice laz (zeroL zs).length lcz)).cell 0
          refine bodyPost_ret (v := .tuple #[.agg #[.slice laz (zeroL zs).length lcz], .bool false]) (by simp [results, Tryz.results20, go_sem, q]) rfl ?_
          rw [HC.out]
          refine ⟨_, rfl, ?_, (((k0.trans hk1).trans hk2).trans hkz).set (by simp) _, fvz.set _ _ _⟩
          rcases oz with ⟨h1, h2⟩ | ⟨g3, c3, h1, h2, h3, h4⟩
          · exact .inl ⟨h1, h2⟩
          · exact .inr ⟨g3, c3, h1, by omega, h3, h4.other (by intro h; simp at h <;> omega) _⟩
        | false =>
          have HC0 : Hid (propC zs obj name v = ((setC zs obj name v).1, (setC zs obj name v).2.2)) := by simp [Hid, propC, hn4, hv7, hi, hr]
          rw [hr] at hO
          have HO : Hid _ := hO
          have hT := fun (u : World) (g c : Nat) (hu : Row u g zs) => l5Set_ok u g c zs obj name v hu hl hh h5' hle hnb hvb
          have hrl := setC_len zs obj name v
          obtain ⟨rs, hrs⟩ : ∃ rs, (setC zs obj name v).1 = rs := ⟨_, rfl⟩
          obtain ⟨x, hx⟩ : ∃ x, (setC zs obj name v).2.1 = x := ⟨_, rfl⟩
          obtain ⟨y, hy⟩ : ∃ y, (setC zs obj name v).2.2 = y := ⟨_, rfl⟩
          have HC : Hid (propC zs obj name v = (rs, y)) := by show _ = _; rw [HC0.out, hrs, hy]
          rw [hrs, hx, hy] at hT
          rw [hrs] at hrl
          clear hv7 hn4 hi hr h5 h5' hle hls hh hO HC0 hrs hx hy
          go_enter Tryz.func20, Tryz.ntmps20
          go_wp2_with (first | (go_at_call 50; refine (spec_Kind_ok _ _).mono ?_; rintro e wx ⟨rfl, rfl⟩) | (go_at_call 61; refine hIs.mono ?_; rintro e w1 ⟨rfl, hk1⟩; have d0 := (b0.kept hk1).cell 0) | (go_at_call 62; refine (HO.out _ (k0.trans hk1)).mono ?_; rintro e w2 ⟨rfl, hk2⟩; have d00 := ((b0.kept hk1).kept hk2).cell 0) | (go_at_call 41; refine (l2Copy_ok _ ao cap zs ((hI.kept ((k0.trans hk1).trans hk2))) hl).mono ?_; rintro e wc ⟨gc, cc, rfl, hgc, hcc, hRc, hkc, szc⟩) | (go_at_call 64; refine (hT _ gc cc hRc).mono ?_; rintro e wm ⟨rfl, hRm, hGm⟩; have hs0 := hk1.size; have hs1 := hk2.size; simp only [World.size_alloc] at hs0; have xm := (((b1.kept hk1).kept hk2).kept hkc).grown hGm.1 (by intro e; simp at e; omega); have dm := xm.cell 0; have fm := xm.frozen 0; have lm := xm.lt))
          have km := (((k0.trans hk1).trans hk2).trans hkc).grownRow hGm.1 (fun k e => by cases e; omega)
          have q := ((xm.set1 (.slice (some ⟨gc, 0, none⟩) zs.length cc)).alloc (.cells #[.slice (some ⟨gc, 0, none⟩) zs.length cc] 26)).cell 0
          refine bodyPost_ret (v := .tuple #[.agg #[.slice (some ⟨gc, 0, none⟩) zs.length cc], .bool y]) (by simp [results, Tryz.results20, go_sem, q]) rfl ?_
          rw [HC.out]
          exact ⟨_, rfl, .inr ⟨gc, cc, by rw [hrl], by omega, by rw [hrl]; exact hcc, (hRm.other (by intro h; simp at h <;> omega) _).kept (Kept.alloc (Below.refl _ _) _)⟩, (km.set (by simp) _).alloc _, FullV.one (((hGm.2 _ szc).set _ _ _).kept (Kept.alloc (Below.refl _ _) _))⟩
  · have hn' : (name % 8 != 4) = true := by simp [hn4]
    have HC : Hid (propC zs obj name v = (zeroL zs, false)) := by simp [Hid, propC, hn4]
    clear hn4
    go_enter Tryz.func20, Tryz.ntmps20
    go_wp2_with (first | (go_at_call 50; refine (spec_Kind_ok _ _).mono ?_; rintro e wx ⟨rfl, rfl⟩) | (go_at_call 63; refine (HZ.out _ k0).mono ?_; rintro e wz ⟨vz, rfl, oz, hkz, fvz⟩; obtain ⟨laz, lcz, rfl, _⟩ := oz.ints; have xz := b1.kept hkz; have dz := xz.cell 0; have fz := xz.frozen 0; have lz := xz.lt))
    have q := (xz.set1 (.slice laz (zeroL zs).length lcz)).cell 0
    refine bodyPost_ret (v := .tuple #[.agg #[.slice laz (zeroL zs).length lcz], .bool false]) (by simp [results, Tryz.results20, go_sem, q]) rfl ?_
    rw [HC.out]
    refine ⟨_, rfl, ?_, (k0.trans hkz).set (by simp) _, fvz.set _ _ _⟩
    rcases oz with ⟨h1, h2⟩ | ⟨g3, c3, h1, h2, h3, h4⟩
    · exact .inl ⟨h1, h2⟩
    · simp only [World.size_alloc] at h2
      exact .inr ⟨g3, c3, h1, by omega, h3, h4.other (by intro h; simp at h <;> omega) _⟩
end Go.Proofs.YtpbafjcoomfooaaGreat
namespace Go.Proofs.YtpbafjcoomfooaaGreat
open Go.RowKit

def scoC (zs : List Int) (p : Int) (n : Nat) : List Int × Int × Bool := match ffB zs ((n : Int) + 2) with
  | none => (zs, 0, false)
  | some b => ((takeL zs b.1 5 (n + 2)).set (b.1.at' + 1) p, 8 * ((b.1.at' : Nat) : Int) + 7, true)
theorem scoC_len (zs : List Int) (p : Int) (n : Nat) : (scoC zs p n).1.length = zs.length := by
  unfold scoC
  split
  · rfl
  · simp [takeL_length]
def funC (zs : List Int) (p r : Int) : List Int × Int × Bool := match ffB zs 3 with
  | none => (zs, 0, false)
  | some b => (((takeL zs b.1 4 3).set (b.1.at' + 1) p).set (b.1.at' + 2) r, 8 * ((b.1.at' : Nat) : Int) + 6, true)
theorem funC_len (zs : List Int) (p r : Int) : (funC zs p r).1.length = zs.length := by
  unfold funC
  split
  · rfl
  · simp [takeL_length]
def scopeNewC (zs : List Int) (up n : Int) : List Int × Int × Bool := if (decide (up = 0) || decide (up % 8 = 7)) && rootsR zs [up] && decide (0 ≤ n ∧ n ≤ 12) then scoC zs up n.toNat else (zeroL zs, 0, false)
theorem scopeNewC_len (zs : List Int) (up n : Int) : (scopeNewC zs up n).1.length = zs.length ∨ (scopeNewC zs up n).1.length = 0 := by
  unfold scopeNewC
  split
  · exact .inl (scoC_len _ _ _)
  · exact zeroL_len zs
def funNewC (zs : List Int) (code scope : Int) : List Int × Int × Bool := if decide (0 ≤ code ∧ code ≤ 99) && isR zs [scope] 7 then funC zs code scope else (zeroL zs, 0, false)
theorem funNewC_len (zs : List Int) (code scope : Int) : (funNewC zs code scope).1.length = zs.length ∨ (funNewC zs code scope).1.length = 0 := by
  unfold funNewC
  split
  · exact .inl (funC_len _ _ _)
  · exact zeroL_len zs
set_option maxHeartbeats 4000000 in
set_option maxRecDepth 100000 in
theorem l6New_ok (w : World) (g cap : Nat) (zs : List Int) (p : Int) (n : Nat) (hR : Row w g zs) (hl : zs.length ≤ 1048576) (hok : slabOk zs = true) (hn : n ≤ 12) (hp : -9223372036854775808 ≤ p ∧ p ≤ 9223372036854775807) :
    Calls Tryz.prog 150 #[.agg #[.slice (some ⟨g, 0, none⟩) zs.length cap], .int .i64 p, .int .i64 n] w fun e w' =>
      e = .returned (.tuple #[.agg #[.slice (some ⟨g, 0, none⟩) zs.length cap], .int .i64 (scoC zs p n).2.1, .bool (scoC zs p n).2.2]) ∧ Row w' g (scoC zs p n).1 ∧ GS g w w' := by
  have hlen := (slabOk_iff.1 hok).1
  have b0 := (Cells.new w 26 #[.slice (some ⟨g, 0, none⟩) zs.length cap]).alloc (.cells #[.slice none 0 0] 26)
  have b1 := Cells.new (w.alloc (.cells #[.slice (some ⟨g, 0, none⟩) zs.length cap] 26)) 26 #[.slice none 0 0]
  have k0 : Kept w ((w.alloc (.cells #[.slice (some ⟨g, 0, none⟩) zs.length cap] 26)).alloc (.cells #[.slice none 0 0] 26)) := (Kept.alloc (Below.refl _ _) _).alloc _
  have hR0 := hR.kept k0
  have lg := hR.lt
  simp only [World.size_alloc] at b1
  have hT := l2Take_ok _ g cap zs 5 (n + 2) hR0 hl hok (by omega) (by omega) (by omega) (by omega)
  have en : ((n + 2 : Nat) : Int) = (n : Int) + 2 := by omega
  rw [en] at hT
  have c0 := b0.cell 0
  cases hff : ffB zs ((n : Int) + 2) with
  | none =>
    have HP : Hid (scoC zs p n = (zs, 0, false)) := by simp [Hid, scoC, hff]
    have hT' := hT.mono (R' := fun e w' => e = .returned (.tuple #[.agg #[.slice (some ⟨g, 0, none⟩) zs.length cap], .int .i64 0, .bool false]) ∧ Row w' g zs ∧ GS g _ w') (fun e w' h => ⟨(h.2.1 hff).1, (h.2.1 hff).2, h.2.2⟩)
    clear hff hT hok en
    go_enter Tryz.func150, Tryz.ntmps150
    go_wp2_with fail
    refine hT'.mono ?_
    rintro e w2 ⟨rfl, hr2, hg2⟩
    have y0 := b0.grown hg2.1 (by intro e; simp at e; omega)
    have y1 := b1.grown hg2.1 (by intro e; simp at e; omega)
    have d0 := (y0.alloc (.cells #[.slice (some ⟨g, 0, none⟩) zs.length cap] 26)).cell 0
    have z1 := y1.alloc (.cells #[.slice (some ⟨g, 0, none⟩) zs.length cap] 26)
    have d1 := z1.cell 0
    have e1 := z1.frozen 0
    clear c0
    go_wp2
    have q := (z1.set1 (.slice (some ⟨g, 0, none⟩) zs.length cap)).cell 0
    refine bodyPost_ret (v := .tuple #[.agg #[.slice (some ⟨g, 0, none⟩) zs.length cap], .int .i64 0, .bool false]) (by simp [results, Tryz.results150, go_sem, q]) rfl ?_
    rw [HP.out]
    exact ⟨rfl, (hr2.kept (Kept.alloc (Below.refl _ _) _)).other (by intro h; simp at h; omega) _, GS.setNew (GS.trans (GS.trans (GS.any k0 g) hg2) (GS.any (Kept.alloc (Below.refl _ _) _) g)) (by simp) _⟩
  | some b =>
    have hfr : freeP ((n : Int) + 2) b = true := List.find?_some hff
    have hble := b.2.2.1
    have hbs : n + 2 ≤ b.1.size := by simp [freeP] at hfr; omega
    obtain ⟨a, ha⟩ : ∃ a : Nat, b.1.at' = a := ⟨_, rfl⟩
    obtain ⟨ys, hys⟩ : ∃ ys, takeL zs b.1 5 (n + 2) = ys := ⟨_, rfl⟩
    have hyl : ys.length = zs.length := by rw [← hys, takeL_length]
    have HP : Hid (scoC zs p n = (ys.set (a + 1) p, 8 * (a : Int) + 7, true)) := by simp [Hid, scoC, hff, hys, ha]
    have hT' := hT.mono (R' := fun e w' => e = .returned (.tuple #[.agg #[.slice (some ⟨g, 0, none⟩) zs.length cap], .int .i64 (a : Int), .bool true]) ∧ Row w' g ys ∧ GS g _ w') (fun e w' h => ⟨by rw [(h.1 b hff).1, ha], by rw [← hys]; exact (h.1 b hff).2, h.2.2⟩)
    have hfit : a + (n + 2) ≤ zs.length := by omega
    clear hff hT hok en hfr hble hbs hys
    clear ha
    go_enter Tryz.func150, Tryz.ntmps150
    go_wp2_with fail
    refine hT'.mono ?_
    rintro e w2 ⟨rfl, hr2, hg2⟩
    have lg2 := hr2.lt
    have y1 := b1.grown hg2.1 (by intro e; simp at e; omega)
    have l1 := y1.lt
    have kA : ∀ W : World, Kept W (W.alloc (.cells #[.slice (some ⟨g, 0, none⟩) zs.length cap] 26)) := fun W => Kept.alloc (Below.refl _ W) _
    have hr3 := hr2.kept (kA w2)
    have cO0 := (Cells.new w2 26 #[.slice (some ⟨g, 0, none⟩) zs.length cap]).cell 0
    have cg := hr3.cell (j := a + 1) (by omega)
    have fg := hr3.frozen (a + 1)
    have p1 : (a : Int) + 1 < (zs.length : Int) := by omega
    have t1 : ((a : Int) + 1).toNat = a + 1 := by omega
    have o4 := Cells.new (w2.setCell ⟨g, a + 1, none⟩ (.int .i64 p)) 26 #[.slice (some ⟨g, 0, none⟩) zs.length cap]
    rw [show (w2.setCell ⟨g, a + 1, none⟩ (.int .i64 p)).heap.size = w2.heap.size by simp [World.setCell]] at o4
    have r4 := hr2.set (k := a + 1) (v := p) (by omega) hp
    have y4 := y1.other (p := ⟨g, a + 1, none⟩) (by intro h; simp at h; omega) (.int .i64 p)
    have G4 : GS g w (w2.setCell ⟨g, a + 1, none⟩ (.int .i64 p)) := GS.set (k := a + 1) (GS.trans (GS.any k0 g) hg2) (.int .i64 p)
    have cO := o4.cell 0
    have c4 := (y4.alloc (.cells #[.slice (some ⟨g, 0, none⟩) zs.length cap] 26)).cell 0
    have f4 := (y4.alloc (.cells #[.slice (some ⟨g, 0, none⟩) zs.length cap] 26)).frozen 0
    have H4 : Hid _ := And.intro r4 (And.intro y4 G4)
    clear c0 r4 y4 G4 o4
    go_wp2_with fail
    go_region_with (go_at_call 88; refine (spec_RefOf_ok _ _ _).mono ?_; rintro e wx ⟨rfl, rfl⟩)
    all_goals go_wp2_with fail
    all_goals (
      obtain ⟨r4, y4, G4⟩ := H4.out
      have q := (((y4.set1 (.slice (some ⟨g, 0, none⟩) zs.length cap)).kept (kA _)).kept (Below.refl _ _).drew).cell 0
      refine bodyPost_ret (v := .tuple #[.agg #[.slice (some ⟨g, 0, none⟩) zs.length cap], .int .i64 (vRef 7 (a : Int)), .bool true]) (by simp [results, Tryz.results150, go_sem, q]) rfl ?_
      rw [HP.out, vRef_yes (by omega)]
      exact ⟨rfl, ((r4.other (p := ⟨w.heap.size + 1, 0, none⟩) (by intro h; simp at h; omega) _).kept (kA _)).kept (Below.refl _ _).drew, GS.trans (GS.trans (GS.setNew G4 (by simp) _) (GS.any (kA _) g)) (GS.any (Below.refl _ _).drew g)⟩)
set_option maxHeartbeats 4000000 in
set_option maxRecDepth 100000 in
theorem l6Fun_ok (w : World) (g cap : Nat) (zs : List Int) (p r : Int) (hR : Row w g zs) (hl : zs.length ≤ 1048576) (hok : slabOk zs = true) (hp : -9223372036854775808 ≤ p ∧ p ≤ 9223372036854775807) (hr : -9223372036854775808 ≤ r ∧ r ≤ 9223372036854775807) :
    Calls Tryz.prog 151 #[.agg #[.slice (some ⟨g, 0, none⟩) zs.length cap], .int .i64 p, .int .i64 r] w fun e w' =>
      e = .returned (.tuple #[.agg #[.slice (some ⟨g, 0, none⟩) zs.length cap], .int .i64 (funC zs p r).2.1, .bool (funC zs p r).2.2]) ∧ Row w' g (funC zs p r).1 ∧ GS g w w' := by
  have hlen := (slabOk_iff.1 hok).1
  have b0 := (Cells.new w 26 #[.slice (some ⟨g, 0, none⟩) zs.length cap]).alloc (.cells #[.slice none 0 0] 26)
  have b1 := Cells.new (w.alloc (.cells #[.slice (some ⟨g, 0, none⟩) zs.length cap] 26)) 26 #[.slice none 0 0]
  have k0 : Kept w ((w.alloc (.cells #[.slice (some ⟨g, 0, none⟩) zs.length cap] 26)).alloc (.cells #[.slice none 0 0] 26)) := (Kept.alloc (Below.refl _ _) _).alloc _
  have hR0 := hR.kept k0
  have lg := hR.lt
  simp only [World.size_alloc] at b1
  have hT := l2Take_ok _ g cap zs 4 3 hR0 hl hok (by omega) (by omega) (by omega) (by omega)
  have c0 := b0.cell 0
  cases hff : ffB zs 3 with
  | none =>
    have HP : Hid (funC zs p r = (zs, 0, false)) := by simp [Hid, funC, hff]
    have hT' := hT.mono (R' := fun e w' => e = .returned (.tuple #[.agg #[.slice (some ⟨g, 0, none⟩) zs.length cap], .int .i64 0, .bool false]) ∧ Row w' g zs ∧ GS g _ w') (fun e w' h => ⟨(h.2.1 hff).1, (h.2.1 hff).2, h.2.2⟩)
    clear hff hT hok
    go_enter Tryz.func151, Tryz.ntmps151
    go_wp2_with fail
    refine hT'.mono ?_
    rintro e w2 ⟨rfl, hr2, hg2⟩
    have y0 := b0.grown hg2.1 (by intro e; simp at e; omega)
    have y1 := b1.grown hg2.1 (by intro e; simp at e; omega)
    have d0 := (y0.alloc (.cells #[.slice (some ⟨g, 0, none⟩) zs.length cap] 26)).cell 0
    have z1 := y1.alloc (.cells #[.slice (some ⟨g, 0, none⟩) zs.length cap] 26)
    have d1 := z1.cell 0
    have e1 := z1.frozen 0
    clear c0
    go_wp2
    have q := (z1.set1 (.slice (some ⟨g, 0, none⟩) zs.length cap)).cell 0
    refine bodyPost_ret (v := .tuple #[.agg #[.slice (some ⟨g, 0, none⟩) zs.length cap], .int .i64 0, .bool false]) (by simp [results, Tryz.results151, go_sem, q]) rfl ?_
    rw [HP.out]
    exact ⟨rfl, (hr2.kept (Kept.alloc (Below.refl _ _) _)).other (by intro h; simp at h; omega) _, GS.setNew (GS.trans (GS.trans (GS.any k0 g) hg2) (GS.any (Kept.alloc (Below.refl _ _) _) g)) (by simp) _⟩
  | some b =>
    have hfr : freeP ((3 : Nat) : Int) b = true := List.find?_some hff
    have hble := b.2.2.1
    have hbs : 3 ≤ b.1.size := by simp [freeP] at hfr; omega
    obtain ⟨a, ha⟩ : ∃ a : Nat, b.1.at' = a := ⟨_, rfl⟩
    obtain ⟨ys, hys⟩ : ∃ ys, takeL zs b.1 4 3 = ys := ⟨_, rfl⟩
    have hyl : ys.length = zs.length := by rw [← hys, takeL_length]
    have HP : Hid (funC zs p r = ((ys.set (a + 1) p).set (a + 2) r, 8 * (a : Int) + 6, true)) := by simp [Hid, funC, hff, hys, ha]
    have hT' := hT.mono (R' := fun e w' => e = .returned (.tuple #[.agg #[.slice (some ⟨g, 0, none⟩) zs.length cap], .int .i64 (a : Int), .bool true]) ∧ Row w' g ys ∧ GS g _ w') (fun e w' h => ⟨by rw [(h.1 b hff).1, ha], by rw [← hys]; exact (h.1 b hff).2, h.2.2⟩)
    have hfit : a + 3 ≤ zs.length := by omega
    clear hff hT hok hfr hble hbs hys
    clear ha
    go_enter Tryz.func151, Tryz.ntmps151
    go_wp2_with fail
    refine hT'.mono ?_
    rintro e w2 ⟨rfl, hr2, hg2⟩
    have lg2 := hr2.lt
    have y1 := b1.grown hg2.1 (by intro e; simp at e; omega)
    have l1 := y1.lt
    have kA : ∀ W : World, Kept W (W.alloc (.cells #[.slice (some ⟨g, 0, none⟩) zs.length cap] 26)) := fun W => Kept.alloc (Below.refl _ W) _
    have hr3 := hr2.kept (kA w2)
    have cO0 := (Cells.new w2 26 #[.slice (some ⟨g, 0, none⟩) zs.length cap]).cell 0
    have cg := hr3.cell (j := a + 1) (by omega)
    have fg := hr3.frozen (a + 1)
    have p1 : (a : Int) + 1 < (zs.length : Int) := by omega
    have t1 : ((a : Int) + 1).toNat = a + 1 := by omega
    have o4 := Cells.new (w2.setCell ⟨g, a + 1, none⟩ (.int .i64 p)) 26 #[.slice (some ⟨g, 0, none⟩) zs.length cap]
    rw [show (w2.setCell ⟨g, a + 1, none⟩ (.int .i64 p)).heap.size = w2.heap.size by simp [World.setCell]] at o4
    have r4' := hr2.set (k := a + 1) (v := p) (by omega) hp
    have r4 := r4'.set (k := a + 2) (v := r) (by simp; omega) hr
    have cg2 := (r4'.kept (kA _)).cell (j := a + 2) (by simp; omega)
    have fg2 := (r4'.kept (kA _)).frozen (a + 2)
    have p2 : (a : Int) + 2 < (zs.length : Int) := by omega
    have t2 : ((a : Int) + 2).toNat = a + 2 := by omega
    have o5 := Cells.new ((w2.setCell ⟨g, a + 1, none⟩ (.int .i64 p)).setCell ⟨g, a + 2, none⟩ (.int .i64 r)) 26 #[.slice (some ⟨g, 0, none⟩) zs.length cap]
    rw [show ((w2.setCell ⟨g, a + 1, none⟩ (.int .i64 p)).setCell ⟨g, a + 2, none⟩ (.int .i64 r)).heap.size = w2.heap.size by simp [World.setCell]] at o5
    have cO5 := o5.cell 0
    have y4 := (y1.other (p := ⟨g, a + 1, none⟩) (by intro h; simp at h; omega) (.int .i64 p)).other (p := ⟨g, a + 2, none⟩) (by intro h; simp at h; omega) (.int .i64 r)
    have G4 : GS g w ((w2.setCell ⟨g, a + 1, none⟩ (.int .i64 p)).setCell ⟨g, a + 2, none⟩ (.int .i64 r)) := GS.set (k := a + 2) (GS.set (k := a + 1) (GS.trans (GS.any k0 g) hg2) (.int .i64 p)) (.int .i64 r)
    have cO := o4.cell 0
    have c4 := (y4.alloc (.cells #[.slice (some ⟨g, 0, none⟩) zs.length cap] 26)).cell 0
    have f4 := (y4.alloc (.cells #[.slice (some ⟨g, 0, none⟩) zs.length cap] 26)).frozen 0
    have H4 : Hid _ := And.intro r4 (And.intro y4 G4)
    clear c0 r4 r4' y4 G4 o4 o5
    go_wp2_with fail
    go_region_with (go_at_call 88; refine (spec_RefOf_ok _ _ _).mono ?_; rintro e wx ⟨rfl, rfl⟩)
    all_goals go_wp2_with fail
    all_goals (
      obtain ⟨r4, y4, G4⟩ := H4.out
      have q := (((y4.set1 (.slice (some ⟨g, 0, none⟩) zs.length cap)).kept (kA _)).kept (Below.refl _ _).drew).cell 0
      refine bodyPost_ret (v := .tuple #[.agg #[.slice (some ⟨g, 0, none⟩) zs.length cap], .int .i64 (vRef 6 (a : Int)), .bool true]) (by simp [results, Tryz.results151, go_sem, q]) rfl ?_
      rw [HP.out, vRef_yes (by omega)]
      exact ⟨rfl, ((r4.other (p := ⟨w.heap.size + 1, 0, none⟩) (by intro h; simp at h; omega) _).kept (kA _)).kept (Below.refl _ _).drew, GS.trans (GS.trans (GS.setNew G4 (by simp) _) (GS.any (kA _) g)) (GS.any (Below.refl _ _).drew g)⟩)
set_option maxHeartbeats 8000000 in
set_option maxRecDepth 100000 in
theorem spec_ScopeNew_ok (w : World) (ao : Option Addr) (cap : Nat) (zs : List Int) (up n : Int) (hI : Ints w ao zs) (hl : zs.length ≤ 1048576) (hu : -9223372036854775808 ≤ up ∧ up ≤ 9223372036854775807) :
    Calls Tryz.prog 132 #[.agg #[.slice ao zs.length cap], .int .i64 up, .int .i64 n] w fun e w' => ∃ u, e = .returned (.tuple #[.agg #[u], .int .i64 (scopeNewC zs up n).2.1, .bool (scopeNewC zs up n).2.2]) ∧ OwnR w' w.heap.size u (scopeNewC zs up n).1 ∧ Kept w w' ∧ FullV w' u := by
  have b0 := (Cells.new w 26 #[.slice ao zs.length cap]).alloc (.cells #[.slice none 0 0] 26)
  have b1 := Cells.new (w.alloc (.cells #[.slice ao zs.length cap] 26)) 26 #[.slice none 0 0]
  have k0 : Kept w ((w.alloc (.cells #[.slice ao zs.length cap] 26)).alloc (.cells #[.slice none 0 0] 26)) := (Kept.alloc (Below.refl _ _) _).alloc _
  simp only [World.size_alloc] at b1
  have HZ : Hid (∀ (u : World), Kept w u → Calls Tryz.prog 63 #[.agg #[.slice ao zs.length cap]] u fun e w' => ∃ v, e = .returned (.agg #[v]) ∧ OwnR w' u.heap.size v (zeroL zs) ∧ Kept u w' ∧ FullV w' v) := fun u hu => l5Zero_ok u ao cap zs (hI.kept hu) hl
  have c0' := b0.cell 0
  have hup : (up = 0 ∧ (up != 0) = false) ∨ (up ≠ 0 ∧ (up != 0) = true) := by
    by_cases h : up = 0
    · exact .inl ⟨h, by simp [h]⟩
    · exact .inr ⟨h, by simp [h]⟩
  by_cases hbad : up ≠ 0 ∧ up % 8 ≠ 7
  · have HC : Hid (scopeNewC zs up n = (zeroL zs, 0, false)) := by simp [Hid, scopeNewC, hbad.1, hbad.2]
    have h1 : (up != 0) = true := by simp [hbad.1]
    have h2 : (up % 8 != 7) = true := by simp [hbad.2]
    clear hup hbad
    go_enter Tryz.func132, Tryz.ntmps132
    go_wp2_with (first | (go_at_call 50; refine (spec_Kind_ok _ _).mono ?_; rintro e wx ⟨rfl, rfl⟩) | (go_at_call 63; refine (HZ.out _ k0).mono ?_; rintro e wz ⟨vz, rfl, oz, hkz, fvz⟩; obtain ⟨laz, lcz, rfl, _⟩ := oz.ints; have xz := b1.kept hkz; have dz := xz.cell 0; have fz := xz.frozen 0; have lz := xz.lt))
    have q := (xz.set1 (.slice laz (zeroL zs).length lcz)).cell 0
    refine bodyPost_ret (v := .tuple #[.agg #[.slice laz (zeroL zs).length lcz], .int .i64 0, .bool false]) (by simp [results, Tryz.results132, go_sem, q]) rfl ?_
    rw [HC.out]
    refine ⟨_, rfl, ?_, (k0.trans hkz).set (by simp) _, fvz.set _ _ _⟩
    rcases oz with ⟨h1, h2⟩ | ⟨g3, c3, h1, h2, h3, h4⟩
    · exact .inl ⟨h1, h2⟩
    · simp only [World.size_alloc] at h2
      exact .inr ⟨g3, c3, h1, by omega, h3, h4.other (by intro h; simp at h <;> omega) _⟩
  · have hgood : (decide (up = 0) || decide (up % 8 = 7)) = true := by
      simp only [Bool.or_eq_true, decide_eq_true_eq]; omega
    have hIs := RootsOk_at _ ao cap zs [up] 1 #[.int .i64 up] rfl rfl (by simpa using hu) (by omega) (hI.kept k0) hl
    simp only [World.size_alloc] at hIs
    have c0 := (b0.alloc (.cells #[.int .i64 up] 3)).cell 0
    have h7 : up ≠ 0 → (up % 8 != 7) = false := fun h => by simp; omega
    cases hr : rootsR zs [up] with
    | false =>
      have HC : Hid (scopeNewC zs up n = (zeroL zs, 0, false)) := by simp [Hid, scopeNewC, hr]
      rw [hr] at hIs
      rcases hup with ⟨hu0, hu1⟩ | ⟨hu0, hu1⟩
      · clear hgood hbad h7 hr hu0
        go_enter Tryz.func132, Tryz.ntmps132
        go_wp2_with (first | (go_at_call 50; refine (spec_Kind_ok _ _).mono ?_; rintro e wx ⟨rfl, rfl⟩) | (go_at_call 71; refine hIs.mono ?_; rintro e w1 ⟨rfl, hk1⟩; have d0 := (b0.kept hk1).cell 0) | (go_at_call 63; refine (HZ.out _ (k0.trans hk1)).mono ?_; rintro e wz ⟨vz, rfl, oz, hkz, fvz⟩; obtain ⟨laz, lcz, rfl, _⟩ := oz.ints; have xz := (b1.kept hk1).kept hkz; have dz := xz.cell 0; have fz := xz.frozen 0; have lz := xz.lt))
        have hs0 := hk1.size
        simp only [World.size_alloc] at hs0
        have q := (xz.set1 (.slice laz (zeroL zs).length lcz)).cell 0
        refine bodyPost_ret (v := .tuple #[.agg #[.slice laz (zeroL zs).length lcz], .int .i64 0, .bool false]) (by simp [results, Tryz.results132, go_sem, q]) rfl ?_
        rw [HC.out]
        refine ⟨_, rfl, ?_, ((k0.trans hk1).trans hkz).set (by simp) _, fvz.set _ _ _⟩
        rcases oz with ⟨h1, h2⟩ | ⟨g3, c3, h1, h2, h3, h4⟩
        · exact .inl ⟨h1, h2⟩
        · exact .inr ⟨g3, c3, h1, by omega, h3, h4.other (by intro h; simp at h <;> omega) _⟩
      · have h7' := h7 hu0
        clear hgood hbad h7 hr hu0
        go_enter Tryz.func132, Tryz.ntmps132
        go_wp2_with (first | (go_at_call 50; refine (spec_Kind_ok _ _).mono ?_; rintro e wx ⟨rfl, rfl⟩) | (go_at_call 71; refine hIs.mono ?_; rintro e w1 ⟨rfl, hk1⟩; have d0 := (b0.kept hk1).cell 0) | (go_at_call 63; refine (HZ.out _ (k0.trans hk1)).mono ?_; rintro e wz ⟨vz, rfl, oz, hkz, fvz⟩; obtain ⟨laz, lcz, rfl, _⟩ := oz.ints; have xz := (b1.kept hk1).kept hkz; have dz := xz.cell 0; have fz := xz.frozen 0; have lz := xz.lt))
        have hs0 := hk1.size
        simp only [World.size_alloc] at hs0
        have q := (xz.set1 (.slice laz (zeroL zs).length lcz)).cell 0
        refine bodyPost_ret (v := .tuple #[.agg #[.slice laz (zeroL zs).length lcz], .int .i64 0, .bool false]) (by simp [results, Tryz.results132, go_sem, q]) rfl ?_
        rw [HC.out]
        refine ⟨_, rfl, ?_, ((k0.trans hk1).trans hkz).set (by simp) _, fvz.set _ _ _⟩
        rcases oz with ⟨h1, h2⟩ | ⟨g3, c3, h1, h2, h3, h4⟩
        · exact .inl ⟨h1, h2⟩
        · exact .inr ⟨g3, c3, h1, by omega, h3, h4.other (by intro h; simp at h <;> omega) _⟩
    | true =>
      rw [hr] at hIs
      by_cases hn : 0 ≤ n ∧ n ≤ 12
      · obtain ⟨m, rfl⟩ : ∃ m : Nat, n = m := ⟨n.toNat, by omega⟩
        have hok := heapR_slab (rootsR_heap hr)
        have HC0 : Hid (scopeNewC zs up m = scoC zs up m) := by simp only [Hid, scopeNewC, hgood, hr, hn, Int.toNat_natCast]; simp
        have hT := fun (u : World) (g c : Nat) (hR : Row u g zs) => l6New_ok u g c zs up m hR hl hok (by omega) hu
        have hrl := scoC_len zs up m
        obtain ⟨rs, hrs⟩ : ∃ rs, (scoC zs up m).1 = rs := ⟨_, rfl⟩
        obtain ⟨x, hx⟩ : ∃ x, (scoC zs up m).2.1 = x := ⟨_, rfl⟩
        obtain ⟨y, hy⟩ : ∃ y, (scoC zs up m).2.2 = y := ⟨_, rfl⟩
        have HC : Hid (scopeNewC zs up m = (rs, x, y)) := by show _ = _; rw [HC0.out, ← hrs, ← hx, ← hy]
        rw [hrs, hx, hy] at hT
        rw [hrs] at hrl
        have hin := fun (u : World) => l1In_yes (m : Int) 0 12 u hn.1 hn.2
        have HN : Hid _ := hin
        rcases hup with ⟨hu0, hu1⟩ | ⟨hu0, hu1⟩
        · clear hgood hbad h7 hr hu0 hok HC0 hrs hx hy hin hn
          go_enter Tryz.func132, Tryz.ntmps132
          go_wp2_with (first | (go_at_call 50; refine (spec_Kind_ok _ _).mono ?_; rintro e wx ⟨rfl, rfl⟩) | (go_at_call 71; refine hIs.mono ?_; rintro e w1 ⟨rfl, hk1⟩; have d0 := (b0.kept hk1).cell 0) | (go_at_call 124; refine (HN.out _).mono ?_; rintro e wx ⟨rfl, rfl⟩) | (go_at_call 41; refine (l2Copy_ok _ ao cap zs ((hI.kept (k0.trans hk1))) hl).mono ?_; rintro e wc ⟨gc, cc, rfl, hgc, hcc, hRc, hkc, szc⟩) | (go_at_call 150; refine (hT _ gc cc hRc).mono ?_; rintro e wm ⟨rfl, hRm, hGm⟩; have hs0 := hk1.size; simp only [World.size_alloc] at hs0; have xm := ((b1.kept hk1).kept hkc).grown hGm.1 (by intro e; simp at e; omega); have dm := xm.cell 0; have fm := xm.frozen 0; have lm := xm.lt))
          have km := ((k0.trans hk1).trans hkc).grownRow hGm.1 (fun k e => by cases e; omega)
          have q := ((xm.set1 (.slice (some ⟨gc, 0, none⟩) zs.length cc)).alloc (.cells #[.slice (some ⟨gc, 0, none⟩) zs.length cc] 26)).cell 0
          refine bodyPost_ret (v := .tuple #[.agg #[.slice (some ⟨gc, 0, none⟩) zs.length cc], .int .i64 x, .bool y]) (by simp [results, Tryz.results132, go_sem, q]) rfl ?_
          rw [HC.out]
          exact ⟨_, rfl, .inr ⟨gc, cc, by rw [hrl], by omega, by rw [hrl]; exact hcc, (hRm.other (by intro h; simp at h <;> omega) _).kept (Kept.alloc (Below.refl _ _) _)⟩, (km.set (by simp) _).alloc _, FullV.one (((hGm.2 _ szc).set _ _ _).kept (Kept.alloc (Below.refl _ _) _))⟩
        · have h7' := h7 hu0
          clear hgood hbad h7 hr hu0 hok HC0 hrs hx hy hin hn
          go_enter Tryz.func132, Tryz.ntmps132
          go_wp2_with (first | (go_at_call 50; refine (spec_Kind_ok _ _).mono ?_; rintro e wx ⟨rfl, rfl⟩) | (go_at_call 71; refine hIs.mono ?_; rintro e w1 ⟨rfl, hk1⟩; have d0 := (b0.kept hk1).cell 0) | (go_at_call 124; refine (HN.out _).mono ?_; rintro e wx ⟨rfl, rfl⟩) | (go_at_call 41; refine (l2Copy_ok _ ao cap zs ((hI.kept (k0.trans hk1))) hl).mono ?_; rintro e wc ⟨gc, cc, rfl, hgc, hcc, hRc, hkc, szc⟩) | (go_at_call 150; refine (hT _ gc cc hRc).mono ?_; rintro e wm ⟨rfl, hRm, hGm⟩; have hs0 := hk1.size; simp only [World.size_alloc] at hs0; have xm := ((b1.kept hk1).kept hkc).grown hGm.1 (by intro e; simp at e; omega); have dm := xm.cell 0; have fm := xm.frozen 0; have lm := xm.lt))
          have km := ((k0.trans hk1).trans hkc).grownRow hGm.1 (fun k e => by cases e; omega)
          have q := ((xm.set1 (.slice (some ⟨gc, 0, none⟩) zs.length cc)).alloc (.cells #[.slice (some ⟨gc, 0, none⟩) zs.length cc] 26)).cell 0
          refine bodyPost_ret (v := .tuple #[.agg #[.slice (some ⟨gc, 0, none⟩) zs.length cc], .int .i64 x, .bool y]) (by simp [results, Tryz.results132, go_sem, q]) rfl ?_
          rw [HC.out]
          exact ⟨_, rfl, .inr ⟨gc, cc, by rw [hrl], by omega, by rw [hrl]; exact hcc, (hRm.other (by intro h; simp at h <;> omega) _).kept (Kept.alloc (Below.refl _ _) _)⟩, (km.set (by simp) _).alloc _, FullV.one (((hGm.2 _ szc).set _ _ _).kept (Kept.alloc (Below.refl _ _) _))⟩
      · have HC : Hid (scopeNewC zs up n = (zeroL zs, 0, false)) := by simp [Hid, scopeNewC]; omega
        have hin := fun (u : World) => l1In_no n 0 12 u (by omega)
        have HN : Hid _ := hin
        rcases hup with ⟨hu0, hu1⟩ | ⟨hu0, hu1⟩
        · clear hgood hbad h7 hr hu0 hin hn
          go_enter Tryz.func132, Tryz.ntmps132
          go_wp2_with (first | (go_at_call 50; refine (spec_Kind_ok _ _).mono ?_; rintro e wx ⟨rfl, rfl⟩) | (go_at_call 71; refine hIs.mono ?_; rintro e w1 ⟨rfl, hk1⟩; have d0 := (b0.kept hk1).cell 0) | (go_at_call 124; refine (HN.out _).mono ?_; rintro e wx ⟨rfl, rfl⟩) | (go_at_call 63; refine (HZ.out _ (k0.trans hk1)).mono ?_; rintro e wz ⟨vz, rfl, oz, hkz, fvz⟩; obtain ⟨laz, lcz, rfl, _⟩ := oz.ints; have xz := (b1.kept hk1).kept hkz; have dz := xz.cell 0; have fz := xz.frozen 0; have lz := xz.lt))
          have hs0 := hk1.size
          simp only [World.size_alloc] at hs0
          have q := (xz.set1 (.slice laz (zeroL zs).length lcz)).cell 0
          refine bodyPost_ret (v := .tuple #[.agg #[.slice laz (zeroL zs).length lcz], .int .i64 0, .bool false]) (by simp [results, Tryz.results132, go_sem, q]) rfl ?_
          rw [HC.out]
          refine ⟨_, rfl, ?_, ((k0.trans hk1).trans hkz).set (by simp) _, fvz.set _ _ _⟩
          rcases oz with ⟨h1, h2⟩ | ⟨g3, c3, h1, h2, h3, h4⟩
          · exact .inl ⟨h1, h2⟩
          · exact .inr ⟨g3, c3, h1, by omega, h3, h4.other (by intro h; simp at h <;> omega) _⟩
        · have h7' := h7 hu0
          clear hgood hbad h7 hr hu0 hin hn
          go_enter Tryz.func132, Tryz.ntmps132
          go_wp2_with (first | (go_at_call 50; refine (spec_Kind_ok _ _).mono ?_; rintro e wx ⟨rfl, rfl⟩) | (go_at_call 71; refine hIs.mono ?_; rintro e w1 ⟨rfl, hk1⟩; have d0 := (b0.kept hk1).cell 0) | (go_at_call 124; refine (HN.out _).mono ?_; rintro e wx ⟨rfl, rfl⟩) | (go_at_call 63; refine (HZ.out _ (k0.trans hk1)).mono ?_; rintro e wz ⟨vz, rfl, oz, hkz, fvz⟩; obtain ⟨laz, lcz, rfl, _⟩ := oz.ints; have xz := (b1.kept hk1).kept hkz; have dz := xz.cell 0; have fz := xz.frozen 0; have lz := xz.lt))
          have hs0 := hk1.size
          simp only [World.size_alloc] at hs0
          have q := (xz.set1 (.slice laz (zeroL zs).length lcz)).cell 0
          refine bodyPost_ret (v := .tuple #[.agg #[.slice laz (zeroL zs).length lcz], .int .i64 0, .bool false]) (by simp [results, Tryz.results132, go_sem, q]) rfl ?_
          rw [HC.out]
          refine ⟨_, rfl, ?_, ((k0.trans hk1).trans hkz).set (by simp) _, fvz.set _ _ _⟩
          rcases oz with ⟨h1, h2⟩ | ⟨g3, c3, h1, h2, h3, h4⟩
          · exact .inl ⟨h1, h2⟩
          · exact .inr ⟨g3, c3, h1, by omega, h3, h4.other (by intro h; simp at h <;> omega) _⟩
set_option maxHeartbeats 8000000 in
set_option maxRecDepth 100000 in
theorem spec_FunNew_ok (w : World) (ao : Option Addr) (cap : Nat) (zs : List Int) (code scope : Int) (hI : Ints w ao zs) (hl : zs.length ≤ 1048576) (hs : -9223372036854775808 ≤ scope ∧ scope ≤ 9223372036854775807) :
    Calls Tryz.prog 133 #[.agg #[.slice ao zs.length cap], .int .i64 code, .int .i64 scope] w fun e w' => ∃ u, e = .returned (.tuple #[.agg #[u], .int .i64 (funNewC zs code scope).2.1, .bool (funNewC zs code scope).2.2]) ∧ OwnR w' w.heap.size u (funNewC zs code scope).1 ∧ Kept w w' ∧ FullV w' u := by
  have b0 := (Cells.new w 26 #[.slice ao zs.length cap]).alloc (.cells #[.slice none 0 0] 26)
  have b1 := Cells.new (w.alloc (.cells #[.slice ao zs.length cap] 26)) 26 #[.slice none 0 0]
  have k0 : Kept w ((w.alloc (.cells #[.slice ao zs.length cap] 26)).alloc (.cells #[.slice none 0 0] 26)) := (Kept.alloc (Below.refl _ _) _).alloc _
  simp only [World.size_alloc] at b1
  have HZ : Hid (∀ (u : World), Kept w u → Calls Tryz.prog 63 #[.agg #[.slice ao zs.length cap]] u fun e w' => ∃ v, e = .returned (.agg #[v]) ∧ OwnR w' u.heap.size v (zeroL zs) ∧ Kept u w' ∧ FullV w' v) := fun u hu => l5Zero_ok u ao cap zs (hI.kept hu) hl
  have c0' := b0.cell 0
  by_cases hn : 0 ≤ code ∧ code ≤ 99
  · have hin := fun (u : World) => l1In_yes code 0 99 u hn.1 hn.2
    have HN : Hid _ := hin
    have hIs := l5Is_at _ ao cap zs [scope] 1 7 #[.int .i64 scope] rfl rfl (by simpa using hs) (by omega) (by omega) (hI.kept k0) hl
    simp only [World.size_alloc] at hIs
    have c0 := (b0.alloc (.cells #[.int .i64 scope] 3)).cell 0
    cases hi : isR zs [scope] 7 with
    | false =>
      have HC : Hid (funNewC zs code scope = (zeroL zs, 0, false)) := by simp [Hid, funNewC, hi]
      rw [hi] at hIs
      clear hi hin hn
      go_enter Tryz.func133, Tryz.ntmps133
      go_wp2_with (first | (go_at_call 124; refine (HN.out _).mono ?_; rintro e wx ⟨rfl, rfl⟩) | (go_at_call 61; refine hIs.mono ?_; rintro e w1 ⟨rfl, hk1⟩; have d0 := (b0.kept hk1).cell 0) | (go_at_call 63; refine (HZ.out _ (k0.trans hk1)).mono ?_; rintro e wz ⟨vz, rfl, oz, hkz, fvz⟩; obtain ⟨laz, lcz, rfl, _⟩ := oz.ints; have xz := (b1.kept hk1).kept hkz; have dz := xz.cell 0; have fz := xz.frozen 0; have lz := xz.lt))
      have hs0 := hk1.size
      simp only [World.size_alloc] at hs0
      have q := (xz.set1 (.slice laz (zeroL zs).length lcz)).cell 0
      refine bodyPost_ret (v := .tuple #[.agg #[.slice laz (zeroL zs).length lcz], .int .i64 0, .bool false]) (by simp [results, Tryz.results133, go_sem, q]) rfl ?_
      rw [HC.out]
      refine ⟨_, rfl, ?_, ((k0.trans hk1).trans hkz).set (by simp) _, fvz.set _ _ _⟩
      rcases oz with ⟨h1, h2⟩ | ⟨g3, c3, h1, h2, h3, h4⟩
      · exact .inl ⟨h1, h2⟩
      · exact .inr ⟨g3, c3, h1, by omega, h3, h4.other (by intro h; simp at h <;> omega) _⟩
    | true =>
      rw [hi] at hIs
      have hok := heapR_slab (isR_facts hi).1
      have HC0 : Hid (funNewC zs code scope = funC zs code scope) := by simp [Hid, funNewC, hi, hn]
      have hT := fun (u : World) (g c : Nat) (hR : Row u g zs) => l6Fun_ok u g c zs code scope hR hl hok ⟨by omega, by omega⟩ hs
      have hrl := funC_len zs code scope
      obtain ⟨rs, hrs⟩ : ∃ rs, (funC zs code scope).1 = rs := ⟨_, rfl⟩
      obtain ⟨x, hx⟩ : ∃ x, (funC zs code scope).2.1 = x := ⟨_, rfl⟩
      obtain ⟨y, hy⟩ : ∃ y, (funC zs code scope).2.2 = y := ⟨_, rfl⟩
      have HC : Hid (funNewC zs code scope = (rs, x, y)) := by show _ = _; rw [HC0.out, ← hrs, ← hx, ← hy]
      rw [hrs, hx, hy] at hT
      rw [hrs] at hrl
      clear hi hin hn hok HC0 hrs hx hy
      go_enter Tryz.func133, Tryz.ntmps133
      go_wp2_with (first | (go_at_call 124; refine (HN.out _).mono ?_; rintro e wx ⟨rfl, rfl⟩) | (go_at_call 61; refine hIs.mono ?_; rintro e w1 ⟨rfl, hk1⟩; have d0 := (b0.kept hk1).cell 0) | (go_at_call 41; refine (l2Copy_ok _ ao cap zs ((hI.kept (k0.trans hk1))) hl).mono ?_; rintro e wc ⟨gc, cc, rfl, hgc, hcc, hRc, hkc, szc⟩) | (go_at_call 151; refine (hT _ gc cc hRc).mono ?_; rintro e wm ⟨rfl, hRm, hGm⟩; have hs0 := hk1.size; simp only [World.size_alloc] at hs0; have xm := ((b1.kept hk1).kept hkc).grown hGm.1 (by intro e; simp at e; omega); have dm := xm.cell 0; have fm := xm.frozen 0; have lm := xm.lt))
      have km := ((k0.trans hk1).trans hkc).grownRow hGm.1 (fun k e => by cases e; omega)
      have q := ((xm.set1 (.slice (some ⟨gc, 0, none⟩) zs.length cc)).alloc (.cells #[.slice (some ⟨gc, 0, none⟩) zs.length cc] 26)).cell 0
      refine bodyPost_ret (v := .tuple #[.agg #[.slice (some ⟨gc, 0, none⟩) zs.length cc], .int .i64 x, .bool y]) (by simp [results, Tryz.results133, go_sem, q]) rfl ?_
      rw [HC.out]
      exact ⟨_, rfl, .inr ⟨gc, cc, by rw [hrl], by omega, by rw [hrl]; exact hcc, (hRm.other (by intro h; simp at h <;> omega) _).kept (Kept.alloc (Below.refl _ _) _)⟩, (km.set (by simp) _).alloc _, FullV.one (((hGm.2 _ szc).set _ _ _).kept (Kept.alloc (Below.refl _ _) _))⟩
  · have hin := fun (u : World) => l1In_no code 0 99 u (by omega)
    have HN : Hid _ := hin
    have HC : Hid (funNewC zs code scope = (zeroL zs, 0, false)) := by
      have : decide (0 ≤ code ∧ code ≤ 99) = false := by simpa using hn
      simp only [Hid, funNewC, this]; simp
    clear hin hn
    go_enter Tryz.func133, Tryz.ntmps133
    go_wp2_with (first | (go_at_call 124; refine (HN.out _).mono ?_; rintro e wx ⟨rfl, rfl⟩) | (go_at_call 63; refine (HZ.out _ k0).mono ?_; rintro e wz ⟨vz, rfl, oz, hkz, fvz⟩; obtain ⟨laz, lcz, rfl, _⟩ := oz.ints; have xz := b1.kept hkz; have dz := xz.cell 0; have fz := xz.frozen 0; have lz := xz.lt))
    have q := (xz.set1 (.slice laz (zeroL zs).length lcz)).cell 0
    refine bodyPost_ret (v := .tuple #[.agg #[.slice laz (zeroL zs).length lcz], .int .i64 0, .bool false]) (by simp [results, Tryz.results133, go_sem, q]) rfl ?_
    rw [HC.out]
    refine ⟨_, rfl, ?_, (k0.trans hkz).set (by simp) _, fvz.set _ _ _⟩
    rcases oz with ⟨h1, h2⟩ | ⟨g3, c3, h1, h2, h3, h4⟩
    · exact .inl ⟨h1, h2⟩
    · simp only [World.size_alloc] at h2
      exact .inr ⟨g3, c3, h1, by omega, h3, h4.other (by intro h; simp at h <;> omega) _⟩
end Go.Proofs.YtpbafjcoomfooaaGreat
namespace Go.Proofs.YtpbafjcoomfooaaGreat
open Go.RowKit

/-- The scope so many further out. -/
def outF (zs : List Int) : Nat → Int → Option Int
  | 0, v => some v
  | d + 1, v => if hz zs (plc v + 1) = 0 then none else outF zs d (hz zs (plc v + 1))
def outV : Option Int → Value
  | some v => .tuple #[.int .i64 v, .bool true]
  | none => .tuple #[.int .i64 0, .bool false]
theorem outF_facts {zs : List Int} (hh : heapR zs = true) : ∀ (d : Nat) (v x : Int), v % 8 = 7 → leadsR zs v 5 = true → outF zs d v = some x → x % 8 = 7 ∧ leadsR zs x 5 = true
  | 0, v, x, h7, hv, he => by simp [outF] at he; subst he; exact ⟨h7, hv⟩
  | d + 1, v, x, h7, hv, he => by
    obtain ⟨n, s, hn, hle, hs, _, hx⟩ := scope_facts hh h7 hv
    rw [outF, plc_is hn] at he
    split at he
    · cases he
    · rename_i h0
      obtain ⟨h1, h2⟩ := next_leads hx h0
      exact outF_facts hh d _ x h1 h2 he
def placeV (zs : List Int) (i : Int) : Option Int → Int
  | some x => if 0 ≤ i ∧ i ≤ hz zs (plc x) / 8 - 3 then ((plc x : Nat) : Int) + 2 + i else -1
  | none => -1
def placeC (zs : List Int) (scope : Int) (d : Nat) (i : Int) : Int := placeV zs i (outF zs d scope)
theorem placeC_facts {zs : List Int} (hh : heapR zs = true) {scope : Int} (h7 : scope % 8 = 7) (hv : leadsR zs scope 5 = true) (d : Nat) (i : Int) : placeC zs scope d i = -1 ∨ ∃ p : Nat, placeC zs scope d i = p ∧ p < zs.length := by
  unfold placeC
  cases he : outF zs d scope with
  | none => exact .inl rfl
  | some x =>
    obtain ⟨h1, h2⟩ := outF_facts hh d scope x h7 hv he
    obtain ⟨n, s, hn, hle, hs, h8, _⟩ := scope_facts hh h1 h2
    simp only [placeV]
    rw [plc_is hn]
    split
    · exact .inr ⟨n + 2 + i.toNat, by omega, by omega⟩
    · exact .inl rfl
def varC (zs : List Int) (scope d i v : Int) : List Int × Bool :=
  if decide (0 ≤ d ∧ d ≤ 2000) && decide (v % 8 ≠ 7) && isR zs [scope, v] 7 then (if placeC zs scope d.toNat i < 0 then (zs, false) else (zs.set (placeC zs scope d.toNat i).toNat v, true)) else (zeroL zs, false)
theorem varC_len (zs : List Int) (scope d i v : Int) : (varC zs scope d i v).1.length = zs.length ∨ (varC zs scope d i v).1.length = 0 := by
  unfold varC
  split
  · split <;> simp
  · exact zeroL_len zs

set_option maxHeartbeats 8000000 in
set_option maxRecDepth 100000 in
theorem l6At_ok (w : World) (ao : Option Addr) (cap : Nat) (zs : List Int) (scope : Int) (d : Nat) (hI : Ints w ao zs) (hl : zs.length ≤ 1048576) (hh : heapR zs = true) (h7 : scope % 8 = 7) (hv : leadsR zs scope 5 = true) (hd : d ≤ 2000) :
    Calls Tryz.prog 158 #[.agg #[.slice ao zs.length cap], .int .i64 scope, .int .i64 d] w fun e w' => e = .returned (outV (outF zs d scope)) ∧ Kept w w' := by
  obtain ⟨a, s, ha, hle, hs, _, _⟩ := scope_facts hh h7 hv
  have b0 := Cells.new w 26 #[.slice ao zs.length cap]
  have k0 : Kept w (w.alloc (.cells #[.slice ao zs.length cap] 26)) := Kept.alloc (Below.refl _ _) _
  have HH : Hid (heapR zs = true) := hh
  obtain ⟨bb, off, rfl, hc⟩ := hI.at (k := a) (by omega)
  have hcell : ∀ (j : Nat) (u : World), j < zs.length → Kept w u → u.cell? ⟨bb, off + j, none⟩ = some (.int .i64 (hz zs j)) := fun j u hj hu => (hu.cell (p := ⟨bb, off + j, none⟩) (World.block_lt_of_cell? _ _ (hc j hj))).trans (hc j hj)
  have HX : Hid _ := hcell
  have HB : Hid _ := fun (u : World) (hu : Kept (w.alloc (.cells #[.slice (some ⟨bb, off, none⟩) zs.length cap] 26)) u) => (b0.kept hu).cell 0
  obtain ⟨R, hR⟩ : ∃ R, outF zs d scope = R := ⟨_, rfl⟩
  rw [hR]
  clear hc hcell hI ha
  go_enter Tryz.func158, Tryz.ntmps158
  go_wp2_with fail
  go_loopw [1, 8] (fun s1 s8 wr => ∃ (v : Int) (k : Nat), s1 = .int .i64 v ∧ s8 = .int .i64 k ∧ k ≤ d ∧ v % 8 = 7 ∧ leadsR zs v 5 = true ∧ outF zs (d - k) v = R ∧ Kept (w.alloc (.cells #[.slice (some ⟨bb, off, none⟩) zs.length cap] 26)) wr) (fun _ s8 _ => d - (intOf s8).toNat)
  case atStart => exact ⟨scope, 0, rfl, rfl, Nat.zero_le _, h7, hv, hR, Below.refl _ _⟩
  case round =>
    obtain ⟨v, k, rfl, rfl, hk, hv7, hvl, hout, hK⟩ := hrel
    clear h7 hv hR
    by_cases hlt : k < d
    · obtain ⟨c, s', hc', hle', hs', _, hnx'⟩ := scope_facts HH.out hv7 hvl
      rw [show d - k = (d - (k + 1)) + 1 by omega, outF, plc_is hc'] at hout
      have q1 : (k : Int) < (d : Int) := by omega
      have x0 : ∀ u, Kept wr.drew u → u.cell? ⟨w.heap.size, 0, none⟩ = some (.slice (some ⟨bb, off, none⟩) zs.length cap) := fun u hu => HB.out u (hK.trans (Kept.trans (Below.refl _ _).drew hu))
      have x1 : ∀ u, Kept wr.drew u → u.cell? ⟨bb, off + (c + 1), none⟩ = some (.int .i64 (hz zs (c + 1))) := fun u hu => HX.out (c + 1) u (by omega) (k0.trans (hK.trans (Kept.trans (Below.refl _ _).drew hu)))
      have hN' : Hid (∀ u, Kept wr.drew u → Calls Tryz.prog 53 #[.int .i64 v] u fun e w' => e = .returned (.int .i64 (c : Int)) ∧ Kept u w') := fun u _ => Num_to v c hc' u
      have wr1 : IntKind.i64.wrap ((c : Int) + 1) = (c : Int) + 1 := by rw [IntWalk.i64_left, IntWalk.wrap64_in _ (by omega)]
      have t1 : ((c : Int) + 1).toNat = c + 1 := by omega
      have p1 : (c : Int) + 1 < (zs.length : Int) := by omega
      have HK : Hid _ := hK
      have HO : Hid _ := hout
      obtain ⟨y, hy⟩ : ∃ y, hz zs (c + 1) = y := ⟨_, rfl⟩
      simp only [hy] at x1 HO hnx'
      clear hv7 hvl hc' hK hout hy
      go_wp2_with fail
      refine wp_region_seqL (by kernel_rfl) (by kernel_rfl) ?_
      repeat (first
        | (refine SeqL.skip (by rfl) ?_; simp only [Act.put, List.setIfInBounds_toArray, List.set_cons_zero, List.set_cons_succ])
        | (refine SeqL.pure ?_ (by rfl) ?_ ?_; rotate_left; (focus (intro u hu; have x0' := x0 u hu; have x1' := x1 u hu; go_simp; first | done | exact rfl)); simp only [Act.put, List.setIfInBounds_toArray, List.set_cons_zero, List.set_cons_succ])
        | (refine SeqL.call _ _ _ (by rfl) ?_ hN'.out ?_; (focus (intro u; go_simp; done)); simp only [Act.put, List.setIfInBounds_toArray, List.set_cons_zero, List.set_cons_succ]))
      refine SeqL.nil ?_
      intro u hu
      have hK' := Kept.trans HK.out (Kept.trans (Below.refl _ _).drew hu)
      clear x0 x1 hN' wr1 t1 p1
      by_cases hy0 : y = 0
      · subst hy0
        have HR : Hid (none = R) := by show _ = _; have := HO.out; simpa using this
        go_wp2
        refine bodyPost_ret (v := .tuple #[.int .i64 0, .bool false]) (by simp [results, Tryz.results158, go_sem]) rfl ⟨by rw [← HR.out]; rfl, k0.trans hK'⟩
      · have hy' : (y == 0) = false := by simp [hy0]
        have HO2 : Hid (outF zs (d - (k + 1)) y = R) := by have := HO.out; rw [if_neg hy0] at this; exact this
        obtain ⟨n1, n2⟩ := next_leads hnx' hy0
        clear HO hy0
        go_wp2_with fail
        go_roundw
        case rel => exact ⟨y, k + 1, rfl, by go_num, by omega, n1, n2, HO2.out, hK'⟩
        case measure => simp [intOf]; omega
    · have hg : ¬ (k : Int) < (d : Int) := by omega
      rw [show d - k = 0 by omega, outF] at hout
      have HR : Hid (some v = R) := hout
      have HK : Hid (Kept w wr) := k0.trans hK
      clear hout hK
      go_wp2
      refine bodyPost_ret (v := .tuple #[.int .i64 v, .bool true]) (by simp [results, Tryz.results158, go_sem]) rfl ⟨by rw [← HR.out]; rfl, HK.out⟩
set_option maxHeartbeats 8000000 in
set_option maxRecDepth 100000 in
theorem l6Place_ok (w : World) (ao : Option Addr) (cap : Nat) (zs : List Int) (scope : Int) (d : Nat) (i : Int) (hI : Ints w ao zs) (hl : zs.length ≤ 1048576) (hh : heapR zs = true) (h7 : scope % 8 = 7) (hv : leadsR zs scope 5 = true) (hd : d ≤ 2000) (hib : -9223372036854775808 ≤ i ∧ i ≤ 9223372036854775807) :
    Calls Tryz.prog 152 #[.agg #[.slice ao zs.length cap], .int .i64 scope, .int .i64 d, .int .i64 i] w fun e w' => e = .returned (.int .i64 (placeC zs scope d i)) ∧ Kept w w' := by
  have b0 := Cells.new w 26 #[.slice ao zs.length cap]
  have k0 : Kept w (w.alloc (.cells #[.slice ao zs.length cap] 26)) := Kept.alloc (Below.refl _ _) _
  have hA := l6At_ok _ ao cap zs scope d (hI.kept k0) hl hh h7 hv hd
  have HP : Hid (placeC zs scope d i = placeV zs i (outF zs d scope)) := rfl
  have hlen := (slabOk_iff.1 (heapR_slab hh)).1
  cases ho : outF zs d scope with
  | none =>
    rw [ho] at hA
    have HR : Hid (placeC zs scope d i = -1) := by show _ = _; rw [HP.out, ho]; rfl
    simp only [outV] at hA
    clear ho HP hI hh hv h7
    go_enter Tryz.func152, Tryz.ntmps152
    go_wp2_with fail
    refine hA.mono ?_
    rintro e w1 ⟨rfl, hk1⟩
    go_wp2_with fail
    refine wp_region_seqL (by kernel_rfl) (by kernel_rfl) ?_
    repeat (first
      | (refine SeqL.skip (by rfl) ?_; simp only [Act.put, List.setIfInBounds_toArray, List.set_cons_zero, List.set_cons_succ])
      | (refine SeqL.pure ?_ (by rfl) ?_ ?_; rotate_left; (focus (intro u hu; go_simp; first | done | exact rfl)); simp only [Act.put, List.setIfInBounds_toArray, List.set_cons_zero, List.set_cons_succ])
    )
    refine SeqL.nil ?_
    intro u hu
    have HK : Hid (Kept w u) := Kept.trans (k0.trans hk1) (Kept.trans (Below.refl _ _).drew hu)
    go_wp2
    go_ret
    exact ⟨by rw [HR.out]; rfl, HK.out⟩
  | some x =>
    obtain ⟨hx1, hx2⟩ := outF_facts hh d scope x h7 hv ho
    obtain ⟨n, s, hn, hle, hs, h8, _⟩ := scope_facts hh hx1 hx2
    rw [ho] at hA
    have HR : Hid (placeC zs scope d i = if 0 ≤ i ∧ i ≤ (s : Int) - 3 then (n : Int) + 2 + i else -1) := by show _ = _; rw [HP.out, ho]; simp only [placeV]; rw [plc_is hn, h8]
    simp only [outV] at hA
    obtain ⟨bb, off, rfl, hc⟩ := hI.at (k := n) (by omega)
    have hcn := hc n (by omega)
    have hcell : ∀ (u : World), Kept w u → u.cell? ⟨bb, off + n, none⟩ = some (.int .i64 (hz zs n)) := fun u hu => (hu.cell (p := ⟨bb, off + n, none⟩) (World.block_lt_of_cell? _ _ hcn)).trans hcn
    have hS : ∀ u : World, Calls Tryz.prog 95 #[.int .i64 (hz zs n)] u fun e w' => e = .returned (.int .i64 (s : Int)) ∧ u = w' := fun u => by rw [← h8]; exact l2Size_ok _ _
    have hNm : ∀ u : World, Calls Tryz.prog 53 #[.int .i64 x] u fun e w' => e = .returned (.int .i64 (n : Int)) ∧ u = w' := fun u => by rw [← hn]; exact spec_Num_ok _ _
    have HX : Hid _ := hcell
    have HS : Hid _ := hS
    have HN : Hid _ := hNm
    have wr1 : IntKind.i64.wrap ((s : Int) - 3) = (s : Int) - 3 := by rw [IntWalk.i64_left, IntWalk.wrap64_in _ (by omega)]
    have t1 : ((n : Int)).toNat = n := by omega
    have p1 : (n : Int) < (zs.length : Int) := by omega
    clear ho HP hI hh hv h7 hx1 hx2 hn h8 hc hcn hcell hS hNm
    go_enter Tryz.func152, Tryz.ntmps152
    go_wp2_with fail
    refine hA.mono ?_
    rintro e w1 ⟨rfl, hk1⟩
    have x0 : ∀ u, Kept w1.drew u → u.cell? ⟨w.heap.size, 0, none⟩ = some (.slice (some ⟨bb, off, none⟩) zs.length cap) := fun u hu => ((b0.kept hk1).kept (Kept.trans (Below.refl _ _).drew hu)).cell 0
    have x1 : ∀ u, Kept w1.drew u → u.cell? ⟨bb, off + n, none⟩ = some (.int .i64 (hz zs n)) := fun u hu => HX.out u ((k0.trans hk1).trans (Kept.trans (Below.refl _ _).drew hu))
    have cS : Hid (∀ u, Kept w1.drew u → Calls Tryz.prog 95 #[.int .i64 (hz zs n)] u fun e w' => e = .returned (.int .i64 (s : Int)) ∧ Kept u w') := fun u _ => (HS.out u).mono (fun e w' ⟨h1, h2⟩ => ⟨h1, h2 ▸ Below.refl _ _⟩)
    have cN : Hid (∀ u, Kept w1.drew u → Calls Tryz.prog 53 #[.int .i64 x] u fun e w' => e = .returned (.int .i64 (n : Int)) ∧ Kept u w') := fun u _ => (HN.out u).mono (fun e w' ⟨h1, h2⟩ => ⟨h1, h2 ▸ Below.refl _ _⟩)
    by_cases hin : 0 ≤ i ∧ i ≤ (s : Int) - 3
    · have cI : Hid (∀ u, Kept w1.drew u → Calls Tryz.prog 124 #[.int .i64 i, .int .i64 0, .int .i64 ((s : Int) - 3)] u fun e w' => e = .returned (.bool true) ∧ Kept u w') := fun u _ => (l1In_yes i 0 ((s : Int) - 3) u hin.1 hin.2).mono (fun e w' ⟨h1, h2⟩ => ⟨h1, h2 ▸ Below.refl _ _⟩)
      have HR2 : Hid (placeC zs scope d i = (n : Int) + 2 + i) := by show _ = _; rw [HR.out, if_pos hin]
      go_wp2_with fail
      refine wp_region_seqL (by kernel_rfl) (by kernel_rfl) ?_
      repeat (first
        | (refine SeqL.skip (by rfl) ?_; simp only [Act.put, List.setIfInBounds_toArray, List.set_cons_zero, List.set_cons_succ])
        | (refine SeqL.pure ?_ (by rfl) ?_ ?_; rotate_left; (focus (intro u hu; have x0' := x0 u hu; have x1' := x1 u hu; go_simp; first | done | exact rfl)); simp only [Act.put, List.setIfInBounds_toArray, List.set_cons_zero, List.set_cons_succ])
        | (refine SeqL.call _ _ _ (by rfl) ?_ cS.out ?_; (focus (intro u; go_simp; done)); simp only [Act.put, List.setIfInBounds_toArray, List.set_cons_zero, List.set_cons_succ])
        | (refine SeqL.call _ _ _ (by rfl) ?_ cN.out ?_; (focus (intro u; go_simp; done)); simp only [Act.put, List.setIfInBounds_toArray, List.set_cons_zero, List.set_cons_succ])
        | (refine SeqL.call _ _ _ (by rfl) ?_ cI.out ?_; (focus (intro u; go_simp; done)); simp only [Act.put, List.setIfInBounds_toArray, List.set_cons_zero, List.set_cons_succ]))
      refine SeqL.nil ?_
      intro u hu
      have HK : Hid (Kept w u) := Kept.trans (k0.trans hk1) (Kept.trans (Below.refl _ _).drew hu)
      have hi0 := hin.1
      have hi1 := hin.2
      clear x0 x1 cS cN cI HR hin
      go_wp2_with (go_at_call 53; refine (HN.out _).mono ?_; rintro e wx ⟨rfl, rfl⟩)
      go_ret
      exact ⟨by rw [HR2.out]; rfl, HK.out⟩
    · have cI : Hid (∀ u, Kept w1.drew u → Calls Tryz.prog 124 #[.int .i64 i, .int .i64 0, .int .i64 ((s : Int) - 3)] u fun e w' => e = .returned (.bool false) ∧ Kept u w') := fun u _ => (l1In_no i 0 ((s : Int) - 3) u (by omega)).mono (fun e w' ⟨h1, h2⟩ => ⟨h1, h2 ▸ Below.refl _ _⟩)
      have HR2 : Hid (placeC zs scope d i = -1) := by show _ = _; rw [HR.out, if_neg hin]
      clear hin
      go_wp2_with fail
      refine wp_region_seqL (by kernel_rfl) (by kernel_rfl) ?_
      repeat (first
        | (refine SeqL.skip (by rfl) ?_; simp only [Act.put, List.setIfInBounds_toArray, List.set_cons_zero, List.set_cons_succ])
        | (refine SeqL.pure ?_ (by rfl) ?_ ?_; rotate_left; (focus (intro u hu; have x0' := x0 u hu; have x1' := x1 u hu; go_simp; first | done | exact rfl)); simp only [Act.put, List.setIfInBounds_toArray, List.set_cons_zero, List.set_cons_succ])
        | (refine SeqL.call _ _ _ (by rfl) ?_ cS.out ?_; (focus (intro u; go_simp; done)); simp only [Act.put, List.setIfInBounds_toArray, List.set_cons_zero, List.set_cons_succ])
        | (refine SeqL.call _ _ _ (by rfl) ?_ cN.out ?_; (focus (intro u; go_simp; done)); simp only [Act.put, List.setIfInBounds_toArray, List.set_cons_zero, List.set_cons_succ])
        | (refine SeqL.call _ _ _ (by rfl) ?_ cI.out ?_; (focus (intro u; go_simp; done)); simp only [Act.put, List.setIfInBounds_toArray, List.set_cons_zero, List.set_cons_succ]))
      refine SeqL.nil ?_
      intro u hu
      have HK : Hid (Kept w u) := Kept.trans (k0.trans hk1) (Kept.trans (Below.refl _ _).drew hu)
      clear x0 x1 cS cN cI HR
      go_wp2
      go_ret
      exact ⟨by rw [HR2.out]; rfl, HK.out⟩
set_option maxHeartbeats 8000000 in
set_option maxRecDepth 100000 in
theorem spec_VarSet_ok (w : World) (ao : Option Addr) (cap : Nat) (zs : List Int) (scope d i v : Int) (hI : Ints w ao zs) (hl : zs.length ≤ 1048576) (hsb : -9223372036854775808 ≤ scope ∧ scope ≤ 9223372036854775807) (hib : -9223372036854775808 ≤ i ∧ i ≤ 9223372036854775807) (hvb : -9223372036854775808 ≤ v ∧ v ≤ 9223372036854775807) :
    Calls Tryz.prog 134 #[.agg #[.slice ao zs.length cap], .int .i64 scope, .int .i64 d, .int .i64 i, .int .i64 v] w fun e w' => ∃ u, e = .returned (.tuple #[.agg #[u], .bool (varC zs scope d i v).2]) ∧ OwnR w' w.heap.size u (varC zs scope d i v).1 ∧ Kept w w' ∧ FullV w' u := by
  have b0 := (Cells.new w 26 #[.slice ao zs.length cap]).alloc (.cells #[.slice none 0 0] 26)
  have b1 := Cells.new (w.alloc (.cells #[.slice ao zs.length cap] 26)) 26 #[.slice none 0 0]
  have k0 : Kept w ((w.alloc (.cells #[.slice ao zs.length cap] 26)).alloc (.cells #[.slice none 0 0] 26)) := (Kept.alloc (Below.refl _ _) _).alloc _
  simp only [World.size_alloc] at b1
  have HZ : Hid (∀ (u : World), Kept w u → Calls Tryz.prog 63 #[.agg #[.slice ao zs.length cap]] u fun e w' => ∃ v, e = .returned (.agg #[v]) ∧ OwnR w' u.heap.size v (zeroL zs) ∧ Kept u w' ∧ FullV w' v) := fun u hu => l5Zero_ok u ao cap zs (hI.kept hu) hl
  have c0' := b0.cell 0
  by_cases hn : 0 ≤ d ∧ d ≤ 2000
  · have hin := fun (u : World) => l1In_yes d 0 2000 u hn.1 hn.2
    have HN : Hid _ := hin
    by_cases hv7 : v % 8 = 7
    · have hv' : (v % 8 == 7) = true := by simp [hv7]
      have HC : Hid (varC zs scope d i v = (zeroL zs, false)) := by simp [Hid, varC, hv7]
      clear hv7 hn hin
      go_enter Tryz.func134, Tryz.ntmps134
      go_wp2_with (first | (go_at_call 50; refine (spec_Kind_ok _ _).mono ?_; rintro e wx ⟨rfl, rfl⟩) | (go_at_call 124; refine (HN.out _).mono ?_; rintro e wx ⟨rfl, rfl⟩) | (go_at_call 63; refine (HZ.out _ k0).mono ?_; rintro e wz ⟨vz, rfl, oz, hkz, fvz⟩; obtain ⟨laz, lcz, rfl, _⟩ := oz.ints; have xz := b1.kept hkz; have dz := xz.cell 0; have fz := xz.frozen 0; have lz := xz.lt))
      have q := (xz.set1 (.slice laz (zeroL zs).length lcz)).cell 0
      refine bodyPost_ret (v := .tuple #[.agg #[.slice laz (zeroL zs).length lcz], .bool false]) (by simp [results, Tryz.results134, go_sem, q]) rfl ?_
      rw [HC.out]
      refine ⟨_, rfl, ?_, (k0.trans hkz).set (by simp) _, fvz.set _ _ _⟩
      rcases oz with ⟨h1, h2⟩ | ⟨g3, c3, h1, h2, h3, h4⟩
      · exact .inl ⟨h1, h2⟩
      · simp only [World.size_alloc] at h2
        exact .inr ⟨g3, c3, h1, by omega, h3, h4.other (by intro h; simp at h <;> omega) _⟩
    · have hv' : (v % 8 == 7) = false := by simp [hv7]
      have hIs := l5Is_at _ ao cap zs [scope, v] 2 7 #[.int .i64 scope, .int .i64 v] rfl rfl (by simpa using ⟨hsb, hvb⟩) (by omega) (by omega) (hI.kept k0) hl
      simp only [World.size_alloc] at hIs
      have c0 := (b0.alloc (.cells #[.int .i64 scope, .int .i64 v] 3)).cell 0
      cases hi : isR zs [scope, v] 7 with
      | false =>
        have HC : Hid (varC zs scope d i v = (zeroL zs, false)) := by simp [Hid, varC, hi]
        rw [hi] at hIs
        clear hv7 hn hi hin
        go_enter Tryz.func134, Tryz.ntmps134
        go_wp2_with (first | (go_at_call 50; refine (spec_Kind_ok _ _).mono ?_; rintro e wx ⟨rfl, rfl⟩) | (go_at_call 124; refine (HN.out _).mono ?_; rintro e wx ⟨rfl, rfl⟩) | (go_at_call 61; refine hIs.mono ?_; rintro e w1 ⟨rfl, hk1⟩; have d0 := (b0.kept hk1).cell 0) | (go_at_call 63; refine (HZ.out _ (k0.trans hk1)).mono ?_; rintro e wz ⟨vz, rfl, oz, hkz, fvz⟩; obtain ⟨laz, lcz, rfl, _⟩ := oz.ints; have xz := (b1.kept hk1).kept hkz; have dz := xz.cell 0; have fz := xz.frozen 0; have lz := xz.lt))
        have hs0 := hk1.size
        simp only [World.size_alloc] at hs0
        have q := (xz.set1 (.slice laz (zeroL zs).length lcz)).cell 0
        refine bodyPost_ret (v := .tuple #[.agg #[.slice laz (zeroL zs).length lcz], .bool false]) (by simp [results, Tryz.results134, go_sem, q]) rfl ?_
        rw [HC.out]
        refine ⟨_, rfl, ?_, ((k0.trans hk1).trans hkz).set (by simp) _, fvz.set _ _ _⟩
        rcases oz with ⟨h1, h2⟩ | ⟨g3, c3, h1, h2, h3, h4⟩
        · exact .inl ⟨h1, h2⟩
        · exact .inr ⟨g3, c3, h1, by omega, h3, h4.other (by intro h; simp at h <;> omega) _⟩
      | true =>
        rw [hi] at hIs
        obtain ⟨hh, h7, hls⟩ := isR_facts hi
        have h7' : scope % 8 = 7 := h7
        have hle : leadsR zs scope 5 = true := hls 0 (by simp)
        obtain ⟨m, rfl⟩ : ∃ m : Nat, d = m := ⟨d.toNat, by omega⟩
        have hP := fun (u : World) (hu : Kept w u) => l6Place_ok u ao cap zs scope m i (hI.kept hu) hl hh h7' hle (by omega) hib
        have HC0 : Hid (varC zs scope m i v = if placeC zs scope m i < 0 then (zs, false) else (zs.set (placeC zs scope m i).toNat v, true)) := by
          have hd : decide (0 ≤ (m : Int) ∧ (m : Int) ≤ 2000) = true := by simpa using hn
          simp only [Hid, varC, hd, hi, Int.toNat_natCast]
          simp [hv7]
        rcases placeC_facts hh h7' hle m i with hp | ⟨p, hp, hpl⟩
        · have HC : Hid (varC zs scope m i v = (zs, false)) := by show _ = _; rw [HC0.out, hp]; simp
          rw [hp] at hP
          have HP : Hid _ := hP
          clear hv7 hn hi hin hh h7 h7' hle hls hP HC0 hp
          go_enter Tryz.func134, Tryz.ntmps134
          go_wp2_with (first | (go_at_call 50; refine (spec_Kind_ok _ _).mono ?_; rintro e wx ⟨rfl, rfl⟩) | (go_at_call 124; refine (HN.out _).mono ?_; rintro e wx ⟨rfl, rfl⟩) | (go_at_call 61; refine hIs.mono ?_; rintro e w1 ⟨rfl, hk1⟩; have d0 := (b0.kept hk1).cell 0) | (go_at_call 41; fail))
          refine (l2Copy_ok _ ao cap zs (hI.kept (k0.trans hk1)) hl).mono ?_
          rintro e wc ⟨gc, cc, rfl, hgc, hcc, hRc, hkc, szc⟩
          have hs0 := hk1.size
          simp only [World.size_alloc] at hs0
          have kB : Kept wc (wc.alloc (.cells #[.slice (some ⟨gc, 0, none⟩) zs.length cc] 26)) := Kept.alloc (Below.refl _ _) _
          have k3 := ((k0.trans hk1).trans hkc).trans kB
          have oB := Cells.new wc 26 #[.slice (some ⟨gc, 0, none⟩) zs.length cc]
          have y0 := (((b0.kept hk1).kept hkc).kept kB)
          have e0 := y0.cell 0
          clear d0 c0 c0'
          go_wp2_with fail
          refine (HP.out _ k3).mono ?_
          rintro e wp ⟨rfl, hkp⟩
          have oC := (oB.kept hkp).cell 0
          have xm := ((((b1.kept hk1).kept hkc).kept kB).kept hkp)
          have dm := xm.cell 0
          have fm := xm.frozen 0
          clear e0
          go_wp2
          have q := (xm.set1 (.slice (some ⟨gc, 0, none⟩) zs.length cc)).cell 0
          refine bodyPost_ret (v := .tuple #[.agg #[.slice (some ⟨gc, 0, none⟩) zs.length cc], .bool false]) (by simp [results, Tryz.results134, go_sem, q]) rfl ?_
          rw [HC.out]
          exact ⟨_, rfl, .inr ⟨gc, cc, rfl, by omega, hcc, (((hRc.kept kB).kept hkp).other (by intro h; simp at h <;> omega) _)⟩, (k3.trans hkp).set (by simp) _, FullV.one (((szc.kept kB).kept hkp).set _ _ _)⟩
        · have HC : Hid (varC zs scope m i v = (zs.set p v, true)) := by show _ = _; rw [HC0.out, hp, if_neg (by omega)]; simp
          rw [hp] at hP
          have HP : Hid _ := hP
          have p1 : (p : Int) < (zs.length : Int) := by omega
          clear hv7 hn hi hin hh h7 h7' hle hls hP HC0 hp
          go_enter Tryz.func134, Tryz.ntmps134
          go_wp2_with (first | (go_at_call 50; refine (spec_Kind_ok _ _).mono ?_; rintro e wx ⟨rfl, rfl⟩) | (go_at_call 124; refine (HN.out _).mono ?_; rintro e wx ⟨rfl, rfl⟩) | (go_at_call 61; refine hIs.mono ?_; rintro e w1 ⟨rfl, hk1⟩; have d0 := (b0.kept hk1).cell 0) | (go_at_call 41; fail))
          refine (l2Copy_ok _ ao cap zs (hI.kept (k0.trans hk1)) hl).mono ?_
          rintro e wc ⟨gc, cc, rfl, hgc, hcc, hRc, hkc, szc⟩
          have hs0 := hk1.size
          simp only [World.size_alloc] at hs0
          have kB : Kept wc (wc.alloc (.cells #[.slice (some ⟨gc, 0, none⟩) zs.length cc] 26)) := Kept.alloc (Below.refl _ _) _
          have k3 := ((k0.trans hk1).trans hkc).trans kB
          have oB := Cells.new wc 26 #[.slice (some ⟨gc, 0, none⟩) zs.length cc]
          have y0 := (((b0.kept hk1).kept hkc).kept kB)
          have e0 := y0.cell 0
          clear d0 c0 c0'
          go_wp2_with fail
          refine (HP.out _ k3).mono ?_
          rintro e wp ⟨rfl, hkp⟩
          have lgc := hRc.lt
          have oB' := oB.kept hkp
          have oC := oB'.cell 0
          have xm := ((((b1.kept hk1).kept hkc).kept kB).kept hkp)
          have rC := (hRc.kept kB).kept hkp
          have cp := rC.cell (j := p) hpl
          have fp := rC.frozen p
          have r2 := rC.set (k := p) (v := v) hpl hvb
          have o2 := oB'.other (p := ⟨gc, p, none⟩) (by intro h; simp at h; omega) (.int .i64 v)
          have x2 := xm.other (p := ⟨gc, p, none⟩) (by intro h; simp at h; omega) (.int .i64 v)
          have oD := o2.cell 0
          have dm := x2.cell 0
          have fm := x2.frozen 0
          have kp := (k3.trans hkp)
          have kq : Kept w (wp.setCell ⟨gc, p, none⟩ (.int .i64 v)) := kp.set (by simp; omega) _
          clear e0
          go_wp2
          have q := (x2.set1 (.slice (some ⟨gc, 0, none⟩) zs.length cc)).cell 0
          refine bodyPost_ret (v := .tuple #[.agg #[.slice (some ⟨gc, 0, none⟩) zs.length cc], .bool true]) (by simp [results, Tryz.results134, go_sem, q]) rfl ?_
          rw [HC.out]
          exact ⟨_, rfl, .inr ⟨gc, cc, by simp, by omega, by simpa using hcc, r2.other (by intro h; simp at h <;> omega) _⟩, kq.set (by simp) _, FullV.one ((((szc.kept kB).kept hkp).set _ _ _).set _ _ _)⟩
  · have hin := fun (u : World) => l1In_no d 0 2000 u (by omega)
    have HN : Hid _ := hin
    have HC : Hid (varC zs scope d i v = (zeroL zs, false)) := by
      have : decide (0 ≤ d ∧ d ≤ 2000) = false := by simpa using hn
      simp only [Hid, varC, this]; simp
    clear hin hn
    go_enter Tryz.func134, Tryz.ntmps134
    go_wp2_with (first | (go_at_call 124; refine (HN.out _).mono ?_; rintro e wx ⟨rfl, rfl⟩) | (go_at_call 63; refine (HZ.out _ k0).mono ?_; rintro e wz ⟨vz, rfl, oz, hkz, fvz⟩; obtain ⟨laz, lcz, rfl, _⟩ := oz.ints; have xz := b1.kept hkz; have dz := xz.cell 0; have fz := xz.frozen 0; have lz := xz.lt))
    have q := (xz.set1 (.slice laz (zeroL zs).length lcz)).cell 0
    refine bodyPost_ret (v := .tuple #[.agg #[.slice laz (zeroL zs).length lcz], .bool false]) (by simp [results, Tryz.results134, go_sem, q]) rfl ?_
    rw [HC.out]
    refine ⟨_, rfl, ?_, (k0.trans hkz).set (by simp) _, fvz.set _ _ _⟩
    rcases oz with ⟨h1, h2⟩ | ⟨g3, c3, h1, h2, h3, h4⟩
    · exact .inl ⟨h1, h2⟩
    · simp only [World.size_alloc] at h2
      exact .inr ⟨g3, c3, h1, by omega, h3, h4.other (by intro h; simp at h <;> omega) _⟩
end Go.Proofs.YtpbafjcoomfooaaGreat
