/-
  The contract of impl.Take.
-/
import Derived.Test.YthkhlmbhickdbaaSlabC
namespace Go.Proofs.Ythkhlmbhickdbaa
open Go.RowKit
attribute [local go_sem] Plain.and7

/-- v is a slab's words of the call's own. -/
def OwnR (W : World) (base : Nat) (v : Value) (zs : List Int) : Prop :=
  (v = .slice none 0 0 ∧ zs = []) ∨ ∃ g cap, v = .slice (some ⟨g, 0, none⟩) zs.length cap ∧ base ≤ g ∧ zs.length ≤ cap ∧ Row W g zs
/-- What Take makes of the words, of a free block b that is large enough. -/
def takeL (zs : List Int) (b : Bk) (kind n : Nat) : List Int :=
  if n + 2 ≤ b.size then layL (zs.set (b.at' + n) (8 * ((b.size : Int) - (n : Int)))) b.at' n (8 * (n : Int) + (kind : Int)) else layL zs b.at' b.size (8 * (b.size : Int) + (kind : Int))

set_option maxHeartbeats 4000000 in
set_option maxRecDepth 100000 in
theorem impl_Take_bad (w : World) (ao : Option Addr) (cap : Nat) (zs : List Int) (kind n : Int) (hI : Ints w ao zs) (hl : zs.length ≤ 1048576) (hok : slabOk zs = false) :
    Calls Try.prog 67 #[.agg #[.slice ao zs.length cap], .int .i64 kind, .int .i64 n] w fun e w' => e = .returned (.tuple #[.agg #[.slice none 0 0], .int .i64 0, .bool false]) ∧ Kept w w' := by
  have hL : zs.length * 8 ≤ 140737488351232 := by omega
  have b0 := (Cells.new w 28 #[.slice ao zs.length cap]).alloc (.cells #[.slice none 0 0] 28)
  have b1 := Cells.new (w.alloc (.cells #[.slice ao zs.length cap] 28)) 28 #[.slice none 0 0]
  have k0 : Kept w ((w.alloc (.cells #[.slice ao zs.length cap] 28)).alloc (.cells #[.slice none 0 0] 28)) := (Kept.alloc (Below.refl _ _) _).alloc _
  simp only [World.size_alloc] at b1
  have hS := impl_SlabOk_ok _ ao cap zs (hI.kept k0) hL
  rw [hok] at hS
  clear hok
  go_enter Try.func67, Try.ntmps67
  go_wp2_with (go_at_call 97; refine hS.mono ?_; rintro e w1 ⟨rfl, hk1⟩; have d1 := (b1.kept hk1).cell 0; have f1 := (b1.kept hk1).frozen 0)
  have q := ((b1.kept hk1).set1 (.slice none 0 0)).cell 0
  refine bodyPost_ret (v := .tuple #[.agg #[.slice none 0 0], .int .i64 0, .bool false]) (by simp [results, Try.results67, go_sem, q]) rfl ⟨rfl, (k0.trans hk1).set (by simp) _⟩
set_option maxHeartbeats 4000000 in
set_option maxRecDepth 100000 in
theorem impl_Take_no (w : World) (ao : Option Addr) (cap : Nat) (zs : List Int) (kind n : Int) (hI : Ints w ao zs) (hl : zs.length ≤ 1048576) (hok : slabOk zs = true) (hno : ¬ (1 ≤ kind ∧ kind ≤ 5 ∧ 2 ≤ n) ∨ ffB zs n = none) :
    Calls Try.prog 67 #[.agg #[.slice ao zs.length cap], .int .i64 kind, .int .i64 n] w fun e w' => ∃ v, e = .returned (.tuple #[.agg #[v], .int .i64 0, .bool false]) ∧ OwnR w' w.heap.size v zs ∧ Kept w w' := by
  have hL : zs.length * 8 ≤ 140737488351232 := by omega
  have b0 := (Cells.new w 28 #[.slice ao zs.length cap]).alloc (.cells #[.slice none 0 0] 28)
  have b1 := Cells.new (w.alloc (.cells #[.slice ao zs.length cap] 28)) 28 #[.slice none 0 0]
  have k0 : Kept w ((w.alloc (.cells #[.slice ao zs.length cap] 28)).alloc (.cells #[.slice none 0 0] 28)) := (Kept.alloc (Below.refl _ _) _).alloc _
  simp only [World.size_alloc] at b1
  have hS := impl_SlabOk_ok _ ao cap zs (hI.kept k0) hL
  rw [hok] at hS
  have HN : Hid (¬ (1 ≤ kind ∧ kind ≤ 5 ∧ 2 ≤ n) ∨ ffB zs n = none) := hno
  clear hok hno
  go_enter Try.func67, Try.ntmps67
  go_wp2_with fail
  refine hS.mono ?_
  rintro e w1 ⟨rfl, hk1⟩
  have c1 := (b0.kept hk1).cell 0
  go_wp2_with fail
  refine (copySlab_ok _ ao cap zs ((hI.kept k0).kept hk1) hl).mono ?_
  rintro e w2 ⟨g2, cp2, rfl, hg2, hcp2, hR2, hk2⟩
  have ka : Kept w2 (w2.alloc (.cells #[.slice (some ⟨g2, 0, none⟩) zs.length cp2] 28)) := Kept.alloc (Below.refl _ _) _
  have b9 := Cells.new w2 28 #[.slice (some ⟨g2, 0, none⟩) zs.length cp2]
  have k2 := ((k0.trans hk1).trans hk2).trans ka
  have b0a := (((b0.kept hk1).kept hk2).kept ka)
  have b1a := (((b1.kept hk1).kept hk2).kept ka)
  have r2 := hR2.kept ka
  have hsz1 := hk1.size
  have hgw : w.heap.size + 1 < g2 := by simp at hsz1; omega
  have d0 := b0a.cell 0
  have d1 := b1a.cell 0
  have f1 := b1a.frozen 0
  have d9 := b9.cell 0
  have l1a := b1a.lt
  have l0a := b0a.lt
  clear c1
  by_cases hA : 1 ≤ kind ∧ kind ≤ 5 ∧ 2 ≤ n
  · have HF : Hid (ffB zs n = none) := by rcases HN.out with h | h; exact absurd hA h; exact h
    obtain ⟨hA1, hA2, hA3⟩ := hA
    have hff := firstFree_ok _ ao cap zs n (hI.kept k2) hL
    rw [HF.out] at hff
    simp only [ffV] at hff
    have hq0 : (kind == 0) = false := by simp; omega
    have hn2 : decide (n < 2) = false := by simp; omega
    go_wp2_with (first | (go_at_call 98; refine (blockKind_ok _ _).mono ?_; rintro e wx ⟨rfl, rfl⟩) | (go_at_call 99; refine hff.mono ?_; rintro e w3 ⟨rfl, hk3⟩; have e9 := (b9.kept hk3).cell 0; have e1 := (b1a.kept hk3).cell 0; have g1 := (b1a.kept hk3).frozen 0; have l9 := (b9.kept hk3).lt; have l1b := (b1a.kept hk3).lt))
    have q := (((b1a.kept hk3).set1 (.slice (some ⟨g2, 0, none⟩) zs.length cp2)).alloc (.cells (bkC 0 0 0) 96)).cell 0
    refine bodyPost_ret (v := .tuple #[.agg #[.slice (some ⟨g2, 0, none⟩) zs.length cp2], .int .i64 0, .bool false]) (by simp [results, Try.results67, go_sem, q]) rfl ⟨_, rfl, .inr ⟨g2, cp2, rfl, by omega, hcp2, ((r2.kept hk3).other (by intro h; simp at h <;> omega) _).kept (Kept.alloc (Below.refl _ _) _)⟩, ((k2.trans hk3).set (by simp) _).alloc _⟩
  · have q := (b1a.set1 (.slice (some ⟨g2, 0, none⟩) zs.length cp2)).cell 0
    rcases (show (kind < 0 ∨ 5 < kind) ∨ (0 ≤ kind ∧ kind ≤ 5 ∧ kind = 0) ∨ (1 ≤ kind ∧ kind ≤ 5 ∧ n < 2) by omega) with h | ⟨h1, h2, h3⟩ | ⟨h1, h2, h3⟩
    · have hb : decide (0 ≤ kind ∧ kind ≤ 5) = false := by simp; omega
      go_wp2_with (go_at_call 98; refine (blockKind_ok _ _).mono ?_; rintro e wx ⟨rfl, rfl⟩)
      refine bodyPost_ret (v := .tuple #[.agg #[.slice (some ⟨g2, 0, none⟩) zs.length cp2], .int .i64 0, .bool false]) (by simp [results, Try.results67, go_sem, q]) rfl ⟨_, rfl, .inr ⟨g2, cp2, rfl, by omega, hcp2, r2.other (by intro h; simp at h <;> omega) _⟩, k2.set (by simp) _⟩
    · have hb : decide (0 ≤ kind ∧ kind ≤ 5) = true := by simp; omega
      have hq0 : (kind == 0) = true := by simp [h3]
      clear h3
      go_wp2_with (go_at_call 98; refine (blockKind_ok _ _).mono ?_; rintro e wx ⟨rfl, rfl⟩)
      refine bodyPost_ret (v := .tuple #[.agg #[.slice (some ⟨g2, 0, none⟩) zs.length cp2], .int .i64 0, .bool false]) (by simp [results, Try.results67, go_sem, q]) rfl ⟨_, rfl, .inr ⟨g2, cp2, rfl, by omega, hcp2, r2.other (by intro h; simp at h <;> omega) _⟩, k2.set (by simp) _⟩
    · have hb : decide (0 ≤ kind ∧ kind ≤ 5) = true := by simp; omega
      have hq0 : (kind == 0) = false := by simp; omega
      have hn2 : decide (n < 2) = true := by simp; omega
      go_wp2_with (go_at_call 98; refine (blockKind_ok _ _).mono ?_; rintro e wx ⟨rfl, rfl⟩)
      refine bodyPost_ret (v := .tuple #[.agg #[.slice (some ⟨g2, 0, none⟩) zs.length cp2], .int .i64 0, .bool false]) (by simp [results, Try.results67, go_sem, q]) rfl ⟨_, rfl, .inr ⟨g2, cp2, rfl, by omega, hcp2, r2.other (by intro h; simp at h <;> omega) _⟩, k2.set (by simp) _⟩
set_option maxHeartbeats 8000000 in
set_option maxRecDepth 100000 in
theorem impl_Take_yes (w : World) (ao : Option Addr) (cap : Nat) (zs : List Int) (kind n : Nat) (b : BkOf zs.length) (hI : Ints w ao zs) (hl : zs.length ≤ 1048576) (hok : slabOk zs = true) (h1 : 1 ≤ kind) (h5 : kind ≤ 5) (hn2 : 2 ≤ n) (hb : ffB zs n = some b) :
    Calls Try.prog 67 #[.agg #[.slice ao zs.length cap], .int .i64 kind, .int .i64 n] w fun e w' => ∃ v, e = .returned (.tuple #[.agg #[v], .int .i64 (b.1.at' : Nat), .bool true]) ∧ OwnR w' w.heap.size v (takeL zs b.1 kind n) ∧ Kept w w' := by
  have hL : zs.length * 8 ≤ 140737488351232 := by omega
  have b0 := (Cells.new w 28 #[.slice ao zs.length cap]).alloc (.cells #[.slice none 0 0] 28)
  have b1 := Cells.new (w.alloc (.cells #[.slice ao zs.length cap] 28)) 28 #[.slice none 0 0]
  have k0 : Kept w ((w.alloc (.cells #[.slice ao zs.length cap] 28)).alloc (.cells #[.slice none 0 0] 28)) := (Kept.alloc (Below.refl _ _) _).alloc _
  simp only [World.size_alloc] at b1
  have hS := impl_SlabOk_ok _ ao cap zs (hI.kept k0) hL
  rw [hok] at hS
  have HB : Hid (ffB zs n = some b) := hb
  have hfree : b.1.kind = 0 ∧ (n : Int) ≤ (b.1.size : Int) := by
    have := List.find?_some hb
    simpa [freeP] using this
  have hnb : n ≤ b.1.size := by omega
  have hbs := b.2
  clear hok hb hfree
  go_enter Try.func67, Try.ntmps67
  go_wp2_with fail
  refine hS.mono ?_
  rintro e w1 ⟨rfl, hk1⟩
  have c1 := (b0.kept hk1).cell 0
  go_wp2_with fail
  refine (copySlab_ok _ ao cap zs ((hI.kept k0).kept hk1) hl).mono ?_
  rintro e w2 ⟨g2, cp2, rfl, hg2, hcp2, hR2, hk2⟩
  have ka : Kept w2 (w2.alloc (.cells #[.slice (some ⟨g2, 0, none⟩) zs.length cp2] 28)) := Kept.alloc (Below.refl _ _) _
  have b9 := Cells.new w2 28 #[.slice (some ⟨g2, 0, none⟩) zs.length cp2]
  have k2 := ((k0.trans hk1).trans hk2).trans ka
  have b0a := (((b0.kept hk1).kept hk2).kept ka)
  have b1a := (((b1.kept hk1).kept hk2).kept ka)
  have r2 := hR2.kept ka
  have hsz1 := hk1.size
  have hgw : w.heap.size + 1 < g2 := by simp at hsz1; omega
  have lr2 := hR2.lt
  have d0 := b0a.cell 0
  have l0a := b0a.lt
  have hff := firstFree_ok _ ao cap zs n (hI.kept k2) hL
  rw [HB.out] at hff
  simp only [ffV] at hff
  have hq0 : ((kind : Int) == 0) = false := by simp; omega
  have hn2' : decide ((n : Int) < 2) = false := by simp; omega
  clear c1
  by_cases hleft : n + 2 ≤ b.1.size
  · go_wp2_with (first | (go_at_call 98; refine (blockKind_ok _ _).mono ?_; rintro e wx ⟨rfl, rfl⟩) | (go_at_call 99; refine hff.mono ?_; rintro e w3 ⟨rfl, hk3⟩; have e9 := (b9.kept hk3).cell 0; have e1 := (b1a.kept hk3).cell 0; have g1 := (b1a.kept hk3).frozen 0; have l9 := (b9.kept hk3).lt; have l1b := (b1a.kept hk3).lt) | fail)
    obtain ⟨W3, hW3⟩ : ∃ W3, w3.alloc (.cells (bkC (b.1.at' : Nat) (n : Nat) (kind : Nat)) 96) = W3 := ⟨_, rfl⟩
    have kb : Kept w3 (w3.alloc (.cells (bkC (b.1.at' : Nat) (n : Nat) (kind : Nat)) 96)) := Kept.alloc (Below.refl _ _) _
    have z9 := (b9.kept hk3).kept kb
    have z1 := (b1a.kept hk3).kept kb
    have z10 := Cells.new w3 96 (bkC (b.1.at' : Nat) (n : Nat) (kind : Nat))
    have r3 := (r2.kept hk3).kept kb
    have k3 := (k2.trans hk3).trans kb
    have hs3 := hk3.size
    simp only [World.size_alloc] at hs3
    simp only [bkC] at hW3 z9 z1 z10 r3 k3 kb
    rw [hW3] at z9 z1 z10 r3 k3 kb ⊢
    have lr3 := r3.lt
    have u9 := z9.cell 0
    have u100 := z10.cell 0
    have u101 := z10.cell 1
    have u102 := z10.cell 2
    have l10 := z10.lt
    have lz9 := z9.lt
    have hcg := r3.cell (j := b.1.at' + n) (by omega)
    have hfg := r3.frozen (b.1.at' + n)
    clear hW3 e9 e1 g1 l9 l1b d0
    go_cut [] from 48 to 58 (fun wx => Row wx g2 (zs.set (b.1.at' + n) (8 * ((b.1.size : Int) - (n : Int)))) ∧ W3.grownBy wx (some g2))
    case first =>
      go_region_with (first | (go_at_call 101; refine (end_ok _ _ _ _ (by omega) (by omega)).mono ?_; rintro e wx ⟨rfl, rfl⟩) | (go_at_call 100; refine (header_ok _ _ _ _ (by omega) (by omega) (by omega) (by omega)).mono ?_; rintro e wx ⟨rfl, rfl⟩))
      all_goals (
        go_wp2_with fail
        go_meet
        first
          | exact ⟨(r3.set (k := b.1.at' + n) (by omega) ⟨by omega, by omega⟩).kept (((Kept.alloc (Below.refl _ _) _).alloc _).drew), grown_kept (grown_set (World.grownBy.refl _ _) _) (((Kept.alloc (Below.refl _ _) _).alloc _).drew)⟩
          | trace_state)
    case rest =>
    obtain ⟨hR4, hG4⟩ := hcut
    have x9 := z9.grown hG4 (by intro e; simp at e; omega)
    have x1 := z1.grown hG4 (by intro e; simp at e; omega)
    have x10 := z10.grown hG4 (by intro e; simp at e; omega)
    have k4 := k3.grownRow hG4 (fun k e => by cases e; omega)
    have lx10 := x10.lt
    have lx9 := x9.lt
    have lx1 := x1.lt
    have v9 := x9.cell 0
    have v100 := x10.cell 0
    have v101 := x10.cell 1
    have v102 := x10.cell 2
    have hlay := layBlock_ok _ g2 cp2 _ b.1.at' n kind hR4 (by rw [List.length_set]; omega) (by omega) (by omega) (by rw [List.length_set]; omega) (by rw [List.length_set]; omega)
    rw [List.length_set] at hlay
    clear u9 u100 u101 u102 hcg hfg
    go_wp2_with fail
    refine hlay.mono ?_
    rintro e w5 ⟨⟨v5, rfl⟩, hR5, hG5⟩
    have k5 := k4.grownRow hG5 (fun k e => by cases e; omega)
    have y9 := (x9.grown hG5 (by intro e; simp at e; omega)).cell 0
    have yb1 := x1.grown hG5 (by intro e; simp at e; omega)
    have y1 := yb1.cell 0
    have f1 := yb1.frozen 0
    have yb10 := x10.grown hG5 (by intro e; simp at e; omega)
    have y10 := yb10.cell 0
    clear hlay
    go_wp2_with fail
    go_region
    all_goals go_wp2
    have q := (yb1.set1 (.slice (some ⟨g2, 0, none⟩) zs.length cp2)).cell 0
    have eT : takeL zs b.1 kind n = layL (zs.set (b.1.at' + n) (8 * ((b.1.size : Int) - (n : Int)))) b.1.at' n (8 * (n : Int) + (kind : Int)) := if_pos hleft
    have lT : (takeL zs b.1 kind n).length = zs.length := by rw [eT, layL_len, List.length_set]
    refine bodyPost_ret (v := .tuple #[.agg #[.slice (some ⟨g2, 0, none⟩) zs.length cp2], .int .i64 (b.1.at' : Nat), .bool true]) (by simp [results, Try.results67, go_sem, q]) rfl ⟨_, rfl, .inr ⟨g2, cp2, by rw [lT], by omega, by rw [lT]; exact hcp2, by rw [eT]; exact (hR5.other (by intro h; simp at h <;> omega) _).kept (Below.refl _ _).drew⟩, (k5.set (by simp) _).drew⟩
  · have hsm : ¬ (2 : Int) ≤ (b.1.size : Int) - (n : Int) := by omega
    go_wp2_with (first | (go_at_call 98; refine (blockKind_ok _ _).mono ?_; rintro e wx ⟨rfl, rfl⟩) | (go_at_call 99; refine hff.mono ?_; rintro e w3 ⟨rfl, hk3⟩; have e9 := (b9.kept hk3).cell 0; have e1 := (b1a.kept hk3).cell 0; have g1 := (b1a.kept hk3).frozen 0; have l9 := (b9.kept hk3).lt; have l1b := (b1a.kept hk3).lt) | fail)
    have kb : Kept w3 (w3.alloc (.cells (bkC (b.1.at' : Nat) (b.1.size : Nat) (kind : Nat)) 96)) := Kept.alloc (Below.refl _ _) _
    have x9 := (b9.kept hk3).kept kb
    have x1 := (b1a.kept hk3).kept kb
    have x10 := Cells.new w3 96 (bkC (b.1.at' : Nat) (b.1.size : Nat) (kind : Nat))
    have r3 := (r2.kept hk3).kept kb
    have k4 := (k2.trans hk3).trans kb
    have hs3 := hk3.size
    simp only [World.size_alloc] at hs3
    have lr3 := r3.lt
    have hlay := layBlock_ok _ g2 cp2 _ b.1.at' b.1.size kind r3 (by omega) (by omega) (by omega) (by omega) (by omega)
    clear e9 e1 g1 l9 l1b d0
    refine hlay.mono ?_
    rintro e w5 ⟨⟨v5, rfl⟩, hR5, hG5⟩
    have k5 := k4.grownRow hG5 (fun k e => by cases e; omega)
    have y9 := (x9.grown hG5 (by intro e; simp at e; omega)).cell 0
    have yb1 := x1.grown hG5 (by intro e; simp at e; omega)
    have y1 := yb1.cell 0
    have f1 := yb1.frozen 0
    have yb10 := x10.grown hG5 (by intro e; simp at e; omega)
    have y10 := yb10.cell 0
    clear hlay
    go_wp2_with fail
    go_region
    all_goals go_wp2
    have q := (yb1.set1 (.slice (some ⟨g2, 0, none⟩) zs.length cp2)).cell 0
    have eT : takeL zs b.1 kind n = layL zs b.1.at' b.1.size (8 * (b.1.size : Int) + (kind : Int)) := if_neg hleft
    have lT : (takeL zs b.1 kind n).length = zs.length := by rw [eT, layL_len]
    refine bodyPost_ret (v := .tuple #[.agg #[.slice (some ⟨g2, 0, none⟩) zs.length cp2], .int .i64 (b.1.at' : Nat), .bool true]) (by simp [results, Try.results67, go_sem, q]) rfl ⟨_, rfl, .inr ⟨g2, cp2, by rw [lT], by omega, by rw [lT]; exact hcp2, by rw [eT]; exact (hR5.other (by intro h; simp at h <;> omega) _).kept (Below.refl _ _).drew⟩, (k5.set (by simp) _).drew⟩
end Go.Proofs.Ythkhlmbhickdbaa
