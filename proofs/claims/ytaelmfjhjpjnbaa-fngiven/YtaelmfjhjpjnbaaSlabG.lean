/-
  The contract of impl.Give.
-/
import Derived.Test.YtaelmfjhjpjnbaaSlabK
import Derived.Test.YtaelmfjhjpjnbaaSlabY
namespace Go.Proofs.Ytaelmfjhjpjnbaa
open Go.RowKit
attribute [local go_sem] Plain.and7

/-- What Give makes of the words, of a block b that is not free. -/
def giveB (zs : List Int) (b : Bk) : List Int := layL zs (about zs b).1 (about zs b).2 (8 * ((about zs b).2 : Int) + ((0 : Nat) : Int))
theorem giveB_len (zs : List Int) (b : Bk) : (giveB zs b).length = zs.length := layL_len _ _ _ _
theorem about_in {zs : List Int} {a : Int} {b : BkOf zs.length} (hb : atB zs a = some b) (hk : b.1.kind ≠ 0) : (about zs b.1).1 + (about zs b.1).2 ≤ zs.length ∧ 2 ≤ (about zs b.1).2 := by
  have h := atB_some hb
  obtain ⟨_, _, _, _, _, _, _, h1, h2, h3, _⟩ := about_eq h.1 (List.mem_map.2 ⟨b, h.2.2.2.2.2, rfl⟩) hk
  have := b.2
  omega

set_option maxHeartbeats 4000000 in
set_option maxRecDepth 100000 in
theorem impl_Give_no (w : World) (ao : Option Addr) (cap : Nat) (zs : List Int) (a : Int) (hI : Ints w ao zs) (hl : zs.length ≤ 1048576) (hno : ∀ b, atB zs a = some b → b.1.kind = 0) :
    Calls Try.prog 14 #[.agg #[.slice ao zs.length cap], .int .i64 a] w fun e w' => ∃ v, e = .returned (.agg #[v]) ∧ OwnR w' w.heap.size v zs ∧ Kept w w' := by
  have hL : zs.length * 8 ≤ 140737488351232 := by omega
  have b0 := (Cells.new w 26 #[.slice ao zs.length cap]).alloc (.cells #[.slice none 0 0] 26)
  have b1 := Cells.new (w.alloc (.cells #[.slice ao zs.length cap] 26)) 26 #[.slice none 0 0]
  have k0 : Kept w ((w.alloc (.cells #[.slice ao zs.length cap] 26)).alloc (.cells #[.slice none 0 0] 26)) := (Kept.alloc (Below.refl _ _) _).alloc _
  simp only [World.size_alloc] at b1
  have c0 := b0.cell 0
  go_enter Try.func14, Try.ntmps14
  go_wp2_with fail
  refine (copySlab_ok _ ao cap zs (hI.kept k0) hl).mono ?_
  rintro e w2 ⟨g2, cp2, rfl, hg2, hcp2, hR2, hk2⟩
  have ka : Kept w2 (w2.alloc (.cells #[.slice (some ⟨g2, 0, none⟩) zs.length cp2] 26)) := Kept.alloc (Below.refl _ _) _
  have b9 := Cells.new w2 26 #[.slice (some ⟨g2, 0, none⟩) zs.length cp2]
  have k2 := (k0.trans hk2).trans ka
  have b0a := ((b0.kept hk2).kept ka)
  have b1a := ((b1.kept hk2).kept ka)
  have r2 := hR2.kept ka
  have hgw : w.heap.size + 1 < g2 := by simp at hg2; omega
  have d0 := b0a.cell 0
  have l0a := b0a.lt
  clear c0
  go_wp2_with fail
  refine (findBlock_ok _ ao cap zs a (hI.kept k2) hL).mono ?_
  rintro e w3 ⟨rfl, hk3⟩
  have e9 := (b9.kept hk3).cell 0
  have e1 := (b1a.kept hk3).cell 0
  have g1 := (b1a.kept hk3).frozen 0
  have l9 := (b9.kept hk3).lt
  have l1b := (b1a.kept hk3).lt
  clear d0
  cases hb : atB zs a with
  | none =>
    simp only [fbV, hb]
    clear hb hno
    go_wp2
    have q := (((b1a.kept hk3).set1 (.slice (some ⟨g2, 0, none⟩) zs.length cp2)).alloc (.cells (bkC 0 0 0) 50)).cell 0
    refine bodyPost_ret (v := .agg #[.slice (some ⟨g2, 0, none⟩) zs.length cp2]) (by simp [results, Try.results14, go_sem, q]) rfl ⟨_, rfl, .inr ⟨g2, cp2, rfl, by omega, hcp2, ((r2.kept hk3).other (by intro h; simp at h <;> omega) _).kept (Kept.alloc (Below.refl _ _) _)⟩, ((k2.trans hk3).set (by simp) _).alloc _⟩
  | some b =>
    have hk := hno b hb
    have hbs := b.2
    have hq' : (((b.1.kind : Nat) : Int) == 0) = true := by simp [hk]
    simp only [fbV, hb]
    clear hb hno hk
    have kb : Kept w3 ((w3.alloc (.cells (bkC (b.1.at' : Nat) (b.1.size : Nat) (b.1.kind : Nat)) 50)).alloc (.cells (bkC (b.1.at' : Nat) (b.1.size : Nat) (b.1.kind : Nat)) 50)) := (Kept.alloc (Below.refl _ _) _).alloc _
    have e1' := ((b1a.kept hk3).kept kb).cell 0
    have g1' := ((b1a.kept hk3).kept kb).frozen 0
    simp only [bkC] at e1' g1'
    go_wp2_with (go_at_call 41; refine (free_ok _ _ _ _).mono ?_; rintro e w4 ⟨rfl, rfl⟩)
    have q := (((b1a.kept hk3).kept kb).set1 (.slice (some ⟨g2, 0, none⟩) zs.length cp2)).cell 0
    simp only [bkC] at q
    refine bodyPost_ret (v := .agg #[.slice (some ⟨g2, 0, none⟩) zs.length cp2]) (by simp [results, Try.results14, go_sem, q]) rfl ⟨_, rfl, .inr ⟨g2, cp2, rfl, by omega, hcp2, ((r2.kept hk3).kept kb).other (by intro h; simp at h <;> omega) _⟩, ((k2.trans hk3).trans kb).set (by simp) _⟩

set_option maxHeartbeats 4000000 in
set_option maxRecDepth 100000 in
theorem impl_Give_yes (w : World) (ao : Option Addr) (cap : Nat) (zs : List Int) (a : Int) (b : BkOf zs.length) (hI : Ints w ao zs) (hl : zs.length ≤ 1048576) (hb : atB zs a = some b) (hk : b.1.kind ≠ 0) :
    Calls Try.prog 14 #[.agg #[.slice ao zs.length cap], .int .i64 a] w fun e w' => ∃ v, e = .returned (.agg #[v]) ∧ OwnR w' w.heap.size v (giveB zs b.1) ∧ Kept w w' := by
  have hL : zs.length * 8 ≤ 140737488351232 := by omega
  have hin := about_in hb hk
  have b0 := (Cells.new w 26 #[.slice ao zs.length cap]).alloc (.cells #[.slice none 0 0] 26)
  have b1 := Cells.new (w.alloc (.cells #[.slice ao zs.length cap] 26)) 26 #[.slice none 0 0]
  have k0 : Kept w ((w.alloc (.cells #[.slice ao zs.length cap] 26)).alloc (.cells #[.slice none 0 0] 26)) := (Kept.alloc (Below.refl _ _) _).alloc _
  simp only [World.size_alloc] at b1
  have c0 := b0.cell 0
  go_enter Try.func14, Try.ntmps14
  go_wp2_with fail
  refine (copySlab_ok _ ao cap zs (hI.kept k0) hl).mono ?_
  rintro e w2 ⟨g2, cp2, rfl, hg2, hcp2, hR2, hk2⟩
  have ka : Kept w2 (w2.alloc (.cells #[.slice (some ⟨g2, 0, none⟩) zs.length cp2] 26)) := Kept.alloc (Below.refl _ _) _
  have b9 := Cells.new w2 26 #[.slice (some ⟨g2, 0, none⟩) zs.length cp2]
  have k2 := (k0.trans hk2).trans ka
  have b0a := ((b0.kept hk2).kept ka)
  have b1a := ((b1.kept hk2).kept ka)
  have r2 := hR2.kept ka
  have hgw : w.heap.size + 1 < g2 := by simp at hg2; omega
  have lr2 := hR2.lt
  have d0 := b0a.cell 0
  have l0a := b0a.lt
  clear c0
  go_wp2_with fail
  refine (findBlock_ok _ ao cap zs a (hI.kept k2) hL).mono ?_
  rintro e w3 ⟨rfl, hk3⟩
  have hs3 := hk3.size
  simp only [World.size_alloc] at hs3
  have hbs := b.2
  have hq' : (((b.1.kind : Nat) : Int) == 0) = false := by simpa using hk
  simp only [fbV, hb]
  have HB : Hid (atB zs a = some b) := hb
  clear hb hk d0
  have kb : Kept w3 ((w3.alloc (.cells (bkC (b.1.at' : Nat) (b.1.size : Nat) (b.1.kind : Nat)) 50)).alloc (.cells (bkC (b.1.at' : Nat) (b.1.size : Nat) (b.1.kind : Nat)) 50)) := (Kept.alloc (Below.refl _ _) _).alloc _
  have z0 := (b0a.kept hk3).kept kb
  have z1 := (b1a.kept hk3).kept kb
  have z9 := (b9.kept hk3).kept kb
  have z10 := (Cells.new w3 50 (bkC (b.1.at' : Nat) (b.1.size : Nat) (b.1.kind : Nat))).alloc (.cells (bkC (b.1.at' : Nat) (b.1.size : Nat) (b.1.kind : Nat)) 50)
  have r3 := (r2.kept hk3).kept kb
  have k3 := (k2.trans hk3).trans kb
  go_wp2_with (go_at_call 41; refine (free_ok _ _ _ _).mono ?_; rintro e w4 ⟨rfl, rfl⟩)
  obtain ⟨W3, hW3⟩ : ∃ W3, (w3.alloc (.cells (bkC (b.1.at' : Nat) (b.1.size : Nat) (b.1.kind : Nat)) 50)).alloc (.cells (bkC (b.1.at' : Nat) (b.1.size : Nat) (b.1.kind : Nat)) 50) = W3 := ⟨_, rfl⟩
  rw [hW3] at z0 z1 z9 z10 r3 k3 kb
  simp only [bkC] at hW3
  rw [hW3]
  clear hW3
  have u0 := z0.cell 0
  have u9 := z9.cell 0
  have u100 := z10.cell 0
  have u101 := z10.cell 1
  have u102 := z10.cell 2
  have l9 := z9.lt
  have l10 := z10.lt
  have lr3 := r3.lt
  have lz0 := z0.lt
  go_cut [] from 22 to 28 (fun wx => Row wx g2 (giveB zs b.1) ∧ W3.grownBy wx (some g2))
  case first =>
    have i3 : Ints W3.drew ao zs := hI.kept k3.drew
    have r3d : Row W3.drew g2 zs := r3.kept (Below.refl _ _).drew
    go_region_with (first | (go_at_call 42; refine (freeAbout_ok _ ao cap zs b.1.at' b.1.size b.1.kind i3 hl (by omega)).mono ?_; rintro e w5 ⟨rfl, hk5⟩; have y9 := ((z9.kept (Below.refl _ W3).drew).kept hk5).cell 0) | (go_at_call 33; refine (layBlock_ok _ g2 cp2 zs (about zs b.1).1 (about zs b.1).2 0 (r3d.kept hk5) hin.1 (by omega) (by omega) hcp2 hl).mono ?_; rintro e w6 ⟨⟨v6, rfl⟩, hR6, hG6⟩))
    all_goals (
      go_wp2_with fail
      go_meet
      exact ⟨hR6, kept_grown ((Below.refl _ W3).drew.trans hk5) hG6⟩)
  case rest =>
  obtain ⟨hR4, hG4⟩ := hcut
  have x9 := z9.grown hG4 (by intro e; simp at e; omega)
  have x1 := z1.grown hG4 (by intro e; simp at e; omega)
  have k4 := k3.grownRow hG4 (fun k e => by cases e; omega)
  have y9 := x9.cell 0
  have y1 := x1.cell 0
  have f1 := x1.frozen 0
  have l9' := x9.lt
  have l1' := x1.lt
  clear u0 u9 u100 u101 u102
  go_wp2
  have q := (x1.set1 (.slice (some ⟨g2, 0, none⟩) zs.length cp2)).cell 0
  refine bodyPost_ret (v := .agg #[.slice (some ⟨g2, 0, none⟩) zs.length cp2]) (by simp [results, Try.results14, go_sem, q]) rfl ⟨_, rfl, .inr ⟨g2, cp2, by rw [giveB_len], by omega, by rw [giveB_len]; exact hcp2, hR4.other (by intro h; simp at h <;> omega) _⟩, k4.set (by simp) _⟩
end Go.Proofs.Ytaelmfjhjpjnbaa
