/-
  The contract of impl.Give.
-/
import Derived.Test.YtaclgpkcdbikhaaSlabK
import Derived.Test.YtaclgpkcdbikhaaSlabY
namespace Go.Proofs.Ytaclgpkcdbikhaa
open Go.RowKit
attribute [local go_sem] Plain.and7

/-- What Give makes of the words, of a block b that is not free. -/
def giveB (zs : List Int) (b : Bk) : List Int := layL zs (about zs b).1 (about zs b).2 (8 * ((about zs b).2 : Int) + ((0 : Nat) : Int))
theorem giveB_len (zs : List Int) (b : Bk) : (giveB zs b).length = zs.length := layL_len _ _ _ _
theorem about_in {zs : List Int} {a : Int} {b : BkOf zs.length} (hb : atB zs a = some b) (hk : b.1.kind ≠ 0) : (about zs b.1).1 + (about zs b.1).2 ≤ zs.length ∧ 2 ≤ (about zs b.1).2 := by
  have h := atB_some hb
  obtain ⟨_, _, _, _, _, _, _, h1, h2, h3, _⟩ := about_eq h.1 (List.mem_map.2 ⟨b, h.2.2.2.2.2, rfl⟩) hk
  have := b.2
  omega

theorem grown_late {a b : World} {row : Option Nat} {p : Addr} (h : a.grownBy b row) (hp : a.heap.size ≤ p.block) (v : Value) : a.grownBy (b.setCell p v) row :=
  ⟨h.os, h.tape, h.output, by simpa [World.setCell] using h.size, fun k hk hr => (Below.heap_setCell _ _ _ _ (by omega)).trans (h.block k hk hr)⟩

set_option maxHeartbeats 4000000 in
set_option maxRecDepth 100000 in
theorem giveBlock_ok (w : World) (g cap : Nat) (zs : List Int) (a s q : Nat) (hR : Row w g zs) (hl : zs.length ≤ 1048576) (hle : a + s ≤ zs.length) (hin : (about zs ⟨a, s, q⟩).1 + (about zs ⟨a, s, q⟩).2 ≤ zs.length ∧ 2 ≤ (about zs ⟨a, s, q⟩).2) (hcap : zs.length ≤ cap) :
    Calls Try.prog 48 #[.slice (some ⟨g, 0, none⟩) zs.length cap, bkV a s q] w fun e w' => e = .returned (bkV ((about zs ⟨a, s, q⟩).1 : Nat) ((about zs ⟨a, s, q⟩).2 : Nat) 0) ∧ Row w' g (giveB zs ⟨a, s, q⟩) ∧ w.grownBy w' (some g) := by
  have b0 := (Cells.new w 55 (bkC a s q)).alloc (.cells (bkC 0 0 0) 55)
  have b1 := Cells.new (w.alloc (.cells (bkC a s q) 55)) 55 (bkC 0 0 0)
  have k0 : Kept w ((w.alloc (.cells (bkC a s q) 55)).alloc (.cells (bkC 0 0 0) 55)) := (Kept.alloc (Below.refl _ _) _).alloc _
  simp only [World.size_alloc] at b1
  have c0 := b0.cell 0
  have c1 := b0.cell 1
  have c2 := b0.cell 2
  have l0 := b0.lt
  have hgl := hR.lt
  have hFA := freeAbout_ok ((w.alloc (.cells (bkC a s q) 55)).alloc (.cells (bkC 0 0 0) 55)) (some ⟨g, 0, none⟩) cap zs a s q (hR.ints.kept k0) hl hle
  obtain ⟨f1, hf1⟩ : ∃ f1, (about zs ⟨a, s, q⟩).1 = f1 := ⟨_, rfl⟩
  obtain ⟨f2, hf2⟩ : ∃ f2, (about zs ⟨a, s, q⟩).2 = f2 := ⟨_, rfl⟩
  have hgv : giveB zs ⟨a, s, q⟩ = layL zs f1 f2 (8 * (f2 : Int) + ((0 : Nat) : Int)) := by unfold giveB; rw [hf1, hf2]
  rw [hf1, hf2] at hin hFA
  rw [hf1, hf2, hgv]
  clear hf1 hf2 hgv
  go_enter Try.func48, Try.ntmps48
  go_wp2_with fail
  refine hFA.mono ?_
  rintro e w2 ⟨rfl, hk2⟩
  clear c0 c1 c2 l0 hFA
  have ka : Kept w2 (w2.alloc (.cells (bkC (f1 : Nat) (f2 : Nat) 0) 55)) := Kept.alloc (Below.refl _ _) _
  have b9 := Cells.new w2 55 (bkC (f1 : Nat) (f2 : Nat) 0)
  have b1a := (b1.kept hk2).kept ka
  have r2 := ((hR.kept k0).kept hk2).kept ka
  have k2 := (k0.trans hk2).trans ka
  have d0 := b9.cell 0
  have d1 := b9.cell 1
  have d2 := b9.cell 2
  have hs2 := hk2.size
  simp only [World.size_alloc] at hs2
  go_wp2_with fail
  refine (layBlock_ok _ g cap zs f1 f2 0 r2 hin.1 (by omega) (by omega) hcap hl).mono ?_
  rintro e w3 ⟨⟨v3, rfl⟩, hR3, hG3⟩
  have x9 := b9.grown hG3 (by intro e; simp at e; omega)
  have x1 := b1a.grown hG3 (by intro e; simp at e; omega)
  have e0 := x9.cell 0
  have e1 := x9.cell 1
  have e2 := x9.cell 2
  have l9 := x9.lt
  have l1 := x1.lt
  have y0 := x1.cell 0
  have y1 := x1.cell 1
  have y2 := x1.cell 2
  have p0 := x1.frozen 0
  have p1 := x1.frozen 1
  have p2 := x1.frozen 2
  clear d0 d1 d2
  go_wp2
  have q0 := (((x1.set 0 (.int .i64 (f1 : Nat))).set 1 (.int .i64 (f2 : Nat))).set 2 (.int .i64 0)).cell 0
  have q1 := (((x1.set 0 (.int .i64 (f1 : Nat))).set 1 (.int .i64 (f2 : Nat))).set 2 (.int .i64 0)).cell 1
  have q2 := (((x1.set 0 (.int .i64 (f1 : Nat))).set 1 (.int .i64 (f2 : Nat))).set 2 (.int .i64 0)).cell 2
  simp only [bkC] at q0 q1 q2
  refine bodyPost_ret (v := bkV (f1 : Nat) (f2 : Nat) 0) (by simp [results, Try.results48, go_sem, q0, q1, q2, bkV]) rfl ⟨rfl, ((hR3.other (by simp; omega) _).other (by simp; omega) _).other (by simp; omega) _, grown_late (grown_late (grown_late (kept_grown k2 hG3) (by simp) _) (by simp) _) (by simp) _⟩
set_option maxHeartbeats 4000000 in
set_option maxRecDepth 100000 in
theorem impl_Give_no (w : World) (ao : Option Addr) (cap : Nat) (zs : List Int) (a : Int) (hI : Ints w ao zs) (hl : zs.length ≤ 1048576) (hno : ∀ b, atB zs a = some b → b.1.kind = 0) :
    Calls Try.prog 15 #[.agg #[.slice ao zs.length cap], .int .i64 a] w fun e w' => ∃ v, e = .returned (.agg #[v]) ∧ OwnR w' w.heap.size v zs ∧ Kept w w' := by
  have hL : zs.length * 8 ≤ 140737488351232 := by omega
  have b0 := (Cells.new w 26 #[.slice ao zs.length cap]).alloc (.cells #[.slice none 0 0] 26)
  have b1 := Cells.new (w.alloc (.cells #[.slice ao zs.length cap] 26)) 26 #[.slice none 0 0]
  have k0 : Kept w ((w.alloc (.cells #[.slice ao zs.length cap] 26)).alloc (.cells #[.slice none 0 0] 26)) := (Kept.alloc (Below.refl _ _) _).alloc _
  simp only [World.size_alloc] at b1
  have c0 := b0.cell 0
  go_enter Try.func15, Try.ntmps15
  go_wp2_with fail
  refine (copySlab_ok _ ao cap zs (hI.kept k0) hl).mono ?_
  rintro e w2 ⟨g2, cp2, rfl, hg2, hcp2, hR2, hk2⟩
  have ka : Kept w2 (w2.alloc (.cells #[.slice (some ⟨g2, 0, none⟩) zs.length cp2] 26)) := Kept.alloc (Below.refl _ _) _
  have b9 := Cells.new w2 26 #[.slice (some ⟨g2, 0, none⟩) zs.length cp2]
  have k2 := (k0.trans hk2).trans ka
  have b0a := ((b0.kept hk2).kept ka)
  have b1a := ((b1.kept hk2).kept ka)
  have r2 := hR2.kept ka
  have hgw : w.heap.size + 1 < g2 := by simp at hg2; omega
  have d0 := b0a.cell 0
  have l0a := b0a.lt
  clear c0
  go_wp2_with fail
  refine (findBlock_ok _ ao cap zs a (hI.kept k2) hL).mono ?_
  rintro e w3 ⟨rfl, hk3⟩
  have e9 := (b9.kept hk3).cell 0
  have e1 := (b1a.kept hk3).cell 0
  have g1 := (b1a.kept hk3).frozen 0
  have l9 := (b9.kept hk3).lt
  have l1b := (b1a.kept hk3).lt
  clear d0
  cases hb : atB zs a with
  | none =>
    simp only [fbV, hb]
    clear hb hno
    go_wp2
    have q := (((b1a.kept hk3).set1 (.slice (some ⟨g2, 0, none⟩) zs.length cp2)).alloc (.cells (bkC 0 0 0) 55)).cell 0
    refine bodyPost_ret (v := .agg #[.slice (some ⟨g2, 0, none⟩) zs.length cp2]) (by simp [results, Try.results15, go_sem, q]) rfl ⟨_, rfl, .inr ⟨g2, cp2, rfl, by omega, hcp2, ((r2.kept hk3).other (by intro h; simp at h <;> omega) _).kept (Kept.alloc (Below.refl _ _) _)⟩, ((k2.trans hk3).set (by simp) _).alloc _⟩
  | some b =>
    have hk := hno b hb
    have hbs := b.2
    have hq' : (((b.1.kind : Nat) : Int) == 0) = true := by simp [hk]
    simp only [fbV, hb]
    clear hb hno hk
    have kb : Kept w3 ((w3.alloc (.cells (bkC (b.1.at' : Nat) (b.1.size : Nat) (b.1.kind : Nat)) 55)).alloc (.cells (bkC (b.1.at' : Nat) (b.1.size : Nat) (b.1.kind : Nat)) 55)) := (Kept.alloc (Below.refl _ _) _).alloc _
    have e1' := ((b1a.kept hk3).kept kb).cell 0
    have g1' := ((b1a.kept hk3).kept kb).frozen 0
    simp only [bkC] at e1' g1'
    go_wp2_with (go_at_call 47; refine (free_ok _ _ _ _).mono ?_; rintro e w4 ⟨rfl, rfl⟩)
    have q := (((b1a.kept hk3).kept kb).set1 (.slice (some ⟨g2, 0, none⟩) zs.length cp2)).cell 0
    simp only [bkC] at q
    refine bodyPost_ret (v := .agg #[.slice (some ⟨g2, 0, none⟩) zs.length cp2]) (by simp [results, Try.results15, go_sem, q]) rfl ⟨_, rfl, .inr ⟨g2, cp2, rfl, by omega, hcp2, ((r2.kept hk3).kept kb).other (by intro h; simp at h <;> omega) _⟩, ((k2.trans hk3).trans kb).set (by simp) _⟩

set_option maxHeartbeats 4000000 in
set_option maxRecDepth 100000 in
theorem impl_Give_yes (w : World) (ao : Option Addr) (cap : Nat) (zs : List Int) (a : Int) (b : BkOf zs.length) (hI : Ints w ao zs) (hl : zs.length ≤ 1048576) (hb : atB zs a = some b) (hk : b.1.kind ≠ 0) :
    Calls Try.prog 15 #[.agg #[.slice ao zs.length cap], .int .i64 a] w fun e w' => ∃ v, e = .returned (.agg #[v]) ∧ OwnR w' w.heap.size v (giveB zs b.1) ∧ Kept w w' := by
  have hL : zs.length * 8 ≤ 140737488351232 := by omega
  have hin := about_in hb hk
  have b0 := (Cells.new w 26 #[.slice ao zs.length cap]).alloc (.cells #[.slice none 0 0] 26)
  have b1 := Cells.new (w.alloc (.cells #[.slice ao zs.length cap] 26)) 26 #[.slice none 0 0]
  have k0 : Kept w ((w.alloc (.cells #[.slice ao zs.length cap] 26)).alloc (.cells #[.slice none 0 0] 26)) := (Kept.alloc (Below.refl _ _) _).alloc _
  simp only [World.size_alloc] at b1
  have c0 := b0.cell 0
  go_enter Try.func15, Try.ntmps15
  go_wp2_with fail
  refine (copySlab_ok _ ao cap zs (hI.kept k0) hl).mono ?_
  rintro e w2 ⟨g2, cp2, rfl, hg2, hcp2, hR2, hk2⟩
  have ka : Kept w2 (w2.alloc (.cells #[.slice (some ⟨g2, 0, none⟩) zs.length cp2] 26)) := Kept.alloc (Below.refl _ _) _
  have b9 := Cells.new w2 26 #[.slice (some ⟨g2, 0, none⟩) zs.length cp2]
  have k2 := (k0.trans hk2).trans ka
  have b0a := ((b0.kept hk2).kept ka)
  have b1a := ((b1.kept hk2).kept ka)
  have r2 := hR2.kept ka
  have hgw : w.heap.size + 1 < g2 := by simp at hg2; omega
  have lr2 := hR2.lt
  have d0 := b0a.cell 0
  have l0a := b0a.lt
  clear c0
  go_wp2_with fail
  refine (findBlock_ok _ ao cap zs a (hI.kept k2) hL).mono ?_
  rintro e w3 ⟨rfl, hk3⟩
  have hs3 := hk3.size
  simp only [World.size_alloc] at hs3
  have hbs := b.2
  have hq' : (((b.1.kind : Nat) : Int) == 0) = false := by simpa using hk
  simp only [fbV, hb]
  have HB : Hid (atB zs a = some b) := hb
  clear hb hk d0
  have kb : Kept w3 ((w3.alloc (.cells (bkC (b.1.at' : Nat) (b.1.size : Nat) (b.1.kind : Nat)) 55)).alloc (.cells (bkC (b.1.at' : Nat) (b.1.size : Nat) (b.1.kind : Nat)) 55)) := (Kept.alloc (Below.refl _ _) _).alloc _
  have z0 := (b0a.kept hk3).kept kb
  have z1 := (b1a.kept hk3).kept kb
  have z9 := (b9.kept hk3).kept kb
  have z10 := (Cells.new w3 55 (bkC (b.1.at' : Nat) (b.1.size : Nat) (b.1.kind : Nat))).alloc (.cells (bkC (b.1.at' : Nat) (b.1.size : Nat) (b.1.kind : Nat)) 55)
  have r3 := (r2.kept hk3).kept kb
  have k3 := (k2.trans hk3).trans kb
  have u9 := z9.cell 0
  have u100 := z10.cell 0
  have u101 := z10.cell 1
  have u102 := z10.cell 2
  have l9 := z9.lt
  simp only [bkC] at u9 u100 u101 u102 l9
  go_wp2_with (go_at_call 47; refine (free_ok _ _ _ _).mono ?_; rintro e w4 ⟨rfl, rfl⟩)
  clear u9 u100 u101 u102 l9
  obtain ⟨W3, hW3⟩ : ∃ W3, (w3.alloc (.cells (bkC (b.1.at' : Nat) (b.1.size : Nat) (b.1.kind : Nat)) 55)).alloc (.cells (bkC (b.1.at' : Nat) (b.1.size : Nat) (b.1.kind : Nat)) 55) = W3 := ⟨_, rfl⟩
  rw [hW3] at z0 z1 z9 z10 r3 k3 kb
  simp only [bkC] at hW3
  rw [hW3]
  clear hW3
  have l9 := z9.lt
  have l10 := z10.lt
  have lr3 := r3.lt
  have lz0 := z0.lt
  have r3d : Row W3 g2 zs := r3
  have hab : (about zs ⟨b.1.at', b.1.size, b.1.kind⟩).1 + (about zs ⟨b.1.at', b.1.size, b.1.kind⟩).2 ≤ zs.length ∧ 2 ≤ (about zs ⟨b.1.at', b.1.size, b.1.kind⟩).2 := hin
  refine (giveBlock_ok _ g2 cp2 zs b.1.at' b.1.size b.1.kind r3d hl (by omega) hab hcp2).mono ?_
  rintro e w6 ⟨rfl, hR4, hG4⟩
  have x9 := z9.grown hG4 (by intro e; simp at e; omega)
  have x1 := z1.grown hG4 (by intro e; simp at e; omega)
  have k4 := k3.grownRow hG4 (fun k e => by cases e; omega)
  have y9 := x9.cell 0
  have y1 := x1.cell 0
  have f1 := x1.frozen 0
  have l9' := x9.lt
  have l1' := x1.lt
  go_wp2
  have q := (x1.set1 (.slice (some ⟨g2, 0, none⟩) zs.length cp2)).cell 0
  refine bodyPost_ret (v := .agg #[.slice (some ⟨g2, 0, none⟩) zs.length cp2]) (by simp [results, Try.results15, go_sem, q]) rfl ⟨_, rfl, .inr ⟨g2, cp2, by rw [giveB_len], by omega, by rw [giveB_len]; exact hcp2, hR4.other (by intro h; simp at h <;> omega) _⟩, k4.set (by simp) _⟩
end Go.Proofs.Ytaclgpkcdbikhaa
