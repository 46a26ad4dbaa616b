/-
  The contracts of chapter 6's models that make a scope or a function: l6New, ScopeNew, l6Fun, FunNew.
-/
import Derived.Test.YtpfeghompapgoaaObjF
import Derived.Test.YtpfeghompapgoaaSlabQ
namespace Go.Proofs.Ytpfeghompapgoaa
open Go.RowKit

def scoC (zs : List Int) (p : Int) (n : Nat) : List Int × Int × Bool := match ffB zs ((n : Int) + 2) with
  | none => (zs, 0, false)
  | some b => ((takeL zs b.1 5 (n + 2)).set (b.1.at' + 1) p, 8 * ((b.1.at' : Nat) : Int) + 7, true)
theorem scoC_len (zs : List Int) (p : Int) (n : Nat) : (scoC zs p n).1.length = zs.length := by
  unfold scoC
  split
  · rfl
  · simp [takeL_length]
def funC (zs : List Int) (p r : Int) : List Int × Int × Bool := match ffB zs 3 with
  | none => (zs, 0, false)
  | some b => (((takeL zs b.1 4 3).set (b.1.at' + 1) p).set (b.1.at' + 2) r, 8 * ((b.1.at' : Nat) : Int) + 6, true)
theorem funC_len (zs : List Int) (p r : Int) : (funC zs p r).1.length = zs.length := by
  unfold funC
  split
  · rfl
  · simp [takeL_length]
def scopeNewC (zs : List Int) (up n : Int) : List Int × Int × Bool := if (decide (up = 0) || decide (up % 8 = 7)) && rootsR zs [up] && decide (0 ≤ n ∧ n ≤ 12) then scoC zs up n.toNat else (zeroL zs, 0, false)
theorem scopeNewC_len (zs : List Int) (up n : Int) : (scopeNewC zs up n).1.length = zs.length ∨ (scopeNewC zs up n).1.length = 0 := by
  unfold scopeNewC
  split
  · exact .inl (scoC_len _ _ _)
  · exact zeroL_len zs
def funNewC (zs : List Int) (code scope : Int) : List Int × Int × Bool := if decide (0 ≤ code ∧ code ≤ 99) && isR zs [scope] 7 then funC zs code scope else (zeroL zs, 0, false)
theorem funNewC_len (zs : List Int) (code scope : Int) : (funNewC zs code scope).1.length = zs.length ∨ (funNewC zs code scope).1.length = 0 := by
  unfold funNewC
  split
  · exact .inl (funC_len _ _ _)
  · exact zeroL_len zs
set_option maxHeartbeats 4000000 in
set_option maxRecDepth 100000 in
theorem l6New_ok (w : World) (g cap : Nat) (zs : List Int) (p : Int) (n : Nat) (hR : Row w g zs) (hl : zs.length ≤ 1048576) (hok : slabOk zs = true) (hn : n ≤ 12) (hp : -9223372036854775808 ≤ p ∧ p ≤ 9223372036854775807) :
    Calls Try.prog 19 #[.agg #[.slice (some ⟨g, 0, none⟩) zs.length cap], .int .i64 p, .int .i64 n] w fun e w' =>
      e = .returned (.tuple #[.agg #[.slice (some ⟨g, 0, none⟩) zs.length cap], .int .i64 (scoC zs p n).2.1, .bool (scoC zs p n).2.2]) ∧ Row w' g (scoC zs p n).1 ∧ GS g w w' := by
  have hlen := (slabOk_iff.1 hok).1
  have b0 := (Cells.new w 26 #[.slice (some ⟨g, 0, none⟩) zs.length cap]).alloc (.cells #[.slice none 0 0] 26)
  have b1 := Cells.new (w.alloc (.cells #[.slice (some ⟨g, 0, none⟩) zs.length cap] 26)) 26 #[.slice none 0 0]
  have k0 : Kept w ((w.alloc (.cells #[.slice (some ⟨g, 0, none⟩) zs.length cap] 26)).alloc (.cells #[.slice none 0 0] 26)) := (Kept.alloc (Below.refl _ _) _).alloc _
  have hR0 := hR.kept k0
  have lg := hR.lt
  simp only [World.size_alloc] at b1
  have hT := l2Take_ok _ g cap zs 5 (n + 2) hR0 hl hok (by omega) (by omega) (by omega) (by omega)
  have en : ((n + 2 : Nat) : Int) = (n : Int) + 2 := by omega
  rw [en] at hT
  have c0 := b0.cell 0
  cases hff : ffB zs ((n : Int) + 2) with
  | none =>
    have HP : Hid (scoC zs p n = (zs, 0, false)) := by simp [Hid, scoC, hff]
    have hT' := hT.mono (R' := fun e w' => e = .returned (.tuple #[.agg #[.slice (some ⟨g, 0, none⟩) zs.length cap], .int .i64 0, .bool false]) ∧ Row w' g zs ∧ GS g _ w') (fun e w' h => ⟨(h.2.1 hff).1, (h.2.1 hff).2, h.2.2⟩)
    clear hff hT hok en
    go_enter Try.func19, Try.ntmps19
    go_wp2_with fail
    refine hT'.mono ?_
    rintro e w2 ⟨rfl, hr2, hg2⟩
    have y0 := b0.grown hg2.1 (by intro e; simp at e; omega)
    have y1 := b1.grown hg2.1 (by intro e; simp at e; omega)
    have d0 := (y0.alloc (.cells #[.slice (some ⟨g, 0, none⟩) zs.length cap] 26)).cell 0
    have z1 := y1.alloc (.cells #[.slice (some ⟨g, 0, none⟩) zs.length cap] 26)
    have d1 := z1.cell 0
    have e1 := z1.frozen 0
    clear c0
    go_wp2
    have q := (z1.set1 (.slice (some ⟨g, 0, none⟩) zs.length cap)).cell 0
    refine bodyPost_ret (v := .tuple #[.agg #[.slice (some ⟨g, 0, none⟩) zs.length cap], .int .i64 0, .bool false]) (by simp [results, Try.results19, go_sem, q]) rfl ?_
    rw [HP.out]
    exact ⟨rfl, (hr2.kept (Kept.alloc (Below.refl _ _) _)).other (by intro h; simp at h; omega) _, GS.setNew (GS.trans (GS.trans (GS.any k0 g) hg2) (GS.any (Kept.alloc (Below.refl _ _) _) g)) (by simp) _⟩
  | some b =>
    have hfr : freeP ((n : Int) + 2) b = true := List.find?_some hff
    have hble := b.2.2.1
    have hbs : n + 2 ≤ b.1.size := by simp [freeP] at hfr; omega
    obtain ⟨a, ha⟩ : ∃ a : Nat, b.1.at' = a := ⟨_, rfl⟩
    obtain ⟨ys, hys⟩ : ∃ ys, takeL zs b.1 5 (n + 2) = ys := ⟨_, rfl⟩
    have hyl : ys.length = zs.length := by rw [← hys, takeL_length]
    have HP : Hid (scoC zs p n = (ys.set (a + 1) p, 8 * (a : Int) + 7, true)) := by simp [Hid, scoC, hff, hys, ha]
    have hT' := hT.mono (R' := fun e w' => e = .returned (.tuple #[.agg #[.slice (some ⟨g, 0, none⟩) zs.length cap], .int .i64 (a : Int), .bool true]) ∧ Row w' g ys ∧ GS g _ w') (fun e w' h => ⟨by rw [(h.1 b hff).1, ha], by rw [← hys]; exact (h.1 b hff).2, h.2.2⟩)
    have hfit : a + (n + 2) ≤ zs.length := by omega
    clear hff hT hok en hfr hble hbs hys
    clear ha
    go_enter Try.func19, Try.ntmps19
    go_wp2_with fail
    refine hT'.mono ?_
    rintro e w2 ⟨rfl, hr2, hg2⟩
    have lg2 := hr2.lt
    have y1 := b1.grown hg2.1 (by intro e; simp at e; omega)
    have l1 := y1.lt
    have kA : ∀ W : World, Kept W (W.alloc (.cells #[.slice (some ⟨g, 0, none⟩) zs.length cap] 26)) := fun W => Kept.alloc (Below.refl _ W) _
    have hr3 := hr2.kept (kA w2)
    have cO0 := (Cells.new w2 26 #[.slice (some ⟨g, 0, none⟩) zs.length cap]).cell 0
    have cg := hr3.cell (j := a + 1) (by omega)
    have fg := hr3.frozen (a + 1)
    have p1 : (a : Int) + 1 < (zs.length : Int) := by omega
    have t1 : ((a : Int) + 1).toNat = a + 1 := by omega
    have o4 := Cells.new (w2.setCell ⟨g, a + 1, none⟩ (.int .i64 p)) 26 #[.slice (some ⟨g, 0, none⟩) zs.length cap]
    rw [show (w2.setCell ⟨g, a + 1, none⟩ (.int .i64 p)).heap.size = w2.heap.size by simp [World.setCell]] at o4
    have r4 := hr2.set (k := a + 1) (v := p) (by omega) hp
    have y4 := y1.other (p := ⟨g, a + 1, none⟩) (by intro h; simp at h; omega) (.int .i64 p)
    have G4 : GS g w (w2.setCell ⟨g, a + 1, none⟩ (.int .i64 p)) := GS.set (k := a + 1) (GS.trans (GS.any k0 g) hg2) (.int .i64 p)
    have cO := o4.cell 0
    have c4 := (y4.alloc (.cells #[.slice (some ⟨g, 0, none⟩) zs.length cap] 26)).cell 0
    have f4 := (y4.alloc (.cells #[.slice (some ⟨g, 0, none⟩) zs.length cap] 26)).frozen 0
    have H4 : Hid _ := And.intro r4 (And.intro y4 G4)
    clear c0 r4 y4 G4 o4
    go_wp2_with fail
    go_region_with (go_at_call 36; refine (spec_RefOf_ok _ _ _).mono ?_; rintro e wx ⟨rfl, rfl⟩)
    all_goals go_wp2_with fail
    all_goals (
      obtain ⟨r4, y4, G4⟩ := H4.out
      have q := (((y4.set1 (.slice (some ⟨g, 0, none⟩) zs.length cap)).kept (kA _)).kept (Below.refl _ _).drew).cell 0
      refine bodyPost_ret (v := .tuple #[.agg #[.slice (some ⟨g, 0, none⟩) zs.length cap], .int .i64 (vRef 7 (a : Int)), .bool true]) (by simp [results, Try.results19, go_sem, q]) rfl ?_
      rw [HP.out, vRef_yes (by omega)]
      exact ⟨rfl, ((r4.other (p := ⟨w.heap.size + 1, 0, none⟩) (by intro h; simp at h; omega) _).kept (kA _)).kept (Below.refl _ _).drew, GS.trans (GS.trans (GS.setNew G4 (by simp) _) (GS.any (kA _) g)) (GS.any (Below.refl _ _).drew g)⟩)
set_option maxHeartbeats 4000000 in
set_option maxRecDepth 100000 in
theorem l6Fun_ok (w : World) (g cap : Nat) (zs : List Int) (p r : Int) (hR : Row w g zs) (hl : zs.length ≤ 1048576) (hok : slabOk zs = true) (hp : -9223372036854775808 ≤ p ∧ p ≤ 9223372036854775807) (hr : -9223372036854775808 ≤ r ∧ r ≤ 9223372036854775807) :
    Calls Try.prog 31 #[.agg #[.slice (some ⟨g, 0, none⟩) zs.length cap], .int .i64 p, .int .i64 r] w fun e w' =>
      e = .returned (.tuple #[.agg #[.slice (some ⟨g, 0, none⟩) zs.length cap], .int .i64 (funC zs p r).2.1, .bool (funC zs p r).2.2]) ∧ Row w' g (funC zs p r).1 ∧ GS g w w' := by
  have hlen := (slabOk_iff.1 hok).1
  have b0 := (Cells.new w 26 #[.slice (some ⟨g, 0, none⟩) zs.length cap]).alloc (.cells #[.slice none 0 0] 26)
  have b1 := Cells.new (w.alloc (.cells #[.slice (some ⟨g, 0, none⟩) zs.length cap] 26)) 26 #[.slice none 0 0]
  have k0 : Kept w ((w.alloc (.cells #[.slice (some ⟨g, 0, none⟩) zs.length cap] 26)).alloc (.cells #[.slice none 0 0] 26)) := (Kept.alloc (Below.refl _ _) _).alloc _
  have hR0 := hR.kept k0
  have lg := hR.lt
  simp only [World.size_alloc] at b1
  have hT := l2Take_ok _ g cap zs 4 3 hR0 hl hok (by omega) (by omega) (by omega) (by omega)
  have c0 := b0.cell 0
  cases hff : ffB zs 3 with
  | none =>
    have HP : Hid (funC zs p r = (zs, 0, false)) := by simp [Hid, funC, hff]
    have hT' := hT.mono (R' := fun e w' => e = .returned (.tuple #[.agg #[.slice (some ⟨g, 0, none⟩) zs.length cap], .int .i64 0, .bool false]) ∧ Row w' g zs ∧ GS g _ w') (fun e w' h => ⟨(h.2.1 hff).1, (h.2.1 hff).2, h.2.2⟩)
    clear hff hT hok
    go_enter Try.func31, Try.ntmps31
    go_wp2_with fail
    refine hT'.mono ?_
    rintro e w2 ⟨rfl, hr2, hg2⟩
    have y0 := b0.grown hg2.1 (by intro e; simp at e; omega)
    have y1 := b1.grown hg2.1 (by intro e; simp at e; omega)
    have d0 := (y0.alloc (.cells #[.slice (some ⟨g, 0, none⟩) zs.length cap] 26)).cell 0
    have z1 := y1.alloc (.cells #[.slice (some ⟨g, 0, none⟩) zs.length cap] 26)
    have d1 := z1.cell 0
    have e1 := z1.frozen 0
    clear c0
    go_wp2
    have q := (z1.set1 (.slice (some ⟨g, 0, none⟩) zs.length cap)).cell 0
    refine bodyPost_ret (v := .tuple #[.agg #[.slice (some ⟨g, 0, none⟩) zs.length cap], .int .i64 0, .bool false]) (by simp [results, Try.results31, go_sem, q]) rfl ?_
    rw [HP.out]
    exact ⟨rfl, (hr2.kept (Kept.alloc (Below.refl _ _) _)).other (by intro h; simp at h; omega) _, GS.setNew (GS.trans (GS.trans (GS.any k0 g) hg2) (GS.any (Kept.alloc (Below.refl _ _) _) g)) (by simp) _⟩
  | some b =>
    have hfr : freeP ((3 : Nat) : Int) b = true := List.find?_some hff
    have hble := b.2.2.1
    have hbs : 3 ≤ b.1.size := by simp [freeP] at hfr; omega
    obtain ⟨a, ha⟩ : ∃ a : Nat, b.1.at' = a := ⟨_, rfl⟩
    obtain ⟨ys, hys⟩ : ∃ ys, takeL zs b.1 4 3 = ys := ⟨_, rfl⟩
    have hyl : ys.length = zs.length := by rw [← hys, takeL_length]
    have HP : Hid (funC zs p r = ((ys.set (a + 1) p).set (a + 2) r, 8 * (a : Int) + 6, true)) := by simp [Hid, funC, hff, hys, ha]
    have hT' := hT.mono (R' := fun e w' => e = .returned (.tuple #[.agg #[.slice (some ⟨g, 0, none⟩) zs.length cap], .int .i64 (a : Int), .bool true]) ∧ Row w' g ys ∧ GS g _ w') (fun e w' h => ⟨by rw [(h.1 b hff).1, ha], by rw [← hys]; exact (h.1 b hff).2, h.2.2⟩)
    have hfit : a + 3 ≤ zs.length := by omega
    clear hff hT hok hfr hble hbs hys
    clear ha
    go_enter Try.func31, Try.ntmps31
    go_wp2_with fail
    refine hT'.mono ?_
    rintro e w2 ⟨rfl, hr2, hg2⟩
    have lg2 := hr2.lt
    have y1 := b1.grown hg2.1 (by intro e; simp at e; omega)
    have l1 := y1.lt
    have kA : ∀ W : World, Kept W (W.alloc (.cells #[.slice (some ⟨g, 0, none⟩) zs.length cap] 26)) := fun W => Kept.alloc (Below.refl _ W) _
    have hr3 := hr2.kept (kA w2)
    have cO0 := (Cells.new w2 26 #[.slice (some ⟨g, 0, none⟩) zs.length cap]).cell 0
    have cg := hr3.cell (j := a + 1) (by omega)
    have fg := hr3.frozen (a + 1)
    have p1 : (a : Int) + 1 < (zs.length : Int) := by omega
    have t1 : ((a : Int) + 1).toNat = a + 1 := by omega
    have o4 := Cells.new (w2.setCell ⟨g, a + 1, none⟩ (.int .i64 p)) 26 #[.slice (some ⟨g, 0, none⟩) zs.length cap]
    rw [show (w2.setCell ⟨g, a + 1, none⟩ (.int .i64 p)).heap.size = w2.heap.size by simp [World.setCell]] at o4
    have r4' := hr2.set (k := a + 1) (v := p) (by omega) hp
    have r4 := r4'.set (k := a + 2) (v := r) (by simp; omega) hr
    have cg2 := (r4'.kept (kA _)).cell (j := a + 2) (by simp; omega)
    have fg2 := (r4'.kept (kA _)).frozen (a + 2)
    have p2 : (a : Int) + 2 < (zs.length : Int) := by omega
    have t2 : ((a : Int) + 2).toNat = a + 2 := by omega
    have o5 := Cells.new ((w2.setCell ⟨g, a + 1, none⟩ (.int .i64 p)).setCell ⟨g, a + 2, none⟩ (.int .i64 r)) 26 #[.slice (some ⟨g, 0, none⟩) zs.length cap]
    rw [show ((w2.setCell ⟨g, a + 1, none⟩ (.int .i64 p)).setCell ⟨g, a + 2, none⟩ (.int .i64 r)).heap.size = w2.heap.size by simp [World.setCell]] at o5
    have cO5 := o5.cell 0
    have y4 := (y1.other (p := ⟨g, a + 1, none⟩) (by intro h; simp at h; omega) (.int .i64 p)).other (p := ⟨g, a + 2, none⟩) (by intro h; simp at h; omega) (.int .i64 r)
    have G4 : GS g w ((w2.setCell ⟨g, a + 1, none⟩ (.int .i64 p)).setCell ⟨g, a + 2, none⟩ (.int .i64 r)) := GS.set (k := a + 2) (GS.set (k := a + 1) (GS.trans (GS.any k0 g) hg2) (.int .i64 p)) (.int .i64 r)
    have cO := o4.cell 0
    have c4 := (y4.alloc (.cells #[.slice (some ⟨g, 0, none⟩) zs.length cap] 26)).cell 0
    have f4 := (y4.alloc (.cells #[.slice (some ⟨g, 0, none⟩) zs.length cap] 26)).frozen 0
    have H4 : Hid _ := And.intro r4 (And.intro y4 G4)
    clear c0 r4 r4' y4 G4 o4 o5
    go_wp2_with fail
    go_region_with (go_at_call 36; refine (spec_RefOf_ok _ _ _).mono ?_; rintro e wx ⟨rfl, rfl⟩)
    all_goals go_wp2_with fail
    all_goals (
      obtain ⟨r4, y4, G4⟩ := H4.out
      have q := (((y4.set1 (.slice (some ⟨g, 0, none⟩) zs.length cap)).kept (kA _)).kept (Below.refl _ _).drew).cell 0
      refine bodyPost_ret (v := .tuple #[.agg #[.slice (some ⟨g, 0, none⟩) zs.length cap], .int .i64 (vRef 6 (a : Int)), .bool true]) (by simp [results, Try.results31, go_sem, q]) rfl ?_
      rw [HP.out, vRef_yes (by omega)]
      exact ⟨rfl, ((r4.other (p := ⟨w.heap.size + 1, 0, none⟩) (by intro h; simp at h; omega) _).kept (kA _)).kept (Below.refl _ _).drew, GS.trans (GS.trans (GS.setNew G4 (by simp) _) (GS.any (kA _) g)) (GS.any (Below.refl _ _).drew g)⟩)
set_option maxHeartbeats 8000000 in
set_option maxRecDepth 100000 in
theorem spec_ScopeNew_ok (w : World) (ao : Option Addr) (cap : Nat) (zs : List Int) (up n : Int) (hI : Ints w ao zs) (hl : zs.length ≤ 1048576) (hu : -9223372036854775808 ≤ up ∧ up ≤ 9223372036854775807) :
    Calls Try.prog 6 #[.agg #[.slice ao zs.length cap], .int .i64 up, .int .i64 n] w fun e w' => ∃ u, e = .returned (.tuple #[.agg #[u], .int .i64 (scopeNewC zs up n).2.1, .bool (scopeNewC zs up n).2.2]) ∧ OwnR w' w.heap.size u (scopeNewC zs up n).1 ∧ Kept w w' ∧ FullV w' u := by
  have b0 := (Cells.new w 26 #[.slice ao zs.length cap]).alloc (.cells #[.slice none 0 0] 26)
  have b1 := Cells.new (w.alloc (.cells #[.slice ao zs.length cap] 26)) 26 #[.slice none 0 0]
  have k0 : Kept w ((w.alloc (.cells #[.slice ao zs.length cap] 26)).alloc (.cells #[.slice none 0 0] 26)) := (Kept.alloc (Below.refl _ _) _).alloc _
  simp only [World.size_alloc] at b1
  have HZ : Hid (∀ (u : World), Kept w u → Calls Try.prog 18 #[.agg #[.slice ao zs.length cap]] u fun e w' => ∃ v, e = .returned (.agg #[v]) ∧ OwnR w' u.heap.size v (zeroL zs) ∧ Kept u w' ∧ FullV w' v) := fun u hu => l5Zero_ok u ao cap zs (hI.kept hu) hl
  have c0' := b0.cell 0
  have hup : (up = 0 ∧ (up != 0) = false) ∨ (up ≠ 0 ∧ (up != 0) = true) := by
    by_cases h : up = 0
    · exact .inl ⟨h, by simp [h]⟩
    · exact .inr ⟨h, by simp [h]⟩
  by_cases hbad : up ≠ 0 ∧ up % 8 ≠ 7
  · have HC : Hid (scopeNewC zs up n = (zeroL zs, 0, false)) := by simp [Hid, scopeNewC, hbad.1, hbad.2]
    have h1 : (up != 0) = true := by simp [hbad.1]
    have h2 : (up % 8 != 7) = true := by simp [hbad.2]
    clear hup hbad
    go_enter Try.func6, Try.ntmps6
    go_wp2_with (first | (go_at_call 15; refine (spec_Kind_ok _ _).mono ?_; rintro e wx ⟨rfl, rfl⟩) | (go_at_call 18; refine (HZ.out _ k0).mono ?_; rintro e wz ⟨vz, rfl, oz, hkz, fvz⟩; obtain ⟨laz, lcz, rfl, _⟩ := oz.ints; have xz := b1.kept hkz; have dz := xz.cell 0; have fz := xz.frozen 0; have lz := xz.lt))
    have q := (xz.set1 (.slice laz (zeroL zs).length lcz)).cell 0
    refine bodyPost_ret (v := .tuple #[.agg #[.slice laz (zeroL zs).length lcz], .int .i64 0, .bool false]) (by simp [results, Try.results6, go_sem, q]) rfl ?_
    rw [HC.out]
    refine ⟨_, rfl, ?_, (k0.trans hkz).set (by simp) _, fvz.set _ _ _⟩
    rcases oz with ⟨h1, h2⟩ | ⟨g3, c3, h1, h2, h3, h4⟩
    · exact .inl ⟨h1, h2⟩
    · simp only [World.size_alloc] at h2
      exact .inr ⟨g3, c3, h1, by omega, h3, h4.other (by intro h; simp at h <;> omega) _⟩
  · have hgood : (decide (up = 0) || decide (up % 8 = 7)) = true := by
      simp only [Bool.or_eq_true, decide_eq_true_eq]; omega
    have hIs := RootsOk_at _ ao cap zs [up] 1 #[.int .i64 up] rfl rfl (by simpa using hu) (by omega) (hI.kept k0) hl
    simp only [World.size_alloc] at hIs
    have c0 := (b0.alloc (.cells #[.int .i64 up] 3)).cell 0
    have h7 : up ≠ 0 → (up % 8 != 7) = false := fun h => by simp; omega
    cases hr : rootsR zs [up] with
    | false =>
      have HC : Hid (scopeNewC zs up n = (zeroL zs, 0, false)) := by simp [Hid, scopeNewC, hr]
      rw [hr] at hIs
      rcases hup with ⟨hu0, hu1⟩ | ⟨hu0, hu1⟩
      · clear hgood hbad h7 hr hu0
        go_enter Try.func6, Try.ntmps6
        go_wp2_with (first | (go_at_call 15; refine (spec_Kind_ok _ _).mono ?_; rintro e wx ⟨rfl, rfl⟩) | (go_at_call 16; refine hIs.mono ?_; rintro e w1 ⟨rfl, hk1⟩; have d0 := (b0.kept hk1).cell 0) | (go_at_call 18; refine (HZ.out _ (k0.trans hk1)).mono ?_; rintro e wz ⟨vz, rfl, oz, hkz, fvz⟩; obtain ⟨laz, lcz, rfl, _⟩ := oz.ints; have xz := (b1.kept hk1).kept hkz; have dz := xz.cell 0; have fz := xz.frozen 0; have lz := xz.lt))
        have hs0 := hk1.size
        simp only [World.size_alloc] at hs0
        have q := (xz.set1 (.slice laz (zeroL zs).length lcz)).cell 0
        refine bodyPost_ret (v := .tuple #[.agg #[.slice laz (zeroL zs).length lcz], .int .i64 0, .bool false]) (by simp [results, Try.results6, go_sem, q]) rfl ?_
        rw [HC.out]
        refine ⟨_, rfl, ?_, ((k0.trans hk1).trans hkz).set (by simp) _, fvz.set _ _ _⟩
        rcases oz with ⟨h1, h2⟩ | ⟨g3, c3, h1, h2, h3, h4⟩
        · exact .inl ⟨h1, h2⟩
        · exact .inr ⟨g3, c3, h1, by omega, h3, h4.other (by intro h; simp at h <;> omega) _⟩
      · have h7' := h7 hu0
        clear hgood hbad h7 hr hu0
        go_enter Try.func6, Try.ntmps6
        go_wp2_with (first | (go_at_call 15; refine (spec_Kind_ok _ _).mono ?_; rintro e wx ⟨rfl, rfl⟩) | (go_at_call 16; refine hIs.mono ?_; rintro e w1 ⟨rfl, hk1⟩; have d0 := (b0.kept hk1).cell 0) | (go_at_call 18; refine (HZ.out _ (k0.trans hk1)).mono ?_; rintro e wz ⟨vz, rfl, oz, hkz, fvz⟩; obtain ⟨laz, lcz, rfl, _⟩ := oz.ints; have xz := (b1.kept hk1).kept hkz; have dz := xz.cell 0; have fz := xz.frozen 0; have lz := xz.lt))
        have hs0 := hk1.size
        simp only [World.size_alloc] at hs0
        have q := (xz.set1 (.slice laz (zeroL zs).length lcz)).cell 0
        refine bodyPost_ret (v := .tuple #[.agg #[.slice laz (zeroL zs).length lcz], .int .i64 0, .bool false]) (by simp [results, Try.results6, go_sem, q]) rfl ?_
        rw [HC.out]
        refine ⟨_, rfl, ?_, ((k0.trans hk1).trans hkz).set (by simp) _, fvz.set _ _ _⟩
        rcases oz with ⟨h1, h2⟩ | ⟨g3, c3, h1, h2, h3, h4⟩
        · exact .inl ⟨h1, h2⟩
        · exact .inr ⟨g3, c3, h1, by omega, h3, h4.other (by intro h; simp at h <;> omega) _⟩
    | true =>
      rw [hr] at hIs
      by_cases hn : 0 ≤ n ∧ n ≤ 12
      · obtain ⟨m, rfl⟩ : ∃ m : Nat, n = m := ⟨n.toNat, by omega⟩
        have hok := heapR_slab (rootsR_heap hr)
        have HC0 : Hid (scopeNewC zs up m = scoC zs up m) := by simp only [Hid, scopeNewC, hgood, hr, hn, Int.toNat_natCast]; simp
        have hT := fun (u : World) (g c : Nat) (hR : Row u g zs) => l6New_ok u g c zs up m hR hl hok (by omega) hu
        have hrl := scoC_len zs up m
        obtain ⟨rs, hrs⟩ : ∃ rs, (scoC zs up m).1 = rs := ⟨_, rfl⟩
        obtain ⟨x, hx⟩ : ∃ x, (scoC zs up m).2.1 = x := ⟨_, rfl⟩
        obtain ⟨y, hy⟩ : ∃ y, (scoC zs up m).2.2 = y := ⟨_, rfl⟩
        have HC : Hid (scopeNewC zs up m = (rs, x, y)) := by show _ = _; rw [HC0.out, ← hrs, ← hx, ← hy]
        rw [hrs, hx, hy] at hT
        rw [hrs] at hrl
        have hin := fun (u : World) => l1In_yes (m : Int) 0 12 u hn.1 hn.2
        have HN : Hid _ := hin
        rcases hup with ⟨hu0, hu1⟩ | ⟨hu0, hu1⟩
        · clear hgood hbad h7 hr hu0 hok HC0 hrs hx hy hin hn
          go_enter Try.func6, Try.ntmps6
          go_wp2_with (first | (go_at_call 15; refine (spec_Kind_ok _ _).mono ?_; rintro e wx ⟨rfl, rfl⟩) | (go_at_call 16; refine hIs.mono ?_; rintro e w1 ⟨rfl, hk1⟩; have d0 := (b0.kept hk1).cell 0) | (go_at_call 17; refine (HN.out _).mono ?_; rintro e wx ⟨rfl, rfl⟩) | (go_at_call 20; refine (l2Copy_ok _ ao cap zs ((hI.kept (k0.trans hk1))) hl).mono ?_; rintro e wc ⟨gc, cc, rfl, hgc, hcc, hRc, hkc, szc⟩) | (go_at_call 19; refine (hT _ gc cc hRc).mono ?_; rintro e wm ⟨rfl, hRm, hGm⟩; have hs0 := hk1.size; simp only [World.size_alloc] at hs0; have xm := ((b1.kept hk1).kept hkc).grown hGm.1 (by intro e; simp at e; omega); have dm := xm.cell 0; have fm := xm.frozen 0; have lm := xm.lt))
          have km := ((k0.trans hk1).trans hkc).grownRow hGm.1 (fun k e => by cases e; omega)
          have q := ((xm.set1 (.slice (some ⟨gc, 0, none⟩) zs.length cc)).alloc (.cells #[.slice (some ⟨gc, 0, none⟩) zs.length cc] 26)).cell 0
          refine bodyPost_ret (v := .tuple #[.agg #[.slice (some ⟨gc, 0, none⟩) zs.length cc], .int .i64 x, .bool y]) (by simp [results, Try.results6, go_sem, q]) rfl ?_
          rw [HC.out]
          exact ⟨_, rfl, .inr ⟨gc, cc, by rw [hrl], by omega, by rw [hrl]; exact hcc, (hRm.other (by intro h; simp at h <;> omega) _).kept (Kept.alloc (Below.refl _ _) _)⟩, (km.set (by simp) _).alloc _, FullV.one (((hGm.2 _ szc).set _ _ _).kept (Kept.alloc (Below.refl _ _) _))⟩
        · have h7' := h7 hu0
          clear hgood hbad h7 hr hu0 hok HC0 hrs hx hy hin hn
          go_enter Try.func6, Try.ntmps6
          go_wp2_with (first | (go_at_call 15; refine (spec_Kind_ok _ _).mono ?_; rintro e wx ⟨rfl, rfl⟩) | (go_at_call 16; refine hIs.mono ?_; rintro e w1 ⟨rfl, hk1⟩; have d0 := (b0.kept hk1).cell 0) | (go_at_call 17; refine (HN.out _).mono ?_; rintro e wx ⟨rfl, rfl⟩) | (go_at_call 20; refine (l2Copy_ok _ ao cap zs ((hI.kept (k0.trans hk1))) hl).mono ?_; rintro e wc ⟨gc, cc, rfl, hgc, hcc, hRc, hkc, szc⟩) | (go_at_call 19; refine (hT _ gc cc hRc).mono ?_; rintro e wm ⟨rfl, hRm, hGm⟩; have hs0 := hk1.size; simp only [World.size_alloc] at hs0; have xm := ((b1.kept hk1).kept hkc).grown hGm.1 (by intro e; simp at e; omega); have dm := xm.cell 0; have fm := xm.frozen 0; have lm := xm.lt))
          have km := ((k0.trans hk1).trans hkc).grownRow hGm.1 (fun k e => by cases e; omega)
          have q := ((xm.set1 (.slice (some ⟨gc, 0, none⟩) zs.length cc)).alloc (.cells #[.slice (some ⟨gc, 0, none⟩) zs.length cc] 26)).cell 0
          refine bodyPost_ret (v := .tuple #[.agg #[.slice (some ⟨gc, 0, none⟩) zs.length cc], .int .i64 x, .bool y]) (by simp [results, Try.results6, go_sem, q]) rfl ?_
          rw [HC.out]
          exact ⟨_, rfl, .inr ⟨gc, cc, by rw [hrl], by omega, by rw [hrl]; exact hcc, (hRm.other (by intro h; simp at h <;> omega) _).kept (Kept.alloc (Below.refl _ _) _)⟩, (km.set (by simp) _).alloc _, FullV.one (((hGm.2 _ szc).set _ _ _).kept (Kept.alloc (Below.refl _ _) _))⟩
      · have HC : Hid (scopeNewC zs up n = (zeroL zs, 0, false)) := by simp [Hid, scopeNewC]; omega
        have hin := fun (u : World) => l1In_no n 0 12 u (by omega)
        have HN : Hid _ := hin
        rcases hup with ⟨hu0, hu1⟩ | ⟨hu0, hu1⟩
        · clear hgood hbad h7 hr hu0 hin hn
          go_enter Try.func6, Try.ntmps6
          go_wp2_with (first | (go_at_call 15; refine (spec_Kind_ok _ _).mono ?_; rintro e wx ⟨rfl, rfl⟩) | (go_at_call 16; refine hIs.mono ?_; rintro e w1 ⟨rfl, hk1⟩; have d0 := (b0.kept hk1).cell 0) | (go_at_call 17; refine (HN.out _).mono ?_; rintro e wx ⟨rfl, rfl⟩) | (go_at_call 18; refine (HZ.out _ (k0.trans hk1)).mono ?_; rintro e wz ⟨vz, rfl, oz, hkz, fvz⟩; obtain ⟨laz, lcz, rfl, _⟩ := oz.ints; have xz := (b1.kept hk1).kept hkz; have dz := xz.cell 0; have fz := xz.frozen 0; have lz := xz.lt))
          have hs0 := hk1.size
          simp only [World.size_alloc] at hs0
          have q := (xz.set1 (.slice laz (zeroL zs).length lcz)).cell 0
          refine bodyPost_ret (v := .tuple #[.agg #[.slice laz (zeroL zs).length lcz], .int .i64 0, .bool false]) (by simp [results, Try.results6, go_sem, q]) rfl ?_
          rw [HC.out]
          refine ⟨_, rfl, ?_, ((k0.trans hk1).trans hkz).set (by simp) _, fvz.set _ _ _⟩
          rcases oz with ⟨h1, h2⟩ | ⟨g3, c3, h1, h2, h3, h4⟩
          · exact .inl ⟨h1, h2⟩
          · exact .inr ⟨g3, c3, h1, by omega, h3, h4.other (by intro h; simp at h <;> omega) _⟩
        · have h7' := h7 hu0
          clear hgood hbad h7 hr hu0 hin hn
          go_enter Try.func6, Try.ntmps6
          go_wp2_with (first | (go_at_call 15; refine (spec_Kind_ok _ _).mono ?_; rintro e wx ⟨rfl, rfl⟩) | (go_at_call 16; refine hIs.mono ?_; rintro e w1 ⟨rfl, hk1⟩; have d0 := (b0.kept hk1).cell 0) | (go_at_call 17; refine (HN.out _).mono ?_; rintro e wx ⟨rfl, rfl⟩) | (go_at_call 18; refine (HZ.out _ (k0.trans hk1)).mono ?_; rintro e wz ⟨vz, rfl, oz, hkz, fvz⟩; obtain ⟨laz, lcz, rfl, _⟩ := oz.ints; have xz := (b1.kept hk1).kept hkz; have dz := xz.cell 0; have fz := xz.frozen 0; have lz := xz.lt))
          have hs0 := hk1.size
          simp only [World.size_alloc] at hs0
          have q := (xz.set1 (.slice laz (zeroL zs).length lcz)).cell 0
          refine bodyPost_ret (v := .tuple #[.agg #[.slice laz (zeroL zs).length lcz], .int .i64 0, .bool false]) (by simp [results, Try.results6, go_sem, q]) rfl ?_
          rw [HC.out]
          refine ⟨_, rfl, ?_, ((k0.trans hk1).trans hkz).set (by simp) _, fvz.set _ _ _⟩
          rcases oz with ⟨h1, h2⟩ | ⟨g3, c3, h1, h2, h3, h4⟩
          · exact .inl ⟨h1, h2⟩
          · exact .inr ⟨g3, c3, h1, by omega, h3, h4.other (by intro h; simp at h <;> omega) _⟩
set_option maxHeartbeats 8000000 in
set_option maxRecDepth 100000 in
theorem spec_FunNew_ok (w : World) (ao : Option Addr) (cap : Nat) (zs : List Int) (code scope : Int) (hI : Ints w ao zs) (hl : zs.length ≤ 1048576) (hs : -9223372036854775808 ≤ scope ∧ scope ≤ 9223372036854775807) :
    Calls Try.prog 12 #[.agg #[.slice ao zs.length cap], .int .i64 code, .int .i64 scope] w fun e w' => ∃ u, e = .returned (.tuple #[.agg #[u], .int .i64 (funNewC zs code scope).2.1, .bool (funNewC zs code scope).2.2]) ∧ OwnR w' w.heap.size u (funNewC zs code scope).1 ∧ Kept w w' ∧ FullV w' u := by
  have b0 := (Cells.new w 26 #[.slice ao zs.length cap]).alloc (.cells #[.slice none 0 0] 26)
  have b1 := Cells.new (w.alloc (.cells #[.slice ao zs.length cap] 26)) 26 #[.slice none 0 0]
  have k0 : Kept w ((w.alloc (.cells #[.slice ao zs.length cap] 26)).alloc (.cells #[.slice none 0 0] 26)) := (Kept.alloc (Below.refl _ _) _).alloc _
  simp only [World.size_alloc] at b1
  have HZ : Hid (∀ (u : World), Kept w u → Calls Try.prog 18 #[.agg #[.slice ao zs.length cap]] u fun e w' => ∃ v, e = .returned (.agg #[v]) ∧ OwnR w' u.heap.size v (zeroL zs) ∧ Kept u w' ∧ FullV w' v) := fun u hu => l5Zero_ok u ao cap zs (hI.kept hu) hl
  have c0' := b0.cell 0
  by_cases hn : 0 ≤ code ∧ code ≤ 99
  · have hin := fun (u : World) => l1In_yes code 0 99 u hn.1 hn.2
    have HN : Hid _ := hin
    have hIs := l5Is_at _ ao cap zs [scope] 1 7 #[.int .i64 scope] rfl rfl (by simpa using hs) (by omega) (by omega) (hI.kept k0) hl
    simp only [World.size_alloc] at hIs
    have c0 := (b0.alloc (.cells #[.int .i64 scope] 3)).cell 0
    cases hi : isR zs [scope] 7 with
    | false =>
      have HC : Hid (funNewC zs code scope = (zeroL zs, 0, false)) := by simp [Hid, funNewC, hi]
      rw [hi] at hIs
      clear hi hin hn
      go_enter Try.func12, Try.ntmps12
      go_wp2_with (first | (go_at_call 17; refine (HN.out _).mono ?_; rintro e wx ⟨rfl, rfl⟩) | (go_at_call 30; refine hIs.mono ?_; rintro e w1 ⟨rfl, hk1⟩; have d0 := (b0.kept hk1).cell 0) | (go_at_call 18; refine (HZ.out _ (k0.trans hk1)).mono ?_; rintro e wz ⟨vz, rfl, oz, hkz, fvz⟩; obtain ⟨laz, lcz, rfl, _⟩ := oz.ints; have xz := (b1.kept hk1).kept hkz; have dz := xz.cell 0; have fz := xz.frozen 0; have lz := xz.lt))
      have hs0 := hk1.size
      simp only [World.size_alloc] at hs0
      have q := (xz.set1 (.slice laz (zeroL zs).length lcz)).cell 0
      refine bodyPost_ret (v := .tuple #[.agg #[.slice laz (zeroL zs).length lcz], .int .i64 0, .bool false]) (by simp [results, Try.results12, go_sem, q]) rfl ?_
      rw [HC.out]
      refine ⟨_, rfl, ?_, ((k0.trans hk1).trans hkz).set (by simp) _, fvz.set _ _ _⟩
      rcases oz with ⟨h1, h2⟩ | ⟨g3, c3, h1, h2, h3, h4⟩
      · exact .inl ⟨h1, h2⟩
      · exact .inr ⟨g3, c3, h1, by omega, h3, h4.other (by intro h; simp at h <;> omega) _⟩
    | true =>
      rw [hi] at hIs
      have hok := heapR_slab (isR_facts hi).1
      have HC0 : Hid (funNewC zs code scope = funC zs code scope) := by simp [Hid, funNewC, hi, hn]
      have hT := fun (u : World) (g c : Nat) (hR : Row u g zs) => l6Fun_ok u g c zs code scope hR hl hok ⟨by omega, by omega⟩ hs
      have hrl := funC_len zs code scope
      obtain ⟨rs, hrs⟩ : ∃ rs, (funC zs code scope).1 = rs := ⟨_, rfl⟩
      obtain ⟨x, hx⟩ : ∃ x, (funC zs code scope).2.1 = x := ⟨_, rfl⟩
      obtain ⟨y, hy⟩ : ∃ y, (funC zs code scope).2.2 = y := ⟨_, rfl⟩
      have HC : Hid (funNewC zs code scope = (rs, x, y)) := by show _ = _; rw [HC0.out, ← hrs, ← hx, ← hy]
      rw [hrs, hx, hy] at hT
      rw [hrs] at hrl
      clear hi hin hn hok HC0 hrs hx hy
      go_enter Try.func12, Try.ntmps12
      go_wp2_with (first | (go_at_call 17; refine (HN.out _).mono ?_; rintro e wx ⟨rfl, rfl⟩) | (go_at_call 30; refine hIs.mono ?_; rintro e w1 ⟨rfl, hk1⟩; have d0 := (b0.kept hk1).cell 0) | (go_at_call 20; refine (l2Copy_ok _ ao cap zs ((hI.kept (k0.trans hk1))) hl).mono ?_; rintro e wc ⟨gc, cc, rfl, hgc, hcc, hRc, hkc, szc⟩) | (go_at_call 31; refine (hT _ gc cc hRc).mono ?_; rintro e wm ⟨rfl, hRm, hGm⟩; have hs0 := hk1.size; simp only [World.size_alloc] at hs0; have xm := ((b1.kept hk1).kept hkc).grown hGm.1 (by intro e; simp at e; omega); have dm := xm.cell 0; have fm := xm.frozen 0; have lm := xm.lt))
      have km := ((k0.trans hk1).trans hkc).grownRow hGm.1 (fun k e => by cases e; omega)
      have q := ((xm.set1 (.slice (some ⟨gc, 0, none⟩) zs.length cc)).alloc (.cells #[.slice (some ⟨gc, 0, none⟩) zs.length cc] 26)).cell 0
      refine bodyPost_ret (v := .tuple #[.agg #[.slice (some ⟨gc, 0, none⟩) zs.length cc], .int .i64 x, .bool y]) (by simp [results, Try.results12, go_sem, q]) rfl ?_
      rw [HC.out]
      exact ⟨_, rfl, .inr ⟨gc, cc, by rw [hrl], by omega, by rw [hrl]; exact hcc, (hRm.other (by intro h; simp at h <;> omega) _).kept (Kept.alloc (Below.refl _ _) _)⟩, (km.set (by simp) _).alloc _, FullV.one (((hGm.2 _ szc).set _ _ _).kept (Kept.alloc (Below.refl _ _) _))⟩
  · have hin := fun (u : World) => l1In_no code 0 99 u (by omega)
    have HN : Hid _ := hin
    have HC : Hid (funNewC zs code scope = (zeroL zs, 0, false)) := by
      have : decide (0 ≤ code ∧ code ≤ 99) = false := by simpa using hn
      simp only [Hid, funNewC, this]; simp
    clear hin hn
    go_enter Try.func12, Try.ntmps12
    go_wp2_with (first | (go_at_call 17; refine (HN.out _).mono ?_; rintro e wx ⟨rfl, rfl⟩) | (go_at_call 18; refine (HZ.out _ k0).mono ?_; rintro e wz ⟨vz, rfl, oz, hkz, fvz⟩; obtain ⟨laz, lcz, rfl, _⟩ := oz.ints; have xz := b1.kept hkz; have dz := xz.cell 0; have fz := xz.frozen 0; have lz := xz.lt))
    have q := (xz.set1 (.slice laz (zeroL zs).length lcz)).cell 0
    refine bodyPost_ret (v := .tuple #[.agg #[.slice laz (zeroL zs).length lcz], .int .i64 0, .bool false]) (by simp [results, Try.results12, go_sem, q]) rfl ?_
    rw [HC.out]
    refine ⟨_, rfl, ?_, (k0.trans hkz).set (by simp) _, fvz.set _ _ _⟩
    rcases oz with ⟨h1, h2⟩ | ⟨g3, c3, h1, h2, h3, h4⟩
    · exact .inl ⟨h1, h2⟩
    · simp only [World.size_alloc] at h2
      exact .inr ⟨g3, c3, h1, by omega, h3, h4.other (by intro h; simp at h <;> omega) _⟩
end Go.Proofs.Ytpfeghompapgoaa
