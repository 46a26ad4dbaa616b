/-
  The contracts of chapter 6's models that make a scope or a function: l6New, ScopeNew, l6Fun, FunNew.
-/
import Derived.Test.YtgempjjnfpmndaaGreatDoorGrqOh
import Derived.Test.YtgempjjnfpmndaaGreatDoorGrqOq
namespace Go.Proofs.YtgempjjnfpmndaaGreatDoor
open Go.RowKit

def scoC (zs : List Int) (p : Int) (n : Nat) : List Int × Int × Bool := match ffB zs ((n : Int) + 2) with
  | none => (zs, 0, false)
  | some b => ((takeL zs b.1 5 (n + 2)).set (b.1.at' + 1) p, 8 * ((b.1.at' : Nat) : Int) + 7, true)
theorem scoC_len (zs : List Int) (p : Int) (n : Nat) : (scoC zs p n).1.length = zs.length := by
  unfold scoC
  split
  · rfl
  · simp [takeL_length]
def funC (zs : List Int) (p r : Int) : List Int × Int × Bool := match ffB zs 3 with
  | none => (zs, 0, false)
  | some b => (((takeL zs b.1 4 3).set (b.1.at' + 1) p).set (b.1.at' + 2) r, 8 * ((b.1.at' : Nat) : Int) + 6, true)
theorem funC_len (zs : List Int) (p r : Int) : (funC zs p r).1.length = zs.length := by
  unfold funC
  split
  · rfl
  · simp [takeL_length]
def scopeNewC (zs : List Int) (up n : Int) : List Int × Int × Bool := if (decide (up = 0) || decide (up % 8 = 7)) && rootsR zs [up] && decide (0 ≤ n ∧ n ≤ 12) then scoC zs up n.toNat else (zeroL zs, 0, false)
theorem scopeNewC_len (zs : List Int) (up n : Int) : (scopeNewC zs up n).1.length = zs.length ∨ (scopeNewC zs up n).1.length = 0 := by
  unfold scopeNewC
  split
  · exact .inl (scoC_len _ _ _)
  · exact zeroL_len zs
def funNewC (zs : List Int) (code scope : Int) : List Int × Int × Bool := if decide (0 ≤ code ∧ code ≤ 99) && isR zs [scope] 7 then funC zs code scope else (zeroL zs, 0, false)
theorem funNewC_len (zs : List Int) (code scope : Int) : (funNewC zs code scope).1.length = zs.length ∨ (funNewC zs code scope).1.length = 0 := by
  unfold funNewC
  split
  · exact .inl (funC_len _ _ _)
  · exact zeroL_len zs
set_option maxHeartbeats 4000000 in
set_option maxRecDepth 100000 in
theorem l6New_ok (w : World) (g cap : Nat) (zs : List Int) (p : Int) (n : Nat) (hR : Row w g zs) (hl : zs.length ≤ 1048576) (hok : slabOk zs = true) (hn : n ≤ 12) (hp : -9223372036854775808 ≤ p ∧ p ≤ 9223372036854775807) :
    Calls Tryz.prog 50 #[.agg #[.slice (some ⟨g, 0, none⟩) zs.length cap], .int .i64 p, .int .i64 n] w fun e w' =>
      e = .returned (.tuple #[.agg #[.slice (some ⟨g, 0, none⟩) zs.length cap], .int .i64 (scoC zs p n).2.1, .bool (scoC zs p n).2.2]) ∧ Row w' g (scoC zs p n).1 ∧ GS g w w' := by
  have hlen := (slabOk_iff.1 hok).1
  have b0 := (Cells.new w 39 #[.slice (some ⟨g, 0, none⟩) zs.length cap]).alloc (.cells #[.slice none 0 0] 39)
  have b1 := Cells.new (w.alloc (.cells #[.slice (some ⟨g, 0, none⟩) zs.length cap] 39)) 39 #[.slice none 0 0]
  have k0 : Kept w ((w.alloc (.cells #[.slice (some ⟨g, 0, none⟩) zs.length cap] 39)).alloc (.cells #[.slice none 0 0] 39)) := (Kept.alloc (Below.refl _ _) _).alloc _
  have hR0 := hR.kept k0
  have lg := hR.lt
  simp only [World.size_alloc] at b1
  have hT := l2Take_ok _ g cap zs 5 (n + 2) hR0 hl hok (by omega) (by omega) (by omega) (by omega)
  have en : ((n + 2 : Nat) : Int) = (n : Int) + 2 := by omega
  rw [en] at hT
  have c0 := b0.cell 0
  cases hff : ffB zs ((n : Int) + 2) with
  | none =>
    have HP : Hid (scoC zs p n = (zs, 0, false)) := by simp [Hid, scoC, hff]
    have hT' := hT.mono (R' := fun e w' => e = .returned (.tuple #[.agg #[.slice (some ⟨g, 0, none⟩) zs.length cap], .int .i64 0, .bool false]) ∧ Row w' g zs ∧ GS g _ w') (fun e w' h => ⟨(h.2.1 hff).1, (h.2.1 hff).2, h.2.2⟩)
    clear hff hT hok en
    go_enter Tryz.func50, Tryz.ntmps50
    go_wp2_with fail
    refine hT'.mono ?_
    rintro e w2 ⟨rfl, hr2, hg2⟩
    have y0 := b0.grown hg2.1 (by intro e; simp at e; omega)
    have y1 := b1.grown hg2.1 (by intro e; simp at e; omega)
    have d0 := (y0.alloc (.cells #[.slice (some ⟨g, 0, none⟩) zs.length cap] 39)).cell 0
    have z1 := y1.alloc (.cells #[.slice (some ⟨g, 0, none⟩) zs.length cap] 39)
    have d1 := z1.cell 0
    have e1 := z1.frozen 0
    clear c0
    go_wp2
    have q := (z1.set1 (.slice (some ⟨g, 0, none⟩) zs.length cap)).cell 0
    refine bodyPost_ret (v := .tuple #[.agg #[.slice (some ⟨g, 0, none⟩) zs.length cap], .int .i64 0, .bool false]) (by simp [results, Tryz.results50, go_sem, q]) rfl ?_
    rw [HP.out]
    exact ⟨rfl, (hr2.kept (Kept.alloc (Below.refl _ _) _)).other (by intro h; simp at h; omega) _, GS.setNew (GS.trans (GS.trans (GS.any k0 g) hg2) (GS.any (Kept.alloc (Below.refl _ _) _) g)) (by simp) _⟩
  | some b =>
    have hfr : freeP ((n : Int) + 2) b = true := List.find?_some hff
    have hble := b.2.2.1
    have hbs : n + 2 ≤ b.1.size := by simp [freeP] at hfr; omega
    obtain ⟨a, ha⟩ : ∃ a : Nat, b.1.at' = a := ⟨_, rfl⟩
    obtain ⟨ys, hys⟩ : ∃ ys, takeL zs b.1 5 (n + 2) = ys := ⟨_, rfl⟩
    have hyl : ys.length = zs.length := by rw [← hys, takeL_length]
    have HP : Hid (scoC zs p n = (ys.set (a + 1) p, 8 * (a : Int) + 7, true)) := by simp [Hid, scoC, hff, hys, ha]
    have hT' := hT.mono (R' := fun e w' => e = .returned (.tuple #[.agg #[.slice (some ⟨g, 0, none⟩) zs.length cap], .int .i64 (a : Int), .bool true]) ∧ Row w' g ys ∧ GS g _ w') (fun e w' h => ⟨by rw [(h.1 b hff).1, ha], by rw [← hys]; exact (h.1 b hff).2, h.2.2⟩)
    have hfit : a + (n + 2) ≤ zs.length := by omega
    clear hff hT hok en hfr hble hbs hys
    clear ha
    go_enter Tryz.func50, Tryz.ntmps50
    go_wp2_with fail
    refine hT'.mono ?_
    rintro e w2 ⟨rfl, hr2, hg2⟩
    have lg2 := hr2.lt
    have y1 := b1.grown hg2.1 (by intro e; simp at e; omega)
    have l1 := y1.lt
    have kA : ∀ W : World, Kept W (W.alloc (.cells #[.slice (some ⟨g, 0, none⟩) zs.length cap] 39)) := fun W => Kept.alloc (Below.refl _ W) _
    have hr3 := hr2.kept (kA w2)
    have cO0 := (Cells.new w2 39 #[.slice (some ⟨g, 0, none⟩) zs.length cap]).cell 0
    have cg := hr3.cell (j := a + 1) (by omega)
    have fg := hr3.frozen (a + 1)
    have p1 : (a : Int) + 1 < (zs.length : Int) := by omega
    have t1 : ((a : Int) + 1).toNat = a + 1 := by omega
    have o4 := Cells.new (w2.setCell ⟨g, a + 1, none⟩ (.int .i64 p)) 39 #[.slice (some ⟨g, 0, none⟩) zs.length cap]
    rw [show (w2.setCell ⟨g, a + 1, none⟩ (.int .i64 p)).heap.size = w2.heap.size by simp [World.setCell]] at o4
    have r4 := hr2.set (k := a + 1) (v := p) (by omega) hp
    have y4 := y1.other (p := ⟨g, a + 1, none⟩) (by intro h; simp at h; omega) (.int .i64 p)
    have G4 : GS g w (w2.setCell ⟨g, a + 1, none⟩ (.int .i64 p)) := GS.set (k := a + 1) (GS.trans (GS.any k0 g) hg2) (.int .i64 p)
    have cO := o4.cell 0
    have c4 := (y4.alloc (.cells #[.slice (some ⟨g, 0, none⟩) zs.length cap] 39)).cell 0
    have f4 := (y4.alloc (.cells #[.slice (some ⟨g, 0, none⟩) zs.length cap] 39)).frozen 0
    have H4 : Hid _ := And.intro r4 (And.intro y4 G4)
    clear c0 r4 y4 G4 o4
    go_wp2_with fail
    go_region_with (go_at_call 98; refine (spec_RefOf_ok _ _ _).mono ?_; rintro e wx ⟨rfl, rfl⟩)
    all_goals go_wp2_with fail
    all_goals (
      obtain ⟨r4, y4, G4⟩ := H4.out
      have q := (((y4.set1 (.slice (some ⟨g, 0, none⟩) zs.length cap)).kept (kA _)).kept (Below.refl _ _).drew).cell 0
      refine bodyPost_ret (v := .tuple #[.agg #[.slice (some ⟨g, 0, none⟩) zs.length cap], .int .i64 (vRef 7 (a : Int)), .bool true]) (by simp [results, Tryz.results50, go_sem, q]) rfl ?_
      rw [HP.out, vRef_yes (by omega)]
      exact ⟨rfl, ((r4.other (p := ⟨w.heap.size + 1, 0, none⟩) (by intro h; simp at h; omega) _).kept (kA _)).kept (Below.refl _ _).drew, GS.trans (GS.trans (GS.setNew G4 (by simp) _) (GS.any (kA _) g)) (GS.any (Below.refl _ _).drew g)⟩)
end Go.Proofs.YtgempjjnfpmndaaGreatDoor
