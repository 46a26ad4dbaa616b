/-
  The contract of impl.layBlock: a block is laid over a slab's words.
-/
import Derived.Test.YthkhlmbhickdbaaHelpM
import Derived.Lib.SliceRun
import Derived.Deep.RegionWith
import Derived.Deep.CutRange
namespace Go.Proofs.Ythkhlmbhickdbaa
open Go.RowKit

/-- From place o on the words vs are laid. -/
def sets (zs : List Int) : Nat → List Int → List Int
  | _, [] => zs
  | o, v :: r => sets (zs.set o v) (o + 1) r
theorem sets_len : ∀ (vs zs : List Int) (o : Nat), (sets zs o vs).length = zs.length
  | [], _, _ => rfl
  | v :: r, zs, o => by rw [sets, sets_len r]; simp
theorem hz_sets : ∀ (vs zs : List Int) (o j : Nat), o + vs.length ≤ zs.length → hz (sets zs o vs) j = if o ≤ j ∧ j < o + vs.length then hz vs (j - o) else hz zs j
  | [], zs, o, j, _ => by rw [if_neg (by simp only [List.length_nil]; omega)]; rfl
  | v :: r, zs, o, j, h => by
    simp only [List.length_cons] at h
    rw [sets, hz_sets r (zs.set o v) (o + 1) j (by simp; omega), hz_set (by omega)]
    by_cases e : j = o
    · subst e
      rw [if_neg (by omega), if_pos rfl, if_pos (by simp)]
      simp [hz]
    · by_cases h2 : o + 1 ≤ j ∧ j < o + 1 + r.length
      · rw [if_pos h2, if_pos (by simp; omega)]
        obtain ⟨m, rfl⟩ : ∃ m, j = o + 1 + m := ⟨j - (o + 1), by omega⟩
        rw [show o + 1 + m - (o + 1) = m by omega, show o + 1 + m - o = m + 1 by omega]
        simp [hz]
      · rw [if_neg h2, if_neg e, if_neg (by simp; omega)]
theorem Row.sets : ∀ (vs : List Int) {W : World} {g : Nat} {zs : List Int} {o : Nat}, Row W g zs → o + vs.length ≤ zs.length → (∀ z ∈ vs, -9223372036854775808 ≤ z ∧ z ≤ 9223372036854775807) → Row (W.setCells g o (vs.map (Value.int .i64))) g (sets zs o vs)
  | [], _, _, _, _, h, _, _ => h
  | v :: r, W, g, zs, o, h, hl, hv => by
    simp only [List.length_cons] at hl
    exact Row.sets r (h.set (k := o) (by omega) (hv v (by simp))) (by simp; omega) (fun z hz => hv z (by simp [hz]))
theorem grown_sets : ∀ (vs : List Value) {a b : World} {g o : Nat}, a.grownBy b (some g) → a.grownBy (b.setCells g o vs) (some g)
  | [], _, _, _, _, h => h
  | _ :: r, _, _, _, _, h => grown_sets r (grown_set h _)

/-- What layBlock makes of the words. -/
def layL (zs : List Int) (a s : Nat) (h : Int) : List Int := (sets zs a (List.replicate s 0)).set a h
theorem layL_len (zs : List Int) (a s : Nat) (h : Int) : (layL zs a s h).length = zs.length := by simp [layL, sets_len]
theorem hz_layL {zs : List Int} {a s j : Nat} {h : Int} (hle : a + s ≤ zs.length) (hs : 1 ≤ s) : hz (layL zs a s h) j = if j = a then h else if a < j ∧ j < a + s then 0 else hz zs j := by
  unfold layL
  rw [hz_set (by rw [sets_len]; omega), hz_sets _ _ _ _ (by simpa using hle)]
  by_cases e : j = a
  · simp [e]
  · simp only [e, if_false, List.length_replicate]
    by_cases h2 : a ≤ j ∧ j < a + s
    · rw [if_pos h2, if_pos (by omega)]
      simp [hz, show j - a < s by omega]
    · rw [if_neg h2, if_neg (by omega)]

theorem zeroI (w : World) : (zeroValue 3).run Try.prog w = .ok (.int .i64 0) w := Try.zeroValue3 w
theorem clear_row {W : World} {g cap : Nat} {zs : List Int} {a s : Nat} (hR : Row W g zs) (hle : a + s ≤ zs.length) (hs : 1 ≤ s) (ty : TypeId) :
    (Builtin.clear_ #[22] ty #[.slice (some ⟨g, a, none⟩) s cap]).run Try.prog W = .ok (.tuple #[]) (W.setCells g a (List.replicate s (.int .i64 0))) :=
  Lib.run_clear_slice W _ _ ty _ Try.underlying22 zeroI rfl rfl g a s cap (by omega) (fun j hj => by rw [hR.cell (by omega)]; rfl) (fun j _ => hR.frozen _)
set_option maxHeartbeats 4000000 in
set_option maxRecDepth 100000 in
theorem layBlock_ok (w : World) (g cap : Nat) (zs : List Int) (a s q : Nat) (hR : Row w g zs) (hle : a + s ≤ zs.length) (hs : 1 ≤ s) (hq : q ≤ 5) (hcap : zs.length ≤ cap) (hl : zs.length ≤ 1048576) :
    Calls Try.prog 102 #[.slice (some ⟨g, 0, none⟩) zs.length cap, bkV a s q] w fun e w' => (∃ v, e = .returned v) ∧ Row w' g (layL zs a s (8 * (s : Int) + (q : Int))) ∧ w.grownBy w' (some g) := by
  have k0 : Kept w (w.alloc (.cells (bkC a s q) 96)) := Kept.alloc (Below.refl _ _) _
  have b0 := Cells.new w 96 (bkC a s q)
  have c0 := b0.cell 0
  have c1 := b0.cell 1
  have c2 := b0.cell 2
  have l0 := b0.lt
  go_enter Try.func102, Try.ntmps102
  go_wp2_with fail
  go_cut [] from 4 to 9 (fun wx => Row wx g (sets zs a (List.replicate s 0)) ∧ (w.alloc (.cells (bkC a s q) 96)).grownBy wx (some g))
  case first =>
    have k1 : Kept (w.alloc (.cells (bkC a s q) 96)) ((w.alloc (.cells (bkC a s q) 96)).alloc (.cells (bkC a s q) 96)).drew := (Kept.alloc (Below.refl _ _) _).drew
    have hcl := clear_row (cap := cap - a) ((hR.kept k0).kept k1) hle hs
    go_region_with (first | (go_at_call 101; refine (end_ok _ _ _ _ (by omega) (by omega)).mono ?_; rintro e wx ⟨rfl, rfl⟩))
    all_goals (
      go_wp2_with fail
      go_meet
      refine ⟨?_, ?_⟩
      · have := Row.sets (List.replicate s 0) ((hR.kept k0).kept k1) (o := a) (by simpa using hle) (by simp)
        simpa using this
      · exact grown_sets _ (kept_grown k1 (World.grownBy.refl _ _)))
  case rest =>
    obtain ⟨hRc, hGc⟩ := hcut
    have hgl := hR.lt
    have b1 := b0.grown hGc (by intro e; cases e; omega)
    have d0 := b1.cell 0
    have d1 := b1.cell 1
    have d2 := b1.cell 2
    have l1 := b1.lt
    have hgc := hRc.lt
    have hcg := hRc.cell (j := a) (by rw [sets_len]; omega)
    have hfg := hRc.frozen a
    clear c0 c1 c2 l0
    go_wp2_with fail
    go_region_with (first | (go_at_call 100; refine (header_ok _ _ _ _ (by omega) (by omega) (by omega) (by omega)).mono ?_; rintro e wx ⟨rfl, rfl⟩))
    all_goals go_wp2
    all_goals go_end0
    all_goals exact ⟨⟨_, rfl⟩, (hRc.set (k := a) (by rw [sets_len]; omega) ⟨by omega, by omega⟩).kept ((Kept.alloc (Below.refl _ _) _).drew), grown_kept (grown_set (kept_grown k0 hGc) _) ((Kept.alloc (Below.refl _ _) _).drew)⟩
end Go.Proofs.Ythkhlmbhickdbaa
