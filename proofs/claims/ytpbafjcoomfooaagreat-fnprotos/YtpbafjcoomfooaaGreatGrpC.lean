/-
  The contract of the model of Take.
  A slab's words that the answer owns: read, kept, marked.
  Take of the program and of its model together: they answer the same, each a slab of its own.
-/
import Derived.Test.YtpbafjcoomfooaaGreatGrpQ
import Derived.Test.YtpbafjcoomfooaaGreatGrpP
namespace Go.Proofs.YtpbafjcoomfooaaGreat
open Go.RowKit

set_option maxHeartbeats 4000000 in
theorem spec_Take_bad (w : World) (ao : Option Addr) (cap : Nat) (zs : List Int) (kind n : Int) (hI : Ints w ao zs) (hl : zs.length ≤ 1048576) (hok : slabOk zs = false) :
    Calls Tryz.prog 154 #[.agg #[.slice ao zs.length cap], .int .i64 kind, .int .i64 n] w fun e w' => e = .returned (.tuple #[.agg #[.slice none 0 0], .int .i64 0, .bool false]) ∧ Kept w w' := by
  have hL : zs.length * 8 ≤ 140737488351232 := by omega
  have b1 := Cells.new (w.alloc (.cells #[.slice ao zs.length cap] 26)) 26 #[.slice none 0 0]
  have k0 : Kept w ((w.alloc (.cells #[.slice ao zs.length cap] 26)).alloc (.cells #[.slice none 0 0] 26)) := (Kept.alloc (Below.refl _ _) _).alloc _
  simp only [World.size_alloc] at b1
  have hS := spec_SlabOk_ok _ ao cap zs (hI.kept k0) hL
  rw [hok] at hS
  clear hok
  go_enter Tryz.func154, Tryz.ntmps154
  go_wp2_with (go_at_call 86; refine hS.mono ?_; rintro e w1 ⟨rfl, hk1⟩; have d1 := (b1.kept hk1).cell 0; have f1 := (b1.kept hk1).frozen 0)
  have q := ((b1.kept hk1).set1 (.slice none 0 0)).cell 0
  refine bodyPost_ret (v := .tuple #[.agg #[.slice none 0 0], .int .i64 0, .bool false]) (by simp [results, Tryz.results154, go_sem, q]) rfl ⟨rfl, (k0.trans hk1).set (by simp) _⟩
set_option maxHeartbeats 4000000 in
theorem spec_Take_arg (w : World) (ao : Option Addr) (cap : Nat) (zs : List Int) (kind n : Int) (hI : Ints w ao zs) (hl : zs.length ≤ 1048576) (hok : slabOk zs = true) (hno : ¬ (1 ≤ kind ∧ kind ≤ 5 ∧ 2 ≤ n)) :
    Calls Tryz.prog 154 #[.agg #[.slice ao zs.length cap], .int .i64 kind, .int .i64 n] w fun e w' => ∃ v, e = .returned (.tuple #[.agg #[v], .int .i64 0, .bool false]) ∧ OwnR w' w.heap.size v zs ∧ Kept w w' ∧ FullV w' v := by
  have hL : zs.length * 8 ≤ 140737488351232 := by omega
  have b0 := (Cells.new w 26 #[.slice ao zs.length cap]).alloc (.cells #[.slice none 0 0] 26)
  have b1 := Cells.new (w.alloc (.cells #[.slice ao zs.length cap] 26)) 26 #[.slice none 0 0]
  have k0 : Kept w ((w.alloc (.cells #[.slice ao zs.length cap] 26)).alloc (.cells #[.slice none 0 0] 26)) := (Kept.alloc (Below.refl _ _) _).alloc _
  simp only [World.size_alloc] at b1
  have hS := spec_SlabOk_ok _ ao cap zs (hI.kept k0) hL
  rw [hok] at hS
  have hcs : (kind < 1 ∨ 5 < kind) ∨ (1 ≤ kind ∧ kind ≤ 5 ∧ n < 2) := by omega
  clear hok hno
  rcases hcs with h | ⟨h1, h2, h3⟩
  · go_enter Tryz.func154, Tryz.ntmps154
    go_wp2_with (first | (go_at_call 86; refine hS.mono ?_; rintro e w1 ⟨rfl, hk1⟩; have d0 := (b0.kept hk1).cell 0) | (go_at_call 124; refine (l1In_no _ _ _ _ h).mono ?_; rintro e wx ⟨rfl, rfl⟩) | (go_at_call 41; refine (l2Copy_ok _ ao cap zs ((hI.kept k0).kept hk1) hl).mono ?_; rintro e w2 ⟨g2, c2, rfl, hg2, hc2, hR2, hk2, sz2⟩; have d1 := ((b1.kept hk1).kept hk2).cell 0; have f1 := ((b1.kept hk1).kept hk2).frozen 0))
    have hs1 := hk1.size
    simp only [World.size_alloc] at hs1
    have q := (((b1.kept hk1).kept hk2).set1 (.slice (some ⟨g2, 0, none⟩) zs.length c2)).cell 0
    refine bodyPost_ret (v := .tuple #[.agg #[.slice (some ⟨g2, 0, none⟩) zs.length c2], .int .i64 0, .bool false]) (by simp [results, Tryz.results154, go_sem, q]) rfl ⟨_, rfl, .inr ⟨g2, c2, rfl, by omega, hc2, hR2.other (by intro h; simp at h <;> omega) _⟩, ((k0.trans hk1).trans hk2).set (by simp) _, FullV.one (sz2.set _ _ _)⟩
  · have hn2 : decide (n < 2) = true := by simp; omega
    go_enter Tryz.func154, Tryz.ntmps154
    go_wp2_with (first | (go_at_call 86; refine hS.mono ?_; rintro e w1 ⟨rfl, hk1⟩; have d0 := (b0.kept hk1).cell 0) | (go_at_call 124; refine (l1In_yes _ _ _ _ h1 h2).mono ?_; rintro e wx ⟨rfl, rfl⟩) | (go_at_call 41; refine (l2Copy_ok _ ao cap zs ((hI.kept k0).kept hk1) hl).mono ?_; rintro e w2 ⟨g2, c2, rfl, hg2, hc2, hR2, hk2, sz2⟩; have d1 := ((b1.kept hk1).kept hk2).cell 0; have f1 := ((b1.kept hk1).kept hk2).frozen 0))
    have hs1 := hk1.size
    simp only [World.size_alloc] at hs1
    have q := (((b1.kept hk1).kept hk2).set1 (.slice (some ⟨g2, 0, none⟩) zs.length c2)).cell 0
    refine bodyPost_ret (v := .tuple #[.agg #[.slice (some ⟨g2, 0, none⟩) zs.length c2], .int .i64 0, .bool false]) (by simp [results, Tryz.results154, go_sem, q]) rfl ⟨_, rfl, .inr ⟨g2, c2, rfl, by omega, hc2, hR2.other (by intro h; simp at h <;> omega) _⟩, ((k0.trans hk1).trans hk2).set (by simp) _, FullV.one (sz2.set _ _ _)⟩
set_option maxHeartbeats 4000000 in
theorem spec_Take_do (w : World) (ao : Option Addr) (cap : Nat) (zs : List Int) (kind n : Nat) (hI : Ints w ao zs) (hl : zs.length ≤ 1048576) (hok : slabOk zs = true) (h1 : 1 ≤ kind) (h5 : kind ≤ 5) (hn2 : 2 ≤ n) (hnm : (n : Int) ≤ 9223372036854775807) (rs : List Int) (at' : Int) (ok : Bool)
    (hr : (∃ b, ffB zs n = some b ∧ rs = takeL zs b.1 kind n ∧ at' = (b.1.at' : Nat) ∧ ok = true) ∨ (ffB zs n = none ∧ rs = zs ∧ at' = 0 ∧ ok = false)) :
    Calls Tryz.prog 154 #[.agg #[.slice ao zs.length cap], .int .i64 kind, .int .i64 n] w fun e w' => ∃ v, e = .returned (.tuple #[.agg #[v], .int .i64 at', .bool ok]) ∧ OwnR w' w.heap.size v rs ∧ Kept w w' ∧ FullV w' v := by
  have hL : zs.length * 8 ≤ 140737488351232 := by omega
  have b0 := (Cells.new w 26 #[.slice ao zs.length cap]).alloc (.cells #[.slice none 0 0] 26)
  have b1 := Cells.new (w.alloc (.cells #[.slice ao zs.length cap] 26)) 26 #[.slice none 0 0]
  have k0 : Kept w ((w.alloc (.cells #[.slice ao zs.length cap] 26)).alloc (.cells #[.slice none 0 0] 26)) := (Kept.alloc (Below.refl _ _) _).alloc _
  simp only [World.size_alloc] at b1
  have hS := spec_SlabOk_ok _ ao cap zs (hI.kept k0) hL
  rw [hok] at hS
  have hT := fun (w2 : World) (g c : Nat) (hR : Row w2 g zs) => (l2Take_ok w2 g c zs kind n hR hl hok h1 h5 hn2 hnm).mono (R' := fun e w' => e = .returned (.tuple #[.agg #[.slice (some ⟨g, 0, none⟩) zs.length c], .int .i64 at', .bool ok]) ∧ Row w' g rs ∧ GS g w2 w') (by
    rintro e w' ⟨ha, hb, hc⟩
    rcases hr with ⟨b, hb1, rfl, rfl, rfl⟩ | ⟨hb1, rfl, rfl, rfl⟩
    · exact ⟨(ha b hb1).1, (ha b hb1).2, hc⟩
    · exact ⟨(hb hb1).1, (hb hb1).2, hc⟩)
  have hrl : rs.length = zs.length := by
    rcases hr with ⟨b, _, rfl, _⟩ | ⟨_, rfl, _⟩
    · unfold takeL; split <;> simp [layL_len]
    · rfl
  clear hok hr
  have h1' : (1 : Int) ≤ (kind : Int) := by omega
  have h5' : (kind : Int) ≤ 5 := by omega
  have hn2' : decide ((n : Int) < 2) = false := by simp; omega
  go_enter Tryz.func154, Tryz.ntmps154
  go_wp2_with (first | (go_at_call 86; refine hS.mono ?_; rintro e w1 ⟨rfl, hk1⟩; have d0 := (b0.kept hk1).cell 0) | (go_at_call 124; refine (l1In_yes _ _ _ _ h1' h5').mono ?_; rintro e wx ⟨rfl, rfl⟩) | (go_at_call 41; refine (l2Copy_ok _ ao cap zs ((hI.kept k0).kept hk1) hl).mono ?_; rintro e w2 ⟨g2, c2, rfl, hg2, hc2, hR2, hk2, sz2⟩) | (go_at_call 87; refine (hT _ g2 c2 hR2).mono ?_; rintro e w3 ⟨rfl, hR3, hG3⟩; have hs1 := hk1.size; simp only [World.size_alloc] at hs1; have x1 := ((b1.kept hk1).kept hk2).grown hG3.1 (by intro e; simp at e; omega); have d1 := x1.cell 0; have f1 := x1.frozen 0; have l1 := x1.lt))
  have k3 := ((k0.trans hk1).trans hk2).grownRow hG3.1 (fun k e => by cases e; omega)
  have q := ((x1.set1 (.slice (some ⟨g2, 0, none⟩) zs.length c2)).alloc (.cells #[.slice (some ⟨g2, 0, none⟩) zs.length c2] 26)).cell 0
  refine bodyPost_ret (v := .tuple #[.agg #[.slice (some ⟨g2, 0, none⟩) zs.length c2], .int .i64 at', .bool ok]) (by simp [results, Tryz.results154, go_sem, q]) rfl ⟨_, rfl, .inr ⟨g2, c2, by rw [hrl], by omega, by rw [hrl]; exact hc2, (hR3.other (by intro h; simp at h <;> omega) _).kept (Kept.alloc (Below.refl _ _) _)⟩, (k3.set (by simp) _).alloc _, FullV.one (((hG3.2 _ sz2).set _ _ _).kept (Kept.alloc (Below.refl _ _) _))⟩
end Go.Proofs.YtpbafjcoomfooaaGreat
namespace Go.Proofs.YtpbafjcoomfooaaGreat
open Go.RowKit

theorem OwnR.ints {W : World} {base : Nat} {v : Value} {zs : List Int} (h : OwnR W base v zs) : ∃ ao cap, v = .slice ao zs.length cap ∧ Ints W ao zs := by
  rcases h with ⟨rfl, rfl⟩ | ⟨g, cap, rfl, _, _, hR⟩
  · exact ⟨none, 0, rfl, ⟨by simp, .inl rfl⟩⟩
  · exact ⟨_, cap, rfl, hR.ints⟩
theorem OwnR.block {W : World} {base : Nat} {v : Value} {zs : List Int} (h : OwnR W base v zs) : ∀ j, v.ownBlock = some j → base ≤ j ∧ j < W.heap.size := by
  rcases h with ⟨rfl, rfl⟩ | ⟨g, cap, rfl, hb, _, hR⟩
  · intro j hj; simp [Value.ownBlock] at hj
  · intro j hj; simp [Value.ownBlock] at hj; subst hj; exact ⟨hb, hR.lt⟩
theorem OwnR.grown {W W' : World} {base : Nat} {v : Value} {zs : List Int} {row : Option Nat} (h : OwnR W base v zs) (hg : W.grownBy W' row) (hne : ∀ k, row = some k → ∀ j, v.ownBlock = some j → j ≠ k) : OwnR W' base v zs := by
  rcases h with ⟨rfl, rfl⟩ | ⟨g, cap, rfl, hb, hc, hR⟩
  · exact .inl ⟨rfl, rfl⟩
  · exact .inr ⟨g, cap, rfl, hb, hc, hR.grown hg (fun e => hne g e.symm g (by simp [Value.ownBlock]) rfl)⟩
theorem OwnR.kept {W W' : World} {base : Nat} {v : Value} {zs : List Int} (h : OwnR W base v zs) (hk : Kept W W') : OwnR W' base v zs := h.grown (row := none) hk.grown (fun _ h => by cases h)
end Go.Proofs.YtpbafjcoomfooaaGreat
namespace Go.Proofs.YtpbafjcoomfooaaGreat
open Go.RowKit

theorem Take_both (zs : List Int) (kind n : Int) (hn : n ≤ 9223372036854775807) (hl : zs.length ≤ 1048576) : ∃ (rs : List Int) (at' : Int) (ok : Bool), rs.length ≤ 1048576 ∧
    (∀ (w : World) (ao : Option Addr) (cap : Nat), Ints w ao zs → Calls Tryz.prog 82 #[.agg #[.slice ao zs.length cap], .int .i64 kind, .int .i64 n] w fun e w' => ∃ v, e = .returned (.tuple #[.agg #[v], .int .i64 at', .bool ok]) ∧ OwnR w' w.heap.size v rs ∧ Kept w w') ∧
    (∀ (w : World) (ao : Option Addr) (cap : Nat), Ints w ao zs → Calls Tryz.prog 154 #[.agg #[.slice ao zs.length cap], .int .i64 kind, .int .i64 n] w fun e w' => ∃ v, e = .returned (.tuple #[.agg #[v], .int .i64 at', .bool ok]) ∧ OwnR w' w.heap.size v rs ∧ Kept w w') := by
  cases hok : slabOk zs with
  | false =>
    refine ⟨[], 0, false, by simp, fun w ao cap hI => ?_, fun w ao cap hI => ?_⟩
    · refine (impl_Take_bad w ao cap zs kind n hI hl hok).mono ?_
      rintro e w' ⟨rfl, hk⟩
      exact ⟨_, rfl, .inl ⟨rfl, rfl⟩, hk⟩
    · refine (spec_Take_bad w ao cap zs kind n hI hl hok).mono ?_
      rintro e w' ⟨rfl, hk⟩
      exact ⟨_, rfl, .inl ⟨rfl, rfl⟩, hk⟩
  | true =>
    by_cases hA : 1 ≤ kind ∧ kind ≤ 5 ∧ 2 ≤ n
    · obtain ⟨k, rfl⟩ : ∃ k : Nat, kind = k := ⟨kind.toNat, by omega⟩
      obtain ⟨m, rfl⟩ : ∃ m : Nat, n = m := ⟨n.toNat, by omega⟩
      cases hb : ffB zs m with
      | none => exact ⟨zs, 0, false, hl, fun w ao cap hI => impl_Take_no w ao cap zs k m hI hl hok (.inr hb), fun w ao cap hI => (spec_Take_do w ao cap zs k m hI hl hok (by omega) (by omega) (by omega) hn zs 0 false (.inr ⟨hb, rfl, rfl, rfl⟩)).mono (fun _ _ ⟨v, h1, h2, h3, _⟩ => ⟨v, h1, h2, h3⟩)⟩
      | some b =>
        refine ⟨takeL zs b.1 k m, (b.1.at' : Nat), true, ?_, fun w ao cap hI => impl_Take_yes w ao cap zs k m b hI hl hok (by omega) (by omega) (by omega) hb, fun w ao cap hI => (spec_Take_do w ao cap zs k m hI hl hok (by omega) (by omega) (by omega) hn _ _ true (.inl ⟨b, hb, rfl, rfl, rfl⟩)).mono (fun _ _ ⟨v, h1, h2, h3, _⟩ => ⟨v, h1, h2, h3⟩)⟩
        have : (takeL zs b.1 k m).length = zs.length := by unfold takeL; split <;> simp [layL_len]
        omega
    · exact ⟨zs, 0, false, hl, fun w ao cap hI => impl_Take_no w ao cap zs kind n hI hl hok (.inl hA), fun w ao cap hI => (spec_Take_arg w ao cap zs kind n hI hl hok hA).mono (fun _ _ ⟨v, h1, h2, h3, _⟩ => ⟨v, h1, h2, h3⟩)⟩
end Go.Proofs.YtpbafjcoomfooaaGreat
