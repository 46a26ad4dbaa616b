/-
  The contract of the model of Give, and both together: they answer the same, each a slab of its own.
-/
import Derived.Test.YtaclgpkcdbikhaaSlabH
namespace Go.Proofs.Ytaclgpkcdbikhaa
open Go.RowKit
attribute [local go_sem] Plain.and7

set_option maxHeartbeats 8000000 in
set_option maxRecDepth 100000 in
theorem spec_Give_no (w : World) (ao : Option Addr) (cap : Nat) (zs : List Int) (a : Int) (hI : Ints w ao zs) (hl : zs.length ≤ 1048576) (hno : ∀ b, atB zs a = some b → b.1.kind = 0) :
    Calls Try.prog 18 #[.agg #[.slice ao zs.length cap], .int .i64 a] w fun e w' => ∃ v, e = .returned (.agg #[v]) ∧ OwnR w' w.heap.size v zs ∧ Kept w w' ∧ FullV w' v := by
  have hL : zs.length * 8 ≤ 140737488351232 := by omega
  have b0 := (Cells.new w 26 #[.slice ao zs.length cap]).alloc (.cells #[.slice none 0 0] 26)
  have b1 := Cells.new (w.alloc (.cells #[.slice ao zs.length cap] 26)) 26 #[.slice none 0 0]
  have k0 : Kept w ((w.alloc (.cells #[.slice ao zs.length cap] 26)).alloc (.cells #[.slice none 0 0] 26)) := (Kept.alloc (Below.refl _ _) _).alloc _
  simp only [World.size_alloc] at b1
  have hS := spec_SlabOk_ok _ ao cap zs (hI.kept k0) hL
  cases hok : slabOk zs with
  | false =>
    rw [hok] at hS
    clear hok hno
    go_enter Try.func18, Try.ntmps18
    go_wp2_with (first | (go_at_call 12; refine hS.mono ?_; rintro e w1 ⟨rfl, hk1⟩; have d0 := (b0.kept hk1).cell 0) | (go_at_call 41; refine (l2Copy_ok _ ao cap zs ((hI.kept k0).kept hk1) hl).mono ?_; rintro e w2 ⟨g2, c2, rfl, hg2, hc2, hR2, hk2, sz2⟩; have d1 := ((b1.kept hk1).kept hk2).cell 0; have f1 := ((b1.kept hk1).kept hk2).frozen 0))
    have q := (((b1.kept hk1).kept hk2).set1 (.slice (some ⟨g2, 0, none⟩) zs.length c2)).cell 0
    have hs1 := hk1.size
    simp only [World.size_alloc] at hs1
    refine bodyPost_ret (v := .agg #[.slice (some ⟨g2, 0, none⟩) zs.length c2]) (by simp [results, Try.results18, go_sem, q]) rfl ⟨_, rfl, .inr ⟨g2, c2, rfl, by omega, hc2, hR2.other (by intro h; simp at h <;> omega) _⟩, ((k0.trans hk1).trans hk2).set (by simp) _, FullV.one (sz2.set _ _ _)⟩
  | true =>
    rw [hok] at hS
    have hIs := fun (w1 : World) (hI1 : Ints w1 ao zs) => l2Is_ok w1 ao cap zs a hI1 hL hok
    unfold isAt at hIs
    cases hb : atB zs a with
    | none =>
      rw [hb] at hIs
      clear hok hb hno
      go_enter Try.func18, Try.ntmps18
      go_wp2_with (first | (go_at_call 12; refine hS.mono ?_; rintro e w1 ⟨rfl, hk1⟩; have d0 := (b0.kept hk1).cell 0) | (go_at_call 50; refine (hIs _ ((hI.kept k0).kept hk1)).mono ?_; rintro e wi ⟨rfl, hkI⟩; have d0i := ((b0.kept hk1).kept hkI).cell 0) | (go_at_call 41; refine (l2Copy_ok _ ao cap zs (hI.kept ((k0.trans hk1).trans hkI)) hl).mono ?_; rintro e w2 ⟨g2, c2, rfl, hg2, hc2, hR2, hk2, sz2⟩; have d1 := ((b1.kept hk1).kept hkI).kept hk2; have d1c := d1.cell 0; have f1 := d1.frozen 0))
      have q := (d1.set1 (.slice (some ⟨g2, 0, none⟩) zs.length c2)).cell 0
      have hs1 := hk1.size
      have hsI := hkI.size
      simp only [World.size_alloc] at hs1
      refine bodyPost_ret (v := .agg #[.slice (some ⟨g2, 0, none⟩) zs.length c2]) (by simp [results, Try.results18, go_sem, q]) rfl ⟨_, rfl, .inr ⟨g2, c2, rfl, by omega, hc2, hR2.other (by intro h; simp at h <;> omega) _⟩, (((k0.trans hk1).trans hkI).trans hk2).set (by simp) _, FullV.one (sz2.set _ _ _)⟩
    | some b =>
      have hk := hno b hb
      obtain ⟨_, e1, hg, hs, hq, _⟩ := atB_some hb
      rw [hb] at hIs
      have hlt := hg.lt
      obtain ⟨bb, off, rfl, hc⟩ := hI.at hlt
      have hck := hc _ hlt
      have hbl : bb < w.heap.size := World.block_lt_of_cell? _ _ hck
      have hz8 : (hz zs b.1.at' % 8 == 0) = true := by have := kdI zs b.1.at'; simp; omega
      subst e1
      clear hok hb hc hg hs hq hno hk
      go_enter Try.func18, Try.ntmps18
      go_wp2_with (first | (go_at_call 12; refine hS.mono ?_; rintro e w1 ⟨rfl, hk1⟩; have d0 := (b0.kept hk1).cell 0) | (go_at_call 50; refine (hIs _ ((hI.kept k0).kept hk1)).mono ?_; rintro e wi ⟨rfl, hkI⟩; have d0i := ((b0.kept hk1).kept hkI).cell 0; have ck2 := (((k0.trans hk1).trans hkI).cell (p := ⟨bb, off + b.1.at', none⟩) hbl).trans hck) | (go_at_call 45; refine (l2Kind_ok _ _).mono ?_; rintro e wx ⟨rfl, rfl⟩) | (go_at_call 41; refine (l2Copy_ok _ _ cap zs (hI.kept ((k0.trans hk1).trans hkI)) hl).mono ?_; rintro e w2 ⟨g2, c2, rfl, hg2, hc2, hR2, hk2, sz2⟩; have d1 := ((b1.kept hk1).kept hkI).kept hk2; have d1c := d1.cell 0; have f1 := d1.frozen 0))
      have q := (d1.set1 (.slice (some ⟨g2, 0, none⟩) zs.length c2)).cell 0
      have hs1 := hk1.size
      have hsI := hkI.size
      simp only [World.size_alloc] at hs1
      refine bodyPost_ret (v := .agg #[.slice (some ⟨g2, 0, none⟩) zs.length c2]) (by simp [results, Try.results18, go_sem, q]) rfl ⟨_, rfl, .inr ⟨g2, c2, rfl, by omega, hc2, hR2.other (by intro h; simp at h <;> omega) _⟩, (((k0.trans hk1).trans hkI).trans hk2).set (by simp) _, FullV.one (sz2.set _ _ _)⟩

set_option maxHeartbeats 8000000 in
set_option maxRecDepth 100000 in
theorem spec_Give_yes (w : World) (ao : Option Addr) (cap : Nat) (zs : List Int) (a : Int) (b : BkOf zs.length) (hI : Ints w ao zs) (hl : zs.length ≤ 1048576) (hb : atB zs a = some b) (hk : b.1.kind ≠ 0) :
    Calls Try.prog 18 #[.agg #[.slice ao zs.length cap], .int .i64 a] w fun e w' => ∃ v, e = .returned (.agg #[v]) ∧ OwnR w' w.heap.size v (giveB zs b.1) ∧ Kept w w' ∧ FullV w' v := by
  have hL : zs.length * 8 ≤ 140737488351232 := by omega
  have b0 := (Cells.new w 26 #[.slice ao zs.length cap]).alloc (.cells #[.slice none 0 0] 26)
  have b1 := Cells.new (w.alloc (.cells #[.slice ao zs.length cap] 26)) 26 #[.slice none 0 0]
  have k0 : Kept w ((w.alloc (.cells #[.slice ao zs.length cap] 26)).alloc (.cells #[.slice none 0 0] 26)) := (Kept.alloc (Below.refl _ _) _).alloc _
  simp only [World.size_alloc] at b1
  have hS := spec_SlabOk_ok _ ao cap zs (hI.kept k0) hL
  obtain ⟨hok, e1, hg, hs, hq, hmem⟩ := atB_some hb
  rw [hok] at hS
  have hIs := fun (w1 : World) (hI1 : Ints w1 ao zs) => l2Is_ok w1 ao cap zs a hI1 hL hok
  unfold isAt at hIs
  rw [hb] at hIs
  have hG := fun (w2 : World) (g c : Nat) (hR : Row w2 g zs) => l2Give_ok w2 g c zs b.1 hR hok (List.mem_map.2 ⟨b, hmem, rfl⟩) hk
  have hlt := hg.lt
  obtain ⟨bb, off, rfl, hc⟩ := hI.at hlt
  have hck := hc _ hlt
  have hbl : bb < w.heap.size := World.block_lt_of_cell? _ _ hck
  have hz8 : (hz zs b.1.at' % 8 == 0) = false := by have := kdI zs b.1.at'; simp; omega
  have hpos : 0 < hz zs b.1.at' % 8 := by have := kdI zs b.1.at'; omega
  subst e1
  clear hok hb hc hg hs hq hk hmem
  go_enter Try.func18, Try.ntmps18
  go_wp2_with (first | (go_at_call 12; refine hS.mono ?_; rintro e w1 ⟨rfl, hk1⟩; have d0 := (b0.kept hk1).cell 0) | (go_at_call 50; refine (hIs _ ((hI.kept k0).kept hk1)).mono ?_; rintro e wi ⟨rfl, hkI⟩; have d0i := ((b0.kept hk1).kept hkI).cell 0; have ck2 := (((k0.trans hk1).trans hkI).cell (p := ⟨bb, off + b.1.at', none⟩) hbl).trans hck) | (go_at_call 45; refine (l2Kind_ok _ _).mono ?_; rintro e wx ⟨rfl, rfl⟩) | (go_at_call 41; refine (l2Copy_ok _ _ cap zs (hI.kept ((k0.trans hk1).trans hkI)) hl).mono ?_; rintro e w2 ⟨g2, c2, rfl, hg2, hc2, hR2, hk2, sz2⟩) | (go_at_call 51; refine (hG _ g2 c2 hR2).mono ?_; rintro e w3 ⟨rfl, hR3, hG3⟩; have hs1 := hk1.size; have hsI := hkI.size; simp only [World.size_alloc] at hs1; have x1 := (((b1.kept hk1).kept hkI).kept hk2).grown hG3.1 (by intro e; simp at e; omega); have d1 := x1.cell 0; have f1 := x1.frozen 0; have l1 := x1.lt))
  have k3 := (((k0.trans hk1).trans hkI).trans hk2).grownRow hG3.1 (fun k e => by cases e; omega)
  have q := (x1.set1 (.slice (some ⟨g2, 0, none⟩) zs.length c2)).cell 0
  refine bodyPost_ret (v := .agg #[.slice (some ⟨g2, 0, none⟩) zs.length c2]) (by simp [results, Try.results18, go_sem, q]) rfl ⟨_, rfl, .inr ⟨g2, c2, by rw [giveB_len], by omega, by rw [giveB_len]; exact hc2, hR3.other (by intro h; simp at h <;> omega) _⟩, k3.set (by simp) _, FullV.one ((hG3.2 _ sz2).set _ _ _)⟩

/-- What Give makes of the words. -/
def giveL (zs : List Int) (a : Int) : List Int := match atB zs a with | some b => if b.1.kind = 0 then zs else giveB zs b.1 | none => zs
theorem giveL_len (zs : List Int) (a : Int) : (giveL zs a).length = zs.length := by
  unfold giveL
  split
  · split
    · rfl
    · exact giveB_len _ _
  · rfl
theorem spec_Give_ok (w : World) (ao : Option Addr) (cap : Nat) (zs : List Int) (a : Int) (hI : Ints w ao zs) (hl : zs.length ≤ 1048576) :
    Calls Try.prog 18 #[.agg #[.slice ao zs.length cap], .int .i64 a] w fun e w' => ∃ v, e = .returned (.agg #[v]) ∧ OwnR w' w.heap.size v (giveL zs a) ∧ Kept w w' ∧ FullV w' v := by
  unfold giveL
  cases hb : atB zs a with
  | none => exact spec_Give_no w ao cap zs a hI hl (by simp [hb])
  | some b =>
    by_cases hk : b.1.kind = 0
    · simp only [hk, if_true]
      exact spec_Give_no w ao cap zs a hI hl (by intro b' h; rw [hb] at h; cases h; exact hk)
    · simp only [hk, if_false]
      exact spec_Give_yes w ao cap zs a b hI hl hb hk
theorem impl_Give_ok (w : World) (ao : Option Addr) (cap : Nat) (zs : List Int) (a : Int) (hI : Ints w ao zs) (hl : zs.length ≤ 1048576) :
    Calls Try.prog 15 #[.agg #[.slice ao zs.length cap], .int .i64 a] w fun e w' => ∃ v, e = .returned (.agg #[v]) ∧ OwnR w' w.heap.size v (giveL zs a) ∧ Kept w w' := by
  unfold giveL
  cases hb : atB zs a with
  | none => exact impl_Give_no w ao cap zs a hI hl (by simp [hb])
  | some b =>
    by_cases hk : b.1.kind = 0
    · simp only [hk, if_true]
      exact impl_Give_no w ao cap zs a hI hl (by intro b' h; rw [hb] at h; cases h; exact hk)
    · simp only [hk, if_false]
      exact impl_Give_yes w ao cap zs a b hI hl hb hk
end Go.Proofs.Ytaclgpkcdbikhaa
