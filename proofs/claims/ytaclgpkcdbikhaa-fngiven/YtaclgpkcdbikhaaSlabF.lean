/-
  The contracts of what the laws of chapter 2 draw, and of sameInts.
-/
import Derived.Test.YtaclgpkcdbikhaaSlabE
namespace Go.Proofs.Ytaclgpkcdbikhaa
open Go.RowKit

def takeNs : List Int := [2, 3, 4, 6, 20, 1, 0, 9223372036854775807]
theorem takeNs_in : ∀ x ∈ takeNs, 0 ≤ x ∧ x ≤ 9223372036854775807 := by decide
def atNs : List Int := [-1, 0, 1, 5, 9999]
theorem atNs_in : ∀ x ∈ atNs, -1 ≤ x ∧ x ≤ 9999 := by decide
def newNs : List Int := [0, 1, 2, 3, 50, 2000, 2001, -1]
theorem newNs_in : ∀ x ∈ newNs, -1 ≤ x ∧ x ≤ 2001 := by decide

theorem OwnI.other {W : World} {base B : Nat} {v : Value} {zs : List Int} {t : TypeId} {cs : Array Value} (h : OwnI W base v zs) (hB : Cells W B t cs) (hn : ∀ (j : Nat) (n : Int), cs[j]? ≠ some (Value.int .i64 n)) (u : Value) : OwnI (W.setCell ⟨B, 0, none⟩ u) base v zs := by
  obtain ⟨ao, cp, e, hI, hb⟩ := h
  refine ⟨ao, cp, e, ⟨hI.1, ?_⟩, hb⟩
  by_cases hne : zs = []
  · exact .inl hne
  · have hpos : 0 < zs.length := List.length_pos_iff.2 hne
    obtain ⟨b, off, e', hc'⟩ := hI.at hpos
    refine .inr ⟨b, off, e', fun j hj => ?_⟩
    have hbn : b ≠ B := by
      rintro rfl
      have := hc' 0 hpos
      rw [hB.cell (off + 0)] at this
      exact hn _ _ this
    have hheap : (W.setCell ⟨B, 0, none⟩ u).heap[b]? = W.heap[b]? := Below.heap_setCell _ _ _ _ hbn
    rw [← hc' j hj]
    exact World.cell?_of_block (w := W) hheap
theorem Keeps.below' {B c : Nat} {w w' : World} (h : Keeps c w w') (hB : B ≤ c) (hw : B ≤ w.heap.size) : Below B w w' := h.below hB hw

set_option maxHeartbeats 8000000 in
set_option maxRecDepth 100000 in
theorem DrawTake_ok (a : Option Addr) (len cap : Nat) (z : Nat → Int) (w : World) (h : Src w.heap.size w a len z) :
    Calls Try.prog 7 #[.slice a len cap] w fun e w' => ∃ v zs k n, e = .returned (.tuple #[.agg #[v], .int .i64 k, .int .i64 n]) ∧ OwnI w' w.heap.size v zs ∧ zs.length ≤ 91 ∧ -1 ≤ k ∧ k ≤ 6 ∧ 0 ≤ n ∧ n ≤ 9223372036854775807 ∧ Kept w w' := by
  have b0 := Cells.new w 26 #[.slice none 0 0]
  have k0 : Kept w (w.alloc (.cells #[.slice none 0 0] 26)) := Kept.alloc (Below.refl _ _) _
  have h0 : Src (w.alloc (.cells #[.slice none 0 0] 26)).heap.size (w.alloc (.cells #[.slice none 0 0] 26)) a len z := h.below k0
  go_enter Try.func7, Try.ntmps7
  go_wp2_with fail
  refine (l1New_ok a len cap z _ h0).mono ?_
  rintro e w1 ⟨c, rfl, hc1, hk1, hC1⟩
  have b1 := b0.kept hk1
  have k1 := k0.trans hk1
  simp only [World.size_alloc] at hc1
  clear h0 hk1 b0 k0
  go_wp2_with fail
  refine (l2Draw_ok c a len cap z _ hC1).mono ?_
  rintro e w2 ⟨v, zs, rfl, hO, hl, hk2, hC2⟩
  have hO2 := hO
  have hcb := hC1.lt
  have hb1 := k1.size
  have b2 := b1.keeps hk2 (by omega)
  have k2 : Kept w w2 := Below.trans k1 (hk2.below (by omega) k1.size)
  obtain ⟨ao, cp, rfl, _⟩ := hO
  have ka : Kept w2 (w2.alloc (.cells #[.slice ao zs.length cp] 26)) := Kept.alloc (Below.refl _ _) _
  have x2 := Cells.new w2 26 #[.slice ao zs.length cp]
  have hC3 := hC2.kept ka
  have b3 := b2.kept ka
  have hO3 := hO2.kept ka
  have k3 := k2.trans ka
  have hcl := hC2.lt
  clear hk2 hC1 hC2 hO2 b1 b2 k1 k2
  go_wp2_with fail
  refine (l1Below_ok c a len cap z 7 (by omega) _ hC3).mono ?_
  rintro e w3 ⟨x, rfl, hx0, hx1, hk3, hC4⟩
  have hx2 : x < 7 := hx1 (by omega)
  have x3 := x2.keeps hk3 (by omega)
  have b4 := b3.keeps hk3 (by omega)
  have k4 : Kept w w3 := Below.trans k3 (hk3.below (by omega) k3.size)
  clear hx1
  go_wp2_with fail
  refine (l1Below_ok c a len cap z 9 (by omega) _ hC4).mono ?_
  rintro e w4 ⟨y, rfl, hy0, hy1, hk4, hC5⟩
  have hy2 : y < 9 := hy1 (by omega)
  have x4 := x3.keeps hk4 (by omega)
  have b5 := b4.keeps hk4 (by omega)
  have hO5 := (hO3.keeps hk3 hcb).keeps hk4 hcb
  have k5 : Kept w w4 := Below.trans k4 (hk4.below (by omega) k4.size)
  clear hy1 hk3 hk4 hC3 hC4 x2 x3 b3 b4 hO3 k3 k4
  obtain ⟨B, hB⟩ : ∃ B, w2.heap.size = B := ⟨_, rfl⟩
  rw [hB] at x4 hcl ⊢
  clear hB ka
  have Cd := hC5.kept (Below.refl _ w4).drew
  have xd := x4.kept (Below.refl _ w4).drew
  have bd := b5.kept (Below.refl _ w4).drew
  have Od := hO5.kept (Below.refl _ w4).drew
  have kd : Kept w w4.drew := k5.drew
  have q4 := x4.cell 0
  have lx := x4.lt
  have hP := l1PickInt_at c a len cap z takeNs 8 rfl (by omega) (by omega) _ 3 rfl _ Cd
  go_wp2_with fail
  go_region_with (first | (go_at_call 33; refine hP.mono ?_; rintro e w5 ⟨n, rfl, hn, hk6, hC6⟩; have hnb := takeNs_in n hn; have x6 := xd.keeps hk6 (by omega); have q6 := x6.cell 0; have b6 := bd.keeps hk6 (by omega); have e6 := b6.cell 0; have f6 := b6.frozen 0))
  all_goals (
    have O6 := Od.keeps hk6 hcb
    have k6 : Kept w w5 := Below.trans kd (hk6.below (by omega) kd.size)
    have q := (b6.set1 (.slice ao zs.length cp)).cell 0
    go_wp2_with fail
    refine bodyPost_ret (v := .tuple #[.agg #[.slice ao zs.length cp], .int .i64 (x - y / 8), .int .i64 n]) (by simp [results, Try.results7, go_sem, q]) rfl ⟨_, zs, _, _, rfl, ?_, hl, by omega, by omega, hnb.1, hnb.2, k6.set (by simp) _⟩
    exact (O6.other b6 (by intro j n; cases j <;> simp) _).base hb1)
end Go.Proofs.Ytaclgpkcdbikhaa
