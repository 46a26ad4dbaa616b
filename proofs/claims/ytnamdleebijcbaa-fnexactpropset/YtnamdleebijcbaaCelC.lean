/-
  The contracts of the program's cellsFrom and objectAt: all cells of an object, each once.
-/
import Derived.Test.YtnamdleebijcbaaCelB
namespace Go.Proofs.Ytnamdleebijcbaa
open Go.RowKit
attribute [local go_sem] Plain.and7

def lenV : Value → Nat
  | .slice _ n _ => n
  | _ => 0
theorem OwnC.base {W : World} {a b : Nat} {v : Value} {zs : List Int} {ps : List Nat} (h : OwnC W b v zs ps) (hab : a ≤ b) : OwnC W a v zs ps := ownsRow_base h hab
theorem OwnC.kept {W W' : World} {base : Nat} {v : Value} {zs : List Int} {ps : List Nat} (h : OwnC W base v zs ps) (hk : Kept W W') : OwnC W' base v zs ps := World.ownsRow.kept h hk.grown (by cases e : v.ownBlock <;> simp)
theorem OwnC.cels {W : World} {base cc : Nat} {ca : Option Addr} {zs : List Int} {ps : List Nat} (h : OwnC W base (.slice ca ps.length cc) zs ps) : CelsAt W ca zs ps := by
  obtain ⟨_, _, e, _, h'⟩ := h.at
  cases e
  exact h'
theorem OwnC.block {W : World} {base : Nat} {v : Value} {zs : List Int} {ps : List Nat} (h : OwnC W base v zs ps) : ∀ j, v.ownBlock = some j → base ≤ j ∧ j < W.heap.size := by
  intro j hj
  rcases h.2 with ⟨rfl, _⟩ | ⟨g, cap, cur, rfl, hb, hg, _⟩
  · simp [Value.ownBlock] at hj
  · simp [Value.ownBlock] at hj
    subst hj
    exact ⟨hb, (Array.getElem?_eq_some_iff.1 hg).1⟩
theorem Cells.put3 {W : World} {B : Nat} {t : TypeId} {x0 x1 x2 : Value} (h : Cells W B t #[x0, x1, x2]) (a b c : Value) :
    (W.setCell ⟨B, 0, none⟩ a).cell? ⟨B, 0, none⟩ = some a ∧ ((W.setCell ⟨B, 0, none⟩ a).setCell ⟨B, 1, none⟩ b).cell? ⟨B, 1, none⟩ = some b ∧ (((W.setCell ⟨B, 0, none⟩ a).setCell ⟨B, 1, none⟩ b).setCell ⟨B, 2, none⟩ c).cell? ⟨B, 2, none⟩ = some c := by
  have h0 := h.set 0 a
  have h1 := h0.set 1 b
  have h2 := h1.set 2 c
  exact ⟨by rw [h0.cell 0]; rfl, by rw [h1.cell 1]; rfl, by rw [h2.cell 2]; rfl⟩
theorem new4_cells (w : World) (t : TypeId) (a b c d : Value) : ∀ j u, [a, b, c, d][j]? = some u → (w.alloc (.cells #[a, b, c, d] t)).cell? ((⟨w.heap.size, 0, none⟩ : Addr).add j) = some u := by
  intro j u h
  have hc := (Cells.new w t #[a, b, c, d]).cell j
  rw [show (⟨w.heap.size, 0, none⟩ : Addr).add j = ⟨w.heap.size, j, none⟩ by unfold Addr.add; split <;> simp_all]
  rw [hc]
  simpa using h

set_option maxHeartbeats 8000000 in
set_option maxRecDepth 100000 in
theorem cellsFrom_ok (w : World) (ao : Option Addr) (cap : Nat) (zs : List Int) (v : Int) (hI : Ints w ao zs) (hl : zs.length ≤ 1048576) (hh : heapR zs = true) (hv : nextR zs v 3 = true) :
    Calls Try.prog 51 #[.slice ao zs.length cap, .int .i64 v] w fun e w' => ∃ cs ps v', e = .returned cs ∧ OwnC w' w.heap.size cs zs ps ∧ All zs v ps v' ∧ Kept w w' := by
  obtain ⟨i0, hi, hz0, hz1, hz2⟩ := info_parts infoC
  have HH : Hid _ := hh
  have HI : Hid _ := hI
  clear hh hI
  go_enter Try.func51, Try.ntmps51
  go_wp2_with fail
  go_loopw [5, 6] (fun cs lk wr => ∃ (ps : List Nat) (v' : Int), lk = .int .i64 v' ∧ OwnC wr w.heap.size cs zs ps ∧ Path zs v ps v' ∧ ps.Nodup ∧ (∀ p ∈ ps, p + 4 ≤ zs.length) ∧ nextR zs v' 3 = true ∧ Kept w wr) (fun cs _ _ => zs.length + 1 - lenV cs)
  case atStart => exact ⟨[], v, rfl, World.ownsRow_nil _ _ _ _, rfl, List.nodup_nil, by simp, hv, Below.refl _ _⟩
  case round =>
    obtain ⟨ps, v', rfl, hO, hP, hD, hle, hn, hK⟩ := hrel
    have HP : Hid _ := hP
    have HD : Hid _ := hD
    have HL : Hid _ := hle
    have HK : Hid _ := hK
    have hlen : ps.length ≤ zs.length := nodup_le _ _ hD (fun p hp => by have := hle p hp; omega)
    clear hP hD hle
    obtain ⟨ca, cc, rfl, hcc, hAt⟩ := hO.at
    by_cases h0 : v' = 0
    · subst h0
      have HO : Hid _ := hO
      clear hn hAt hO hK
      go_wp2_with fail
      go_ret
      exact ⟨_, ps, 0, rfl, HO.out, ⟨HP.out, HD.out, HL.out, .inl rfl⟩, HK.out⟩
    · obtain ⟨a, s, ha, h7, has, hs4, hn'⟩ := next_facts HH.out hn h0
      have hne : (v' != 0) = true := by simpa using h0
      have hvb : v' = 8 * (a : Int) + 7 := by omega
      have hNm := impl_Num_ok v' wr (by omega) (by omega)
      rw [ha] at hNm
      have hCA := fun (u : World) (hu : Kept wr u) => cellAt_ok u ao cap zs a (Ints.kept HI.out (Kept.trans HK.out hu)) hl (by omega)
      have HN' : Hid _ := hn'
      have HV : Hid (plc v' = a) := plc_is ha
      have H0 : Hid _ := h0
      have hs0 := hK.size
      have hOB : ∀ j, (Value.slice ca ps.length cc).ownBlock = some j → w.heap.size ≤ j ∧ j < wr.heap.size := hO.block
      clear hn hn' h7 ha h0 hvb
      by_cases hm : a ∈ ps
      · have hCo := fun (u : World) (hu : Kept wr u) => cellContains_ok u ca cc zs ps a (hAt.kept hu) (by omega)
        rw [decide_eq_true hm] at hCo
        have HM : Hid _ := hm
        have HO : Hid _ := hO
        clear hm hO hAt hK
        go_wp2_with (first | (go_at_call 24; refine hNm.mono ?_; rintro e wx ⟨rfl, rfl⟩) | (go_at_call 75; refine (hCA _ (Below.refl _ _)).mono ?_; rintro e w1 ⟨rfl, hk1⟩) | (go_at_call 76; refine (hCo _ (Kept.alloc hk1 _)).mono ?_; rintro e w2 ⟨rfl, hk2⟩))
        go_ret
        have kx := (Kept.alloc hk1 (.cells (celC zs a) 54)).trans hk2
        exact ⟨_, ps, v', rfl, OwnC.kept HO.out kx, ⟨HP.out, HD.out, HL.out, .inr (by rw [HV.out]; exact HM.out)⟩, Kept.trans HK.out kx⟩
      · have hCo := fun (u : World) (hu : Kept wr u) => cellContains_ok u ca cc zs ps a (hAt.kept hu) (by omega)
        rw [decide_eq_false hm] at hCo
        have HM : Hid _ := hm
        have hsn := celL_snoc zs ps a
        clear hm hAt
        go_wp2_with (first | (go_at_call 24; refine hNm.mono ?_; rintro e wx ⟨rfl, rfl⟩) | (go_at_call 75; refine (hCA _ (Below.refl _ _)).mono ?_; rintro e w1 ⟨rfl, hk1⟩; have xb := Cells.new w1 54 (celC zs a); have hs1 := hk1.size) | (go_at_call 76; refine (hCo _ (Kept.alloc hk1 _)).mono ?_; rintro e w2 ⟨rfl, hk2⟩; have kx := (Kept.alloc hk1 (.cells (celC zs a) 54)).trans hk2; have xb2 := xb.kept hk2; have d0 := xb2.cell 0; have d1 := xb2.cell 1; have d2 := xb2.cell 2; have d3 := xb2.cell 3; have hs2 := hk2.size; have O2 := hO.kept kx; have hb2 := xb2.lt) | (at_builtin; refine wpList_append_own _ rfl _ _ 48 rfl w.heap.size 54 i0 (.agg #[.int .i64 0, .int .i64 0, .int .i64 0, .int .i64 0]) 4 32 Try.underlying48 hi hz0 hz1 hz2 rfl (by decide) _ _ _ rfl (World.ownsRow.alloc O2 _) ⟨w2.heap.size, 0, none⟩ 1 1 [.int .i64 (a : Int), .int .i64 (hz zs (a + 1)), .int .i64 (hz zs (a + 2)), .int .i64 (hz zs (a + 3))] rfl rfl (new4_cells _ _ _ _ _ _) (by simp [Value.oneCell']) (by unfold maxLen; omega) (by omega) (by simp at hs1 hs2 ⊢; omega) ?_; intro cs' w3 hown' hgrow _; have kb : ∀ k, k < w2.heap.size → wr.heap.size ≤ k → w3.heap[k]? = w2.heap[k]? := fun k h1 h2 => (hgrow.block k (by simp; omega) (by intro e; have := (hOB k e.symm).2; omega)).trans (Below.heap_alloc _ _ _ h1); have x3 : Cells w3 w1.heap.size 54 (celC zs a) := (kb _ hb2 (by omega)).trans xb2; have y3 := x3.cell 3))
        go_roundw
        case rel =>
          have hK3 : Kept w w3 := Below.grown (Kept.alloc (Kept.trans HK.out kx) _) hgrow (by simp at hs1 hs2 ⊢; omega) (fun k e => (hOB k e).1)
          have e4 : OwnC w3 w.heap.size cs' zs (ps ++ [a]) := by
            unfold OwnC
            rw [celL_snoc, List.length_append]
            exact hown'
          have hsp := HP.out.snoc H0.out
          rw [HV.out] at hsp
          exact ⟨ps ++ [a], hz zs (a + 3), rfl, e4, hsp, by rw [List.nodup_append]; exact ⟨HD.out, by simp, fun x hx y hy => by simp at hy; subst hy; intro e; subst e; exact HM.out hx⟩, fun p hp => by rcases List.mem_append.1 hp with h | h; exact HL.out p h; simp at h; subst h; omega, HN'.out, hK3⟩
        case measure =>
          have e5 : lenV cs' = ps.length + 1 := by
            rcases hown'.2 with ⟨_, h⟩ | ⟨g, cp, cur, rfl, _⟩
            · omega
            · rfl
          rw [e5]
          simp only [lenV]
          omega
set_option maxHeartbeats 8000000 in
set_option maxRecDepth 100000 in
theorem objectAt_ok (w : World) (ao : Option Addr) (cap : Nat) (zs : List Int) (a : Nat) (hI : Ints w ao zs) (hl : zs.length ≤ 1048576) (hh : heapR zs = true) (ha : a + 3 ≤ zs.length) (hv : nextR zs (hz zs (a + 2)) 3 = true) :
    Calls Try.prog 23 #[.slice ao zs.length cap, .int .i64 (a : Int)] w fun e w' => ∃ cs ps v', e = .returned (.agg #[.int .i64 (a : Int), .int .i64 (hz zs (a + 1)), cs]) ∧ OwnC w' w.heap.size cs zs ps ∧ All zs (hz zs (a + 2)) ps v' ∧ Kept w w' := by
  have hCF := fun (u : World) (hu : Kept w u) => cellsFrom_ok u ao cap zs (hz zs (a + 2)) (hI.kept hu) hl hh hv
  obtain ⟨bb, off, rfl, hc⟩ := hI.at (k := 0) (by omega)
  have c1 := hc (a + 1) (by omega)
  have c2 := hc (a + 2) (by omega)
  have hbl : bb < w.heap.size := World.block_lt_of_cell? _ _ c1
  have p1 : (a : Int) + 1 < (zs.length : Int) := by omega
  have p2 : (a : Int) + 2 < (zs.length : Int) := by omega
  have t1 : ((a : Int) + 1).toNat = a + 1 := by omega
  have t2 : ((a : Int) + 2).toNat = a + 2 := by omega
  have w1' : IntKind.i64.wrap ((a : Int) + 1) = (a : Int) + 1 := by rw [IntWalk.i64_left, IntWalk.wrap64_in _ (by omega)]
  have w2' : IntKind.i64.wrap ((a : Int) + 2) = (a : Int) + 2 := by rw [IntWalk.i64_left, IntWalk.wrap64_in _ (by omega)]
  have b0 := Cells.new w 50 #[.int .i64 0, .int .i64 0, .slice none 0 0]
  have k0 : Kept w (w.alloc (.cells #[.int .i64 0, .int .i64 0, .slice none 0 0] 50)) := Kept.alloc (Below.refl _ _) _
  have k0d : Kept w (w.alloc (.cells #[.int .i64 0, .int .i64 0, .slice none 0 0] 50)).drew := k0.drew
  have b0d := b0.kept (Below.refl _ _).drew
  have c1d := (k0d.cell (p := ⟨bb, off + (a + 1), none⟩) hbl).trans c1
  have c2d := (k0d.cell (p := ⟨bb, off + (a + 2), none⟩) hbl).trans c2
  have hC := hCF _ k0d
  clear hc hI hCF
  go_enter Try.func23, Try.ntmps23
  go_wp2_with fail
  go_region_with (go_at_call 51; refine hC.mono ?_; rintro e w1 ⟨cs, ps, v', rfl, hO, hA, hk1⟩; obtain ⟨ca, cc, rfl, hcc, hAt⟩ := hO.at; have x1 := b0d.kept hk1; have d0 := x1.cell 0; have d1 := x1.cell 1; have d2 := x1.cell 2; have f0 := x1.frozen 0; have f1 := x1.frozen 1; have f2 := x1.frozen 2; have e1 := ((k0d.trans hk1).cell (p := ⟨bb, off + (a + 1), none⟩) hbl).trans c1; have e2 := ((k0d.trans hk1).cell (p := ⟨bb, off + (a + 2), none⟩) hbl).trans c2; obtain ⟨s0, s1, s2⟩ := x1.put3 (.int .i64 (a : Int)) (.int .i64 (hz zs (a + 1))) (.slice ca ps.length cc))
  all_goals (
    go_wp2_with fail
    have hK : Kept w w1 := k0d.trans hk1
    refine bodyPost_ret (v := .agg #[.int .i64 (a : Int), .int .i64 (hz zs (a + 1)), .slice ca ps.length cc]) (by simp [results, Try.results23, go_sem, s0, s1, s2]) rfl ⟨_, ps, v', rfl, ?_, hA, ?_⟩
    · refine OwnC.base (b := w.heap.size + 1) ?_ (by omega)
      have hO' : OwnC w1 (w.heap.size + 1) (.slice ca ps.length cc) zs ps := by simpa using hO
      repeat first | exact hO' | refine ownsRow_setCell_below ?_ (by simp) _
    · repeat first | exact hK | refine Kept.set ?_ (by simp) _)
end Go.Proofs.Ytnamdleebijcbaa
