/-
  The contracts of the draw of a heap that may be spoilt, of one of its values, and of a text.
  The contracts of what the laws of chapter 5 draw.
-/
import Derived.Test.YtpbafjcoomfooaaGreatGrpH
namespace Go.Proofs.YtpbafjcoomfooaaGreat
open Go.RowKit

theorem OwnR.ownI {W : World} {base : Nat} {v : Value} {zs : List Int} (h : OwnR W base v zs) : OwnI W base v zs := by
  rcases h with ⟨rfl, rfl⟩ | ⟨g, cp, rfl, hb, hcp, hR⟩
  · exact ⟨none, 0, rfl, ⟨by simp, .inl rfl⟩, by simp⟩
  · exact OwnI.ofRow hR hb hcp
theorem OwnL.ownI {W : World} {base : Nat} {v : Value} {zs : List Int} (h : OwnL W base v zs) : OwnI W base v zs := by
  rcases h.cases with ⟨rfl, rfl⟩ | ⟨g, cp, rfl, hb, hcp, _, hR⟩
  · exact ⟨none, 0, rfl, ⟨by simp, .inl rfl⟩, by simp⟩
  · exact OwnI.ofRow hR hb hcp
theorem OwnL.base {W : World} {base base' : Nat} {v : Value} {zs : List Int} (h : OwnL W base v zs) (hb : base' ≤ base) : OwnL W base' v zs := ⟨h.1, ownsRow_base h.2 hb⟩
theorem OwnR.rowR {W : World} {base g n : Nat} {zs : List Int} (h : OwnR W base (.slice (some ⟨g, 0, none⟩) zs.length n) zs) : Row W g zs := by
  rcases h with ⟨e, _⟩ | ⟨g', c', e, _, _, hR⟩
  · cases e
  · cases e; exact hR
section
variable {c : Nat} {a : Option Addr} {len cap : Nat} {z : Nat → Int} {w0 : World} {B : Nat} {v : Value} {zs : List Int} {gr cr : Nat} {rs : List Int} {w w' : World}
/-- A word of the slab is written. -/
theorem HS.word {gs cs j : Nat} {x : Int} (h : HS c a len cap z w0 B (.slice (some ⟨gs, 0, none⟩) zs.length cs) zs gr cr rs w) (hj : j < zs.length) (hx : InB x) : HS c a len cap z w0 B (.slice (some ⟨gs, 0, none⟩) zs.length cs) (zs.set j x) gr cr rs (w.setCell ⟨gs, j, none⟩ (.int .i64 x)) := by
  have hR := h.own.rowR
  have hc0 := h.c0
  have hB := h.hB
  have hgs := (h.own.block gs rfl).1
  have hnB : gs ≠ B := hR.notCells h.cell (by decide)
  have hnr : gs ≠ w0.heap.size := hR.notCells h.res (by decide)
  have hap := h.apart gs rfl
  have hcap : zs.length ≤ cs := by
    rcases h.own with ⟨e, _⟩ | ⟨g', c', e, _, hc, _⟩
    · cases e
    · cases e; exact hc
  have hother : ∀ k, k ≠ gs → (w.setCell ⟨gs, j, none⟩ (.int .i64 x)).heap[k]? = w.heap[k]? := fun k hk => Below.heap_setCell _ _ _ _ hk
  have hsz : (w.setCell ⟨gs, j, none⟩ (.int .i64 x)).heap.size = w.heap.size := by simp [World.setCell]
  exact ⟨⟨h.keeps.os, h.keeps.tape, h.keeps.output, by rw [hsz]; exact h.keeps.size, fun i hi hc => (hother i (by omega)).trans (h.keeps.block i hi hc)⟩, h.cur.upto (by omega) (fun i hi => hother i (by omega)), (hother B (fun e => hnB e.symm)).trans h.cell, (hother _ (fun e => hnr e.symm)).trans h.res, .inr ⟨gs, cs, by simp, hgs, by simpa using hcap, hR.set hj hx⟩, h.roots.same (fun i e => by cases e; exact hother _ (fun e => hap e.symm)), h.apart, hc0, hB, by simpa using h.len200⟩
end
theorem draw_done {c : Nat} {a : Option Addr} {len cap : Nat} {z : Nat → Int} {w0 w : World} {v rv : Value} {zs rs : List Int} (hK : Keeps c w0 w) (hC : Cur w c a len cap z) (hres : Cells w w0.heap.size 26 #[.slice none 0 0]) (hV : OwnI w w0.heap.size v zs) (hR : OwnI w w0.heap.size rv rs) (hc0 : c < w0.heap.size) :
    Cells (w.setCell ⟨w0.heap.size, 0, none⟩ v) w0.heap.size 26 #[v] ∧ OwnI (w.setCell ⟨w0.heap.size, 0, none⟩ v) w0.heap.size v zs ∧ OwnI (w.setCell ⟨w0.heap.size, 0, none⟩ v) w0.heap.size rv rs ∧ Keeps c w0 (w.setCell ⟨w0.heap.size, 0, none⟩ v) ∧ Cur (w.setCell ⟨w0.heap.size, 0, none⟩ v) c a len cap z := by
  have hoth : ∀ i, i ≠ w0.heap.size → (w.setCell ⟨w0.heap.size, 0, none⟩ v).heap[i]? = w.heap[i]? := fun i hi => Below.heap_setCell _ _ _ _ hi
  have hsz : (w.setCell ⟨w0.heap.size, 0, none⟩ v).heap.size = w.heap.size := by simp [World.setCell]
  exact ⟨hres.set1 v, hV.other hres (by intro j n; cases j <;> simp) _, hR.other hres (by intro j n; cases j <;> simp) _, ⟨hK.os, hK.tape, hK.output, by rw [hsz]; exact hK.size, fun i hi hc => (hoth i (by omega)).trans (hK.block i hi hc)⟩, hC.upto (by omega) (fun i hi => hoth i (by omega))⟩

set_option maxHeartbeats 16000000 in
set_option maxRecDepth 100000 in
theorem l3Draw_ok (c : Nat) (a : Option Addr) (len cap : Nat) (z : Nat → Int) (w : World) (h : Cur w c a len cap z) :
    Calls Tryz.prog 43 #[.pointer (some ⟨c, 0, none⟩)] w fun e w' => ∃ v zs rv rs, e = .returned (.tuple #[.agg #[v], rv]) ∧ OwnI w' w.heap.size v zs ∧ zs.length ≤ 200 ∧ OwnI w' w.heap.size rv rs ∧ rs.length ≤ 41 ∧ Keeps c w w' ∧ Cur w' c a len cap z := by
  obtain ⟨i0, hi, hz0, hz1, hz2⟩ := info_parts infoI
  have hc0 := h.lt
  have h0 := h.alloc (.cells #[.slice none 0 0] 26)
  have b0 := Cells.new w 26 #[.slice none 0 0]
  have kk0 : Keeps c w (w.alloc (.cells #[.slice none 0 0] 26)) := (Keeps.refl _ _).alloc _
  go_enter Tryz.func43, Tryz.ntmps43
  go_wp2_with fail
  refine (l3DrawHeap_ok c a len cap z _ h0).mono ?_
  rintro e w1 ⟨v0, zs, gr, cr, rs, rfl, ho, hz2', hz200, hrt, hr0, hr40, hap, hk1, hc1⟩
  rcases ho with ⟨_, e0⟩ | ⟨gs, cs, rfl, hgs, hcs, hRs⟩
  · rw [e0] at hz2'; simp at hz2'
  simp only [World.size_alloc] at hgs hrt
  have b1 := b0.keeps hk1 (by omega)
  have lw1 := b1.lt
  have kA : Kept w1 (w1.alloc (.cells #[.slice (some ⟨gs, 0, none⟩) zs.length cs] 26)) := Kept.alloc (Below.refl _ _) _
  have HS1 : HS c a len cap z w w1.heap.size (.slice (some ⟨gs, 0, none⟩) zs.length cs) zs gr cr rs (w1.alloc (.cells #[.slice (some ⟨gs, 0, none⟩) zs.length cs] 26)) := by
    have hgr := (hrt.lt gr rfl)
    exact ⟨(kk0.trans hk1).trans (kA.keeps c), hc1.kept kA, Cells.new w1 26 _, b1.kept kA, .inr ⟨gs, cs, rfl, by omega, hcs, hRs.kept kA⟩, (hrt.base (by omega)).same (fun j e => by cases e; exact kA.block _ hgr.2), hap, hc0, lw1, hz200⟩
  obtain ⟨B, hBd⟩ : ∃ B, w1.heap.size = B := ⟨_, rfl⟩
  rw [hBd] at HS1
  clear b0 b1 kk0 hk1 hc1 hRs hrt hap h0 h kA
  go_wp2_with fail
  refine (l1Below_ok c a len cap z 20 (by omega) _ HS1.cur).mono ?_
  rintro e w2 ⟨n, rfl, hn0, hn1, hk2, hc2⟩
  have HS2 := HS1.go hk2 hc2
  clear hk2 hc2 HS1 hn1 hBd
  have cB := HS2.cell.cell 0
  have fB := HS2.cell.frozen 0
  have lB := HS2.cell.lt
  have c2 := HS2.res.cell 0
  have f2 := HS2.res.frozen 0
  rcases (show n = 0 ∨ n = 1 ∨ n = 2 ∨ 3 ≤ n by omega) with rfl | rfl | rfl | hn3
  · have HSx := HS2.kept (Below.refl _ w2).drew
    have cx := HSx.cell.cell 0
    clear HS2
    go_wp2_with fail
    go_region_with (first | (go_at_call 90; refine (l1Below_ok c a len cap z (zs.length : Int) (by omega) _ (by first | exact HSj.cur | exact HSx.cur)).mono ?_; rintro e wi ⟨xi, rfl, hi0, hi1, hki, hci⟩; have hi2 : xi < (zs.length : Int) := hi1 (by omega); obtain ⟨ii, rfl⟩ : ∃ ii : Nat, xi = ii := ⟨xi.toNat, by omega⟩; have HSi : HS c a len cap z w B (.slice (some ⟨gs, 0, none⟩) zs.length cs) zs gr cr rs wi := (by first | exact HSj.go hki hci | exact HSx.go hki hci); have ci := HSi.cell.cell 0; have gi := HSi.own.rowR.cell (j := ii) (by omega); have fi := HSi.own.rowR.frozen ii; clear hi1) | (go_at_call 91; refine (l1DrawAny_ok c a len cap z _ (by first | exact HSi.cur | exact HSx.cur)).mono ?_; rintro e wj ⟨xj, rfl, hjb, hkj, hcj⟩; have HSj : HS c a len cap z w B (.slice (some ⟨gs, 0, none⟩) zs.length cs) zs gr cr rs wj := (by first | exact HSi.go hkj hcj | exact HSx.go hkj hcj); have cj := HSj.cell.cell 0; try (have gj := HSj.own.rowR.cell (j := ii) (by omega)); try (have fj := HSj.own.rowR.frozen ii)))
    all_goals (
      have HFi : Hid _ := HSi.word (j := ii) (x := xj) (by omega) hjb
      have HFj : Hid _ := HSj.word (j := ii) (x := xj) (by omega) hjb
      have cfi := HFi.out.cell.cell 0
      have c3i := HFi.out.res.cell 0
      have f3i := HFi.out.res.frozen 0
      have cfj := HFj.out.cell.cell 0
      have c3j := HFj.out.res.cell 0
      have f3j := HFj.out.res.frozen 0
      go_wp2_with fail
      first
      | (obtain ⟨q1, q2, q3, q4, q5⟩ := draw_done HFi.out.keeps HFi.out.cur HFi.out.res HFi.out.own.ownI HFi.out.roots.ownI hc0
         have q := q1.cell 0
         exact bodyPost_ret (v := .tuple #[.agg #[.slice (some ⟨gs, 0, none⟩) zs.length cs], .slice (some ⟨gr, 0, none⟩) rs.length cr]) (by simp [results, Tryz.results43, go_sem, q]) rfl ⟨_, _, _, rs, rfl, q2, by simp; omega, q3, by omega, q4, q5⟩)
      | (obtain ⟨q1, q2, q3, q4, q5⟩ := draw_done HFj.out.keeps HFj.out.cur HFj.out.res HFj.out.own.ownI HFj.out.roots.ownI hc0
         have q := q1.cell 0
         exact bodyPost_ret (v := .tuple #[.agg #[.slice (some ⟨gs, 0, none⟩) zs.length cs], .slice (some ⟨gr, 0, none⟩) rs.length cr]) (by simp [results, Tryz.results43, go_sem, q]) rfl ⟨_, _, _, rs, rfl, q2, by simp; omega, q3, by omega, q4, q5⟩))
  · go_wp2_with fail
    refine (l1DrawAny_ok c a len cap z _ HS2.cur).mono ?_
    rintro e w3 ⟨x', rfl, hx', hk3, hc3⟩
    have HS3 := HS2.go hk3 hc3
    have cB3 := HS3.cell.cell 0
    have c3 := HS3.res.cell 0
    have f3 := HS3.res.frozen 0
    have hbb := HS3.roots.1
    have ho := HS3.roots.2
    have hgr := HS3.grIn
    have hs3 := HS3.keeps.size
    have HSE : Hid _ := HS3
    clear HS2 hk3 hc3 cB fB c2 f2 HS3
    go_wp2_with (at_builtin; refine wpList_append_own_at _ rfl _ _ 24 rfl w.heap.size 3 i0 (.int .i64 0) 1 8 Tryz.underlying24 hi hz0 hz1 hz2 rfl (by decide) _ _ _ rfl (ho.alloc _) ⟨w3.heap.size, 0, none⟩ 1 1 [.int .i64 x'] rfl rfl (cell_one_new _ _ _) (by simp [Value.oneCell']) (by unfold maxLen; omega) (by omega) (by simp; omega) ?_; intro v'' wn hown' hgrow0 _ hblk; have hgrow : (w3.alloc (.cells #[.int .i64 x'] 3)).grownBy wn (some gr) := hgrow0; obtain ⟨g', cp', rfl, hO'⟩ := app_vals hbb hx' hown'; have HSn := (HSE.out.kept (Kept.alloc (Below.refl _ w3) (.cells #[.int .i64 x'] 3))).vals hgrow hO' (by rcases hblk with e | e; exact .inl (Option.some.inj e); exact .inr (Nat.le_of_eq (Option.some.inj e).symm)); have cn := HSn.cell.cell 0; have d3 := HSn.res.cell 0; have g3 := HSn.res.frozen 0; have ln := HSn.cell.lt)
    obtain ⟨q1, q2, q3, q4, q5⟩ := draw_done HSn.keeps HSn.cur HSn.res HSn.own.ownI HSn.roots.ownI hc0
    have q := q1.cell 0
    exact bodyPost_ret (v := .tuple #[.agg #[.slice (some ⟨gs, 0, none⟩) zs.length cs], .slice (some ⟨g', 0, none⟩) (rs.length + 1) cp']) (by simp [results, Tryz.results43, go_sem, q]) rfl ⟨_, zs, _, rs ++ [x'], rfl, q2, hz200, by simpa using q3, by simp; omega, q4, q5⟩
  · go_wp2_with fail
    refine (l2Draw_ok c a len cap z _ HS2.cur).mono ?_
    rintro e w3 ⟨v3, zs3, rfl, hO3, hl3, hk3, hc3⟩
    have HS3 := HS2.go hk3 hc3
    have hs2 := HS2.keeps.size
    have cB3 := HS3.cell.cell 0
    have fB3 := HS3.cell.frozen 0
    have c3 := HS3.res.cell 0
    have f3 := HS3.res.frozen 0
    have lB3 := HS3.cell.lt
    have hBw := HS3.hB
    have hO3' := (hO3.base hs2).other HS3.cell (by intro j n; cases j <;> simp) v3
    have hR3 := HS3.roots.ownI.other HS3.cell (by intro j n; cases j <;> simp) v3
    have hB3 := HS3.cell.set1 v3
    have hr3 := HS3.res.other (p := ⟨B, 0, none⟩) (by simp; omega) v3
    have hK3 : Keeps c w (w3.setCell ⟨B, 0, none⟩ v3) := ⟨HS3.keeps.os, HS3.keeps.tape, HS3.keeps.output, by simpa [World.setCell] using HS3.keeps.size, fun i hi hc => (Below.heap_setCell _ _ _ _ (by simp; omega)).trans (HS3.keeps.block i hi hc)⟩
    have hC3 := HS3.cur.upto (w' := w3.setCell ⟨B, 0, none⟩ v3) (by simp [World.setCell]) (fun i hi => Below.heap_setCell _ _ _ _ (by simp; omega))
    obtain ⟨la3, lc3, rfl, _⟩ := hO3
    have cB4 := hB3.cell 0
    have c4 := hr3.cell 0
    have f4 := hr3.frozen 0
    obtain ⟨q1, q2, q3, q4, q5⟩ := draw_done hK3 hC3 hr3 hO3' hR3 hc0
    have HQ : Hid _ := And.intro q1 (And.intro q2 (And.intro q3 (And.intro q4 q5)))
    clear HS2 HS3 hk3 hc3 cB fB c2 f2 hO3' hR3 hB3 hr3 hK3 hC3 q1 q2 q3 q4 q5
    go_wp2_with fail
    obtain ⟨q1, q2, q3, q4, q5⟩ := HQ.out
    have q := q1.cell 0
    exact bodyPost_ret (v := .tuple #[.agg #[.slice la3 zs3.length lc3], .slice (some ⟨gr, 0, none⟩) rs.length cr]) (by simp [results, Tryz.results43, go_sem, q]) rfl ⟨_, zs3, _, rs, rfl, q2, by omega, q3, by omega, q4, q5⟩
  · have t0 : (n == 0) = false := by simp; omega
    have t1 : (n == 1) = false := by simp; omega
    have t2 : (n == 2) = false := by simp; omega
    have HF : Hid _ := HS2
    clear HS2
    go_wp2_with fail
    obtain ⟨q1, q2, q3, q4, q5⟩ := draw_done HF.out.keeps HF.out.cur HF.out.res HF.out.own.ownI HF.out.roots.ownI hc0
    have q := q1.cell 0
    exact bodyPost_ret (v := .tuple #[.agg #[.slice (some ⟨gs, 0, none⟩) zs.length cs], .slice (some ⟨gr, 0, none⟩) rs.length cr]) (by simp [results, Tryz.results43, go_sem, q]) rfl ⟨_, _, _, rs, rfl, q2, hz200, q3, by omega, q4, q5⟩
set_option maxHeartbeats 16000000 in
set_option maxRecDepth 100000 in
theorem l3DrawValue_ok (c : Nat) (a : Option Addr) (len cap : Nat) (z : Nat → Int) (w : World) (h : Cur w c a len cap z) (base : Nat) (ro : Option Addr) (rc : Nat) (rs : List Int) (hR : OwnI w base (.slice ro rs.length rc) rs) (hcb : c < base) (hl : rs.length ≤ 1000) :
    Calls Tryz.prog 93 #[.pointer (some ⟨c, 0, none⟩), .slice ro rs.length rc] w fun e w' => ∃ x : Int, e = .returned (.int .i64 x) ∧ InB x ∧ Keeps c w w' ∧ Cur w' c a len cap z := by
  by_cases hr0 : rs.length = 0
  · have t0 : ((rs.length : Int) == 0) = true := by simp [hr0]
    go_enter Tryz.func93, Tryz.ntmps93
    go_wp2_with (go_at_call 91; refine (l1DrawAny_ok c a len cap z _ h).mono ?_; rintro e w1 ⟨x, rfl, hx, hk1, hc1⟩)
    go_ret
    exact ⟨x, rfl, hx, hk1, hc1⟩
  · have t0 : ((rs.length : Int) == 0) = false := beq_eq_false_iff_ne.2 (by omega)
    go_enter Tryz.func93, Tryz.ntmps93
    go_wp2_with fail
    refine (l1Once_ok c a len cap z 9 (by omega) _ h).mono ?_
    rintro e w1 ⟨y, rfl, hk1, hc1⟩
    cases y with
    | true =>
      go_wp2_with (go_at_call 91; refine (l1DrawAny_ok c a len cap z _ hc1).mono ?_; rintro e w2 ⟨x, rfl, hx, hk2, hc2⟩)
      go_ret
      exact ⟨x, rfl, hx, hk1.trans hk2, hc2⟩
    | false =>
      have hR1 := hR.keeps hk1 hcb
      go_wp2_with fail
      refine (l1Below_ok c a len cap z (rs.length : Int) (by omega) _ hc1).mono ?_
      rintro e w2 ⟨x, rfl, hx0, hx1, hk2, hc2⟩
      have hx2 : x < (rs.length : Int) := hx1 (by omega)
      obtain ⟨j, rfl⟩ : ∃ j : Nat, x = j := ⟨x.toNat, by omega⟩
      obtain ⟨ao, cp, e, hI, _⟩ := hR1.keeps hk2 hcb
      cases e
      obtain ⟨bb, off, rfl, hcell⟩ := hI.at (k := j) (by omega)
      have hcj := hcell j (by omega)
      have hb := hI.bd j
      clear hx1 hcell
      go_wp2
      go_ret
      exact ⟨_, rfl, hb, hk1.trans hk2, hc2⟩
set_option maxHeartbeats 16000000 in
set_option maxRecDepth 100000 in
theorem l3DrawOf_ok (c : Nat) (a : Option Addr) (len cap : Nat) (z : Nat → Int) (w : World) (h : Cur w c a len cap z) (base : Nat) (ro : Option Addr) (rc : Nat) (rs : List Int) (kind : Int) (hR : OwnI w base (.slice ro rs.length rc) rs) (hcb : c < base) (hl : rs.length ≤ 1000) :
    Calls Tryz.prog 44 #[.pointer (some ⟨c, 0, none⟩), .slice ro rs.length rc, .int .i64 kind] w fun e w' => ∃ x : Int, e = .returned (.int .i64 x) ∧ InB x ∧ Keeps c w w' ∧ Cur w' c a len cap z := by
  go_enter Tryz.func44, Tryz.ntmps44
  go_wp2_with fail
  go_loopw [7] (fun s7 wr => ∃ k : Nat, s7 = .int .i64 k ∧ k ≤ 8 ∧ Keeps c w wr ∧ Cur wr c a len cap z) (fun s7 _ => 8 - (intOf s7).toNat)
  case atStart => exact ⟨0, rfl, by omega, Keeps.refl _ _, h⟩
  case round =>
    obtain ⟨k, rfl, hk8, hK, hC⟩ := hrel
    have hRr := hR.keeps hK hcb
    have hD := l3DrawValue_ok c a len cap z wr hC base ro rc rs hRr hcb hl
    by_cases hlt : k < 8
    · have q1 : (k : Int) < 8 := by omega
      go_wp2_with fail
      refine hD.mono ?_
      rintro e w1 ⟨x, rfl, hx, hk1, hc1⟩
      by_cases he : x % 8 = kind
      · have he' : (x % 8 == kind) = true := by simp [he]
        clear he
        go_wp2_with (go_at_call 50; refine (spec_Kind_ok _ _).mono ?_; rintro e wx ⟨rfl, rfl⟩)
        go_ret
        exact ⟨x, rfl, hx, hK.trans hk1, hc1⟩
      · have he' : (x % 8 == kind) = false := by simp [he]
        clear he
        go_wp2_with (go_at_call 50; refine (spec_Kind_ok _ _).mono ?_; rintro e wx ⟨rfl, rfl⟩)
        go_roundw
        case rel => exact ⟨k + 1, by go_num, by omega, hK.trans hk1, hc1⟩
        case measure => simp [intOf]; omega
    · obtain rfl : k = 8 := by omega
      go_wp2_with fail
      refine hD.mono ?_
      rintro e w1 ⟨x, rfl, hx, hk1, hc1⟩
      go_wp2
      go_ret
      exact ⟨x, rfl, hx, hK.trans hk1, hc1⟩
theorem size_q (t : ByteArray) : (t ++ (⟨#[113]⟩ : ByteArray)).size = t.size + 1 := by rw [ByteArray.size_append]; rfl
def textTs : List ByteArray := [⟨#[]⟩, ⟨#[97]⟩, ⟨#[98]⟩, ⟨#[107, 101, 121]⟩, ⟨#[122, 122]⟩, ⟨#[97, 0]⟩]
theorem textTs_in : ∀ t ∈ textTs, t.size ≤ 31 := by
  intro t ht
  simp [textTs] at ht
  rcases ht with rfl | rfl | rfl | rfl | rfl | rfl <;> decide
set_option maxHeartbeats 16000000 in
set_option maxRecDepth 100000 in
theorem l4DrawText_ok (c : Nat) (a : Option Addr) (len cap : Nat) (z : Nat → Int) (w : World) (h : Cur w c a len cap z) :
    Calls Tryz.prog 45 #[.pointer (some ⟨c, 0, none⟩)] w fun e w' => ∃ t : ByteArray, e = .returned (.string t) ∧ t.size ≤ 31 ∧ Keeps c w w' ∧ Cur w' c a len cap z := by
  go_enter Tryz.func45, Tryz.ntmps45
  go_wp2_with fail
  refine (l1Once_ok c a len cap z 12 (by omega) _ h).mono ?_
  rintro e w1 ⟨y, rfl, hk1, hc1⟩
  cases y with
  | true =>
    go_wp2_with fail
    go_loopw [3] (fun s3 wr => ∃ t : ByteArray, s3 = .string t ∧ t.size ≤ 31 ∧ Keeps c w wr ∧ Cur wr c a len cap z) (fun s3 _ => match s3 with | .string t => 31 - t.size | _ => 0)
    case atStart => exact ⟨⟨#[]⟩, rfl, by decide, hk1, hc1⟩
    case round =>
      obtain ⟨t, rfl, ht, hK, hC⟩ := hrel
      go_wp2_with fail
      refine (l1Below_ok c a len cap z 2 (by omega) _ hC).mono ?_
      rintro e w2 ⟨x, rfl, hx0, hx1, hk2, hc2⟩
      have hx2 : x < 2 := hx1 (by omega)
      clear hx1
      by_cases hlt : (t.size : Int) < 30 + x
      · go_wp2_with fail
        go_roundw
        case rel => exact ⟨_, rfl, by rw [size_q]; omega, hK.trans hk2, hc2⟩
        case measure =>
          show 31 - (t ++ (⟨#[113]⟩ : ByteArray)).size < 31 - t.size
          rw [size_q]
          omega
      · go_wp2
        go_ret
        exact ⟨t, rfl, ht, hK.trans hk2, hc2⟩
  | false =>
    have hP := l1Pick_at c a len cap z textTs 6 rfl (by omega) (by omega) _ 9 rfl _ hc1
    go_wp2_with fail
    refine hP.mono ?_
    rintro e w2 ⟨t, rfl, ht, hk2, hc2⟩
    have ht' := textTs_in t ht
    go_wp2
    go_ret
    exact ⟨t, rfl, ht', hk1.trans hk2, hc2⟩
end Go.Proofs.YtpbafjcoomfooaaGreat
namespace Go.Proofs.YtpbafjcoomfooaaGreat
open Go.RowKit

set_option maxHeartbeats 8000000 in
set_option maxRecDepth 100000 in
theorem DrawProtoSet_ok (a : Option Addr) (len cap : Nat) (z : Nat → Int) (w : World) (h : Src w.heap.size w a len z) :
    Calls Tryz.prog 26 #[.slice a len cap] w fun e w' => ∃ v zs x y, e = .returned (.tuple #[.agg #[v], .int .i64 x, .int .i64 y]) ∧ OwnI w' w.heap.size v zs ∧ zs.length ≤ 200 ∧ InB x ∧ InB y ∧ Kept w w' := by
  have b0 := Cells.new w 26 #[.slice none 0 0]
  have k0 : Kept w (w.alloc (.cells #[.slice none 0 0] 26)) := Kept.alloc (Below.refl _ _) _
  have h0 : Src (w.alloc (.cells #[.slice none 0 0] 26)).heap.size (w.alloc (.cells #[.slice none 0 0] 26)) a len z := h.below k0
  go_enter Tryz.func26, Tryz.ntmps26
  go_wp2_with fail
  refine (l1New_ok a len cap z _ h0).mono ?_
  rintro e w1 ⟨c, rfl, hc1, hk1, hC1⟩
  have b1 := b0.kept hk1
  have k1 := k0.trans hk1
  simp only [World.size_alloc] at hc1
  clear h0 hk1 b0 k0
  go_wp2_with fail
  refine (l3Draw_ok c a len cap z _ hC1).mono ?_
  rintro e w2 ⟨v, zs, rv, rs, rfl, hO, hl, hRt, hrl, hk2, hC2⟩
  have hO2 := hO
  have hRt2 := hRt
  have hcb := hC1.lt
  have hb1 := k1.size
  have b2 := b1.keeps hk2 (by omega)
  have k2 : Kept w w2 := Below.trans k1 (hk2.below (by omega) k1.size)
  obtain ⟨ao, cp, rfl, _⟩ := hO
  obtain ⟨ro, rp, rfl, _⟩ := hRt
  have ka : Kept w2 (w2.alloc (.cells #[.slice ao zs.length cp] 26)) := Kept.alloc (Below.refl _ _) _
  have x4 := Cells.new w2 26 #[.slice ao zs.length cp]
  have C5 := hC2.kept ka
  have b5 := b2.kept ka
  have O5 := hO2.kept ka
  have R5 := hRt2.kept ka
  have k5 := k2.trans ka
  have hcl := hC2.lt
  have lx := x4.lt
  have hs2 := hk2.size
  obtain ⟨B, hB⟩ : ∃ B, w2.heap.size = B := ⟨_, rfl⟩
  go_wp2_with fail
  obtain ⟨w5, hw5⟩ : ∃ w5, w2.alloc (.cells #[.slice ao zs.length cp] 26) = w5 := ⟨_, rfl⟩
  rw [hw5] at x4 C5 b5 O5 k5 lx R5
  rw [hB] at x4 hcl lx hs2
  simp only [hw5]
  have x5 := x4
  clear x4 hB hw5 ka hk2 hC1 hC2 hO2 b1 b2 k1 k2 hRt2
  refine (l3DrawOf_ok c a len cap z _ C5 w1.heap.size ro rp rs 5 R5 hcb (by omega)).mono ?_
  rintro e w6 ⟨x, rfl, hx, hk6, C6⟩
  have x6 := x5.keeps hk6 (by omega)
  have b6 := b5.keeps hk6 (by omega)
  have O6 := O5.keeps hk6 hcb
  have R6 := R5.keeps hk6 hcb
  have k6 : Kept w w6 := Below.trans k5 (hk6.below (by omega) k5.size)
  go_wp2_with fail
  have Cd := C6.kept (Below.refl _ w6).drew
  have xd := x6.kept (Below.refl _ w6).drew
  have bd := b6.kept (Below.refl _ w6).drew
  have Od := O6.kept (Below.refl _ w6).drew
  have Rd := R6.kept (Below.refl _ w6).drew
  have kd : Kept w w6.drew := k6.drew
  have q4 := x6.cell 0
  have hA := l3DrawOf_ok c a len cap z _ Cd w1.heap.size ro rp rs 5 Rd hcb (by omega)
  go_region_with (first | (go_at_call 44; refine hA.mono ?_; rintro e wz ⟨y, rfl, hy, hkz, Cz⟩; have x6 := xd.keeps hkz (by omega); have q6 := x6.cell 0; have b6 := bd.keeps hkz (by omega); have e6 := b6.cell 0; have f6 := b6.frozen 0))
  all_goals (
    have O6 := Od.keeps hkz hcb
    have k6 : Kept w wz := Below.trans kd (hkz.below (by omega) kd.size)
    have q := (b6.set1 (.slice ao zs.length cp)).cell 0
    go_wp2_with fail
    refine bodyPost_ret (v := .tuple #[.agg #[.slice ao zs.length cp], .int .i64 x, .int .i64 y]) (by simp [results, Tryz.results26, go_sem, q]) rfl ⟨_, zs, _, _, rfl, ?_, hl, hx, hy, k6.set (by simp) _⟩
    exact (O6.other b6 (by intro j n; cases j <;> simp) _).base hb1)
set_option maxHeartbeats 8000000 in
set_option maxRecDepth 100000 in
theorem l5DrawThree_ok (a : Option Addr) (len cap : Nat) (z : Nat → Int) (w : World) (h : Src w.heap.size w a len z) :
    Calls Tryz.prog 54 #[.slice a len cap] w fun e w' => ∃ v zs x y u, e = .returned (.tuple #[.agg #[v], .int .i64 x, .int .i64 y, .int .i64 u]) ∧ OwnI w' w.heap.size v zs ∧ zs.length ≤ 200 ∧ InB x ∧ InB y ∧ InB u ∧ Kept w w' := by
  have b0 := Cells.new w 26 #[.slice none 0 0]
  have k0 : Kept w (w.alloc (.cells #[.slice none 0 0] 26)) := Kept.alloc (Below.refl _ _) _
  have h0 : Src (w.alloc (.cells #[.slice none 0 0] 26)).heap.size (w.alloc (.cells #[.slice none 0 0] 26)) a len z := h.below k0
  go_enter Tryz.func54, Tryz.ntmps54
  go_wp2_with fail
  refine (l1New_ok a len cap z _ h0).mono ?_
  rintro e w1 ⟨c, rfl, hc1, hk1, hC1⟩
  have b1 := b0.kept hk1
  have k1 := k0.trans hk1
  simp only [World.size_alloc] at hc1
  clear h0 hk1 b0 k0
  go_wp2_with fail
  refine (l3Draw_ok c a len cap z _ hC1).mono ?_
  rintro e w2 ⟨v, zs, rv, rs, rfl, hO, hl, hRt, hrl, hk2, hC2⟩
  have hO2 := hO
  have hRt2 := hRt
  have hcb := hC1.lt
  have hb1 := k1.size
  have b2 := b1.keeps hk2 (by omega)
  have k2 : Kept w w2 := Below.trans k1 (hk2.below (by omega) k1.size)
  obtain ⟨ao, cp, rfl, _⟩ := hO
  obtain ⟨ro, rp, rfl, _⟩ := hRt
  have ka : Kept w2 (w2.alloc (.cells #[.slice ao zs.length cp] 26)) := Kept.alloc (Below.refl _ _) _
  have x4 := Cells.new w2 26 #[.slice ao zs.length cp]
  have C5 := hC2.kept ka
  have b5 := b2.kept ka
  have O5 := hO2.kept ka
  have R5 := hRt2.kept ka
  have k5 := k2.trans ka
  have hcl := hC2.lt
  have lx := x4.lt
  have hs2 := hk2.size
  obtain ⟨B, hB⟩ : ∃ B, w2.heap.size = B := ⟨_, rfl⟩
  go_wp2_with fail
  obtain ⟨w5, hw5⟩ : ∃ w5, w2.alloc (.cells #[.slice ao zs.length cp] 26) = w5 := ⟨_, rfl⟩
  rw [hw5] at x4 C5 b5 O5 k5 lx R5
  rw [hB] at x4 hcl lx hs2
  simp only [hw5]
  have x5 := x4
  clear x4 hB hw5 ka hk2 hC1 hC2 hO2 b1 b2 k1 k2 hRt2
  refine (l3DrawOf_ok c a len cap z _ C5 w1.heap.size ro rp rs 5 R5 hcb (by omega)).mono ?_
  rintro e w6 ⟨x, rfl, hx, hk6, C6⟩
  have x6 := x5.keeps hk6 (by omega)
  have b6 := b5.keeps hk6 (by omega)
  have O6 := O5.keeps hk6 hcb
  have R6 := R5.keeps hk6 hcb
  have k6 : Kept w w6 := Below.trans k5 (hk6.below (by omega) k5.size)
  go_wp2_with fail
  refine (l3DrawOf_ok c a len cap z _ C6 w1.heap.size ro rp rs 4 R6 hcb (by omega)).mono ?_
  rintro e w7 ⟨y, rfl, hy, hk7, C7⟩
  have x7 := x6.keeps hk7 (by omega)
  have b7 := b6.keeps hk7 (by omega)
  have O7 := O6.keeps hk7 hcb
  have R7 := R6.keeps hk7 hcb
  have k7 : Kept w w7 := Below.trans k6 (hk7.below (by omega) k6.size)
  go_wp2_with fail
  have Cd := C7.kept (Below.refl _ w7).drew
  have xd := x7.kept (Below.refl _ w7).drew
  have bd := b7.kept (Below.refl _ w7).drew
  have Od := O7.kept (Below.refl _ w7).drew
  have Rd := R7.kept (Below.refl _ w7).drew
  have kd : Kept w w7.drew := k7.drew
  have q4 := x7.cell 0
  have hA := l3DrawValue_ok c a len cap z _ Cd w1.heap.size ro rp rs Rd hcb (by omega)
  go_region_with (first | (go_at_call 93; refine hA.mono ?_; rintro e wz ⟨u, rfl, hu, hkz, Cz⟩; have x6 := xd.keeps hkz (by omega); have q6 := x6.cell 0; have b6 := bd.keeps hkz (by omega); have e6 := b6.cell 0; have f6 := b6.frozen 0))
  all_goals (
    have O6 := Od.keeps hkz hcb
    have k6 : Kept w wz := Below.trans kd (hkz.below (by omega) kd.size)
    have q := (b6.set1 (.slice ao zs.length cp)).cell 0
    go_wp2_with fail
    refine bodyPost_ret (v := .tuple #[.agg #[.slice ao zs.length cp], .int .i64 x, .int .i64 y, .int .i64 u]) (by simp [results, Tryz.results54, go_sem, q]) rfl ⟨_, zs, _, _, _, rfl, ?_, hl, hx, hy, hu, k6.set (by simp) _⟩
    exact (O6.other b6 (by intro j n; cases j <;> simp) _).base hb1)
set_option maxHeartbeats 8000000 in
set_option maxRecDepth 100000 in
theorem DrawObjNew_ok (a : Option Addr) (len cap : Nat) (z : Nat → Int) (w : World) (h : Src w.heap.size w a len z) :
    Calls Tryz.prog 31 #[.slice a len cap] w fun e w' => ∃ v zs x, e = .returned (.tuple #[.agg #[v], .int .i64 x]) ∧ OwnI w' w.heap.size v zs ∧ zs.length ≤ 200 ∧ InB x ∧ Kept w w' := by
  have b0 := Cells.new w 26 #[.slice none 0 0]
  have k0 : Kept w (w.alloc (.cells #[.slice none 0 0] 26)) := Kept.alloc (Below.refl _ _) _
  have h0 : Src (w.alloc (.cells #[.slice none 0 0] 26)).heap.size (w.alloc (.cells #[.slice none 0 0] 26)) a len z := h.below k0
  go_enter Tryz.func31, Tryz.ntmps31
  go_wp2_with fail
  refine (l1New_ok a len cap z _ h0).mono ?_
  rintro e w1 ⟨c, rfl, hc1, hk1, hC1⟩
  have b1 := b0.kept hk1
  have k1 := k0.trans hk1
  simp only [World.size_alloc] at hc1
  clear h0 hk1 b0 k0
  go_wp2_with fail
  refine (l3Draw_ok c a len cap z _ hC1).mono ?_
  rintro e w2 ⟨v, zs, rv, rs, rfl, hO, hl, hRt, hrl, hk2, hC2⟩
  have hO2 := hO
  have hRt2 := hRt
  have hcb := hC1.lt
  have hb1 := k1.size
  have b2 := b1.keeps hk2 (by omega)
  have k2 : Kept w w2 := Below.trans k1 (hk2.below (by omega) k1.size)
  obtain ⟨ao, cp, rfl, _⟩ := hO
  obtain ⟨ro, rp, rfl, _⟩ := hRt
  have ka : Kept w2 (w2.alloc (.cells #[.slice ao zs.length cp] 26)) := Kept.alloc (Below.refl _ _) _
  have x4 := Cells.new w2 26 #[.slice ao zs.length cp]
  have C5 := hC2.kept ka
  have b5 := b2.kept ka
  have O5 := hO2.kept ka
  have R5 := hRt2.kept ka
  have k5 := k2.trans ka
  have hcl := hC2.lt
  have lx := x4.lt
  have hs2 := hk2.size
  obtain ⟨B, hB⟩ : ∃ B, w2.heap.size = B := ⟨_, rfl⟩
  go_wp2_with fail
  obtain ⟨w5, hw5⟩ : ∃ w5, w2.alloc (.cells #[.slice ao zs.length cp] 26) = w5 := ⟨_, rfl⟩
  rw [hw5] at x4 C5 b5 O5 k5 lx R5
  rw [hB] at x4 hcl lx hs2
  simp only [hw5]
  have x5 := x4
  clear x4 hB hw5 ka hk2 hC1 hC2 hO2 b1 b2 k1 k2 hRt2
  refine (l1Once_ok c a len cap z 3 (by omega) _ C5).mono ?_
  rintro e w6 ⟨t, rfl, hk6, C6⟩
  have x6 := x5.keeps hk6 (by omega)
  have b6 := b5.keeps hk6 (by omega)
  have O6 := O5.keeps hk6 hcb
  have R6 := R5.keeps hk6 hcb
  have k6 : Kept w w6 := Below.trans k5 (hk6.below (by omega) k5.size)
  cases t with
  | true =>
    have q4 := x6.cell 0
    have e6 := b6.cell 0
    have f6 := b6.frozen 0
    go_wp2_with fail
    have q := (b6.set1 (.slice ao zs.length cp)).cell 0
    refine bodyPost_ret (v := .tuple #[.agg #[.slice ao zs.length cp], .int .i64 1]) (by simp [results, Tryz.results31, go_sem, q]) rfl ⟨_, zs, _, rfl, (O6.other b6 (by intro j n; cases j <;> simp) _).base hb1, hl, ⟨by omega, by omega⟩, k6.set (by simp) _⟩
  | false =>
    go_wp2_with fail
    have Cd := C6.kept (Below.refl _ w6).drew
    have xd := x6.kept (Below.refl _ w6).drew
    have bd := b6.kept (Below.refl _ w6).drew
    have Od := O6.kept (Below.refl _ w6).drew
    have Rd := R6.kept (Below.refl _ w6).drew
    have kd : Kept w w6.drew := k6.drew
    have q4 := x6.cell 0
    have hA := l3DrawOf_ok c a len cap z _ Cd w1.heap.size ro rp rs 5 Rd hcb (by omega)
    go_region_with (first | (go_at_call 44; refine hA.mono ?_; rintro e wz ⟨y, rfl, hy, hkz, Cz⟩; have x8 := xd.keeps hkz (by omega); have q6 := x8.cell 0; have b8 := bd.keeps hkz (by omega); have e6 := b8.cell 0; have f6 := b8.frozen 0))
    all_goals (
      have O8 := Od.keeps hkz hcb
      have k8 : Kept w wz := Below.trans kd (hkz.below (by omega) kd.size)
      have q := (b8.set1 (.slice ao zs.length cp)).cell 0
      go_wp2_with fail
      refine bodyPost_ret (v := .tuple #[.agg #[.slice ao zs.length cp], .int .i64 y]) (by simp [results, Tryz.results31, go_sem, q]) rfl ⟨_, zs, _, rfl, ?_, hl, hy, k8.set (by simp) _⟩
      exact (O8.other b8 (by intro j n; cases j <;> simp) _).base hb1)
set_option maxHeartbeats 8000000 in
set_option maxRecDepth 100000 in
theorem DrawLook_ok (a : Option Addr) (len cap : Nat) (z : Nat → Int) (w : World) (h : Src w.heap.size w a len z) :
    Calls Tryz.prog 29 #[.slice a len cap] w fun e w' => ∃ v zs x y, e = .returned (.tuple #[.agg #[v], .int .i64 x, .int .i64 y]) ∧ OwnI w' w.heap.size v zs ∧ zs.length ≤ 200 ∧ InB x ∧ InB y ∧ Kept w w' := by
  have b0 := Cells.new w 26 #[.slice none 0 0]
  have k0 : Kept w (w.alloc (.cells #[.slice none 0 0] 26)) := Kept.alloc (Below.refl _ _) _
  have h0 : Src (w.alloc (.cells #[.slice none 0 0] 26)).heap.size (w.alloc (.cells #[.slice none 0 0] 26)) a len z := h.below k0
  go_enter Tryz.func29, Tryz.ntmps29
  go_wp2_with fail
  refine (l5DrawThree_ok a len cap z _ h0).mono ?_
  rintro e w2 ⟨v, zs, x, y, u, rfl, hO, hl, hx, hy, hu, hk2⟩
  have hO2 := hO
  have b2 := b0.kept hk2
  have k2 := k0.trans hk2
  obtain ⟨ao, cp, rfl, _⟩ := hO
  have ka : Kept w2 (w2.alloc (.cells #[.slice ao zs.length cp] 26)) := Kept.alloc (Below.refl _ _) _
  have x4 := Cells.new w2 26 #[.slice ao zs.length cp]
  have b5 := b2.kept ka
  have q4 := x4.cell 0
  have e5 := b5.cell 0
  have f5 := b5.frozen 0
  have hb0 : w.heap.size ≤ (w.alloc (.cells #[.slice none 0 0] 26)).heap.size := by simp
  have O6 := ((hO2.kept ka).base hb0).other b5 (by intro j n; cases j <;> simp) (.slice ao zs.length cp)
  have k5 := k2.trans ka
  go_wp2_with fail
  have q := (b5.set1 (.slice ao zs.length cp)).cell 0
  refine bodyPost_ret (v := .tuple #[.agg #[.slice ao zs.length cp], .int .i64 x, .int .i64 y]) (by simp [results, Tryz.results29, go_sem, q]) rfl ⟨_, zs, x, y, rfl, O6, hl, hx, hy, k5.set (by simp) _⟩
set_option maxHeartbeats 8000000 in
set_option maxRecDepth 100000 in
theorem DrawPropSet_ok (a : Option Addr) (len cap : Nat) (z : Nat → Int) (w : World) (h : Src w.heap.size w a len z) :
    Calls Tryz.prog 18 #[.slice a len cap] w fun e w' => ∃ v zs x y u, e = .returned (.tuple #[.agg #[v], .int .i64 x, .int .i64 y, .int .i64 u]) ∧ OwnI w' w.heap.size v zs ∧ zs.length ≤ 200 ∧ InB x ∧ InB y ∧ InB u ∧ Kept w w' := by
  have b0 := Cells.new w 26 #[.slice none 0 0]
  have k0 : Kept w (w.alloc (.cells #[.slice none 0 0] 26)) := Kept.alloc (Below.refl _ _) _
  have h0 : Src (w.alloc (.cells #[.slice none 0 0] 26)).heap.size (w.alloc (.cells #[.slice none 0 0] 26)) a len z := h.below k0
  go_enter Tryz.func18, Tryz.ntmps18
  go_wp2_with fail
  refine (l5DrawThree_ok a len cap z _ h0).mono ?_
  rintro e w2 ⟨v, zs, x, y, u, rfl, hO, hl, hx, hy, hu, hk2⟩
  have hO2 := hO
  have b2 := b0.kept hk2
  have k2 := k0.trans hk2
  obtain ⟨ao, cp, rfl, _⟩ := hO
  have ka : Kept w2 (w2.alloc (.cells #[.slice ao zs.length cp] 26)) := Kept.alloc (Below.refl _ _) _
  have x4 := Cells.new w2 26 #[.slice ao zs.length cp]
  have b5 := b2.kept ka
  have q4 := x4.cell 0
  have e5 := b5.cell 0
  have f5 := b5.frozen 0
  have hb0 : w.heap.size ≤ (w.alloc (.cells #[.slice none 0 0] 26)).heap.size := by simp
  have O6 := ((hO2.kept ka).base hb0).other b5 (by intro j n; cases j <;> simp) (.slice ao zs.length cp)
  have k5 := k2.trans ka
  go_wp2_with fail
  have q := (b5.set1 (.slice ao zs.length cp)).cell 0
  refine bodyPost_ret (v := .tuple #[.agg #[.slice ao zs.length cp], .int .i64 x, .int .i64 y, .int .i64 u]) (by simp [results, Tryz.results18, go_sem, q]) rfl ⟨_, zs, x, y, u, rfl, O6, hl, hx, hy, hu, k5.set (by simp) _⟩
end Go.Proofs.YtpbafjcoomfooaaGreat
