/-
  The iterator over an object, its prototype, and so on (lineOf), called with whatever loop body that goes on or returns.
-/
import Derived.Test.YtlgaamhjpkkjmaaLookC
import Derived.Test.YtlgaamhjpkkjmaaHelpM
import Derived.Deep.RegionWith
namespace Go.Proofs.Ytlgaamhjpkkjmaa
open Go.RowKit Go.Shelf
attribute [local go_sem] Oper.semAt_some

theorem Ints.grownBy {W W' : World} {ao : Option Addr} {zs : List Int} {row : Option Nat} (h : Ints W ao zs) (hg : W.grownBy W' row) (hne : ∀ a, zs ≠ [] → ao = some a → some a.block ≠ row) : Ints W' ao zs := by
  refine ⟨h.1, ?_⟩
  rcases h.2 with h | ⟨b, off, e, hc⟩
  · exact .inl h
  · refine .inr ⟨b, off, e, fun j hj => ?_⟩
    have hlt := World.block_lt_of_cell? _ _ (hc j hj)
    rw [← hc j hj]
    exact World.cell?_of_block (w := W) (hg.block b hlt (hne _ (by intro h0; rw [h0] at hj; simp at hj) e))
theorem OwnC.cels {W : World} {base cc : Nat} {ca : Option Addr} {zs : List Int} {ps : List Nat} (h : OwnC W base (.slice ca ps.length cc) zs ps) : CelsAt W ca zs ps := by
  obtain ⟨_, _, e, _, h'⟩ := h.at
  cases e
  exact h'
theorem lineOf_ok (ao : Option Addr) (n cap : Nat) (obj : Int) (w : World) :
    Calls Try.prog 59 #[.slice ao n cap, .int .i64 obj] w fun e w' => e = .returned (.func (.func 92) #[] #[.pointer (some ⟨w.heap.size + 1, 0, none⟩), .pointer (some ⟨w.heap.size, 0, none⟩)]) ∧ w' = (w.alloc (.cells #[.slice ao n cap] 22)).alloc (.cells #[.int .i64 obj] 3) := by
  go_enter Try.func59, Try.ntmps59
  go_wp2
  go_ret
  exact ⟨by simp, rfl⟩
set_option maxHeartbeats 16000000 in
set_option maxRecDepth 100000 in
theorem lineOf1_in (n : Nat) (hn : 1 ≤ n) (l Bs Bo : Nat) (ao : Option Addr) (cap : Nat) (zs : List Int) (obj name : Int) (r : Loop) (W0 : World) (hl : zs.length ≤ 1048576) (hh : heapR zs = true) (h5 : obj % 8 = 5) (hv : leadsR zs obj 5 = true)
    (hI : Ints W0 ao zs) (hIl : ∀ a, zs ≠ [] → ao = some a → a.block ≠ l) (hBs : Cells W0 Bs 22 #[.slice ao zs.length cap]) (hBo : Cells W0 Bo 3 #[.int .i64 obj]) (hsl : Bs ≠ l) (hol : Bo ≠ l) (hrec : W0.heap[l]? = some (.loop r)) (Jx : Int → World → Prop)
    (hY : ∀ (W : World), W0.grownBy W (some l) → W.heap[l]? = some (.loop r) → ∀ (v : Int) (a : Nat) (ca : Option Addr) (cc : Nat) (ps : List Nat) (v' : Int), v % 8 = 5 → v / 8 = a → All zs (hz zs (a + 2)) ps v' → CelsAt W ca zs ps →
      YieldAt Fence.wide (n - 1) Try.prog l #[.agg #[.int .i64 (a : Int), .int .i64 (hz zs (a + 1)), .slice ca ps.length cc]] W fun e W' => (e = .returned (.bool true) ∧ hasO zs name v = none ∧ W'.heap[l]? = some (.loop r) ∧ W.grownBy W' (some l)) ∨ (e = .returned (.bool false) ∧ ∃ x, hasO zs name v = some x ∧ Jx x W')) :
    CallsIn Fence.wide n Try.prog 92 #[.func (.yield l) #[] #[], .pointer (some ⟨Bo, 0, none⟩), .pointer (some ⟨Bs, 0, none⟩)] W0 fun e W' => (∃ v, e = .returned v) ∧
      ((lookF zs name zs.length obj = none ∧ W'.heap[l]? = some (.loop r) ∧ W0.grownBy W' (some l)) ∨ ∃ x, lookF zs name zs.length obj = some x ∧ Jx x W') := by
  obtain ⟨i0, hi, hz0, hz1, hz2⟩ := info_parts infoI
  have co := hBo.cell 0
  have HY : Hid _ := hY
  have HH : Hid _ := hh
  have HI : Hid _ := hI
  have HS : Hid (obj = 1 ∨ (obj % 8 = 5 ∧ leadsR zs obj 5 = true)) := .inr ⟨h5, hv⟩
  clear hY hh hI h5 hv
  refine callsIn_of_wp Try.func92 rfl trivial ?_ rfl
  simp only [Try.ntmps92, List.size_toArray, List.length_cons, List.length_nil, Nat.reduceAdd, Nat.reduceSub, Array.replicate_succ, Array.replicate_zero, List.push_toArray, List.append_toArray, List.nil_append, List.cons_append]
  gi_wp2
  gi_loopw [4, 5] (fun met o wr => ∃ (vs : List Int) (v : Int), o = .int .i64 v ∧ OwnL wr W0.heap.size met vs ∧ Line zs obj vs v ∧ vs.Nodup ∧ (∀ x ∈ vs, hasO zs name x = none ∧ ∃ p : Nat, x = 8 * (p : Int) + 5 ∧ p < zs.length) ∧ (v = 1 ∨ (v % 8 = 5 ∧ leadsR zs v 5 = true)) ∧ W0.grownBy wr (some l) ∧ wr.heap[l]? = some (.loop r)) (fun met _ _ => zs.length + 1 - lenV met)
  case atStart => exact ⟨[], obj, rfl, ⟨by simp, World.ownsRow_nil _ _ _ _⟩, rfl, List.nodup_nil, by simp, HS.out, World.grownBy.refl _ _, hrec⟩
  case round =>
    obtain ⟨vs, v, rfl, hO, hL, hD, hA, hvo, hG, hr⟩ := hrel
    have hlen : vs.length ≤ zs.length := line_len hD (fun x hx => (hA x hx).2)
    have HL : Hid _ := hL
    have HD : Hid _ := hD
    have HA : Hid _ := hA
    have HG : Hid _ := hG
    have HR : Hid _ := hr
    obtain ⟨ma, mc, rfl, hMI⟩ := hO.ints
    have HO : Hid _ := hO
    clear hL hD hA hO co HS
    rcases hvo with rfl | ⟨h5, hv⟩
    · have hd : ((1 : Int) != 1) = false := by decide
      clear hG hr hMI
      gi_wp2
      refine ⟨trivial, ?_⟩
      gi_wp2
      go_end0
      refine ⟨⟨_, rfl⟩, .inl ⟨?_, HR.out, HG.out⟩⟩
      rw [show zs.length = vs.length + (zs.length - vs.length) by omega, HL.out.miss _ (fun x hx => (HA.out x hx).1)]
      exact lookF_no _ (by decide)
    · have hne : (v != 1) = true := by
        have : v ≠ 1 := by omega
        simpa using this
      have hCo := intContains_ok wr ma mc vs v hMI (by omega)
      by_cases hm : v ∈ vs
      · rw [decide_eq_true hm] at hCo
        have HM : Hid _ := hm
        clear hm hG hr
        gi_wp2_with (refine ⟨trivial, ?_⟩; gi_at_call 93; refine (callsIn_wide.2 hCo).mono ?_; rintro e w1 ⟨rfl, hk1⟩)
        go_end0
        refine ⟨⟨_, rfl⟩, .inl ⟨?_, (hk1.block l (Array.getElem?_eq_some_iff.1 HR.out).1).trans HR.out, grown_kept HG.out hk1⟩⟩
        rw [show zs.length = vs.length + (zs.length - vs.length) by omega, HL.out.miss _ (fun x hx => (HA.out x hx).1)]
        exact HL.out.circle HM.out (fun x hx => (HA.out x hx).1) _ _ HM.out
      · rw [decide_eq_false hm] at hCo
        have HM : Hid _ := hm
        obtain ⟨a, s, ha, hle, hs, _, hpr, hnx⟩ := obj_facts HH.out h5 hv
        have HX : Hid _ := hnx
        have HP : Hid _ := hpr
        have HV5 : Hid _ := h5
        have HVa : Hid _ := ha
        have hve : v = 8 * (a : Int) + 5 := by omega
        have HVE : Hid _ := hve
        have hNm : ∀ u : World, Calls Try.prog 39 #[.int .i64 v] u fun e w' => e = .returned (.int .i64 (a : Int)) ∧ u = w' := fun u => by have := impl_Num_ok v u (by omega) (by omega); rw [ha] at this; exact this
        clear hm hG hr hnx hpr h5 ha hve hv
        gi_wp2_with (refine ⟨trivial, ?_⟩; gi_at_call 93; refine (callsIn_wide.2 hCo).mono ?_; rintro e w1 ⟨rfl, hk1⟩)
        have zO : Kept w1 (w1.alloc (.cells #[.int .i64 0, .int .i64 0, .slice none 0 0] 67)).drew := (Kept.alloc (Below.refl _ _) _).drew
        have g1 : W0.grownBy w1 (some l) := grown_kept HG.out hk1
        have bs1 : Cells w1 Bs 22 #[.slice ao zs.length cap] := hBs.grown g1 (by intro e; cases e; exact hsl rfl)
        have cs1 := (bs1.kept (Below.refl _ w1).drew).cell 0
        have cs2 := (bs1.kept zO).cell 0
        have I1 : Ints w1 ao zs := Ints.grownBy HI.out g1 (fun b h1 h2 h3 => by cases h3; exact hIl b h1 h2 rfl)
        have HOA : Hid _ := fun (u : World) (hu : Kept w1 u) => objectAt_ok u ao cap zs a (I1.kept hu) hl HH.out (by omega) HX.out
        have xz : Cells (w1.alloc (.cells #[.int .i64 0, .int .i64 0, .slice none 0 0] 67)).drew w1.heap.size 67 #[.int .i64 0, .int .i64 0, .slice none 0 0] := (Cells.new w1 67 #[.int .i64 0, .int .i64 0, .slice none 0 0]).kept (Below.refl _ _).drew
        have zD : Kept w1 w1.drew := (Below.refl _ w1).drew
        refine wpIn_wide.2 ?_
        go_region_with (first | (go_at_call 39; refine (hNm _).mono ?_; rintro e wx ⟨rfl, rfl⟩) | (go_at_call 55; refine (HOA.out _ (by first | exact zD | exact zO)).mono ?_; rintro e w2 ⟨cs, ps, v', rfl, hOC, hAl, hk2⟩; obtain ⟨ca, cc, rfl, hcc, hAt⟩ := hOC.at; first | (have xz2 := xz.kept hk2; have d0 := xz2.cell 0; have d1 := xz2.cell 1; have d2 := xz2.cell 2; have f0 := xz2.frozen 0; have f1 := xz2.frozen 1; have f2 := xz2.frozen 2; clear cs1 cs2) | (have xy := Cells.new w2 67 #[.int .i64 0, .int .i64 0, .slice none 0 0]; have d0 := xy.cell 0; have d1 := xy.cell 1; have d2 := xy.cell 2; have f0 := xy.frozen 0; have f1 := xy.frozen 1; have f2 := xy.frozen 2; clear cs1 cs2)))
        all_goals (
          first
          | (obtain ⟨W3, hW3⟩ : ∃ W3, w2.alloc (.cells #[.int .i64 (a : Int), .int .i64 (hz zs (a + 1)), .slice ca ps.length cc] 67) = W3 := ⟨_, rfl⟩
             obtain ⟨B, hB⟩ : ∃ B, w2.heap.size = B := ⟨_, rfl⟩
             simp only [hW3, hB]
             have xB : Cells W3 B 67 #[.int .i64 (a : Int), .int .i64 (hz zs (a + 1)), .slice ca ps.length cc] := by rw [← hW3, ← hB]; exact Cells.new w2 _ _
             have cAt : CelsAt W3 ca zs ps := by rw [← hW3]; exact hAt.kept (Kept.alloc (Below.refl _ _) _)
             have k13 : Kept w1 W3 := by rw [← hW3]; exact Kept.alloc (zD.trans hk2) _
             have hB1 : w1.heap.size ≤ B := by rw [← hB]; exact (zD.trans hk2).size)
          | (obtain ⟨W3, hW3⟩ : ∃ W3, ((w2.setCell ⟨w1.heap.size, 0, none⟩ (.int .i64 (a : Int))).setCell ⟨w1.heap.size, 1, none⟩ (.int .i64 (hz zs (a + 1)))).setCell ⟨w1.heap.size, 2, none⟩ (.slice ca ps.length cc) = W3 := ⟨_, rfl⟩
             have xB' : Cells W3 w1.heap.size 67 #[.int .i64 (a : Int), .int .i64 (hz zs (a + 1)), .slice ca ps.length cc] := by rw [← hW3]; exact xz2.set3 _ _ _
             have cAt : CelsAt W3 ca zs ps := by rw [← hW3]; exact OwnC.cels (ownsRow_setCell_below (ownsRow_setCell_below (ownsRow_setCell_below hOC (by simp) _) (by simp) _) (by simp) _)
             have k13 : Kept w1 W3 := by rw [← hW3]; exact (((zO.trans hk2).set (by simp) _).set (by simp) _).set (by simp) _
             obtain ⟨B, hB⟩ : ∃ B, w1.heap.size = B := ⟨_, rfl⟩
             rw [hB] at xB'
             simp only [hW3]
             simp only [hB]
             have xB := xB'
             have hB1 : w1.heap.size ≤ B := by omega)
          clear hW3 hB d0 d1 d2 f0 f1 f2 hk2 hOC hAt
          have hll := (Array.getElem?_eq_some_iff.1 hrec).1
          have hl0 := Array.getElem?_eq_some_iff.1 HR.out |>.1
          have r1 := (hk1.block l hl0).trans HR.out
          have hs01 := g1.size
          have r3 := (k13.block l (by omega)).trans r1
          have g3 : W0.grownBy W3 (some l) := grown_kept g1 k13
          obtain ⟨fn', tm', as', bo', hy, hRd⟩ := HY.out W3 g3 r3 v a ca cc ps v' HV5.out HVa.out hAl cAt
          have d0 : W3.cell? ⟨B, 0, none⟩ = some (.int .i64 (a : Int)) := xB.cell 0
          have d1 : W3.cell? ⟨B, 1, none⟩ = some (.int .i64 (hz zs (a + 1))) := xB.cell 1
          have d2 : W3.cell? ⟨B, 2, none⟩ = some (.slice ca ps.length cc) := xB.cell 2
          have hps := hAl.len
          have hcnt : vs.length + 1 ≤ zs.length := by
            have := line_len (zs := zs) (vs := vs ++ [v]) (by rw [List.nodup_append]; exact ⟨HD.out, by simp, fun x hx y hy => by simp at hy; subst hy; intro e; subst e; exact HM.out hx⟩) (fun x hx => by rcases List.mem_append.1 hx with h | h; exact (HA.out x h).2; simp at h; subst h; exact ⟨a, HVE.out, by omega⟩)
            simpa using this
          gi_wp2
          refine hRd.mono ?_
          rintro e W4 (⟨rfl, hno, hl4, hg4⟩ | ⟨rfl, x, hx, hJx⟩)
          · have xB4 := xB.grown hg4 (by intro e; cases e; omega)
            have hOB := HO.out.2.lt
            have own3 := OwnL.kept (OwnL.kept HO.out hk1.grown (fun _ h => by cases h)) k13.grown (fun _ h => by cases h)
            have own4 := OwnL.kept own3 hg4 (fun k e j hj => by cases e; have := hOB j hj; omega)
            have hs4 := hg4.size
            have hs3 := k13.size
            have hs1 := hk1.size
            have e1 : W4.cell? ⟨B, 1, none⟩ = some (.int .i64 (hz zs (a + 1))) := xB4.cell 1
            clear hy hRd d0 d1 d2 hNm hCo
            gi_wp2_with (gi_at_builtin; refine wpListIn_append_own _ rfl _ _ 22 rfl W0.heap.size 3 i0 (.int .i64 0) 1 8 Try.underlying22 hi hz0 hz1 hz2 rfl (by decide) _ _ _ rfl (own4.2.alloc _) ⟨W4.heap.size, 0, none⟩ 1 1 [.int .i64 v] rfl rfl (cell_one_new _ _ _) (by simp [Value.oneCell']) (by unfold maxLen; omega) (by omega) (by simp; omega) ?_; intro mv W5 hown' hgrow _; obtain ⟨g', cap', rfl⟩ := ownsRow_succ hown'; have kb : ∀ k, k < W4.heap.size → (∀ j, (Value.slice ma vs.length mc).ownBlock = some j → j ≠ k) → W5.heap[k]? = W4.heap[k]? := fun k h1 h2 => (hgrow.block k (by simp; omega) (fun e => h2 k e.symm rfl)).trans (Below.heap_alloc _ _ _ h1); have xB5 : Cells W5 B 67 #[.int .i64 (a : Int), .int .i64 (hz zs (a + 1)), .slice ca ps.length cc] := (kb B xB4.lt (fun j hj e => by have := hOB j hj; omega)).trans xB4; have e5 : W5.cell? ⟨B, 1, none⟩ = some (.int .i64 (hz zs (a + 1))) := xB5.cell 1)
            go_roundw
            case rel =>
              have hsn := HL.out.snoc HV5.out
              rw [plc_is HVa.out] at hsn
              refine ⟨vs ++ [v], hz zs (a + 1), rfl, ⟨fun z hz' => ?_, by simpa using hown'⟩, hsn, ?_, ?_, ?_, ?_, ?_⟩
              · rcases List.mem_append.1 hz' with h | h
                · exact HO.out.1 z h
                · simp at h; subst h; have := HVE.out; omega
              · rw [List.nodup_append]
                exact ⟨HD.out, by simp, fun x hx y hy => by simp at hy; subst hy; intro e; subst e; exact HM.out hx⟩
              · intro x hx
                rcases List.mem_append.1 hx with h | h
                · exact HA.out x h
                · simp at h; subst h; exact ⟨hno, a, HVE.out, by omega⟩
              · rcases HP.out with h | ⟨h, h'⟩
                · exact .inl h
                · exact .inr ⟨h, by rw [leads_any (by omega) 5 0]; exact h'⟩
              · refine ⟨hgrow.os.trans (hg4.os.trans g3.os), hgrow.tape.trans (hg4.tape.trans g3.tape), hgrow.output.trans (hg4.output.trans g3.output), by have := hgrow.size; simp at this; omega, fun k hk hr => ?_⟩
                exact (kb k (by omega) (fun j hj e => by have := hOB j hj; omega)).trans ((hg4.block k (by omega) hr).trans (g3.block k hk hr))
              · exact (kb l (by omega) (fun j hj e => by have := hOB j hj; omega)).trans hl4
            case measure => simp only [lenV]; omega
          · clear hy hRd d0 d1 d2 hNm hCo
            gi_wp2
            refine bodyPost_ret (results_none rfl _ _ _) rfl ⟨⟨_, rfl⟩, .inr ⟨x, ?_, hJx⟩⟩
            rw [show zs.length = vs.length + ((zs.length - vs.length - 1) + 1) by omega, HL.out.miss _ (fun y hy => (HA.out y hy).1)]
            exact lookF_hit _ HV5.out hx)
end Go.Proofs.Ytlgaamhjpkkjmaa
