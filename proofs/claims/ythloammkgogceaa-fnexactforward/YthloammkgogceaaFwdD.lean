/-
  The contracts of impl.each at the method values place and moved, and of impl.Forward.
-/
import Derived.Test.YthloammkgogceaaFwdC
import Derived.Deep.RegionWith
namespace Go.Proofs.Ythloammkgogceaa
open Go.RowKit Go.Shelf
attribute [local go_sem] Oper.semAt_some

set_option maxHeartbeats 4000000 in
set_option maxRecDepth 100000 in
theorem each_place (w : World) (ro : Option Addr) (rc : Nat) (rs : List Int) (rv : Value) (f : Int → Int) (hR : Ints w ro rs) (hrl : rs.length ≤ 1048576) (hf : ∀ v ∈ rs, -9223372036854775808 ≤ f v ∧ f v ≤ 9223372036854775807)
    (hF : ∀ (u : World), Kept w u → ∀ v ∈ rs, Calls Try.prog 35 #[rv, .int .i64 v] u fun e w' => e = .returned (.int .i64 (f v)) ∧ Kept u w') :
    Calls Try.prog 34 #[.slice ro rs.length rc, .func (.func 35) #[rv] #[]] w fun e w' => ∃ v, e = .returned v ∧ OwnL w' w.heap.size v (rs.map f) ∧ Kept w w' := by
  obtain ⟨i0, hi, hz0, hz1, hz2⟩ := info_parts infoI
  have HF : Hid _ := hF
  have Hf : Hid _ := hf
  clear hF hf
  go_enter Try.func34, Try.ntmps34
  go_wp2_with fail
  go_loopw [5, 10] (fun tv iv wr => ∃ (k : Nat), iv = .int .i64 k ∧ k ≤ rs.length ∧ Hid (OwnL wr w.heap.size tv ((rs.take k).map f)) ∧ Hid (Kept w wr)) (fun _ i _ => rs.length - (intOf i).toNat)
  case atStart => exact ⟨0, rfl, Nat.zero_le _, ⟨by simp, ⟨by simp, .inl ⟨rfl, by simp⟩⟩⟩, Below.refl _ _⟩
  case round =>
    obtain ⟨k, rfl, hk, HO, HK⟩ := hrel
    by_cases hlt : k < rs.length
    · have hlt' : (k : Int) < (rs.length : Int) := by omega
      have hmem : hz rs k ∈ rs := by
        unfold hz
        rw [List.getElem?_eq_getElem hlt]
        simp
      have HN : Hid ((rs.take (k + 1)).map f = (rs.take k).map f ++ [f (hz rs k)]) := by
        rw [Hid, List.take_succ_eq_append_getElem hlt, List.map_append]
        simp [hz, List.getElem?_eq_getElem hlt]
      obtain ⟨bb, off, rfl, hc⟩ := (hR.kept HK.out).at (k := k) hlt
      have hck := hc k hlt
      have hCl := HF.out wr HK.out _ hmem
      have hfb := Hf.out _ hmem
      have hln : ((rs.take k).map f).length = k := by simp; omega
      have hlx : ((rs.take k).map f).length ≤ 1048576 := by omega
      have hws := HK.out.size
      have HLn : Hid _ := hln
      clear hc hmem hln
      go_wp2_with (first | (go_at_call 35; refine hCl.mono ?_; rintro e w3 ⟨rfl, hk3⟩; have O3 := HO.out.kept (row := none) hk3.grown (fun _ e => by cases e); have hs3 := hk3.size) | (at_builtin; refine wpList_append_own _ rfl _ _ 22 rfl w.heap.size 3 i0 (.int .i64 0) 1 8 Try.underlying22 hi hz0 hz1 hz2 rfl (by decide) _ _ _ rfl (O3.2.alloc _) ⟨w3.heap.size, 0, none⟩ 1 1 [.int .i64 (f (hz rs k))] rfl rfl (cell_one_new _ _ _) (by simp [Value.oneCell']) (by unfold maxLen; omega) (by omega) (by simp; omega) ?_; intro v' w4 hown hgrow _))
      have k4 : Kept w w4 := (((HK.out.trans hk3).alloc (.cells #[.int .i64 (f (hz rs k))] 3)).grownRow hgrow (fun j ej => (O3.2.lt j ej).1))
      have HO4 : Hid (OwnL w4 w.heap.size v' ((rs.take (k + 1)).map f)) := by
        rw [Hid, HN.out]
        refine ⟨fun z hz' => ?_, by simpa using hown⟩
        rcases List.mem_append.1 hz' with h | h
        · exact HO.out.1 z h
        · rw [List.mem_singleton.1 h]; exact hfb
      clear hown hgrow O3 HO
      go_roundw
      case rel => exact ⟨k + 1, by go_num, by omega, HO4.out, k4⟩
      case measure => simp [intOf]; omega
    · obtain rfl : k = rs.length := by omega
      have hlt' : ¬ (rs.length : Int) < (rs.length : Int) := by omega
      go_wp2
      go_ret
      exact ⟨_, rfl, by have := HO.out; rwa [List.take_length] at this, HK.out⟩
set_option maxHeartbeats 4000000 in
set_option maxRecDepth 100000 in
theorem each_moved (w : World) (ro : Option Addr) (rc : Nat) (rs : List Int) (rv : Value) (f : Int → Int) (hR : Ints w ro rs) (hrl : rs.length ≤ 1048576) (hf : ∀ v ∈ rs, -9223372036854775808 ≤ f v ∧ f v ≤ 9223372036854775807)
    (hF : ∀ (u : World), Kept w u → ∀ v ∈ rs, Calls Try.prog 38 #[rv, .int .i64 v] u fun e w' => e = .returned (.int .i64 (f v)) ∧ Kept u w') :
    Calls Try.prog 34 #[.slice ro rs.length rc, .func (.func 38) #[rv] #[]] w fun e w' => ∃ v, e = .returned v ∧ OwnL w' w.heap.size v (rs.map f) ∧ Kept w w' := by
  obtain ⟨i0, hi, hz0, hz1, hz2⟩ := info_parts infoI
  have HF : Hid _ := hF
  have Hf : Hid _ := hf
  clear hF hf
  go_enter Try.func34, Try.ntmps34
  go_wp2_with fail
  go_loopw [5, 10] (fun tv iv wr => ∃ (k : Nat), iv = .int .i64 k ∧ k ≤ rs.length ∧ Hid (OwnL wr w.heap.size tv ((rs.take k).map f)) ∧ Hid (Kept w wr)) (fun _ i _ => rs.length - (intOf i).toNat)
  case atStart => exact ⟨0, rfl, Nat.zero_le _, ⟨by simp, ⟨by simp, .inl ⟨rfl, by simp⟩⟩⟩, Below.refl _ _⟩
  case round =>
    obtain ⟨k, rfl, hk, HO, HK⟩ := hrel
    by_cases hlt : k < rs.length
    · have hlt' : (k : Int) < (rs.length : Int) := by omega
      have hmem : hz rs k ∈ rs := by
        unfold hz
        rw [List.getElem?_eq_getElem hlt]
        simp
      have HN : Hid ((rs.take (k + 1)).map f = (rs.take k).map f ++ [f (hz rs k)]) := by
        rw [Hid, List.take_succ_eq_append_getElem hlt, List.map_append]
        simp [hz, List.getElem?_eq_getElem hlt]
      obtain ⟨bb, off, rfl, hc⟩ := (hR.kept HK.out).at (k := k) hlt
      have hck := hc k hlt
      have hCl := HF.out wr HK.out _ hmem
      have hfb := Hf.out _ hmem
      have hln : ((rs.take k).map f).length = k := by simp; omega
      have hlx : ((rs.take k).map f).length ≤ 1048576 := by omega
      have hws := HK.out.size
      have HLn : Hid _ := hln
      clear hc hmem hln
      go_wp2_with (first | (go_at_call 38; refine hCl.mono ?_; rintro e w3 ⟨rfl, hk3⟩; have O3 := HO.out.kept (row := none) hk3.grown (fun _ e => by cases e); have hs3 := hk3.size) | (at_builtin; refine wpList_append_own _ rfl _ _ 22 rfl w.heap.size 3 i0 (.int .i64 0) 1 8 Try.underlying22 hi hz0 hz1 hz2 rfl (by decide) _ _ _ rfl (O3.2.alloc _) ⟨w3.heap.size, 0, none⟩ 1 1 [.int .i64 (f (hz rs k))] rfl rfl (cell_one_new _ _ _) (by simp [Value.oneCell']) (by unfold maxLen; omega) (by omega) (by simp; omega) ?_; intro v' w4 hown hgrow _))
      have k4 : Kept w w4 := (((HK.out.trans hk3).alloc (.cells #[.int .i64 (f (hz rs k))] 3)).grownRow hgrow (fun j ej => (O3.2.lt j ej).1))
      have HO4 : Hid (OwnL w4 w.heap.size v' ((rs.take (k + 1)).map f)) := by
        rw [Hid, HN.out]
        refine ⟨fun z hz' => ?_, by simpa using hown⟩
        rcases List.mem_append.1 hz' with h | h
        · exact HO.out.1 z h
        · rw [List.mem_singleton.1 h]; exact hfb
      clear hown hgrow O3 HO
      go_roundw
      case rel => exact ⟨k + 1, by go_num, by omega, HO4.out, k4⟩
      case measure => simp [intOf]; omega
    · obtain rfl : k = rs.length := by omega
      have hlt' : ¬ (rs.length : Int) < (rs.length : Int) := by omega
      go_wp2
      go_ret
      exact ⟨_, rfl, by have := HO.out; rwa [List.take_length] at this, HK.out⟩
theorem ats_bd {L : Nat} (l : List (BkOf L)) (hL : L ≤ 1048576) : ∀ z ∈ atsOf l, -9223372036854775808 ≤ z ∧ z ≤ 9223372036854775807 := by
  intro z hz
  obtain ⟨b, _, rfl⟩ := List.mem_map.1 hz
  have := b.2
  omega
set_option maxHeartbeats 8000000 in
set_option maxRecDepth 100000 in
theorem impl_Forward_ok (w : World) (ao : Option Addr) (cap : Nat) (zs : List Int) (hI : Ints w ao zs) (hl : zs.length ≤ 1048576) :
    Calls Try.prog 15 #[.agg #[.slice ao zs.length cap]] w fun e w' => ∃ v, e = .returned v ∧ OwnL w' w.heap.size v (fwdL zs) ∧ Kept w w' := by
  have hL : zs.length * 8 ≤ 140737488351232 := by omega
  obtain ⟨i0, hi, hz0, hz1, hz2⟩ := info_parts infoI
  have b0 := Cells.new w 27 #[.slice ao zs.length cap]
  have k0 : Kept w (w.alloc (.cells #[.slice ao zs.length cap] 27)) := Kept.alloc (Below.refl _ _) _
  have hF := forwardOf_ok _ ao cap zs (hI.kept k0) hl
  cases hh : heapR zs with
  | false =>
    have HE : Hid (fwdL zs = []) := by simp [Hid, fwdL, hh]
    have hF' := hF.mono (R' := fun e w' => e = .returned (.tuple #[fwV none 0 0 (.slice none 0 0) 0, .bool false]) ∧ Kept (w.alloc (.cells #[.slice ao zs.length cap] 27)) w') (fun e w' h => ⟨h.1 hh, h.2.2⟩)
    clear hh hF hI
    go_enter Try.func15, Try.ntmps15
    go_wp2_with (go_at_call 32; refine hF'.mono ?_; rintro e w1 ⟨rfl, hk1⟩)
    go_ret
    exact ⟨_, rfl, by rw [HE.out]; exact ⟨by simp, ⟨by simp, .inl ⟨rfl, rfl⟩⟩⟩, (k0.trans hk1).alloc _⟩
  | true =>
    have hok := heapR_slab hh
    have HE : Hid (fwdL zs = (atsOf (tkL (blocks zs))).map (fun a => hz (toL zs (tkL (blocks zs))) a.toNat)) := by
      simp only [Hid, fwdL, hh, if_true, atsOf, List.map_map]
      refine List.map_congr_left (fun b hb => ?_)
      simp only [Function.comp, Int.toNat_natCast]
      rw [toL_at hb]
    have hF' := hF.mono (R' := fun e w' => ∃ lo lc g, e = .returned (.tuple #[fwV lo zs.length lc (.slice (some ⟨g, 0, none⟩) zs.length zs.length) (szsB (tkL (blocks zs))), .bool true]) ∧ Ints w' lo (lyt zs) ∧ Row w' g (toL zs (tkL (blocks zs))) ∧ Kept (w.alloc (.cells #[.slice ao zs.length cap] 27)) w') (fun e w' h => by obtain ⟨lo, lc, g, h1, h2, h3⟩ := h.2.1 hh; exact ⟨lo, lc, g, h1, h2, h3, h.2.2⟩)
    have hcnt : (tkL (blocks zs)).length ≤ zs.length := by
      have h1 := List.length_filter_le (fun b : BkOf zs.length => !decide (b.1.kind = 0)) (blocks zs)
      have h2 := blocks_count zs
      have h3 : (tkL (blocks zs)).length ≤ (blocks zs).length := h1
      omega
    have hlen := slabOk_len hok
    clear hh hF hok
    refine (callsIn_wide (n := 9)).1 ?_
    refine callsIn_of_wp_marks Try.func15 rfl trivial ?_ rfl
    simp only [Try.ntmps15, List.size_toArray, List.length_cons, List.length_nil, Nat.reduceAdd, Nat.reduceSub, Array.replicate_succ, Array.replicate_zero, List.push_toArray, List.append_toArray, List.nil_append, List.cons_append]
    refine wpIn_wide.2 ?_
    go_wp2_with fail
    refine hF'.mono ?_
    rintro e w1 ⟨lo, lc, g, rfl, hLy, hR, hk1⟩
    obtain ⟨en, hen⟩ : ∃ en, szsB (tkL (blocks zs)) = en := ⟨_, rfl⟩
    simp only [hen]
    have x1 := ((b0.kept hk1).alloc (.cells #[.slice lo zs.length lc, .slice (some ⟨g, 0, none⟩) zs.length zs.length, .int .i64 (en : Nat)] 48)).alloc (.cells #[.slice none 0 0] 22)
    have cx := x1.cell 0
    have lx := (b0.kept hk1).lt
    go_wp2_with (go_at_call 33; refine (takenOf_ok _ _ _ _).mono ?_; rintro e w5 ⟨rfl, rfl⟩)
    have xf := ((Cells.new w1 48 #[.slice lo zs.length lc, .slice (some ⟨g, 0, none⟩) zs.length zs.length, .int .i64 (en : Nat)]).alloc (.cells #[.slice none 0 0] 22)).alloc (.cells #[.slice ao zs.length cap] 22)
    have xp := (Cells.new (w1.alloc (.cells #[.slice lo zs.length lc, .slice (some ⟨g, 0, none⟩) zs.length zs.length, .int .i64 (en : Nat)] 48)) 22 #[.slice none 0 0]).alloc (.cells #[.slice ao zs.length cap] 22)
    have bB := Cells.new ((w1.alloc (.cells #[.slice lo zs.length lc, .slice (some ⟨g, 0, none⟩) zs.length zs.length, .int .i64 (en : Nat)] 48)).alloc (.cells #[.slice none 0 0] 22)) 22 #[.slice ao zs.length cap]
    have ka : Kept w1 (((w1.alloc (.cells #[.slice lo zs.length lc, .slice (some ⟨g, 0, none⟩) zs.length zs.length, .int .i64 (en : Nat)] 48)).alloc (.cells #[.slice none 0 0] 22)).alloc (.cells #[.slice ao zs.length cap] 22)) := ((Kept.alloc (Below.refl _ _) _).alloc _).alloc _
    have hsz : (((w1.alloc (.cells #[.slice lo zs.length lc, .slice (some ⟨g, 0, none⟩) zs.length zs.length, .int .i64 (en : Nat)] 48)).alloc (.cells #[.slice none 0 0] 22)).alloc (.cells #[.slice ao zs.length cap] 22)).heap.size = w1.heap.size + 3 := by simp
    simp only [World.size_alloc] at bB xp
    have hLy2 := hLy.kept ka
    have hR2 := hR.kept ka
    have hgl := hR.lt
    have hll : ∀ a, lyt zs ≠ [] → lo = some a → a.block < w1.heap.size := fun a h e => hLy.lt h e
    have k2 := (k0.trans hk1).trans ka
    have hs1 := (k0.trans hk1).size
    obtain ⟨B, hB⟩ : ∃ B, w1.heap.size = B := ⟨_, rfl⟩
    obtain ⟨W0, hW0⟩ : ∃ W0, ((w1.alloc (.cells #[.slice lo zs.length lc, .slice (some ⟨g, 0, none⟩) zs.length zs.length, .int .i64 (en : Nat)] 48)).alloc (.cells #[.slice none 0 0] 22)).alloc (.cells #[.slice ao zs.length cap] 22) = W0 := ⟨_, rfl⟩
    simp only [hB] at xf xp bB hsz hgl hll lx hs1 ⊢
    rw [hW0] at xf xp bB hsz hLy2 hR2 k2 ⊢
    clear hW0 hB hLy hR b0 k0 hk1 ka x1 cx hF'
    refine (wpIn_wide (n := 9)).1 ?_
    refine range_tells (X := fun k => k = B + 1) (nI := W0.heap.size) (l0 := tkL (blocks zs)) (n := 9) (by omega) rfl (enters_of Try.func54 (by kernel_rfl) rfl) (by simp) (by simp) (by decide)
      (takenOf_tells (9 - 1) (by omega) (B + 1 + 1) (B + 2) W0.heap.size W0.heap.size _ ao cap zs hL (fun a h e => ⟨by have := hI.lt h e; omega, by have := hI.lt h e; omega⟩) (by intro k h; omega) W0 (by omega) (Nat.le_refl _) bB (hI.kept k2))
      (fun pre W => (∃ v, Boxed W (B + 1) 22 v ∧ W.ownsRow W0.heap.size 3 1 v (atsOf pre).length ((atsOf pre).map (Value.int .i64)) ∧ True) ∧ (Below w.heap.size w W ∧ KeepX (fun k => k = B + 1) W0.heap.size W0 W))
      ?oi ⟨⟨.slice none 0 0, xp, by simpa [atsOf] using World.ownsRow_nil _ _ _ _, trivial⟩, k2, KeepX.of (Below.refl _ _)⟩ ?body ?done
    case oi => exact OwnFrom.and (Own.from (holdsRow_own W0.heap.size (B + 1) 22 3 1 (fun pre => (atsOf pre).length) (fun pre => (atsOf pre).map (Value.int .i64)) (fun _ _ => True)) _) (OwnFrom.and (ownFrom_below (Nat.le_refl _) (by omega)) (KeepX.own (Nat.le_refl _)))
    case body =>
      rintro l pre x W Bx hBx bX ⟨⟨v, hv, hrow, _⟩, hB1, hK1⟩ hpre
      have hx := x.2
      have c0 := bX.cell 0
      have lX := bX.lt
      have e1 := hv.cell
      have f1 := hv.frozen
      have l1 := hv.lt
      have hal : (atsOf pre).length ≤ 2000 := by
        rw [atsOf_len]
        have := hpre.length_le
        simp at this
        omega
      simp only [List.setIfInBounds_toArray, List.set_cons_succ, List.set_cons_zero]
      gi_wp2_with (gi_at_builtin; refine wpListIn_append_own _ rfl _ _ 22 rfl W0.heap.size 3 i0 (.int .i64 0) 1 8 Try.underlying22 hi hz0 hz1 hz2 rfl (by decide) _ _ _ rfl (hrow.alloc _) ⟨W.heap.size, 0, none⟩ 1 1 [.int .i64 (x.1.at' : Nat)] rfl rfl (cell_one_new _ _ _) (by simp [Value.oneCell']) (by unfold maxLen; omega) (by omega) (by simp; omega) ?_; intro v' w1' hown' hgrow _; obtain ⟨g', cap', rfl⟩ := ownsRow_succ hown'; obtain ⟨hv1, hv2, hr2, hk2, hb2, hx2⟩ := append_box (nw := w.heap.size) hv (by decide) hrow (by omega) (by omega) (by omega) hown' hgrow; have hc1 := hv1.cell; have hf1 := hv1.frozen)
      rw [hsz] at hx2 hK1
      exact ⟨hk2.from _, hx2, ⟨_, hv2, by rw [hsz] at hr2; simpa [atsOf_snoc] using hr2⟩, hB1.trans hb2, hK1.t hx2⟩
    case done =>
      rintro D W hD ⟨⟨v, hv, hrow, _⟩, hB1, hK1⟩ hK
      have hO : OwnL W W0.heap.size v (atsOf (tkL (blocks zs))) := ⟨atsOf_bd hL _, hrow⟩
      obtain ⟨la, lc2, rfl, hPI⟩ := hO.ints
      have yf := xf.keptX hK1 (by omega) (by omega)
      have e1 := hv.cell
      have f0 := yf.cell 0
      have f1 := yf.cell 1
      have f2 := yf.cell 2
      have rW : Row W g (toL zs (tkL (blocks zs))) := by
        obtain ⟨q1, cur, q2, q3⟩ := hR2
        exact ⟨q1, cur, hK1.2 _ _ q2 rfl (by omega) (fun h => by omega), q3⟩
      have hEa := each_place W la lc2 (atsOf (tkL (blocks zs))) (fwV lo zs.length lc (.slice (some ⟨g, 0, none⟩) zs.length zs.length) en) (fun a => hz (toL zs (tkL (blocks zs))) a.toNat) hPI (by rw [atsOf_len]; omega) (fun v hv => by
          obtain ⟨b, hb, rfl⟩ := List.mem_map.1 hv
          simp only [Int.toNat_natCast]
          exact rW.ints.bd _) (fun u hu v hv => by
          obtain ⟨b, hb, rfl⟩ := List.mem_map.1 hv
          have hb2 := b.2
          have := place_ok u lo zs.length lc g zs.length en b.1.at' _ (rW.kept hu) (by rw [toL_len]; omega)
          rw [toL_len] at this
          simpa only [Int.toNat_natCast] using this)
      clear hO hrow hPI rW hv
      go_wp2_with (go_at_call 34; refine hEa.mono ?_; rintro e w5 ⟨v5, rfl, o5, hk5⟩)
      have hK5 := (hk5.block D (Array.getElem?_eq_some_iff.1 hK).1).trans hK
      refine ⟨by simp, .inl ⟨_, _, rfl, run_takeDeferred hK5, ?_⟩⟩
      refine ⟨_, results_tmp rfl _ _ _, v5, rfl, ?_, (hB1.trans (hk5.mono hB1.size)).trans (belowK_b (w := w) (Nat.le_refl _) _ D _ _ (by omega) hK5 rfl rfl)⟩
      rw [HE.out]
      exact ⟨o5.1, ownsRow_base (ownsRow_putObj o5.2 _ hK5 rfl) (by have := hB1.size; omega)⟩
end Go.Proofs.Ythloammkgogceaa
