/-
  The roots of a machine (chapter 17): slices.Clone of integers, impl.Roots, spec.Roots.
-/
import Derived.Test.YtieapcobidejpaaMchP
import Derived.Test.YtieapcobidejpaaHelpO
import Derived.Maps.AppendAt
import Derived.Laws.AppendOwnNone
import Derived.Deep.RegionWith
import Derived.Deep.CutRange
import Derived.WalkKit
namespace Go.Proofs.Ytieapcobidejpaa
open Go.RowKit
set_option linter.unusedSimpArgs false
set_option linter.unusedVariables false
/-- The roots: the stack, and then the scopes of all frames. -/
def rootsM (m : Mch) : List Int := m.ks ++ m.fs.map (fun s => s.2.2)
theorem _root_.Go.World.ownsRow.base' {W : World} {b b' : Nat} {e : TypeId} {size : Nat} {v : Value} {n : Nat} {xs : List Value} (hb : b' ≤ b) (h : W.ownsRow b e size v n xs) : W.ownsRow b' e size v n xs := by
  obtain ⟨h1, h2⟩ := h
  refine ⟨h1, h2.imp id ?_⟩
  rintro ⟨g, cap, cur, e1, e2, e3⟩
  exact ⟨g, cap, cur, e1, Nat.le_trans hb e2, e3⟩
theorem Ints.news {w : World} {ad : Addr} {l : List Int} (hI : Ints w (some ad) l) : ∀ (j : Nat) (u : Value), (l.map (Value.int .i64))[j]? = some u → w.cell? (ad.add j) = some u := by
  intro j u hu
  rw [List.getElem?_map] at hu
  by_cases hj : j < l.length
  · rcases hI.2 with h | ⟨b, off, e, hc⟩
    · subst h; simp at hj
    · cases e
      rw [List.getElem?_eq_getElem hj] at hu
      simp only [Option.map_some, Option.some.injEq] at hu
      rw [Addr.add_lit, hc j hj, ← hu]
      simp [hz, List.getElem?_eq_getElem hj]
  · rw [List.getElem?_eq_none (by omega)] at hu
    cases hu
theorem run_eql_ints_nil (W : World) (a : Option Addr) (l c : Nat) : (binOp .eql 26 (.slice a l c) (.slice none 0 0)).run Try.prog W = .ok (.bool a.isNone) W := by
  simp [binOp, run_equal_slice_nil (P := Try.prog) W 26 3 a l c Try.underlying26]
attribute [local go_sem] run_eql_ints_nil
set_option maxHeartbeats 8000000 in
set_option maxRecDepth 100000 in
theorem cloneI_ok (w : World) (ao : Option Addr) (cap : Nat) (l : List Int) (hI : Ints w ao l) (hl : l.length ≤ 1048576) :
    Calls Try.prog 25 #[.slice ao l.length cap] w fun e w' => ∃ v, e = .returned v ∧ OwnL w' w.heap.size v l ∧ Kept w w' := by
  obtain ⟨i0, hi, hz0, hz1, hz2⟩ := info_parts infoI
  have HB : Hid _ := hI.1
  cases ao with
  | none =>
    have e0 : l = [] := by
      rcases hI.2 with h | ⟨b, off, e, _⟩
      · exact h
      · cases e
    subst e0
    clear hI
    go_enter Try.func25, Try.ntmps25
    go_wp2_with fail
    go_ret
    exact ⟨_, rfl, ⟨by simp, World.ownsRow_nil _ _ _ _⟩, Below.refl _ _⟩
  | some ad =>
    have hrow : (w.alloc (.cells #[] 3)).ownsRow w.heap.size 3 1 (.slice (some ⟨w.heap.size, 0, none⟩) 0 0) 0 [] := ⟨rfl, .inr ⟨w.heap.size, 0, #[], rfl, Nat.le_refl _, heap_alloc_new w _, Nat.le_refl _, by unfold maxLen; omega, rfl, rfl⟩⟩
    have hcell := (hI.kept (Kept.alloc (Below.refl _ w) (.cells #[] 3))).news
    clear hI
    go_enter Try.func25, Try.ntmps25
    go_wp2_with (at_builtin; refine wpList_append_own _ rfl _ _ 26 rfl w.heap.size 3 i0 (.int .i64 0) 1 8 Try.underlying26 hi hz0 hz1 hz2 rfl (by decide) _ _ _ rfl hrow ad l.length cap (l.map (Value.int .i64)) rfl (by simp) hcell (by intro u hu; obtain ⟨z, _, rfl⟩ := List.mem_map.1 hu; rfl) (by unfold maxLen; omega) (by omega) (by simp) ?_; intro v' w5 hown' hgrow _)
    go_ret
    refine ⟨_, rfl, ⟨HB.out, by simpa using hown'⟩, ?_⟩
    exact (Kept.alloc (Below.refl _ w) (.cells #[] 3)).grownRow hgrow (fun j ej => (hrow.lt j ej).1)
set_option maxHeartbeats 8000000 in
set_option maxRecDepth 100000 in
theorem impl_Roots_ok (w : World) (h : MchH) (m : Mch) (hK : Ints w h.ka m.ks) (hF : StpsA w h.fa m.fs) (hkl : m.ks.length ≤ 1048576) (hfl : m.fs.length ≤ 1048576) (hB : ∀ s ∈ m.fs, -9223372036854775808 ≤ s.2.2 ∧ s.2.2 ≤ 9223372036854775807) :
    Calls Try.prog 7 #[.agg (mchC h m)] w fun e w' => ∃ v, e = .returned v ∧ OwnL w' w.heap.size v (rootsM m) ∧ Kept w w' := by
  obtain ⟨i0, hi, hz0, hz1, hz2⟩ := info_parts infoI
  obtain ⟨W0, hW0⟩ : ∃ W0, w.alloc (.cells (mchC h m) 43) = W0 := ⟨_, rfl⟩
  have X0 : Hid (Cells W0 w.heap.size 43 (mchC h m)) := hW0 ▸ Cells.new w 43 (mchC h m)
  have k0 : Kept w W0 := hW0 ▸ Kept.alloc (Below.refl _ _) _
  have hs0 : W0.heap.size = w.heap.size + 1 := by rw [← hW0]; simp
  have hC := cloneI_ok W0 h.ka h.kc m.ks (hK.kept k0) hkl
  have HF : Hid _ := hF
  have HB : Hid _ := hB
  have HK0 : Hid (Kept w W0) := k0
  have HS0 : Hid (W0.heap.size = w.heap.size + 1) := hs0
  have a8 := X0.out.m8
  clear hK hF hB k0 hs0
  go_enter Try.func7, Try.ntmps7
  go_upto_region 1 with (fail)
  try simp only [hW0]
  clear hW0
  go_wp2_with fail
  refine hC.mono ?_
  rintro e w1 ⟨v1, rfl, O1, k1⟩
  clear hC a8
  have X1 := X0.out.kept k1
  have a7 := X1.m7
  have HO1 : Hid (OwnL w1 W0.heap.size v1 (m.ks ++ (m.fs.take 0).map (fun s => s.2.2))) := by
    rw [Hid]
    simp only [List.take_zero, List.map_nil, List.append_nil]
    exact O1
  have HK1 : Hid (Kept W0 w1) := k1
  clear X1 k1 O1
  go_wp2_with fail
  go_loopw [3, 12] (fun tv iv wr => ∃ (k : Nat), iv = .int .i64 k ∧ k ≤ m.fs.length ∧ Hid (OwnL wr W0.heap.size tv (m.ks ++ (m.fs.take k).map (fun s => s.2.2))) ∧ Hid (Kept W0 wr)) (fun _ i _ => m.fs.length - (intOf i).toNat)
  case atStart => exact ⟨0, rfl, Nat.zero_le _, HO1.out, HK1.out⟩
  case round =>
    obtain ⟨k, rfl, hk, HO, HK⟩ := hrel
    by_cases hlt : k < m.fs.length
    · have hlt' : (k : Int) < (m.fs.length : Int) := by omega
      obtain ⟨x, hx⟩ : ∃ x, m.fs[k]? = some x := ⟨m.fs[k], List.getElem?_eq_getElem hlt⟩
      obtain ⟨L, hL⟩ : ∃ L, m.ks ++ (m.fs.take k).map (fun s => s.2.2) = L := ⟨_, rfl⟩
      have HN : Hid (m.ks ++ (m.fs.take (k + 1)).map (fun s => s.2.2) = L ++ [x.2.2]) := by
        obtain ⟨h1, h2⟩ := List.getElem?_eq_some_iff.1 hx
        rw [Hid, List.take_succ_eq_append_getElem hlt, List.map_append, ← List.append_assoc, hL]
        simp [h2]
      have hfb := HB.out x (List.mem_of_getElem? hx)
      obtain ⟨b, off, hfa, g0, g1, g2⟩ := (StpsA.kept HF.out (HK0.out.trans HK.out)) k x hx
      have hln : L.length = m.ks.length + k := by rw [← hL]; simp; omega
      have hlx : L.length ≤ 2097152 := by omega
      rw [hL] at HO
      have hws := HK.out.size
      have HLn : Hid _ := hln
      have HFa : Hid _ := hfa
      have O3 : OwnL (wr.alloc (.cells #[.int .i64 x.1, .int .i64 x.2.1, .int .i64 x.2.2] 56)) W0.heap.size _ L := ⟨HO.out.1, HO.out.2.alloc _⟩
      clear hln hx hL
      rw [hfa]
      go_wp2_with (at_builtin; refine wpList_append_own _ rfl _ _ 26 rfl W0.heap.size 3 i0 (.int .i64 0) 1 8 Try.underlying26 hi hz0 hz1 hz2 rfl (by decide) _ _ _ rfl (O3.2.alloc _) ⟨wr.heap.size + 1, 0, none⟩ 1 1 [.int .i64 x.2.2] rfl rfl (by simpa using cell_one_new (wr.alloc (.cells #[.int .i64 x.1, .int .i64 x.2.1, .int .i64 x.2.2] 56)) (.int .i64 x.2.2) 3) (by simp [Value.oneCell']) (by unfold maxLen; omega) (by omega) (by simp; omega) ?_; intro v' w4 hown hgrow _)
      have k4 : Kept W0 w4 := (((HK.out.alloc (.cells #[.int .i64 x.1, .int .i64 x.2.1, .int .i64 x.2.2] 56)).alloc (.cells #[.int .i64 x.2.2] 3)).grownRow hgrow (fun j ej => (O3.2.lt j ej).1))
      have HO4 : Hid (OwnL w4 W0.heap.size v' (m.ks ++ (m.fs.take (k + 1)).map (fun s => s.2.2))) := by
        rw [Hid, HN.out]
        refine ⟨fun z hz' => ?_, by simpa using hown⟩
        rcases List.mem_append.1 hz' with h | h
        · exact HO.out.1 z h
        · rw [List.mem_singleton.1 h]; exact hfb
      clear hown hgrow O3 HO
      go_roundw
      case rel => exact ⟨k + 1, by go_num, by omega, HO4.out, k4⟩
      case measure => simp [intOf]; omega
    · obtain rfl : k = m.fs.length := by omega
      have hlt' : ¬ (m.fs.length : Int) < (m.fs.length : Int) := by omega
      go_wp2_with fail
      go_ret
      refine ⟨_, rfl, ?_, HK0.out.trans HK.out⟩
      have := HO.out
      rw [List.take_length] at this
      exact ⟨this.1, World.ownsRow.base' (by have := HS0.out; omega) this.2⟩
set_option maxHeartbeats 8000000 in
set_option maxRecDepth 100000 in
theorem spec_Roots_ok (w : World) (h : MchH) (m : Mch) (hK : Ints w h.ka m.ks) (hF : StpsA w h.fa m.fs) (hkl : m.ks.length ≤ 1048576) (hfl : m.fs.length ≤ 1048576) (hB : ∀ s ∈ m.fs, -9223372036854775808 ≤ s.2.2 ∧ s.2.2 ≤ 9223372036854775807) (hkn : h.ka ≠ none) :
    Calls Try.prog 5 #[.agg (mchC h m)] w fun e w' => ∃ v, e = .returned v ∧ OwnL w' w.heap.size v (rootsM m) ∧ Kept w w' := by
  obtain ⟨i0, hi, hz0, hz1, hz2⟩ := info_parts infoI
  obtain ⟨ad, had⟩ : ∃ ad, h.ka = some ad := Option.ne_none_iff_exists'.1 hkn
  obtain ⟨W0, hW0⟩ : ∃ W0, w.alloc (.cells (mchC h m) 43) = W0 := ⟨_, rfl⟩
  have X0 : Hid (Cells W0 w.heap.size 43 (mchC h m)) := hW0 ▸ Cells.new w 43 (mchC h m)
  have k0 : Kept w W0 := hW0 ▸ Kept.alloc (Below.refl _ _) _
  have hs0 : W0.heap.size = w.heap.size + 1 := by rw [← hW0]; simp
  have hrow : (W0.alloc (.cells #[] 3)).ownsRow W0.heap.size 3 1 (.slice (some ⟨w.heap.size + 1, 0, none⟩) 0 0) 0 [] := ⟨rfl, .inr ⟨w.heap.size + 1, 0, #[], rfl, by omega, by rw [← hs0]; exact heap_alloc_new W0 _, Nat.le_refl _, by unfold maxLen; omega, rfl, rfl⟩⟩
  have hcell := ((had ▸ hK : Ints w (some ad) m.ks).kept (k0.alloc (.cells #[] 3))).news
  have HKb : Hid _ := hK.1
  have HF : Hid _ := hF
  have HB : Hid _ := hB
  have HK0 : Hid (Kept w W0) := k0
  have HS0 : Hid (W0.heap.size = w.heap.size + 1) := hs0
  have a8 : (W0.alloc (.cells #[] 3)).cell? ⟨w.heap.size, 8, none⟩ = some (.slice (some ad) m.ks.length h.kc) := by rw [← had]; exact (X0.out.alloc _).m8
  clear hK hF hB k0 hkn
  go_enter Try.func5, Try.ntmps5
  go_upto_region 1 with (fail)
  try simp only [hW0]
  clear hW0
  go_wp2_with (at_builtin; go_loud (refine wpList_append_own _ rfl _ _ 26 rfl W0.heap.size 3 i0 (.int .i64 0) 1 8 Try.underlying26 hi hz0 hz1 hz2 rfl (by decide) _ _ _ rfl hrow ad m.ks.length h.kc (m.ks.map (Value.int .i64)) rfl (by simp) hcell (by intro u hu; obtain ⟨z, _, rfl⟩ := List.mem_map.1 hu; rfl) (by unfold maxLen; omega) (by omega) (by simp) ?_; intro v1 w1 hown1 hgrow1 _))
  have HK1 : Hid (Kept W0 w1) := (Kept.alloc (Below.refl _ W0) (.cells #[] 3)).grownRow hgrow1 (fun j ej => (hrow.lt j ej).1)
  have HO1 : Hid (OwnL w1 W0.heap.size v1 (m.ks ++ (m.fs.take 0).map (fun s => s.2.2))) := by
    rw [Hid]
    simp only [List.take_zero, List.map_nil, List.append_nil]
    exact ⟨HKb.out, by simpa using hown1⟩
  clear hown1 hgrow1 hrow hcell a8 hs0
  go_wp2_with fail
  go_loopw [3, 4] (fun tv iv wr => ∃ (k : Nat), iv = .int .i64 k ∧ k ≤ m.fs.length ∧ Hid (OwnL wr W0.heap.size tv (m.ks ++ (m.fs.take k).map (fun s => s.2.2))) ∧ Hid (Kept W0 wr)) (fun _ i _ => m.fs.length - (intOf i).toNat)
  case atStart => exact ⟨0, rfl, Nat.zero_le _, HO1.out, HK1.out⟩
  case round =>
    obtain ⟨k, rfl, hk, HO, HK⟩ := hrel
    have a7 := (X0.out.kept HK.out).m7
    by_cases hlt : k < m.fs.length
    · have hlt' : (k : Int) < (m.fs.length : Int) := by omega
      obtain ⟨x, hx⟩ : ∃ x, m.fs[k]? = some x := ⟨m.fs[k], List.getElem?_eq_getElem hlt⟩
      obtain ⟨L, hL⟩ : ∃ L, m.ks ++ (m.fs.take k).map (fun s => s.2.2) = L := ⟨_, rfl⟩
      have HN : Hid (m.ks ++ (m.fs.take (k + 1)).map (fun s => s.2.2) = L ++ [x.2.2]) := by
        obtain ⟨h1, h2⟩ := List.getElem?_eq_some_iff.1 hx
        rw [Hid, List.take_succ_eq_append_getElem hlt, List.map_append, ← List.append_assoc, hL]
        simp [h2]
      have hfb := HB.out x (List.mem_of_getElem? hx)
      obtain ⟨b, off, hfa, g0, g1, g2⟩ := (StpsA.kept HF.out (HK0.out.trans HK.out)) k x hx
      have hln : L.length = m.ks.length + k := by rw [← hL]; simp; omega
      have hlx : L.length ≤ 2097152 := by omega
      rw [hL] at HO
      have hws := HK.out.size
      have HLn : Hid _ := hln
      have O3 := HO.out
      rw [hfa] at a7
      clear hln hx hL
      go_wp2_with (at_builtin; refine wpList_append_own _ rfl _ _ 26 rfl W0.heap.size 3 i0 (.int .i64 0) 1 8 Try.underlying26 hi hz0 hz1 hz2 rfl (by decide) _ _ _ rfl (O3.2.alloc _) ⟨wr.heap.size, 0, none⟩ 1 1 [.int .i64 x.2.2] rfl rfl (cell_one_new _ _ _) (by simp [Value.oneCell']) (by unfold maxLen; omega) (by omega) (by simp; omega) ?_; intro v' w4 hown hgrow _)
      have k4 : Kept W0 w4 := ((HK.out.alloc (.cells #[.int .i64 x.2.2] 3)).grownRow hgrow (fun j ej => (O3.2.lt j ej).1))
      have HO4 : Hid (OwnL w4 W0.heap.size v' (m.ks ++ (m.fs.take (k + 1)).map (fun s => s.2.2))) := by
        rw [Hid, HN.out]
        refine ⟨fun z hz' => ?_, by simpa using hown⟩
        rcases List.mem_append.1 hz' with h | h
        · exact HO.out.1 z h
        · rw [List.mem_singleton.1 h]; exact hfb
      clear hown hgrow O3 HO
      go_roundw
      case rel => exact ⟨k + 1, by go_num, by omega, HO4.out, k4⟩
      case measure => simp [intOf]; omega
    · obtain rfl : k = m.fs.length := by omega
      have hlt' : ¬ (m.fs.length : Int) < (m.fs.length : Int) := by omega
      go_wp2_with fail
      go_ret
      refine ⟨_, rfl, ?_, HK0.out.trans HK.out⟩
      have := HO.out
      rw [List.take_length] at this
      exact ⟨this.1, World.ownsRow.base' (by have := HS0.out; omega) this.2⟩
end Go.Proofs.Ytieapcobidejpaa
