/-
  A frame that is right (chapter 17): impl.frameOk, and the first frame that is not.
  The roots of a machine (chapter 17): slices.Clone of integers, impl.Roots, spec.Roots.
  Whether a machine is right (chapter 17): impl.MachineOk.
  Whether the roots of a machine are held (chapter 17): impl.holdsRoots.
-/
import Derived.BigQuiet
import Derived.WalkKit
import Derived.Deep.CutRange
import Derived.Deep.RegionWith
import Derived.Maps.AppendAt
import Derived.Laws.AppendOwnNone
import Derived.Test.YtgempjjnfpmndaaGreatDoorGrpMp
import Derived.Test.YtgempjjnfpmndaaGreatDoorVal
import Derived.Test.YtgempjjnfpmndaaGreatDoorHelpO
import Derived.Test.YtgempjjnfpmndaaGreatDoorGrpMr
import Derived.Test.YtgempjjnfpmndaaGreatDoorGrpUc
import Derived.Test.YtgempjjnfpmndaaGreatDoorGrpSq
import Derived.Test.YtgempjjnfpmndaaGreatDoorGrpHs
namespace Go.Proofs.YtgempjjnfpmndaaGreatDoor
open Go.RowKit
attribute [local go_sem] Plain.and7
set_option linter.unusedSimpArgs false
set_option linter.unusedVariables false
/-- A frame is of a code that there is, at a place of its steps, with a scope. -/
def frmR (cs : List Cod) (s : Stp) : Bool := decide (0 ≤ s.1) && (match cs[s.1.toNat]? with
  | some c => decide (s.2.2 % 8 = 7) && (decide (0 ≤ s.2.1) && decide (s.2.1 < (c.ss.length : Int)))
  | none => false)
theorem frmR_neg {cs : List Cod} {s : Stp} (h : s.1 < 0) : frmR cs s = false := by
  unfold frmR
  rw [decide_eq_false (by omega)]
  rfl
theorem frmR_big {cs : List Cod} {s : Stp} (h : (cs.length : Int) ≤ s.1) : frmR cs s = false := by
  unfold frmR
  rw [List.getElem?_eq_none (by omega)]
  simp
theorem frmR_at {cs : List Cod} {s : Stp} {n : Nat} {c : Cod} (h : s.1 = (n : Int)) (hc : cs[n]? = some c) : frmR cs s = (decide (s.2.2 % 8 = 7) && (decide (0 ≤ s.2.1) && decide (s.2.1 < (c.ss.length : Int)))) := by
  unfold frmR
  rw [h, decide_eq_true (by omega)]
  simp [hc]
set_option maxHeartbeats 8000000 in
set_option maxRecDepth 100000 in
theorem frameOk_ok (w : World) (s0 s1 s2 : Int) (ca : Option Addr) (cc : Nat) (cs : List Cod) (ta : Option Addr) (nt tc : Nat) (hA : CodsA w ca cs) (hl : cs.length ≤ 1048576) :
    Calls Tryz.prog 81 #[.agg #[.int .i64 s0, .int .i64 s1, .int .i64 s2], .agg #[.slice ca cs.length cc, .slice ta nt tc]] w fun e w' => e = .returned (.bool (frmR cs (s0, s1, s2))) ∧ Kept w w' := by
  obtain ⟨W0, hW0⟩ : ∃ W0, (w.alloc (.cells #[.int .i64 s0, .int .i64 s1, .int .i64 s2] 94)).alloc (.cells #[.slice ca cs.length cc, .slice ta nt tc] 38) = W0 := ⟨_, rfl⟩
  have x0 : Cells W0 w.heap.size 94 #[.int .i64 s0, .int .i64 s1, .int .i64 s2] := hW0 ▸ (Cells.new w 94 _).alloc _
  have x1 : Cells W0 (w.heap.size + 1) 38 #[.slice ca cs.length cc, .slice ta nt tc] := by
    have y := Cells.new (w.alloc (.cells #[.int .i64 s0, .int .i64 s1, .int .i64 s2] 94)) 38 #[.slice ca cs.length cc, .slice ta nt tc]
    rw [hW0] at y
    simp only [World.size_alloc] at y
    exact y
  have k0 : Kept w W0 := hW0 ▸ (Kept.alloc (Below.refl _ _) _).alloc _
  have HK : Hid (Kept w W0) := k0
  have hA0 := hA.kept k0
  have a0 := x0.cell 0
  have a1 := x0.cell 1
  have a2 := x0.cell 2
  have b0 := x1.cell 0
  have hKd := impl_Kind_ok s2 W0
  clear hA x0 x1 k0
  by_cases h0 : s0 < 0
  · have HE : Hid (frmR cs (s0, s1, s2) = false) := frmR_neg h0
    clear hA0 hKd
    go_enter Tryz.func81, Tryz.ntmps81
    go_upto_region 1 with (fail)
    try simp only [hW0]
    clear hW0
    go_wp2_with fail
    go_ret
    exact ⟨by rw [HE.out]; rfl, HK.out⟩
  obtain ⟨n, rfl⟩ : ∃ n : Nat, s0 = n := ⟨s0.toNat, by omega⟩
  by_cases h1 : (cs.length : Int) ≤ (n : Int)
  · have HE : Hid (frmR cs ((n : Int), s1, s2) = false) := frmR_big h1
    clear hA0 hKd
    go_enter Tryz.func81, Tryz.ntmps81
    go_upto_region 1 with (fail)
    try simp only [hW0]
    clear hW0
    go_wp2_with fail
    go_ret
    exact ⟨by rw [HE.out]; rfl, HK.out⟩
  obtain ⟨c, hc⟩ : ∃ c, cs[n]? = some c := ⟨_, List.getElem?_eq_getElem (by omega)⟩
  have hE := frmR_at (s := ((n : Int), s1, s2)) rfl hc
  obtain ⟨b, off, xo, xc, hca, g0, g1, g2, _⟩ := hA0 n c hc
  rw [hca] at b0
  simp only at hE
  have h2 : (n : Int) < (cs.length : Int) := by omega
  clear hA0 hc g0 g1 h1
  by_cases hk : s2 % 8 = 7
  · by_cases hp : 0 ≤ s1
    · rw [decide_eq_true hk, decide_eq_true hp] at hE
      have HE : Hid _ := hE
      obtain ⟨r, hr⟩ : ∃ r, decide (s1 < (c.ss.length : Int)) = r := ⟨_, rfl⟩
      rw [hr] at HE
      rw [hk] at hKd
      have hp' : ¬ s1 < 0 := by omega
      have hd : decide (0 ≤ s1) = true := decide_eq_true hp
      clear hE hk
      rw [hca] at hW0 ⊢
      go_enter Tryz.func81, Tryz.ntmps81
      go_upto_region 1 with (fail)
      try simp only [hW0]
      clear hW0
      go_wp2_with (go_at_call 124; refine hKd.mono ?_; rintro e w1 ⟨rfl, rfl⟩)
      go_quiet (fail)
      go_wp2_with fail
      go_ret
      exact ⟨by rw [HE.out]; simp, kept_drewN HK.out _⟩
    · have HE : Hid (frmR cs ((n : Int), s1, s2) = false) := by rw [Hid, hE, decide_eq_false hp]; simp
      rw [hk] at hKd
      have hp' : s1 < 0 := by omega
      have hd : decide (0 ≤ s1) = false := decide_eq_false hp
      clear hE hk
      rw [hca] at hW0 ⊢
      go_enter Tryz.func81, Tryz.ntmps81
      go_upto_region 1 with (fail)
      try simp only [hW0]
      clear hW0
      go_wp2_with (go_at_call 124; refine hKd.mono ?_; rintro e w1 ⟨rfl, rfl⟩)
      go_quiet (fail)
      go_wp2_with fail
      go_ret
      exact ⟨by rw [HE.out]; rfl, kept_drewN HK.out _⟩
  · have HE : Hid (frmR cs ((n : Int), s1, s2) = false) := by rw [Hid, hE, decide_eq_false hk]; simp
    obtain ⟨q, hq⟩ : ∃ q, s2 % 8 = q := ⟨_, rfl⟩
    rw [hq] at hKd hk
    have hk' : (q != 7) = true := by simpa using hk
    clear hE hq
    rw [hca] at hW0 ⊢
    go_enter Tryz.func81, Tryz.ntmps81
    go_upto_region 1 with (fail)
    try simp only [hW0]
    clear hW0
    go_wp2_with (go_at_call 124; refine hKd.mono ?_; rintro e w1 ⟨rfl, rfl⟩)
    go_ret
    exact ⟨by rw [HE.out]; rfl, HK.out⟩
end Go.Proofs.YtgempjjnfpmndaaGreatDoor
namespace Go.Proofs.YtgempjjnfpmndaaGreatDoor
open Go.RowKit
set_option linter.unusedSimpArgs false
set_option linter.unusedVariables false
/-- The roots: the stack, and then the scopes of all frames. -/
def rootsM (m : Mch) : List Int := m.ks ++ m.fs.map (fun s => s.2.2)
theorem _root_.Go.World.ownsRow.base' {W : World} {b b' : Nat} {e : TypeId} {size : Nat} {v : Value} {n : Nat} {xs : List Value} (hb : b' ≤ b) (h : W.ownsRow b e size v n xs) : W.ownsRow b' e size v n xs := by
  obtain ⟨h1, h2⟩ := h
  refine ⟨h1, h2.imp id ?_⟩
  rintro ⟨g, cap, cur, e1, e2, e3⟩
  exact ⟨g, cap, cur, e1, Nat.le_trans hb e2, e3⟩
theorem Ints.news {w : World} {ad : Addr} {l : List Int} (hI : Ints w (some ad) l) : ∀ (j : Nat) (u : Value), (l.map (Value.int .i64))[j]? = some u → w.cell? (ad.add j) = some u := by
  intro j u hu
  rw [List.getElem?_map] at hu
  by_cases hj : j < l.length
  · rcases hI.2 with h | ⟨b, off, e, hc⟩
    · subst h; simp at hj
    · cases e
      rw [List.getElem?_eq_getElem hj] at hu
      simp only [Option.map_some, Option.some.injEq] at hu
      rw [Addr.add_lit, hc j hj, ← hu]
      simp [hz, List.getElem?_eq_getElem hj]
  · rw [List.getElem?_eq_none (by omega)] at hu
    cases hu
theorem run_eql_ints_nil (W : World) (a : Option Addr) (l c : Nat) : (binOp .eql 26 (.slice a l c) (.slice none 0 0)).run Tryz.prog W = .ok (.bool a.isNone) W := by
  simp [binOp, run_equal_slice_nil (P := Tryz.prog) W 26 3 a l c Tryz.underlying26]
attribute [local go_sem] run_eql_ints_nil
set_option maxHeartbeats 8000000 in
set_option maxRecDepth 100000 in
theorem cloneI_ok (w : World) (ao : Option Addr) (cap : Nat) (l : List Int) (hI : Ints w ao l) (hl : l.length ≤ 1048576) :
    Calls Tryz.prog 86 #[.slice ao l.length cap] w fun e w' => ∃ v, e = .returned v ∧ OwnL w' w.heap.size v l ∧ Kept w w' := by
  obtain ⟨i0, hi, hz0, hz1, hz2⟩ := info_parts infoI
  have HB : Hid _ := hI.1
  cases ao with
  | none =>
    have e0 : l = [] := by
      rcases hI.2 with h | ⟨b, off, e, _⟩
      · exact h
      · cases e
    subst e0
    clear hI
    go_enter Tryz.func86, Tryz.ntmps86
    go_wp2_with fail
    go_ret
    exact ⟨_, rfl, ⟨by simp, World.ownsRow_nil _ _ _ _⟩, Below.refl _ _⟩
  | some ad =>
    have hrow : (w.alloc (.cells #[] 3)).ownsRow w.heap.size 3 1 (.slice (some ⟨w.heap.size, 0, none⟩) 0 0) 0 [] := ⟨rfl, .inr ⟨w.heap.size, 0, #[], rfl, Nat.le_refl _, heap_alloc_new w _, Nat.le_refl _, by unfold maxLen; omega, rfl, rfl⟩⟩
    have hcell := (hI.kept (Kept.alloc (Below.refl _ w) (.cells #[] 3))).news
    clear hI
    go_enter Tryz.func86, Tryz.ntmps86
    go_wp2_with (at_builtin; refine wpList_append_own _ rfl _ _ 26 rfl w.heap.size 3 i0 (.int .i64 0) 1 8 Tryz.underlying26 hi hz0 hz1 hz2 rfl (by decide) _ _ _ rfl hrow ad l.length cap (l.map (Value.int .i64)) rfl (by simp) hcell (by intro u hu; obtain ⟨z, _, rfl⟩ := List.mem_map.1 hu; rfl) (by unfold maxLen; omega) (by omega) (by simp) ?_; intro v' w5 hown' hgrow _)
    go_ret
    refine ⟨_, rfl, ⟨HB.out, by simpa using hown'⟩, ?_⟩
    exact (Kept.alloc (Below.refl _ w) (.cells #[] 3)).grownRow hgrow (fun j ej => (hrow.lt j ej).1)
set_option maxHeartbeats 8000000 in
set_option maxRecDepth 100000 in
theorem impl_Roots_ok (w : World) (h : MchH) (m : Mch) (hK : Ints w h.ka m.ks) (hF : StpsA w h.fa m.fs) (hkl : m.ks.length ≤ 1048576) (hfl : m.fs.length ≤ 1048576) (hB : ∀ s ∈ m.fs, -9223372036854775808 ≤ s.2.2 ∧ s.2.2 ≤ 9223372036854775807) :
    Calls Tryz.prog 37 #[.agg (mchC h m)] w fun e w' => ∃ v, e = .returned v ∧ OwnL w' w.heap.size v (rootsM m) ∧ Kept w w' := by
  obtain ⟨i0, hi, hz0, hz1, hz2⟩ := info_parts infoI
  obtain ⟨W0, hW0⟩ : ∃ W0, w.alloc (.cells (mchC h m) 43) = W0 := ⟨_, rfl⟩
  have X0 : Hid (Cells W0 w.heap.size 43 (mchC h m)) := hW0 ▸ Cells.new w 43 (mchC h m)
  have k0 : Kept w W0 := hW0 ▸ Kept.alloc (Below.refl _ _) _
  have hs0 : W0.heap.size = w.heap.size + 1 := by rw [← hW0]; simp
  have hC := cloneI_ok W0 h.ka h.kc m.ks (hK.kept k0) hkl
  have HF : Hid _ := hF
  have HB : Hid _ := hB
  have HK0 : Hid (Kept w W0) := k0
  have HS0 : Hid (W0.heap.size = w.heap.size + 1) := hs0
  have a8 := X0.out.m8
  clear hK hF hB k0 hs0
  go_enter Tryz.func37, Tryz.ntmps37
  go_upto_region 1 with (fail)
  try simp only [hW0]
  clear hW0
  go_wp2_with fail
  refine hC.mono ?_
  rintro e w1 ⟨v1, rfl, O1, k1⟩
  clear hC a8
  have X1 := X0.out.kept k1
  have a7 := X1.m7
  have HO1 : Hid (OwnL w1 W0.heap.size v1 (m.ks ++ (m.fs.take 0).map (fun s => s.2.2))) := by
    rw [Hid]
    simp only [List.take_zero, List.map_nil, List.append_nil]
    exact O1
  have HK1 : Hid (Kept W0 w1) := k1
  clear X1 k1 O1
  go_wp2_with fail
  go_loopw [3, 12] (fun tv iv wr => ∃ (k : Nat), iv = .int .i64 k ∧ k ≤ m.fs.length ∧ Hid (OwnL wr W0.heap.size tv (m.ks ++ (m.fs.take k).map (fun s => s.2.2))) ∧ Hid (Kept W0 wr)) (fun _ i _ => m.fs.length - (intOf i).toNat)
  case atStart => exact ⟨0, rfl, Nat.zero_le _, HO1.out, HK1.out⟩
  case round =>
    obtain ⟨k, rfl, hk, HO, HK⟩ := hrel
    by_cases hlt : k < m.fs.length
    · have hlt' : (k : Int) < (m.fs.length : Int) := by omega
      obtain ⟨x, hx⟩ : ∃ x, m.fs[k]? = some x := ⟨m.fs[k], List.getElem?_eq_getElem hlt⟩
      obtain ⟨L, hL⟩ : ∃ L, m.ks ++ (m.fs.take k).map (fun s => s.2.2) = L := ⟨_, rfl⟩
      have HN : Hid (m.ks ++ (m.fs.take (k + 1)).map (fun s => s.2.2) = L ++ [x.2.2]) := by
        obtain ⟨h1, h2⟩ := List.getElem?_eq_some_iff.1 hx
        rw [Hid, List.take_succ_eq_append_getElem hlt, List.map_append, ← List.append_assoc, hL]
        simp [h2]
      have hfb := HB.out x (List.mem_of_getElem? hx)
      obtain ⟨b, off, hfa, g0, g1, g2⟩ := (StpsA.kept HF.out (HK0.out.trans HK.out)) k x hx
      have hln : L.length = m.ks.length + k := by rw [← hL]; simp; omega
      have hlx : L.length ≤ 2097152 := by omega
      rw [hL] at HO
      have hws := HK.out.size
      have HLn : Hid _ := hln
      have HFa : Hid _ := hfa
      have O3 : OwnL (wr.alloc (.cells #[.int .i64 x.1, .int .i64 x.2.1, .int .i64 x.2.2] 94)) W0.heap.size _ L := ⟨HO.out.1, HO.out.2.alloc _⟩
      clear hln hx hL
      rw [hfa]
      go_wp2_with (at_builtin; refine wpList_append_own _ rfl _ _ 26 rfl W0.heap.size 3 i0 (.int .i64 0) 1 8 Tryz.underlying26 hi hz0 hz1 hz2 rfl (by decide) _ _ _ rfl (O3.2.alloc _) ⟨wr.heap.size + 1, 0, none⟩ 1 1 [.int .i64 x.2.2] rfl rfl (by simpa using cell_one_new (wr.alloc (.cells #[.int .i64 x.1, .int .i64 x.2.1, .int .i64 x.2.2] 94)) (.int .i64 x.2.2) 3) (by simp [Value.oneCell']) (by unfold maxLen; omega) (by omega) (by simp; omega) ?_; intro v' w4 hown hgrow _)
      have k4 : Kept W0 w4 := (((HK.out.alloc (.cells #[.int .i64 x.1, .int .i64 x.2.1, .int .i64 x.2.2] 94)).alloc (.cells #[.int .i64 x.2.2] 3)).grownRow hgrow (fun j ej => (O3.2.lt j ej).1))
      have HO4 : Hid (OwnL w4 W0.heap.size v' (m.ks ++ (m.fs.take (k + 1)).map (fun s => s.2.2))) := by
        rw [Hid, HN.out]
        refine ⟨fun z hz' => ?_, by simpa using hown⟩
        rcases List.mem_append.1 hz' with h | h
        · exact HO.out.1 z h
        · rw [List.mem_singleton.1 h]; exact hfb
      clear hown hgrow O3 HO
      go_roundw
      case rel => exact ⟨k + 1, by go_num, by omega, HO4.out, k4⟩
      case measure => simp [intOf]; omega
    · obtain rfl : k = m.fs.length := by omega
      have hlt' : ¬ (m.fs.length : Int) < (m.fs.length : Int) := by omega
      go_wp2_with fail
      go_ret
      refine ⟨_, rfl, ?_, HK0.out.trans HK.out⟩
      have := HO.out
      rw [List.take_length] at this
      exact ⟨this.1, World.ownsRow.base' (by have := HS0.out; omega) this.2⟩
set_option maxHeartbeats 8000000 in
set_option maxRecDepth 100000 in
theorem spec_Roots_ok (w : World) (h : MchH) (m : Mch) (hK : Ints w h.ka m.ks) (hF : StpsA w h.fa m.fs) (hkl : m.ks.length ≤ 1048576) (hfl : m.fs.length ≤ 1048576) (hB : ∀ s ∈ m.fs, -9223372036854775808 ≤ s.2.2 ∧ s.2.2 ≤ 9223372036854775807) (hkn : h.ka ≠ none) :
    Calls Tryz.prog 28 #[.agg (mchC h m)] w fun e w' => ∃ v, e = .returned v ∧ OwnL w' w.heap.size v (rootsM m) ∧ Kept w w' := by
  obtain ⟨i0, hi, hz0, hz1, hz2⟩ := info_parts infoI
  obtain ⟨ad, had⟩ : ∃ ad, h.ka = some ad := Option.ne_none_iff_exists'.1 hkn
  obtain ⟨W0, hW0⟩ : ∃ W0, w.alloc (.cells (mchC h m) 43) = W0 := ⟨_, rfl⟩
  have X0 : Hid (Cells W0 w.heap.size 43 (mchC h m)) := hW0 ▸ Cells.new w 43 (mchC h m)
  have k0 : Kept w W0 := hW0 ▸ Kept.alloc (Below.refl _ _) _
  have hs0 : W0.heap.size = w.heap.size + 1 := by rw [← hW0]; simp
  have hrow : (W0.alloc (.cells #[] 3)).ownsRow W0.heap.size 3 1 (.slice (some ⟨w.heap.size + 1, 0, none⟩) 0 0) 0 [] := ⟨rfl, .inr ⟨w.heap.size + 1, 0, #[], rfl, by omega, by rw [← hs0]; exact heap_alloc_new W0 _, Nat.le_refl _, by unfold maxLen; omega, rfl, rfl⟩⟩
  have hcell := ((had ▸ hK : Ints w (some ad) m.ks).kept (k0.alloc (.cells #[] 3))).news
  have HKb : Hid _ := hK.1
  have HF : Hid _ := hF
  have HB : Hid _ := hB
  have HK0 : Hid (Kept w W0) := k0
  have HS0 : Hid (W0.heap.size = w.heap.size + 1) := hs0
  have a8 : (W0.alloc (.cells #[] 3)).cell? ⟨w.heap.size, 8, none⟩ = some (.slice (some ad) m.ks.length h.kc) := by rw [← had]; exact (X0.out.alloc _).m8
  clear hK hF hB k0 hkn
  go_enter Tryz.func28, Tryz.ntmps28
  go_upto_region 1 with (fail)
  try simp only [hW0]
  clear hW0
  go_wp2_with (at_builtin; go_loud (refine wpList_append_own _ rfl _ _ 26 rfl W0.heap.size 3 i0 (.int .i64 0) 1 8 Tryz.underlying26 hi hz0 hz1 hz2 rfl (by decide) _ _ _ rfl hrow ad m.ks.length h.kc (m.ks.map (Value.int .i64)) rfl (by simp) hcell (by intro u hu; obtain ⟨z, _, rfl⟩ := List.mem_map.1 hu; rfl) (by unfold maxLen; omega) (by omega) (by simp) ?_; intro v1 w1 hown1 hgrow1 _))
  have HK1 : Hid (Kept W0 w1) := (Kept.alloc (Below.refl _ W0) (.cells #[] 3)).grownRow hgrow1 (fun j ej => (hrow.lt j ej).1)
  have HO1 : Hid (OwnL w1 W0.heap.size v1 (m.ks ++ (m.fs.take 0).map (fun s => s.2.2))) := by
    rw [Hid]
    simp only [List.take_zero, List.map_nil, List.append_nil]
    exact ⟨HKb.out, by simpa using hown1⟩
  clear hown1 hgrow1 hrow hcell a8 hs0
  go_wp2_with fail
  go_loopw [3, 4] (fun tv iv wr => ∃ (k : Nat), iv = .int .i64 k ∧ k ≤ m.fs.length ∧ Hid (OwnL wr W0.heap.size tv (m.ks ++ (m.fs.take k).map (fun s => s.2.2))) ∧ Hid (Kept W0 wr)) (fun _ i _ => m.fs.length - (intOf i).toNat)
  case atStart => exact ⟨0, rfl, Nat.zero_le _, HO1.out, HK1.out⟩
  case round =>
    obtain ⟨k, rfl, hk, HO, HK⟩ := hrel
    have a7 := (X0.out.kept HK.out).m7
    by_cases hlt : k < m.fs.length
    · have hlt' : (k : Int) < (m.fs.length : Int) := by omega
      obtain ⟨x, hx⟩ : ∃ x, m.fs[k]? = some x := ⟨m.fs[k], List.getElem?_eq_getElem hlt⟩
      obtain ⟨L, hL⟩ : ∃ L, m.ks ++ (m.fs.take k).map (fun s => s.2.2) = L := ⟨_, rfl⟩
      have HN : Hid (m.ks ++ (m.fs.take (k + 1)).map (fun s => s.2.2) = L ++ [x.2.2]) := by
        obtain ⟨h1, h2⟩ := List.getElem?_eq_some_iff.1 hx
        rw [Hid, List.take_succ_eq_append_getElem hlt, List.map_append, ← List.append_assoc, hL]
        simp [h2]
      have hfb := HB.out x (List.mem_of_getElem? hx)
      obtain ⟨b, off, hfa, g0, g1, g2⟩ := (StpsA.kept HF.out (HK0.out.trans HK.out)) k x hx
      have hln : L.length = m.ks.length + k := by rw [← hL]; simp; omega
      have hlx : L.length ≤ 2097152 := by omega
      rw [hL] at HO
      have hws := HK.out.size
      have HLn : Hid _ := hln
      have O3 := HO.out
      rw [hfa] at a7
      clear hln hx hL
      go_wp2_with (at_builtin; refine wpList_append_own _ rfl _ _ 26 rfl W0.heap.size 3 i0 (.int .i64 0) 1 8 Tryz.underlying26 hi hz0 hz1 hz2 rfl (by decide) _ _ _ rfl (O3.2.alloc _) ⟨wr.heap.size, 0, none⟩ 1 1 [.int .i64 x.2.2] rfl rfl (cell_one_new _ _ _) (by simp [Value.oneCell']) (by unfold maxLen; omega) (by omega) (by simp; omega) ?_; intro v' w4 hown hgrow _)
      have k4 : Kept W0 w4 := ((HK.out.alloc (.cells #[.int .i64 x.2.2] 3)).grownRow hgrow (fun j ej => (O3.2.lt j ej).1))
      have HO4 : Hid (OwnL w4 W0.heap.size v' (m.ks ++ (m.fs.take (k + 1)).map (fun s => s.2.2))) := by
        rw [Hid, HN.out]
        refine ⟨fun z hz' => ?_, by simpa using hown⟩
        rcases List.mem_append.1 hz' with h | h
        · exact HO.out.1 z h
        · rw [List.mem_singleton.1 h]; exact hfb
      clear hown hgrow O3 HO
      go_roundw
      case rel => exact ⟨k + 1, by go_num, by omega, HO4.out, k4⟩
      case measure => simp [intOf]; omega
    · obtain rfl : k = m.fs.length := by omega
      have hlt' : ¬ (m.fs.length : Int) < (m.fs.length : Int) := by omega
      go_wp2_with fail
      go_ret
      refine ⟨_, rfl, ?_, HK0.out.trans HK.out⟩
      have := HO.out
      rw [List.take_length] at this
      exact ⟨this.1, World.ownsRow.base' (by have := HS0.out; omega) this.2⟩
end Go.Proofs.YtgempjjnfpmndaaGreatDoor
namespace Go.Proofs.YtgempjjnfpmndaaGreatDoor
open Go.RowKit
attribute [local go_sem] Plain.and7
set_option linter.unusedSimpArgs false
set_option linter.unusedVariables false
/-- A root leads to a scope, or a block of its kind, that is black; or nowhere. -/
def scR (zs bs : List Int) (v : Int) : Bool := leadsR zs v 5 && (decide (v % 8 < 4) || decide (v / 8 ∈ bs))
def heldR (zs bs rs : List Int) : Bool := allR (fun i => scR zs bs (hz rs i)) rs.length
def headM (m : Mch) : Bool := decide (m.ks.length ≤ 1500 ∧ 1 ≤ m.fs.length ∧ m.fs.length ≤ 31 ∧ 0 ≤ m.cd ∧ m.cd ≤ 5)
def rootM (m : Mch) : Bool := if m.ph = 2 then heldR m.zs m.bs (rootsM m) else rootsR m.zs (rootsM m)
def framesM (m : Mch) : Bool := m.fs.all (frmR m.cs)
/-- A machine is right. -/
def machR (m : Mch) : Bool := headM m && (unitR m.cs m.ts && (framesM m && (markR m.zs m.ph m.gs m.bs m.at' && rootM m)))
set_option maxHeartbeats 8000000 in
set_option maxRecDepth 100000 in
theorem frameF_ok (w : World) (B : Nat) (h : MchH) (m : Mch) (s0 s1 s2 : Int) (hX : Cells w B 43 (mchC h m)) (hA : CodsA w h.ca m.cs) (hl : m.cs.length ≤ 1048576) :
    Calls Tryz.prog 80 #[.agg #[.int .i64 s0, .int .i64 s1, .int .i64 s2], .pointer (some ⟨B, 0, none⟩)] w fun e w' => e = .returned (.bool (!frmR m.cs (s0, s1, s2))) ∧ Kept w w' := by
  have k0 : Kept w (w.alloc (.cells #[.int .i64 s0, .int .i64 s1, .int .i64 s2] 94)) := Kept.alloc (Below.refl _ _) _
  have x := hX.kept k0
  have a0 := x.m0
  have a1 := x.m1
  have hC := frameOk_ok _ s0 s1 s2 h.ca h.cc m.cs h.ta m.ts.length h.tc (hA.kept k0) hl
  clear hX hA x
  go_enter Tryz.func80, Tryz.ntmps80
  go_wp2_with fail
  refine hC.mono ?_
  rintro e w1 ⟨rfl, hk⟩
  go_wp2_with fail
  go_ret
  exact ⟨rfl, k0.trans hk⟩
set_option maxHeartbeats 8000000 in
set_option maxRecDepth 100000 in
theorem frameIndex_ok (w : World) (B : Nat) (h : MchH) (m : Mch) (hX : Cells w B 43 (mchC h m)) (hA : CodsA w h.ca m.cs) (hl : m.cs.length ≤ 1048576) (hF : StpsA w h.fa m.fs) (hfl : m.fs.length ≤ 1048576) :
    Calls Tryz.prog 123 #[.slice h.fa m.fs.length h.fc, .func (.func 80) #[] #[.pointer (some ⟨B, 0, none⟩)]] w fun e w' => (∃ r : Int, e = .returned (.int .i64 r) ∧ decide (0 ≤ r) = !framesM m) ∧ Kept w w' := by
  have HX : Hid _ := hX
  have HA : Hid _ := hA
  have HF : Hid _ := hF
  clear hX hA hF
  go_enter Tryz.func123, Tryz.ntmps123
  go_wp2_with fail
  go_loopw [8] (fun i wr => ∃ k : Nat, i = .int .i64 k ∧ k ≤ m.fs.length ∧ Hid (∀ j s, j < k → m.fs[j]? = some s → frmR m.cs s = true) ∧ Hid (Kept w wr)) (fun i _ => m.fs.length - (intOf i).toNat)
  case atStart => exact ⟨0, rfl, Nat.zero_le _, fun j q h => absurd h (by omega), Below.refl _ _⟩
  case round =>
    obtain ⟨k, rfl, hk, HO, HK⟩ := hrel
    by_cases hlt : k < m.fs.length
    · obtain ⟨q, hq⟩ : ∃ q, m.fs[k]? = some q := ⟨_, List.getElem?_eq_getElem hlt⟩
      obtain ⟨b, off, hfa, g0, g1, g2⟩ := (StpsA.kept HF.out HK.out) k q hq
      obtain ⟨q0, q1, q2⟩ := q
      have hC := frameF_ok wr B h m q0 q1 q2 (Cells.kept HX.out HK.out) (CodsA.kept HA.out HK.out) hl
      have hlt' : (k : Int) < (m.fs.length : Int) := by omega
      have HQ : Hid _ := hq
      simp only at g0 g1 g2
      rw [hfa]
      obtain ⟨r, hr⟩ : ∃ r, frmR m.cs (q0, q1, q2) = r := ⟨_, rfl⟩
      rw [hr] at hC
      have HR : Hid _ := hr
      clear hq hfa hr
      cases r with
      | true =>
        go_wp2_with fail
        refine hC.mono ?_
        rintro e w1 ⟨rfl, hk1⟩
        go_wp2_with fail
        go_roundw
        case rel => exact ⟨k + 1, by go_num, by omega, fun j s hj hs => by
          rcases Nat.lt_succ_iff_lt_or_eq.1 hj with h | h
          · exact HO.out j s h hs
          · rw [h, HQ.out] at hs; cases hs; exact HR.out, Kept.trans HK.out hk1⟩
        case measure => simp [intOf]; omega
      | false =>
        have HN : Hid (framesM m = false) := all_no HQ.out HR.out
        go_wp2_with fail
        refine hC.mono ?_
        rintro e w1 ⟨rfl, hk1⟩
        go_wp2_with fail
        go_ret
        exact ⟨⟨_, rfl, by rw [HN.out]; simp⟩, Kept.trans HK.out hk1⟩
    · have hlt' : ¬ (k : Int) < (m.fs.length : Int) := by omega
      have HY : Hid (framesM m = true) := all_yes (fun j x hj hx => HO.out j x (by omega) hx)
      go_wp2_with fail
      go_ret
      exact ⟨⟨_, rfl, by rw [HY.out]; rfl⟩, HK.out⟩
set_option maxHeartbeats 8000000 in
set_option maxRecDepth 100000 in
theorem frameContains_ok (w : World) (B : Nat) (h : MchH) (m : Mch) (hX : Cells w B 43 (mchC h m)) (hA : CodsA w h.ca m.cs) (hl : m.cs.length ≤ 1048576) (hF : StpsA w h.fa m.fs) (hfl : m.fs.length ≤ 1048576) :
    Calls Tryz.prog 79 #[.slice h.fa m.fs.length h.fc, .func (.func 80) #[] #[.pointer (some ⟨B, 0, none⟩)]] w fun e w' => e = .returned (.bool (!framesM m)) ∧ Kept w w' := by
  have hC := frameIndex_ok w B h m hX hA hl hF hfl
  clear hX hA hF
  go_enter Tryz.func79, Tryz.ntmps79
  go_wp2_with fail
  refine hC.mono ?_
  rintro e w1 ⟨⟨r, rfl, hr⟩, hk⟩
  have HR : Hid _ := hr
  clear hr
  go_wp2_with fail
  go_ret
  exact ⟨by rw [← HR.out]; rfl, hk⟩
end Go.Proofs.YtgempjjnfpmndaaGreatDoor
namespace Go.Proofs.YtgempjjnfpmndaaGreatDoor
open Go.RowKit
attribute [local go_sem] Plain.and7
set_option linter.unusedSimpArgs false
set_option linter.unusedVariables false
theorem leads_place {zs : List Int} {v : Int} (h : leadsR zs v 5 = true) (h4 : 4 ≤ v % 8) : ∃ p : Nat, v / 8 = p ∧ p < zs.length := by
  have hk := leads_kind h h4
  have h1 : 1 ≤ kindAt zs (v / 8) := by
    rw [hk]
    unfold wantK
    split
    · omega
    · split
      · omega
      · split <;> omega
  cases hi : isAt zs (v / 8) with
  | false => exact absurd h1 (isAt_no hi)
  | true =>
    obtain ⟨p, e, hp, _⟩ := isAt_kind hi
    exact ⟨p, e, hp⟩
theorem scR_no {zs bs : List Int} {v : Int} (h : leadsR zs v 5 = false) : scR zs bs v = false := by simp [scR, h]
theorem scR_low {zs bs : List Int} {v : Int} (h : leadsR zs v 5 = true) (h4 : v % 8 < 4) : scR zs bs v = true := by simp [scR, h, h4]
theorem scR_at {zs bs : List Int} {v : Int} (h : leadsR zs v 5 = true) (h4 : 4 ≤ v % 8) : scR zs bs v = decide (v / 8 ∈ bs) := by
  have : ¬ v % 8 < 4 := by omega
  simp [scR, h, this]
theorem colAt_2 {gs bs : List Int} {n : Nat} : ((colAt gs bs n) != 2) = !decide ((n : Int) ∈ bs) := by
  unfold colAt
  by_cases h : (n : Int) ∈ bs
  · simp [h]
  · by_cases h2 : (n : Int) ∈ gs <;> simp [h, h2]
set_option maxHeartbeats 16000000 in
set_option maxRecDepth 100000 in
theorem holdsRoots_plain (w : World) (h : MchH) (m : Mch) (hA : MchA w h m) (hL : MchLe m) (hB : ∀ s ∈ m.fs, -9223372036854775808 ≤ s.2.2 ∧ s.2.2 ≤ 9223372036854775807) (hlen : (rootsM m).length ≤ 1048576) (hph : ¬ m.ph = 2) :
    Calls Tryz.prog 83 #[.agg (mchC h m)] w fun e w' => e = .returned (.bool (rootM m)) ∧ Kept w w' := by
  have HE : Hid (rootM m = rootsR m.zs (rootsM m)) := by rw [Hid, rootM, if_neg hph]
  have hq : (m.ph != 2) = true := by simpa using hph
  obtain ⟨W0, hW0⟩ : ∃ W0, w.alloc (.cells (mchC h m) 43) = W0 := ⟨_, rfl⟩
  have X : Hid (∀ u, Kept W0 u → Cells u w.heap.size 43 (mchC h m)) := fun u hu => (hW0 ▸ Cells.new w 43 (mchC h m) : Cells W0 _ _ _).kept hu
  have k0 : Kept w W0 := hW0 ▸ Kept.alloc (Below.refl _ _) _
  have HK0 : Hid (Kept w W0) := k0
  have kd : Kept W0 W0.drew := (Below.refl _ W0).drew
  have KD : Hid (Kept W0 W0.drew) := kd
  have hRt := impl_Roots_ok W0.drew h m (hA.k.kept (k0.trans kd)) (hA.f.kept (k0.trans kd)) hL.k hL.f hB
  have HRo : Hid (∀ u ro rc, Kept W0 u → Ints u ro (rootsM m) → Calls Tryz.prog 130 #[.agg #[.slice h.sa m.zs.length h.sc], .slice ro (rootsM m).length rc] u fun e w' => e = .returned (.bool (rootsR m.zs (rootsM m))) ∧ Kept u w') := fun u ro rc hu hr => impl_RootsOk_ok u h.sa ro h.sc rc m.zs (rootsM m) (hA.z.kept (k0.trans hu)) hL.z hr hlen
  obtain ⟨R, hR⟩ : ∃ R, rootsR m.zs (rootsM m) = R := ⟨_, rfl⟩
  rw [hR] at HRo HE
  obtain ⟨n, hn⟩ : ∃ n, (rootsM m).length = n := ⟨_, rfl⟩
  have HN : Hid ((rootsM m).length = n) := hn
  rw [hn] at HRo
  have a3 := (X.out _ (Below.refl _ _)).m3
  clear hA hL hB hlen hph k0 kd hR hn
  go_enter Tryz.func83, Tryz.ntmps83
  go_upto_region 1 with (fail)
  try simp only [hW0]
  clear hW0
  go_upto_region 2 with (fail)
  clear a3
  have d0 := (X.out _ KD.out).m0
  have d1 := (X.out _ KD.out).m1
  have d2 := (X.out _ KD.out).m2
  have d3 := (X.out _ KD.out).m3
  have d4 := (X.out _ KD.out).m4
  have d5 := (X.out _ KD.out).m5
  have d6 := (X.out _ KD.out).m6
  have d7 := (X.out _ KD.out).m7
  have d8 := (X.out _ KD.out).m8
  have d9 := (X.out _ KD.out).m9
  have d10 := (X.out _ KD.out).m10
  have d11 := (X.out _ KD.out).m11
  go_region_with (first
    | (have _t := tk1; go_at_call 130; refine (HRo.out _ _ _ tk1 I1).mono ?_; rintro e w2 ⟨rfl, hk2⟩)
    | (go_at_call 37; refine hRt.mono ?_; rintro e w1 ⟨v1, rfl, O1, hk1⟩; obtain ⟨ro, rc, rfl, I1⟩ := O1.ints; have tk1 := Kept.trans KD.out hk1; rw [HN.out]; have d2 := (X.out _ tk1).m2))
  all_goals (
    go_wp2_with fail
    go_ret
    exact ⟨by rw [HE.out]; rfl, Kept.trans HK0.out (tk1.trans hk2)⟩)
theorem heldR_no {zs bs rs : List Int} {k : Nat} (hk : k < rs.length) (h : scR zs bs (hz rs k) = false) : heldR zs bs rs = false := by
  unfold heldR
  cases hp : allR (fun i => scR zs bs (hz rs i)) rs.length with
  | false => rfl
  | true => have := allR_iff.1 hp k hk; rw [h] at this; cases this
set_option maxHeartbeats 16000000 in
set_option maxRecDepth 100000 in
theorem holdsRoots_sweep (w : World) (h : MchH) (m : Mch) (hA : MchA w h m) (hL : MchLe m) (hB : ∀ s ∈ m.fs, -9223372036854775808 ≤ s.2.2 ∧ s.2.2 ≤ 9223372036854775807) (hlen : (rootsM m).length ≤ 1048576) (hph : m.ph = 2) (hok : slabOk m.zs = true) (hgn : h.ga = none → h.gc = 0) :
    Calls Tryz.prog 83 #[.agg (mchC h m)] w fun e w' => e = .returned (.bool (rootM m)) ∧ Kept w w' := by
  have HE : Hid (rootM m = heldR m.zs m.bs (rootsM m)) := by rw [Hid, rootM, if_pos hph]
  obtain ⟨W0, hW0⟩ : ∃ W0, w.alloc (.cells (mchC h m) 43) = W0 := ⟨_, rfl⟩
  have X : Hid (∀ u, Kept W0 u → Cells u w.heap.size 43 (mchC h m)) := fun u hu => (hW0 ▸ Cells.new w 43 (mchC h m) : Cells W0 _ _ _).kept hu
  have k0 : Kept w W0 := hW0 ▸ Kept.alloc (Below.refl _ _) _
  have HK0 : Hid (Kept w W0) := k0
  have hMk := markingOf_ok W0 h.sa h.ga h.ba h.sc h.gc h.bc m.zs m.gs m.bs m.ph m.at' (hA.z.kept k0) hL.z (hA.g.kept k0) (hA.b.kept k0) hL.g hL.b hgn
  have HRt : Hid (∀ u, Kept W0 u → Calls Tryz.prog 37 #[.agg (mchC h m)] u fun e w' => ∃ v, e = .returned v ∧ OwnL w' u.heap.size v (rootsM m) ∧ Kept u w') := fun u hu => impl_Roots_ok u h m (hA.k.kept (k0.trans hu)) (hA.f.kept (k0.trans hu)) hL.k hL.f hB
  have HZ : Hid (∀ u, Kept W0 u → Ints u h.sa m.zs) := fun u hu => hA.z.kept (k0.trans hu)
  have hz2 := slabOk_len hok
  obtain ⟨n, hn⟩ : ∃ n, (rootsM m).length = n := ⟨_, rfl⟩
  have HN : Hid ((rootsM m).length = n) := hn
  have hnl : n ≤ 1048576 := by omega
  have HO : Hid _ := hok
  have HP : Hid _ := hph
  have a3 : W0.cell? ⟨w.heap.size, 3, none⟩ = some (.int .i64 2) := by rw [← hph]; exact (X.out _ (Below.refl _ _)).m3
  rw [hph] at hMk
  clear hA hL hB hlen hph k0 hok hn hgn
  go_enter Tryz.func83, Tryz.ntmps83
  go_upto_region 1 with (fail)
  try simp only [hW0]
  clear hW0
  go_upto_region 3 with (fail)
  have a2 := (X.out _ (Below.refl _ _)).m2
  have a4 := (X.out _ (Below.refl _ _)).m4
  have a5 := (X.out _ (Below.refl _ _)).m5
  have a6 := (X.out _ (Below.refl _ _)).m6
  go_wp2_with fail
  refine hMk.mono ?_
  rintro e w2 ⟨v2, rfl, hv2, hk2⟩
  obtain ⟨lo, go, ln, lc, gc2, rfl⟩ := hv2.any
  have hcz := Cells.new w2 123 Tryz.zeroCells123
  clear a2 a3 a4 a5 a6
  go_upto_region 4 with (refine wpList_store_row (by rfl) 123 _ _ (by rfl) w2.heap.size _ (by rfl) (by rfl) _ _ hcz (by rw [mkC_size, colL_len]; exact infoMks) (by rw [mkC_size, colL_len]; exact zeroMk) mkC_one ?_)
  rw [World.setRow_alloc_new]
  have kS : Kept w2 (w2.alloc (.cells (mkC (.slice h.sa m.zs.length h.sc) (.slice lo ln lc) (colL m.gs m.bs) (.slice go m.gs.length gc2)) 123)) := Kept.alloc (Below.refl _ _) _
  have HR : Hid (ln = m.zs.length ∧ MkgR (w2.alloc (.cells (mkC (.slice h.sa m.zs.length h.sc) (.slice lo ln lc) (colL m.gs m.bs) (.slice go m.gs.length gc2)) 123)) w2.heap.size h.sa lo h.sc lc m.zs m.gs m.bs (.slice go m.gs.length gc2)) := by
    obtain ⟨lo', go', ln', lc', gc', base, e, _, hyes, _, _, _⟩ := hv2.is
    obtain ⟨rfl, hly, _⟩ := hyes HO.out
    have e0 := congrArg (fun v : Value => v.cells[1]?) e
    have e1 : (mkC (.slice h.sa m.zs.length h.sc) (.slice lo ln lc) (colL m.gs m.bs) (.slice go m.gs.length gc2))[1]? = (mkC (.slice h.sa m.zs.length h.sc) (.slice lo' m.zs.length lc') (colL m.gs m.bs) (.slice go' m.gs.length gc'))[1]? := e0
    rw [mkC_1, mkC_1] at e1
    simp only [Option.some.injEq, Value.slice.injEq] at e1
    obtain ⟨rfl, rfl, rfl⟩ := e1
    exact ⟨rfl, Cells.new w2 _ _, hly.kept kS, HZ.out _ (hk2.trans kS)⟩
  have K2 := hk2.trans kS
  obtain ⟨WS, hWS⟩ : ∃ WS, w2.alloc (.cells (mkC (.slice h.sa m.zs.length h.sc) (.slice lo ln lc) (colL m.gs m.bs) (.slice go m.gs.length gc2)) 123) = WS := ⟨_, rfl⟩
  rw [hWS] at HR K2
  simp only [hWS]
  obtain ⟨rfl, hRd⟩ := HR.out
  have HRd : Hid (∀ u, Kept WS u → MkgR u w2.heap.size h.sa lo h.sc lc m.zs m.gs m.bs (.slice go m.gs.length gc2)) := fun u hu => hRd.kept hu
  have HKS : Hid (Kept W0 WS) := K2
  have hRt := HRt.out WS K2
  have d0 := (X.out _ K2).m0
  have d1 := (X.out _ K2).m1
  have d2 := (X.out _ K2).m2
  have d3 := (X.out _ K2).m3
  have d4 := (X.out _ K2).m4
  have d5 := (X.out _ K2).m5
  have d6 := (X.out _ K2).m6
  have d7 := (X.out _ K2).m7
  have d8 := (X.out _ K2).m8
  have d9 := (X.out _ K2).m9
  have d10 := (X.out _ K2).m10
  have d11 := (X.out _ K2).m11
  clear hWS kS hcz hv2 hk2 hMk K2 HR hRd
  go_wp2_with fail
  refine hRt.mono ?_
  rintro e w3 ⟨v3, rfl, O3, hk3⟩
  obtain ⟨ro, rc, rfl, I3⟩ := O3.ints
  have HI : Hid (∀ u, Kept w3 u → Ints u ro (rootsM m)) := fun u hu => I3.kept hu
  have HK3 : Hid (Kept WS w3) := hk3
  rw [HN.out]
  clear hRt O3 I3 hk3 d0 d1 d2 d3 d4 d5 d6 d7 d8 d9 d10 d11
  go_wp2_with fail
  go_loopw [23] (fun i wr => ∃ k : Nat, i = .int .i64 k ∧ k ≤ n ∧ Hid (allR (fun i => scR m.zs m.bs (hz (rootsM m) i)) k = true) ∧ Hid (Kept w3 wr)) (fun i _ => n - (intOf i).toNat)
  case atStart => exact ⟨0, rfl, Nat.zero_le _, allR_zero _, Below.refl _ _⟩
  case round =>
    obtain ⟨k, rfl, hk, HA, HK⟩ := hrel
    by_cases hlt : k < n
    · have hlt' : (k : Int) < (n : Int) := by omega
      have R := HRd.out wr (Kept.trans HK3.out HK.out)
      obtain ⟨bb, off, hro, hc⟩ := (HI.out wr HK.out).at (k := k) (by rw [HN.out]; exact hlt)
      have y0 := hc k (by rw [HN.out]; exact hlt)
      have hbd := (HI.out wr HK.out).bd k
      obtain ⟨v, hv⟩ : ∃ v, hz (rootsM m) k = v := ⟨_, rfl⟩
      rw [hv] at y0 hbd
      have HV : Hid _ := hv
      have c1 := R.c1
      have hVo := valueOk_ok wr lo lc m.zs 11 v R.ly hbd.1 hbd.2
      rw [val11] at hVo
      have hKd := impl_Kind_ok v wr
      rw [hro]
      have hk7 : v % 8 ≤ 7 := by omega
      cases hle : leadsR m.zs v 5 with
      | false =>
        rw [hle] at hVo
        have HN2 : Hid (heldR m.zs m.bs (rootsM m) = false) := heldR_no (k := k) (by rw [HN.out]; exact hlt) (by rw [HV.out]; exact scR_no hle)
        clear hv hc hle R hro hbd hk7
        go_wp2_with (go_at_call 104; refine hVo.mono ?_; rintro e wx ⟨rfl, rfl⟩)
        go_ret
        exact ⟨by rw [HE.out, HN2.out]; rfl, Kept.trans HK0.out (Kept.trans HKS.out (Kept.trans HK3.out HK.out))⟩
      | true =>
        rw [hle] at hVo
        by_cases h4 : v % 8 < 4
        · have HS : Hid (allR (fun i => scR m.zs m.bs (hz (rootsM m) i)) (k + 1) = true) := by rw [Hid, allR_succ, HA.out]; simp only [HV.out, scR_low hle h4, Bool.and_self]
          have hLd := leads_ok (v % 8) wr hk7
          rw [decide_eq_false (show ¬ 4 ≤ v % 8 by omega)] at hLd
          obtain ⟨q, hqv⟩ : ∃ q, v % 8 = q := ⟨_, rfl⟩
          rw [hqv] at hKd hLd
          clear hv hc hle R hro hbd hk7 h4 hqv
          go_wp2_with (first
            | (go_at_call 104; refine hVo.mono ?_; rintro e wx ⟨rfl, rfl⟩)
            | (go_at_call 124; refine hKd.mono ?_; rintro e wx ⟨rfl, rfl⟩)
            | (go_at_call 131; refine hLd.mono ?_; rintro e wx ⟨rfl, rfl⟩))
          go_roundw
          case rel => exact ⟨k + 1, by go_num, by omega, HS.out, HK.out⟩
          case measure => simp [intOf]; omega
        · obtain ⟨p, hp, hpz⟩ := leads_place hle (by omega)
          have hsc := scR_at (bs := m.bs) hle (show 4 ≤ v % 8 by omega)
          rw [hp] at hsc
          have hLd := leads_ok (v % 8) wr hk7
          rw [decide_eq_true (show 4 ≤ v % 8 by omega)] at hLd
          have hNm := impl_Num_ok v wr hbd.1 hbd.2
          rw [hp] at hNm
          have hcol := R.col (n := p) (by omega)
          have hc2 := colAt_2 (gs := m.gs) (bs := m.bs) (n := p)
          obtain ⟨cl, hcl⟩ : ∃ cl, colAt m.gs m.bs p = cl := ⟨_, rfl⟩
          rw [hcl] at hcol hc2
          obtain ⟨q, hqv⟩ : ∃ q, v % 8 = q := ⟨_, rfl⟩
          rw [hqv] at hKd hLd
          have hp2 : (p : Int) < 2000 := by omega
          cases hin : decide ((p : Int) ∈ m.bs) with
          | true =>
            have HS : Hid (allR (fun i => scR m.zs m.bs (hz (rootsM m) i)) (k + 1) = true) := by rw [Hid, allR_succ, HA.out]; simp only [HV.out, hsc, hin, Bool.and_self]
            rw [hin] at hc2
            clear hv hc hle R hro hbd hk7 h4 hqv hcl hsc hin hp hpz
            go_wp2_with (first
              | (go_at_call 104; refine hVo.mono ?_; rintro e wx ⟨rfl, rfl⟩)
              | (go_at_call 124; refine hKd.mono ?_; rintro e wx ⟨rfl, rfl⟩)
              | (go_at_call 131; refine hLd.mono ?_; rintro e wx ⟨rfl, rfl⟩)
              | (go_at_call 132; refine hNm.mono ?_; rintro e wx ⟨rfl, rfl⟩))
            go_roundw
            case rel => exact ⟨k + 1, by go_num, by omega, HS.out, HK.out⟩
            case measure => simp [intOf]; omega
          | false =>
            have HN2 : Hid (heldR m.zs m.bs (rootsM m) = false) := heldR_no (k := k) (by rw [HN.out]; exact hlt) (by rw [HV.out, hsc, hin])
            rw [hin] at hc2
            clear hv hc hle R hro hbd hk7 h4 hqv hcl hsc hin hp hpz
            go_wp2_with (first
              | (go_at_call 104; refine hVo.mono ?_; rintro e wx ⟨rfl, rfl⟩)
              | (go_at_call 124; refine hKd.mono ?_; rintro e wx ⟨rfl, rfl⟩)
              | (go_at_call 131; refine hLd.mono ?_; rintro e wx ⟨rfl, rfl⟩)
              | (go_at_call 132; refine hNm.mono ?_; rintro e wx ⟨rfl, rfl⟩))
            go_ret
            exact ⟨by rw [HE.out, HN2.out]; rfl, Kept.trans HK0.out (Kept.trans HKS.out (Kept.trans HK3.out HK.out))⟩
    · have hlt' : ¬ (k : Int) < (n : Int) := by omega
      have HY : Hid (heldR m.zs m.bs (rootsM m) = true) := by
        have := HA.out
        rw [show k = (rootsM m).length by rw [HN.out]; omega] at this
        exact this
      go_wp2_with fail
      go_ret
      exact ⟨by rw [HE.out, HY.out]; rfl, Kept.trans HK0.out (Kept.trans HKS.out (Kept.trans HK3.out HK.out))⟩
end Go.Proofs.YtgempjjnfpmndaaGreatDoor
