/-
  What a machine tells (chapter 18): spec.Told, impl.Told exactly; the laws' marks of an Outcome.
-/
import Derived.Test.YtgempjjnfpmndaaOwsA
import Derived.Test.YtgempjjnfpmndaaMchP
namespace Go.Proofs.Ytgempjjnfpmndaa
open Go.RowKit
set_option linter.unusedSimpArgs false
set_option linter.unusedVariables false
attribute [local go_sem] Plain.and7
/-- The code that is told. -/
def toldC (m : Mch) : Int := if m.ov then m.cd else 3
set_option maxHeartbeats 8000000 in
set_option maxRecDepth 100000 in
theorem eqOutc_ok (w : World) (c : Int) (ao bo : Option Addr) (ca cb : Nat) (ts : List ByteArray) (hA : StA w ao ts) (hB : StA w bo ts) (hl : ts.length ≤ 1048576) :
    Calls Try.prog 8 #[.agg #[.int .i64 c, .slice ao ts.length ca], .agg #[.int .i64 c, .slice bo ts.length cb]] w fun e w' => e = .returned (.bool true) ∧ Kept w w' := by
  have hk : Kept w ((w.alloc (.cells #[.int .i64 c, .slice ao ts.length ca] 36)).alloc (.cells #[.int .i64 c, .slice bo ts.length cb] 36)) := (Kept.alloc (Below.refl _ w) _).alloc _
  have hC := eqStrS_ok _ ao bo ca cb ts (hA.kept hk) (hB.kept hk) hl
  have hcc : (c != c) = false := by simp
  clear hA hB
  go_enter Try.func8, Try.ntmps8
  go_wp2_with (go_at_call 26; refine hC.mono ?_; rintro e w1 ⟨rfl, hK⟩)
  go_ret
  exact ⟨rfl, hk.trans hK⟩
set_option maxHeartbeats 8000000 in
set_option maxRecDepth 100000 in
theorem markOutc_ok (w : World) (base : Nat) (c : Int) (v : Value) (ts : List ByteArray) (hO : OwnS w base v ts) (hl : ts.length ≤ 1048576) :
    Calls Try.prog 11 #[.agg #[.int .i64 c, v], .int .i64 1] w fun e w' => e = .returned (.int .i64 ((ts.length : Int) + 1)) ∧ (∃ ao cap, v = .slice ao ts.length cap ∧ StA w' ao (marksS ts.length)) ∧ w.grownBy w' v.ownBlock := by
  have k0 : Kept w (w.alloc (.cells #[.int .i64 c, v] 36)) := Kept.alloc (Below.refl _ _) _
  have hC := markOwnS_ok _ base v ts (hO.kept k0) hl
  have b0 := Cells.new w 36 #[.int .i64 c, v]
  have b1 := b0.cell 1
  clear hO b0
  go_enter Try.func11, Try.ntmps11
  go_wp2_with (go_at_call 37; refine hC.mono ?_; rintro e w1 ⟨rfl, hS, hG⟩)
  go_ret
  exact ⟨rfl, hS, kept_grown k0 hG⟩
set_option maxHeartbeats 8000000 in
set_option maxRecDepth 100000 in
theorem heldOutc_ok (w : World) (c : Int) (ao : Option Addr) (cap n : Nat) (hA : StA w ao (marksS n)) (hl : n ≤ 1048576) :
    Calls Try.prog 12 #[.agg #[.int .i64 c, .slice ao n cap], .int .i64 1] w fun e w' => e = .returned (.int .i64 ((n : Int) + 1)) ∧ Kept w w' := by
  have k0 : Kept w (w.alloc (.cells #[.int .i64 c, .slice ao n cap] 36)) := Kept.alloc (Below.refl _ _) _
  have hC := heldOwnS_ok _ ao cap n (hA.kept k0) hl
  have hd : decide ((n : Int) + 1 < 0) = false := decide_eq_false (by omega)
  have hd' : ¬ (n : Int) + 1 < 0 := by omega
  clear hA
  go_enter Try.func12, Try.ntmps12
  go_wp2_with (go_at_call 38; refine hC.mono ?_; rintro e w1 ⟨rfl, hK⟩)
  go_ret
  exact ⟨rfl, k0.trans hK⟩
set_option maxHeartbeats 8000000 in
set_option maxRecDepth 100000 in
theorem impl_Told_ok (w : World) (h : MchH) (m : Mch) (ad : Addr) (ha : h.la = some ad) (hL : StA w h.la m.ls) (hl : m.ls.length ≤ 1048576) :
    Calls Try.prog 7 #[.agg (mchC h m)] w fun e w' => ∃ v, e = .returned (.agg #[.int .i64 (toldC m), v]) ∧ OwnS w' w.heap.size v m.ls ∧ Kept w w' := by
  obtain ⟨W0, hW0⟩ : ∃ W0, (w.alloc (.cells (mchC h m) 45)).alloc (.cells #[.int .i64 0, .slice none 0 0] 36) = W0 := ⟨_, rfl⟩
  have X0 : Hid (Cells W0 w.heap.size 45 (mchC h m)) := hW0 ▸ (Cells.new w 45 (mchC h m)).alloc _
  have X1 : Hid (Cells W0 (w.heap.size + 1) 36 #[.int .i64 0, .slice none 0 0]) := by
    have := Cells.new (w.alloc (.cells (mchC h m) 45)) 36 #[.int .i64 0, .slice none 0 0]
    simp only [World.size_alloc] at this
    exact hW0 ▸ this
  have k0 : Kept w W0 := hW0 ▸ (Kept.alloc (Below.refl _ _) _).alloc _
  have hs0 : W0.heap.size = w.heap.size + 2 := by rw [← hW0]; simp
  rw [ha] at hL
  have hC := cloneS_ok W0 ad h.lc m.ls (hL.kept k0) hl
  have HK0 : Hid (Kept w W0) := k0
  have HS0 : Hid (W0.heap.size = w.heap.size + 2) := hs0
  have a9 := X0.out.m9
  have a10 := X0.out.m10
  have a11 := X0.out.m11
  rw [ha] at a9
  unfold toldC
  obtain ⟨cd, hcd⟩ : ∃ x, m.cd = x := ⟨_, rfl⟩
  obtain ⟨ls, hls⟩ : ∃ x, m.ls = x := ⟨_, rfl⟩
  obtain ⟨ov, hov⟩ : ∃ x, m.ov = x := ⟨_, rfl⟩
  rw [hls] at a9 hC hl ⊢
  rw [hov] at a10 ⊢
  rw [hcd] at a11 ⊢
  clear hL k0 hs0 hls
  cases ov
  · go_enter Try.func7, Try.ntmps7
    go_upto_region 1 with (fail)
    try simp only [hW0]
    clear hW0
    go_upto_region 4 with (fail)
    go_wp2_with (go_at_call 25; refine hC.mono ?_; rintro e w1 ⟨v1, rfl, O1, k1⟩; obtain ⟨ro, rc, rfl, _⟩ := O1.at; have y := X1.out.kept k1; have c0 := y.cell 0; have c1 := y.cell 1; have f0 := y.frozen 0; have f1 := y.frozen 1; have l1 := y.lt; have HO : Hid (OwnS w1 W0.heap.size (.slice ro ls.length rc) ls) := O1; have HK : Hid (Kept W0 w1) := k1; clear O1 k1)
    have z := (y.set 0 (.int .i64 3)).set 1 (.slice ro ls.length rc)
    have z0 := z.cell 0
    have z1 := z.cell 1
    refine bodyPost_ret (v := .agg #[.int .i64 3, (.slice ro ls.length rc)]) (by simp [results, Try.results7, go_sem, z0, z1]) rfl ⟨_, rfl, ?_, ?_⟩
    · have e2 := HS0.out
      exact ownsRow_base (a := w.heap.size) (ownsRow_setCell_below (ownsRow_setCell_below HO.out (by simp [e2]) _) (by simp [e2]) _) (by omega)
    · exact ((Kept.trans HK0.out HK.out).set (by simp) _).set (by simp) _
  · go_enter Try.func7, Try.ntmps7
    go_upto_region 1 with (fail)
    try simp only [hW0]
    clear hW0
    go_upto_region 4 with (fail)
    go_wp2_with (go_at_call 25; refine hC.mono ?_; rintro e w1 ⟨v1, rfl, O1, k1⟩; obtain ⟨ro, rc, rfl, _⟩ := O1.at; have y := X1.out.kept k1; have c0 := y.cell 0; have c1 := y.cell 1; have f0 := y.frozen 0; have f1 := y.frozen 1; have l1 := y.lt; have HO : Hid (OwnS w1 W0.heap.size (.slice ro ls.length rc) ls) := O1; have HK : Hid (Kept W0 w1) := k1; clear O1 k1)
    have z := (y.set 0 (.int .i64 cd)).set 1 (.slice ro ls.length rc)
    have z0 := z.cell 0
    have z1 := z.cell 1
    refine bodyPost_ret (v := .agg #[.int .i64 cd, (.slice ro ls.length rc)]) (by simp [results, Try.results7, go_sem, z0, z1]) rfl ⟨_, rfl, ?_, ?_⟩
    · have e2 := HS0.out
      exact ownsRow_base (a := w.heap.size) (ownsRow_setCell_below (ownsRow_setCell_below HO.out (by simp [e2]) _) (by simp [e2]) _) (by omega)
    · exact ((Kept.trans HK0.out HK.out).set (by simp) _).set (by simp) _
set_option maxHeartbeats 8000000 in
set_option maxRecDepth 100000 in
theorem spec_Told_ok (w : World) (h : MchH) (m : Mch) (ad : Addr) (ha : h.la = some ad) (hL : StA w h.la m.ls) (hl : m.ls.length ≤ 1048576) :
    Calls Try.prog 5 #[.agg (mchC h m)] w fun e w' => ∃ v, e = .returned (.agg #[.int .i64 (toldC m), v]) ∧ OwnS w' w.heap.size v m.ls ∧ Kept w w' := by
  obtain ⟨i0, hi, hz0, hz1, hz2⟩ := info_parts infoStr
  obtain ⟨W0, hW0⟩ : ∃ W0, (w.alloc (.cells (mchC h m) 45)).alloc (.cells #[.int .i64 0, .slice none 0 0] 36) = W0 := ⟨_, rfl⟩
  have X0 : Hid (Cells W0 w.heap.size 45 (mchC h m)) := hW0 ▸ (Cells.new w 45 (mchC h m)).alloc _
  have X1 : Hid (Cells W0 (w.heap.size + 1) 36 #[.int .i64 0, .slice none 0 0]) := by
    have := Cells.new (w.alloc (.cells (mchC h m) 45)) 36 #[.int .i64 0, .slice none 0 0]
    simp only [World.size_alloc] at this
    exact hW0 ▸ this
  have k0 : Kept w W0 := hW0 ▸ (Kept.alloc (Below.refl _ _) _).alloc _
  have hs0 : W0.heap.size = w.heap.size + 2 := by rw [← hW0]; simp
  rw [ha] at hL
  have hrow : (W0.alloc (.cells #[] 9)).ownsRow W0.heap.size 9 1 (.slice (some ⟨W0.heap.size, 0, none⟩) 0 0) 0 [] := ⟨rfl, .inr ⟨W0.heap.size, 0, #[], rfl, Nat.le_refl _, heap_alloc_new W0 _, Nat.le_refl _, by unfold maxLen; omega, rfl, rfl⟩⟩
  have hcell := (hL.kept (Kept.alloc k0 (.cells #[] 9))).news
  have HK0 : Hid (Kept w W0) := k0
  have HS0 : Hid (W0.heap.size = w.heap.size + 2) := hs0
  have Z0 := X0.out.alloc (.cells #[] 9)
  have a9 := Z0.m9
  rw [ha] at a9
  unfold toldC
  obtain ⟨cd, hcd⟩ : ∃ x, m.cd = x := ⟨_, rfl⟩
  obtain ⟨ls, hls⟩ : ∃ x, m.ls = x := ⟨_, rfl⟩
  obtain ⟨ov, hov⟩ : ∃ x, m.ov = x := ⟨_, rfl⟩
  rw [hls] at a9 hl hcell ⊢
  rw [hov, hcd]
  have HX : Hid (∀ u, Kept W0 u → u.cell? ⟨w.heap.size, 10, none⟩ = some (.bool ov) ∧ u.cell? ⟨w.heap.size, 11, none⟩ = some (.int .i64 cd)) := fun u hu => ⟨hov ▸ (X0.out.kept hu).m10, hcd ▸ (X0.out.kept hu).m11⟩
  clear hL k0 hs0 hls hov hcd Z0
  go_enter Try.func5, Try.ntmps5
  go_upto_region 1 with (fail)
  try simp only [hW0]
  clear hW0
  cases ov
  · go_wp2_with (at_builtin; refine wpList_append_own _ rfl _ _ 23 rfl W0.heap.size 9 i0 (.string ⟨#[]⟩) 1 16 Try.underlying23 hi hz0 hz1 hz2 rfl (by decide) _ _ _ rfl hrow ad ls.length h.lc (ls.map Value.string) rfl (by simp) hcell (by intro u hu; obtain ⟨z, _, rfl⟩ := List.mem_map.1 hu; rfl) (by unfold maxLen; omega) (by omega) (by simp) ?_; intro v' w5 hown' hgrow _; have O5 : OwnS w5 W0.heap.size v' ls := (by simpa [OwnS] using hown'); have K5 : Kept W0 w5 := (Kept.alloc (Below.refl _ W0) (.cells #[] 9)).grownRow hgrow (fun j ej => (hrow.lt j ej).1); obtain ⟨ro, rc, rfl, _⟩ := O5.at; clear hown' hgrow; have W6 : Hid (∀ x, Kept W0 (w5.alloc (.cells #[.int .i64 x, .slice ro ls.length rc] 36))) := fun x => K5.alloc _; obtain ⟨a10, a11⟩ := HX.out _ (W6.out 3); have y := X1.out.kept (W6.out 3); have c0 := y.cell 0; have c1 := y.cell 1; have f0 := y.frozen 0; have f1 := y.frozen 1; have l1 := y.lt; have HO : Hid (OwnS w5 W0.heap.size (.slice ro ls.length rc) ls) := O5; have HK : Hid (Kept W0 w5) := K5; clear O5 K5)
    have z := (y.set 0 (.int .i64 3)).set 1 (.slice ro ls.length rc)
    have z0 := z.cell 0
    have z1 := z.cell 1
    refine bodyPost_ret (v := .agg #[.int .i64 3, (.slice ro ls.length rc)]) (by simp [results, Try.results5, go_sem, z0, z1]) rfl ⟨_, rfl, ?_, ?_⟩
    · have e2 := HS0.out
      exact ownsRow_base (a := w.heap.size) (ownsRow_setCell_below (ownsRow_setCell_below (HO.out.alloc _) (by simp [e2]) _) (by simp [e2]) _) (by omega)
    · exact ((Kept.trans HK0.out (W6.out 3)).set (by simp) _).set (by simp) _
  · go_wp2_with (at_builtin; refine wpList_append_own _ rfl _ _ 23 rfl W0.heap.size 9 i0 (.string ⟨#[]⟩) 1 16 Try.underlying23 hi hz0 hz1 hz2 rfl (by decide) _ _ _ rfl hrow ad ls.length h.lc (ls.map Value.string) rfl (by simp) hcell (by intro u hu; obtain ⟨z, _, rfl⟩ := List.mem_map.1 hu; rfl) (by unfold maxLen; omega) (by omega) (by simp) ?_; intro v' w5 hown' hgrow _; have O5 : OwnS w5 W0.heap.size v' ls := (by simpa [OwnS] using hown'); have K5 : Kept W0 w5 := (Kept.alloc (Below.refl _ W0) (.cells #[] 9)).grownRow hgrow (fun j ej => (hrow.lt j ej).1); obtain ⟨ro, rc, rfl, _⟩ := O5.at; clear hown' hgrow; have W6 : Hid (∀ x, Kept W0 (w5.alloc (.cells #[.int .i64 x, .slice ro ls.length rc] 36))) := fun x => K5.alloc _; obtain ⟨a10, a11⟩ := HX.out _ (W6.out 3); have y := X1.out.kept (W6.out cd); have c0 := y.cell 0; have c1 := y.cell 1; have f0 := y.frozen 0; have f1 := y.frozen 1; have l1 := y.lt; have HO : Hid (OwnS w5 W0.heap.size (.slice ro ls.length rc) ls) := O5; have HK : Hid (Kept W0 w5) := K5; clear O5 K5)
    have z := (y.set 0 (.int .i64 cd)).set 1 (.slice ro ls.length rc)
    have z0 := z.cell 0
    have z1 := z.cell 1
    refine bodyPost_ret (v := .agg #[.int .i64 cd, (.slice ro ls.length rc)]) (by simp [results, Try.results5, go_sem, z0, z1]) rfl ⟨_, rfl, ?_, ?_⟩
    · have e2 := HS0.out
      exact ownsRow_base (a := w.heap.size) (ownsRow_setCell_below (ownsRow_setCell_below (HO.out.alloc _) (by simp [e2]) _) (by simp [e2]) _) (by omega)
    · exact ((Kept.trans HK0.out (W6.out cd)).set (by simp) _).set (by simp) _
end Go.Proofs.Ytgempjjnfpmndaa
