/-
  The contracts of chapter 10's forwardOf, place and moved, and of impl.Moved.
  The contracts of chapter 10's place and moved, of impl.Moved and its model.
  The contract of spec.Forward.
  The contracts of impl.each at the method values place and moved, and of impl.Forward.
-/
import Derived.Deep.AppendLies
import Derived.Deep.RegionWith
import Derived.Test.YthloammkgogceaaGrpTk
import Derived.Test.YthloammkgogceaaShapeQ
import Derived.Test.YthloammkgogceaaSlabC
import Derived.Test.YthloammkgogceaaMrkG
import Derived.Test.YthloammkgogceaaSldA
import Derived.Test.YthloammkgogceaaGrpKe
import Derived.Test.YthloammkgogceaaGrpRc
namespace Go.Proofs.Ythloammkgogceaa
open Go.RowKit Go.Shelf
attribute [local go_sem] Oper.semAt_some

/-- A forward, as a value. -/
abbrev fwV (lo : Option Addr) (n lc : Nat) (to' : Value) (e : Nat) : Value := .agg #[.slice lo n lc, to', .int .i64 (e : Nat)]
theorem szs_le {zs : List Int} {pre : List (BkOf zs.length)} (h : pre <+: tkL (blocks zs)) : szsB pre ≤ zs.length := by
  obtain ⟨r, e⟩ := h
  have h1 := slidW_szs zs (blocks zs)
  have h2 := slidW_le zs
  rw [← e, szsB_app] at h1
  omega
theorem slab_two {zs : List Int} (hok : slabOk zs = true) (h0 : zs ≠ []) : 2 ≤ zs.length := by
  have h := ((Bnd.zero hok).good (List.length_pos_iff.2 h0)).1
  have h1 := h.sz2
  have h2 := h.le
  omega
theorem Ints.apart3 {W : World} {ao : Option Addr} {zs : List Int} (h : Ints W ao zs) {B : Nat} {t : TypeId} {x y z : Value} (hc : Cells W B t #[x, y, z]) (hx : ∀ n : Int, x ≠ .int .i64 n) (hy : ∀ n : Int, y ≠ .int .i64 n) (h2 : 2 ≤ zs.length) : ∀ a, ao = some a → a.block ≠ B := by
  intro a e hb
  obtain ⟨b, off, e', hcell⟩ := h.at (k := 0) (by omega)
  rw [e] at e'
  cases e'
  have h0 := hcell 0 (by omega)
  have h1 := hcell 1 (by omega)
  simp only at hb
  subst hb
  rw [hc.cell] at h0 h1
  match off, h0, h1 with
  | 0, h0, _ => simp at h0; exact hx _ h0
  | 1, h0, _ => simp at h0; exact hy _ h0
  | k + 2, _, h1 => simp at h1
set_option maxHeartbeats 8000000 in
set_option maxRecDepth 100000 in
theorem forwardOf_ok (w : World) (ao : Option Addr) (cap : Nat) (zs : List Int) (hI : Ints w ao zs) (hl : zs.length ≤ 1048576) :
    Calls Try.prog 32 #[.agg #[.slice ao zs.length cap]] w fun e w' => (heapR zs = false → e = .returned (.tuple #[fwV none 0 0 (.slice none 0 0) 0, .bool false])) ∧
      (heapR zs = true → ∃ lo lc g, e = .returned (.tuple #[fwV lo zs.length lc (.slice (some ⟨g, 0, none⟩) zs.length zs.length) (szsB (tkL (blocks zs))), .bool true]) ∧ Ints w' lo (lyt zs) ∧ Row w' g (toL zs (tkL (blocks zs)))) ∧ Kept w w' := by
  have hL : zs.length * 8 ≤ 140737488351232 := by omega
  obtain ⟨i0, hi, hz0, hz1, hz2⟩ := info_parts infoI
  have b0 := (Cells.new w 27 #[.slice ao zs.length cap]).alloc (.cells #[.slice none 0 0, .slice none 0 0, .int .i64 0] 48)
  have b1 := Cells.new (w.alloc (.cells #[.slice ao zs.length cap] 27)) 48 #[.slice none 0 0, .slice none 0 0, .int .i64 0]
  simp only [World.size_alloc] at b0 b1
  have k0 : Kept w ((w.alloc (.cells #[.slice ao zs.length cap] 27)).alloc (.cells #[.slice none 0 0, .slice none 0 0, .int .i64 0] 48)) := (Kept.alloc (Below.refl _ _) _).alloc _
  have hLo := heapLayout_ok _ ao cap zs (hI.kept k0) hl
  cases hh : heapR zs with
  | false =>
    have hLo' := hLo.mono (R' := fun e w' => e = .returned (.tuple #[.slice none 0 0, .bool false]) ∧ Kept ((w.alloc (.cells #[.slice ao zs.length cap] 27)).alloc (.cells #[.slice none 0 0, .slice none 0 0, .int .i64 0] 48)) w') (fun e w' h => ⟨h.1 hh, h.2.2⟩)
    clear hh hLo hI
    go_enter Try.func32, Try.ntmps32
    go_wp2_with (go_at_call 27; refine hLo'.mono ?_; rintro e w1 ⟨rfl, hk1⟩; have d1 := b1.kept hk1; have c10 := d1.cell 0; have c11 := d1.cell 1; have c12 := d1.cell 2; have f10 := d1.frozen 0; have f11 := d1.frozen 1; have f12 := d1.frozen 2; have l1 := d1.lt)
    have q := d1.set3 (.slice none 0 0) (.slice none 0 0) (.int .i64 0)
    refine bodyPost_ret (v := .tuple #[fwV none 0 0 (.slice none 0 0) 0, .bool false]) (by simp [results, Try.results32, go_sem, q.cell 0, q.cell 1, q.cell 2]) rfl ⟨fun _ => rfl, fun h => by simp at h, ?_⟩
    exact (((k0.trans hk1).set (p := ⟨w.heap.size + 1, 0, none⟩) (by simp) _).set (p := ⟨w.heap.size + 1, 1, none⟩) (by simp) _).set (p := ⟨w.heap.size + 1, 2, none⟩) (by simp) _
  | true =>
    have hLo' := hLo.mono (R' := fun e w' => ∃ lo lc, e = .returned (.tuple #[.slice lo zs.length lc, .bool true]) ∧ Ints w' lo (lyt zs) ∧ Kept ((w.alloc (.cells #[.slice ao zs.length cap] 27)).alloc (.cells #[.slice none 0 0, .slice none 0 0, .int .i64 0] 48)) w') (fun e w' h => by obtain ⟨lo, lc, h1, h2⟩ := h.2.1 hh; exact ⟨lo, lc, h1, h2, h.2.2⟩)
    have HH : Hid (heapR zs = true) := hh
    clear hLo hh
    refine (callsIn_wide (n := 9)).1 ?_
    refine callsIn_of_wp_marks Try.func32 rfl trivial ?_ rfl
    simp only [Try.ntmps32, List.size_toArray, List.length_cons, List.length_nil, Nat.reduceAdd, Nat.reduceSub, Array.replicate_succ, Array.replicate_zero, List.push_toArray, List.append_toArray, List.nil_append, List.cons_append]
    refine wpIn_wide.2 ?_
    go_wp2_with fail
    refine hLo'.mono ?_
    rintro e w1 ⟨lo, lc, rfl, hLy, hk1⟩
    have x0 := b0.kept hk1
    have cx0 := x0.cell 0
    have lx0 := x0.lt
    go_wp2_with (first | (at_make; refine wpList_make_full _ rfl _ _ 22 rfl w1.heap.size 3 i0 (.int .i64 0) 1 Try.underlying22 hi hz0 hz1 .i64 .i64 _ _ zs.length rfl rfl rfl rfl (by rw [hz2]; omega) (by unfold maxLen; omega) (by simp) ?_; intro w2 hown hgrow; have hK2 : Kept w1 w2 := (Below.refl _ _).grown hgrow (Nat.le_refl _) (by simp); have x2 := x0.kept hK2; have cx2 := (x2.alloc (.cells #[.slice lo zs.length lc, .slice (some ⟨w1.heap.size, 0, none⟩) zs.length zs.length, .int .i64 0] 48)).cell 0; have lx2 := x2.lt) | (go_at_call 33; refine (takenOf_ok _ _ _ _).mono ?_; rintro e w5 ⟨rfl, rfl⟩))
    rw [madeInts] at hown
    have hR2 := (Row.of_owns (zs := List.replicate zs.length 0) (by simpa using hown) (by simp)).1
    have ka : Kept w2 ((w2.alloc (.cells #[.slice lo zs.length lc, .slice (some ⟨w1.heap.size, 0, none⟩) zs.length zs.length, .int .i64 0] 48)).alloc (.cells #[.slice ao zs.length cap] 22)) := (Kept.alloc (Below.refl _ _) _).alloc _
    have xf := (Cells.new w2 48 #[.slice lo zs.length lc, .slice (some ⟨w1.heap.size, 0, none⟩) zs.length zs.length, .int .i64 0]).alloc (.cells #[.slice ao zs.length cap] 22)
    have bB := Cells.new (w2.alloc (.cells #[.slice lo zs.length lc, .slice (some ⟨w1.heap.size, 0, none⟩) zs.length zs.length, .int .i64 0] 48)) 22 #[.slice ao zs.length cap]
    simp only [World.size_alloc] at bB
    have hsz : ((w2.alloc (.cells #[.slice lo zs.length lc, .slice (some ⟨w1.heap.size, 0, none⟩) zs.length zs.length, .int .i64 0] 48)).alloc (.cells #[.slice ao zs.length cap] 22)).heap.size = w2.heap.size + 2 := by simp
    have y1 := ((b1.kept hk1).kept hK2).kept ka
    have rg := hR2.kept ka
    have hlt1 := hR2.lt
    have ly := (hLy.kept hK2).kept ka
    have hly : ∀ a, lyt zs ≠ [] → lo = some a → a.block < w1.heap.size := fun a h e => hLy.lt h e
    have ky := ((k0.trans hk1).trans hK2).trans ka
    have hs1 := (k0.trans hk1).size
    have hs1' := (b1.kept hk1).lt
    clear hown hgrow hLo' x0 cx0 lx0 x2 cx2 lx2 hR2 hLy b0 b1 hk1 hK2 ka k0
    obtain ⟨g, hg⟩ : ∃ g, w1.heap.size = g := ⟨_, rfl⟩
    rw [hg] at xf bB hsz y1 rg hlt1 ly hly ky hs1 hs1' ⊢
    obtain ⟨Bf, hBf⟩ : ∃ Bf, w2.heap.size = Bf := ⟨_, rfl⟩
    rw [hBf] at xf bB hsz hlt1 ⊢
    obtain ⟨W0, hW0⟩ : ∃ W0, (w2.alloc (.cells #[.slice lo zs.length lc, .slice (some ⟨g, 0, none⟩) zs.length zs.length, .int .i64 0] 48)).alloc (.cells #[.slice ao zs.length cap] 22) = W0 := ⟨_, rfl⟩
    rw [hW0] at xf bB hsz y1 rg ly ky ⊢
    clear hW0 hg hBf
    refine (wpIn_wide (n := 9)).1 ?_
    refine range_tells (X := fun k => k = Bf ∨ k = g) (nI := W0.heap.size) (l0 := tkL (blocks zs)) (n := 9) (by omega) rfl (enters_of Try.func54 (by kernel_rfl) rfl) (by simp) (by simp) (by decide)
      (takenOf_tells (9 - 1) (by omega) (Bf + 1) (Bf + 1) W0.heap.size W0.heap.size _ ao cap zs hL (fun a h e => ⟨by have := hI.lt h e; omega, by have := hI.lt h e; omega⟩) (by intro k h; omega) W0 (by omega) (Nat.le_refl _) bB (hI.kept ky))
      (fun pre W => (Row W g (toL zs pre) ∧ Cells W Bf 48 #[.slice lo zs.length lc, .slice (some ⟨g, 0, none⟩) zs.length zs.length, .int .i64 (szsB pre : Nat)]) ∧ (Below w.heap.size w W ∧ KeepX (fun k => k = Bf ∨ k = g) W0.heap.size W0 W))
      ?oi ⟨⟨by simpa [toL] using rg, by simpa [szsB] using xf⟩, ky, KeepX.of (Below.refl _ _)⟩ ?body ?done
    case oi => exact OwnFrom.and (OwnFrom.and (Own.from (Row.own g (fun pre => toL zs pre)) _) (Own.from (Cells.own _ _ (fun pre => #[.slice lo zs.length lc, .slice (some ⟨g, 0, none⟩) zs.length zs.length, .int .i64 (szsB pre : Nat)])) _)) (OwnFrom.and (ownFrom_below (Nat.le_refl _) (by omega)) (KeepX.own (Nat.le_refl _)))
    case body =>
      rintro l pre x W Bx hBx bX ⟨⟨r1, d1⟩, hB1, hK1⟩ hpre
      have hx := x.2
      have hmv := (movT_tk hpre).1
      have hle := szs_le hpre
      rw [szsB_snoc] at hle
      have c0 := bX.cell 0
      have c1 := bX.cell 1
      have lX := bX.lt
      have d10 := d1.cell 0
      have d11 := d1.cell 1
      have d12 := d1.cell 2
      have f12 := d1.frozen 2
      have ld := d1.lt
      have hlen := toL_len zs pre
      have gx := r1.cell (j := x.1.at') (by rw [hlen]; omega)
      have fx := r1.frozen x.1.at'
      have HR : Hid (Row (W.setCell ⟨g, x.1.at', none⟩ (.int .i64 ((szsB pre : Nat) : Int))) g ((toL zs pre).set x.1.at' ((szsB pre : Nat) : Int))) := r1.set (k := x.1.at') (v := ((szsB pre : Nat) : Int)) (by rw [hlen]; omega) ⟨by omega, by omega⟩
      have HT : Hid (toL zs (pre ++ [x]) = (toL zs pre).set x.1.at' ((szsB pre : Nat) : Int)) := by rw [Hid, toL_snoc, hmv]
      have HS : Hid (szsB (pre ++ [x]) = szsB pre + x.1.size) := szsB_snoc _ _
      have HRow : Hid _ := r1
      have d1' := d1.other (p := ⟨g, x.1.at', none⟩) (by simp; omega) (.int .i64 ((szsB pre : Nat) : Int))
      have e12 := d1'.cell 2
      have g12 := d1'.frozen 2
      have cx1 := (bX.other (p := ⟨g, x.1.at', none⟩) (by simp; omega) (.int .i64 ((szsB pre : Nat) : Int))).cell 1
      have q1 : ((x.1.at' : Nat) : Int) < (zs.length : Int) := by omega
      clear hlen r1 hmv hpre
      simp only [List.setIfInBounds_toArray, List.set_cons_succ, List.set_cons_zero]
      gi_wp2
      have kx : KeepX (fun k => k = Bf ∨ k = g) (Bf + 2) W ((W.setCell ⟨g, x.1.at', none⟩ (.int .i64 ((szsB pre : Nat) : Int))).setCell ⟨Bf, 2, none⟩ (.int .i64 (((szsB pre : Nat) : Int) + ((x.1.size : Nat) : Int)))) := (KeepX.setCell (p := ⟨g, x.1.at', none⟩) (.inr rfl) _).t (KeepX.setCell (p := ⟨Bf, 2, none⟩) (.inl rfl) _)
      refine ⟨((KeepsOthers.setCell _ _ _).trans (KeepsOthers.setCell _ _ _)).from _, kx, ⟨?_, ?_⟩, (hB1.setCell (p := ⟨g, x.1.at', none⟩) (by simp; omega) _).setCell (p := ⟨Bf, 2, none⟩) (by simp; omega) _, ?_⟩
      · rw [HT.out]
        exact Row.other HR.out (by simp; omega) _
      · rw [HS.out]
        have := d1'.set 2 (.int .i64 (((szsB pre : Nat) : Int) + ((x.1.size : Nat) : Int)))
        simpa using this
      · rw [hsz] at hK1
        exact hK1.t kx
    case done =>
      rintro D W hD ⟨⟨r1, d1⟩, hB1, hK1⟩ hK
      have z1 := y1.keptX hK1 (by omega) (by omega)
      have e0 := d1.cell 0
      have e1 := d1.cell 1
      have e2 := d1.cell 2
      have z10 := z1.cell 0
      have z11 := z1.cell 1
      have z12 := z1.cell 2
      have g10 := z1.frozen 0
      have g11 := z1.frozen 1
      have g12 := z1.frozen 2
      go_wp2
      have hK' := ((others3 (W := W) (B := w.heap.size + 1) (.slice lo zs.length lc) (.slice (some ⟨g, 0, none⟩) zs.length zs.length) (.int .i64 (szsB (tkL (blocks zs)) : Nat)))).same D _ hK rfl
      refine ⟨by simp, .inl ⟨_, _, rfl, run_takeDeferred hK', ?_⟩⟩
      have q := (z1.set3 (.slice lo zs.length lc) (.slice (some ⟨g, 0, none⟩) zs.length zs.length) (.int .i64 (szsB (tkL (blocks zs)) : Nat))).put hK' rfl (.deferred none)
      refine ⟨.tuple #[fwV lo zs.length lc (.slice (some ⟨g, 0, none⟩) zs.length zs.length) (szsB (tkL (blocks zs))), .bool true], by simp [results, Try.results32, go_sem, q.cell 0, q.cell 1, q.cell 2], fun h => absurd h (by simp), fun _ => ⟨lo, lc, g, rfl, ?_, ?_⟩, ?_⟩
      · have hy := hK1.ints ly (fun a hne e => ⟨by have := hly a hne e; omega, by have := hly a hne e; omega⟩)
        refine ((KeepX.set3 (X := fun k => k = w.heap.size + 1) (nI := W0.heap.size) rfl (.slice lo zs.length lc) (.slice (some ⟨g, 0, none⟩) zs.length zs.length) (.int .i64 (szsB (tkL (blocks zs)) : Nat))).t (KeepX.b _ D _ _ hK' rfl)).ints hy (fun a hne e => ⟨?_, by have := hly a hne e; omega⟩)
        exact ly.apart3 y1 (by intro n; simp) (by intro n; simp) (by rw [lyt_len]; exact slab_two (heapR_slab HH.out) (by intro h0; rw [h0] at hne; exact hne rfl)) a e
      · exact ((((r1.other (p := ⟨w.heap.size + 1, 0, none⟩) (by simp; omega) _).other (p := ⟨w.heap.size + 1, 1, none⟩) (by simp; omega) _).other (p := ⟨w.heap.size + 1, 2, none⟩) (by simp; omega) _)).put hK' rfl (.deferred none)
      · exact Below.trans (below3 hB1 (by omega) _ _ _) (belowK_b (w := w) (Nat.le_refl _) _ D _ _ (by omega) hK' rfl rfl)
end Go.Proofs.Ythloammkgogceaa
namespace Go.Proofs.Ythloammkgogceaa
open Go.RowKit
attribute [local go_sem] Plain.and7

theorem block_lead (zs : List Int) (v : Int) : blockV zs v = leadV zs v := by
  unfold blockV leadV
  rw [val11, val6]
  by_cases h4 : 4 ≤ v % 8
  · have hv : ¬ v = 0 := by omega
    rcases (show v % 8 = 4 ∨ v % 8 = 5 ∨ v % 8 = 6 ∨ v % 8 = 7 by omega) with h | h | h | h
    all_goals (simp only [nextR, leadsR, wantK, h, hv, decide_false, Bool.false_or]; cases vOk v <;> simp)
  · simp [h4]
theorem lead_tk {zs : List Int} {a : Int} (h : 1 ≤ kindAt zs a) : ∃ x ∈ tkL (blocks zs), ((x.1.at' : Nat) : Int) = a ∧ slabOk zs = true := by
  unfold kindAt atB at h
  by_cases hok : slabOk zs = true
  · rw [if_pos hok] at h
    cases hf : (blocks zs).find? (fun b => decide ((b.1.at' : Int) = a)) with
    | none => rw [hf] at h; simp at h
    | some b =>
      rw [hf] at h
      simp only at h
      refine ⟨b, List.mem_filter.2 ⟨List.mem_of_find?_eq_some hf, ?_⟩, by simpa using List.find?_some hf, hok⟩
      simp
      omega
  · rw [if_neg hok] at h
    simp at h
theorem movdV_bd {zs : List Int} {v : Int} (hv : -9223372036854775808 ≤ v ∧ v ≤ 9223372036854775807) : -9223372036854775808 ≤ movdV zs v ∧ movdV zs v ≤ 9223372036854775807 := by
  unfold movdV
  split
  · rename_i h
    obtain ⟨h1, h2⟩ := lead_kind h
    obtain ⟨x, hx, e, hok⟩ := lead_tk h2
    have h3 := x.2
    exact movV_in hok hv (fun _ => by omega)
  · exact hv
set_option maxHeartbeats 2000000 in
theorem place_ok (w : World) (lo : Option Addr) (n lc g tc e a : Nat) (tz : List Int) (hR : Row w g tz) (ha : a < tz.length) :
    Calls Try.prog 35 #[fwV lo n lc (.slice (some ⟨g, 0, none⟩) tz.length tc) e, .int .i64 (a : Nat)] w fun e w' => e = .returned (.int .i64 (hz tz a)) ∧ Kept w w' := by
  have k0 : Kept w (w.alloc (.cells #[.slice lo n lc, .slice (some ⟨g, 0, none⟩) tz.length tc, .int .i64 (e : Nat)] 48)) := Kept.alloc (Below.refl _ _) _
  have b0 := Cells.new w 48 #[.slice lo n lc, .slice (some ⟨g, 0, none⟩) tz.length tc, .int .i64 (e : Nat)]
  have c1 := b0.cell 1
  have r1 := (hR.kept k0).cell ha
  have q1 : ((a : Nat) : Int) < (tz.length : Int) := by omega
  have lg := hR.lt
  clear hR
  go_enter Try.func35, Try.ntmps35
  go_wp2
  go_ret
  exact ⟨rfl, k0⟩
set_option maxHeartbeats 8000000 in
set_option maxRecDepth 100000 in
theorem moved_ok (w : World) (lo : Option Addr) (lc g tc e : Nat) (zs : List Int) (v : Int) (hLy : Ints w lo (lyt zs)) (hR : Row w g (toL zs (tkL (blocks zs)))) (hv : -9223372036854775808 ≤ v ∧ v ≤ 9223372036854775807) :
    Calls Try.prog 38 #[fwV lo zs.length lc (.slice (some ⟨g, 0, none⟩) zs.length tc) e, .int .i64 v] w fun e w' => e = .returned (.int .i64 (movdV zs v)) ∧ Kept w w' := by
  have k0 : Kept w (w.alloc (.cells #[.slice lo zs.length lc, .slice (some ⟨g, 0, none⟩) zs.length tc, .int .i64 (e : Nat)] 48)) := Kept.alloc (Below.refl _ _) _
  have b0 := Cells.new w 48 #[.slice lo zs.length lc, .slice (some ⟨g, 0, none⟩) zs.length tc, .int .i64 (e : Nat)]
  have c0 := b0.cell 0
  cases hy : leadV zs v with
  | false =>
    have HE : Hid (movdV zs v = v) := by simp [Hid, movdV, hy]
    have hC := leadsTo_no _ lo lc zs v (hLy.kept k0) hv.1 hv.2 hy
    clear hy hLy hR
    go_enter Try.func38, Try.ntmps38
    go_wp2_with (go_at_call 57; refine hC.mono ?_; rintro e w1 ⟨rfl, rfl⟩)
    go_ret
    exact ⟨by rw [HE.out]; rfl, k0⟩
  | true =>
    obtain ⟨h4, hk⟩ := lead_kind hy
    obtain ⟨x, hx, ex, hok⟩ := lead_tk hk
    have hlen := slabOk_len hok
    have hx2 := x.2
    obtain ⟨a, ha⟩ : ∃ a, x.1.at' = a := ⟨_, rfl⟩
    have hto := toL_at hx
    have hml := movT_le (a := a) hok (by omega)
    have hM : (movT zs a : Int) < 2000 := by
      obtain ⟨s, r, es⟩ := List.append_of_mem hx
      have hp : s ++ [x] <+: tkL (blocks zs) := ⟨r, by rw [es]; simp⟩
      have h1 := (movT_tk hp).1
      have h2 := szs_le hp
      rw [szsB_snoc] at h2
      rw [ha] at h1
      omega
    rw [ha] at hto ex
    have HE : Hid (movdV zs v = vRef (v % 8) ((movT zs a : Nat) : Int)) := by
      rw [Hid, vRef_yes ⟨h4, by omega, by omega, by omega⟩, movdV, if_pos hy, movV, if_neg (by omega)]
      rw [show (v / 8).toNat = a by omega]
    have hC := leadsTo_yes _ lo lc zs v (hLy.kept k0) hv.1 hv.2 hy
    rw [← ex] at hC
    have hP : ∀ u : World, Kept (w.alloc (.cells #[.slice lo zs.length lc, .slice (some ⟨g, 0, none⟩) zs.length tc, .int .i64 (e : Nat)] 48)) u → Calls Try.prog 35 #[fwV lo zs.length lc (.slice (some ⟨g, 0, none⟩) zs.length tc) e, .int .i64 (a : Nat)] u fun e w' => e = .returned (.int .i64 ((movT zs a : Nat) : Int)) ∧ Kept u w' := fun u hu => by
      have := place_ok u lo zs.length lc g tc e a _ ((hR.kept k0).kept hu) (by rw [toL_len]; omega)
      rw [hto, toL_len] at this
      exact this
    obtain ⟨W1, hW1⟩ : ∃ W1, w.alloc (.cells #[.slice lo zs.length lc, .slice (some ⟨g, 0, none⟩) zs.length tc, .int .i64 (e : Nat)] 48) = W1 := ⟨_, rfl⟩
    rw [hW1] at hP hC k0 b0 c0
    have kd1 : Kept W1 W1.drew := (Below.refl _ W1).drew
    have HP : Hid (∀ u : World, Kept W1.drew u → Calls Try.prog 35 #[fwV lo zs.length lc (.slice (some ⟨g, 0, none⟩) zs.length tc) e, .int .i64 (a : Nat)] u fun e w' => e = .returned (.int .i64 ((movT zs a : Nat) : Int)) ∧ Kept u w') := fun u hu => hP u (kd1.trans hu)
    have HK : Hid (∀ u : World, Kept W1.drew u → Calls Try.prog 59 #[.int .i64 v] u fun e w' => e = .returned (.int .i64 (v % 8)) ∧ Kept u w') := fun u _ => (impl_Kind_ok v u).mono (fun e w' h => ⟨h.1, by rw [← h.2]; exact Below.refl _ _⟩)
    have HF : Hid (∀ u : World, Kept W1.drew u → Calls Try.prog 58 #[.int .i64 (v % 8), .int .i64 ((movT zs a : Nat) : Int)] u fun e w' => e = .returned (.int .i64 (vRef (v % 8) ((movT zs a : Nat) : Int))) ∧ Kept u w') := fun u _ => (impl_RefOf_ok _ _ u).mono (fun e w' h => ⟨h.1, by rw [← h.2]; exact Below.refl _ _⟩)
    have HB : Hid (∀ u, Kept W1.drew u → u.cell? ⟨w.heap.size, 0, none⟩ = some (.slice lo zs.length lc) ∧ u.cell? ⟨w.heap.size, 1, none⟩ = some (.slice (some ⟨g, 0, none⟩) zs.length tc) ∧ u.cell? ⟨w.heap.size, 2, none⟩ = some (.int .i64 (e : Nat))) := fun u hu => by
      have := b0.kept (kd1.trans hu)
      exact ⟨this.cell 0, this.cell 1, this.cell 2⟩
    clear hLy hR hy hk hx hto ex ha hP
    go_enter Try.func38, Try.ntmps38
    go_wp2_with fail
    refine hC.mono ?_
    rintro e1 w1 ⟨rfl, rfl⟩
    clear hW1 hC b0
    go_wp2_with fail
    refine wp_region_seqL (by kernel_rfl) (by kernel_rfl) ?_
    repeat (first
      | (refine SeqL.pure ?_ (by rfl) ?_ ?_; rotate_left; (focus (intro u hu; obtain ⟨y0, y1, y2⟩ := HB.out u hu; go_simp; first | done | exact rfl)); simp only [Act.put, List.setIfInBounds_toArray, List.set_cons_zero, List.set_cons_succ])
      | (refine SeqL.call _ _ _ (by rfl) ?_ HK.out ?_; (focus (intro u; go_simp; done)); simp only [Act.put, List.setIfInBounds_toArray, List.set_cons_zero, List.set_cons_succ])
      | (refine SeqL.call _ _ _ (by rfl) ?_ HP.out ?_; (focus (intro u; go_simp; done)); simp only [Act.put, List.setIfInBounds_toArray, List.set_cons_zero, List.set_cons_succ])
      | (refine SeqL.call _ _ _ (by rfl) ?_ HF.out ?_; (focus (intro u; go_simp; done)); simp only [Act.put, List.setIfInBounds_toArray, List.set_cons_zero, List.set_cons_succ]))
    refine SeqL.nil ?_
    intro u hu
    have k2 := k0.trans (kd1.trans hu)
    clear HB HK HP HF
    go_wp2
    go_ret
    exact ⟨by rw [HE.out]; rfl, k2⟩
theorem leadV_nil (v : Int) : leadV [] v = false := by
  cases h : leadV [] v with
  | false => rfl
  | true =>
    obtain ⟨x, _, _⟩ := lead_tk (lead_kind h).2
    have := x.2
    simp at this
    omega
set_option maxHeartbeats 2000000 in
theorem moved_zero (w : World) (v : Int) (hv : -9223372036854775808 ≤ v ∧ v ≤ 9223372036854775807) :
    Calls Try.prog 38 #[fwV none 0 0 (.slice none 0 0) 0, .int .i64 v] w fun e w' => e = .returned (.int .i64 v) ∧ Kept w w' := by
  have k0 : Kept w (w.alloc (.cells #[.slice none 0 0, .slice none 0 0, .int .i64 0] 48)) := Kept.alloc (Below.refl _ _) _
  have c0 := (Cells.new w 48 #[.slice none 0 0, .slice none 0 0, .int .i64 0]).cell 0
  have hC : ∀ u, Calls Try.prog 57 #[.slice none 0 0, .int .i64 v] u fun e w' => e = .returned (.tuple #[.int .i64 0, .bool false]) ∧ u = w' := fun u => leadsTo_no u none 0 [] v ⟨by simp [lyt], .inl (by simp [lyt])⟩ hv.1 hv.2 (leadV_nil v)
  go_enter Try.func38, Try.ntmps38
  go_wp2_with (go_at_call 57; refine (hC _).mono ?_; rintro e w1 ⟨rfl, rfl⟩)
  go_ret
  exact ⟨rfl, k0⟩
set_option maxHeartbeats 4000000 in
theorem impl_Moved_ok (w : World) (ao : Option Addr) (cap : Nat) (zs : List Int) (v : Int) (hI : Ints w ao zs) (hl : zs.length ≤ 1048576) (hv : -9223372036854775808 ≤ v ∧ v ≤ 9223372036854775807) :
    Calls Try.prog 20 #[.agg #[.slice ao zs.length cap], .int .i64 v] w fun e w' => e = .returned (.int .i64 (movedC zs v)) ∧ Kept w w' := by
  have k0 : Kept w (w.alloc (.cells #[.slice ao zs.length cap] 27)) := Kept.alloc (Below.refl _ _) _
  have hF := forwardOf_ok _ ao cap zs (hI.kept k0) hl
  cases hh : heapR zs with
  | false =>
    have HE : Hid (movedC zs v = v) := by simp [Hid, movedC, hh]
    have hF' := hF.mono (R' := fun e w' => e = .returned (.tuple #[fwV none 0 0 (.slice none 0 0) 0, .bool false]) ∧ Kept (w.alloc (.cells #[.slice ao zs.length cap] 27)) w') (fun e w' h => ⟨h.1 hh, h.2.2⟩)
    clear hh hF hI
    go_enter Try.func20, Try.ntmps20
    go_wp2_with fail
    refine hF'.mono ?_
    rintro e w1 ⟨rfl, hk1⟩
    have x1 := Cells.new w1 48 #[.slice none 0 0, .slice none 0 0, .int .i64 0]
    have c0 := x1.cell 0
    have c1 := x1.cell 1
    have c2 := x1.cell 2
    have ka : Kept w1 (w1.alloc (.cells #[.slice none 0 0, .slice none 0 0, .int .i64 0] 48)) := Kept.alloc (Below.refl _ _) _
    go_wp2_with (go_at_call 38; refine (moved_zero _ v hv).mono ?_; rintro e w2 ⟨rfl, hk2⟩)
    go_ret
    exact ⟨by rw [HE.out]; rfl, ((k0.trans hk1).trans ka).trans hk2⟩
  | true =>
    have HE : Hid (movedC zs v = movdV zs v) := by simp [Hid, movedC, hh]
    have hF' := hF.mono (R' := fun e w' => ∃ lo lc g, e = .returned (.tuple #[fwV lo zs.length lc (.slice (some ⟨g, 0, none⟩) zs.length zs.length) (szsB (tkL (blocks zs))), .bool true]) ∧ Ints w' lo (lyt zs) ∧ Row w' g (toL zs (tkL (blocks zs))) ∧ Kept (w.alloc (.cells #[.slice ao zs.length cap] 27)) w') (fun e w' h => by obtain ⟨lo, lc, g, h1, h2, h3⟩ := h.2.1 hh; exact ⟨lo, lc, g, h1, h2, h3, h.2.2⟩)
    clear hh hF hI
    go_enter Try.func20, Try.ntmps20
    go_wp2_with fail
    refine hF'.mono ?_
    rintro e w1 ⟨lo, lc, g, rfl, hLy, hR, hk1⟩
    have x1 := Cells.new w1 48 #[.slice lo zs.length lc, .slice (some ⟨g, 0, none⟩) zs.length zs.length, .int .i64 (szsB (tkL (blocks zs)) : Nat)]
    have c0 := x1.cell 0
    have c1 := x1.cell 1
    have c2 := x1.cell 2
    have ka : Kept w1 (w1.alloc (.cells #[.slice lo zs.length lc, .slice (some ⟨g, 0, none⟩) zs.length zs.length, .int .i64 (szsB (tkL (blocks zs)) : Nat)] 48)) := Kept.alloc (Below.refl _ _) _
    have hM := moved_ok _ lo lc g zs.length (szsB (tkL (blocks zs))) zs v (hLy.kept ka) (hR.kept ka) hv
    clear hLy hR
    go_wp2_with (go_at_call 38; refine hM.mono ?_; rintro e w2 ⟨rfl, hk2⟩)
    go_ret
    exact ⟨by rw [HE.out]; rfl, ((k0.trans hk1).trans ka).trans hk2⟩
set_option maxHeartbeats 4000000 in
theorem spec_Moved_ok (w : World) (ao : Option Addr) (cap : Nat) (zs : List Int) (v : Int) (hI : Ints w ao zs) (hl : zs.length ≤ 1048576) (hv : -9223372036854775808 ≤ v ∧ v ≤ 9223372036854775807) :
    Calls Try.prog 19 #[.agg #[.slice ao zs.length cap], .int .i64 v] w fun e w' => e = .returned (.int .i64 (movedC zs v)) ∧ Kept w w' := by
  have k0 : Kept w (w.alloc (.cells #[.slice ao zs.length cap] 27)) := Kept.alloc (Below.refl _ _) _
  have b0 := Cells.new w 27 #[.slice ao zs.length cap]
  have hH := spec_HeapOk_ok _ ao cap zs (hI.kept k0) hl
  cases hh : heapR zs with
  | false =>
    have HE : Hid (movedC zs v = v) := by simp [Hid, movedC, hh]
    rw [hh] at hH
    clear hh hI
    go_enter Try.func19, Try.ntmps19
    go_wp2_with (go_at_call 25; refine hH.mono ?_; rintro e w1 ⟨rfl, hk1⟩)
    go_ret
    exact ⟨by rw [HE.out]; rfl, k0.trans hk1⟩
  | true =>
    have hok := heapR_slab hh
    rw [hh] at hH
    have HB : Hid _ := fun (u : World) (hu : Kept w u) => l8Block_ok u ao cap zs v (hI.kept hu) hl hok hv
    rw [block_lead] at HB
    cases hy : leadV zs v with
    | false =>
      have HE : Hid (movedC zs v = v) := by simp [Hid, movedC, hh, movdV, hy]
      rw [hy] at HB
      clear hh hI hy hok
      go_enter Try.func19, Try.ntmps19
      go_wp2_with (first | (go_at_call 25; refine hH.mono ?_; rintro e w1 ⟨rfl, hk1⟩; have c1 := (b0.kept hk1).cell 0) | (go_at_call 36; refine (HB.out _ (k0.trans hk1)).mono ?_; rintro e w2 ⟨rfl, hk2⟩))
      go_ret
      exact ⟨by rw [HE.out]; rfl, (k0.trans hk1).trans hk2⟩
    | true =>
      have HE : Hid (movedC zs v = movV zs v) := by simp [Hid, movedC, hh, movdV, hy]
      obtain ⟨x, _, ex, _⟩ := lead_tk (lead_kind hy).2
      have hx := x.2
      rw [hy] at HB
      have HM : Hid _ := fun (u : World) (hu : Kept w u) => l10Moved_ok u ao cap zs v (hI.kept hu) hok (fun _ => ⟨by omega, by omega⟩)
      clear hh hI hy hok hx ex
      go_enter Try.func19, Try.ntmps19
      go_wp2_with (first | (go_at_call 25; refine hH.mono ?_; rintro e w1 ⟨rfl, hk1⟩; have c1 := (b0.kept hk1).cell 0) | (go_at_call 36; refine (HB.out _ (k0.trans hk1)).mono ?_; rintro e w2 ⟨rfl, hk2⟩; have c2 := ((b0.kept hk1).kept hk2).cell 0) | (go_at_call 37; refine (HM.out _ ((k0.trans hk1).trans hk2)).mono ?_; rintro e w3 ⟨rfl, hk3⟩))
      go_ret
      exact ⟨by rw [HE.out]; rfl, ((k0.trans hk1).trans hk2).trans hk3⟩
end Go.Proofs.Ythloammkgogceaa
namespace Go.Proofs.Ythloammkgogceaa
open Go.RowKit
attribute [local go_sem] Plain.and7

theorem Keeps.on2 {c : Nat} {w a b : World} {row : Option Nat} (h : Keeps c w a) (hg : a.grownBy b row) (hr : ∀ k, row = some k → k = c ∨ w.heap.size ≤ k) : Keeps c w b :=
  ⟨hg.os.trans h.os, hg.tape.trans h.tape, hg.output.trans h.output, Nat.le_trans h.size hg.size, fun k hk hc => (hg.block k (Nat.lt_of_lt_of_le hk h.size) (fun e => by have := hr k e.symm; omega)).trans (h.block k hk hc)⟩
/-- What Forward has told behind so many blocks. -/
def fwF (zs : List Int) (k : Nat) : List Int := (tkL ((blocks zs).take k)).map (fun b => ((movT zs b.1.at' : Nat) : Int))
theorem tk_next {zs : List Int} {k : Nat} (hk : k < (blocks zs).length) : (blocks zs).take (k + 1) = (blocks zs).take k ++ [(blocks zs)[k]] := List.take_succ_eq_append_getElem hk
theorem fwF_next {zs : List Int} {k : Nat} (hk : k < (blocks zs).length) : fwF zs (k + 1) = fwF zs k ++ (if (blocks zs)[k].1.kind = 0 then [] else [((szsB (tkL ((blocks zs).take k)) : Nat) : Int)]) ∧ szsB (tkL ((blocks zs).take (k + 1))) = szsB (tkL ((blocks zs).take k)) + (if (blocks zs)[k].1.kind = 0 then 0 else (blocks zs)[k].1.size) := by
  have hm : movT zs (blocks zs)[k].1.at' = szsB (tkL ((blocks zs).take k)) := movT_blks (r := (blocks zs).drop (k + 1)) (by
    rw [← List.drop_eq_getElem_cons hk, List.take_append_drop])
  unfold fwF
  rw [tk_next hk, tkL_app, List.map_append, szsB_app]
  by_cases h : (blocks zs)[k].1.kind = 0
  · rw [tkL_no h, if_pos h, if_pos h]
    exact ⟨by simp, by simp [szsB]⟩
  · rw [tkL_yes h, if_neg h, if_neg h]
    exact ⟨by simp [hm], by simp [szsB]⟩
theorem szs_take {zs : List Int} (k : Nat) : szsB (tkL ((blocks zs).take k)) ≤ zs.length := szs_le ⟨tkL ((blocks zs).drop k), by rw [← tkL_app, List.take_append_drop]⟩
theorem fwF_len (zs : List Int) (k : Nat) : (fwF zs k).length ≤ k := by
  unfold fwF tkL
  rw [List.length_map]
  have h1 := List.length_filter_le (fun b : BkOf zs.length => !decide (b.1.kind = 0)) ((blocks zs).take k)
  have h2 := List.length_take_le k (blocks zs)
  omega
set_option maxHeartbeats 16000000 in
set_option maxRecDepth 100000 in
theorem spec_Forward_ok (w : World) (ao : Option Addr) (cap : Nat) (zs : List Int) (hI : Ints w ao zs) (hl : zs.length ≤ 1048576) :
    Calls Try.prog 14 #[.agg #[.slice ao zs.length cap]] w fun e w' => ∃ v, e = .returned v ∧ OwnL w' w.heap.size v (fwdL zs) ∧ Kept w w' := by
  obtain ⟨i0, hi, hz0, hz1, hz2⟩ := info_parts infoI
  have hL : zs.length * 8 ≤ 140737488351232 := by omega
  have b0 := (Cells.new w 27 #[.slice ao zs.length cap]).alloc (.cells #[] 3)
  have k0 : Kept w ((w.alloc (.cells #[.slice ao zs.length cap] 27)).alloc (.cells #[] 3)) := (Kept.alloc (Below.refl _ _) _).alloc _
  have o0 : OwnL ((w.alloc (.cells #[.slice ao zs.length cap] 27)).alloc (.cells #[] 3)) w.heap.size (.slice (some ⟨w.heap.size + 1, 0, none⟩) 0 0) [] := by
    have := World.ownsRow_made (base := w.heap.size) (e := 3) (size := 1) (w.alloc (.cells #[.slice ao zs.length cap] 27)) #[] 0 (by simp) (by unfold maxLen; omega) (by simp)
    exact ⟨by simp, by simpa using this⟩
  have hB := spec_Blocks_ok _ ao cap zs (hI.kept k0) hL
  have HH : Hid _ := fun (u : World) (hu : Kept w u) => spec_HeapOk_ok u ao cap zs (hI.kept hu) hl
  have hc0 := b0.cell 0
  cases hh : heapR zs with
  | false =>
    have HE : Hid (fwdL zs = []) := by simp [Hid, fwdL, hh]
    rw [hh] at HH
    obtain ⟨pl, hpl⟩ : ∃ pl, places zs = pl := ⟨_, rfl⟩
    rw [hpl] at hB
    clear hh hpl hI
    go_enter Try.func14, Try.ntmps14
    go_wp2_with fail
    refine hB.mono ?_
    rintro e w1 ⟨v, rfl, ho, hk1⟩
    obtain ⟨la, lc, rfl, _⟩ := ho.ints
    have b1 := b0.kept hk1
    have c1 := b1.cell 0
    have k1 := k0.trans hk1
    have o1 := o0.kept (row := none) hk1.grown (fun _ e => by cases e)
    clear ho hB o0 hc0
    go_wp2_with fail
    go_loopw [3, 6] (fun v i wr => wr = w1 ∧ v = .slice (some ⟨w.heap.size + 1, 0, none⟩) 0 0 ∧ i = .int .i64 0) (fun _ _ _ => 0)
    case atStart => exact ⟨by first | rfl | trivial, rfl, rfl⟩
    case round =>
      obtain ⟨rfl, rfl, rfl⟩ := hrel
      by_cases hp : 0 < pl.length
      · have hp' : (0 : Int) < (pl.length : Int) := by omega
        go_wp2_with (go_at_call 25; refine (HH.out _ k1).mono ?_; rintro e w2 ⟨rfl, hk2⟩)
        go_ret
        refine ⟨_, rfl, ?_, k1.trans hk2⟩
        rw [HE.out]
        exact o1.kept (row := none) hk2.grown (fun _ e => by cases e)
      · have hp' : ¬ (0 : Int) < (pl.length : Int) := by omega
        go_wp2
        go_ret
        refine ⟨_, rfl, ?_, k1⟩
        rw [HE.out]
        exact o1
  | true =>
    have hok := heapR_slab hh
    have HE : Hid (fwdL zs = fwF zs (blocks zs).length) := by simp [Hid, fwdL, hh, fwF]
    rw [hh] at HH
    have hP : places zs = atsOf (blocks zs) := by simp [places, hok, atsOf]
    rw [hP] at hB
    have hal : (atsOf (blocks zs)).length = (blocks zs).length := by simp [atsOf]
    have hcount := blocks_count zs
    have hlen := slabOk_len hok
    have HAL : Hid _ := hal
    have HI : Hid (∀ u, Kept w u → Ints u ao zs) := fun u hu => hI.kept hu
    clear hh hP hI hok hal
    go_enter Try.func14, Try.ntmps14
    go_wp2_with fail
    refine hB.mono ?_
    rintro e w2 ⟨v, rfl, ho, hk1⟩
    obtain ⟨la, lc, rfl, _⟩ := ho.ints
    rw [HAL.out]
    have b2 := b0.kept hk1
    have k2 := k0.trans hk1
    have o2 := o0.kept (row := none) hk1.grown (fun _ e => by cases e)
    have hs2 := hk1.size
    simp only [World.size_alloc] at hs2 ho
    have HP : Hid (OwnL w2 (w.heap.size + 1 + 1) (.slice la (atsOf (blocks zs)).length lc) (atsOf (blocks zs))) := ho
    have HO2 : Hid _ := o2
    have HK2 : Hid (Kept w w2) := k2
    clear hB o0 o2 hk1 hc0 k0 b0 k2 ho
    go_wp2_with fail
    go_loopw [3, 4, 6] (fun ov tv iv wr => ∃ (k : Nat), iv = .int .i64 k ∧ k ≤ (blocks zs).length ∧ tv = .int .i64 (szsB (tkL ((blocks zs).take k)) : Nat) ∧ Hid (OwnL wr w.heap.size ov (fwF zs k)) ∧ Hid (∀ j, ov.ownBlock = some j → j = w.heap.size + 1 ∨ w2.heap.size ≤ j) ∧ Hid (Keeps (w.heap.size + 1) w2 wr)) (fun _ _ i _ => (blocks zs).length - (intOf i).toNat)
    case atStart => exact ⟨0, rfl, Nat.zero_le _, by simp [tkL, szsB], by rw [show fwF zs 0 = [] from by simp [fwF, tkL]]; exact HO2.out, fun j e => by simp [Value.ownBlock] at e; omega, Keeps.refl _ _⟩
    case round =>
      obtain ⟨k, rfl, hk, rfl, HO, HA, HK⟩ := hrel
      clear HO2
      have KW : Kept w wr := Below.trans HK2.out (HK.out.below (by omega) HK2.out.size)
      have y2 := b2.keeps HK.out (by omega)
      have cy := y2.cell 0
      by_cases hlt : k < (blocks zs).length
      · have hlt' : (k : Int) < ((blocks zs).length : Int) := by omega
        have hH := HH.out wr KW
        go_wp2_with (go_at_call 25; refine hH.mono ?_; rintro e w3 ⟨rfl, hk3⟩)
        have hm := blks_mem zs 0 _ (List.getElem_mem (l := blocks zs) hlt)
        have hfn := fwF_next hlt
        have hpj : hz (atsOf (blocks zs)) k = (((blocks zs)[k]).1.at' : Nat) := by simp [hz, atsOf, hlt]
        obtain ⟨a0, ha0⟩ : ∃ a0, ((blocks zs)[k]).1.at' = a0 := ⟨_, rfl⟩
        rw [hm.2.1, hm.2.2, ha0] at hfn
        rw [ha0] at hm hpj
        obtain ⟨hgd, _, _⟩ := hm
        have hgl := hgd.lt
        have hszI := hgd.szI
        have hkdI := kdI zs a0
        have hle := hgd.le
        have kd3 : Kept w3 w3.drew := (Below.refl _ w3).drew
        have HB : Hid (∀ u, Keeps (w.heap.size + 1) w2 u → u.cell? ⟨w.heap.size, 0, none⟩ = some (.slice ao zs.length cap) ∧ (∃ pb po, la = some ⟨pb, po, none⟩ ∧ u.cell? ⟨pb, po + k, none⟩ = some (.int .i64 (a0 : Nat))) ∧ ∃ bb off, ao = some ⟨bb, off, none⟩ ∧ u.cell? ⟨bb, off + a0, none⟩ = some (.int .i64 (hz zs a0))) := fun u hu => by
          have hPA := HP.out.turned hu (by omega)
          obtain ⟨_, _, ePA, hPI⟩ := hPA.ints
          cases ePA
          obtain ⟨pb, po, e1, hpc⟩ := hPI.at (k := k) (by rw [HAL.out]; exact hlt)
          obtain ⟨bb, off, e2, hc⟩ := (HI.out u (Below.trans HK2.out (hu.below (by omega) HK2.out.size))).at hgl
          have h1 := hpc k (by rw [HAL.out]; exact hlt)
          rw [hpj] at h1
          exact ⟨(b2.keeps hu (by omega)).cell 0, ⟨pb, po, e1, h1⟩, bb, off, e2, hc _ hgl⟩
        obtain ⟨_, ⟨pb, po, rfl, _⟩, bb, off, rfl, _⟩ := HB.out wr HK.out
        have HC : Hid (∀ u, Keeps (w.heap.size + 1) w2 u → u.cell? ⟨w.heap.size, 0, none⟩ = some (.slice (some ⟨bb, off, none⟩) zs.length cap) ∧ u.cell? ⟨pb, po + k, none⟩ = some (.int .i64 (a0 : Nat)) ∧ u.cell? ⟨bb, off + a0, none⟩ = some (.int .i64 (hz zs a0))) := fun u hu => by
          obtain ⟨h1, ⟨_, _, e1, h2⟩, _, _, e2, h3⟩ := HB.out u hu
          cases e1
          cases e2
          exact ⟨h1, h2, h3⟩
        have HKn : Hid (∀ u : World, Kept w3.drew u → Calls Try.prog 30 #[.int .i64 (hz zs a0)] u fun e w' => e = .returned (.int .i64 (hz zs a0 % 8)) ∧ Kept u w') := fun u _ => (l2Kind_ok _ u).mono (fun e w' h => ⟨h.1, by rw [← h.2]; exact Below.refl _ _⟩)
        have hj0 : (0 : Int) ≤ (k : Int) := by omega
        have hgl' : (a0 : Int) < (zs.length : Int) := by omega
        have ha00 : (0 : Int) ≤ (a0 : Int) := by omega
        have HF : Hid _ := hfn
        have HSz : Hid _ := hszI
        have HKd : Hid _ := hkdI
        have hst := szs_take (zs := zs) k
        have hfl := fwF_len zs k
        clear HB hfn hszI hkdI hpj hgd ha0 cy y2 hH
        refine wp_region_seqL (by kernel_rfl) (by kernel_rfl) ?_
        repeat (first
          | (refine SeqL.pure ?_ (by rfl) ?_ ?_; rotate_left; (focus (intro u hu; obtain ⟨z0, z1, z2⟩ := HC.out u (HK.out.trans (Kept.keeps (hk3.trans (kd3.trans hu)) _)); go_simp; first | done | exact rfl)); simp only [Act.put, List.setIfInBounds_toArray, List.set_cons_zero, List.set_cons_succ])
          | (refine SeqL.call _ _ _ (by rfl) ?_ HKn.out ?_; (focus (intro u; go_simp; done)); simp only [Act.put, List.setIfInBounds_toArray, List.set_cons_zero, List.set_cons_succ]))
        refine SeqL.nil ?_
        intro w4 hk4
        have k4 : Kept wr w4 := hk3.trans (kd3.trans hk4)
        clear HKn hk3 hk4 kd3
        by_cases hz8 : hz zs a0 % 8 = 0
        · have hd : (hz zs a0 % 8 != 0) = false := by simp [hz8]
          have hkd : kd zs a0 = 0 := by have := HKd.out; omega
          rw [if_pos hkd, if_pos hkd, List.append_nil, Nat.add_zero] at HF
          have HN1 : Hid (fwF zs (k + 1) = fwF zs k) := HF.out.1
          have HN2 : Hid (szsB (tkL ((blocks zs).take (k + 1))) = szsB (tkL ((blocks zs).take k))) := HF.out.2
          clear hz8 hkd HF
          go_wp2
          go_roundw
          case rel => exact ⟨k + 1, by go_num, by omega, by rw [HN2.out], by rw [HN1.out]; exact HO.out.kept (row := none) k4.grown (fun _ e => by cases e), HA.out, HK.out.trans (k4.keeps _)⟩
          case measure => simp [intOf]; omega
        · have hd : (hz zs a0 % 8 != 0) = true := by simpa using hz8
          have hkd : ¬ kd zs a0 = 0 := by have := HKd.out; omega
          rw [if_neg hkd, if_neg hkd] at HF
          have HN1 : Hid (fwF zs (k + 1) = fwF zs k ++ [((szsB (tkL ((blocks zs).take k)) : Nat) : Int)]) := HF.out.1
          have HN2 : Hid (szsB (tkL ((blocks zs).take (k + 1))) = szsB (tkL ((blocks zs).take k)) + sz zs a0) := HF.out.2
          have hst' := szs_take (zs := zs) (k + 1)
          rw [HN2.out] at hst'
          obtain ⟨tt, htt⟩ : ∃ tt, szsB (tkL ((blocks zs).take k)) = tt := ⟨_, rfl⟩
          rw [htt] at HN1 HN2 hst hst' ⊢
          have O4 : Hid _ := HO.out.kept (row := none) k4.grown (fun _ e => by cases e)
          have hws := (KW.trans k4).size
          clear hz8 hkd HF htt
          go_wp2_with (at_builtin; refine wpList_append_lies _ rfl _ _ 22 rfl w.heap.size 3 i0 (.int .i64 0) 1 8 Try.underlying22 hi hz0 hz1 hz2 rfl (by decide) _ _ _ rfl (O4.out.2.alloc _) ⟨w4.heap.size, 0, none⟩ 1 1 [.int .i64 (tt : Nat)] rfl rfl (cell_one_new _ _ _) (by simp [Value.oneCell']) (by omega) (by unfold maxLen; omega) (by omega) (by simp; omega) (w4.heap.size + 1) (by simp) ?_; intro gg cg w5 hown hgrow hat hlt5)
          have K5 : Keeps (w.heap.size + 1) w2 w5 := ((HK.out.trans (k4.keeps _)).alloc _).on2 hgrow (fun j e => HA.out j e)
          have HA5 : Hid (∀ j, (Value.slice (some ⟨gg, 0, none⟩) ((fwF zs k).length + 1) cg).ownBlock = some j → j = w.heap.size + 1 ∨ w2.heap.size ≤ j) := fun j e => by
            simp only [Value.ownBlock, Option.some.injEq] at e
            subst e
            rcases hat with h | h
            · exact HA.out _ h
            · have h1 := HK.out.size
              have h2 := k4.size
              omega
          have HO5 : Hid (OwnL w5 w.heap.size (.slice (some ⟨gg, 0, none⟩) ((fwF zs k).length + 1) cg) (fwF zs (k + 1))) := by
            rw [Hid, HN1.out]
            refine ⟨fun z hz => ?_, by simpa using hown⟩
            rcases List.mem_append.1 hz with h | h
            · exact HO.out.1 z h
            · rw [List.mem_singleton.1 h]; omega
          have HK5 : Hid _ := K5
          have HSn : Hid (∀ u : World, Kept w5.drew u → Calls Try.prog 31 #[.int .i64 (hz zs a0)] u fun e w' => e = .returned (.int .i64 (sz zs a0 : Nat)) ∧ Kept u w') := fun u _ => (l2Size_ok _ u).mono (fun e w' h => ⟨by rw [h.1, HSz.out], by rw [← h.2]; exact Below.refl _ _⟩)
          have kd5 : Kept w5 w5.drew := (Below.refl _ w5).drew
          have hwr : IntKind.i64.wrap (((tt : Nat) : Int) + ((sz zs a0 : Nat) : Int)) = ((tt : Nat) : Int) + ((sz zs a0 : Nat) : Int) := IntWalk.i64_in _ ⟨by omega, by omega⟩
          clear hown hgrow hat K5 O4
          refine wp_region_seqL (by kernel_rfl) (by kernel_rfl) ?_
          repeat (first
            | (refine SeqL.pure ?_ (by rfl) ?_ ?_; rotate_left; (focus (intro u hu; obtain ⟨z0, z1, z2⟩ := HC.out u (HK5.out.trans (Kept.keeps (kd5.trans hu) _)); go_simp; first | done | exact rfl)); simp only [Act.put, List.setIfInBounds_toArray, List.set_cons_zero, List.set_cons_succ])
            | (refine SeqL.call _ _ _ (by rfl) ?_ HSn.out ?_; (focus (intro u; go_simp; done)); simp only [Act.put, List.setIfInBounds_toArray, List.set_cons_zero, List.set_cons_succ]))
          refine SeqL.nil ?_
          intro w6 hk6
          have k6 : Kept w5 w6 := kd5.trans hk6
          clear HSn hk6 kd5 HC
          go_wp2
          go_roundw
          case rel => exact ⟨k + 1, by go_num, by omega, by rw [HN2.out]; simp, HO5.out.kept (row := none) k6.grown (fun _ e => by cases e), HA5.out, HK5.out.trans (k6.keeps _)⟩
          case measure => simp [intOf]; omega
      · obtain rfl : k = (blocks zs).length := by omega
        have hlt' : ¬ ((blocks zs).length : Int) < ((blocks zs).length : Int) := by omega
        clear cy y2
        go_wp2
        go_ret
        exact ⟨_, rfl, by rw [HE.out]; exact HO.out, KW⟩
end Go.Proofs.Ythloammkgogceaa
namespace Go.Proofs.Ythloammkgogceaa
open Go.RowKit Go.Shelf
attribute [local go_sem] Oper.semAt_some

set_option maxHeartbeats 4000000 in
set_option maxRecDepth 100000 in
theorem each_place (w : World) (ro : Option Addr) (rc : Nat) (rs : List Int) (rv : Value) (f : Int → Int) (hR : Ints w ro rs) (hrl : rs.length ≤ 1048576) (hf : ∀ v ∈ rs, -9223372036854775808 ≤ f v ∧ f v ≤ 9223372036854775807)
    (hF : ∀ (u : World), Kept w u → ∀ v ∈ rs, Calls Try.prog 35 #[rv, .int .i64 v] u fun e w' => e = .returned (.int .i64 (f v)) ∧ Kept u w') :
    Calls Try.prog 34 #[.slice ro rs.length rc, .func (.func 35) #[rv] #[]] w fun e w' => ∃ v, e = .returned v ∧ OwnL w' w.heap.size v (rs.map f) ∧ Kept w w' := by
  obtain ⟨i0, hi, hz0, hz1, hz2⟩ := info_parts infoI
  have HF : Hid _ := hF
  have Hf : Hid _ := hf
  clear hF hf
  go_enter Try.func34, Try.ntmps34
  go_wp2_with fail
  go_loopw [5, 10] (fun tv iv wr => ∃ (k : Nat), iv = .int .i64 k ∧ k ≤ rs.length ∧ Hid (OwnL wr w.heap.size tv ((rs.take k).map f)) ∧ Hid (Kept w wr)) (fun _ i _ => rs.length - (intOf i).toNat)
  case atStart => exact ⟨0, rfl, Nat.zero_le _, ⟨by simp, ⟨by simp, .inl ⟨rfl, by simp⟩⟩⟩, Below.refl _ _⟩
  case round =>
    obtain ⟨k, rfl, hk, HO, HK⟩ := hrel
    by_cases hlt : k < rs.length
    · have hlt' : (k : Int) < (rs.length : Int) := by omega
      have hmem : hz rs k ∈ rs := by
        unfold hz
        rw [List.getElem?_eq_getElem hlt]
        simp
      have HN : Hid ((rs.take (k + 1)).map f = (rs.take k).map f ++ [f (hz rs k)]) := by
        rw [Hid, List.take_succ_eq_append_getElem hlt, List.map_append]
        simp [hz, List.getElem?_eq_getElem hlt]
      obtain ⟨bb, off, rfl, hc⟩ := (hR.kept HK.out).at (k := k) hlt
      have hck := hc k hlt
      have hCl := HF.out wr HK.out _ hmem
      have hfb := Hf.out _ hmem
      have hln : ((rs.take k).map f).length = k := by simp; omega
      have hlx : ((rs.take k).map f).length ≤ 1048576 := by omega
      have hws := HK.out.size
      have HLn : Hid _ := hln
      clear hc hmem hln
      go_wp2_with (first | (go_at_call 35; refine hCl.mono ?_; rintro e w3 ⟨rfl, hk3⟩; have O3 := HO.out.kept (row := none) hk3.grown (fun _ e => by cases e); have hs3 := hk3.size) | (at_builtin; refine wpList_append_own _ rfl _ _ 22 rfl w.heap.size 3 i0 (.int .i64 0) 1 8 Try.underlying22 hi hz0 hz1 hz2 rfl (by decide) _ _ _ rfl (O3.2.alloc _) ⟨w3.heap.size, 0, none⟩ 1 1 [.int .i64 (f (hz rs k))] rfl rfl (cell_one_new _ _ _) (by simp [Value.oneCell']) (by unfold maxLen; omega) (by omega) (by simp; omega) ?_; intro v' w4 hown hgrow _))
      have k4 : Kept w w4 := (((HK.out.trans hk3).alloc (.cells #[.int .i64 (f (hz rs k))] 3)).grownRow hgrow (fun j ej => (O3.2.lt j ej).1))
      have HO4 : Hid (OwnL w4 w.heap.size v' ((rs.take (k + 1)).map f)) := by
        rw [Hid, HN.out]
        refine ⟨fun z hz' => ?_, by simpa using hown⟩
        rcases List.mem_append.1 hz' with h | h
        · exact HO.out.1 z h
        · rw [List.mem_singleton.1 h]; exact hfb
      clear hown hgrow O3 HO
      go_roundw
      case rel => exact ⟨k + 1, by go_num, by omega, HO4.out, k4⟩
      case measure => simp [intOf]; omega
    · obtain rfl : k = rs.length := by omega
      have hlt' : ¬ (rs.length : Int) < (rs.length : Int) := by omega
      go_wp2
      go_ret
      exact ⟨_, rfl, by have := HO.out; rwa [List.take_length] at this, HK.out⟩
set_option maxHeartbeats 4000000 in
set_option maxRecDepth 100000 in
theorem each_moved (w : World) (ro : Option Addr) (rc : Nat) (rs : List Int) (rv : Value) (f : Int → Int) (hR : Ints w ro rs) (hrl : rs.length ≤ 1048576) (hf : ∀ v ∈ rs, -9223372036854775808 ≤ f v ∧ f v ≤ 9223372036854775807)
    (hF : ∀ (u : World), Kept w u → ∀ v ∈ rs, Calls Try.prog 38 #[rv, .int .i64 v] u fun e w' => e = .returned (.int .i64 (f v)) ∧ Kept u w') :
    Calls Try.prog 34 #[.slice ro rs.length rc, .func (.func 38) #[rv] #[]] w fun e w' => ∃ v, e = .returned v ∧ OwnL w' w.heap.size v (rs.map f) ∧ Kept w w' := by
  obtain ⟨i0, hi, hz0, hz1, hz2⟩ := info_parts infoI
  have HF : Hid _ := hF
  have Hf : Hid _ := hf
  clear hF hf
  go_enter Try.func34, Try.ntmps34
  go_wp2_with fail
  go_loopw [5, 10] (fun tv iv wr => ∃ (k : Nat), iv = .int .i64 k ∧ k ≤ rs.length ∧ Hid (OwnL wr w.heap.size tv ((rs.take k).map f)) ∧ Hid (Kept w wr)) (fun _ i _ => rs.length - (intOf i).toNat)
  case atStart => exact ⟨0, rfl, Nat.zero_le _, ⟨by simp, ⟨by simp, .inl ⟨rfl, by simp⟩⟩⟩, Below.refl _ _⟩
  case round =>
    obtain ⟨k, rfl, hk, HO, HK⟩ := hrel
    by_cases hlt : k < rs.length
    · have hlt' : (k : Int) < (rs.length : Int) := by omega
      have hmem : hz rs k ∈ rs := by
        unfold hz
        rw [List.getElem?_eq_getElem hlt]
        simp
      have HN : Hid ((rs.take (k + 1)).map f = (rs.take k).map f ++ [f (hz rs k)]) := by
        rw [Hid, List.take_succ_eq_append_getElem hlt, List.map_append]
        simp [hz, List.getElem?_eq_getElem hlt]
      obtain ⟨bb, off, rfl, hc⟩ := (hR.kept HK.out).at (k := k) hlt
      have hck := hc k hlt
      have hCl := HF.out wr HK.out _ hmem
      have hfb := Hf.out _ hmem
      have hln : ((rs.take k).map f).length = k := by simp; omega
      have hlx : ((rs.take k).map f).length ≤ 1048576 := by omega
      have hws := HK.out.size
      have HLn : Hid _ := hln
      clear hc hmem hln
      go_wp2_with (first | (go_at_call 38; refine hCl.mono ?_; rintro e w3 ⟨rfl, hk3⟩; have O3 := HO.out.kept (row := none) hk3.grown (fun _ e => by cases e); have hs3 := hk3.size) | (at_builtin; refine wpList_append_own _ rfl _ _ 22 rfl w.heap.size 3 i0 (.int .i64 0) 1 8 Try.underlying22 hi hz0 hz1 hz2 rfl (by decide) _ _ _ rfl (O3.2.alloc _) ⟨w3.heap.size, 0, none⟩ 1 1 [.int .i64 (f (hz rs k))] rfl rfl (cell_one_new _ _ _) (by simp [Value.oneCell']) (by unfold maxLen; omega) (by omega) (by simp; omega) ?_; intro v' w4 hown hgrow _))
      have k4 : Kept w w4 := (((HK.out.trans hk3).alloc (.cells #[.int .i64 (f (hz rs k))] 3)).grownRow hgrow (fun j ej => (O3.2.lt j ej).1))
      have HO4 : Hid (OwnL w4 w.heap.size v' ((rs.take (k + 1)).map f)) := by
        rw [Hid, HN.out]
        refine ⟨fun z hz' => ?_, by simpa using hown⟩
        rcases List.mem_append.1 hz' with h | h
        · exact HO.out.1 z h
        · rw [List.mem_singleton.1 h]; exact hfb
      clear hown hgrow O3 HO
      go_roundw
      case rel => exact ⟨k + 1, by go_num, by omega, HO4.out, k4⟩
      case measure => simp [intOf]; omega
    · obtain rfl : k = rs.length := by omega
      have hlt' : ¬ (rs.length : Int) < (rs.length : Int) := by omega
      go_wp2
      go_ret
      exact ⟨_, rfl, by have := HO.out; rwa [List.take_length] at this, HK.out⟩
theorem ats_bd {L : Nat} (l : List (BkOf L)) (hL : L ≤ 1048576) : ∀ z ∈ atsOf l, -9223372036854775808 ≤ z ∧ z ≤ 9223372036854775807 := by
  intro z hz
  obtain ⟨b, _, rfl⟩ := List.mem_map.1 hz
  have := b.2
  omega
set_option maxHeartbeats 8000000 in
set_option maxRecDepth 100000 in
theorem impl_Forward_ok (w : World) (ao : Option Addr) (cap : Nat) (zs : List Int) (hI : Ints w ao zs) (hl : zs.length ≤ 1048576) :
    Calls Try.prog 15 #[.agg #[.slice ao zs.length cap]] w fun e w' => ∃ v, e = .returned v ∧ OwnL w' w.heap.size v (fwdL zs) ∧ Kept w w' := by
  have hL : zs.length * 8 ≤ 140737488351232 := by omega
  obtain ⟨i0, hi, hz0, hz1, hz2⟩ := info_parts infoI
  have b0 := Cells.new w 27 #[.slice ao zs.length cap]
  have k0 : Kept w (w.alloc (.cells #[.slice ao zs.length cap] 27)) := Kept.alloc (Below.refl _ _) _
  have hF := forwardOf_ok _ ao cap zs (hI.kept k0) hl
  cases hh : heapR zs with
  | false =>
    have HE : Hid (fwdL zs = []) := by simp [Hid, fwdL, hh]
    have hF' := hF.mono (R' := fun e w' => e = .returned (.tuple #[fwV none 0 0 (.slice none 0 0) 0, .bool false]) ∧ Kept (w.alloc (.cells #[.slice ao zs.length cap] 27)) w') (fun e w' h => ⟨h.1 hh, h.2.2⟩)
    clear hh hF hI
    go_enter Try.func15, Try.ntmps15
    go_wp2_with (go_at_call 32; refine hF'.mono ?_; rintro e w1 ⟨rfl, hk1⟩)
    go_ret
    exact ⟨_, rfl, by rw [HE.out]; exact ⟨by simp, ⟨by simp, .inl ⟨rfl, rfl⟩⟩⟩, (k0.trans hk1).alloc _⟩
  | true =>
    have hok := heapR_slab hh
    have HE : Hid (fwdL zs = (atsOf (tkL (blocks zs))).map (fun a => hz (toL zs (tkL (blocks zs))) a.toNat)) := by
      simp only [Hid, fwdL, hh, if_true, atsOf, List.map_map]
      refine List.map_congr_left (fun b hb => ?_)
      simp only [Function.comp, Int.toNat_natCast]
      rw [toL_at hb]
    have hF' := hF.mono (R' := fun e w' => ∃ lo lc g, e = .returned (.tuple #[fwV lo zs.length lc (.slice (some ⟨g, 0, none⟩) zs.length zs.length) (szsB (tkL (blocks zs))), .bool true]) ∧ Ints w' lo (lyt zs) ∧ Row w' g (toL zs (tkL (blocks zs))) ∧ Kept (w.alloc (.cells #[.slice ao zs.length cap] 27)) w') (fun e w' h => by obtain ⟨lo, lc, g, h1, h2, h3⟩ := h.2.1 hh; exact ⟨lo, lc, g, h1, h2, h3, h.2.2⟩)
    have hcnt : (tkL (blocks zs)).length ≤ zs.length := by
      have h1 := List.length_filter_le (fun b : BkOf zs.length => !decide (b.1.kind = 0)) (blocks zs)
      have h2 := blocks_count zs
      have h3 : (tkL (blocks zs)).length ≤ (blocks zs).length := h1
      omega
    have hlen := slabOk_len hok
    clear hh hF hok
    refine (callsIn_wide (n := 9)).1 ?_
    refine callsIn_of_wp_marks Try.func15 rfl trivial ?_ rfl
    simp only [Try.ntmps15, List.size_toArray, List.length_cons, List.length_nil, Nat.reduceAdd, Nat.reduceSub, Array.replicate_succ, Array.replicate_zero, List.push_toArray, List.append_toArray, List.nil_append, List.cons_append]
    refine wpIn_wide.2 ?_
    go_wp2_with fail
    refine hF'.mono ?_
    rintro e w1 ⟨lo, lc, g, rfl, hLy, hR, hk1⟩
    obtain ⟨en, hen⟩ : ∃ en, szsB (tkL (blocks zs)) = en := ⟨_, rfl⟩
    simp only [hen]
    have x1 := ((b0.kept hk1).alloc (.cells #[.slice lo zs.length lc, .slice (some ⟨g, 0, none⟩) zs.length zs.length, .int .i64 (en : Nat)] 48)).alloc (.cells #[.slice none 0 0] 22)
    have cx := x1.cell 0
    have lx := (b0.kept hk1).lt
    go_wp2_with (go_at_call 33; refine (takenOf_ok _ _ _ _).mono ?_; rintro e w5 ⟨rfl, rfl⟩)
    have xf := ((Cells.new w1 48 #[.slice lo zs.length lc, .slice (some ⟨g, 0, none⟩) zs.length zs.length, .int .i64 (en : Nat)]).alloc (.cells #[.slice none 0 0] 22)).alloc (.cells #[.slice ao zs.length cap] 22)
    have xp := (Cells.new (w1.alloc (.cells #[.slice lo zs.length lc, .slice (some ⟨g, 0, none⟩) zs.length zs.length, .int .i64 (en : Nat)] 48)) 22 #[.slice none 0 0]).alloc (.cells #[.slice ao zs.length cap] 22)
    have bB := Cells.new ((w1.alloc (.cells #[.slice lo zs.length lc, .slice (some ⟨g, 0, none⟩) zs.length zs.length, .int .i64 (en : Nat)] 48)).alloc (.cells #[.slice none 0 0] 22)) 22 #[.slice ao zs.length cap]
    have ka : Kept w1 (((w1.alloc (.cells #[.slice lo zs.length lc, .slice (some ⟨g, 0, none⟩) zs.length zs.length, .int .i64 (en : Nat)] 48)).alloc (.cells #[.slice none 0 0] 22)).alloc (.cells #[.slice ao zs.length cap] 22)) := ((Kept.alloc (Below.refl _ _) _).alloc _).alloc _
    have hsz : (((w1.alloc (.cells #[.slice lo zs.length lc, .slice (some ⟨g, 0, none⟩) zs.length zs.length, .int .i64 (en : Nat)] 48)).alloc (.cells #[.slice none 0 0] 22)).alloc (.cells #[.slice ao zs.length cap] 22)).heap.size = w1.heap.size + 3 := by simp
    simp only [World.size_alloc] at bB xp
    have hLy2 := hLy.kept ka
    have hR2 := hR.kept ka
    have hgl := hR.lt
    have hll : ∀ a, lyt zs ≠ [] → lo = some a → a.block < w1.heap.size := fun a h e => hLy.lt h e
    have k2 := (k0.trans hk1).trans ka
    have hs1 := (k0.trans hk1).size
    obtain ⟨B, hB⟩ : ∃ B, w1.heap.size = B := ⟨_, rfl⟩
    obtain ⟨W0, hW0⟩ : ∃ W0, ((w1.alloc (.cells #[.slice lo zs.length lc, .slice (some ⟨g, 0, none⟩) zs.length zs.length, .int .i64 (en : Nat)] 48)).alloc (.cells #[.slice none 0 0] 22)).alloc (.cells #[.slice ao zs.length cap] 22) = W0 := ⟨_, rfl⟩
    simp only [hB] at xf xp bB hsz hgl hll lx hs1 ⊢
    rw [hW0] at xf xp bB hsz hLy2 hR2 k2 ⊢
    clear hW0 hB hLy hR b0 k0 hk1 ka x1 cx hF'
    refine (wpIn_wide (n := 9)).1 ?_
    refine range_tells (X := fun k => k = B + 1) (nI := W0.heap.size) (l0 := tkL (blocks zs)) (n := 9) (by omega) rfl (enters_of Try.func54 (by kernel_rfl) rfl) (by simp) (by simp) (by decide)
      (takenOf_tells (9 - 1) (by omega) (B + 1 + 1) (B + 2) W0.heap.size W0.heap.size _ ao cap zs hL (fun a h e => ⟨by have := hI.lt h e; omega, by have := hI.lt h e; omega⟩) (by intro k h; omega) W0 (by omega) (Nat.le_refl _) bB (hI.kept k2))
      (fun pre W => (∃ v, Boxed W (B + 1) 22 v ∧ W.ownsRow W0.heap.size 3 1 v (atsOf pre).length ((atsOf pre).map (Value.int .i64)) ∧ True) ∧ (Below w.heap.size w W ∧ KeepX (fun k => k = B + 1) W0.heap.size W0 W))
      ?oi ⟨⟨.slice none 0 0, xp, by simpa [atsOf] using World.ownsRow_nil _ _ _ _, trivial⟩, k2, KeepX.of (Below.refl _ _)⟩ ?body ?done
    case oi => exact OwnFrom.and (Own.from (holdsRow_own W0.heap.size (B + 1) 22 3 1 (fun pre => (atsOf pre).length) (fun pre => (atsOf pre).map (Value.int .i64)) (fun _ _ => True)) _) (OwnFrom.and (ownFrom_below (Nat.le_refl _) (by omega)) (KeepX.own (Nat.le_refl _)))
    case body =>
      rintro l pre x W Bx hBx bX ⟨⟨v, hv, hrow, _⟩, hB1, hK1⟩ hpre
      have hx := x.2
      have c0 := bX.cell 0
      have lX := bX.lt
      have e1 := hv.cell
      have f1 := hv.frozen
      have l1 := hv.lt
      have hal : (atsOf pre).length ≤ 2000 := by
        rw [atsOf_len]
        have := hpre.length_le
        simp at this
        omega
      simp only [List.setIfInBounds_toArray, List.set_cons_succ, List.set_cons_zero]
      gi_wp2_with (gi_at_builtin; refine wpListIn_append_own _ rfl _ _ 22 rfl W0.heap.size 3 i0 (.int .i64 0) 1 8 Try.underlying22 hi hz0 hz1 hz2 rfl (by decide) _ _ _ rfl (hrow.alloc _) ⟨W.heap.size, 0, none⟩ 1 1 [.int .i64 (x.1.at' : Nat)] rfl rfl (cell_one_new _ _ _) (by simp [Value.oneCell']) (by unfold maxLen; omega) (by omega) (by simp; omega) ?_; intro v' w1' hown' hgrow _; obtain ⟨g', cap', rfl⟩ := ownsRow_succ hown'; obtain ⟨hv1, hv2, hr2, hk2, hb2, hx2⟩ := append_box (nw := w.heap.size) hv (by decide) hrow (by omega) (by omega) (by omega) hown' hgrow; have hc1 := hv1.cell; have hf1 := hv1.frozen)
      rw [hsz] at hx2 hK1
      exact ⟨hk2.from _, hx2, ⟨_, hv2, by rw [hsz] at hr2; simpa [atsOf_snoc] using hr2⟩, hB1.trans hb2, hK1.t hx2⟩
    case done =>
      rintro D W hD ⟨⟨v, hv, hrow, _⟩, hB1, hK1⟩ hK
      have hO : OwnL W W0.heap.size v (atsOf (tkL (blocks zs))) := ⟨atsOf_bd hL _, hrow⟩
      obtain ⟨la, lc2, rfl, hPI⟩ := hO.ints
      have yf := xf.keptX hK1 (by omega) (by omega)
      have e1 := hv.cell
      have f0 := yf.cell 0
      have f1 := yf.cell 1
      have f2 := yf.cell 2
      have rW : Row W g (toL zs (tkL (blocks zs))) := by
        obtain ⟨q1, cur, q2, q3⟩ := hR2
        exact ⟨q1, cur, hK1.2 _ _ q2 rfl (by omega) (fun h => by omega), q3⟩
      have hEa := each_place W la lc2 (atsOf (tkL (blocks zs))) (fwV lo zs.length lc (.slice (some ⟨g, 0, none⟩) zs.length zs.length) en) (fun a => hz (toL zs (tkL (blocks zs))) a.toNat) hPI (by rw [atsOf_len]; omega) (fun v hv => by
          obtain ⟨b, hb, rfl⟩ := List.mem_map.1 hv
          simp only [Int.toNat_natCast]
          exact rW.ints.bd _) (fun u hu v hv => by
          obtain ⟨b, hb, rfl⟩ := List.mem_map.1 hv
          have hb2 := b.2
          have := place_ok u lo zs.length lc g zs.length en b.1.at' _ (rW.kept hu) (by rw [toL_len]; omega)
          rw [toL_len] at this
          simpa only [Int.toNat_natCast] using this)
      clear hO hrow hPI rW hv
      go_wp2_with (go_at_call 34; refine hEa.mono ?_; rintro e w5 ⟨v5, rfl, o5, hk5⟩)
      have hK5 := (hk5.block D (Array.getElem?_eq_some_iff.1 hK).1).trans hK
      refine ⟨by simp, .inl ⟨_, _, rfl, run_takeDeferred hK5, ?_⟩⟩
      refine ⟨_, results_tmp rfl _ _ _, v5, rfl, ?_, (hB1.trans (hk5.mono hB1.size)).trans (belowK_b (w := w) (Nat.le_refl _) _ D _ _ (by omega) hK5 rfl rfl)⟩
      rw [HE.out]
      exact ⟨o5.1, ownsRow_base (ownsRow_putObj o5.2 _ hK5 rfl) (by have := hB1.size; omega)⟩
end Go.Proofs.Ythloammkgogceaa
