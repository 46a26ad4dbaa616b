/-
  The contracts of chapter 10's forwardOf, place and moved, and of impl.Moved.
-/
import Derived.Test.YthloammkgogceaaTknA
import Derived.Test.YthloammkgogceaaShapeQ
import Derived.Test.YthloammkgogceaaSlabC
namespace Go.Proofs.Ythloammkgogceaa
open Go.RowKit Go.Shelf
attribute [local go_sem] Oper.semAt_some

/-- A forward, as a value. -/
abbrev fwV (lo : Option Addr) (n lc : Nat) (to' : Value) (e : Nat) : Value := .agg #[.slice lo n lc, to', .int .i64 (e : Nat)]
theorem szs_le {zs : List Int} {pre : List (BkOf zs.length)} (h : pre <+: tkL (blocks zs)) : szsB pre ≤ zs.length := by
  obtain ⟨r, e⟩ := h
  have h1 := slidW_szs zs (blocks zs)
  have h2 := slidW_le zs
  rw [← e, szsB_app] at h1
  omega
theorem slab_two {zs : List Int} (hok : slabOk zs = true) (h0 : zs ≠ []) : 2 ≤ zs.length := by
  have h := ((Bnd.zero hok).good (List.length_pos_iff.2 h0)).1
  have h1 := h.sz2
  have h2 := h.le
  omega
theorem Ints.apart3 {W : World} {ao : Option Addr} {zs : List Int} (h : Ints W ao zs) {B : Nat} {t : TypeId} {x y z : Value} (hc : Cells W B t #[x, y, z]) (hx : ∀ n : Int, x ≠ .int .i64 n) (hy : ∀ n : Int, y ≠ .int .i64 n) (h2 : 2 ≤ zs.length) : ∀ a, ao = some a → a.block ≠ B := by
  intro a e hb
  obtain ⟨b, off, e', hcell⟩ := h.at (k := 0) (by omega)
  rw [e] at e'
  cases e'
  have h0 := hcell 0 (by omega)
  have h1 := hcell 1 (by omega)
  simp only at hb
  subst hb
  rw [hc.cell] at h0 h1
  match off, h0, h1 with
  | 0, h0, _ => simp at h0; exact hx _ h0
  | 1, h0, _ => simp at h0; exact hy _ h0
  | k + 2, _, h1 => simp at h1
set_option maxHeartbeats 8000000 in
set_option maxRecDepth 100000 in
theorem forwardOf_ok (w : World) (ao : Option Addr) (cap : Nat) (zs : List Int) (hI : Ints w ao zs) (hl : zs.length ≤ 1048576) :
    Calls Try.prog 32 #[.agg #[.slice ao zs.length cap]] w fun e w' => (heapR zs = false → e = .returned (.tuple #[fwV none 0 0 (.slice none 0 0) 0, .bool false])) ∧
      (heapR zs = true → ∃ lo lc g, e = .returned (.tuple #[fwV lo zs.length lc (.slice (some ⟨g, 0, none⟩) zs.length zs.length) (szsB (tkL (blocks zs))), .bool true]) ∧ Ints w' lo (lyt zs) ∧ Row w' g (toL zs (tkL (blocks zs)))) ∧ Kept w w' := by
  have hL : zs.length * 8 ≤ 140737488351232 := by omega
  obtain ⟨i0, hi, hz0, hz1, hz2⟩ := info_parts infoI
  have b0 := (Cells.new w 27 #[.slice ao zs.length cap]).alloc (.cells #[.slice none 0 0, .slice none 0 0, .int .i64 0] 48)
  have b1 := Cells.new (w.alloc (.cells #[.slice ao zs.length cap] 27)) 48 #[.slice none 0 0, .slice none 0 0, .int .i64 0]
  simp only [World.size_alloc] at b0 b1
  have k0 : Kept w ((w.alloc (.cells #[.slice ao zs.length cap] 27)).alloc (.cells #[.slice none 0 0, .slice none 0 0, .int .i64 0] 48)) := (Kept.alloc (Below.refl _ _) _).alloc _
  have hLo := heapLayout_ok _ ao cap zs (hI.kept k0) hl
  cases hh : heapR zs with
  | false =>
    have hLo' := hLo.mono (R' := fun e w' => e = .returned (.tuple #[.slice none 0 0, .bool false]) ∧ Kept ((w.alloc (.cells #[.slice ao zs.length cap] 27)).alloc (.cells #[.slice none 0 0, .slice none 0 0, .int .i64 0] 48)) w') (fun e w' h => ⟨h.1 hh, h.2.2⟩)
    clear hh hLo hI
    go_enter Try.func32, Try.ntmps32
    go_wp2_with (go_at_call 27; refine hLo'.mono ?_; rintro e w1 ⟨rfl, hk1⟩; have d1 := b1.kept hk1; have c10 := d1.cell 0; have c11 := d1.cell 1; have c12 := d1.cell 2; have f10 := d1.frozen 0; have f11 := d1.frozen 1; have f12 := d1.frozen 2; have l1 := d1.lt)
    have q := d1.set3 (.slice none 0 0) (.slice none 0 0) (.int .i64 0)
    refine bodyPost_ret (v := .tuple #[fwV none 0 0 (.slice none 0 0) 0, .bool false]) (by simp [results, Try.results32, go_sem, q.cell 0, q.cell 1, q.cell 2]) rfl ⟨fun _ => rfl, fun h => by simp at h, ?_⟩
    exact (((k0.trans hk1).set (p := ⟨w.heap.size + 1, 0, none⟩) (by simp) _).set (p := ⟨w.heap.size + 1, 1, none⟩) (by simp) _).set (p := ⟨w.heap.size + 1, 2, none⟩) (by simp) _
  | true =>
    have hLo' := hLo.mono (R' := fun e w' => ∃ lo lc, e = .returned (.tuple #[.slice lo zs.length lc, .bool true]) ∧ Ints w' lo (lyt zs) ∧ Kept ((w.alloc (.cells #[.slice ao zs.length cap] 27)).alloc (.cells #[.slice none 0 0, .slice none 0 0, .int .i64 0] 48)) w') (fun e w' h => by obtain ⟨lo, lc, h1, h2⟩ := h.2.1 hh; exact ⟨lo, lc, h1, h2, h.2.2⟩)
    have HH : Hid (heapR zs = true) := hh
    clear hLo hh
    refine (callsIn_wide (n := 9)).1 ?_
    refine callsIn_of_wp_marks Try.func32 rfl trivial ?_ rfl
    simp only [Try.ntmps32, List.size_toArray, List.length_cons, List.length_nil, Nat.reduceAdd, Nat.reduceSub, Array.replicate_succ, Array.replicate_zero, List.push_toArray, List.append_toArray, List.nil_append, List.cons_append]
    refine wpIn_wide.2 ?_
    go_wp2_with fail
    refine hLo'.mono ?_
    rintro e w1 ⟨lo, lc, rfl, hLy, hk1⟩
    have x0 := b0.kept hk1
    have cx0 := x0.cell 0
    have lx0 := x0.lt
    go_wp2_with (first | (at_make; refine wpList_make_full _ rfl _ _ 22 rfl w1.heap.size 3 i0 (.int .i64 0) 1 Try.underlying22 hi hz0 hz1 .i64 .i64 _ _ zs.length rfl rfl rfl rfl (by rw [hz2]; omega) (by unfold maxLen; omega) (by simp) ?_; intro w2 hown hgrow; have hK2 : Kept w1 w2 := (Below.refl _ _).grown hgrow (Nat.le_refl _) (by simp); have x2 := x0.kept hK2; have cx2 := (x2.alloc (.cells #[.slice lo zs.length lc, .slice (some ⟨w1.heap.size, 0, none⟩) zs.length zs.length, .int .i64 0] 48)).cell 0; have lx2 := x2.lt) | (go_at_call 33; refine (takenOf_ok _ _ _ _).mono ?_; rintro e w5 ⟨rfl, rfl⟩))
    rw [madeInts] at hown
    have hR2 := (Row.of_owns (zs := List.replicate zs.length 0) (by simpa using hown) (by simp)).1
    have ka : Kept w2 ((w2.alloc (.cells #[.slice lo zs.length lc, .slice (some ⟨w1.heap.size, 0, none⟩) zs.length zs.length, .int .i64 0] 48)).alloc (.cells #[.slice ao zs.length cap] 22)) := (Kept.alloc (Below.refl _ _) _).alloc _
    have xf := (Cells.new w2 48 #[.slice lo zs.length lc, .slice (some ⟨w1.heap.size, 0, none⟩) zs.length zs.length, .int .i64 0]).alloc (.cells #[.slice ao zs.length cap] 22)
    have bB := Cells.new (w2.alloc (.cells #[.slice lo zs.length lc, .slice (some ⟨w1.heap.size, 0, none⟩) zs.length zs.length, .int .i64 0] 48)) 22 #[.slice ao zs.length cap]
    simp only [World.size_alloc] at bB
    have hsz : ((w2.alloc (.cells #[.slice lo zs.length lc, .slice (some ⟨w1.heap.size, 0, none⟩) zs.length zs.length, .int .i64 0] 48)).alloc (.cells #[.slice ao zs.length cap] 22)).heap.size = w2.heap.size + 2 := by simp
    have y1 := ((b1.kept hk1).kept hK2).kept ka
    have rg := hR2.kept ka
    have hlt1 := hR2.lt
    have ly := (hLy.kept hK2).kept ka
    have hly : ∀ a, lyt zs ≠ [] → lo = some a → a.block < w1.heap.size := fun a h e => hLy.lt h e
    have ky := ((k0.trans hk1).trans hK2).trans ka
    have hs1 := (k0.trans hk1).size
    have hs1' := (b1.kept hk1).lt
    clear hown hgrow hLo' x0 cx0 lx0 x2 cx2 lx2 hR2 hLy b0 b1 hk1 hK2 ka k0
    obtain ⟨g, hg⟩ : ∃ g, w1.heap.size = g := ⟨_, rfl⟩
    rw [hg] at xf bB hsz y1 rg hlt1 ly hly ky hs1 hs1' ⊢
    obtain ⟨Bf, hBf⟩ : ∃ Bf, w2.heap.size = Bf := ⟨_, rfl⟩
    rw [hBf] at xf bB hsz hlt1 ⊢
    obtain ⟨W0, hW0⟩ : ∃ W0, (w2.alloc (.cells #[.slice lo zs.length lc, .slice (some ⟨g, 0, none⟩) zs.length zs.length, .int .i64 0] 48)).alloc (.cells #[.slice ao zs.length cap] 22) = W0 := ⟨_, rfl⟩
    rw [hW0] at xf bB hsz y1 rg ly ky ⊢
    clear hW0 hg hBf
    refine (wpIn_wide (n := 9)).1 ?_
    refine range_tells (X := fun k => k = Bf ∨ k = g) (nI := W0.heap.size) (l0 := tkL (blocks zs)) (n := 9) (by omega) rfl (enters_of Try.func54 (by kernel_rfl) rfl) (by simp) (by simp) (by decide)
      (takenOf_tells (9 - 1) (by omega) (Bf + 1) (Bf + 1) W0.heap.size W0.heap.size _ ao cap zs hL (fun a h e => ⟨by have := hI.lt h e; omega, by have := hI.lt h e; omega⟩) (by intro k h; omega) W0 (by omega) (Nat.le_refl _) bB (hI.kept ky))
      (fun pre W => (Row W g (toL zs pre) ∧ Cells W Bf 48 #[.slice lo zs.length lc, .slice (some ⟨g, 0, none⟩) zs.length zs.length, .int .i64 (szsB pre : Nat)]) ∧ (Below w.heap.size w W ∧ KeepX (fun k => k = Bf ∨ k = g) W0.heap.size W0 W))
      ?oi ⟨⟨by simpa [toL] using rg, by simpa [szsB] using xf⟩, ky, KeepX.of (Below.refl _ _)⟩ ?body ?done
    case oi => exact OwnFrom.and (OwnFrom.and (Own.from (Row.own g (fun pre => toL zs pre)) _) (Own.from (Cells.own _ _ (fun pre => #[.slice lo zs.length lc, .slice (some ⟨g, 0, none⟩) zs.length zs.length, .int .i64 (szsB pre : Nat)])) _)) (OwnFrom.and (ownFrom_below (Nat.le_refl _) (by omega)) (KeepX.own (Nat.le_refl _)))
    case body =>
      rintro l pre x W Bx hBx bX ⟨⟨r1, d1⟩, hB1, hK1⟩ hpre
      have hx := x.2
      have hmv := (movT_tk hpre).1
      have hle := szs_le hpre
      rw [szsB_snoc] at hle
      have c0 := bX.cell 0
      have c1 := bX.cell 1
      have lX := bX.lt
      have d10 := d1.cell 0
      have d11 := d1.cell 1
      have d12 := d1.cell 2
      have f12 := d1.frozen 2
      have ld := d1.lt
      have hlen := toL_len zs pre
      have gx := r1.cell (j := x.1.at') (by rw [hlen]; omega)
      have fx := r1.frozen x.1.at'
      have HR : Hid (Row (W.setCell ⟨g, x.1.at', none⟩ (.int .i64 ((szsB pre : Nat) : Int))) g ((toL zs pre).set x.1.at' ((szsB pre : Nat) : Int))) := r1.set (k := x.1.at') (v := ((szsB pre : Nat) : Int)) (by rw [hlen]; omega) ⟨by omega, by omega⟩
      have HT : Hid (toL zs (pre ++ [x]) = (toL zs pre).set x.1.at' ((szsB pre : Nat) : Int)) := by rw [Hid, toL_snoc, hmv]
      have HS : Hid (szsB (pre ++ [x]) = szsB pre + x.1.size) := szsB_snoc _ _
      have HRow : Hid _ := r1
      have d1' := d1.other (p := ⟨g, x.1.at', none⟩) (by simp; omega) (.int .i64 ((szsB pre : Nat) : Int))
      have e12 := d1'.cell 2
      have g12 := d1'.frozen 2
      have cx1 := (bX.other (p := ⟨g, x.1.at', none⟩) (by simp; omega) (.int .i64 ((szsB pre : Nat) : Int))).cell 1
      have q1 : ((x.1.at' : Nat) : Int) < (zs.length : Int) := by omega
      clear hlen r1 hmv hpre
      simp only [List.setIfInBounds_toArray, List.set_cons_succ, List.set_cons_zero]
      gi_wp2
      have kx : KeepX (fun k => k = Bf ∨ k = g) (Bf + 2) W ((W.setCell ⟨g, x.1.at', none⟩ (.int .i64 ((szsB pre : Nat) : Int))).setCell ⟨Bf, 2, none⟩ (.int .i64 (((szsB pre : Nat) : Int) + ((x.1.size : Nat) : Int)))) := (KeepX.setCell (p := ⟨g, x.1.at', none⟩) (.inr rfl) _).t (KeepX.setCell (p := ⟨Bf, 2, none⟩) (.inl rfl) _)
      refine ⟨((KeepsOthers.setCell _ _ _).trans (KeepsOthers.setCell _ _ _)).from _, kx, ⟨?_, ?_⟩, (hB1.setCell (p := ⟨g, x.1.at', none⟩) (by simp; omega) _).setCell (p := ⟨Bf, 2, none⟩) (by simp; omega) _, ?_⟩
      · rw [HT.out]
        exact Row.other HR.out (by simp; omega) _
      · rw [HS.out]
        have := d1'.set 2 (.int .i64 (((szsB pre : Nat) : Int) + ((x.1.size : Nat) : Int)))
        simpa using this
      · rw [hsz] at hK1
        exact hK1.t kx
    case done =>
      rintro D W hD ⟨⟨r1, d1⟩, hB1, hK1⟩ hK
      have z1 := y1.keptX hK1 (by omega) (by omega)
      have e0 := d1.cell 0
      have e1 := d1.cell 1
      have e2 := d1.cell 2
      have z10 := z1.cell 0
      have z11 := z1.cell 1
      have z12 := z1.cell 2
      have g10 := z1.frozen 0
      have g11 := z1.frozen 1
      have g12 := z1.frozen 2
      go_wp2
      have hK' := ((others3 (W := W) (B := w.heap.size + 1) (.slice lo zs.length lc) (.slice (some ⟨g, 0, none⟩) zs.length zs.length) (.int .i64 (szsB (tkL (blocks zs)) : Nat)))).same D _ hK rfl
      refine ⟨by simp, .inl ⟨_, _, rfl, run_takeDeferred hK', ?_⟩⟩
      have q := (z1.set3 (.slice lo zs.length lc) (.slice (some ⟨g, 0, none⟩) zs.length zs.length) (.int .i64 (szsB (tkL (blocks zs)) : Nat))).put hK' rfl (.deferred none)
      refine ⟨.tuple #[fwV lo zs.length lc (.slice (some ⟨g, 0, none⟩) zs.length zs.length) (szsB (tkL (blocks zs))), .bool true], by simp [results, Try.results32, go_sem, q.cell 0, q.cell 1, q.cell 2], fun h => absurd h (by simp), fun _ => ⟨lo, lc, g, rfl, ?_, ?_⟩, ?_⟩
      · have hy := hK1.ints ly (fun a hne e => ⟨by have := hly a hne e; omega, by have := hly a hne e; omega⟩)
        refine ((KeepX.set3 (X := fun k => k = w.heap.size + 1) (nI := W0.heap.size) rfl (.slice lo zs.length lc) (.slice (some ⟨g, 0, none⟩) zs.length zs.length) (.int .i64 (szsB (tkL (blocks zs)) : Nat))).t (KeepX.b _ D _ _ hK' rfl)).ints hy (fun a hne e => ⟨?_, by have := hly a hne e; omega⟩)
        exact ly.apart3 y1 (by intro n; simp) (by intro n; simp) (by rw [lyt_len]; exact slab_two (heapR_slab HH.out) (by intro h0; rw [h0] at hne; exact hne rfl)) a e
      · exact ((((r1.other (p := ⟨w.heap.size + 1, 0, none⟩) (by simp; omega) _).other (p := ⟨w.heap.size + 1, 1, none⟩) (by simp; omega) _).other (p := ⟨w.heap.size + 1, 2, none⟩) (by simp; omega) _)).put hK' rfl (.deferred none)
      · exact Below.trans (below3 hB1 (by omega) _ _ _) (belowK_b (w := w) (Nat.le_refl _) _ D _ _ (by omega) hK' rfl rfl)
end Go.Proofs.Ythloammkgogceaa
