/-
  What toIntS and toMarker yield are rows of one's own.
-/
import Derived.Test.YtgempjjnfpmndaaGreatDoorHelpQ
import Derived.Test.YtgempjjnfpmndaaGreatDoorHelpO
namespace Go.Proofs.YtgempjjnfpmndaaGreatDoor
open Go.RowKit

def SzIs (W : World) (g n : Nat) : Prop := ∃ cur : Array Value, W.heap[g]? = some (.cells cur 3 (0, 0)) ∧ cur.size = n
theorem SzIs.set {W : World} {g n k : Nat} {v : Value} (h : SzIs W g n) : SzIs (W.setCell ⟨g, k, none⟩ v) g n := by
  obtain ⟨cur, hc, hs⟩ := h
  refine ⟨cur.setIfInBounds k v, ?_, by simpa using hs⟩
  obtain ⟨hlt, he⟩ := Array.getElem?_eq_some_iff.1 hc
  show (W.heap.modify g _)[g]? = _
  rw [Array.getElem?_eq_getElem (by rw [Array.size_modify]; exact hlt), Array.getElem_modify_self, he]
  rfl
theorem Row.ownT {W : World} {g base : Nat} {zs : List Int} (h : Row W g zs) (hs : SzIs W g zs.length) (hb : base ≤ g) (hl : zs.length ≤ 1048576) : OwnL W base (.slice (some ⟨g, 0, none⟩) zs.length zs.length) zs := by
  obtain ⟨h0, cur, hc, _, h2⟩ := h
  obtain ⟨cur', hc', hsz⟩ := hs
  rw [hc] at hc'
  cases hc'
  refine ⟨h0, by simp, .inr ⟨g, zs.length, cur, rfl, hb, hc, Nat.le_refl _, by unfold maxLen; omega, by simpa using hsz, ?_⟩⟩
  apply List.ext_getElem?
  intro j
  rw [List.getElem?_take]
  by_cases hj : j < zs.length
  · rw [if_pos (by simpa using hj)]
    have := h2 j hj
    rw [List.getElem?_map, List.getElem?_eq_getElem hj]
    simp only [Array.getElem?_toList, this, hz, List.getElem?_eq_getElem hj, Option.map_some, Option.getD_some]
  · rw [if_neg (by simpa using hj), List.getElem?_eq_none (by simpa using hj)]
theorem OwnL.farT {W : World} {base : Nat} {v : Value} {l : List Int} {p : Addr} {u : Value} (h : OwnL W base v l) (hne : ∀ j, v.ownBlock = some j → j ≠ p.block) : OwnL (W.setCell p u) base v l :=
  OwnL.kept (row := some p.block) h ⟨rfl, rfl, rfl, by simp, fun k _ hk => Below.heap_setCell _ _ _ _ (fun e => hk (by rw [e]))⟩ (fun k e j hj => by cases e; exact hne j hj)
theorem OwnL.lowT {W : World} {a b : Nat} {v : Value} {l : List Int} (h : OwnL W b v l) (hab : a ≤ b) : OwnL W a v l := ⟨h.1, ownsRow_base h.2 hab⟩
theorem farB {g n c x : Nat} (h : g ≠ x) : ∀ j, (Value.slice (some ⟨g, 0, none⟩) n c).ownBlock = some j → j ≠ x := fun j hj => by simp [Value.ownBlock] at hj; omega
theorem Cells.belowT {n : Nat} {W W' : World} {B : Nat} {t : TypeId} {cs : Array Value} (h : Cells W B t cs) (hk : Below n W W') (hB : B < n) : Cells W' B t cs := (hk.block B hB).trans h
theorem OwnL.intsT {W : World} {base c : Nat} {ao : Option Addr} {l : List Int} (h : OwnL W base (.slice ao l.length c) l) : Ints W ao l := by
  obtain ⟨_, _, e, hI⟩ := h.ints
  cases e
  exact hI
theorem OwnL.keptT {W W' : World} {base : Nat} {v : Value} {l : List Int} (h : OwnL W base v l) (hk : Kept W W') : OwnL W' base v l := OwnL.kept (row := none) h hk.grown (fun k e => by cases e)
theorem OwnL.rowT {W : World} {base g c : Nat} {l : List Int} (h : OwnL W base (.slice (some ⟨g, 0, none⟩) l.length c) l) : Row W g l := (Row.of_owns h.2 h.1).1
theorem OwnL.belowT {W W' : World} {b base : Nat} {v : Value} {l : List Int} (h : OwnL W base v l) (hk : Below b W W') (hlt : ∀ j, v.ownBlock = some j → j < b) : OwnL W' base v l := by
  refine ⟨h.1, h.2.1, ?_⟩
  rcases h.2.2 with ⟨e, hn⟩ | ⟨g, cap, cur, rfl, hb, hg, h1⟩
  · exact .inl ⟨e, hn⟩
  · exact .inr ⟨g, cap, cur, rfl, hb, (hk.block g (hlt g rfl)).trans hg, h1⟩
set_option maxHeartbeats 1000000 in
theorem toIntS_own (w : World) (ao : Option Addr) (cap : Nat) (zs : List Int) (hI : Ints w ao zs) (hl : zs.length ≤ 1048576) :
    Calls Tryz.prog 33 #[.slice ao zs.length cap] w fun e w' => e = .returned (.slice (some ⟨w.heap.size, 0, none⟩) zs.length zs.length) ∧ OwnL w' w.heap.size (.slice (some ⟨w.heap.size, 0, none⟩) zs.length zs.length) zs ∧ Kept w w' := by
  obtain ⟨i0, hi, hz0, hz1, hz2⟩ := info_parts infoI
  go_enter Tryz.func33, Tryz.ntmps33
  go_wp2_with (at_make; refine wpList_make_full _ rfl _ _ 26 rfl w.heap.size 3 i0 (.int .i64 0) 1 Tryz.underlying26 hi hz0 hz1 .i64 .i64 _ _ zs.length rfl rfl rfl rfl (by rw [hz2]; omega) (by unfold maxLen; omega) (Nat.le_refl _) ?_; intro w1 hown hgrow)
  have hS : SzIs w1 w.heap.size zs.length := by
    rcases hown.2 with ⟨e, _⟩ | ⟨g, c, cur, e, _, hg, _, _, h3, _⟩
    · cases e
    · cases e
      exact ⟨cur, hg, by simpa using h3⟩
  rw [madeInts] at hown
  have hR := (Row.of_owns hown (by simp)).1
  have hK : Kept w w1 := (Below.refl _ w).grown hgrow (Nat.le_refl _) (by simp)
  clear hown hgrow
  go_loopw [4] (fun i wr => ∃ k : Nat, i = .int .i64 k ∧ k ≤ zs.length ∧ Row wr w.heap.size (upto zs k) ∧ Hid (SzIs wr w.heap.size zs.length) ∧ Kept w wr) (fun i _ => zs.length - (intOf i).toNat)
  case atStart => exact ⟨0, rfl, Nat.zero_le _, by simpa [upto] using hR, hS, hK⟩
  case round =>
    obtain ⟨k, rfl, hk, hRk, HSk, hKk⟩ := hrel
    clear hR hK hS
    by_cases hlt : k < zs.length
    · obtain ⟨b, off, rfl, hc⟩ := (hI.kept hKk).at hlt
      have hck := hc k hlt
      have hcg := hRk.cell (j := k) (by rw [upto_len _ _ hk]; exact hlt)
      have hfg := hRk.frozen k
      have HR : Hid _ := hRk.set (k := k) (v := hz zs k) (by rw [upto_len _ _ hk]; exact hlt) (hI.bd k)
      have HS : Hid _ := SzIs.set (k := k) (v := .int .i64 (hz zs k)) HSk.out
      have HK : Hid (Kept w _) := hKk.setCell (p := ⟨w.heap.size, k, none⟩) (Nat.le_refl _) (.int .i64 (hz zs k))
      clear hc hI hRk hKk
      go_wp2
      go_roundw
      case rel => exact ⟨k + 1, by go_num, by omega, by rw [← upto_succ zs k hlt]; exact HR.out, HS.out, HK.out⟩
      case measure => simp [intOf]; omega
    · obtain rfl : k = zs.length := by omega
      have HR : Hid _ := hRk
      clear hRk hI
      go_wp2
      go_ret
      exact ⟨rfl, Row.ownT (by have := HR.out; rwa [upto_all] at this) HSk.out (Nat.le_refl _) hl, hKk⟩
set_option maxHeartbeats 4000000 in
theorem toMarker_own (w : World) (ga ba : Option Addr) (gc bc : Nat) (ph at' : Int) (gs bs : List Int) (hG : Ints w ga gs) (hB : Ints w ba bs) (hgl : gs.length ≤ 1048576) (hbl : bs.length ≤ 1048576) :
    Calls Tryz.prog 31 #[.agg #[.int .i64 ph, .slice ga gs.length gc, .slice ba bs.length bc, .int .i64 at']] w fun e w' => ∃ g1 g2, e = .returned (.agg #[.int .i64 ph, .slice (some ⟨g1, 0, none⟩) gs.length gs.length, .slice (some ⟨g2, 0, none⟩) bs.length bs.length, .int .i64 at']) ∧ w.heap.size ≤ g1 ∧ g1 < g2 ∧ OwnL w' w.heap.size (.slice (some ⟨g1, 0, none⟩) gs.length gs.length) gs ∧ OwnL w' w.heap.size (.slice (some ⟨g2, 0, none⟩) bs.length bs.length) bs ∧ Kept w w' := by
  have b0 := ((Cells.new w 30 #[.int .i64 ph, .slice ga gs.length gc, .slice ba bs.length bc, .int .i64 at']).alloc (.cells #[.int .i64 0, .slice none 0 0, .slice none 0 0, .int .i64 0] 40)).alloc (.cells #[.int .i64 0, .slice none 0 0, .slice none 0 0, .int .i64 0] 40)
  have b1 := (Cells.new (w.alloc (.cells #[.int .i64 ph, .slice ga gs.length gc, .slice ba bs.length bc, .int .i64 at'] 30)) 40 #[.int .i64 0, .slice none 0 0, .slice none 0 0, .int .i64 0]).alloc (.cells #[.int .i64 0, .slice none 0 0, .slice none 0 0, .int .i64 0] 40)
  have b2 := Cells.new ((w.alloc (.cells #[.int .i64 ph, .slice ga gs.length gc, .slice ba bs.length bc, .int .i64 at'] 30)).alloc (.cells #[.int .i64 0, .slice none 0 0, .slice none 0 0, .int .i64 0] 40)) 40 #[.int .i64 0, .slice none 0 0, .slice none 0 0, .int .i64 0]
  have k0 : Kept w (((w.alloc (.cells #[.int .i64 ph, .slice ga gs.length gc, .slice ba bs.length bc, .int .i64 at'] 30)).alloc (.cells #[.int .i64 0, .slice none 0 0, .slice none 0 0, .int .i64 0] 40)).alloc (.cells #[.int .i64 0, .slice none 0 0, .slice none 0 0, .int .i64 0] 40)) := ((Kept.alloc (Below.refl _ _) _).alloc _).alloc _
  have hsX : (((w.alloc (.cells #[.int .i64 ph, .slice ga gs.length gc, .slice ba bs.length bc, .int .i64 at'] 30)).alloc (.cells #[.int .i64 0, .slice none 0 0, .slice none 0 0, .int .i64 0] 40)).alloc (.cells #[.int .i64 0, .slice none 0 0, .slice none 0 0, .int .i64 0] 40)).heap.size = w.heap.size + 3 := by simp
  simp only [World.size_alloc] at b1 b2
  have HG : Hid _ := hG
  have HB : Hid _ := hB
  clear hG hB
  go_enter Tryz.func31, Tryz.ntmps31
  go_upto_region 2 with (fail)
  obtain ⟨WX, hWX⟩ : ∃ WX, (((w.alloc (.cells #[.int .i64 ph, .slice ga gs.length gc, .slice ba bs.length bc, .int .i64 at'] 30)).alloc (.cells #[.int .i64 0, .slice none 0 0, .slice none 0 0, .int .i64 0] 40)).alloc (.cells #[.int .i64 0, .slice none 0 0, .slice none 0 0, .int .i64 0] 40)) = WX := ⟨_, rfl⟩
  rw [hWX] at b0 b1 b2 k0 hsX
  simp only [hWX]
  clear hWX
  have HKX : Hid (Kept w WX) := k0
  have m0 := b0.cell 0
  have n0 := b2.cell 0
  have f0 := b2.frozen 0
  have B0 : Hid _ := b0.other (p := ⟨w.heap.size + 2, 0, none⟩) (by simp) (.int .i64 ph)
  have B1 : Hid _ := b1.other (p := ⟨w.heap.size + 2, 0, none⟩) (by simp) (.int .i64 ph)
  have B2 : Hid (Cells (WX.setCell ⟨w.heap.size + 2, 0, none⟩ (.int .i64 ph)) (w.heap.size + 2) 40 #[.int .i64 ph, .slice none 0 0, .slice none 0 0, .int .i64 0]) := b2.set 0 (.int .i64 ph)
  have K1 : Hid (Kept w (WX.setCell ⟨w.heap.size + 2, 0, none⟩ (.int .i64 ph))) := k0.set (by simp) _
  have S1 : Hid ((WX.setCell ⟨w.heap.size + 2, 0, none⟩ (.int .i64 ph)).heap.size = w.heap.size + 3) := by rw [Hid, World.size_setCell]; exact hsX
  go_upto_region 3 with (fail)
  obtain ⟨W1, hW1⟩ : ∃ W1, WX.setCell ⟨w.heap.size + 2, 0, none⟩ (.int .i64 ph) = W1 := ⟨_, rfl⟩
  rw [hW1] at B0 B1 B2 K1 S1
  simp only [hW1]
  clear hW1 m0 n0 f0 b0 b1 b2 k0 hsX
  have m1 := Cells.cell B0.out 1
  go_wp2_with fail
  refine (toIntS_own W1 ga gc gs (Ints.kept HG.out K1.out) hgl).mono ?_
  rintro e w2 ⟨rfl, hR1, hk1⟩
  rw [S1.out] at hR1
  try rw [S1.out]
  clear m1
  have y2 := B2.out.kept hk1
  have n1 := y2.cell 1
  have f1 := y2.frozen 1
  have hs2 := hk1.size
  rw [S1.out] at hs2
  have C0 : Hid _ := (Cells.kept B0.out hk1).other (p := ⟨w.heap.size + 2, 1, none⟩) (by simp) (.slice (some ⟨w.heap.size + 3, 0, none⟩) gs.length gs.length)
  have C1 : Hid _ := (Cells.kept B1.out hk1).other (p := ⟨w.heap.size + 2, 1, none⟩) (by simp) (.slice (some ⟨w.heap.size + 3, 0, none⟩) gs.length gs.length)
  have C2 : Hid (Cells (w2.setCell ⟨w.heap.size + 2, 1, none⟩ (.slice (some ⟨w.heap.size + 3, 0, none⟩) gs.length gs.length)) (w.heap.size + 2) 40 #[.int .i64 ph, .slice (some ⟨w.heap.size + 3, 0, none⟩) gs.length gs.length, .slice none 0 0, .int .i64 0]) := y2.set 1 (.slice (some ⟨w.heap.size + 3, 0, none⟩) gs.length gs.length)
  have K2 : Hid (Kept w (w2.setCell ⟨w.heap.size + 2, 1, none⟩ (.slice (some ⟨w.heap.size + 3, 0, none⟩) gs.length gs.length))) := (Kept.trans K1.out hk1).set (by simp) _
  have R2 : Hid (OwnL (w2.setCell ⟨w.heap.size + 2, 1, none⟩ (.slice (some ⟨w.heap.size + 3, 0, none⟩) gs.length gs.length)) (w.heap.size + 3) (.slice (some ⟨w.heap.size + 3, 0, none⟩) gs.length gs.length) gs) := hR1.farT (farB (by simp))
  have S2 : Hid (w.heap.size + 4 ≤ (w2.setCell ⟨w.heap.size + 2, 1, none⟩ (.slice (some ⟨w.heap.size + 3, 0, none⟩) gs.length gs.length)).heap.size) := by have := (hR1.2.lt _ rfl).2; rw [Hid, World.size_setCell]; simp at this; omega
  clear y2 hs2 hk1 hR1
  go_upto_region 4 with (fail)
  obtain ⟨W2, hW2⟩ : ∃ W2, w2.setCell ⟨w.heap.size + 2, 1, none⟩ (.slice (some ⟨w.heap.size + 3, 0, none⟩) gs.length gs.length) = W2 := ⟨_, rfl⟩
  rw [hW2] at C0 C1 C2 K2 R2 S2
  simp only [hW2]
  clear hW2 n1 f1
  have m2 := Cells.cell C0.out 2
  go_wp2_with fail
  refine (toIntS_own W2 ba bc bs (Ints.kept HB.out K2.out) hbl).mono ?_
  rintro e w3 ⟨rfl, hR3, hk3⟩
  clear m2
  obtain ⟨g2, hg2⟩ : ∃ g2, W2.heap.size = g2 := ⟨_, rfl⟩
  rw [hg2] at hR3 S2
  simp only [hg2]
  have s2 := S2.out
  have y3 := C2.out.kept hk3
  have n2 := y3.cell 2
  have f2 := y3.frozen 2
  have D0 := ((Cells.kept C0.out hk3).other (p := ⟨w.heap.size + 2, 2, none⟩) (by simp) (.slice (some ⟨g2, 0, none⟩) bs.length bs.length))
  have m3 := D0.cell 3
  have D2 : Cells (w3.setCell ⟨w.heap.size + 2, 2, none⟩ (.slice (some ⟨g2, 0, none⟩) bs.length bs.length)) (w.heap.size + 2) 40 #[.int .i64 ph, .slice (some ⟨w.heap.size + 3, 0, none⟩) gs.length gs.length, .slice (some ⟨g2, 0, none⟩) bs.length bs.length, .int .i64 0] := y3.set 2 (.slice (some ⟨g2, 0, none⟩) bs.length bs.length)
  have n3 := D2.cell 3
  have f3 := D2.frozen 3
  have D3 : Hid (Cells ((w3.setCell ⟨w.heap.size + 2, 2, none⟩ (.slice (some ⟨g2, 0, none⟩) bs.length bs.length)).setCell ⟨w.heap.size + 2, 3, none⟩ (.int .i64 at')) (w.heap.size + 2) 40 #[.int .i64 ph, .slice (some ⟨w.heap.size + 3, 0, none⟩) gs.length gs.length, .slice (some ⟨g2, 0, none⟩) bs.length bs.length, .int .i64 at']) := D2.set 3 (.int .i64 at')
  have E1 : Hid _ := ((Cells.kept C1.out hk3).other (p := ⟨w.heap.size + 2, 2, none⟩) (by simp) (.slice (some ⟨g2, 0, none⟩) bs.length bs.length)).other (p := ⟨w.heap.size + 2, 3, none⟩) (by simp) (.int .i64 at')
  have K3 : Hid (Kept w ((w3.setCell ⟨w.heap.size + 2, 2, none⟩ (.slice (some ⟨g2, 0, none⟩) bs.length bs.length)).setCell ⟨w.heap.size + 2, 3, none⟩ (.int .i64 at'))) := ((Kept.trans K2.out hk3).set (by simp) _).set (by simp) _
  have RA : Hid (OwnL ((w3.setCell ⟨w.heap.size + 2, 2, none⟩ (.slice (some ⟨g2, 0, none⟩) bs.length bs.length)).setCell ⟨w.heap.size + 2, 3, none⟩ (.int .i64 at')) (w.heap.size + 3) (.slice (some ⟨w.heap.size + 3, 0, none⟩) gs.length gs.length) gs) := ((OwnL.kept (row := none) R2.out hk3.grown (fun k e => by cases e)).farT (farB (by simp))).farT (farB (by simp))
  have RB : Hid (OwnL ((w3.setCell ⟨w.heap.size + 2, 2, none⟩ (.slice (some ⟨g2, 0, none⟩) bs.length bs.length)).setCell ⟨w.heap.size + 2, 3, none⟩ (.int .i64 at')) g2 (.slice (some ⟨g2, 0, none⟩) bs.length bs.length) bs) := (hR3.farT (farB (by simp; omega))).farT (farB (by simp; omega))
  clear hk3 hR3 y3 D0 D2 C0 C1 C2 K2 R2
  go_upto_region 6 with (fail)
  obtain ⟨W3, hW3⟩ : ∃ W3, (w3.setCell ⟨w.heap.size + 2, 2, none⟩ (.slice (some ⟨g2, 0, none⟩) bs.length bs.length)).setCell ⟨w.heap.size + 2, 3, none⟩ (.int .i64 at') = W3 := ⟨_, rfl⟩
  rw [hW3] at D3 E1 K3 RA RB
  simp only [hW3]
  clear hW3 n2 f2 n3 f3 m3
  have c0 := D3.out.cell 0
  have c1 := D3.out.cell 1
  have c2 := D3.out.cell 2
  have c3 := D3.out.cell 3
  have d0 := Cells.cell E1.out 0
  have d1 := Cells.cell E1.out 1
  have d2 := Cells.cell E1.out 2
  have d3 := Cells.cell E1.out 3
  have f0 := Cells.frozen E1.out 0
  have f1 := Cells.frozen E1.out 1
  have f2 := Cells.frozen E1.out 2
  have f3 := Cells.frozen E1.out 3
  go_wp2_with fail
  have q : Cells ((((W3.setCell ⟨w.heap.size + 1, 0, none⟩ (.int .i64 ph)).setCell ⟨w.heap.size + 1, 1, none⟩ (.slice (some ⟨w.heap.size + 3, 0, none⟩) gs.length gs.length)).setCell ⟨w.heap.size + 1, 2, none⟩ (.slice (some ⟨g2, 0, none⟩) bs.length bs.length)).setCell ⟨w.heap.size + 1, 3, none⟩ (.int .i64 at')) (w.heap.size + 1) 40 #[.int .i64 ph, .slice (some ⟨w.heap.size + 3, 0, none⟩) gs.length gs.length, .slice (some ⟨g2, 0, none⟩) bs.length bs.length, .int .i64 at'] := (((Cells.set 0 (.int .i64 ph) E1.out).set 1 (.slice (some ⟨w.heap.size + 3, 0, none⟩) gs.length gs.length)).set 2 (.slice (some ⟨g2, 0, none⟩) bs.length bs.length)).set 3 (.int .i64 at')
  have q0 := q.cell 0
  have q1 := q.cell 1
  have q2 := q.cell 2
  have q3 := q.cell 3
  refine bodyPost_ret (v := .agg #[.int .i64 ph, .slice (some ⟨w.heap.size + 3, 0, none⟩) gs.length gs.length, .slice (some ⟨g2, 0, none⟩) bs.length bs.length, .int .i64 at']) (by simp [results, Tryz.results31, go_sem, q0, q1, q2, q3]) rfl ⟨w.heap.size + 3, g2, rfl, by omega, by omega, ?_, ?_, ?_⟩
  · exact ((((RA.out.farT (farB (by simp))).farT (farB (by simp))).farT (farB (by simp))).farT (farB (by simp))).lowT (by omega)
  · exact ((((RB.out.farT (farB (by simp; omega))).farT (farB (by simp; omega))).farT (farB (by simp; omega))).farT (farB (by simp; omega))).lowT (by omega)
  · exact (((K3.out.set (by simp) _).set (by simp) _).set (by simp) _).set (by simp) _
end Go.Proofs.YtgempjjnfpmndaaGreatDoor
