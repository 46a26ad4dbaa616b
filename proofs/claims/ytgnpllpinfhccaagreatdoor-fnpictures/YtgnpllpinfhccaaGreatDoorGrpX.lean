/-
  What is told of the region that copies a slab and roots (spec.DrawSameSight's last one).
  The contracts of the draws of chapter 7 (spec.DrawReach, DrawPicture, DrawSameSight).
-/
import Derived.Deep.RegionWith
import Derived.Deep.AppendLies
import Derived.Test.YtgnpllpinfhccaaGreatDoorGrpM
import Derived.Test.YtgnpllpinfhccaaGreatDoorGrpR
import Derived.Test.YtgnpllpinfhccaaGreatDoorGrpQ
import Derived.Test.YtgnpllpinfhccaaGreatDoorGrpW
namespace Go.Proofs.YtgnpllpinfhccaaGreatDoor
open Go.RowKit
attribute [local go_sem] Plain.and7

theorem run_append_roots {w : World} {base E : Nat} (hE : Cells w E 3 #[]) (hb : base ≤ E) (so : Option Addr) (sc : Nat) (l : List Int) (hI : Ints w so l) (hl : l.length ≤ 1048576) (ty : TypeId) :
    ∃ v w', (Builtin.append_ #[24, 24] ty #[.slice (some ⟨E, 0, none⟩) 0 0, .slice so l.length sc]).run Tryz.prog w = .ok v w' ∧ OwnL w' base v l ∧ w.grownBy w' (some E) := by
  obtain ⟨i0, hi, hz0, hz1, hz2⟩ := info_parts infoI
  have hlt := hE.lt
  have hown : w.ownsRow base 3 1 (.slice (some ⟨E, 0, none⟩) 0 0) 0 [] := ⟨by simp, .inr ⟨E, 0, #[], rfl, hb, hE, by omega, by unfold maxLen; omega, by simp, by simp⟩⟩
  cases so with
  | none =>
    have h0 : l = [] := by
      rcases hI.2 with h | ⟨b, off, e, _⟩
      · exact h
      · cases e
    subst h0
    refine ⟨.slice (some ⟨E, 0, none⟩) 0 0, w, ?_, ⟨by simp, by simpa using hown⟩, ⟨rfl, rfl, rfl, Nat.le_refl _, fun _ _ _ => rfl⟩⟩
    simp [Builtin.append_, run_underlying Tryz.underlying24, sizeOf, typeInfo, hi, Builtin.lenOf, Builtin.firstCells, storeCells]
  | some ad =>
    obtain ⟨v', w', hr, h2, h3, h4, h5⟩ := run_append_own_at (P := Tryz.prog) w base 24 ty 3 i0 (.int .i64 0) 1 8 Tryz.underlying24 hi hz0 hz1 hz2 rfl (by decide) _ _ _ hown ad l.length sc (l.map (Value.int .i64)) (by simp) hI.srcs (by intro u hu; obtain ⟨z, _, rfl⟩ := List.mem_map.1 hu; rfl) (by unfold maxLen; omega) (by omega) (by omega)
    exact ⟨v', w', hr, ⟨hI.1, by simpa using h2⟩, h3⟩
theorem exec_append {P : Program} {o : Oper} {ev : Operand → Value} {s x : Operand} {t1 t2 : TypeId} {u w' : World} {v sv xv : Value} (ho : o.op = .call { callee := .builtin .append, args := #[s, x], argTypes := #[t1, t2] }) (hs : ev s = sv) (hx : ev x = xv) (hr : (Builtin.append_ #[t1, t2] o.type #[sv, xv]).run P u = .ok v w') : (execOp ev o).run P u = .ok (.value v) w' := by
  unfold execOp
  simp only [ho, resolve, invoke, builtin, Sem.run_bind, Sem.run_pure, Result.andThen_ok, List.map_toArray, List.map_cons, List.map_nil, hs, hx, hr]
theorem OwnI.pastE {W W' : World} {base E : Nat} {v : Value} {l : List Int} (h : OwnI W base v l) (hE : Cells W E 3 #[]) (hg : W.grownBy W' (some E)) : OwnI W' base v l := by
  obtain ⟨ao, cp, rfl, ⟨hb, hc⟩, h2, h3⟩ := h
  refine ⟨ao, cp, rfl, ⟨hb, ?_⟩, h2, h3⟩
  rcases hc with rfl | ⟨b, off, rfl, hcs⟩
  · exact .inl rfl
  · refine .inr ⟨b, off, rfl, fun j hj => ?_⟩
    have h1 := hcs j hj
    have hne : b ≠ E := by
      rintro rfl
      have hE' : W.heap[b]? = some _ := hE
      simp [World.cell?, hE'] at h1
    have hlt : b < W.heap.size := by
      rcases Nat.lt_or_ge b W.heap.size with h | h
      · exact h
      · simp [World.cell?, Array.getElem?_eq_none h] at h1
    have := hg.block b hlt (by intro e; injection e with e; exact hne e)
    simp only [World.cell?] at h1 ⊢
    rw [this]
    exact h1
theorem cells_neE {W : World} {X E : Nat} {cs : Array Value} (h : Cells W X 26 cs) (hE : Cells W E 3 #[]) : some X ≠ some E := by
  intro e
  injection e with e
  subst e
  have h1 : W.heap[X]? = some _ := h
  rw [show W.heap[X]? = some _ from hE] at h1
  simp at h1
theorem OwnI.slab {W : World} {base B : Nat} {v u : Value} {l : List Int} (h : OwnI W base v l) (hlt : B < base) : OwnI (W.setCell ⟨B, 0, none⟩ u) base v l := by
  obtain ⟨ao, cp, rfl, ⟨hb, hc⟩, h2, h3⟩ := h
  refine ⟨ao, cp, rfl, ⟨hb, ?_⟩, h2, h3⟩
  rcases hc with rfl | ⟨b, off, rfl, hcs⟩
  · exact .inl rfl
  · by_cases hz : l = []
    · exact .inl hz
    · refine .inr ⟨b, off, rfl, fun j hj => ?_⟩
      have hbB : base ≤ b := h2 _ hz rfl
      rw [World.cell?_setCell_other _ _ _ _ (by intro e; exact absurd (congrArg Addr.block e) (by simp; omega))]
      exact hcs j hj
structure CpyB (w u : World) (b X : Nat) (sv rv : Value) (zs rs : List Int) : Prop where
  kept : Kept w u
  size : b ≤ u.heap.size
  p : ∃ s0, Cells u w.heap.size 26 #[s0]
  q : ∃ s0, Cells u (w.heap.size + 1) 26 #[s0]
  x : Cells u X 26 #[sv]
  s : OwnI u b sv zs
  r : OwnI u b rv rs
theorem CpyB.on {w u u' : World} {b X : Nat} {sv rv : Value} {zs rs : List Int} (h : CpyB w u b X sv rv zs rs) (hk : Kept u u') : CpyB w u' b X sv rv zs rs := by
  obtain ⟨s0, hp⟩ := h.p
  obtain ⟨s1, hq⟩ := h.q
  exact ⟨h.kept.trans hk, Nat.le_trans h.size hk.size, ⟨s0, hp.kept hk⟩, ⟨s1, hq.kept hk⟩, h.x.kept hk, h.s.kept hk, h.r.kept hk⟩
theorem CpyB.past {w u u' : World} {b X E : Nat} {sv rv : Value} {zs rs : List Int} (h : CpyB w u b X sv rv zs rs) (hE : Cells u E 3 #[]) (hb : w.heap.size ≤ E) (hg : u.grownBy u' (some E)) : CpyB w u' b X sv rv zs rs := by
  obtain ⟨s0, hp⟩ := h.p
  obtain ⟨s1, hq⟩ := h.q
  exact ⟨h.kept.grownRow hg (fun k e => by injection e with e; omega), Nat.le_trans h.size hg.size, ⟨s0, hp.grown hg (cells_neE hp hE)⟩, ⟨s1, hq.grown hg (cells_neE hq hE)⟩, h.x.grown hg (cells_neE h.x hE), h.s.pastE hE hg, h.r.pastE hE hg⟩
theorem CpyB.setP {w u : World} {b X : Nat} {sv rv : Value} {zs rs : List Int} (h : CpyB w u b X sv rv zs rs) (hX : w.heap.size + 2 ≤ X) (hb : w.heap.size + 2 ≤ b) (v : Value) : CpyB w (u.setCell ⟨w.heap.size, 0, none⟩ v) b X sv rv zs rs := by
  obtain ⟨s0, hp⟩ := h.p
  obtain ⟨s1, hq⟩ := h.q
  exact ⟨h.kept.set (by simp) _, by simpa [World.setCell] using h.size, ⟨v, hp.set1 v⟩, ⟨s1, hq.other (by simp) v⟩, h.x.other (by simp; omega) v, h.s.slab (by omega), h.r.slab (by omega)⟩
theorem CpyB.setQ {w u : World} {b X : Nat} {sv rv : Value} {zs rs : List Int} (h : CpyB w u b X sv rv zs rs) (hX : w.heap.size + 2 ≤ X) (hb : w.heap.size + 2 ≤ b) (v : Value) : CpyB w (u.setCell ⟨w.heap.size + 1, 0, none⟩ v) b X sv rv zs rs := by
  obtain ⟨s0, hp⟩ := h.p
  obtain ⟨s1, hq⟩ := h.q
  exact ⟨h.kept.set (by simp) _, by simpa [World.setCell] using h.size, ⟨s0, hp.other (by simp) v⟩, ⟨v, hq.set1 v⟩, h.x.other (by simp; omega) v, h.s.slab (by omega), h.r.slab (by omega)⟩
def cpyT (w : World) (b X : Nat) (ao ro : Option Addr) (cp rp : Nat) (zs rs : List Int) : Told where
  B u := CpyB w u b X (.slice ao zs.length cp) (.slice ro rs.length rp) zs rs
  R j vs u := match j with
    | 0 => vs 0 = .agg #[.slice ao zs.length cp]
    | 1 => vs 1 = .slice ro rs.length rp
    | 2 => vs 2 = .agg #[.slice ao zs.length cp]
    | 3 => ∃ g c, vs 3 = .agg #[.slice (some ⟨g, 0, none⟩) zs.length c] ∧ OwnI u b (.slice (some ⟨g, 0, none⟩) zs.length c) zs
    | 4 => ∃ E, vs 4 = .slice (some ⟨E, 0, none⟩) 0 0 ∧ b ≤ E ∧ Cells u E 3 #[]
    | 5 => vs 5 = .slice ro rs.length rp
    | 6 => OwnI u b (vs 6) rs
    | 7 => Cells u w.heap.size 26 #[.slice ao zs.length cp]
    | 8 => vs 8 = .slice ro rs.length rp
    | 9 => ∃ g c, vs 3 = .agg #[.slice (some ⟨g, 0, none⟩) zs.length c] ∧ Cells u (w.heap.size + 1) 26 #[.slice (some ⟨g, 0, none⟩) zs.length c]
    | _ => True
def cpyD (i j : Nat) : Bool := i == 6 && j == 4
theorem cpyT_kept {w u u' : World} {b X : Nat} {ao ro : Option Addr} {cp rp : Nat} {zs rs : List Int} (hk : Kept u u') (j : Nat) (vs : Nat → Value) (h : (cpyT w b X ao ro cp rp zs rs).R j vs u) : (cpyT w b X ao ro cp rp zs rs).R j vs u' := by
  match j, h with
  | 0, h => exact h
  | 1, h => exact h
  | 2, h => exact h
  | 3, h => obtain ⟨g, c, e, h1⟩ := h; exact ⟨g, c, e, h1.kept hk⟩
  | 4, h => obtain ⟨E, e, h1, h2⟩ := h; exact ⟨E, e, h1, h2.kept hk⟩
  | 5, h => exact h
  | 6, h => exact OwnI.kept h hk
  | 7, h => exact Cells.kept h hk
  | 8, h => exact h
  | 9, h => obtain ⟨g, c, e, h1⟩ := h; exact ⟨g, c, e, h1.kept hk⟩
  | _ + 10, _ => exact trivial
theorem cpyT_own {ops : Array Oper} {w : World} {b X : Nat} {ao ro : Option Addr} {cp rp : Nat} {zs rs : List Int} (h93 : depOk ops 9 3 = true) : (cpyT w b X ao ro cp rp zs rs).own ops := by
  intro j vs vs' u h hR
  match j, h, hR with
  | 0, h, hR => show vs' 0 = _; rw [← h 0 (.inl rfl)]; exact hR
  | 1, h, hR => show vs' 1 = _; rw [← h 1 (.inl rfl)]; exact hR
  | 2, h, hR => show vs' 2 = _; rw [← h 2 (.inl rfl)]; exact hR
  | 3, h, hR => show ∃ g c, vs' 3 = _ ∧ _; rw [← h 3 (.inl rfl)]; exact hR
  | 4, h, hR => show ∃ E, vs' 4 = _ ∧ _; rw [← h 4 (.inl rfl)]; exact hR
  | 5, h, hR => show vs' 5 = _; rw [← h 5 (.inl rfl)]; exact hR
  | 6, h, hR => show OwnI u _ (vs' 6) _; rw [← h 6 (.inl rfl)]; exact hR
  | 7, _, hR => exact hR
  | 8, h, hR => show vs' 8 = _; rw [← h 8 (.inl rfl)]; exact hR
  | 9, h, hR => show ∃ g c, vs' 3 = _ ∧ _; rw [← h 3 (.inr h93)]; exact hR
  | _ + 10, _, _ => exact trivial
theorem cpyT_past {w u u' : World} {b X E : Nat} {ao ro : Option Addr} {cp rp : Nat} {zs rs : List Int} (hE : Cells u E 3 #[]) (hg : u.grownBy u' (some E)) (j : Nat) (vs : Nat → Value) (hD : cpyD 6 j = false) (h : (cpyT w b X ao ro cp rp zs rs).R j vs u) : (cpyT w b X ao ro cp rp zs rs).R j vs u' := by
  match j, hD, h with
  | 0, _, h => exact h
  | 1, _, h => exact h
  | 2, _, h => exact h
  | 3, _, h => obtain ⟨g, c, e, h1⟩ := h; exact ⟨g, c, e, h1.pastE hE hg⟩
  | 4, hD, _ => exact absurd hD (by decide)
  | 5, _, h => exact h
  | 6, _, h => exact OwnI.pastE h hE hg
  | 7, _, h => exact Cells.grown h hg (cells_neE h hE)
  | 8, _, h => exact h
  | 9, _, h => obtain ⟨g, c, e, h1⟩ := h; exact ⟨g, c, e, h1.grown hg (cells_neE h1 hE)⟩
  | _ + 10, _, _ => exact trivial
theorem cpyT_setP {w u : World} {b X : Nat} {ao ro : Option Addr} {cp rp : Nat} {zs rs : List Int} {v : Value} (hb : w.heap.size + 2 ≤ b) (j : Nat) (vs : Nat → Value) (hj : j ≠ 7) (h : (cpyT w b X ao ro cp rp zs rs).R j vs u) : (cpyT w b X ao ro cp rp zs rs).R j vs (u.setCell ⟨w.heap.size, 0, none⟩ v) := by
  match j, hj, h with
  | 0, _, h => exact h
  | 1, _, h => exact h
  | 2, _, h => exact h
  | 3, _, h => obtain ⟨g, c, e, h1⟩ := h; exact ⟨g, c, e, h1.slab (by omega)⟩
  | 4, _, h => obtain ⟨E, e, h1, h2⟩ := h; exact ⟨E, e, h1, h2.other (by simp; omega) v⟩
  | 5, _, h => exact h
  | 6, _, h => exact OwnI.slab h (by omega)
  | 7, hj, _ => exact absurd rfl hj
  | 8, _, h => exact h
  | 9, _, h => obtain ⟨g, c, e, h1⟩ := h; exact ⟨g, c, e, h1.other (by simp) v⟩
  | _ + 10, _, _ => exact trivial
theorem cpyT_setQ {w u : World} {b X : Nat} {ao ro : Option Addr} {cp rp : Nat} {zs rs : List Int} {v : Value} (hb : w.heap.size + 2 ≤ b) (j : Nat) (vs : Nat → Value) (hj : j ≠ 9) (h : (cpyT w b X ao ro cp rp zs rs).R j vs u) : (cpyT w b X ao ro cp rp zs rs).R j vs (u.setCell ⟨w.heap.size + 1, 0, none⟩ v) := by
  match j, hj, h with
  | 0, _, h => exact h
  | 1, _, h => exact h
  | 2, _, h => exact h
  | 3, _, h => obtain ⟨g, c, e, h1⟩ := h; exact ⟨g, c, e, h1.slab (by omega)⟩
  | 4, _, h => obtain ⟨E, e, h1, h2⟩ := h; exact ⟨E, e, h1, h2.other (by simp; omega) v⟩
  | 5, _, h => exact h
  | 6, _, h => exact OwnI.slab h (by omega)
  | 7, _, h => exact Cells.other h (by simp) v
  | 8, _, h => exact h
  | 9, hj, _ => exact absurd rfl hj
  | _ + 10, _, _ => exact trivial
end Go.Proofs.YtgnpllpinfhccaaGreatDoor
namespace Go.Proofs.YtgnpllpinfhccaaGreatDoor
open Go.RowKit
attribute [local go_sem] Plain.and7
set_option linter.unusedSimpArgs false

set_option maxHeartbeats 8000000 in
set_option maxRecDepth 100000 in
theorem DrawReach_ok (a : Option Addr) (len cap : Nat) (z : Nat → Int) (w : World) (h : Src w.heap.size w a len z) :
    Calls Tryz.prog 14 #[.slice a len cap] w fun e w' => ∃ v zs rv rs, e = .returned (.tuple #[.agg #[v], rv]) ∧ OwnI w' w.heap.size v zs ∧ zs.length ≤ 200 ∧ OwnI w' w.heap.size rv rs ∧ rs.length ≤ 4 ∧ Kept w w' := by
  have b0 := Cells.new w 26 #[.slice none 0 0]
  have k0 : Kept w (w.alloc (.cells #[.slice none 0 0] 26)) := Kept.alloc (Below.refl _ _) _
  have hD := l7Draw_ok a len cap z _ (h.below k0)
  go_enter Tryz.func14, Tryz.ntmps14
  go_wp2_with fail
  refine hD.mono ?_
  rintro e w1 ⟨v, zs, rv, rs, rfl, hO, hl, hR, hrl, hk1⟩
  have b1 := b0.kept hk1
  have k1 := k0.trans hk1
  have c1 := b1.cell 0
  have f1 := b1.frozen 0
  have l1 := b1.lt
  have hO1 := hO.base (base' := w.heap.size) (by simp)
  have hR1 := hR.base (base' := w.heap.size) (by simp)
  obtain ⟨ao, cp, rfl, _⟩ := hO
  obtain ⟨ro, rp, rfl, _⟩ := hR
  go_wp2_with fail
  have q := ((b1.set1 (.slice ao zs.length cp)).alloc (.cells #[.slice ao zs.length cp] 26)).cell 0
  refine bodyPost_ret (v := .tuple #[.agg #[.slice ao zs.length cp], .slice ro rs.length rp]) (by simp [results, Tryz.results14, go_sem, q]) rfl ⟨_, zs, _, rs, rfl, ?_, hl, ?_, hrl, (k1.set (by simp) _).alloc _⟩
  · exact (hO1.other b1 (by intro j n; cases j <;> simp) _).kept (Kept.alloc (Below.refl _ _) _)
  · exact (hR1.other b1 (by intro j n; cases j <;> simp) _).kept (Kept.alloc (Below.refl _ _) _)
set_option maxHeartbeats 8000000 in
set_option maxRecDepth 100000 in
theorem DrawPicture_ok (a : Option Addr) (len cap : Nat) (z : Nat → Int) (w : World) (h : Src w.heap.size w a len z) :
    Calls Tryz.prog 10 #[.slice a len cap] w fun e w' => ∃ v zs rv rs, e = .returned (.tuple #[.agg #[v], rv]) ∧ OwnI w' w.heap.size v zs ∧ zs.length ≤ 200 ∧ OwnI w' w.heap.size rv rs ∧ rs.length ≤ 4 ∧ Kept w w' := by
  have b0 := Cells.new w 26 #[.slice none 0 0]
  have k0 : Kept w (w.alloc (.cells #[.slice none 0 0] 26)) := Kept.alloc (Below.refl _ _) _
  have hD := l7Draw_ok a len cap z _ (h.below k0)
  go_enter Tryz.func10, Tryz.ntmps10
  go_wp2_with fail
  refine hD.mono ?_
  rintro e w1 ⟨v, zs, rv, rs, rfl, hO, hl, hR, hrl, hk1⟩
  have b1 := b0.kept hk1
  have k1 := k0.trans hk1
  have c1 := b1.cell 0
  have f1 := b1.frozen 0
  have l1 := b1.lt
  have hO1 := hO.base (base' := w.heap.size) (by simp)
  have hR1 := hR.base (base' := w.heap.size) (by simp)
  obtain ⟨ao, cp, rfl, _⟩ := hO
  obtain ⟨ro, rp, rfl, _⟩ := hR
  go_wp2_with fail
  have q := ((b1.set1 (.slice ao zs.length cp)).alloc (.cells #[.slice ao zs.length cp] 26)).cell 0
  refine bodyPost_ret (v := .tuple #[.agg #[.slice ao zs.length cp], .slice ro rs.length rp]) (by simp [results, Tryz.results10, go_sem, q]) rfl ⟨_, zs, _, rs, rfl, ?_, hl, ?_, hrl, (k1.set (by simp) _).alloc _⟩
  · exact (hO1.other b1 (by intro j n; cases j <;> simp) _).kept (Kept.alloc (Below.refl _ _) _)
  · exact (hR1.other b1 (by intro j n; cases j <;> simp) _).kept (Kept.alloc (Below.refl _ _) _)
theorem two_slabs {w W : World} {s0 s1 : Value} (p : Cells W w.heap.size 26 #[.slice none 0 0]) (q : Cells W (w.heap.size + 1) 26 #[.slice none 0 0]) (k : Kept w W) :
    Kept w ((W.setCell ⟨w.heap.size, 0, none⟩ s0).setCell ⟨w.heap.size + 1, 0, none⟩ s1).drew ∧ Cells ((W.setCell ⟨w.heap.size, 0, none⟩ s0).setCell ⟨w.heap.size + 1, 0, none⟩ s1).drew w.heap.size 26 #[s0] ∧ Cells ((W.setCell ⟨w.heap.size, 0, none⟩ s0).setCell ⟨w.heap.size + 1, 0, none⟩ s1).drew (w.heap.size + 1) 26 #[s1] ∧
    ∀ base v l, OwnI W base v l → OwnI ((W.setCell ⟨w.heap.size, 0, none⟩ s0).setCell ⟨w.heap.size + 1, 0, none⟩ s1).drew base v l := by
  have q1 := q.other (p := ⟨w.heap.size, 0, none⟩) (by simp) s0
  refine ⟨((k.set (by simp) _).set (by simp) _).trans (Below.refl _ _).drew, ((p.set1 s0).other (by simp) s1).kept (Below.refl _ _).drew, (q1.set1 s1).kept (Below.refl _ _).drew, fun base v l h => ?_⟩
  exact ((h.other p (by intro j n; cases j <;> simp) s0).other q1 (by intro j n; cases j <;> simp) s1).kept (Below.refl _ _).drew
theorem two_slabsN {w W : World} {s0 s1 : Value} (p : Cells W w.heap.size 26 #[.slice none 0 0]) (q : Cells W (w.heap.size + 1) 26 #[.slice none 0 0]) (k : Kept w W) :
    Kept w ((W.setCell ⟨w.heap.size, 0, none⟩ s0).setCell ⟨w.heap.size + 1, 0, none⟩ s1) ∧ Cells ((W.setCell ⟨w.heap.size, 0, none⟩ s0).setCell ⟨w.heap.size + 1, 0, none⟩ s1) w.heap.size 26 #[s0] ∧ Cells ((W.setCell ⟨w.heap.size, 0, none⟩ s0).setCell ⟨w.heap.size + 1, 0, none⟩ s1) (w.heap.size + 1) 26 #[s1] ∧
    ∀ base v l, OwnI W base v l → OwnI ((W.setCell ⟨w.heap.size, 0, none⟩ s0).setCell ⟨w.heap.size + 1, 0, none⟩ s1) base v l := by
  have q1 := q.other (p := ⟨w.heap.size, 0, none⟩) (by simp) s0
  refine ⟨(k.set (by simp) _).set (by simp) _, (p.set1 s0).other (by simp) s1, q1.set1 s1, fun base v l h => ?_⟩
  exact (h.other p (by intro j n; cases j <;> simp) s0).other q1 (by intro j n; cases j <;> simp) s1
set_option maxHeartbeats 32000000 in
set_option maxRecDepth 100000 in
theorem DrawSameSight_ok (a : Option Addr) (len cap : Nat) (z : Nat → Int) (w : World) (h : Src w.heap.size w a len z) :
    Calls Tryz.prog 7 #[.slice a len cap] w fun e w' => ∃ v zs rv rs v2 ys rv2 qs, e = .returned (.tuple #[.agg #[v], rv, .agg #[v2], rv2]) ∧ OwnI w' w.heap.size v zs ∧ zs.length ≤ 200 ∧ OwnI w' w.heap.size rv rs ∧ rs.length ≤ 4 ∧ OwnI w' w.heap.size v2 ys ∧ ys.length ≤ 200 ∧ OwnI w' w.heap.size rv2 qs ∧ qs.length ≤ 4 ∧ Kept w w' := by
  have b0 := (Cells.new w 26 #[.slice none 0 0]).alloc (.cells #[.slice none 0 0] 26)
  have b1 := Cells.new (w.alloc (.cells #[.slice none 0 0] 26)) 26 #[.slice none 0 0]
  simp only [World.size_alloc] at b1
  have k0 : Kept w ((w.alloc (.cells #[.slice none 0 0] 26)).alloc (.cells #[.slice none 0 0] 26)) := (Kept.alloc (Below.refl _ _) _).alloc _
  have h0 : Src ((w.alloc (.cells #[.slice none 0 0] 26)).alloc (.cells #[.slice none 0 0] 26)).heap.size ((w.alloc (.cells #[.slice none 0 0] 26)).alloc (.cells #[.slice none 0 0] 26)) a len z := h.below k0
  go_enter Tryz.func7, Tryz.ntmps7
  go_wp2_with fail
  refine (l1New_ok a len cap z _ h0).mono ?_
  rintro e w1 ⟨c, rfl, hc1, hk1, hC1⟩
  have p1 := b0.kept hk1
  have q1 := b1.kept hk1
  have k1 := k0.trans hk1
  simp only [World.size_alloc] at hc1
  have hs1 := h.below k1
  clear h0 hk1 b0 b1 k0
  go_wp2_with fail
  refine (l7Draw_ok a len cap z _ hs1).mono ?_
  rintro e w2 ⟨v, zs, rv, rs, rfl, hO, hl, hRt, hrl, hk2⟩
  have hO2 := hO
  have hRt2 := hRt
  have C2 := hC1.kept hk2
  have hcb := hC1.lt
  have p2 := p1.kept hk2
  have q2 := q1.kept hk2
  have k2 := k1.trans hk2
  obtain ⟨ao, cp, rfl, _⟩ := hO
  obtain ⟨ro, rp, rfl, _⟩ := hRt
  have ka : Kept w2 (w2.alloc (.cells #[.slice ao zs.length cp] 26)) := Kept.alloc (Below.refl _ _) _
  have x3 := Cells.new w2 26 #[.slice ao zs.length cp]
  have C3 := C2.kept ka
  have p3 := p2.kept ka
  have q3 := q2.kept ka
  have O3 := hO2.kept ka
  have R3 := hRt2.kept ka
  have k3 := k2.trans ka
  have hs2 := hk2.size
  have hsw := k1.size
  obtain ⟨B, hB⟩ : ∃ B, w2.heap.size = B := ⟨_, rfl⟩
  go_wp2_with fail
  obtain ⟨w3, hw3⟩ : ∃ w3, w2.alloc (.cells #[.slice ao zs.length cp] 26) = w3 := ⟨_, rfl⟩
  rw [hw3] at x3 C3 p3 q3 O3 R3 k3
  rw [hB] at x3 hs2
  rw [hw3]
  clear hw3 ka hk2 hC1 C2 hO2 hRt2 p1 q1 k1 p2 q2 k2
  refine (l1Below_ok c a len cap z 3 (by decide) _ C3).mono ?_
  rintro e w4 ⟨x, rfl, hx0, hx1, hk4, C4⟩
  have x4 := x3.keeps hk4 (by omega)
  have p4 := p3.keeps hk4 (by omega)
  have q4 := q3.keeps hk4 (by omega)
  have O4 := O3.keeps hk4 hcb
  have R4 := R3.keeps hk4 hcb
  have k4 : Kept w w4 := Below.trans k3 (hk4.below (by omega) k3.size)
  have hx3 := hx1 (by decide)
  clear hx1 hk4 C3 x3 p3 q3 O3 R3 k3 hs1
  have m4 := x4.cell 0
  have lx4 := x4.lt
  rcases (show x = 0 ∨ x = 1 ∨ x = 2 by omega) with rfl | rfl | rfl
  · have hI4 : Ints w4 ao zs := by obtain ⟨_, _, e1, hi, _⟩ := O4; cases e1; exact hi
    have hJ4 : Ints w4 ro rs := by obtain ⟨_, _, e1, hi, _⟩ := R4; cases e1; exact hi
    have hT := spec_Tidy_ok _ ao ro cp rp zs rs hI4 (by omega) hJ4 (by omega)
    clear hI4 hJ4
    go_wp2_with fail
    refine hT.mono ?_
    rintro e w5 ⟨v5, r5, ys, qs, rfl, o5, s5, hy, hq, hk5⟩
    have Y5 := o5.ownI
    have Q5 := s5.ownI
    obtain ⟨ya, yc, rfl, _⟩ := o5.ints
    obtain ⟨qa, qc, rfl, _⟩ := s5.ints
    have hs4 := k4.size
    have ka : Kept w5 (w5.alloc (.cells #[.slice ya ys.length yc] 26)) := Kept.alloc (Below.refl _ _) _
    have y6 := Cells.new w5 26 #[.slice ya ys.length yc]
    have x6 := (x4.kept hk5).kept ka
    have p6 := (p4.kept hk5).kept ka
    have q6 := (q4.kept hk5).kept ka
    have O6 := (O4.kept hk5).kept ka
    have R6 := (R4.kept hk5).kept ka
    have Y6 := Y5.kept ka
    have Q6 := Q5.kept ka
    have k6 := (k4.trans hk5).trans ka
    have hs5 := hk5.size
    obtain ⟨D, hD⟩ : ∃ D, w5.heap.size = D := ⟨_, rfl⟩
    go_wp2_with fail
    obtain ⟨w6, hw6⟩ : ∃ w6, w5.alloc (.cells #[.slice ya ys.length yc] 26) = w6 := ⟨_, rfl⟩
    rw [hw6] at y6 x6 p6 q6 O6 R6 Y6 Q6 k6
    rw [hD] at y6 hs5
    rw [hw6]
    have m6 := x6.cell 0
    have n6 := y6.cell 0
    have e0 := p6.cell 0; have f0 := p6.frozen 0; have l0 := p6.lt; have e1 := q6.cell 0; have f1 := q6.frozen 0; have l1 := q6.lt
    have hBw : B ≠ w.heap.size := by omega
    have hDw : D ≠ w.heap.size := by omega
    have hBv : B ≠ w.heap.size + 1 := by omega
    have hDv : D ≠ w.heap.size + 1 := by omega
    go_region
    all_goals (
      go_wp2_with fail
      obtain ⟨K9, c6, c7, ho⟩ := two_slabs (s0 := .slice ao zs.length cp) (s1 := .slice ya ys.length yc) p6 q6 k6
      have z2 := c6.cell 0
      have z4 := c7.cell 0
      refine bodyPost_ret (v := .tuple #[.agg #[.slice ao zs.length cp], .slice ro rs.length rp, .agg #[.slice ya ys.length yc], .slice qa qs.length qc]) (by simp [results, Tryz.results7, go_sem, z2, z4]) rfl ⟨_, zs, _, rs, _, ys, _, qs, rfl, (ho _ _ _ O6).base hsw, hl, (ho _ _ _ R6).base hsw, hrl, (ho _ _ _ Y6).base (by omega), by omega, (ho _ _ _ Q6).base (by omega), by omega, K9⟩)
  · go_wp2_with fail
    refine (l3Draw_ok c a len cap z _ C4).mono ?_
    rintro e w5 ⟨v5, ys, r5, ts, rfl, Y5, hy, T5, ht, hk5, C5⟩
    have Y55 := Y5
    have T55 := T5
    obtain ⟨ya, yc, rfl, _⟩ := Y5
    obtain ⟨ta, tc, rfl, _⟩ := T5
    have hs4 := k4.size
    have hc4 := C4.lt
    have ka : Kept w5 (w5.alloc (.cells #[.slice ya ys.length yc] 26)) := Kept.alloc (Below.refl _ _) _
    have y6 := Cells.new w5 26 #[.slice ya ys.length yc]
    have x6 := (x4.keeps hk5 (by omega)).kept ka
    have p6 := (p4.keeps hk5 (by omega)).kept ka
    have q6 := (q4.keeps hk5 (by omega)).kept ka
    have O6 := (O4.keeps hk5 hcb).kept ka
    have R6 := (R4.keeps hk5 hcb).kept ka
    have Y6 := Y55.kept ka
    have T6 := T55.kept ka
    have C6 := C5.kept ka
    have k5 : Kept w w5 := Below.trans k4 (hk5.below (by omega) k4.size)
    have k6 := k5.trans ka
    have hs5 := hk5.size
    obtain ⟨D, hD⟩ : ∃ D, w5.heap.size = D := ⟨_, rfl⟩
    go_wp2_with fail
    obtain ⟨w6, hw6⟩ : ∃ w6, w5.alloc (.cells #[.slice ya ys.length yc] 26) = w6 := ⟨_, rfl⟩
    rw [hw6] at y6 x6 p6 q6 O6 R6 Y6 T6 k6 C6
    rw [hD] at y6 hs5
    rw [hw6]
    have hs6 := k6.size
    have hw4 : w4.heap.size ≤ w6.heap.size := by have := y6.lt; omega
    have kd : Kept w6 w6.drew := (Below.refl _ w6).drew
    have xd := x6.kept kd
    have yd := y6.kept kd
    have pd := p6.kept kd
    have qd := q6.kept kd
    have Od := O6.kept kd
    have Rd := R6.kept kd
    have Yd := Y6.kept kd
    have Kd := k6.trans kd
    have m6 := x6.cell 0
    have n6 := y6.cell 0
    have hA := l7DrawSome_ok c a len cap z _ (C6.kept kd) w4.heap.size ta tc ts (T6.kept kd) hc4 (by omega)
    have hBw : B ≠ w.heap.size := by omega
    have hDw : D ≠ w.heap.size := by omega
    have hBv : B ≠ w.heap.size + 1 := by omega
    have hDv : D ≠ w.heap.size + 1 := by omega
    clear x4 p4 q4 O4 R4 k4 k5 C4 m4 C5 hk5 ka x6 y6 p6 q6 O6 R6 Y6 T6 C6 Y55 T55
    go_region_with (first | (go_at_call 28; refine hA.mono ?_; rintro e wz ⟨u, l, rfl, hu, hll, hkz, Cz⟩; have U9 := hu.ownI; obtain ⟨la, lc, rfl, _⟩ := hu.ints; have x8 := xd.keeps hkz (by omega); have y8 := yd.keeps hkz (by omega); have p8 := pd.keeps hkz (by omega); have q8 := qd.keeps hkz (by omega); have m8 := x8.cell 0; have n8 := y8.cell 0; have e0 := p8.cell 0; have f0 := p8.frozen 0; have l0 := p8.lt; have e1 := q8.cell 0; have f1 := q8.frozen 0; have l1 := q8.lt))
    all_goals (
      have O8 := Od.keeps hkz hcb
      have R8 := Rd.keeps hkz hcb
      have Y8 := Yd.keeps hkz hc4
      have K8 : Kept w wz := Below.trans Kd (hkz.below (by omega) Kd.size)
      have hd6 := kd.size
      go_wp2_with fail
      obtain ⟨K9, c6, c7, ho⟩ := two_slabsN (s0 := .slice ao zs.length cp) (s1 := .slice ya ys.length yc) p8 q8 K8
      have z2 := c6.cell 0
      have z4 := c7.cell 0
      refine bodyPost_ret (v := .tuple #[.agg #[.slice ao zs.length cp], .slice ro rs.length rp, .agg #[.slice ya ys.length yc], .slice la l.length lc]) (by simp [results, Tryz.results7, go_sem, z2, z4]) rfl ⟨_, zs, _, rs, _, ys, _, l, rfl, (ho _ _ _ O8).base hsw, hl, (ho _ _ _ R8).base hsw, hrl, (ho _ _ _ Y8).base (by omega), hy, (ho _ _ _ U9).base (by omega), hll, K9⟩)
  · have hwb : w.heap.size + 2 ≤ w1.heap.size := by omega
    have hwX : w.heap.size + 2 ≤ B := by omega
    have hBd : CpyB w w4 w1.heap.size B (.slice ao zs.length cp) (.slice ro rs.length rp) zs rs := ⟨k4, by have := x4.lt; omega, ⟨_, p4⟩, ⟨_, q4⟩, x4, O4, R4⟩
    clear x4 p4 q4 O4 R4 k4 C4
    go_wp2_with fail
    clear m4 lx4
    refine wp_region_told 10 (cpyT w w1.heap.size B ao ro cp rp zs rs) cpyD (by kernel_rfl) (by kernel_rfl) (by decide) (by kernel_rfl) (by kernel_rfl) (cpyT_own (by kernel_rfl)) (hBd.on (Below.refl _ _).drew) ?_ ?_
    · intro i hi vs
      rcases (show i = 0 ∨ i = 1 ∨ i = 2 ∨ i = 3 ∨ i = 4 ∨ i = 5 ∨ i = 6 ∨ i = 7 ∨ i = 8 ∨ i = 9 by omega) with rfl | rfl | rfl | rfl | rfl | rfl | rfl | rfl | rfl | rfl
      · refine ⟨_, rfl, fun u hu hd => .inl ⟨(.agg #[.slice ao zs.length cp]), u, ?_, hu, by simp [cpyT, vsX], (fun j _ _ _ h => h)⟩⟩
        have m8 := CpyB.x hu |>.cell 0
        simp only [frR, dstAt, List.getElem?_toArray, List.getElem?_cons_zero, List.getElem?_cons_succ, Option.bind_some, Act.put, List.setIfInBounds_toArray, List.set_cons_zero, List.set_cons_succ]; go_simp; first | done | exact rfl
      · refine ⟨_, rfl, fun u hu hd => .inl ⟨(.slice ro rs.length rp), u, ?_, hu, by simp [cpyT, vsX], (fun j _ _ _ h => h)⟩⟩
        simp only [frR, dstAt, List.getElem?_toArray, List.getElem?_cons_zero, List.getElem?_cons_succ, Option.bind_some, Act.put, List.setIfInBounds_toArray, List.set_cons_zero, List.set_cons_succ]; go_simp; first | done | exact rfl
      · refine ⟨_, rfl, fun u hu hd => .inl ⟨(.agg #[.slice ao zs.length cp]), u, ?_, hu, by simp [cpyT, vsX], (fun j _ _ _ h => h)⟩⟩
        have m8 := CpyB.x hu |>.cell 0
        simp only [frR, dstAt, List.getElem?_toArray, List.getElem?_cons_zero, List.getElem?_cons_succ, Option.bind_some, Act.put, List.setIfInBounds_toArray, List.set_cons_zero, List.set_cons_succ]; go_simp; first | done | exact rfl
      · refine ⟨_, rfl, fun u hu hd => .inr (.inl ⟨29, #[(.agg #[.slice ao zs.length cp])], ?_, ?_⟩)⟩
        · have e2 : vs 2 = (.agg #[.slice ao zs.length cp]) := hd 2 (by kernel_rfl)
          simp only [frR, dstAt, List.getElem?_toArray, List.getElem?_cons_zero, List.getElem?_cons_succ, Option.bind_some, Act.put, List.setIfInBounds_toArray, List.set_cons_zero, List.set_cons_succ]; simp only [e2]; go_simp; first | done | exact rfl
        · have hI9 : Ints u ao zs := by obtain ⟨_, _, e1, hi, _⟩ := CpyB.s hu; cases e1; exact hi
          refine (l2Copy_ok u ao cp zs hI9 (by omega)).mono ?_
          rintro e w9 ⟨g9, c9, rfl, hg9, hc9, hR9, hk9, _⟩
          have hz9 := CpyB.size hu
          exact ⟨_, rfl, CpyB.on hu hk9, ⟨g9, c9, by simp [vsX], OwnI.ofRow hR9 (by omega) hc9⟩, (fun j _ _ _ h => cpyT_kept hk9 j vs h)⟩
      · refine ⟨_, rfl, fun u hu hd => .inl ⟨.slice (some ⟨u.heap.size, 0, none⟩) 0 0, u.alloc (.cells #[] 3), ?_, CpyB.on hu (Kept.alloc (Below.refl _ _) _), ⟨u.heap.size, by simp [vsX], CpyB.size hu, Cells.new _ _ _⟩, (fun j _ _ _ h => cpyT_kept (Kept.alloc (Below.refl _ _) _) j vs h)⟩⟩
        simp only [frR, dstAt, List.getElem?_toArray, List.getElem?_cons_zero, List.getElem?_cons_succ, Option.bind_some, Act.put, List.setIfInBounds_toArray, List.set_cons_zero, List.set_cons_succ]; go_simp; first | done | exact rfl
      · refine ⟨_, rfl, fun u hu hd => .inl ⟨(.slice ro rs.length rp), u, ?_, hu, by simp [cpyT, vsX], (fun j _ _ _ h => h)⟩⟩
        simp only [frR, dstAt, List.getElem?_toArray, List.getElem?_cons_zero, List.getElem?_cons_succ, Option.bind_some, Act.put, List.setIfInBounds_toArray, List.set_cons_zero, List.set_cons_succ]; go_simp; first | done | exact rfl
      · refine ⟨_, rfl, fun u hu hd => ?_⟩
        obtain ⟨E, e4, hE4, hCE⟩ : ∃ E, vs 4 = .slice (some ⟨E, 0, none⟩) 0 0 ∧ w1.heap.size ≤ E ∧ Cells u E 3 #[] := hd 4 (by kernel_rfl)
        have e5 : vs 5 = (.slice ro rs.length rp) := hd 5 (by kernel_rfl)
        have hJ9 : Ints u ro rs := by obtain ⟨_, _, e1, hi, _⟩ := CpyB.r hu; cases e1; exact hi
        obtain ⟨v9, w9, hr9, hO9, hg9⟩ := run_append_roots hCE hE4 ro rp rs hJ9 (by omega) 24
        refine .inl ⟨v9, w9, ?_, CpyB.past hu hCE (by omega) hg9, by simpa [cpyT, vsX] using hO9.ownI, fun j _ _ hD h => cpyT_past hCE hg9 j vs hD h⟩
        simp only [frR, dstAt, List.getElem?_toArray, List.getElem?_cons_zero, List.getElem?_cons_succ, Option.bind_some, Act.put, List.setIfInBounds_toArray, List.set_cons_zero, List.set_cons_succ]
        simp only [e4, e5]
        exact exec_append (by rfl) (by rfl) (by rfl) hr9
      · refine ⟨_, rfl, fun u hu hd => ?_⟩
        have e0 : vs 0 = (.agg #[.slice ao zs.length cp]) := hd 0 (by kernel_rfl)
        obtain ⟨s0, hp9⟩ := CpyB.p hu
        have x0 := hp9.cell 0
        have x1 := hp9.frozen 0
        have x2 := hp9.lt
        refine .inr (.inr ⟨u.setCell ⟨w.heap.size, 0, none⟩ (.slice ao zs.length cp), ?_, CpyB.setP hu (by omega) (by omega) _, hp9.set1 _, fun j hj _ _ h => cpyT_setP (by omega) j vs hj h⟩)
        simp only [frR, dstAt, List.getElem?_toArray, List.getElem?_cons_zero, List.getElem?_cons_succ, Option.bind_some, Act.put, List.setIfInBounds_toArray, List.set_cons_zero, List.set_cons_succ]; simp only [e0]; go_simp; first | done | exact rfl
      · refine ⟨_, rfl, fun u hu hd => ?_⟩
        have e1 : vs 1 = (.slice ro rs.length rp) := hd 1 (by kernel_rfl)
        refine .inl ⟨(.slice ro rs.length rp), u, ?_, hu, by simp [cpyT, vsX], (fun j _ _ _ h => h)⟩
        simp only [frR, dstAt, List.getElem?_toArray, List.getElem?_cons_zero, List.getElem?_cons_succ, Option.bind_some, Act.put, List.setIfInBounds_toArray, List.set_cons_zero, List.set_cons_succ]; simp only [e1]; go_simp; first | done | exact rfl
      · refine ⟨_, rfl, fun u hu hd => ?_⟩
        obtain ⟨g9, c9, e3, _⟩ : ∃ g c, vs 3 = .agg #[.slice (some ⟨g, 0, none⟩) zs.length c] ∧ OwnI u w1.heap.size (.slice (some ⟨g, 0, none⟩) zs.length c) zs := hd 3 (by kernel_rfl)
        obtain ⟨s0, hq9⟩ := CpyB.q hu
        have x0 := hq9.cell 0
        have x1 := hq9.frozen 0
        have x2 := hq9.lt
        refine .inr (.inr ⟨u.setCell ⟨w.heap.size + 1, 0, none⟩ (.slice (some ⟨g9, 0, none⟩) zs.length c9), ?_, CpyB.setQ hu (by omega) (by omega) _, ⟨g9, c9, by simp [vsX, e3], hq9.set1 _⟩, fun j hj _ _ h => cpyT_setQ (by omega) j vs hj h⟩)
        simp only [frR, dstAt, List.getElem?_toArray, List.getElem?_cons_zero, List.getElem?_cons_succ, Option.bind_some, Act.put, List.setIfInBounds_toArray, List.set_cons_zero, List.set_cons_succ]; simp only [e3]; go_simp; first | done | exact rfl
    · intro vs u hu
      simp only [List.drop_succ_cons, List.drop_zero, seqWp]
      simp only [frR, dstAt, List.getElem?_toArray, List.getElem?_cons_zero, List.getElem?_cons_succ, Option.bind_some, Act.put, List.setIfInBounds_toArray, List.set_cons_zero, List.set_cons_succ]
      intro hR
      obtain ⟨g9, c9, e3, O3⟩ := hR 3 (by decide) (fun k _ => by simp [cpyD])
      have O6 : OwnI u w1.heap.size (vs 6) rs := hR 6 (by decide) (fun k _ => by simp [cpyD])
      have c7 : Cells u w.heap.size 26 #[.slice ao zs.length cp] := hR 7 (by decide) (fun k _ => by simp [cpyD])
      have e8 : vs 8 = (.slice ro rs.length rp) := hR 8 (by decide) (fun k _ => by simp [cpyD])
      obtain ⟨g8, c8, e38, c9q⟩ := hR 9 (by decide) (fun k _ => by simp [cpyD])
      rw [e3] at e38
      simp at e38
      obtain ⟨rfl, rfl⟩ := e38
      obtain ⟨la, lc, e6, _⟩ := id O6
      rw [e6] at O6
      simp only [e6, e8]
      unfold Oper.wp
      go_simp
      go_wp2_with fail
      have z2 := c7.cell 0
      have z4 := c9q.cell 0
      refine bodyPost_ret (v := .tuple #[.agg #[.slice ao zs.length cp], .slice ro rs.length rp, .agg #[.slice (some ⟨g9, 0, none⟩) zs.length c9], .slice la rs.length lc]) (by simp [results, Tryz.results7, go_sem, z2, z4]) rfl ⟨_, zs, _, rs, _, zs, _, rs, rfl, (CpyB.s hu).base hsw, hl, (CpyB.r hu).base hsw, hrl, O3.base hsw, hl, O6.base hsw, hrl, CpyB.kept hu⟩
end Go.Proofs.YtgnpllpinfhccaaGreatDoor
