/-
  The contracts of chapter 8's copyPlaces and copyMarker.
  A marker at work on a slab (chapter 8's struct marking): its cells, how it is built; the contract of markingOf.
  The contract of markingOf.
-/
import Derived.Laws.AppendOwnNone
import Derived.Deep.RegionHeld3
import Derived.Test.YtgempjjnfpmndaaGreatDoorGrpW
import Derived.Test.YtgempjjnfpmndaaGreatDoorGrpCo
import Derived.Test.YtgempjjnfpmndaaGreatDoorGrpSf
import Derived.Test.YtgempjjnfpmndaaGreatDoorGrpSy
namespace Go.Proofs.YtgempjjnfpmndaaGreatDoor
open Go.RowKit

set_option maxHeartbeats 4000000 in
set_option maxRecDepth 100000 in
theorem copyPlaces_ok (w : World) (ao : Option Addr) (cap : Nat) (l : List Int) (hI : Ints w ao l) (hl : l.length ≤ 1048576) (hn : ao = none → cap = 0) :
    Calls Tryz.prog 138 #[.slice ao l.length cap] w fun e w' => ∃ v, e = .returned v ∧ OwnL w' w.heap.size v l ∧ Kept w w' := by
  obtain ⟨i0, hi, hz0, hz1, hz2⟩ := info_parts infoI
  have hbd := hI.1
  have HB : Hid _ := hbd
  have hnil : w.ownsRow w.heap.size 3 1 (.slice none 0 0) 0 [] := World.ownsRow_nil _ _ _ _
  cases ao with
  | none =>
    have e0 : l = [] := by
      rcases hI.2 with h | ⟨b, off, e, _⟩
      · exact h
      · cases e
    subst e0
    clear hI
    have hc := hn rfl
    subst hc
    go_enter Tryz.func138, Tryz.ntmps138
    go_wp2_with (at_builtin; refine wpList_append_own_none rfl _ _ 26 rfl w.heap.size 3 i0 1 Tryz.underlying26 hi _ _ _ rfl hnil rfl ?_)
    go_ret
    exact ⟨_, rfl, ⟨by simp, hnil⟩, Below.refl _ _⟩
  | some a =>
    have hcell : ∀ (j : Nat) (u : Value), (l.map (Value.int .i64))[j]? = some u → w.cell? (a.add j) = some u := by
      intro j u hu
      rw [List.getElem?_map] at hu
      by_cases hj : j < l.length
      · rcases hI.2 with h | ⟨b, off, e, hc⟩
        · subst h; simp at hj
        · cases e
          rw [List.getElem?_eq_getElem hj] at hu
          simp only [Option.map_some, Option.some.injEq] at hu
          rw [Addr.add_lit, hc j hj, ← hu]
          simp [hz, List.getElem?_eq_getElem hj]
      · rw [List.getElem?_eq_none (by omega)] at hu
        cases hu
    clear hI
    go_enter Tryz.func138, Tryz.ntmps138
    go_wp2_with (at_builtin; refine wpList_append_own _ rfl _ _ 26 rfl w.heap.size 3 i0 (.int .i64 0) 1 8 Tryz.underlying26 hi hz0 hz1 hz2 rfl (by decide) _ _ _ rfl hnil a l.length cap (l.map (Value.int .i64)) rfl (by simp) hcell (by intro u hu; obtain ⟨z, _, rfl⟩ := List.mem_map.1 hu; rfl) (by unfold maxLen; omega) (by omega) (by omega) ?_; intro v' w5 hown' hgrow _)
    go_ret
    refine ⟨_, rfl, ⟨HB.out, by simpa using hown'⟩, ?_⟩
    exact (Below.refl _ w).grown hgrow (Nat.le_refl _) (fun j ej => by cases ej)
end Go.Proofs.YtgempjjnfpmndaaGreatDoor
namespace Go.Proofs.YtgempjjnfpmndaaGreatDoor
open Go.RowKit

/-- The cells of a marking. -/
def mkC (ws ls : Value) (cs : List Int) (gv : Value) : Array Value := (ws :: ls :: (cs.map (Value.int .u8) ++ [gv])).toArray
theorem mkC_size (ws ls : Value) (cs : List Int) (gv : Value) : (mkC ws ls cs gv).size = cs.length + 3 := by simp [mkC]
theorem mkC_0 (ws ls : Value) (cs : List Int) (gv : Value) : (mkC ws ls cs gv)[0]? = some ws := by simp [mkC]
theorem mkC_1 (ws ls : Value) (cs : List Int) (gv : Value) : (mkC ws ls cs gv)[1]? = some ls := by simp [mkC]
theorem mkC_col {ws ls : Value} {cs : List Int} {gv : Value} {j : Nat} (h : j < cs.length) : (mkC ws ls cs gv)[2 + j]? = some (.int .u8 (hz cs j)) := by
  unfold mkC
  rw [List.getElem?_toArray, show 2 + j = (j + 1) + 1 by omega, List.getElem?_cons_succ, List.getElem?_cons_succ, List.getElem?_append_left (by simpa using h), List.getElem?_map, List.getElem?_eq_getElem h]
  simp [hz, List.getElem?_eq_getElem h]
theorem mkC_g {ws ls : Value} {cs : List Int} {gv : Value} {n : Nat} (h : n = 2 + cs.length) : (mkC ws ls cs gv)[n]? = some gv := by
  subst h
  unfold mkC
  rw [List.getElem?_toArray, show 2 + cs.length = (cs.length + 1) + 1 by omega, List.getElem?_cons_succ, List.getElem?_cons_succ, List.getElem?_append_right (by simp)]
  simp
theorem mkC_set {ws ls : Value} {cs : List Int} {gv : Value} {j : Nat} (c : Int) (h : j < cs.length) : (mkC ws ls cs gv).setIfInBounds (2 + j) (.int .u8 c) = mkC ws ls (cs.set j c) gv := by
  unfold mkC
  rw [List.setIfInBounds_toArray, show 2 + j = (j + 1) + 1 by omega, List.set_cons_succ, List.set_cons_succ, List.set_append_left _ _ (by simpa using h), List.map_set]
theorem mkC_setg {ws ls : Value} {cs : List Int} {gv gv' : Value} {n : Nat} (h : n = 2 + cs.length) : (mkC ws ls cs gv).setIfInBounds n gv' = mkC ws ls cs gv' := by
  subst h
  unfold mkC
  rw [List.setIfInBounds_toArray, show 2 + cs.length = (cs.length + 1) + 1 by omega, List.set_cons_succ, List.set_cons_succ, List.set_append_right _ _ (by simp)]
  simp
theorem mkC_one {cs : List Int} {a b c : Option Addr} {n m k x y z : Nat} : (mkC (.slice a n x) (.slice b m y) cs (.slice c k z)).all (·.oneCell') = true := by
  rw [Array.all_eq_true_iff_forall_mem]
  intro v hv
  unfold mkC at hv
  simp only [List.mem_toArray, List.mem_cons, List.mem_append, List.mem_map, List.not_mem_nil, or_false] at hv
  rcases hv with rfl | rfl | ⟨z, _, rfl⟩ | rfl <;> rfl
theorem fold_sets : ∀ (l : List Value) (s off : Nat) (cells : Array Value), ((l.zipIdx s).foldl (fun cs (p : Value × Nat) => cs.setIfInBounds (off + p.2) p.1) cells).size = cells.size ∧ ∀ k, ((l.zipIdx s).foldl (fun cs (p : Value × Nat) => cs.setIfInBounds (off + p.2) p.1) cells)[k]? = if off + s ≤ k ∧ k < off + s + l.length ∧ k < cells.size then l[k - (off + s)]? else cells[k]?
  | [], s, off, cells => ⟨rfl, fun k => by
      show cells[k]? = _
      rw [if_neg (by simp; omega)]⟩
  | v :: r, s, off, cells => by
    obtain ⟨h1, h2⟩ := fold_sets r (s + 1) off (cells.setIfInBounds (off + s) v)
    rw [List.zipIdx_cons, List.foldl_cons]
    refine ⟨by rw [h1]; simp, fun k => ?_⟩
    rw [h2 k]
    simp only [Array.size_setIfInBounds, List.length_cons]
    by_cases hj : k = off + s
    · subst hj
      rw [if_neg (by omega), Array.getElem?_setIfInBounds, if_pos rfl]
      by_cases hs : off + s < cells.size
      · rw [if_pos hs, if_pos ⟨by omega, by omega, hs⟩]; simp
      · rw [if_neg hs, if_neg (by omega), Array.getElem?_eq_none (by omega)]
    · have hne : (cells.setIfInBounds (off + s) v)[k]? = cells[k]? := by rw [Array.getElem?_setIfInBounds]; exact if_neg (fun e => hj e.symm)
      rw [hne]
      by_cases hc : off + (s + 1) ≤ k ∧ k < off + (s + 1) + r.length ∧ k < cells.size
      · rw [if_pos hc, if_pos (by omega), show k - (off + s) = (k - (off + (s + 1))) + 1 by omega, List.getElem?_cons_succ]
      · rw [if_neg hc, if_neg (by omega)]
theorem fill_sets (c : Array Value) (off : Nat) (cells : Array Value) : (c.zipIdx.foldl (fun cs (p : Value × Nat) => cs.setIfInBounds (off + p.2) p.1) cells).size = cells.size ∧ ∀ k, (c.zipIdx.foldl (fun cs (p : Value × Nat) => cs.setIfInBounds (off + p.2) p.1) cells)[k]? = if off ≤ k ∧ k < off + c.size ∧ k < cells.size then c[k - off]? else cells[k]? := by
  have h := fold_sets c.toList 0 off cells
  rw [← Array.toList_zipIdx] at h
  simp only [Array.foldl_toList, Nat.add_zero, Array.length_toList, Array.getElem?_toList] at h
  exact h
theorem infoMk : (Tryz.prog.info? 123).map (fun i => (i.zero, i.size)) = some (some (.agg Tryz.zeroCells123), 2003) := by kernel_rfl
theorem zeroMk : Tryz.zeroCells123.size = 2003 := by kernel_rfl
theorem placesMk : (Tryz.prog.fieldsOf 123).toList.mapM (fun f => (Tryz.prog.info? f.type).map fun i => (f.offset, i.size)) = some [(0, 1), (1, 1), (2, 2000), (2002, 1)] := by kernel_rfl
theorem underMk : Tryz.prog.underlying 123 = some (.struct (Tryz.prog.fieldsOf 123)) := by kernel_rfl
set_option maxRecDepth 100000 in
theorem builtMk (cs : List Int) (hl : cs.length = 2000) (a b c : Option Addr) (n m k x y z : Nat) : Tryz.prog.built 123 [(0, .slice a n x), (1, .slice b m y), (2, .agg (colC cs)), (3, .slice c k z)] = some (mkC (.slice a n x) (.slice b m y) cs (.slice c k z)) := by
  obtain ⟨ws, hws⟩ : ∃ ws, Value.slice a n x = ws := ⟨_, rfl⟩
  obtain ⟨ls, hls⟩ : ∃ ls, Value.slice b m y = ls := ⟨_, rfl⟩
  obtain ⟨gv, hgv⟩ : ∃ gv, Value.slice c k z = gv := ⟨_, rfl⟩
  have cw : ws.cells = #[ws] := by rw [← hws]; rfl
  have cl : ls.cells = #[ls] := by rw [← hls]; rfl
  have cg : gv.cells = #[gv] := by rw [← hgv]; rfl
  have hcz : (colC cs).size = 2000 := by rw [colC_size, hl]
  rw [hws, hls, hgv]
  unfold Program.built
  have hi := infoMk
  cases hq : Tryz.prog.info? 123 with
  | none => rw [hq] at hi; cases hi
  | some it =>
    rw [hq] at hi
    simp only [Option.map_some, Option.some.injEq, Prod.mk.injEq] at hi
    obtain ⟨hz1, _⟩ := hi
    rw [underMk]
    simp only [hz1, placesMk]
    obtain ⟨z0, hz0, sz0⟩ : ∃ z0, Tryz.zeroCells123 = z0 ∧ z0.size = 2003 := ⟨_, rfl, zeroMk⟩
    have hcells : (Value.agg Tryz.zeroCells123).cells = z0 := by rw [hz0]; rfl
    have hcol : (Value.agg (colC cs)).cells = colC cs := rfl
    rw [hcells]
    obtain ⟨s1, e1⟩ := fill_sets #[ws] 0 z0
    obtain ⟨z1, hz1'⟩ : ∃ z1, (#[ws] : Array Value).zipIdx.foldl (fun cs (p : Value × Nat) => cs.setIfInBounds (0 + p.2) p.1) z0 = z1 := ⟨_, rfl⟩
    rw [hz1'] at s1 e1
    obtain ⟨s2, e2⟩ := fill_sets #[ls] 1 z1
    obtain ⟨z2, hz2'⟩ : ∃ z2, (#[ls] : Array Value).zipIdx.foldl (fun cs (p : Value × Nat) => cs.setIfInBounds (1 + p.2) p.1) z1 = z2 := ⟨_, rfl⟩
    rw [hz2'] at s2 e2
    obtain ⟨s3, e3⟩ := fill_sets (colC cs) 2 z2
    obtain ⟨z3, hz3'⟩ : ∃ z3, (colC cs).zipIdx.foldl (fun cs (p : Value × Nat) => cs.setIfInBounds (2 + p.2) p.1) z2 = z3 := ⟨_, rfl⟩
    rw [hz3'] at s3 e3
    obtain ⟨s4, e4⟩ := fill_sets #[gv] 2002 z3
    obtain ⟨z4, hz4'⟩ : ∃ z4, (#[gv] : Array Value).zipIdx.foldl (fun cs (p : Value × Nat) => cs.setIfInBounds (2002 + p.2) p.1) z3 = z4 := ⟨_, rfl⟩
    rw [hz4'] at s4 e4
    have h1 : (#[ws] : Array Value).size = 1 := rfl
    have h2 : (#[ls] : Array Value).size = 1 := rfl
    have h3 : (#[gv] : Array Value).size = 1 := rfl
    rw [h1] at e1
    rw [h2] at e2
    rw [hcz] at e3
    rw [h3] at e4
    have hf : Instr.fill (fun x => (([(0, 1), (1, 1), (2, 2000), (2002, 1)] : List (Nat × Nat)).toArray)[x]?) z0 [(0, ws), (1, ls), (2, .agg (colC cs)), (3, gv)] = some z4 := by
      have p0 : (([(0, 1), (1, 1), (2, 2000), (2002, 1)] : List (Nat × Nat)).toArray)[0]? = some (0, 1) := rfl
      have p1 : (([(0, 1), (1, 1), (2, 2000), (2002, 1)] : List (Nat × Nat)).toArray)[1]? = some (1, 1) := rfl
      have p2 : (([(0, 1), (1, 1), (2, 2000), (2002, 1)] : List (Nat × Nat)).toArray)[2]? = some (2, 2000) := rfl
      have p3 : (([(0, 1), (1, 1), (2, 2000), (2002, 1)] : List (Nat × Nat)).toArray)[3]? = some (2002, 1) := rfl
      rw [Instr.fill, p0]
      simp only [cw, h1]
      rw [if_neg (by simp [sz0]), hz1', Instr.fill, p1]
      simp only [cl, h2]
      rw [if_neg (by simp [s1, sz0]), hz2', Instr.fill, p2]
      simp only [hcol, hcz]
      rw [if_neg (by simp [s2, s1, sz0]), hz3', Instr.fill, p3]
      simp only [cg, h3]
      rw [if_neg (by simp [s3, s2, s1, sz0]), hz4']
      rfl
    refine hf.trans (congrArg some ?_)
    apply Array.ext_getElem?
    intro j
    rw [e4 j, e3 j, e2 j, e1 j]
    by_cases j0 : j = 0
    · subst j0
      rw [if_neg (by omega), if_neg (by omega), if_neg (by omega), if_pos (by omega), mkC_0]; rfl
    by_cases j1 : j = 1
    · subst j1
      rw [if_neg (by omega), if_neg (by omega), if_pos (by omega), mkC_1]; rfl
    by_cases j2 : j < 2002
    · obtain ⟨i, rfl⟩ : ∃ i, j = 2 + i := ⟨j - 2, by omega⟩
      rw [if_neg (by omega), if_pos (by omega), mkC_col (by omega), show 2 + i - 2 = i by omega, colC_at (by omega)]
    by_cases j3 : j = 2002
    · subst j3
      rw [if_pos (by omega), mkC_g (by omega)]; rfl
    · rw [if_neg (by omega), if_neg (by omega), if_neg (by omega), if_neg (by omega), Array.getElem?_eq_none (by omega), Array.getElem?_eq_none (by rw [mkC_size]; omega)]
end Go.Proofs.YtgempjjnfpmndaaGreatDoor
namespace Go.Proofs.YtgempjjnfpmndaaGreatDoor
open Go.RowKit

abbrev mrkV (ph : Int) (ga : Option Addr) (gl gc : Nat) (ba : Option Addr) (bl bc : Nat) (at' : Int) : Array Value := #[.int .i64 ph, .slice ga gl gc, .slice ba bl bc, .int .i64 at']
/-- A marking of a slab and a marker, as it is told by value: the layout, and grey places of its own behind it. -/
structure MkgV (w w' : World) (v : Value) (ao : Option Addr) (cap : Nat) (zs gs bs : List Int) : Prop where
  is : ∃ (lo go : Option Addr) (ln lc gc base : Nat), v = .agg (mkC (.slice ao zs.length cap) (.slice lo ln lc) (colL gs bs) (.slice go gs.length gc)) ∧
    (slabOk zs = false → lo = none ∧ ln = 0 ∧ lc = 0) ∧ (slabOk zs = true → ln = zs.length ∧ Ints w' lo (lyt zs) ∧ (zs ≠ [] → ∀ a, lo = some a → a.block < base)) ∧ w.heap.size ≤ base ∧ base ≤ w'.heap.size ∧ OwnL w' base (.slice go gs.length gc) gs
theorem zeroMk2 : Tryz.zeroCells123 = mkC (.slice none 0 0) (.slice none 0 0) (List.replicate 2000 0) (.slice none 0 0) := by kernel_rfl
theorem mkC_no {a b c : Option Addr} {n m k x y z : Nat} {cs : List Int} {j : Nat} {q : Int} : (mkC (.slice a n x) (.slice b m y) cs (.slice c k z))[j]? ≠ some (.int .i64 q) := by
  intro h
  have hm := Array.mem_of_getElem? h
  unfold mkC at hm
  simp only [List.mem_toArray, List.mem_cons, List.mem_append, List.mem_map, List.not_mem_nil, or_false] at hm
  rcases hm with h | h | ⟨z, _, h⟩ | h <;> cases h
theorem Ints.notIn {W : World} {ao : Option Addr} {l : List Int} {B : Nat} {t : TypeId} {cs : Array Value} (h : Ints W ao l) (hn : l ≠ []) (hC : Cells W B t cs) (hno : ∀ (j : Nat) (q : Int), cs[j]? ≠ some (Value.int .i64 q)) : ∀ a, ao = some a → a.block ≠ B := by
  intro a e hB
  obtain ⟨b, off, e', hc⟩ := h.at (k := 0) (List.length_pos_iff.2 hn)
  rw [e] at e'; cases e'
  have h1 := hc 0 (List.length_pos_iff.2 hn)
  simp only at hB
  subst hB
  rw [hC.cell] at h1
  exact hno _ _ h1
theorem setRow_grown (W : World) (B : Nat) (cs : Array Value) : W.grownBy (W.setRow B cs) (some B) := ⟨rfl, rfl, rfl, by simp [World.setRow], fun k _ hne => setRow_other W B k cs (fun e => hne (by rw [e]))⟩
theorem infoMks : (Tryz.prog.info? 123).map (·.size) = some 2003 := by kernel_rfl
/-- A marking is built. -/
theorem wp_build_mk {w : World} {o : Oper} {a : Act} {K : Act → World → Prop} {Q : Exit → Act → World → Prop} (x0 x1 x2 x3 : Operand)
    (ho : o.op = .build 123 #[(0, x0), (1, x1), (2, x2), (3, x3)]) (cs : List Int) (hl : cs.length = 2000) (ao lo go : Option Addr) (n m k x y z : Nat) (h0 : a.eval x0 = .slice ao n x) (h1 : a.eval x1 = .slice lo m y) (h2 : a.eval x2 = .agg (colC cs)) (h3 : a.eval x3 = .slice go k z)
    (h : K (a.put o.dst (.agg (mkC (.slice ao n x) (.slice lo m y) cs (.slice go k z)))) w) : Oper.wp Tryz.prog o a w K Q := by
  have hb := builtMk cs hl ao lo go n m k x y z
  refine wp_build 123 _ ho ?_ ?_
  · simp only [List.map_toArray, List.map_cons, List.map_nil, h0, h1, h2, h3, hb, Option.isSome_some]
  · simp only [List.map_toArray, List.map_cons, List.map_nil, h0, h1, h2, h3, hb, Option.getD_some]
    exact h
set_option maxHeartbeats 8000000 in
set_option maxRecDepth 100000 in
theorem markingOf_ok (w : World) (ao ga ba : Option Addr) (cap gc bc : Nat) (zs gs bs : List Int) (ph at' : Int) (hI : Ints w ao zs) (hl : zs.length ≤ 1048576) (hg : Ints w ga gs) (hb : Ints w ba bs) (hgl : gs.length ≤ 1048576) (hbl : bs.length ≤ 1048576) (hgn : ga = none → gc = 0) :
    Calls Tryz.prog 93 #[.agg #[.slice ao zs.length cap], .agg (mrkV ph ga gs.length gc ba bs.length bc at')] w fun e w' => ∃ v, e = .returned v ∧ MkgV w w' v ao cap zs gs bs ∧ Kept w w' := by
  obtain ⟨WX, hWX⟩ : ∃ WX, ((w.alloc (.cells #[.slice ao zs.length cap] 39)).alloc (.cells (mrkV ph ga gs.length gc ba bs.length bc at') 40)).alloc (.cells Tryz.zeroCells123 123) = WX := ⟨_, rfl⟩
  have x0 : Cells WX w.heap.size 39 #[.slice ao zs.length cap] := by rw [← hWX]; exact ((Cells.new w _ _).alloc _).alloc _
  have y0 : Cells WX (w.heap.size + 1) 40 (mrkV ph ga gs.length gc ba bs.length bc at') := by
    rw [← hWX]
    have h := (Cells.new (w.alloc (.cells #[.slice ao zs.length cap] 39)) 40 (mrkV ph ga gs.length gc ba bs.length bc at')).alloc (.cells Tryz.zeroCells123 123)
    rw [World.size_alloc] at h
    exact h
  have z0 : Cells WX (w.heap.size + 2) 123 Tryz.zeroCells123 := by
    rw [← hWX]
    have h := Cells.new ((w.alloc (.cells #[.slice ao zs.length cap] 39)).alloc (.cells (mrkV ph ga gs.length gc ba bs.length bc at') 40)) 123 Tryz.zeroCells123
    rw [World.size_alloc, World.size_alloc] at h
    exact h
  have k0 : Kept w WX := by rw [← hWX]; exact ((Kept.alloc (Below.refl _ _) _).alloc _).alloc _
  have hs0 : WX.heap.size = w.heap.size + 3 := by rw [← hWX]; simp
  have hL := layoutOf_ok WX ao cap zs (hI.kept k0) hl
  have HS : Hid _ := hs0
  have c0 := x0.cell 0
  go_enter Tryz.func93, Tryz.ntmps93
  go_wp2_with fail
  clear hWX
  refine hL.mono ?_
  rintro e w1 ⟨hno, hyes, hk1⟩
  have hlay : ∃ (lo : Option Addr) (ln lc : Nat) (ok : Bool), e = .returned (.tuple #[.slice lo ln lc, .bool ok]) ∧ (slabOk zs = false → lo = none ∧ ln = 0 ∧ lc = 0) ∧ (slabOk zs = true → ln = zs.length ∧ Ints w1 lo (lyt zs)) := by
    cases hok : slabOk zs with
    | false => exact ⟨none, 0, 0, false, hno hok, fun _ => ⟨rfl, rfl, rfl⟩, fun h => by cases h⟩
    | true =>
      obtain ⟨lo, lc, e1, e2⟩ := hyes hok
      exact ⟨lo, zs.length, lc, true, e1, (fun h => by cases h), fun _ => ⟨rfl, e2⟩⟩
  obtain ⟨lo, ln, lc, ok, rfl, h1, h2⟩ := hlay
  have HL1 : Hid _ := h1
  have HL2 : Hid _ := h2
  have K1 : Kept w w1 := k0.trans hk1
  have HX : Hid (∀ u, Kept w1 u → u.cell? ⟨w.heap.size, 0, none⟩ = some (.slice ao zs.length cap) ∧ u.cell? ⟨w.heap.size + 1, 0, none⟩ = some (.int .i64 ph) ∧ u.cell? ⟨w.heap.size + 1, 1, none⟩ = some (.slice ga gs.length gc) ∧ u.cell? ⟨w.heap.size + 1, 2, none⟩ = some (.slice ba bs.length bc) ∧ u.cell? ⟨w.heap.size + 1, 3, none⟩ = some (.int .i64 at')) := fun u hu => by
    have x := x0.kept (hk1.trans hu)
    have y := y0.kept (hk1.trans hu)
    exact ⟨x.cell 0, y.cell 0, y.cell 1, y.cell 2, y.cell 3⟩
  have HZ : Hid (∀ u, Kept w1 u → Cells u (w.heap.size + 2) 123 Tryz.zeroCells123) := fun u hu => z0.kept (hk1.trans hu)
  have HC : Hid (∀ u, Kept w1 u → Calls Tryz.prog 137 #[.agg (mrkV ph ga gs.length gc ba bs.length bc at')] u fun e w' => e = .returned (.agg (colC (colL gs bs))) ∧ Kept u w') := fun u hu => coloursOf_ok u ph at' ga ba gc bc gs bs (hg.kept (K1.trans hu)) (hb.kept (K1.trans hu)) hgl hbl
  have HG : Hid (∀ u, Kept w1 u → Calls Tryz.prog 138 #[.slice ga gs.length gc] u fun e w' => ∃ v, e = .returned v ∧ OwnL w' u.heap.size v gs ∧ Kept u w') := fun u hu => copyPlaces_ok u ga gc gs (hg.kept (K1.trans hu)) hgl hgn
  have HK1 : Hid _ := K1
  have Hs3 : Hid (w.heap.size + 3 ≤ w1.heap.size) := by rw [Hid, ← HS.out]; exact hk1.size
  have kd0 : Kept w1 w1.drew := (Below.refl _ w1).drew
  obtain ⟨c0', c1', c2', c3', c4'⟩ := HX.out w1.drew kd0
  clear hno hyes hL x0 y0 z0 k0 hs0 c0 h1 h2 K1 hk1 hI hg hb hgn
  go_wp2_with fail
  refine wp_region_three (by kernel_rfl) (by kernel_rfl) (by kernel_rfl) ?_
  have HY : Hid (∀ u, Kept w1.drew u → u.cell? ⟨w.heap.size, 0, none⟩ = some (.slice ao zs.length cap) ∧ u.cell? ⟨w.heap.size + 1, 0, none⟩ = some (.int .i64 ph) ∧ u.cell? ⟨w.heap.size + 1, 1, none⟩ = some (.slice ga gs.length gc) ∧ u.cell? ⟨w.heap.size + 1, 2, none⟩ = some (.slice ba bs.length bc) ∧ u.cell? ⟨w.heap.size + 1, 3, none⟩ = some (.int .i64 at')) := fun u hu => HX.out u (kd0.trans hu)
  have C1 : ∀ u, Kept w1.drew u → Calls Tryz.prog 137 #[.agg (mrkV ph ga gs.length gc ba bs.length bc at')] u fun e w' => e = .returned (.agg (colC (colL gs bs))) ∧ Kept u w' := fun u hu => HC.out u (kd0.trans hu)
  have HC1 : Hid _ := C1
  clear c0' c1' c2' c3' c4' C1
  repeat (first
    | (refine SeqD.pure ?_ (by rfl) ?_ ?_; rotate_left; (focus (intro u hu; obtain ⟨c0, c1, c2, c3, c4⟩ := HY.out u hu; go_simp; first | done | exact rfl)); simp only [Act.put, List.setIfInBounds_toArray, List.set_cons_zero, List.set_cons_succ])
    | (refine SeqD.call _ (by rfl) ?_ HC1.out ?_; (focus (intro u; go_simp; done)); simp only [Act.put, List.setIfInBounds_toArray, List.set_cons_zero, List.set_cons_succ]))
  refine SeqD.last (fun v u => OwnL u w1.heap.size v gs) (fun v u u' h hk => OwnL.kept (row := none) h hk.grown (fun k e => by cases e)) (by intro u; go_simp; first | done | exact rfl) (fun u hu => ((HG.out u (kd0.trans hu)).mono (by rintro e w' ⟨v, rfl, hO, hk⟩; exact ⟨v, rfl, ⟨hO.1, ownsRow_base hO.2 (kd0.trans hu).size⟩, hk⟩))) ?_
  intro v u hu hO
  obtain ⟨s3, sc3, rfl, hI3⟩ := hO.ints
  have ku : Kept w1 u := kd0.trans hu
  have zu := HZ.out u ku
  simp only [Act.put, List.setIfInBounds_toArray, List.set_cons_zero, List.set_cons_succ]
  refine wp_build_mk _ _ _ _ (by rfl) (colL gs bs) (colL_len _ _) ao lo s3 zs.length ln gs.length cap lc sc3 (by rfl) (by rfl) (by rfl) (by rfl) ?_
  refine wp_store_row 123 _ _ (by rfl) (w.heap.size + 2) _ (by rfl) (by rfl) _ _ zu (by rw [mkC_size, colL_len]; exact infoMks) (by rw [mkC_size, colL_len]; exact zeroMk) mkC_one ?_
  obtain ⟨mc, hmc⟩ : ∃ mc, mkC (.slice ao zs.length cap) (.slice lo ln lc) (colL gs bs) (.slice s3 gs.length sc3) = mc := ⟨_, rfl⟩
  have zE := zu.row mc
  have hsz : mc.size = 2003 := by rw [← hmc, mkC_size, colL_len]
  have hk3 : w.heap.size + 3 ≤ w1.heap.size := Hs3.out
  have gE := setRow_grown u (w.heap.size + 2) mc
  have hu1 := ku.size
  have hM : MkgV w (u.setRow (w.heap.size + 2) mc) (.agg mc) ao cap zs gs bs := by
    refine ⟨lo, s3, ln, lc, sc3, w1.heap.size, by rw [hmc], HL1.out, fun hok => ?_, by omega, Nat.le_trans hu1 gE.size, ?_⟩
    · obtain ⟨e1, e2⟩ := HL2.out hok
      have e3 := e2.kept ku
      have hne : zs ≠ [] → lyt zs ≠ [] := fun h h' => by
        have := lyt_len zs
        rw [h'] at this
        exact h (List.length_eq_zero_iff.1 this.symm)
      refine ⟨e1, ?_, fun hz a ea => e2.lt (hne hz) ea⟩
      by_cases hz : zs = []
      · subst hz; exact ⟨by simp [lyt], .inl (by simp [lyt])⟩
      · exact e3.grown gE (e3.notIn (hne hz) zu (fun j q => by rw [zeroMk2]; exact mkC_no))
    · refine OwnL.kept (row := some (w.heap.size + 2)) hO gE (fun k e j hj => ?_)
      cases e
      have := (hO.2.lt j hj).1
      omega
  have kE : Kept w (u.setRow (w.heap.size + 2) mc) := Kept.row (Kept.trans HK1.out ku) (by omega) mc
  rw [hmc]
  clear hmc gE
  go_wp2_with fail
  refine bodyPost_ret (results_cell_row (by rfl) _ _ (w.heap.size + 2) _ _ _ _ (by rfl) zE underMk rfl (by rw [hsz]; exact infoMks)) rfl ⟨_, rfl, hM, kE⟩
end Go.Proofs.YtgempjjnfpmndaaGreatDoor
