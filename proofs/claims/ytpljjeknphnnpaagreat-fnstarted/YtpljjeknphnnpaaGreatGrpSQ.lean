/-
  The contract of chapter 8's model l8Insert.
  The contract of chapter 8's model l8Shade.
  Markers of one's own: l8Shade of them; the contract of chapter 8's model Start.
  A list that is copied by append, at a step of a drawn region; the contract of chapter 8's model l8Copy.
  The contract of chapter 8's model Fresh.
  The contract of chapter 8's model l8Block.
  The contract of chapter 8's model Shade.
  Facts on lists: what a step of marking leaves; l8Shade of rows of one's own, told closer (chapter 8).
  The world in a step of marking: slab, marker and result lie in three blocks, the marker's two rows beside them (chapter 8).
-/
import Derived.Deep.AppendLies
import Derived.Deep.RegionWith
import Derived.Deep.CutRange
import Derived.Laws.OwnMore
import Derived.Deep.RegionHeld3
import Derived.Maps.AppendAt
import Derived.Test.YtpljjeknphnnpaaGreatGrpSP
import Derived.Test.YtpljjeknphnnpaaGreatShapeQ
import Derived.Test.YtpljjeknphnnpaaGreatVal
namespace Go.Proofs.YtpljjeknphnnpaaGreat
open Go.RowKit
attribute [local go_sem] Plain.and7

theorem one_new2 (wr : World) (x : Int) : ∀ (j : Nat) (u : Value), [Value.int .i64 x][j]? = some u → ((wr.alloc (.cells #[] 3)).alloc (.cells #[.int .i64 x] 3)).cell? ((⟨wr.heap.size + 1, 0, none⟩ : Addr).add j) = some u := by
  have := cell_one_new (wr.alloc (.cells #[] 3)) (.int .i64 x) 3
  rw [World.size_alloc] at this
  exact this
end Go.Proofs.YtpljjeknphnnpaaGreat
namespace Go.Proofs.YtpljjeknphnnpaaGreat
open Go.RowKit
attribute [local go_sem] Plain.and7

/-- What Shade leaves of the grey ones. -/
def shadeL (ph : Int) (gs bs : List Int) (v : Int) : List Int := if ph = 1 ∧ 0 ≤ blkV v ∧ blkV v ∉ gs ∧ blkV v ∉ bs then gs ++ [blkV v] else gs
theorem Cells.four {W : World} {B : Nat} {t : TypeId} {x0 x1 x2 x3 : Value} (h : Cells W B t #[x0, x1, x2, x3]) (a b c d : Value) :
    Cells ((((W.setCell ⟨B, 0, none⟩ a).setCell ⟨B, 1, none⟩ b).setCell ⟨B, 2, none⟩ c).setCell ⟨B, 3, none⟩ d) B t #[a, b, c, d] := by
  have := ((((h.set 0 a).set 1 b).set 2 c).set 3 d)
  simpa using this
set_option maxHeartbeats 16000000 in
set_option maxRecDepth 100000 in
theorem l8Shade_no (w : World) (ph at' v : Int) (ga ba : Option Addr) (gc bc : Nat) (gs bs : List Int) (hG : Ints w ga gs) (hB : Ints w ba bs) (hgl : gs.length ≤ 1048576) (hbl : bs.length ≤ 1048576) (hno : ¬ (ph = 1 ∧ 0 ≤ blkV v ∧ blkV v ∉ gs ∧ blkV v ∉ bs)) :
    Calls Tryz.prog 34 #[.agg #[.int .i64 ph, .slice ga gs.length gc, .slice ba bs.length bc, .int .i64 at'], .int .i64 v] w fun e w' =>
      e = .returned (.agg #[.int .i64 ph, .slice ga gs.length gc, .slice ba bs.length bc, .int .i64 at']) ∧ Kept w w' := by
  have b0 := (Cells.new w 30 #[.int .i64 ph, .slice ga gs.length gc, .slice ba bs.length bc, .int .i64 at']).alloc (.cells #[.int .i64 0, .slice none 0 0, .slice none 0 0, .int .i64 0] 30)
  have b1 := Cells.new (w.alloc (.cells #[.int .i64 ph, .slice ga gs.length gc, .slice ba bs.length bc, .int .i64 at'] 30)) 30 #[.int .i64 0, .slice none 0 0, .slice none 0 0, .int .i64 0]
  have k0 : Kept w ((w.alloc (.cells #[.int .i64 ph, .slice ga gs.length gc, .slice ba bs.length bc, .int .i64 at'] 30)).alloc (.cells #[.int .i64 0, .slice none 0 0, .slice none 0 0, .int .i64 0] 30)) := (Kept.alloc (Below.refl _ _) _).alloc _
  simp only [World.size_alloc] at b1
  have hBk := fun (u : World) => l7Block_ok v u
  obtain ⟨x, hx⟩ : ∃ x, blkV v = x := ⟨_, rfl⟩
  have c0 := b0.cell 0
  have c1 := b0.cell 1
  have c2 := b0.cell 2
  have c3 := b0.cell 3
  rw [hx] at hBk hno
  have hIg := l7In_ok _ ga gc gs x (hG.kept k0) hgl
  have hIb := l7In_ok _ ba bc bs x (hB.kept k0) hbl
  clear hx hG hB
  by_cases h1 : ph = 1
  · subst h1
    by_cases h0 : 0 ≤ x
    · have e0 : decide (0 ≤ x) = true := by simpa using h0
      cases hg : decide (x ∈ gs) with
      | true =>
        rw [hg] at hIg
        clear hno hIb hg
        go_enter Tryz.func34, Tryz.ntmps34
        go_wp2_with (go_at_call 70; refine (hBk _).mono ?_; rintro e wx ⟨rfl, rfl⟩)
        refine hIg.mono ?_
        rintro e wx ⟨rfl, rfl⟩
        go_wp2_with fail
        refine bodyPost_ret (v := .agg #[.int .i64 1, .slice ga gs.length gc, .slice ba bs.length bc, .int .i64 at']) (by simp [results, Tryz.results34, go_sem]) rfl ⟨rfl, (Kept.alloc (Below.refl _ _) _).alloc _⟩
      | false =>
        rw [hg] at hIg
        have hb' : decide (x ∈ bs) = true := by
          have hg' : x ∉ gs := by simpa using hg
          simp only [decide_eq_true_eq]
          exact Classical.byContradiction fun h => hno ⟨rfl, h0, hg', h⟩
        rw [hb'] at hIb
        clear hno hg hb'
        go_enter Tryz.func34, Tryz.ntmps34
        go_wp2_with (go_at_call 70; refine (hBk _).mono ?_; rintro e wx ⟨rfl, rfl⟩)
        refine hIg.mono ?_
        rintro e wx ⟨rfl, rfl⟩
        go_wp2_with fail
        refine hIb.mono ?_
        rintro e wx ⟨rfl, rfl⟩
        go_wp2_with fail
        refine bodyPost_ret (v := .agg #[.int .i64 1, .slice ga gs.length gc, .slice ba bs.length bc, .int .i64 at']) (by simp [results, Tryz.results34, go_sem]) rfl ⟨rfl, (Kept.alloc (Below.refl _ _) _).alloc _⟩
    · have e0 : decide (0 ≤ x) = false := by simpa using h0
      clear hno hIg hIb
      go_enter Tryz.func34, Tryz.ntmps34
      go_wp2_with (go_at_call 70; refine (hBk _).mono ?_; rintro e wx ⟨rfl, rfl⟩)
      refine bodyPost_ret (v := .agg #[.int .i64 1, .slice ga gs.length gc, .slice ba bs.length bc, .int .i64 at']) (by simp [results, Tryz.results34, go_sem]) rfl ⟨rfl, (Kept.alloc (Below.refl _ _) _).alloc _⟩
  · have e1 : (ph == 1) = false := by simpa using h1
    clear hno hIg hIb
    go_enter Tryz.func34, Tryz.ntmps34
    go_wp2_with (go_at_call 70; refine (hBk _).mono ?_; rintro e wx ⟨rfl, rfl⟩)
    refine bodyPost_ret (v := .agg #[.int .i64 ph, .slice ga gs.length gc, .slice ba bs.length bc, .int .i64 at']) (by simp [results, Tryz.results34, go_sem]) rfl ⟨rfl, (Kept.alloc (Below.refl _ _) _).alloc _⟩
theorem grown_then {a w w' : World} {row : Option Nat} (h : Kept a w) (k : w.grownBy w' row) : a.grownBy w' row :=
  ⟨k.os.trans h.os, k.tape.trans h.tape, k.output.trans h.output, Nat.le_trans h.size k.size, fun j hj hne => (k.block j (Nat.lt_of_lt_of_le hj h.size) hne).trans (h.block j hj)⟩
theorem grown_far {a w : World} {row : Option Nat} {p : Addr} {v : Value} (h : a.grownBy w row) (hp : a.heap.size ≤ p.block) : a.grownBy (w.setCell p v) row :=
  ⟨h.os, h.tape, h.output, by rw [World.size_setCell]; exact h.size, fun k hk hne => (Below.heap_setCell _ _ _ _ (by omega)).trans (h.block k hk hne)⟩
theorem OwnL.far {W : World} {base : Nat} {v : Value} {l : List Int} {p : Addr} {u : Value} (h : OwnL W base v l) (hne : ∀ j, v.ownBlock = some j → j ≠ p.block) : OwnL (W.setCell p u) base v l :=
  OwnL.kept (row := some p.block) h ⟨rfl, rfl, rfl, by simp, fun k _ hk => Below.heap_setCell _ _ _ _ (fun e => hk (by rw [e]))⟩ (fun k e j hj => by cases e; exact hne j hj)
theorem one_new3 (w : World) (a b : Obj) (x : Int) : ∀ (j : Nat) (u : Value), [Value.int .i64 x][j]? = some u → (((w.alloc a).alloc b).alloc (.cells #[.int .i64 x] 3)).cell? ((⟨w.heap.size + 2, 0, none⟩ : Addr).add j) = some u := by
  have := cell_one_new ((w.alloc a).alloc b) (.int .i64 x) 3
  rw [World.size_alloc, World.size_alloc] at this
  exact this
set_option maxHeartbeats 16000000 in
set_option maxRecDepth 100000 in
theorem l8Shade_yes (w : World) (base : Nat) (at' v : Int) (ga ba : Option Addr) (gc bc : Nat) (gs bs : List Int) (hO : OwnL w base (.slice ga gs.length gc) gs) (hB : Ints w ba bs) (hgl : gs.length ≤ 1048576) (hbl : bs.length ≤ 1048576) (hbase : base ≤ w.heap.size) (hvb : -9223372036854775808 ≤ v ∧ v ≤ 9223372036854775807) (h0 : 0 ≤ blkV v) (hg : blkV v ∉ gs) (hb : blkV v ∉ bs) :
    Calls Tryz.prog 34 #[.agg #[.int .i64 1, .slice ga gs.length gc, .slice ba bs.length bc, .int .i64 at'], .int .i64 v] w fun e w' =>
      ∃ g c, e = .returned (.agg #[.int .i64 1, .slice (some ⟨g, 0, none⟩) (gs.length + 1) c, .slice ba bs.length bc, .int .i64 at']) ∧ OwnL w' base (.slice (some ⟨g, 0, none⟩) (gs.length + 1) c) (gs ++ [blkV v]) ∧ w.grownBy w' (Value.slice ga gs.length gc).ownBlock ∧ ((Value.slice ga gs.length gc).ownBlock = some g ∨ w.heap.size ≤ g) ∧ g < w'.heap.size := by
  obtain ⟨i0, hi, hz0, hz1, hz2⟩ := info_parts infoI
  obtain ⟨_, _, ev, hG⟩ := hO.ints
  cases ev
  have hxb := blkV_bd hvb
  obtain ⟨ph, hph⟩ : ∃ ph : Int, ph = 1 := ⟨_, rfl⟩
  rw [← hph]
  have b0 := (Cells.new w 30 #[.int .i64 ph, .slice ga gs.length gc, .slice ba bs.length bc, .int .i64 at']).alloc (.cells #[.int .i64 0, .slice none 0 0, .slice none 0 0, .int .i64 0] 30)
  have b1 := Cells.new (w.alloc (.cells #[.int .i64 ph, .slice ga gs.length gc, .slice ba bs.length bc, .int .i64 at'] 30)) 30 #[.int .i64 0, .slice none 0 0, .slice none 0 0, .int .i64 0]
  have k0 : Kept w ((w.alloc (.cells #[.int .i64 ph, .slice ga gs.length gc, .slice ba bs.length bc, .int .i64 at'] 30)).alloc (.cells #[.int .i64 0, .slice none 0 0, .slice none 0 0, .int .i64 0] 30)) := (Kept.alloc (Below.refl _ _) _).alloc _
  simp only [World.size_alloc] at b1
  have hBk := fun (u : World) => l7Block_ok v u
  obtain ⟨x, hx⟩ : ∃ x, blkV v = x := ⟨_, rfl⟩
  have c0 := b0.cell 0
  have c1 := b0.cell 1
  have c2 := b0.cell 2
  have c3 := b0.cell 3
  subst hph
  rw [hx] at hBk h0 hg hb hxb
  rw [hx]
  have hIg := l7In_ok _ ga gc gs x (hG.kept k0) hgl
  have hIb := l7In_ok _ ba bc bs x (hB.kept k0) hbl
  rw [show decide (x ∈ gs) = false by simpa using hg] at hIg
  rw [show decide (x ∈ bs) = false by simpa using hb] at hIb
  have e0 : decide (0 ≤ x) = true := by simpa using h0
  have hrow := hO.2
  have hrl := hrow.lt
  have Hhg : Hid _ := hO.1
  clear hx hG hB hg hb hO
  go_enter Tryz.func34, Tryz.ntmps34
  go_wp2_with (go_at_call 70; refine (hBk _).mono ?_; rintro e wx ⟨rfl, rfl⟩)
  refine hIg.mono ?_
  rintro e wx ⟨rfl, rfl⟩
  go_wp2_with fail
  refine hIb.mono ?_
  rintro e wx ⟨rfl, rfl⟩
  clear hIg hIb
  go_wp2_with (at_builtin; refine wpList_append_lies _ rfl _ _ 24 rfl base 3 i0 (.int .i64 0) 1 8 Tryz.underlying24 hi hz0 hz1 hz2 rfl (by decide) _ _ _ rfl (((hrow.alloc _).alloc _).alloc _) ⟨w.heap.size + 2, 0, none⟩ 1 1 [.int .i64 x] rfl rfl (one_new3 w _ _ x) (by simp [Value.oneCell']) (by omega) (by unfold maxLen; omega) (by omega) (by simp; omega) (w.heap.size + 3) (by simp) ?_; intro gg cg w6 hown' hgrow hat hlt6; have hB6 := b0.alloc (.cells #[.int .i64 x] 3); have hZ6 := b1.alloc (.cells #[.int .i64 x] 3); have y6 := hB6.grown hgrow (fun e => by have := (hrl _ e.symm).2; omega); have z6 := hZ6.grown hgrow (fun e => by have := (hrl _ e.symm).2; omega); have p1 := y6.cell 1; have p2 := y6.frozen 1; have y7 := y6.set 1 (.slice (some ⟨gg, 0, none⟩) (gs.length + 1) cg); have z7 := z6.other (p := ⟨w.heap.size, 1, none⟩) (by simp) (.slice (some ⟨gg, 0, none⟩) (gs.length + 1) cg); have m0 := y7.cell 0; have m1 := y7.cell 1; have m2 := y7.cell 2; have m3 := y7.cell 3; have d0 := z7.cell 0; have d1 := z7.cell 1; have d2 := z7.cell 2; have d3 := z7.cell 3; have f0 := z7.frozen 0; have f1 := z7.frozen 1; have f2 := z7.frozen 2; have f3 := z7.frozen 3; have q := z7.four (.int .i64 1) (.slice (some ⟨gg, 0, none⟩) (gs.length + 1) cg) (.slice ba bs.length bc) (.int .i64 at'); have q0 := q.cell 0; have q1 := q.cell 1; have q2 := q.cell 2; have q3 := q.cell 3)
  have hgg : gg ≠ w.heap.size ∧ gg ≠ w.heap.size + 1 := by
    rcases hat with h | h
    · have h3 : (Value.slice ga gs.length gc).ownBlock = some gg := h
      have := (hrl gg h3).2
      omega
    · omega
  have k3 := k0.alloc (.cells #[.int .i64 x] 3)
  have g6 := grown_then k3 hgrow
  have o6 : OwnL w6 base (.slice (some ⟨gg, 0, none⟩) (gs.length + 1) cg) (gs ++ [x]) := OwnL.snoc (fun z hz' => by
    rcases List.mem_append.1 hz' with h | h
    · exact Hhg.out z h
    · simp at h; subst h; exact hxb) hown'
  have hf0 : ∀ j, (Value.slice (some ⟨gg, 0, none⟩) (gs.length + 1) cg).ownBlock = some j → j ≠ w.heap.size := fun j e => by simp [Value.ownBlock] at e; omega
  have hf1 : ∀ j, (Value.slice (some ⟨gg, 0, none⟩) (gs.length + 1) cg).ownBlock = some j → j ≠ w.heap.size + 1 := fun j e => by simp [Value.ownBlock] at e; omega
  refine bodyPost_ret (v := .agg #[.int .i64 1, .slice (some ⟨gg, 0, none⟩) (gs.length + 1) cg, .slice ba bs.length bc, .int .i64 at']) (by simp [results, Tryz.results34, go_sem, q0, q1, q2, q3]) rfl ⟨gg, cg, rfl, ?_, ?_, ?_, ?_⟩
  · exact OwnL.far (p := ⟨w.heap.size + 1, 3, none⟩) (OwnL.far (p := ⟨w.heap.size + 1, 2, none⟩) (OwnL.far (p := ⟨w.heap.size + 1, 1, none⟩) (OwnL.far (p := ⟨w.heap.size + 1, 0, none⟩) (OwnL.far (p := ⟨w.heap.size, 1, none⟩) o6 hf0) hf1) hf1) hf1) hf1
  · exact grown_far (grown_far (grown_far (grown_far (grown_far g6 (by simp)) (by simp)) (by simp)) (by simp)) (by simp)
  · rcases hat with h | h
    · exact .inl h
    · exact .inr (by omega)
  · simpa using hlt6
end Go.Proofs.YtpljjeknphnnpaaGreat
namespace Go.Proofs.YtpljjeknphnnpaaGreat
open Go.RowKit
attribute [local go_sem] Plain.and7

/-- A marker whose two lists are rows of one's own, apart from one another. -/
def MkO (W : World) (base : Nat) (v : Value) (ph : Int) (gs bs : List Int) (at' : Int) : Prop :=
  ∃ gv bv, v = .agg #[.int .i64 ph, gv, bv, .int .i64 at'] ∧ OwnL W base gv gs ∧ OwnL W base bv bs ∧ (∀ j, gv.ownBlock = some j → bv.ownBlock ≠ some j)
theorem MkO.kept {W W' : World} {base : Nat} {v : Value} {ph at' : Int} {gs bs : List Int} (h : MkO W base v ph gs bs at') (hk : Kept W W') : MkO W' base v ph gs bs at' := by
  obtain ⟨gv, bv, e, h1, h2, h3⟩ := h
  exact ⟨gv, bv, e, OwnL.kept (row := none) h1 hk.grown (fun k e => by cases e), OwnL.kept (row := none) h2 hk.grown (fun k e => by cases e), h3⟩
theorem MkO.far {W : World} {base : Nat} {v u : Value} {ph at' : Int} {gs bs : List Int} {p : Addr} (h : MkO W base v ph gs bs at') (hp : p.block < base) : MkO (W.setCell p u) base v ph gs bs at' := by
  obtain ⟨gv, bv, e, h1, h2, h3⟩ := h
  exact ⟨gv, bv, e, h1.far (fun j hj => by have := (h1.2.lt j hj).1; omega), h2.far (fun j hj => by have := (h2.2.lt j hj).1; omega), h3⟩
theorem MkO.base {W : World} {a b : Nat} {v : Value} {ph at' : Int} {gs bs : List Int} (h : MkO W b v ph gs bs at') (hab : a ≤ b) : MkO W a v ph gs bs at' := by
  obtain ⟨gv, bv, e, h1, h2, h3⟩ := h
  exact ⟨gv, bv, e, ⟨h1.1, ownsRow_base h1.2 hab⟩, ⟨h2.1, ownsRow_base h2.2 hab⟩, h3⟩
theorem l8Shade_ok (w : World) (base : Nat) (m : Value) (ph at' v : Int) (gs bs : List Int) (hm : MkO w base m ph gs bs at') (hgl : gs.length ≤ 1048576) (hbl : bs.length ≤ 1048576) (hbase : base ≤ w.heap.size) (hvb : -9223372036854775808 ≤ v ∧ v ≤ 9223372036854775807) :
    Calls Tryz.prog 34 #[m, .int .i64 v] w fun e w' => ∃ m', e = .returned m' ∧ MkO w' base m' ph (shadeL ph gs bs v) bs at' ∧ Below base w w' := by
  obtain ⟨gv, bv, rfl, h1, h2, h3⟩ := hm
  obtain ⟨ga, gc, rfl, hG⟩ := h1.ints
  obtain ⟨ba, bc, rfl, hB⟩ := h2.ints
  by_cases hc : ph = 1 ∧ 0 ≤ blkV v ∧ blkV v ∉ gs ∧ blkV v ∉ bs
  · obtain ⟨rfl, h0, hg, hb⟩ := hc
    refine (l8Shade_yes w base at' v ga ba gc bc gs bs h1 hB hgl hbl hbase hvb h0 hg hb).mono ?_
    rintro e w' ⟨g, c, rfl, ho, hgr, hat, hlt⟩
    have hbg : Below base w w' := ⟨hgr.os, hgr.tape, hgr.output, hgr.size, fun k hk => hgr.block k (by omega) (fun e => by have := (h1.2.lt k e.symm).1; omega)⟩
    refine ⟨_, rfl, ⟨_, _, rfl, ?_, OwnL.kept h2 hgr (fun k e j hj => fun ek => by subst ek; exact h3 _ e hj), ?_⟩, hbg⟩
    · have es : shadeL 1 gs bs v = gs ++ [blkV v] := if_pos ⟨rfl, h0, hg, hb⟩
      rw [es]
      exact ho
    · intro j hj e
      simp only [Value.ownBlock, Option.some.injEq] at hj
      subst hj
      rcases hat with h | h
      · exact h3 _ h e
      · have := (h2.2.lt _ e).2; omega
  · refine (l8Shade_no w ph at' v ga ba gc bc gs bs hG hB hgl hbl hc).mono ?_
    rintro e w' ⟨rfl, hk⟩
    have es : shadeL ph gs bs v = gs := if_neg hc
    rw [es]
    exact ⟨_, rfl, MkO.kept ⟨_, _, rfl, h1, h2, h3⟩ hk, hk.mono hbase⟩
theorem shade_add (gs : List Int) (v : Int) : shadeL 1 gs [] v = addB gs (blkV v) := by
  unfold shadeL addB
  simp
/-- What Start tells: the phase, and which are grey. -/
def startC (zs rs : List Int) : Int × List Int := if rootsR zs rs = true then (1, meetL [] rs) else (0, [])
set_option maxHeartbeats 16000000 in
set_option maxRecDepth 100000 in
theorem spec_Start_ok (w : World) (ao ro : Option Addr) (cap rc : Nat) (zs rs : List Int) (hI : Ints w ao zs) (hl : zs.length ≤ 1048576) (hR : Ints w ro rs) (hrl : rs.length ≤ 1048576) :
    Calls Tryz.prog 9 #[.agg #[.slice ao zs.length cap], .slice ro rs.length rc] w fun e w' => ∃ m, e = .returned m ∧ MkO w' w.heap.size m (startC zs rs).1 (startC zs rs).2 [] 0 ∧ Kept w w' := by
  have b0 := (Cells.new w 26 #[.slice ao zs.length cap]).alloc (.cells #[.int .i64 0, .slice none 0 0, .slice none 0 0, .int .i64 0] 30)
  have b1 := Cells.new (w.alloc (.cells #[.slice ao zs.length cap] 26)) 30 #[.int .i64 0, .slice none 0 0, .slice none 0 0, .int .i64 0]
  have k0 : Kept w ((w.alloc (.cells #[.slice ao zs.length cap] 26)).alloc (.cells #[.int .i64 0, .slice none 0 0, .slice none 0 0, .int .i64 0] 30)) := (Kept.alloc (Below.refl _ _) _).alloc _
  simp only [World.size_alloc] at b1
  have hRo := spec_RootsOk_ok _ ao ro cap rc zs rs (hI.kept k0) hl (hR.kept k0) hrl
  have c0 := b0.cell 0
  have nilO : ∀ (W : World) (B : Nat), OwnL W B (.slice none 0 0) [] := fun W B => ⟨by simp, World.ownsRow_nil _ _ _ _⟩
  cases hr : rootsR zs rs with
  | false =>
    have HC : Hid (startC zs rs = (0, [])) := by simp [Hid, startC, hr]
    rw [hr] at hRo
    clear hr hI hR
    go_enter Tryz.func9, Tryz.ntmps9
    go_wp2_with (go_at_call 10; refine hRo.mono ?_; rintro e w1 ⟨rfl, hk1⟩; have z1 := b1.kept hk1; have d0 := z1.cell 0; have d1 := z1.cell 1; have d2 := z1.cell 2; have d3 := z1.cell 3; have f0 := z1.frozen 0; have f1 := z1.frozen 1; have f2 := z1.frozen 2; have f3 := z1.frozen 3; have q := z1.four (.int .i64 0) (.slice none 0 0) (.slice none 0 0) (.int .i64 0); have q0 := q.cell 0; have q1 := q.cell 1; have q2 := q.cell 2; have q3 := q.cell 3)
    refine bodyPost_ret (v := .agg #[.int .i64 0, .slice none 0 0, .slice none 0 0, .int .i64 0]) (by simp [results, Tryz.results9, go_sem, q0, q1, q2, q3]) rfl ⟨_, rfl, ?_, ?_⟩
    · rw [HC.out]
      exact ⟨_, _, rfl, nilO _ _, nilO _ _, fun j hj => by simp [Value.ownBlock] at hj⟩
    · exact ((((k0.trans hk1).set (by simp) _).set (by simp) _).set (by simp) _).set (by simp) _
  | true =>
    have HC : Hid (startC zs rs = (1, meetL [] rs)) := by simp [Hid, startC, hr]
    rw [hr] at hRo
    have HLR : Hid _ := leads_roots hr
    have HR : Hid _ := hR
    clear hr hI hR
    go_enter Tryz.func9, Tryz.ntmps9
    go_wp2_with (go_at_call 10; refine hRo.mono ?_; rintro e w1 ⟨rfl, hk1⟩)
    have B5c := Cells.new w1 30 #[.int .i64 1, .slice none 0 0, .slice none 0 0, .int .i64 0]
    obtain ⟨WX, hWX⟩ : ∃ WX, w1.alloc (.cells #[.int .i64 1, .slice none 0 0, .slice none 0 0, .int .i64 0] 30) = WX := ⟨_, rfl⟩
    have kX : Kept w1 WX := by rw [← hWX]; exact Kept.alloc (Below.refl _ _) _
    have sX : WX.heap.size = w1.heap.size + 1 := by rw [← hWX]; simp
    rw [hWX] at B5c
    simp only [hWX]
    obtain ⟨B5, hB5⟩ : ∃ B5, w1.heap.size = B5 := ⟨_, rfl⟩
    rw [hB5] at B5c sX
    simp only [hB5]
    have HB5 : Hid (w1.heap.size = B5) := hB5
    have HK1 : Hid _ := k0.trans hk1
    have HZ1 : Hid _ := b1.kept hk1
    have HsX : Hid _ := sX
    have HBX : Hid _ := B5c
    have HkX : Hid _ := kX
    clear hRo hk1 b0 b1 k0 c0 hWX hB5 sX B5c kX
    go_loopw [6] (fun i wr => ∃ (k : Nat) (ga ba : Option Addr) (gc bc : Nat), i = .int .i64 k ∧ k ≤ rs.length ∧ Cells wr B5 30 #[.int .i64 1, .slice ga (meetL [] (rs.take k)).length gc, .slice ba 0 bc, .int .i64 0] ∧ MkO wr (B5 + 1) (.agg #[.int .i64 1, .slice ga (meetL [] (rs.take k)).length gc, .slice ba 0 bc, .int .i64 0]) 1 (meetL [] (rs.take k)) [] 0 ∧ Kept w1 wr ∧ B5 + 1 ≤ wr.heap.size) (fun i _ => rs.length - (intOf i).toNat)
    case atStart => exact ⟨0, none, none, 0, 0, rfl, Nat.zero_le _, HBX.out, ⟨_, _, rfl, nilO _ _, nilO _ _, fun j hj => by simp [Value.ownBlock] at hj⟩, HkX.out, by have := HsX.out; omega⟩
    case round =>
      obtain ⟨k, ga, ba, gc, bc, rfl, hk, hC, hM, hK, hsz⟩ := hrel
      have HMt : Hid (Met zs (meetL [] (rs.take k))) := Met.meet ⟨List.nodup_nil, by simp⟩ (fun v hv => HLR.out v (List.mem_of_mem_take hv))
      have hml := Met.len HMt.out
      by_cases hlt : k < rs.length
      · have HT : Hid (meetL [] (rs.take (k + 1)) = shadeL 1 (meetL [] (rs.take k)) [] (hz rs k)) := by rw [Hid, take_hz hlt, meetL_snoc, shade_add]
        have hvb := HR.out.1 _ (hz_mem hlt)
        obtain ⟨b5, o5, e5, hc5⟩ := Ints.at (Ints.kept HR.out (Kept.trans HK1.out hK)) hlt
        have c5 := hc5 k hlt
        have l5 : b5 < wr.heap.size := World.block_lt_of_cell? _ _ c5
        obtain ⟨gs, hgs⟩ : ∃ gs, meetL [] (rs.take k) = gs := ⟨_, rfl⟩
        rw [hgs] at HT hml hC hM
        have kd : Kept wr wr.drew := (Below.refl _ wr).drew
        have Yd := hC.kept kd
        have m0 := Yd.cell 0
        have m1 := Yd.cell 1
        have m2 := Yd.cell 2
        have m3 := Yd.cell 3
        have cr := (kd.cell (p := ⟨b5, o5 + k, none⟩) l5).trans c5
        have q1 : (k : Int) < (rs.length : Int) := by omega
        have q0 : (0 : Int) ≤ (k : Int) := by omega
        have hSh := l8Shade_ok wr.drew (B5 + 1) _ 1 0 (hz rs k) gs [] (hM.kept kd) (by omega) (by simp) (by simpa using hsz) hvb
        have HK : Hid _ := hK
        subst e5
        clear hc5 c5 hgs hC hM hvb hK
        go_wp2_with fail
        go_region_with (go_at_call 34; refine hSh.mono ?_; rintro e w5 ⟨m', rfl, hm', hb5⟩; obtain ⟨gv', bv', rfl, ho1, ho2, ho3⟩ := hm'; obtain ⟨ga', gc', rfl, _⟩ := ho1.ints; obtain ⟨ba', bc', rfl, _⟩ := ho2.ints; have y5 : Cells w5 B5 30 _ := (hb5.block B5 (by omega)).trans Yd; have d0 := y5.cell 0; have d1 := y5.cell 1; have d2 := y5.cell 2; have d3 := y5.cell 3; have f0 := y5.frozen 0; have f1 := y5.frozen 1; have f2 := y5.frozen 2; have f3 := y5.frozen 3)
        all_goals (
          have q := y5.four (.int .i64 1) (.slice ga' (shadeL 1 gs [] (hz rs k)).length gc') (.slice ba' 0 bc') (.int .i64 0)
          have hs5 := hb5.size
          have M5 : MkO w5 (B5 + 1) (.agg #[.int .i64 1, .slice ga' (shadeL 1 gs [] (hz rs k)).length gc', .slice ba' 0 bc', .int .i64 0]) 1 (shadeL 1 gs [] (hz rs k)) [] 0 := ⟨_, _, rfl, ho1, ho2, ho3⟩
          have K5 : Kept w1 w5 := Below.trans (Kept.trans HK.out kd) (hb5.mono (by have := HB5.out; omega))
          clear m0 m1 m2 m3 cr
          go_wp2_with fail
          go_roundw
          case rel =>
            refine ⟨k + 1, ga', ba', gc', bc', by go_num, by omega, ?_, ?_, ?_, by simpa using (Nat.le_trans (by simpa using hsz) hs5)⟩
            · rw [HT.out]; exact q
            · rw [HT.out]
              exact (((M5.far (p := ⟨B5, 0, none⟩) (by simp)).far (p := ⟨B5, 1, none⟩) (by simp)).far (p := ⟨B5, 2, none⟩) (by simp)).far (p := ⟨B5, 3, none⟩) (by simp)
            · have hB := HB5.out
              exact (((K5.set (p := ⟨B5, 0, none⟩) (by simp; omega) _).set (p := ⟨B5, 1, none⟩) (by simp; omega) _).set (p := ⟨B5, 2, none⟩) (by simp; omega) _).set (p := ⟨B5, 3, none⟩) (by simp; omega) _
          case measure => simp [intOf]; omega)
      · obtain rfl : k = rs.length := by omega
        rw [List.take_length] at hC hM
        have HM : Hid _ := hM
        have HK : Hid _ := hK
        have m0 := hC.cell 0
        have m1 := hC.cell 1
        have m2 := hC.cell 2
        have m3 := hC.cell 3
        have z := Cells.kept HZ1.out hK
        have d0 := z.cell 0
        have d1 := z.cell 1
        have d2 := z.cell 2
        have d3 := z.cell 3
        have f0 := z.frozen 0
        have f1 := z.frozen 1
        have f2 := z.frozen 2
        have f3 := z.frozen 3
        have q := z.four (.int .i64 1) (.slice ga (meetL [] rs).length gc) (.slice ba 0 bc) (.int .i64 0)
        have e0 := q.cell 0
        have e1 := q.cell 1
        have e2 := q.cell 2
        have e3 := q.cell 3
        clear hM hK
        go_wp2_with fail
        refine bodyPost_ret (v := .agg #[.int .i64 1, .slice ga (meetL [] rs).length gc, .slice ba 0 bc, .int .i64 0]) (by simp [results, Tryz.results9, go_sem, e0, e1, e2, e3]) rfl ⟨_, rfl, ?_, ?_⟩
        · rw [HC.out]
          have hB := HB5.out
          have hs1 := Below.size HK1.out
          have lz := Cells.lt HZ1.out
          exact MkO.base ((((MkO.far (p := ⟨w.heap.size + 1, 0, none⟩) HM.out (by simp; omega)).far (p := ⟨w.heap.size + 1, 1, none⟩) (by simp; omega)).far (p := ⟨w.heap.size + 1, 2, none⟩) (by simp; omega)).far (p := ⟨w.heap.size + 1, 3, none⟩) (by simp; omega)) (by omega)
        · have KK := Kept.trans HK1.out HK.out
          exact (((KK.set (p := ⟨w.heap.size + 1, 0, none⟩) (by simp) _).set (p := ⟨w.heap.size + 1, 1, none⟩) (by simp) _).set (p := ⟨w.heap.size + 1, 2, none⟩) (by simp) _).set (p := ⟨w.heap.size + 1, 3, none⟩) (by simp) _
end Go.Proofs.YtpljjeknphnnpaaGreat
namespace Go.Proofs.YtpljjeknphnnpaaGreat
open Go.RowKit
attribute [local go_sem] Plain.and7

/-- append(an empty row of one's own, xs...), at a step of a region that draws its order; xs nil, empty or not. -/
theorem step_append_row {w : World} {ops : Array Oper} {o : Oper} {a : Act} {K : Act → World → Prop} {Q : Exit → Act → World → Prop} {E : Prop} (hgd : o.guard = none) (s x : Operand)
    (ho : o.op = .call { callee := .builtin .append, args := #[s, x], argTypes := #[24, 24] }) (base E1 : Nat) (hs : a.eval s = .slice (some ⟨E1, 0, none⟩) 0 0) (hE : w.heap[E1]? = some (.cells #[] 3 (0, 0))) (hbE : base ≤ E1)
    (xv : Value) (b' : Nat) (l : List Int) (hx : a.eval x = xv) (hsrc : OwnL w b' xv l) (hl : l.length ≤ 1048576)
    (h : ∀ g cap w', w'.ownsRow base 3 1 (.slice (some ⟨g, 0, none⟩) l.length cap) l.length (l.map (Value.int .i64)) → w.grownBy w' (some E1) → (g = E1 ∨ g = w.heap.size) → K (a.put o.dst (.slice (some ⟨g, 0, none⟩) l.length cap)) w') :
    if Region.wanted o (yielded ops a.tmps) = true then Oper.wp Tryz.prog o a w K Q else E := by
  obtain ⟨i0, hi, hz0, hz1, hz2⟩ := info_parts infoI
  have hw : Region.wanted o (yielded ops a.tmps) = true := by simp [Region.wanted, hgd]
  rw [if_pos hw]
  have hE1 : E1 < w.heap.size := (Array.getElem?_eq_some_iff.1 hE).1
  have hown : w.ownsRow base 3 1 (.slice (some ⟨E1, 0, none⟩) 0 0) 0 [] := ⟨by simp, .inr ⟨E1, 0, #[], rfl, hbE, hE, by omega, by unfold maxLen; omega, by simp, by simp⟩⟩
  rcases hsrc.cases with ⟨rfl, rfl⟩ | ⟨g0, c0, rfl, _, _, _, hrow⟩
  · have hr := run_append_owned_none (P := Tryz.prog) (w := w) base 24 o.type 3 i0 1 Tryz.underlying24 hi _ _ _ hown
    unfold Oper.wp execOp
    simp only [ho, resolve, invoke, builtin, Sem.run_bind, Sem.run_pure, Result.andThen_ok, List.map_toArray, List.map_cons, List.map_nil, hs, hx, hr]
    exact h E1 0 w hown ⟨rfl, rfl, rfl, Nat.le_refl _, fun _ _ _ => rfl⟩ (.inl rfl)
  · obtain ⟨v', w', hr, h2, h3, h4, h5⟩ := run_append_own_at (P := Tryz.prog) w base 24 o.type 3 i0 (.int .i64 0) 1 8 Tryz.underlying24 hi hz0 hz1 hz2 rfl (by decide) _ _ _ hown ⟨g0, 0, none⟩ l.length c0 (l.map (Value.int .i64)) (by simp) (ints_news (fun j hj => by simpa using hrow.cell (j := j) hj)) (by intro u hu; obtain ⟨z, _, rfl⟩ := List.mem_map.1 hu; rfl) (by unfold maxLen; omega) (by omega) (by omega)
    simp only [Nat.zero_add, List.nil_append] at h2
    rcases h2.2 with ⟨e, _⟩ | ⟨g, cap, cur, rfl, _, hg, _⟩
    · have := (h4.1 e).1
      cases this
    · unfold Oper.wp execOp
      simp only [ho, resolve, invoke, builtin, Sem.run_bind, Sem.run_pure, Result.andThen_ok, List.map_toArray, List.map_cons, List.map_nil, hs, hx, hr]
      refine h g cap w' h2 h3 ?_
      rcases h5 with h5 | h5
      · exact .inl (by simpa [Value.ownBlock] using h5)
      · exact .inr (by simpa [Value.ownBlock] using h5)
end Go.Proofs.YtpljjeknphnnpaaGreat
namespace Go.Proofs.YtpljjeknphnnpaaGreat
open Go.RowKit
attribute [local go_sem] Plain.and7

/-- What Fresh leaves of the black ones. -/
def freshL (ph : Int) (gs bs : List Int) (x : Int) : List Int := if ph = 0 ∨ x ∈ gs ∨ x ∈ bs then bs else insL x bs
end Go.Proofs.YtpljjeknphnnpaaGreat
namespace Go.Proofs.YtpljjeknphnnpaaGreat
open Go.RowKit
attribute [local go_sem] Plain.and7

/-- A value that leads to a block, of whatever kind fits. -/
def blockV (zs : List Int) (v : Int) : Bool := vOk v && decide (4 ≤ v % 8) && (leadsR zs v 5 || leadsR zs v 3)
end Go.Proofs.YtpljjeknphnnpaaGreat
namespace Go.Proofs.YtpljjeknphnnpaaGreat
open Go.RowKit
attribute [local go_sem] Plain.and7

theorem OwnL.full8 {W : World} {base : Nat} {v : Value} {l : List Int} (h : OwnL W base v l) : ∃ so sc, v = .slice so l.length sc ∧ Ints W so l ∧ l.length ≤ sc ∧ sc ≤ maxLen := by
  obtain ⟨so, sc, rfl, hI⟩ := h.ints
  rcases h.2.2 with ⟨e, h0⟩ | ⟨g, cap, cur, e, _, _, h1, h2, _⟩
  · injection e with e1 e2 e3
    exact ⟨so, sc, rfl, hI, by omega, by unfold maxLen; omega⟩
  · injection e with e1 e2 e3
    exact ⟨so, sc, rfl, hI, by omega, by omega⟩
theorem MkI.of {W : World} {b1 b2 gc bc : Nat} {ga ba : Option Addr} {gs bs : List Int} (hg : OwnL W b1 (.slice ga gs.length gc) gs) (hb : OwnL W b2 (.slice ba bs.length bc) bs) (hgl : gs.length ≤ 1048576) (hbl : bs.length ≤ 1048576) : MkI W ga ba gc bc gs bs := by
  obtain ⟨so, sc, e, h1, h2, _⟩ := hg.full8
  injection e with e1 _ e3
  subst e1
  subst e3
  obtain ⟨so, sc, e, h3, h4, _⟩ := hb.full8
  injection e with e1 _ e3
  subst e1
  subst e3
  exact ⟨h1, h3, hgl, hbl, h2, h4⟩
/-- What is grey behind Shade. -/
def shadeC (zs : List Int) (ph : Int) (gs bs : List Int) (at' v : Int) : List Int := if markR zs ph gs bs at' = true ∧ blockV zs v = true then shadeL ph gs bs v else gs
end Go.Proofs.YtpljjeknphnnpaaGreat
namespace Go.Proofs.YtpljjeknphnnpaaGreat
open Go.RowKit

def shadesL (bs gs vs : List Int) : List Int := vs.foldl (fun g v => shadeL 1 g bs v) gs
theorem shadesL_snoc (bs gs vs : List Int) (v : Int) : shadesL bs gs (vs ++ [v]) = shadeL 1 (shadesL bs gs vs) bs v := by simp [shadesL]
/-- So many steps of marking. -/
def stepL (zs : List Int) : Nat → List Int → List Int → List Int × List Int
  | 0, gs, bs => (gs, bs)
  | _ + 1, [], bs => ([], bs)
  | k + 1, a :: g, bs => stepL zs k (shadesL (insL a bs) g (slotV zs a)) (insL a bs)
theorem stepL_nil (zs bs : List Int) (k : Nat) : stepL zs k [] bs = ([], bs) := by cases k <;> rfl
/-- Grey and black blocks that are there, each once. -/
structure Two (zs gs bs : List Int) : Prop where
  g : Met zs gs
  b : Met zs bs
  n : ∀ a ∈ gs, a ∉ bs
theorem Two.shade {zs gs bs : List Int} {v : Int} (h : Two zs gs bs) (hv : 0 ≤ blkV v → 1 ≤ kindAt zs (blkV v)) : Two zs (shadeL 1 gs bs v) bs := by
  unfold shadeL
  split
  · rename_i hc
    refine ⟨⟨?_, fun x hx => ?_⟩, h.b, fun x hx => ?_⟩
    · rw [List.nodup_append]
      exact ⟨h.g.1, by simp, fun x hx y hy => by simp at hy; subst hy; intro e; subst e; exact hc.2.2.1 hx⟩
    · rcases List.mem_append.1 hx with h' | h'
      · exact h.g.2 x h'
      · simp at h'; subst h'; exact hv hc.2.1
    · rcases List.mem_append.1 hx with h' | h'
      · exact h.n x h'
      · simp at h'; subst h'; exact hc.2.2.2
  · exact h
theorem Two.shades {zs bs : List Int} : ∀ {vs gs : List Int}, Two zs gs bs → Leads zs vs → Two zs (shadesL bs gs vs) bs
  | [], _, h, _ => h
  | v :: vs, _, h, hv => Two.shades (vs := vs) (h.shade (hv v (by simp))) (fun x hx => hv x (List.mem_cons_of_mem _ hx))
theorem insL_perm (x : Int) (l : List Int) : (insL x l).Perm (x :: l) := by
  unfold insL
  have := List.perm_middle (a := x) (l₁ := l.takeWhile (fun y => decide (y < x))) (l₂ := l.dropWhile (fun y => decide (y < x)))
  rwa [List.takeWhile_append_dropWhile] at this
theorem Two.ink {zs g bs : List Int} {a : Int} (h : Two zs (a :: g) bs) : Two zs g (insL a bs) := by
  have hd := List.nodup_cons.1 h.g.1
  refine ⟨⟨hd.2, fun x hx => h.g.2 x (List.mem_cons_of_mem _ hx)⟩, ⟨?_, fun x hx => ?_⟩, fun x hx hm => ?_⟩
  · rw [(insL_perm a bs).nodup_iff]
    exact List.nodup_cons.2 ⟨h.n a (by simp), h.b.1⟩
  · rcases mem_insL.1 hx with rfl | h'
    · exact h.g.2 _ (by simp)
    · exact h.b.2 x h'
  · rcases mem_insL.1 hm with rfl | h'
    · exact hd.1 hx
    · exact h.n x (List.mem_cons_of_mem _ hx) h'
theorem markR_two {zs gs bs : List Int} {ph at' : Int} (h : markR zs ph gs bs at' = true) : Two zs gs bs := by
  obtain ⟨_, h1, h2, _⟩ := markR_met h
  refine ⟨h1, h2, fun a ha hb => ?_⟩
  unfold markR at h
  simp only [Bool.and_eq_true] at h
  have hk := h.1.2
  unfold blackR at hk
  obtain ⟨i, hi, e⟩ := List.getElem_of_mem hb
  have := allR_iff.1 hk i hi
  unfold blackB at this
  simp only [Bool.and_eq_true, Bool.not_eq_true', decide_eq_false_iff_not] at this
  rw [hz_get hi, e] at this
  exact this.1 ha
theorem l8Shade_ok2 (w : World) (base base' : Nat) (at' v : Int) (ga ba : Option Addr) (gc bc : Nat) (gs bs : List Int) (h1 : OwnL w base (.slice ga gs.length gc) gs) (h2 : OwnL w base' (.slice ba bs.length bc) bs) (h3 : ∀ j, (Value.slice ga gs.length gc).ownBlock = some j → (Value.slice ba bs.length bc).ownBlock ≠ some j) (hgl : gs.length ≤ 1048576) (hbl : bs.length ≤ 1048576) (hbase : base ≤ w.heap.size) (hvb : -9223372036854775808 ≤ v ∧ v ≤ 9223372036854775807) :
    Calls Tryz.prog 34 #[.agg #[.int .i64 1, .slice ga gs.length gc, .slice ba bs.length bc, .int .i64 at'], .int .i64 v] w fun e w' =>
      ∃ ga' gc', e = .returned (.agg #[.int .i64 1, .slice ga' (shadeL 1 gs bs v).length gc', .slice ba bs.length bc, .int .i64 at']) ∧ OwnL w' base (.slice ga' (shadeL 1 gs bs v).length gc') (shadeL 1 gs bs v) ∧ OwnL w' base' (.slice ba bs.length bc) bs ∧ (∀ j, (Value.slice ga' (shadeL 1 gs bs v).length gc').ownBlock = some j → (Value.slice ba bs.length bc).ownBlock ≠ some j) ∧ w.grownBy w' (Value.slice ga gs.length gc).ownBlock ∧ (∀ j, (Value.slice ga' (shadeL 1 gs bs v).length gc').ownBlock = some j → (Value.slice ga gs.length gc).ownBlock = some j ∨ w.heap.size ≤ j) := by
  obtain ⟨_, _, e, hG⟩ := h1.ints
  cases e
  obtain ⟨_, _, e, hB⟩ := h2.ints
  cases e
  by_cases hc : (1 : Int) = 1 ∧ 0 ≤ blkV v ∧ blkV v ∉ gs ∧ blkV v ∉ bs
  · refine (l8Shade_yes w base at' v ga ba gc bc gs bs h1 hB hgl hbl hbase hvb hc.2.1 hc.2.2.1 hc.2.2.2).mono ?_
    rintro e w' ⟨g, c, rfl, ho, hgr, hat, hlt⟩
    have es : shadeL 1 gs bs v = gs ++ [blkV v] := if_pos hc
    have el : (gs ++ [blkV v]).length = gs.length + 1 := by simp
    rw [es, el]
    refine ⟨_, _, rfl, ho, OwnL.kept h2 hgr (fun k e j hj => fun ek => by subst ek; exact h3 _ e hj), fun j hj e => ?_, hgr, fun j hj => ?_⟩
    · simp only [Value.ownBlock, Option.some.injEq] at hj
      subst hj
      rcases hat with h | h
      · exact h3 _ h e
      · have := (h2.2.lt _ e).2; omega
    · simp only [Value.ownBlock, Option.some.injEq] at hj
      subst hj
      exact hat
  · refine (l8Shade_no w 1 at' v ga ba gc bc gs bs hG hB hgl hbl hc).mono ?_
    rintro e w' ⟨rfl, hk⟩
    have es : shadeL 1 gs bs v = gs := if_neg hc
    rw [es]
    exact ⟨_, _, rfl, OwnL.kept (row := none) h1 hk.grown (fun k e => by cases e), OwnL.kept (row := none) h2 hk.grown (fun k e => by cases e), h3, ⟨hk.os, hk.tape, hk.output, hk.size, fun k hk' _ => hk.block k hk'⟩, fun j hj => .inl hj⟩
end Go.Proofs.YtpljjeknphnnpaaGreat
namespace Go.Proofs.YtpljjeknphnnpaaGreat
open Go.RowKit

end Go.Proofs.YtpljjeknphnnpaaGreat
