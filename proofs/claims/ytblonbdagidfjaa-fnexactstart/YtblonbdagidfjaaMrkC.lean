/-
  The contract of chapter 8's model l8Shade.
-/
import Derived.Test.YtblonbdagidfjaaMrkB
import Derived.Deep.AppendLies
namespace Go.Proofs.Ytblonbdagidfjaa
open Go.RowKit
attribute [local go_sem] Plain.and7

/-- What Shade leaves of the grey ones. -/
def shadeL (ph : Int) (gs bs : List Int) (v : Int) : List Int := if ph = 1 ∧ 0 ≤ blkV v ∧ blkV v ∉ gs ∧ blkV v ∉ bs then gs ++ [blkV v] else gs
theorem Cells.four {W : World} {B : Nat} {t : TypeId} {x0 x1 x2 x3 : Value} (h : Cells W B t #[x0, x1, x2, x3]) (a b c d : Value) :
    Cells ((((W.setCell ⟨B, 0, none⟩ a).setCell ⟨B, 1, none⟩ b).setCell ⟨B, 2, none⟩ c).setCell ⟨B, 3, none⟩ d) B t #[a, b, c, d] := by
  have := ((((h.set 0 a).set 1 b).set 2 c).set 3 d)
  simpa using this
set_option maxHeartbeats 16000000 in
set_option maxRecDepth 100000 in
theorem l8Shade_no (w : World) (ph at' v : Int) (ga ba : Option Addr) (gc bc : Nat) (gs bs : List Int) (hG : Ints w ga gs) (hB : Ints w ba bs) (hgl : gs.length ≤ 1048576) (hbl : bs.length ≤ 1048576) (hno : ¬ (ph = 1 ∧ 0 ≤ blkV v ∧ blkV v ∉ gs ∧ blkV v ∉ bs)) :
    Calls Try.prog 30 #[.agg #[.int .i64 ph, .slice ga gs.length gc, .slice ba bs.length bc, .int .i64 at'], .int .i64 v] w fun e w' =>
      e = .returned (.agg #[.int .i64 ph, .slice ga gs.length gc, .slice ba bs.length bc, .int .i64 at']) ∧ Kept w w' := by
  have b0 := (Cells.new w 36 #[.int .i64 ph, .slice ga gs.length gc, .slice ba bs.length bc, .int .i64 at']).alloc (.cells #[.int .i64 0, .slice none 0 0, .slice none 0 0, .int .i64 0] 36)
  have b1 := Cells.new (w.alloc (.cells #[.int .i64 ph, .slice ga gs.length gc, .slice ba bs.length bc, .int .i64 at'] 36)) 36 #[.int .i64 0, .slice none 0 0, .slice none 0 0, .int .i64 0]
  have k0 : Kept w ((w.alloc (.cells #[.int .i64 ph, .slice ga gs.length gc, .slice ba bs.length bc, .int .i64 at'] 36)).alloc (.cells #[.int .i64 0, .slice none 0 0, .slice none 0 0, .int .i64 0] 36)) := (Kept.alloc (Below.refl _ _) _).alloc _
  simp only [World.size_alloc] at b1
  have hBk := fun (u : World) => l7Block_ok v u
  obtain ⟨x, hx⟩ : ∃ x, blkV v = x := ⟨_, rfl⟩
  have c0 := b0.cell 0
  have c1 := b0.cell 1
  have c2 := b0.cell 2
  have c3 := b0.cell 3
  rw [hx] at hBk hno
  have hIg := l7In_ok _ ga gc gs x (hG.kept k0) hgl
  have hIb := l7In_ok _ ba bc bs x (hB.kept k0) hbl
  clear hx hG hB
  by_cases h1 : ph = 1
  · subst h1
    by_cases h0 : 0 ≤ x
    · have e0 : decide (0 ≤ x) = true := by simpa using h0
      cases hg : decide (x ∈ gs) with
      | true =>
        rw [hg] at hIg
        clear hno hIb hg
        go_enter Try.func30, Try.ntmps30
        go_wp2_with (go_at_call 41; refine (hBk _).mono ?_; rintro e wx ⟨rfl, rfl⟩)
        refine hIg.mono ?_
        rintro e wx ⟨rfl, rfl⟩
        go_wp2_with fail
        refine bodyPost_ret (v := .agg #[.int .i64 1, .slice ga gs.length gc, .slice ba bs.length bc, .int .i64 at']) (by simp [results, Try.results30, go_sem]) rfl ⟨rfl, (Kept.alloc (Below.refl _ _) _).alloc _⟩
      | false =>
        rw [hg] at hIg
        have hb' : decide (x ∈ bs) = true := by
          have hg' : x ∉ gs := by simpa using hg
          simp only [decide_eq_true_eq]
          exact Classical.byContradiction fun h => hno ⟨rfl, h0, hg', h⟩
        rw [hb'] at hIb
        clear hno hg hb'
        go_enter Try.func30, Try.ntmps30
        go_wp2_with (go_at_call 41; refine (hBk _).mono ?_; rintro e wx ⟨rfl, rfl⟩)
        refine hIg.mono ?_
        rintro e wx ⟨rfl, rfl⟩
        go_wp2_with fail
        refine hIb.mono ?_
        rintro e wx ⟨rfl, rfl⟩
        go_wp2_with fail
        refine bodyPost_ret (v := .agg #[.int .i64 1, .slice ga gs.length gc, .slice ba bs.length bc, .int .i64 at']) (by simp [results, Try.results30, go_sem]) rfl ⟨rfl, (Kept.alloc (Below.refl _ _) _).alloc _⟩
    · have e0 : decide (0 ≤ x) = false := by simpa using h0
      clear hno hIg hIb
      go_enter Try.func30, Try.ntmps30
      go_wp2_with (go_at_call 41; refine (hBk _).mono ?_; rintro e wx ⟨rfl, rfl⟩)
      refine bodyPost_ret (v := .agg #[.int .i64 1, .slice ga gs.length gc, .slice ba bs.length bc, .int .i64 at']) (by simp [results, Try.results30, go_sem]) rfl ⟨rfl, (Kept.alloc (Below.refl _ _) _).alloc _⟩
  · have e1 : (ph == 1) = false := by simpa using h1
    clear hno hIg hIb
    go_enter Try.func30, Try.ntmps30
    go_wp2_with (go_at_call 41; refine (hBk _).mono ?_; rintro e wx ⟨rfl, rfl⟩)
    refine bodyPost_ret (v := .agg #[.int .i64 ph, .slice ga gs.length gc, .slice ba bs.length bc, .int .i64 at']) (by simp [results, Try.results30, go_sem]) rfl ⟨rfl, (Kept.alloc (Below.refl _ _) _).alloc _⟩
theorem grown_then {a w w' : World} {row : Option Nat} (h : Kept a w) (k : w.grownBy w' row) : a.grownBy w' row :=
  ⟨k.os.trans h.os, k.tape.trans h.tape, k.output.trans h.output, Nat.le_trans h.size k.size, fun j hj hne => (k.block j (Nat.lt_of_lt_of_le hj h.size) hne).trans (h.block j hj)⟩
theorem grown_far {a w : World} {row : Option Nat} {p : Addr} {v : Value} (h : a.grownBy w row) (hp : a.heap.size ≤ p.block) : a.grownBy (w.setCell p v) row :=
  ⟨h.os, h.tape, h.output, by rw [World.size_setCell]; exact h.size, fun k hk hne => (Below.heap_setCell _ _ _ _ (by omega)).trans (h.block k hk hne)⟩
theorem OwnL.far {W : World} {base : Nat} {v : Value} {l : List Int} {p : Addr} {u : Value} (h : OwnL W base v l) (hne : ∀ j, v.ownBlock = some j → j ≠ p.block) : OwnL (W.setCell p u) base v l :=
  OwnL.kept (row := some p.block) h ⟨rfl, rfl, rfl, by simp, fun k _ hk => Below.heap_setCell _ _ _ _ (fun e => hk (by rw [e]))⟩ (fun k e j hj => by cases e; exact hne j hj)
theorem one_new3 (w : World) (a b : Obj) (x : Int) : ∀ (j : Nat) (u : Value), [Value.int .i64 x][j]? = some u → (((w.alloc a).alloc b).alloc (.cells #[.int .i64 x] 3)).cell? ((⟨w.heap.size + 2, 0, none⟩ : Addr).add j) = some u := by
  have := cell_one_new ((w.alloc a).alloc b) (.int .i64 x) 3
  rw [World.size_alloc, World.size_alloc] at this
  exact this
set_option maxHeartbeats 16000000 in
set_option maxRecDepth 100000 in
theorem l8Shade_yes (w : World) (base : Nat) (at' v : Int) (ga ba : Option Addr) (gc bc : Nat) (gs bs : List Int) (hO : OwnL w base (.slice ga gs.length gc) gs) (hB : Ints w ba bs) (hgl : gs.length ≤ 1048576) (hbl : bs.length ≤ 1048576) (hbase : base ≤ w.heap.size) (hvb : -9223372036854775808 ≤ v ∧ v ≤ 9223372036854775807) (h0 : 0 ≤ blkV v) (hg : blkV v ∉ gs) (hb : blkV v ∉ bs) :
    Calls Try.prog 30 #[.agg #[.int .i64 1, .slice ga gs.length gc, .slice ba bs.length bc, .int .i64 at'], .int .i64 v] w fun e w' =>
      ∃ g c, e = .returned (.agg #[.int .i64 1, .slice (some ⟨g, 0, none⟩) (gs.length + 1) c, .slice ba bs.length bc, .int .i64 at']) ∧ OwnL w' base (.slice (some ⟨g, 0, none⟩) (gs.length + 1) c) (gs ++ [blkV v]) ∧ w.grownBy w' (Value.slice ga gs.length gc).ownBlock ∧ ((Value.slice ga gs.length gc).ownBlock = some g ∨ w.heap.size ≤ g) ∧ g < w'.heap.size := by
  obtain ⟨i0, hi, hz0, hz1, hz2⟩ := info_parts infoI
  obtain ⟨_, _, ev, hG⟩ := hO.ints
  cases ev
  have hxb := blkV_bd hvb
  obtain ⟨ph, hph⟩ : ∃ ph : Int, ph = 1 := ⟨_, rfl⟩
  rw [← hph]
  have b0 := (Cells.new w 36 #[.int .i64 ph, .slice ga gs.length gc, .slice ba bs.length bc, .int .i64 at']).alloc (.cells #[.int .i64 0, .slice none 0 0, .slice none 0 0, .int .i64 0] 36)
  have b1 := Cells.new (w.alloc (.cells #[.int .i64 ph, .slice ga gs.length gc, .slice ba bs.length bc, .int .i64 at'] 36)) 36 #[.int .i64 0, .slice none 0 0, .slice none 0 0, .int .i64 0]
  have k0 : Kept w ((w.alloc (.cells #[.int .i64 ph, .slice ga gs.length gc, .slice ba bs.length bc, .int .i64 at'] 36)).alloc (.cells #[.int .i64 0, .slice none 0 0, .slice none 0 0, .int .i64 0] 36)) := (Kept.alloc (Below.refl _ _) _).alloc _
  simp only [World.size_alloc] at b1
  have hBk := fun (u : World) => l7Block_ok v u
  obtain ⟨x, hx⟩ : ∃ x, blkV v = x := ⟨_, rfl⟩
  have c0 := b0.cell 0
  have c1 := b0.cell 1
  have c2 := b0.cell 2
  have c3 := b0.cell 3
  subst hph
  rw [hx] at hBk h0 hg hb hxb
  rw [hx]
  have hIg := l7In_ok _ ga gc gs x (hG.kept k0) hgl
  have hIb := l7In_ok _ ba bc bs x (hB.kept k0) hbl
  rw [show decide (x ∈ gs) = false by simpa using hg] at hIg
  rw [show decide (x ∈ bs) = false by simpa using hb] at hIb
  have e0 : decide (0 ≤ x) = true := by simpa using h0
  have hrow := hO.2
  have hrl := hrow.lt
  have Hhg : Hid _ := hO.1
  clear hx hG hB hg hb hO
  go_enter Try.func30, Try.ntmps30
  go_wp2_with (go_at_call 41; refine (hBk _).mono ?_; rintro e wx ⟨rfl, rfl⟩)
  refine hIg.mono ?_
  rintro e wx ⟨rfl, rfl⟩
  go_wp2_with fail
  refine hIb.mono ?_
  rintro e wx ⟨rfl, rfl⟩
  clear hIg hIb
  go_wp2_with (at_builtin; refine wpList_append_lies _ rfl _ _ 22 rfl base 3 i0 (.int .i64 0) 1 8 Try.underlying22 hi hz0 hz1 hz2 rfl (by decide) _ _ _ rfl (((hrow.alloc _).alloc _).alloc _) ⟨w.heap.size + 2, 0, none⟩ 1 1 [.int .i64 x] rfl rfl (one_new3 w _ _ x) (by simp [Value.oneCell']) (by omega) (by unfold maxLen; omega) (by omega) (by simp; omega) (w.heap.size + 3) (by simp) ?_; intro gg cg w6 hown' hgrow hat hlt6; have hB6 := b0.alloc (.cells #[.int .i64 x] 3); have hZ6 := b1.alloc (.cells #[.int .i64 x] 3); have y6 := hB6.grown hgrow (fun e => by have := (hrl _ e.symm).2; omega); have z6 := hZ6.grown hgrow (fun e => by have := (hrl _ e.symm).2; omega); have p1 := y6.cell 1; have p2 := y6.frozen 1; have y7 := y6.set 1 (.slice (some ⟨gg, 0, none⟩) (gs.length + 1) cg); have z7 := z6.other (p := ⟨w.heap.size, 1, none⟩) (by simp) (.slice (some ⟨gg, 0, none⟩) (gs.length + 1) cg); have m0 := y7.cell 0; have m1 := y7.cell 1; have m2 := y7.cell 2; have m3 := y7.cell 3; have d0 := z7.cell 0; have d1 := z7.cell 1; have d2 := z7.cell 2; have d3 := z7.cell 3; have f0 := z7.frozen 0; have f1 := z7.frozen 1; have f2 := z7.frozen 2; have f3 := z7.frozen 3; have q := z7.four (.int .i64 1) (.slice (some ⟨gg, 0, none⟩) (gs.length + 1) cg) (.slice ba bs.length bc) (.int .i64 at'); have q0 := q.cell 0; have q1 := q.cell 1; have q2 := q.cell 2; have q3 := q.cell 3)
  have hgg : gg ≠ w.heap.size ∧ gg ≠ w.heap.size + 1 := by
    rcases hat with h | h
    · have h3 : (Value.slice ga gs.length gc).ownBlock = some gg := h
      have := (hrl gg h3).2
      omega
    · omega
  have k3 := k0.alloc (.cells #[.int .i64 x] 3)
  have g6 := grown_then k3 hgrow
  have o6 : OwnL w6 base (.slice (some ⟨gg, 0, none⟩) (gs.length + 1) cg) (gs ++ [x]) := OwnL.snoc (fun z hz' => by
    rcases List.mem_append.1 hz' with h | h
    · exact Hhg.out z h
    · simp at h; subst h; exact hxb) hown'
  have hf0 : ∀ j, (Value.slice (some ⟨gg, 0, none⟩) (gs.length + 1) cg).ownBlock = some j → j ≠ w.heap.size := fun j e => by simp [Value.ownBlock] at e; omega
  have hf1 : ∀ j, (Value.slice (some ⟨gg, 0, none⟩) (gs.length + 1) cg).ownBlock = some j → j ≠ w.heap.size + 1 := fun j e => by simp [Value.ownBlock] at e; omega
  refine bodyPost_ret (v := .agg #[.int .i64 1, .slice (some ⟨gg, 0, none⟩) (gs.length + 1) cg, .slice ba bs.length bc, .int .i64 at']) (by simp [results, Try.results30, go_sem, q0, q1, q2, q3]) rfl ⟨gg, cg, rfl, ?_, ?_, ?_, ?_⟩
  · exact OwnL.far (p := ⟨w.heap.size + 1, 3, none⟩) (OwnL.far (p := ⟨w.heap.size + 1, 2, none⟩) (OwnL.far (p := ⟨w.heap.size + 1, 1, none⟩) (OwnL.far (p := ⟨w.heap.size + 1, 0, none⟩) (OwnL.far (p := ⟨w.heap.size, 1, none⟩) o6 hf0) hf1) hf1) hf1) hf1
  · exact grown_far (grown_far (grown_far (grown_far (grown_far g6 (by simp)) (by simp)) (by simp)) (by simp)) (by simp)
  · rcases hat with h | h
    · exact .inl h
    · exact .inr (by omega)
  · simpa using hlt6
end Go.Proofs.Ytblonbdagidfjaa
