/-
  The contract of chapter 8's model Shade.
  Facts on lists: what a step of marking leaves; l8Shade of rows of one's own, told closer (chapter 8).
  The world in a step of marking: slab, marker and result lie in three blocks, the marker's two rows beside them (chapter 8).
-/
import Derived.Test.YtchkijeaaealmaaGreatGrpKc
import Derived.Test.YtchkijeaaealmaaGreatGrpKb
namespace Go.Proofs.YtchkijeaaealmaaGreat
open Go.RowKit
attribute [local go_sem] Plain.and7

theorem OwnL.full8 {W : World} {base : Nat} {v : Value} {l : List Int} (h : OwnL W base v l) : ∃ so sc, v = .slice so l.length sc ∧ Ints W so l ∧ l.length ≤ sc ∧ sc ≤ maxLen := by
  obtain ⟨so, sc, rfl, hI⟩ := h.ints
  rcases h.2.2 with ⟨e, h0⟩ | ⟨g, cap, cur, e, _, _, h1, h2, _⟩
  · injection e with e1 e2 e3
    exact ⟨so, sc, rfl, hI, by omega, by unfold maxLen; omega⟩
  · injection e with e1 e2 e3
    exact ⟨so, sc, rfl, hI, by omega, by omega⟩
theorem MkI.of {W : World} {b1 b2 gc bc : Nat} {ga ba : Option Addr} {gs bs : List Int} (hg : OwnL W b1 (.slice ga gs.length gc) gs) (hb : OwnL W b2 (.slice ba bs.length bc) bs) (hgl : gs.length ≤ 1048576) (hbl : bs.length ≤ 1048576) : MkI W ga ba gc bc gs bs := by
  obtain ⟨so, sc, e, h1, h2, _⟩ := hg.full8
  injection e with e1 _ e3
  subst e1
  subst e3
  obtain ⟨so, sc, e, h3, h4, _⟩ := hb.full8
  injection e with e1 _ e3
  subst e1
  subst e3
  exact ⟨h1, h3, hgl, hbl, h2, h4⟩
/-- What is grey behind Shade. -/
def shadeC (zs : List Int) (ph : Int) (gs bs : List Int) (at' v : Int) : List Int := if markR zs ph gs bs at' = true ∧ blockV zs v = true then shadeL ph gs bs v else gs
end Go.Proofs.YtchkijeaaealmaaGreat
namespace Go.Proofs.YtchkijeaaealmaaGreat
open Go.RowKit

def shadesL (bs gs vs : List Int) : List Int := vs.foldl (fun g v => shadeL 1 g bs v) gs
theorem shadesL_snoc (bs gs vs : List Int) (v : Int) : shadesL bs gs (vs ++ [v]) = shadeL 1 (shadesL bs gs vs) bs v := by simp [shadesL]
/-- So many steps of marking. -/
def stepL (zs : List Int) : Nat → List Int → List Int → List Int × List Int
  | 0, gs, bs => (gs, bs)
  | _ + 1, [], bs => ([], bs)
  | k + 1, a :: g, bs => stepL zs k (shadesL (insL a bs) g (slotV zs a)) (insL a bs)
theorem stepL_nil (zs bs : List Int) (k : Nat) : stepL zs k [] bs = ([], bs) := by cases k <;> rfl
/-- Grey and black blocks that are there, each once. -/
structure Two (zs gs bs : List Int) : Prop where
  g : Met zs gs
  b : Met zs bs
  n : ∀ a ∈ gs, a ∉ bs
theorem Two.shade {zs gs bs : List Int} {v : Int} (h : Two zs gs bs) (hv : 0 ≤ blkV v → 1 ≤ kindAt zs (blkV v)) : Two zs (shadeL 1 gs bs v) bs := by
  unfold shadeL
  split
  · rename_i hc
    refine ⟨⟨?_, fun x hx => ?_⟩, h.b, fun x hx => ?_⟩
    · rw [List.nodup_append]
      exact ⟨h.g.1, by simp, fun x hx y hy => by simp at hy; subst hy; intro e; subst e; exact hc.2.2.1 hx⟩
    · rcases List.mem_append.1 hx with h' | h'
      · exact h.g.2 x h'
      · simp at h'; subst h'; exact hv hc.2.1
    · rcases List.mem_append.1 hx with h' | h'
      · exact h.n x h'
      · simp at h'; subst h'; exact hc.2.2.2
  · exact h
theorem Two.shades {zs bs : List Int} : ∀ {vs gs : List Int}, Two zs gs bs → Leads zs vs → Two zs (shadesL bs gs vs) bs
  | [], _, h, _ => h
  | v :: vs, _, h, hv => Two.shades (vs := vs) (h.shade (hv v (by simp))) (fun x hx => hv x (List.mem_cons_of_mem _ hx))
theorem insL_perm (x : Int) (l : List Int) : (insL x l).Perm (x :: l) := by
  unfold insL
  have := List.perm_middle (a := x) (l₁ := l.takeWhile (fun y => decide (y < x))) (l₂ := l.dropWhile (fun y => decide (y < x)))
  rwa [List.takeWhile_append_dropWhile] at this
theorem Two.ink {zs g bs : List Int} {a : Int} (h : Two zs (a :: g) bs) : Two zs g (insL a bs) := by
  have hd := List.nodup_cons.1 h.g.1
  refine ⟨⟨hd.2, fun x hx => h.g.2 x (List.mem_cons_of_mem _ hx)⟩, ⟨?_, fun x hx => ?_⟩, fun x hx hm => ?_⟩
  · rw [(insL_perm a bs).nodup_iff]
    exact List.nodup_cons.2 ⟨h.n a (by simp), h.b.1⟩
  · rcases mem_insL.1 hx with rfl | h'
    · exact h.g.2 _ (by simp)
    · exact h.b.2 x h'
  · rcases mem_insL.1 hm with rfl | h'
    · exact hd.1 hx
    · exact h.n x (List.mem_cons_of_mem _ hx) h'
theorem markR_two {zs gs bs : List Int} {ph at' : Int} (h : markR zs ph gs bs at' = true) : Two zs gs bs := by
  obtain ⟨_, h1, h2, _⟩ := markR_met h
  refine ⟨h1, h2, fun a ha hb => ?_⟩
  unfold markR at h
  simp only [Bool.and_eq_true] at h
  have hk := h.1.2
  unfold blackR at hk
  obtain ⟨i, hi, e⟩ := List.getElem_of_mem hb
  have := allR_iff.1 hk i hi
  unfold blackB at this
  simp only [Bool.and_eq_true, Bool.not_eq_true', decide_eq_false_iff_not] at this
  rw [hz_get hi, e] at this
  exact this.1 ha
theorem l8Shade_ok2 (w : World) (base base' : Nat) (at' v : Int) (ga ba : Option Addr) (gc bc : Nat) (gs bs : List Int) (h1 : OwnL w base (.slice ga gs.length gc) gs) (h2 : OwnL w base' (.slice ba bs.length bc) bs) (h3 : ∀ j, (Value.slice ga gs.length gc).ownBlock = some j → (Value.slice ba bs.length bc).ownBlock ≠ some j) (hgl : gs.length ≤ 1048576) (hbl : bs.length ≤ 1048576) (hbase : base ≤ w.heap.size) (hvb : -9223372036854775808 ≤ v ∧ v ≤ 9223372036854775807) :
    Calls Tryz.prog 49 #[.agg #[.int .i64 1, .slice ga gs.length gc, .slice ba bs.length bc, .int .i64 at'], .int .i64 v] w fun e w' =>
      ∃ ga' gc', e = .returned (.agg #[.int .i64 1, .slice ga' (shadeL 1 gs bs v).length gc', .slice ba bs.length bc, .int .i64 at']) ∧ OwnL w' base (.slice ga' (shadeL 1 gs bs v).length gc') (shadeL 1 gs bs v) ∧ OwnL w' base' (.slice ba bs.length bc) bs ∧ (∀ j, (Value.slice ga' (shadeL 1 gs bs v).length gc').ownBlock = some j → (Value.slice ba bs.length bc).ownBlock ≠ some j) ∧ w.grownBy w' (Value.slice ga gs.length gc).ownBlock ∧ (∀ j, (Value.slice ga' (shadeL 1 gs bs v).length gc').ownBlock = some j → (Value.slice ga gs.length gc).ownBlock = some j ∨ w.heap.size ≤ j) := by
  obtain ⟨_, _, e, hG⟩ := h1.ints
  cases e
  obtain ⟨_, _, e, hB⟩ := h2.ints
  cases e
  by_cases hc : (1 : Int) = 1 ∧ 0 ≤ blkV v ∧ blkV v ∉ gs ∧ blkV v ∉ bs
  · refine (l8Shade_yes w base at' v ga ba gc bc gs bs h1 hB hgl hbl hbase hvb hc.2.1 hc.2.2.1 hc.2.2.2).mono ?_
    rintro e w' ⟨g, c, rfl, ho, hgr, hat, hlt⟩
    have es : shadeL 1 gs bs v = gs ++ [blkV v] := if_pos hc
    have el : (gs ++ [blkV v]).length = gs.length + 1 := by simp
    rw [es, el]
    refine ⟨_, _, rfl, ho, OwnL.kept h2 hgr (fun k e j hj => fun ek => by subst ek; exact h3 _ e hj), fun j hj e => ?_, hgr, fun j hj => ?_⟩
    · simp only [Value.ownBlock, Option.some.injEq] at hj
      subst hj
      rcases hat with h | h
      · exact h3 _ h e
      · have := (h2.2.lt _ e).2; omega
    · simp only [Value.ownBlock, Option.some.injEq] at hj
      subst hj
      exact hat
  · refine (l8Shade_no w 1 at' v ga ba gc bc gs bs hG hB hgl hbl hc).mono ?_
    rintro e w' ⟨rfl, hk⟩
    have es : shadeL 1 gs bs v = gs := if_neg hc
    rw [es]
    exact ⟨_, _, rfl, OwnL.kept (row := none) h1 hk.grown (fun k e => by cases e), OwnL.kept (row := none) h2 hk.grown (fun k e => by cases e), h3, ⟨hk.os, hk.tape, hk.output, hk.size, fun k hk' _ => hk.block k hk'⟩, fun j hj => .inl hj⟩
end Go.Proofs.YtchkijeaaealmaaGreat
namespace Go.Proofs.YtchkijeaaealmaaGreat
open Go.RowKit

/-- A row that is none of three blocks. -/
def OutB (B : Nat) (v : Value) : Prop := ∀ j, v.ownBlock = some j → j < B ∨ B + 3 ≤ j
structure StepS (w : World) (base : Nat) (ao : Option Addr) (cap : Nat) (zs : List Int) (at' : Int) (ga ba : Option Addr) (gc bc : Nat) (gs bs : List Int) (wr : World) : Prop where
  s : Cells wr w.heap.size 26 #[.slice ao zs.length cap]
  m : Cells wr (w.heap.size + 1) 28 #[.int .i64 1, .slice ga gs.length gc, .slice ba bs.length bc, .int .i64 at']
  z : Cells wr (w.heap.size + 2) 28 #[.int .i64 0, .slice none 0 0, .slice none 0 0, .int .i64 0]
  g : OwnL wr base (.slice ga gs.length gc) gs
  b : OwnL wr base (.slice ba bs.length bc) bs
  n : ∀ j, (Value.slice ga gs.length gc).ownBlock = some j → (Value.slice ba bs.length bc).ownBlock ≠ some j
  og : OutB w.heap.size (.slice ga gs.length gc)
  ob : OutB w.heap.size (.slice ba bs.length bc)
  k : Kept w wr
  sz : w.heap.size + 3 ≤ wr.heap.size
  bw : base ≤ w.heap.size
section
variable {w wr : World} {base : Nat} {ao : Option Addr} {cap : Nat} {zs : List Int} {at' : Int} {ga ba : Option Addr} {gc bc : Nat} {gs bs : List Int}
theorem StepS.kept {w' : World} (h : StepS w base ao cap zs at' ga ba gc bc gs bs wr) (hk : Kept wr w') : StepS w base ao cap zs at' ga ba gc bc gs bs w' :=
  ⟨h.s.kept hk, h.m.kept hk, h.z.kept hk, OwnL.kept (row := none) h.g hk.grown (fun k e => by cases e), OwnL.kept (row := none) h.b hk.grown (fun k e => by cases e), h.n, h.og, h.ob, Kept.trans h.k hk, Nat.le_trans h.sz hk.size, h.bw⟩
theorem OwnL.down {W : World} {a b : Nat} {v : Value} {l : List Int} (h : OwnL W b v l) (hab : a ≤ b) : OwnL W a v l := ⟨h.1, ownsRow_base h.2 hab⟩
theorem StepS.grey {w6 : World} {g6 : Option Addr} {c6 : Nat} {l : List Int} (h : StepS w base ao cap zs at' ga ba gc bc gs bs wr) (hk : Kept wr w6) (ho : OwnL w6 wr.heap.size (.slice g6 l.length c6) l) :
    StepS w base ao cap zs at' g6 ba c6 bc l bs (w6.setCell ⟨w.heap.size + 1, 1, none⟩ (.slice g6 l.length c6)) ∧ ∀ j, (Value.slice g6 l.length c6).ownBlock = some j → w.heap.size + 3 ≤ j := by
  have h6 := h.kept hk
  have hsz := h.sz
  have hbw := h.bw
  have hfr : ∀ j, (Value.slice g6 l.length c6).ownBlock = some j → w.heap.size + 3 ≤ j := fun j hj => by have := (ho.2.lt j hj).1; omega
  refine ⟨⟨h6.s.other (by simp) _, ?_, h6.z.other (by simp) _, ?_, ?_, fun j hj e => ?_, fun j hj => .inr (hfr j hj), h.ob, h6.k.set (by simp) _, by simpa using h6.sz, h.bw⟩, hfr⟩
  · have := h6.m.set 1 (.slice g6 l.length c6)
    simpa using this
  · exact (ho.down (by omega)).far (fun j hj => by have := hfr j hj; simp; omega)
  · exact h6.b.far (fun j hj => by have := h6.ob j hj; simp; omega)
  · have h1 := (ho.2.lt j hj).1
    have h2 := (h.b.2.lt j e).2
    omega
theorem StepS.black {w6 : World} {g6 : Option Addr} {c6 : Nat} {l : List Int} (h : StepS w base ao cap zs at' ga ba gc bc gs bs wr) (hk : Kept wr w6) (ho : OwnL w6 wr.heap.size (.slice g6 l.length c6) l) :
    StepS w base ao cap zs at' ga g6 gc c6 gs l (w6.setCell ⟨w.heap.size + 1, 2, none⟩ (.slice g6 l.length c6)) := by
  have h6 := h.kept hk
  have hsz := h.sz
  have hbw := h.bw
  have hfr : ∀ j, (Value.slice g6 l.length c6).ownBlock = some j → w.heap.size + 3 ≤ j := fun j hj => by have := (ho.2.lt j hj).1; omega
  refine ⟨h6.s.other (by simp) _, ?_, h6.z.other (by simp) _, ?_, ?_, fun j hj e => ?_, h.og, fun j hj => .inr (hfr j hj), h6.k.set (by simp) _, by simpa using h6.sz, h.bw⟩
  · have := h6.m.set 2 (.slice g6 l.length c6)
    simpa using this
  · exact h6.g.far (fun j hj => by have := h6.og j hj; simp; omega)
  · exact (ho.down (by omega)).far (fun j hj => by have := hfr j hj; simp; omega)
  · have h1 := (ho.2.lt j e).1
    have h2 := (h.g.2.lt j hj).2
    omega
theorem StepS.shade {w5 : World} {g6 : Option Addr} {c6 : Nat} {l : List Int} (h : StepS w base ao cap zs at' ga ba gc bc gs bs wr) (hfr : ∀ j, (Value.slice ga gs.length gc).ownBlock = some j → w.heap.size + 3 ≤ j)
    (ho1 : OwnL w5 base (.slice g6 l.length c6) l) (ho2 : OwnL w5 base (.slice ba bs.length bc) bs) (ho3 : ∀ j, (Value.slice g6 l.length c6).ownBlock = some j → (Value.slice ba bs.length bc).ownBlock ≠ some j)
    (hgr : wr.grownBy w5 (Value.slice ga gs.length gc).ownBlock) (hat : ∀ j, (Value.slice g6 l.length c6).ownBlock = some j → (Value.slice ga gs.length gc).ownBlock = some j ∨ wr.heap.size ≤ j) :
    StepS w base ao cap zs at' g6 ba c6 bc l bs ((((w5.setCell ⟨w.heap.size + 1, 0, none⟩ (.int .i64 1)).setCell ⟨w.heap.size + 1, 1, none⟩ (.slice g6 l.length c6)).setCell ⟨w.heap.size + 1, 2, none⟩ (.slice ba bs.length bc)).setCell ⟨w.heap.size + 1, 3, none⟩ (.int .i64 at')) ∧ ∀ j, (Value.slice g6 l.length c6).ownBlock = some j → w.heap.size + 3 ≤ j := by
  have hsz := h.sz
  have hne : ∀ B, B < w.heap.size + 3 → some B ≠ (Value.slice ga gs.length gc).ownBlock := fun B hB e => by have := hfr B e.symm; omega
  have hf2 : ∀ j, (Value.slice g6 l.length c6).ownBlock = some j → w.heap.size + 3 ≤ j := fun j hj => by
    rcases hat j hj with h' | h'
    · exact hfr j h'
    · omega
  have hs5 := hgr.size
  refine ⟨⟨(((((h.s.grown hgr (hne _ (by omega))).other (by simp) _).other (by simp) _).other (by simp) _).other (by simp) _), (h.m.grown hgr (hne _ (by omega))).four _ _ _ _, (((((h.z.grown hgr (hne _ (by omega))).other (by simp) _).other (by simp) _).other (by simp) _).other (by simp) _), ?_, ?_, ho3, fun j hj => .inr (hf2 j hj), h.ob, ?_, ?_, h.bw⟩, hf2⟩
  · have hx : ∀ j, (Value.slice g6 l.length c6).ownBlock = some j → j ≠ w.heap.size + 1 := fun j hj => by have := hf2 j hj; omega
    exact (((ho1.far (p := ⟨w.heap.size + 1, 0, none⟩) hx).far (p := ⟨w.heap.size + 1, 1, none⟩) hx).far (p := ⟨w.heap.size + 1, 2, none⟩) hx).far (p := ⟨w.heap.size + 1, 3, none⟩) hx
  · have hx : ∀ j, (Value.slice ba bs.length bc).ownBlock = some j → j ≠ w.heap.size + 1 := fun j hj => by have := h.ob j hj; omega
    exact (((ho2.far (p := ⟨w.heap.size + 1, 0, none⟩) hx).far (p := ⟨w.heap.size + 1, 1, none⟩) hx).far (p := ⟨w.heap.size + 1, 2, none⟩) hx).far (p := ⟨w.heap.size + 1, 3, none⟩) hx
  · have K5 : Kept w w5 := Kept.grownRow h.k hgr (fun k e => by have := hfr k e; omega)
    exact (((K5.set (p := ⟨w.heap.size + 1, 0, none⟩) (by simp) _).set (p := ⟨w.heap.size + 1, 1, none⟩) (by simp) _).set (p := ⟨w.heap.size + 1, 2, none⟩) (by simp) _).set (p := ⟨w.heap.size + 1, 3, none⟩) (by simp) _
  · simp; omega
end
theorem stepL_on {zs l bs : List Int} {k : Nat} (hk : 0 < k) (hl : 0 < l.length) : stepL zs k l bs = stepL zs (k - 1) (shadesL (insL (hz l 0) bs) (l.drop 1) (slotV zs (hz l 0))) (insL (hz l 0) bs) := by
  cases l with
  | nil => simp at hl
  | cons a g =>
    cases k with
    | zero => omega
    | succ k => rfl
theorem Two.on {zs l bs : List Int} (h : Two zs l bs) (hl : 0 < l.length) : Two zs (l.drop 1) (insL (hz l 0) bs) := by
  cases l with
  | nil => simp at hl
  | cons a g => exact h.ink
end Go.Proofs.YtchkijeaaealmaaGreat
