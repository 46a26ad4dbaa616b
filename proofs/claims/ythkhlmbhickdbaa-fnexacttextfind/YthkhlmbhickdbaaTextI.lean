/-
  The iterator runesOf: it yields the text in pieces that follow each other, none of them empty.
-/
import Derived.Test.YthkhlmbhickdbaaSlabU
import Derived.Lib.OthersKept
import Derived.WalkSmall
import Derived.Laws.RangeAny
namespace Go.Proofs.Ythkhlmbhickdbaa
open Go.RowKit Go.Shelf Go.Lib
attribute [local go_sem] Oper.semAt_some

abbrev PieceOf (n : Nat) := {x : Nat × Nat // x.1 < x.2 ∧ x.2 ≤ n}
/-- The pieces lie from 0 to e, one behind the other. -/
inductive Part {n : Nat} : Nat → List (PieceOf n) → Prop
  | nil : Part 0 []
  | snoc {ys : List (PieceOf n)} (x : PieceOf n) : Part x.1.1 ys → Part x.1.2 (ys ++ [x])
theorem Part.len {n e : Nat} {ys : List (PieceOf n)} (h : Part e ys) : ys.length ≤ e := by
  induction h with
  | nil => simp
  | snoc x _ ih => have := x.2; simp; omega
/-- From block B on what walks stays, and all cells but block X's. -/
def KeepR (B X : Nat) (W W' : World) : Prop := W.heap.size ≤ W'.heap.size ∧ ∀ k o, W.heap[k]? = some o → ((o.isCells = true ∧ k ≠ X) ∨ (B ≤ k ∧ o.isWalk = true)) → W'.heap[k]? = some o
theorem KeepR.t {B g : Nat} {X Y Z : World} (h : KeepR B g X Y) (k : KeepR B g Y Z) : KeepR B g X Z := ⟨Nat.le_trans h.1 k.1, fun j o e c => k.2 j o (h.2 j o e c) c⟩
theorem KeepR.b {B g : Nat} (W : World) (l : Nat) (o o' : Obj) (h : W.heap[l]? = some o) (h1 : o.isCells = false) (h2 : o.isWalk = false) : KeepR B g W (W.putObj l o') :=
  ⟨by simp, fun k q e c => by
    by_cases hkl : k = l
    · subst hkl; rw [h] at e; cases e; rw [h1, h2] at c; simp at c
    · rw [World.putObj_heap_other hkl]; exact e⟩
theorem KeepR.of {B g : Nat} {W W' : World} (h : Kept W W') : KeepR B g W W' := ⟨h.size, fun k _ e _ => (h.block k (Array.getElem?_eq_some_iff.1 e).1).trans e⟩
theorem rune_wide (s : ByteArray) (pos : Nat) (h : pos < s.size) : 1 ≤ (Utf8.decode s pos).2 := by
  by_cases ha : (s[pos]'h).toNat < 128
  · rw [decode_ascii s pos h ha]; simp
  · exact (decode_high s pos h (by omega)).2
theorem iterAt_grown (w : World) (k : Nat) (s : ByteArray) (pos : Nat) : w.grownBy (w.iterAt k s pos) (some k) := ⟨rfl, rfl, rfl, by rw [iterAt_size]; exact Nat.le_refl _, fun i _ hi => iterAt_other w k i s pos (fun e => hi (by rw [e]))⟩
def runeV (t : ByteArray) (x : PieceOf t.size) : Array Value := #[.int .i64 (x.1.1 : Nat), .string (t.extract x.1.1 x.1.2)]

theorem runesOf_ok (t : ByteArray) (w : World) :
    Calls Try.prog 60 #[.string t] w fun e w' => e = .returned (.func (.func 95) #[] #[.pointer (some ⟨w.heap.size, 0, none⟩)]) ∧ w' = w.alloc (.cells #[.string t] 9) := by
  go_enter Try.func60, Try.ntmps60
  go_wp2
  go_ret
  exact ⟨rfl, rfl⟩
set_option maxHeartbeats 2000000 in
set_option maxRecDepth 100000 in
theorem runesOf1_in (n : Nat) (hn : 1 ≤ n) (l Bs B X B0 : Nat) (t : ByteArray) (hB0 : B ≤ B0) (hXs : Bs ≠ X)
    (J Jx : List (PieceOf t.size) → World → Prop) (hA : AbidesFrom B0 J)
    (hY : ∀ pre x W, J pre W → pre.length < t.size → YieldAt Fence.wide (n - 1) Try.prog l (runeV t x) W fun e W' =>
      (e = .returned (.bool true) ∧ J (pre ++ [x]) W' ∧ KeepR B X W W') ∨ (e = .returned (.bool false) ∧ Jx (pre ++ [x]) W'))
    (W : World) (hW : W.heap.size = B0) (hBs : W.cell? ⟨Bs, 0, none⟩ = some (.string t)) (h0 : J [] W) :
    CallsIn Fence.wide n Try.prog 95 #[.func (.yield l) #[] #[], .pointer (some ⟨Bs, 0, none⟩)] W fun e W' => (∃ v, e = .returned v) ∧
      ((∃ ys, Part t.size ys ∧ J ys W') ∨ (∃ pre, (∃ e, e ≤ t.size ∧ Part e pre) ∧ Jx pre W')) := by
  have hrs := fun w => run_range_string (P := Try.prog) w 9 t Try.underlying9
  refine callsIn_of_wp Try.func95 rfl trivial ?_ rfl
  simp only [Try.ntmps95, List.size_toArray, List.length_cons, List.length_nil, Nat.reduceAdd, Nat.reduceSub, Array.replicate_succ, Array.replicate_zero, List.push_toArray, List.append_toArray, List.nil_append, List.cons_append]
  gi_wp2
  clear hrs
  gi_loopw [3] (fun i wr => ∃ (a pos : Nat) (pre : List (PieceOf t.size)), i = .int .i64 a ∧ Part a pre ∧ (a < pos ∨ (a = 0 ∧ pos = 0)) ∧ (a < t.size ∨ a = 0) ∧ J pre wr ∧ wr.heap[B0]? = some (.stringIter t pos) ∧ wr.cell? ⟨Bs, 0, none⟩ = some (.string t))
    (fun _ wr => t.size - wr.iterPos B0)
  case atStart =>
    subst hW
    exact ⟨0, 0, [], rfl, Part.nil, .inr ⟨rfl, rfl⟩, .inr rfl, hA _ _ _ none h0 (World.grownBy_alloc _ _ _) (fun _ h => by cases h), World.iter_heap _ _ _, ((Kept.alloc (Below.refl W.heap.size W) (.stringIter t 0)).cell (p := ⟨Bs, 0, none⟩) (World.block_lt_of_cell? _ _ hBs)).trans hBs⟩
  case round =>
    obtain ⟨a, pos, pre, rfl, hP, hap, has, hJ, hit, hcs⟩ := hrel
    clear hBs h0
    have hbB : Bs ≠ B0 := by
      rintro rfl
      have := hcs
      simp [World.cell?, hit] at this
    by_cases hp : pos < t.size
    · have hnx := fun ty => run_next_any_at (P := Try.prog) wr B0 t pos ty hit hp
      obtain ⟨wd, hwd⟩ : ∃ wd, (Utf8.decode t pos).2 = wd := ⟨_, rfl⟩
      have hw1 := rune_wide t pos hp
      rw [hwd] at hnx hw1
      have hJ1 := hA _ _ _ (some B0) hJ (iterAt_grown wr B0 t (pos + wd)) (fun r e => by cases e; exact ⟨Nat.le_refl _, _, hit, rfl⟩)
      have hi1 := iterAt_heap wr B0 t pos (pos + wd) hit
      have hc1 : (wr.iterAt B0 t (pos + wd)).cell? ⟨Bs, 0, none⟩ = some (.string t) := (World.cell?_of_block (w := wr) (iterAt_other wr B0 Bs t (pos + wd) hbB)).trans hcs
      obtain ⟨W1, hW1⟩ : ∃ W1, wr.iterAt B0 t (pos + wd) = W1 := ⟨_, rfl⟩
      have hip : wr.iterPos B0 = pos := iterPos_of hit
      rw [hW1] at hnx hJ1 hi1 hc1
      obtain ⟨rn, hrn⟩ : ∃ rn : Int, ((Utf8.decode t pos).1 : Int) = rn := ⟨_, rfl⟩
      rw [hrn] at hnx
      clear hit hcs hJ hwd hW1 hrn
      by_cases hlt : a < pos
      · have e1 : (pos : Int) > (a : Int) := by omega
        have q1 : (a : Int) ≤ (pos : Int) := by omega
        have q2 : (pos : Int) ≤ (t.size : Int) := by omega
        obtain ⟨fn, tmps, assign, body, hy, hR⟩ := hY pre ⟨(a, pos), hlt, by simp only; omega⟩ W1 hJ1 (by have := hP.len; omega)
        unfold runeV at hy
        dsimp only at hy
        gi_wp2
        refine hR.mono ?_
        rintro e W3 (⟨rfl, hJ3, hk3⟩ | ⟨rfl, hJx3⟩)
        · have hi3 := hk3.2 _ _ hi1 (.inr ⟨hB0, rfl⟩)
          have hc3 : W3.cell? ⟨Bs, 0, none⟩ = some (.string t) := by
            obtain ⟨o, ho, hi'⟩ := cells_of_cell hc1
            rw [World.cell?_of_block (w := W1) ((hk3.2 _ _ ho (.inl ⟨hi', hXs⟩)).trans ho.symm)]
            exact hc1
          clear hR hy hY hnx hJ1 hi1 hc1
          gi_wp2
          go_roundw
          case rel => exact ⟨pos, pos + wd, _, rfl, Part.snoc ⟨(a, pos), hlt, by simp only; omega⟩ hP, .inl (by omega), .inl hp, hJ3, hi3, hc3⟩
          case measure => rw [iterPos_of hi3, hip]; omega
        · clear hR hy hY hnx hJ1 hi1 hc1
          gi_wp2
          refine bodyPost_ret (results_none rfl _ _ _) rfl ?_
          exact ⟨⟨_, rfl⟩, .inr ⟨_, ⟨pos, by omega, Part.snoc ⟨(a, pos), hlt, by simp only; omega⟩ hP⟩, hJx3⟩⟩
      · obtain ⟨rfl, rfl⟩ : a = 0 ∧ pos = 0 := by omega
        gi_wp2
        repeat (refine ⟨fun _ _ => trivial, ?_⟩; gi_wp2)
        go_roundw
        case rel => exact ⟨0, 0 + wd, pre, rfl, hP, .inl (by omega), .inr rfl, hJ1, hi1, hc1⟩
        case measure => rw [iterPos_of hi1, hip]; omega
    · have hnx := fun ty => run_next_end_at (P := Try.prog) wr B0 t pos ty hit hp
      by_cases hlt : a < t.size
      · have e1 : (a : Int) < (t.size : Int) := by omega
        obtain ⟨fn, tmps, assign, body, hy, hR⟩ := hY pre ⟨(a, t.size), hlt, Nat.le_refl _⟩ wr hJ (by have := hP.len; omega)
        unfold runeV at hy
        dsimp only at hy
        gi_wp2
        refine hR.mono ?_
        rintro e W3 (⟨rfl, hJ3, hk3⟩ | ⟨rfl, hJx3⟩)
        · clear hR hy hY hnx hJ
          gi_wp2
          go_end0
          exact ⟨⟨_, rfl⟩, .inl ⟨_, Part.snoc ⟨(a, t.size), hlt, Nat.le_refl _⟩ hP, hJ3⟩⟩
        · clear hR hy hY hnx hJ
          gi_wp2
          go_end0
          exact ⟨⟨_, rfl⟩, .inr ⟨_, ⟨t.size, Nat.le_refl _, Part.snoc ⟨(a, t.size), hlt, Nat.le_refl _⟩ hP⟩, hJx3⟩⟩
      · obtain ⟨rfl, h0⟩ : a = 0 ∧ t.size = 0 := by omega
        have HJ : Hid (J pre wr) := hJ
        have HP : Hid (Part 0 pre) := hP
        clear hY
        gi_wp2
        go_end0
        exact ⟨⟨_, rfl⟩, .inl ⟨pre, HP.out, HJ.out⟩⟩
theorem runesOf_stops (n : Nat) (hn : 1 ≤ n) (Bs X : Nat) (hX : Bs ≠ X) (t : ByteArray) (w : World) (hB : Cells w Bs 9 #[.string t]) :
    SeqStopsK Fence.wide n Try.prog 95 #[.pointer (some ⟨Bs, 0, none⟩)] (runeV t) (KeepR w.heap.size X) (fun ys => Part t.size ys) (fun pre => ∃ e, e ≤ t.size ∧ Part e pre) t.size w := fun l J Jx W hW hA _ hY h0 =>
  runesOf1_in n hn l Bs w.heap.size X W.heap.size t hW.size hX J Jx hA hY W rfl ((hB.kept hW).cell 0) h0
end Go.Proofs.Ythkhlmbhickdbaa
