/-
  The iterator over a slab's words (blocksOf): called with whatever loop body it yields the blocks of the slab, in their order, and reads the words as the body leaves them.
  The contracts of chapter 2's functions of the program that go over the blocks of a slab by the iterator and write nothing: SlabOk and those about it.
  The contracts of chapter 2's functions of the program that read alone: KindAt, SizeAt, Room, firstFree, freeAbout, Blocks.
-/
import Derived.RangeFuncNested
import Derived.RangeFuncBound
import Derived.RangeFuncCalls
import Derived.RangeFuncLeaves
import Derived.Shelf.Abstract
import Derived.Shelf.RegionOpen
import Derived.WalkKit
import Derived.OwnWalkIn
import Derived.TacticsInMore
import Derived.LoopNIn
import Derived.LoopIn
import Derived.Maps.AppendAt
import Derived.Test.YtgempjjnfpmndaaGreatDoorSlabI
namespace Go.Proofs.YtgempjjnfpmndaaGreatDoor
open Go.RowKit Go.Shelf
attribute [local go_sem] Oper.semAt_some

/-- What a round keeps that goes on: every block of cells but those of the caller's own variables (X), and rows of integers that were laid from nI on. -/
def KeepX (X : Nat → Prop) (nI : Nat) (W W' : World) : Prop := W.heap.size ≤ W'.heap.size ∧ ∀ k o, W.heap[k]? = some o → o.isCells = true → ¬ X k → ¬ (nI ≤ k ∧ ∃ cs fr, o = .cells cs 3 fr) → W'.heap[k]? = some o
theorem KeepX.t {X : Nat → Prop} {nI : Nat} {A B C : World} (h : KeepX X nI A B) (k : KeepX X nI B C) : KeepX X nI A C := ⟨Nat.le_trans h.1 k.1, fun j o e c x i => k.2 j o (h.2 j o e c x i) c x i⟩
theorem KeepX.b {X : Nat → Prop} {nI : Nat} (W : World) (l : Nat) (o o' : Obj) (h : W.heap[l]? = some o) (h1 : o.isCells = false) : KeepX X nI W (W.putObj l o') :=
  ⟨by simp, fun k q e c _ _ => by
    by_cases hkl : k = l
    · subst hkl; rw [h] at e; cases e; rw [h1] at c; cases c
    · rw [World.putObj_heap_other hkl]; exact e⟩
theorem KeepX.of {X : Nat → Prop} {nI : Nat} {W W' : World} (h : Kept W W') : KeepX X nI W W' := ⟨h.size, fun k _ e _ _ _ => (h.block k (Array.getElem?_eq_some_iff.1 e).1).trans e⟩
theorem KeepX.cell {X : Nat → Prop} {nI : Nat} {W W' : World} (h : KeepX X nI W W') {a : Addr} {v : Value} (hc : W.cell? a = some v) (hx : ¬ X a.block) (hi : a.block < nI) : W'.cell? a = some v := by
  obtain ⟨o, ho, hi'⟩ := cells_of_cell hc
  rw [World.cell?_of_block (w := W) ((h.2 _ _ ho hi' hx (fun x => by omega)).trans ho.symm)]
  exact hc
theorem KeepX.ints {X : Nat → Prop} {nI : Nat} {W W' : World} (h : KeepX X nI W W') {ao : Option Addr} {zs : List Int} (hI : Ints W ao zs) (hx : ∀ a, zs ≠ [] → ao = some a → ¬ X a.block ∧ a.block < nI) : Ints W' ao zs := by
  refine ⟨hI.1, ?_⟩
  rcases hI.2 with e | ⟨b, off, e, hc⟩
  · exact .inl e
  · exact .inr ⟨b, off, e, fun j hj => h.cell (hc j hj) (by have := (hx _ (by intro h; rw [h] at hj; simp at hj) e).1; exact this) (by have := (hx _ (by intro h; rw [h] at hj; simp at hj) e).2; exact this)⟩
theorem KeepX.setCell {X : Nat → Prop} {nI : Nat} {W : World} {p : Addr} (hp : X p.block) (v : Value) : KeepX X nI W (W.setCell p v) :=
  ⟨by simp [World.setCell], fun k _ e _ x _ => by rw [Below.heap_setCell W p v k (fun h => x (by rw [h]; exact hp))]; exact e⟩

theorem KeepX.set3 {X : Nat → Prop} {nI : Nat} {W : World} {B : Nat} (hp : X B) (a b c : Value) : KeepX X nI W (((W.setCell ⟨B, 0, none⟩ a).setCell ⟨B, 1, none⟩ b).setCell ⟨B, 2, none⟩ c) :=
  ((KeepX.setCell (p := ⟨B, 0, none⟩) hp a).t (KeepX.setCell (p := ⟨B, 1, none⟩) hp b)).t (KeepX.setCell (p := ⟨B, 2, none⟩) hp c)
theorem others3 {W : World} {B : Nat} (a b c : Value) : KeepsOthers W (((W.setCell ⟨B, 0, none⟩ a).setCell ⟨B, 1, none⟩ b).setCell ⟨B, 2, none⟩ c) :=
  ((KeepsOthers.setCell _ _ _).trans (KeepsOthers.setCell _ _ _)).trans (KeepsOthers.setCell _ _ _)
theorem below3 {n : Nat} {w W : World} {B : Nat} (h : Below n w W) (hB : n ≤ B) (a b c : Value) : Below n w (((W.setCell ⟨B, 0, none⟩ a).setCell ⟨B, 1, none⟩ b).setCell ⟨B, 2, none⟩ c) :=
  ((h.setCell (p := ⟨B, 0, none⟩) hB a).setCell (p := ⟨B, 1, none⟩) hB b).setCell (p := ⟨B, 2, none⟩) hB c

set_option maxRecDepth 100000 in
set_option maxHeartbeats 2000000 in
theorem blocksOf1_in (n : Nat) (hn : 1 ≤ n) (l Bs B0 nX nI : Nat) (X : Nat → Prop) (ao : Option Addr) (cap : Nat) (zs : List Int) (hL : zs.length * 8 ≤ 140737488351232) (hXa : ∀ a, zs ≠ [] → ao = some a → ¬ X a.block ∧ a.block < nI) (hXb : ¬ X Bs) (hBn : Bs < nI) (hXn : ∀ k, X k → k < nX)
    (J Jx : List (BkOf zs.length) → World → Prop) (hA : AbidesFrom B0 J)
    (hY : ∀ pre x W, J pre W → pre.length < (blocks zs).length → YieldAt Fence.wide (n - 1) Tryz.prog l #[bkV (x.1.at' : Nat) (x.1.size : Nat) (x.1.kind : Nat)] W fun e W' =>
      (e = .returned (.bool true) ∧ J (pre ++ [x]) W' ∧ KeepX X nI W W') ∨ (e = .returned (.bool false) ∧ Jx (pre ++ [x]) W'))
    (W : World) (hBs : W.cell? ⟨Bs, 0, none⟩ = some (.slice ao zs.length cap)) (hI : Ints W ao zs) (h0 : J [] W) (hnX : nX ≤ W.heap.size) :
    CallsIn Fence.wide n Tryz.prog 181 #[.func (.yield l) #[] #[], .pointer (some ⟨Bs, 0, none⟩)] W fun e W' => (∃ v, e = .returned v) ∧
      ((∃ ys, ys = blocks zs ∧ J ys W') ∨ (∃ pre, pre <+: blocks zs ∧ Jx pre W')) := by
  refine callsIn_of_wp Tryz.func181 rfl trivial ?_ rfl
  simp only [Tryz.ntmps181, List.size_toArray, List.length_cons, List.length_nil, Nat.reduceAdd, Nat.reduceSub, Array.replicate_succ, Array.replicate_zero, List.push_toArray, List.append_toArray, List.nil_append, List.cons_append]
  gi_wp2
  gi_loopw [3] (fun i wr => ∃ (k : Nat) (pre : List (BkOf zs.length)), i = .int .i64 k ∧ k ≤ zs.length ∧ pre ++ blks zs k = blocks zs ∧ J pre wr ∧ wr.cell? ⟨Bs, 0, none⟩ = some (.slice ao zs.length cap) ∧ Ints wr ao zs ∧ nX ≤ wr.heap.size)
    (fun i _ => zs.length - (intOf i).toNat)
  case atStart => exact ⟨0, [], rfl, Nat.zero_le _, rfl, h0, hBs, hI, hnX⟩
  case round =>
    obtain ⟨k, pre, rfl, hk, hpre, hJ, hBw, hIw, hnw⟩ := hrel
    clear hBs hI h0 hnX
    by_cases hlt' : k < zs.length
    · by_cases hg : Good zs k
      · have hle := hg.le
        have hs2 := hg.sz2
        gi_wp2_with (refine ⟨trivial, ?_⟩; gi_at_call 39; refine (callsIn_wide.2 (readBlock_good _ ao cap zs k hIw hg hL)).mono ?_; rintro e w1 ⟨rfl, hk1⟩; have hkA := hk1.alloc (.cells #[.int .i64 k, .int .i64 (sz zs k), .int .i64 (kd zs k)] 74); obtain ⟨fn, tmps, assign, body, hy, hR⟩ := hY pre ⟨⟨k, sz zs k, kd zs k⟩, hg.sz2, hg.le, hg.kd5⟩ _ (hA _ _ _ none hJ hkA.grown (fun _ h => by cases h)) (by rw [← hpre, blks_yes hg]; simp); dsimp only at hy)
        refine hR.mono ?_
        rintro e W3 (⟨rfl, hJ3, hk3⟩ | ⟨rfl, hJx3⟩)
        · have hnew := World.alloc_heap_new w1 (.cells #[.int .i64 k, .int .i64 (sz zs k), .int .i64 (kd zs k)] 74)
          have hb3 := hk3.2 _ _ hnew rfl (fun h => by have := hXn _ h; have := hk1.size; omega) (fun h => by obtain ⟨_, cs, fr, e⟩ := h; simp at e)
          have c0 : W3.cell? ⟨w1.heap.size, 0, none⟩ = some (.int .i64 k) := by simp [World.cell?, hb3]
          have c1 : W3.cell? ⟨w1.heap.size, 1, none⟩ = some (.int .i64 (sz zs k)) := by simp [World.cell?, hb3]
          have c2 : W3.cell? ⟨w1.heap.size, 2, none⟩ = some (.int .i64 (kd zs k)) := by simp [World.cell?, hb3]
          have hcB : W3.cell? ⟨Bs, 0, none⟩ = some (.slice ao zs.length cap) := hk3.cell ((hkA.cell (p := ⟨Bs, 0, none⟩) (World.block_lt_of_cell? _ _ hBw)).trans hBw) hXb hBn
          have hI3 := hk3.ints (hIw.kept hkA) hXa
          have hn3 : nX ≤ W3.heap.size := Nat.le_trans hnw (Nat.le_trans hkA.size hk3.1)
          clear hR hy hb3 hnew hY
          gi_wp2_with (refine ⟨trivial, ?_⟩; gi_at_call 91; refine (callsIn_wide.2 (end_ok _ _ _ _ (by omega) (by omega))).mono ?_; rintro e w4 ⟨rfl, rfl⟩)
          go_roundw
          case rel => exact ⟨k + sz zs k, _, by go_num, hle, by rw [← hpre, blks_yes hg]; simp, hA _ _ _ none hJ3 (World.grownBy_alloc _ _ _) (fun _ h => by cases h), (Kept.alloc (Below.refl _ _) _).cell (p := ⟨Bs, 0, none⟩) (World.block_lt_of_cell? _ _ hcB) |>.trans hcB, hI3.kept (Kept.alloc (Below.refl _ _) _), by simp; omega⟩
          case measure => simp [intOf]; omega
        · gi_wp2
          refine bodyPost_ret (results_none rfl _ _ _) rfl ?_
          exact ⟨⟨_, rfl⟩, .inr ⟨_, by rw [← hpre, blks_yes hg]; exact ⟨blks zs (k + sz zs k), by simp⟩, hJx3⟩⟩
      · gi_wp2_with (refine ⟨trivial, ?_⟩; gi_at_call 39; refine (callsIn_wide.2 (readBlock_bad _ ao cap zs k hIw hlt' hg hL)).mono ?_; rintro e w1 ⟨rfl, hk1⟩)
        refine ⟨fun _ _ => trivial, ?_⟩
        gi_wp2
        refine bodyPost_ret (results_none rfl _ _ _) rfl ?_
        exact ⟨⟨_, rfl⟩, .inl ⟨pre, by rw [← hpre, blks_no hg]; simp, hA _ _ _ none hJ (hk1.alloc _).grown (fun _ h => by cases h)⟩⟩
    · obtain rfl : k = zs.length := by omega
      gi_wp2
      go_end0
      exact ⟨⟨_, rfl⟩, .inl ⟨pre, by rw [← hpre, blks_no (fun h => hlt' h.lt)]; simp, hJ⟩⟩

end Go.Proofs.YtgempjjnfpmndaaGreatDoor
namespace Go.Proofs.YtgempjjnfpmndaaGreatDoor
open Go.RowKit Go.Shelf
attribute [local go_sem] Oper.semAt_some

theorem Cells.own {β : Type} (B : Nat) (t : TypeId) (cs : β → Array Value) : Own (fun s W => Cells W B t (cs s)) := fun _ _ _ _ h hg hr => (grownBy_keeps_cells hg hr h rfl).trans h
theorem Cells.keptX {X : Nat → Prop} {nI : Nat} {W W' : World} {B : Nat} {t : TypeId} {cs : Array Value} (h : Cells W B t cs) (hk : KeepX X nI W W') (hx : ¬ X B) (hB : B < nI) : Cells W' B t cs := hk.2 _ _ h rfl hx (fun x => by omega)

theorem Cells.put {W : World} {B D : Nat} {t : TypeId} {cs : Array Value} {o : Obj} (h : Cells W B t cs) (hK : W.heap[D]? = some o) (ho : o.isCells = false) (o' : Obj) : Cells (W.putObj D o') B t cs := by
  by_cases e : B = D
  · subst e
    rw [show W.heap[B]? = _ from h] at hK; cases hK; cases ho
  · exact (World.putObj_heap_other e).trans h

theorem blocksOf_ok (ao : Option Addr) (len cap : Nat) (w : World) :
    Calls Tryz.prog 145 #[.slice ao len cap] w fun e w' => e = .returned (.func (.func 181) #[] #[.pointer (some ⟨w.heap.size, 0, none⟩)]) ∧ w' = w.alloc (.cells #[.slice ao len cap] 26) := by
  go_enter Tryz.func145, Tryz.ntmps145
  go_wp2
  go_ret
  exact ⟨rfl, rfl⟩

theorem blocksOf_stops (n : Nat) (hn : 1 ≤ n) (Bs nX nI : Nat) (X : Nat → Prop) (ao : Option Addr) (cap : Nat) (zs : List Int) (hL : zs.length * 8 ≤ 140737488351232) (hXa : ∀ a, zs ≠ [] → ao = some a → ¬ X a.block ∧ a.block < nI) (hXb : ¬ X Bs) (hBn : Bs < nI) (hXn : ∀ k, X k → k < nX)
    (w : World) (hnX : nX ≤ w.heap.size) (hB : Cells w Bs 26 #[.slice ao zs.length cap]) (hI : Ints w ao zs) :
    SeqStopsK Fence.wide n Tryz.prog 181 #[.pointer (some ⟨Bs, 0, none⟩)] (fun x : BkOf zs.length => #[bkV (x.1.at' : Nat) (x.1.size : Nat) (x.1.kind : Nat)]) (KeepX X nI) (fun ys => ys = blocks zs) (fun pre => pre <+: blocks zs) (blocks zs).length w := fun l J Jx W hW hA _ hY h0 =>
  blocksOf1_in n hn l Bs W.heap.size nX nI X ao cap zs hL hXa hXb hBn hXn J Jx hA hY W ((hB.kept hW).cell 0) (hI.kept hW) h0 (Nat.le_trans hnX hW.size)


set_option maxRecDepth 100000 in
set_option maxHeartbeats 2000000 in
theorem assign_b {p d r : Nat} {pos pos' : String} {aft : Array Edge} {tmps : Array Value} {l m : Nat} {W : World} (hp : p < tmps.size) (hd : d < tmps.size) (hpd : p ≠ d) (x y z : Int) {K : Act → World → Prop}
    (hK : K { tmps := (tmps.setIfInBounds p (bkV x y z)).setIfInBounds d (.pointer (some ⟨W.heap.size, 0, none⟩)), defers := [] } (W.alloc (.cells (bkC x y z) 74))) :
    (Code.region r #[{ dst := some d, op := Op.alloc 74, type := 0, pos := pos, after := #[], guard := none }, { dst := none, op := Op.store 74 (Operand.tmp d) (Operand.tmp p), type := 0, pos := pos', after := aft, guard := none }] false).wpIn
      (Fence.wide.inRound l) m Tryz.prog (Exit.then K (fun _ _ _ => False)) { tmps := tmps.setIfInBounds p (bkV x y z), defers := [] } W := by
  have hget : ((tmps.setIfInBounds p (bkV x y z)).setIfInBounds d (.pointer (some ⟨W.heap.size, 0, none⟩)))[p]'(by simpa using hp) = bkV x y z := by
    rw [Array.getElem_setIfInBounds, Array.getElem_setIfInBounds] <;> simp [hp, Ne.symm hpd]
  gi_wp2
  exact hK

/-- 'for b := range blocksOf(words)', whatever its body: the body is walked once, at a block of its own for b. -/
theorem range_blocks {g : Operand} {p d r Bs nX : Nat} {pos pos' : String} {aft : Array Edge} {body : Code} {Q : Exit → Act → World → Prop} {a : Act} {w : World} {n : Nat} {X : Nat → Prop} {ao : Option Addr} {cap : Nat} {zs : List Int}
    (hn : 2 ≤ n) (hg : a.eval g = .func (.func 181) #[] #[.pointer (some ⟨Bs, 0, none⟩)]) (hp : p < a.tmps.size) (hd : d < a.tmps.size) (hpd : p ≠ d)
    (hL : zs.length * 8 ≤ 140737488351232) {w0 : World} (hI : Ints w0 ao zs) (hk0 : Kept w0 w) (hX0 : ∀ k, X k → w0.heap.size ≤ k) (hXb : ∀ k, X k → k ≠ Bs) (hXn : ∀ k, X k → k < nX) (hnX : nX ≤ w.heap.size) (hB : Cells w Bs 26 #[.slice ao zs.length cap])
    (I : List (BkOf zs.length) → World → Prop) (Ix : Code → List (BkOf zs.length) → World → Prop) (hOI : OwnFrom w.heap.size I) (hOx : ∀ c, OwnFrom w.heap.size (Ix c)) (h0 : I [] w)
    (hbody : ∀ (l : Nat) (pre : List (BkOf zs.length)) (x : BkOf zs.length) (W : World) (Bx : Nat), w.heap.size ≤ Bx → Cells W Bx 74 (bkC (x.1.at' : Nat) (x.1.size : Nat) (x.1.kind : Nat)) → I pre W → pre.length < (blocks zs).length →
      body.wpIn (Fence.wide.inRound l) (n - 1 - 1) Tryz.prog (ownPostG w.heap.size (KeepX X w.heap.size) I Ix (pre ++ [x]) W) { tmps := (a.tmps.setIfInBounds p (bkV (x.1.at' : Nat) (x.1.size : Nat) (x.1.kind : Nat))).setIfInBounds d (.pointer (some ⟨Bx, 0, none⟩)), defers := [] } W)
    (hdone : ∀ (D : Nat) (W : World), w.heap.size ≤ D → I (blocks zs) W → W.heap[D]? = some (.deferred (some [])) → Q .normal { a with defers := { target := .collected D, args := #[] } :: a.defers } W)
    (hstop : ∀ (D : Nat) (c : Code) (pre : List (BkOf zs.length)) (W : World), w.heap.size ≤ D → pre <+: blocks zs → Ix c pre W → W.heap[D]? = some (.deferred (some [])) → c.wpIn Fence.wide n Tryz.prog Q { a with defers := { target := .collected D, args := #[] } :: a.defers } W) :
    (Code.rangeFunc g #[p] (Code.region r #[{ dst := some d, op := Op.alloc 74, type := 0, pos := pos, after := #[], guard := none }, { dst := none, op := Op.store 74 (Operand.tmp d) (Operand.tmp p), type := 0, pos := pos', after := aft, guard := none }] false) body).wpIn Fence.wide n Tryz.prog Q a w := by
  refine wpIn_rangeFunc_ownH rfl (by omega) hg trivial (enters_of Tryz.func181 (by kernel_rfl) rfl)
    (blocksOf_stops (n - 1) (by omega) Bs nX w.heap.size X ao cap zs hL (fun a h e => ⟨fun x => by have := hX0 _ x; have := hI.lt h e; omega, by have := hI.lt h e; have := hk0.size; omega⟩) (fun x => hXb _ x rfl) hB.lt hXn w hnX hB (hI.kept hk0)) KeepX.t (fun W l o o' _ h h1 _ => KeepX.b W l o o' h h1) (Below.refl _ _) (fun _ => rfl)
    (fun pre W => I pre W ∧ w.heap.size ≤ W.heap.size) Ix (fun s Y Z row hs hg hr => ⟨hOI s Y Z row hs.1 hg hr, Nat.le_trans hs.2 hg.size⟩) hOx ⟨h0, Nat.le_refl _⟩
    (fun x a' W => ∃ Bx, w.heap.size ≤ Bx ∧ Cells W Bx 74 (bkC (x.1.at' : Nat) (x.1.size : Nat) (x.1.kind : Nat)) ∧ a' = { tmps := (a.tmps.setIfInBounds p (bkV (x.1.at' : Nat) (x.1.size : Nat) (x.1.kind : Nat))).setIfInBounds d (.pointer (some ⟨Bx, 0, none⟩)), defers := [] })
    (fun x a' _ Y Z row hs hg hr => by obtain ⟨Bx, h1, h2, h3⟩ := hs; exact ⟨Bx, h1, (Cells.own Bx _ (fun _ : Unit => _)).from w.heap.size () Y Z row h2 hg hr, h3⟩)
    ?assign ?body ?done ?stop
  case assign =>
    intro l pre x W K hi hK
    have hk : Kept W (W.alloc (.cells (bkC (x.1.at' : Nat) (x.1.size : Nat) (x.1.kind : Nat)) 74)) := Kept.alloc (Below.refl _ _) _
    have hz : ∀ v : Value, ((#[p] : Array Tmp).zip #[v]).foldl (fun t (p, v) => t.setIfInBounds p v) a.tmps = a.tmps.setIfInBounds p v := fun v => by simp
    rw [hz]
    refine assign_b hp hd hpd _ _ _ ?_
    exact hK _ _ ((KeepsOthers.alloc _ _).from _) (KeepX.of hk) ⟨hOI _ _ _ none hi.1 hk.grown (fun _ h => by cases h), Nat.le_trans hi.2 hk.size⟩ ⟨W.heap.size, hi.2, Cells.new W _ _, rfl⟩
  case body =>
    rintro l pre x a' W _ _ hi ⟨Bx, h1, h2, rfl⟩ hlt
    refine Code.wpIn_mono (fun e a W' h => ?_) (hbody l pre x W Bx h1 h2 hi.1 hlt)
    cases e
    case normal => exact ⟨h.1, h.2.1, h.2.2, Nat.le_trans hi.2 h.2.1.1⟩
    all_goals exact h
  case done =>
    rintro D ys W hD rfl hi hK
    exact hdone D W hD hi.1 hK
  case stop => exact hstop

set_option maxRecDepth 100000 in
set_option maxHeartbeats 2000000 in
theorem impl_SlabOk_ok (w : World) (ao : Option Addr) (cap : Nat) (zs : List Int) (hI : Ints w ao zs) (hL : zs.length * 8 ≤ 140737488351232) :
    Calls Tryz.prog 125 #[.agg #[.slice ao zs.length cap]] w fun e w' => e = .returned (.bool (slabOk zs)) ∧ Kept w w' := by
  by_cases hlong : 2000 < zs.length
  · have hno : slabOk zs = false := by simp [slabOk]; omega
    rw [hno]
    go_enter Tryz.func125, Tryz.ntmps125
    go_wp2
    go_ret
    exact ⟨rfl, Kept.alloc (Below.refl _ _) _⟩
  · refine (callsIn_wide (n := 3)).1 ?_
    refine callsIn_of_wp_marks Tryz.func125 rfl trivial ?_ rfl
    simp only [Tryz.ntmps125, List.size_toArray, List.length_cons, List.length_nil, Nat.reduceAdd, Nat.reduceSub, Array.replicate_succ, Array.replicate_zero, List.push_toArray, List.append_toArray, List.nil_append, List.cons_append]
    gi_wp2_with (refine ⟨trivial, ?_⟩; gi_at_call 145; refine (callsIn_wide.2 (blocksOf_ok _ _ _ _)).mono ?_; rintro e w' ⟨rfl, rfl⟩)
    have hlen : zs.length ≤ 2000 := by omega
    have hk0 : Kept w (((w.alloc (.cells #[.slice ao zs.length cap] 39)).alloc (.cells #[.int .i64 0] 3)).alloc (.cells #[.slice ao zs.length cap] 26)) := ((Kept.alloc (Below.refl _ _) _).alloc _).alloc _
    have bS := ((Cells.new w 39 #[.slice ao zs.length cap]).alloc (.cells #[.int .i64 0] 3)).alloc (.cells #[.slice ao zs.length cap] 26)
    have bE := (Cells.new (w.alloc (.cells #[.slice ao zs.length cap] 39)) 3 #[.int .i64 0]).alloc (.cells #[.slice ao zs.length cap] 26)
    have bB := Cells.new ((w.alloc (.cells #[.slice ao zs.length cap] 39)).alloc (.cells #[.int .i64 0] 3)) 26 #[.slice ao zs.length cap]
    have hsz : (((w.alloc (.cells #[.slice ao zs.length cap] 39)).alloc (.cells #[.int .i64 0] 3)).alloc (.cells #[.slice ao zs.length cap] 26)).heap.size = w.heap.size + 3 := by simp
    simp only [World.size_alloc] at bE bB
    obtain ⟨W0, hW0⟩ : ∃ W0, ((w.alloc (.cells #[.slice ao zs.length cap] 39)).alloc (.cells #[.int .i64 0] 3)).alloc (.cells #[.slice ao zs.length cap] 26) = W0 := ⟨_, rfl⟩
    rw [hW0] at bS bE bB hk0 hsz ⊢
    clear hW0
    refine range_blocks (X := fun k => k = w.heap.size + 1) (nX := w.heap.size + 2) (zs := zs) (ao := ao) (cap := cap) (by omega) rfl (by simp) (by simp) (by decide) hL hI hk0 (by intro k h; omega) (by intro k h; omega) (by intro k h; omega) (by omega) bB
      (fun pre W => (Cells W (w.heap.size + 1) 3 #[.int .i64 (endOf 0 pre : Nat)] ∧ Cells W w.heap.size 39 #[.slice ao zs.length cap]) ∧ Below w.heap.size w W)
      (fun _ _ _ => False)
      (OwnFrom.and (OwnFrom.and (Own.from (Cells.own _ _ (fun pre => #[.int .i64 (endOf 0 pre : Nat)])) _) (Own.from (Cells.own _ _ _) _)) (ownFrom_below (Nat.le_refl _) (by omega)))
      (fun _ _ _ _ _ hs _ _ => hs)
      ⟨⟨bE, bS⟩, hk0⟩ ?body ?done ?stop
    case body =>
      rintro l pre x W Bx hBx bX ⟨⟨bE1, bS1⟩, hB1⟩ hlt
      have hx := x.2
      have c0 := bX.cell 0
      have c1 := bX.cell 1
      have c2 := bX.cell 2
      have cE := bE1.cell 0
      have fE := bE1.frozen 0
      have lE := bE1.lt
      simp only [List.setIfInBounds_toArray, List.set_cons_succ, List.set_cons_zero]
      gi_wp2_with (refine ⟨trivial, ?_⟩; gi_at_call 91; refine (CallsIn.inRound l (callsIn_wide.2 (end_ok _ _ _ _ (by omega) (by omega)))).mono ?_; rintro e w4 ⟨rfl, rfl⟩)
      refine ⟨((KeepsOthers.setCell _ _ _).trans (KeepsOthers.alloc _ _)).from _, (KeepX.setCell (X := fun k => k = w.heap.size + 1) (p := ⟨w.heap.size + 1, 0, none⟩) rfl _).t (KeepX.of (Kept.alloc (Below.refl _ _) _)), ⟨?_, (bS1.other (by simp) _).alloc _⟩, (hB1.setCell (p := ⟨w.heap.size + 1, 0, none⟩) (by simp) _).alloc (by have := hB1.size; simpa [World.setCell] using this) _⟩
      rw [endOf_snoc]
      exact (bE1.set1 _).alloc _
    case done =>
      rintro D W hD ⟨⟨bE1, bS1⟩, hB1⟩ hK
      have cE := bE1.cell 0
      have cS := bS1.cell 0
      gi_wp2
      refine ⟨by simp, .inl ⟨_, _, rfl, run_takeDeferred hK, ?_⟩⟩
      refine ⟨_, results_tmp rfl _ _ _, ?_, hB1.trans (belowK_b (w := w) (Nat.le_refl _) W D _ _ (by omega) hK rfl rfl)⟩
      rw [show endOf 0 (blocks zs) = stop zs 0 from endOf_blks zs 0]
      have hb : (((stop zs 0 : Nat) : Int) == ((zs.length : Nat) : Int)) = decide (stop zs 0 = zs.length) := by rw [Bool.eq_iff_iff]; simp; omega
      simp [slabOk, hlen, hb]
    case stop =>
      rintro D c pre W _ _ h _
      exact h.elim

end Go.Proofs.YtgempjjnfpmndaaGreatDoor
namespace Go.Proofs.YtgempjjnfpmndaaGreatDoor
open Go.RowKit Go.Shelf
attribute [local go_sem] Oper.semAt_some

theorem blocks_count (zs : List Int) : 2 * (blocks zs).length ≤ zs.length := by
  refine blks_ind zs (P := fun k => k ≤ zs.length → k + 2 * (blks zs k).length ≤ zs.length) (fun k h ih hk => ?_) (fun k h hk => by rw [blks_no h]; simpa using hk) 0 (Nat.zero_le _) |> (fun h => by have : 0 + 2 * (blks zs 0).length ≤ zs.length := h; unfold blocks; omega)
  have := ih h.le
  have := h.sz2
  rw [blks_yes h]
  simp only [List.length_cons]
  omega
theorem slabOk_len {zs : List Int} (h : slabOk zs = true) : zs.length ≤ 2000 := (slabOk_iff.1 h).1
end Go.Proofs.YtgempjjnfpmndaaGreatDoor
