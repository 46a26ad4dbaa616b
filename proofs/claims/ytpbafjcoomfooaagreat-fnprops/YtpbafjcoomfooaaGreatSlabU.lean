/-
  The contracts of chapter 2's functions of the program that go over the blocks of a slab by the iterator and write nothing: SlabOk and those about it.
-/
import Derived.Test.YtpbafjcoomfooaaGreatSlabT
import Derived.Maps.AppendAt
namespace Go.Proofs.YtpbafjcoomfooaaGreat
open Go.RowKit Go.Shelf
attribute [local go_sem] Oper.semAt_some

theorem Cells.own {β : Type} (B : Nat) (t : TypeId) (cs : β → Array Value) : Own (fun s W => Cells W B t (cs s)) := fun _ _ _ _ h hg hr => (grownBy_keeps_cells hg hr h rfl).trans h
theorem Cells.keptX {X : Nat → Prop} {nI : Nat} {W W' : World} {B : Nat} {t : TypeId} {cs : Array Value} (h : Cells W B t cs) (hk : KeepX X nI W W') (hx : ¬ X B) (hB : B < nI) : Cells W' B t cs := hk.2 _ _ h rfl hx (fun x => by omega)

theorem Cells.put {W : World} {B D : Nat} {t : TypeId} {cs : Array Value} {o : Obj} (h : Cells W B t cs) (hK : W.heap[D]? = some o) (ho : o.isCells = false) (o' : Obj) : Cells (W.putObj D o') B t cs := by
  by_cases e : B = D
  · subst e
    rw [show W.heap[B]? = _ from h] at hK; cases hK; cases ho
  · exact (World.putObj_heap_other e).trans h

theorem blocksOf_ok (ao : Option Addr) (len cap : Nat) (w : World) :
    Calls Tryz.prog 98 #[.slice ao len cap] w fun e w' => e = .returned (.func (.func 138) #[] #[.pointer (some ⟨w.heap.size, 0, none⟩)]) ∧ w' = w.alloc (.cells #[.slice ao len cap] 24) := by
  go_enter Tryz.func98, Tryz.ntmps98
  go_wp2
  go_ret
  exact ⟨rfl, rfl⟩

theorem blocksOf_stops (n : Nat) (hn : 1 ≤ n) (Bs nX nI : Nat) (X : Nat → Prop) (ao : Option Addr) (cap : Nat) (zs : List Int) (hL : zs.length * 8 ≤ 140737488351232) (hXa : ∀ a, zs ≠ [] → ao = some a → ¬ X a.block ∧ a.block < nI) (hXb : ¬ X Bs) (hBn : Bs < nI) (hXn : ∀ k, X k → k < nX)
    (w : World) (hnX : nX ≤ w.heap.size) (hB : Cells w Bs 24 #[.slice ao zs.length cap]) (hI : Ints w ao zs) :
    SeqStopsK Fence.wide n Tryz.prog 138 #[.pointer (some ⟨Bs, 0, none⟩)] (fun x : BkOf zs.length => #[bkV (x.1.at' : Nat) (x.1.size : Nat) (x.1.kind : Nat)]) (KeepX X nI) (fun ys => ys = blocks zs) (fun pre => pre <+: blocks zs) (blocks zs).length w := fun l J Jx W hW hA _ hY h0 =>
  blocksOf1_in n hn l Bs W.heap.size nX nI X ao cap zs hL hXa hXb hBn hXn J Jx hA hY W ((hB.kept hW).cell 0) (hI.kept hW) h0 (Nat.le_trans hnX hW.size)


set_option maxRecDepth 100000 in
set_option maxHeartbeats 2000000 in
theorem assign_b {p d r : Nat} {pos pos' : String} {aft : Array Edge} {tmps : Array Value} {l m : Nat} {W : World} (hp : p < tmps.size) (hd : d < tmps.size) (hpd : p ≠ d) (x y z : Int) {K : Act → World → Prop}
    (hK : K { tmps := (tmps.setIfInBounds p (bkV x y z)).setIfInBounds d (.pointer (some ⟨W.heap.size, 0, none⟩)), defers := [] } (W.alloc (.cells (bkC x y z) 111))) :
    (Code.region r #[{ dst := some d, op := Op.alloc 111, type := 0, pos := pos, after := #[], guard := none }, { dst := none, op := Op.store 111 (Operand.tmp d) (Operand.tmp p), type := 0, pos := pos', after := aft, guard := none }] false).wpIn
      (Fence.wide.inRound l) m Tryz.prog (Exit.then K (fun _ _ _ => False)) { tmps := tmps.setIfInBounds p (bkV x y z), defers := [] } W := by
  have hget : ((tmps.setIfInBounds p (bkV x y z)).setIfInBounds d (.pointer (some ⟨W.heap.size, 0, none⟩)))[p]'(by simpa using hp) = bkV x y z := by
    rw [Array.getElem_setIfInBounds, Array.getElem_setIfInBounds] <;> simp [hp, Ne.symm hpd]
  gi_wp2
  exact hK

/-- 'for b := range blocksOf(words)', whatever its body: the body is walked once, at a block of its own for b. -/
theorem range_blocks {g : Operand} {p d r Bs nX : Nat} {pos pos' : String} {aft : Array Edge} {body : Code} {Q : Exit → Act → World → Prop} {a : Act} {w : World} {n : Nat} {X : Nat → Prop} {ao : Option Addr} {cap : Nat} {zs : List Int}
    (hn : 2 ≤ n) (hg : a.eval g = .func (.func 138) #[] #[.pointer (some ⟨Bs, 0, none⟩)]) (hp : p < a.tmps.size) (hd : d < a.tmps.size) (hpd : p ≠ d)
    (hL : zs.length * 8 ≤ 140737488351232) {w0 : World} (hI : Ints w0 ao zs) (hk0 : Kept w0 w) (hX0 : ∀ k, X k → w0.heap.size ≤ k) (hXb : ∀ k, X k → k ≠ Bs) (hXn : ∀ k, X k → k < nX) (hnX : nX ≤ w.heap.size) (hB : Cells w Bs 24 #[.slice ao zs.length cap])
    (I : List (BkOf zs.length) → World → Prop) (Ix : Code → List (BkOf zs.length) → World → Prop) (hOI : OwnFrom w.heap.size I) (hOx : ∀ c, OwnFrom w.heap.size (Ix c)) (h0 : I [] w)
    (hbody : ∀ (l : Nat) (pre : List (BkOf zs.length)) (x : BkOf zs.length) (W : World) (Bx : Nat), w.heap.size ≤ Bx → Cells W Bx 111 (bkC (x.1.at' : Nat) (x.1.size : Nat) (x.1.kind : Nat)) → I pre W → pre.length < (blocks zs).length →
      body.wpIn (Fence.wide.inRound l) (n - 1 - 1) Tryz.prog (ownPostG w.heap.size (KeepX X w.heap.size) I Ix (pre ++ [x]) W) { tmps := (a.tmps.setIfInBounds p (bkV (x.1.at' : Nat) (x.1.size : Nat) (x.1.kind : Nat))).setIfInBounds d (.pointer (some ⟨Bx, 0, none⟩)), defers := [] } W)
    (hdone : ∀ (D : Nat) (W : World), w.heap.size ≤ D → I (blocks zs) W → W.heap[D]? = some (.deferred (some [])) → Q .normal { a with defers := { target := .collected D, args := #[] } :: a.defers } W)
    (hstop : ∀ (D : Nat) (c : Code) (pre : List (BkOf zs.length)) (W : World), w.heap.size ≤ D → pre <+: blocks zs → Ix c pre W → W.heap[D]? = some (.deferred (some [])) → c.wpIn Fence.wide n Tryz.prog Q { a with defers := { target := .collected D, args := #[] } :: a.defers } W) :
    (Code.rangeFunc g #[p] (Code.region r #[{ dst := some d, op := Op.alloc 111, type := 0, pos := pos, after := #[], guard := none }, { dst := none, op := Op.store 111 (Operand.tmp d) (Operand.tmp p), type := 0, pos := pos', after := aft, guard := none }] false) body).wpIn Fence.wide n Tryz.prog Q a w := by
  refine wpIn_rangeFunc_ownH rfl (by omega) hg trivial (enters_of Tryz.func138 (by kernel_rfl) rfl)
    (blocksOf_stops (n - 1) (by omega) Bs nX w.heap.size X ao cap zs hL (fun a h e => ⟨fun x => by have := hX0 _ x; have := hI.lt h e; omega, by have := hI.lt h e; have := hk0.size; omega⟩) (fun x => hXb _ x rfl) hB.lt hXn w hnX hB (hI.kept hk0)) KeepX.t (fun W l o o' _ h h1 _ => KeepX.b W l o o' h h1) (Below.refl _ _) (fun _ => rfl)
    (fun pre W => I pre W ∧ w.heap.size ≤ W.heap.size) Ix (fun s Y Z row hs hg hr => ⟨hOI s Y Z row hs.1 hg hr, Nat.le_trans hs.2 hg.size⟩) hOx ⟨h0, Nat.le_refl _⟩
    (fun x a' W => ∃ Bx, w.heap.size ≤ Bx ∧ Cells W Bx 111 (bkC (x.1.at' : Nat) (x.1.size : Nat) (x.1.kind : Nat)) ∧ a' = { tmps := (a.tmps.setIfInBounds p (bkV (x.1.at' : Nat) (x.1.size : Nat) (x.1.kind : Nat))).setIfInBounds d (.pointer (some ⟨Bx, 0, none⟩)), defers := [] })
    (fun x a' _ Y Z row hs hg hr => by obtain ⟨Bx, h1, h2, h3⟩ := hs; exact ⟨Bx, h1, (Cells.own Bx _ (fun _ : Unit => _)).from w.heap.size () Y Z row h2 hg hr, h3⟩)
    ?assign ?body ?done ?stop
  case assign =>
    intro l pre x W K hi hK
    have hk : Kept W (W.alloc (.cells (bkC (x.1.at' : Nat) (x.1.size : Nat) (x.1.kind : Nat)) 111)) := Kept.alloc (Below.refl _ _) _
    have hz : ∀ v : Value, ((#[p] : Array Tmp).zip #[v]).foldl (fun t (p, v) => t.setIfInBounds p v) a.tmps = a.tmps.setIfInBounds p v := fun v => by simp
    rw [hz]
    refine assign_b hp hd hpd _ _ _ ?_
    exact hK _ _ ((KeepsOthers.alloc _ _).from _) (KeepX.of hk) ⟨hOI _ _ _ none hi.1 hk.grown (fun _ h => by cases h), Nat.le_trans hi.2 hk.size⟩ ⟨W.heap.size, hi.2, Cells.new W _ _, rfl⟩
  case body =>
    rintro l pre x a' W _ _ hi ⟨Bx, h1, h2, rfl⟩ hlt
    refine Code.wpIn_mono (fun e a W' h => ?_) (hbody l pre x W Bx h1 h2 hi.1 hlt)
    cases e
    case normal => exact ⟨h.1, h.2.1, h.2.2, Nat.le_trans hi.2 h.2.1.1⟩
    all_goals exact h
  case done =>
    rintro D ys W hD rfl hi hK
    exact hdone D W hD hi.1 hK
  case stop => exact hstop

set_option maxRecDepth 100000 in
set_option maxHeartbeats 2000000 in
theorem impl_SlabOk_ok (w : World) (ao : Option Addr) (cap : Nat) (zs : List Int) (hI : Ints w ao zs) (hL : zs.length * 8 ≤ 140737488351232) :
    Calls Tryz.prog 116 #[.agg #[.slice ao zs.length cap]] w fun e w' => e = .returned (.bool (slabOk zs)) ∧ Kept w w' := by
  by_cases hlong : 2000 < zs.length
  · have hno : slabOk zs = false := by simp [slabOk]; omega
    rw [hno]
    go_enter Tryz.func116, Tryz.ntmps116
    go_wp2
    go_ret
    exact ⟨rfl, Kept.alloc (Below.refl _ _) _⟩
  · refine (callsIn_wide (n := 3)).1 ?_
    refine callsIn_of_wp_marks Tryz.func116 rfl trivial ?_ rfl
    simp only [Tryz.ntmps116, List.size_toArray, List.length_cons, List.length_nil, Nat.reduceAdd, Nat.reduceSub, Array.replicate_succ, Array.replicate_zero, List.push_toArray, List.append_toArray, List.nil_append, List.cons_append]
    gi_wp2_with (refine ⟨trivial, ?_⟩; gi_at_call 98; refine (callsIn_wide.2 (blocksOf_ok _ _ _ _)).mono ?_; rintro e w' ⟨rfl, rfl⟩)
    have hlen : zs.length ≤ 2000 := by omega
    have hk0 : Kept w (((w.alloc (.cells #[.slice ao zs.length cap] 26)).alloc (.cells #[.int .i64 0] 3)).alloc (.cells #[.slice ao zs.length cap] 24)) := ((Kept.alloc (Below.refl _ _) _).alloc _).alloc _
    have bS := ((Cells.new w 26 #[.slice ao zs.length cap]).alloc (.cells #[.int .i64 0] 3)).alloc (.cells #[.slice ao zs.length cap] 24)
    have bE := (Cells.new (w.alloc (.cells #[.slice ao zs.length cap] 26)) 3 #[.int .i64 0]).alloc (.cells #[.slice ao zs.length cap] 24)
    have bB := Cells.new ((w.alloc (.cells #[.slice ao zs.length cap] 26)).alloc (.cells #[.int .i64 0] 3)) 24 #[.slice ao zs.length cap]
    have hsz : (((w.alloc (.cells #[.slice ao zs.length cap] 26)).alloc (.cells #[.int .i64 0] 3)).alloc (.cells #[.slice ao zs.length cap] 24)).heap.size = w.heap.size + 3 := by simp
    simp only [World.size_alloc] at bE bB
    obtain ⟨W0, hW0⟩ : ∃ W0, ((w.alloc (.cells #[.slice ao zs.length cap] 26)).alloc (.cells #[.int .i64 0] 3)).alloc (.cells #[.slice ao zs.length cap] 24) = W0 := ⟨_, rfl⟩
    rw [hW0] at bS bE bB hk0 hsz ⊢
    clear hW0
    refine range_blocks (X := fun k => k = w.heap.size + 1) (nX := w.heap.size + 2) (zs := zs) (ao := ao) (cap := cap) (by omega) rfl (by simp) (by simp) (by decide) hL hI hk0 (by intro k h; omega) (by intro k h; omega) (by intro k h; omega) (by omega) bB
      (fun pre W => (Cells W (w.heap.size + 1) 3 #[.int .i64 (endOf 0 pre : Nat)] ∧ Cells W w.heap.size 26 #[.slice ao zs.length cap]) ∧ Below w.heap.size w W)
      (fun _ _ _ => False)
      (OwnFrom.and (OwnFrom.and (Own.from (Cells.own _ _ (fun pre => #[.int .i64 (endOf 0 pre : Nat)])) _) (Own.from (Cells.own _ _ _) _)) (ownFrom_below (Nat.le_refl _) (by omega)))
      (fun _ _ _ _ _ hs _ _ => hs)
      ⟨⟨bE, bS⟩, hk0⟩ ?body ?done ?stop
    case body =>
      rintro l pre x W Bx hBx bX ⟨⟨bE1, bS1⟩, hB1⟩ hlt
      have hx := x.2
      have c0 := bX.cell 0
      have c1 := bX.cell 1
      have c2 := bX.cell 2
      have cE := bE1.cell 0
      have fE := bE1.frozen 0
      have lE := bE1.lt
      simp only [List.setIfInBounds_toArray, List.set_cons_succ, List.set_cons_zero]
      gi_wp2_with (refine ⟨trivial, ?_⟩; gi_at_call 120; refine (CallsIn.inRound l (callsIn_wide.2 (end_ok _ _ _ _ (by omega) (by omega)))).mono ?_; rintro e w4 ⟨rfl, rfl⟩)
      refine ⟨((KeepsOthers.setCell _ _ _).trans (KeepsOthers.alloc _ _)).from _, (KeepX.setCell (X := fun k => k = w.heap.size + 1) (p := ⟨w.heap.size + 1, 0, none⟩) rfl _).t (KeepX.of (Kept.alloc (Below.refl _ _) _)), ⟨?_, (bS1.other (by simp) _).alloc _⟩, (hB1.setCell (p := ⟨w.heap.size + 1, 0, none⟩) (by simp) _).alloc (by have := hB1.size; simpa [World.setCell] using this) _⟩
      rw [endOf_snoc]
      exact (bE1.set1 _).alloc _
    case done =>
      rintro D W hD ⟨⟨bE1, bS1⟩, hB1⟩ hK
      have cE := bE1.cell 0
      have cS := bS1.cell 0
      gi_wp2
      refine ⟨by simp, .inl ⟨_, _, rfl, run_takeDeferred hK, ?_⟩⟩
      refine ⟨_, results_tmp rfl _ _ _, ?_, hB1.trans (belowK_b (w := w) (Nat.le_refl _) W D _ _ (by omega) hK rfl rfl)⟩
      rw [show endOf 0 (blocks zs) = stop zs 0 from endOf_blks zs 0]
      have hb : (((stop zs 0 : Nat) : Int) == ((zs.length : Nat) : Int)) = decide (stop zs 0 = zs.length) := by rw [Bool.eq_iff_iff]; simp; omega
      simp [slabOk, hlen, hb]
    case stop =>
      rintro D c pre W _ _ h _
      exact h.elim

end Go.Proofs.YtpbafjcoomfooaaGreat
