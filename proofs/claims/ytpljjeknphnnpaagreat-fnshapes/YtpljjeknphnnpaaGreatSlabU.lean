/-
  The contracts of chapter 2's functions of the program that go over the blocks of a slab by the iterator and write nothing: SlabOk and those about it.
-/
import Derived.Test.YtpljjeknphnnpaaGreatSlabT
import Derived.Maps.AppendAt
namespace Go.Proofs.YtpljjeknphnnpaaGreat
open Go.RowKit Go.Shelf
attribute [local go_sem] Oper.semAt_some

theorem Cells.own {β : Type} (B : Nat) (t : TypeId) (cs : β → Array Value) : Own (fun s W => Cells W B t (cs s)) := fun _ _ _ _ h hg hr => (grownBy_keeps_cells hg hr h rfl).trans h
theorem Cells.keptX {X : Nat → Prop} {nI : Nat} {W W' : World} {B : Nat} {t : TypeId} {cs : Array Value} (h : Cells W B t cs) (hk : KeepX X nI W W') (hx : ¬ X B) (hB : B < nI) : Cells W' B t cs := hk.2 _ _ h rfl hx (fun x => by omega)

theorem Cells.put {W : World} {B D : Nat} {t : TypeId} {cs : Array Value} {o : Obj} (h : Cells W B t cs) (hK : W.heap[D]? = some o) (ho : o.isCells = false) (o' : Obj) : Cells (W.putObj D o') B t cs := by
  by_cases e : B = D
  · subst e
    rw [show W.heap[B]? = _ from h] at hK; cases hK; cases ho
  · exact (World.putObj_heap_other e).trans h

theorem blocksOf_ok (ao : Option Addr) (len cap : Nat) (w : World) :
    Calls Tryz.prog 61 #[.slice ao len cap] w fun e w' => e = .returned (.func (.func 104) #[] #[.pointer (some ⟨w.heap.size, 0, none⟩)]) ∧ w' = w.alloc (.cells #[.slice ao len cap] 24) := by
  go_enter Tryz.func61, Tryz.ntmps61
  go_wp2
  go_ret
  exact ⟨rfl, rfl⟩

theorem blocksOf_stops (n : Nat) (hn : 1 ≤ n) (Bs nX nI : Nat) (X : Nat → Prop) (ao : Option Addr) (cap : Nat) (zs : List Int) (hL : zs.length * 8 ≤ 140737488351232) (hXa : ∀ a, zs ≠ [] → ao = some a → ¬ X a.block ∧ a.block < nI) (hXb : ¬ X Bs) (hBn : Bs < nI) (hXn : ∀ k, X k → k < nX)
    (w : World) (hnX : nX ≤ w.heap.size) (hB : Cells w Bs 24 #[.slice ao zs.length cap]) (hI : Ints w ao zs) :
    SeqStopsK Fence.wide n Tryz.prog 104 #[.pointer (some ⟨Bs, 0, none⟩)] (fun x : BkOf zs.length => #[bkV (x.1.at' : Nat) (x.1.size : Nat) (x.1.kind : Nat)]) (KeepX X nI) (fun ys => ys = blocks zs) (fun pre => pre <+: blocks zs) (blocks zs).length w := fun l J Jx W hW hA _ hY h0 =>
  blocksOf1_in n hn l Bs W.heap.size nX nI X ao cap zs hL hXa hXb hBn hXn J Jx hA hY W ((hB.kept hW).cell 0) (hI.kept hW) h0 (Nat.le_trans hnX hW.size)


set_option maxRecDepth 100000 in
set_option maxHeartbeats 2000000 in
theorem assign_b {p d r : Nat} {pos pos' : String} {aft : Array Edge} {tmps : Array Value} {l m : Nat} {W : World} (hp : p < tmps.size) (hd : d < tmps.size) (hpd : p ≠ d) (x y z : Int) {K : Act → World → Prop}
    (hK : K { tmps := (tmps.setIfInBounds p (bkV x y z)).setIfInBounds d (.pointer (some ⟨W.heap.size, 0, none⟩)), defers := [] } (W.alloc (.cells (bkC x y z) 73))) :
    (Code.region r #[{ dst := some d, op := Op.alloc 73, type := 0, pos := pos, after := #[], guard := none }, { dst := none, op := Op.store 73 (Operand.tmp d) (Operand.tmp p), type := 0, pos := pos', after := aft, guard := none }] false).wpIn
      (Fence.wide.inRound l) m Tryz.prog (Exit.then K (fun _ _ _ => False)) { tmps := tmps.setIfInBounds p (bkV x y z), defers := [] } W := by
  have hget : ((tmps.setIfInBounds p (bkV x y z)).setIfInBounds d (.pointer (some ⟨W.heap.size, 0, none⟩)))[p]'(by simpa using hp) = bkV x y z := by
    rw [Array.getElem_setIfInBounds, Array.getElem_setIfInBounds] <;> simp [hp, Ne.symm hpd]
  gi_wp2
  exact hK

/-- 'for b := range blocksOf(words)', whatever its body: the body is walked once, at a block of its own for b. -/
theorem range_blocks {g : Operand} {p d r Bs nX : Nat} {pos pos' : String} {aft : Array Edge} {body : Code} {Q : Exit → Act → World → Prop} {a : Act} {w : World} {n : Nat} {X : Nat → Prop} {ao : Option Addr} {cap : Nat} {zs : List Int}
    (hn : 2 ≤ n) (hg : a.eval g = .func (.func 104) #[] #[.pointer (some ⟨Bs, 0, none⟩)]) (hp : p < a.tmps.size) (hd : d < a.tmps.size) (hpd : p ≠ d)
    (hL : zs.length * 8 ≤ 140737488351232) {w0 : World} (hI : Ints w0 ao zs) (hk0 : Kept w0 w) (hX0 : ∀ k, X k → w0.heap.size ≤ k) (hXb : ∀ k, X k → k ≠ Bs) (hXn : ∀ k, X k → k < nX) (hnX : nX ≤ w.heap.size) (hB : Cells w Bs 24 #[.slice ao zs.length cap])
    (I : List (BkOf zs.length) → World → Prop) (Ix : Code → List (BkOf zs.length) → World → Prop) (hOI : OwnFrom w.heap.size I) (hOx : ∀ c, OwnFrom w.heap.size (Ix c)) (h0 : I [] w)
    (hbody : ∀ (l : Nat) (pre : List (BkOf zs.length)) (x : BkOf zs.length) (W : World) (Bx : Nat), w.heap.size ≤ Bx → Cells W Bx 73 (bkC (x.1.at' : Nat) (x.1.size : Nat) (x.1.kind : Nat)) → I pre W → pre.length < (blocks zs).length →
      body.wpIn (Fence.wide.inRound l) (n - 1 - 1) Tryz.prog (ownPostG w.heap.size (KeepX X w.heap.size) I Ix (pre ++ [x]) W) { tmps := (a.tmps.setIfInBounds p (bkV (x.1.at' : Nat) (x.1.size : Nat) (x.1.kind : Nat))).setIfInBounds d (.pointer (some ⟨Bx, 0, none⟩)), defers := [] } W)
    (hdone : ∀ (D : Nat) (W : World), w.heap.size ≤ D → I (blocks zs) W → W.heap[D]? = some (.deferred (some [])) → Q .normal { a with defers := { target := .collected D, args := #[] } :: a.defers } W)
    (hstop : ∀ (D : Nat) (c : Code) (pre : List (BkOf zs.length)) (W : World), w.heap.size ≤ D → pre <+: blocks zs → Ix c pre W → W.heap[D]? = some (.deferred (some [])) → c.wpIn Fence.wide n Tryz.prog Q { a with defers := { target := .collected D, args := #[] } :: a.defers } W) :
    (Code.rangeFunc g #[p] (Code.region r #[{ dst := some d, op := Op.alloc 73, type := 0, pos := pos, after := #[], guard := none }, { dst := none, op := Op.store 73 (Operand.tmp d) (Operand.tmp p), type := 0, pos := pos', after := aft, guard := none }] false) body).wpIn Fence.wide n Tryz.prog Q a w := by
  refine wpIn_rangeFunc_ownH rfl (by omega) hg trivial (enters_of Tryz.func104 (by kernel_rfl) rfl)
    (blocksOf_stops (n - 1) (by omega) Bs nX w.heap.size X ao cap zs hL (fun a h e => ⟨fun x => by have := hX0 _ x; have := hI.lt h e; omega, by have := hI.lt h e; have := hk0.size; omega⟩) (fun x => hXb _ x rfl) hB.lt hXn w hnX hB (hI.kept hk0)) KeepX.t (fun W l o o' _ h h1 _ => KeepX.b W l o o' h h1) (Below.refl _ _) (fun _ => rfl)
    (fun pre W => I pre W ∧ w.heap.size ≤ W.heap.size) Ix (fun s Y Z row hs hg hr => ⟨hOI s Y Z row hs.1 hg hr, Nat.le_trans hs.2 hg.size⟩) hOx ⟨h0, Nat.le_refl _⟩
    (fun x a' W => ∃ Bx, w.heap.size ≤ Bx ∧ Cells W Bx 73 (bkC (x.1.at' : Nat) (x.1.size : Nat) (x.1.kind : Nat)) ∧ a' = { tmps := (a.tmps.setIfInBounds p (bkV (x.1.at' : Nat) (x.1.size : Nat) (x.1.kind : Nat))).setIfInBounds d (.pointer (some ⟨Bx, 0, none⟩)), defers := [] })
    (fun x a' _ Y Z row hs hg hr => by obtain ⟨Bx, h1, h2, h3⟩ := hs; exact ⟨Bx, h1, (Cells.own Bx _ (fun _ : Unit => _)).from w.heap.size () Y Z row h2 hg hr, h3⟩)
    ?assign ?body ?done ?stop
  case assign =>
    intro l pre x W K hi hK
    have hk : Kept W (W.alloc (.cells (bkC (x.1.at' : Nat) (x.1.size : Nat) (x.1.kind : Nat)) 73)) := Kept.alloc (Below.refl _ _) _
    have hz : ∀ v : Value, ((#[p] : Array Tmp).zip #[v]).foldl (fun t (p, v) => t.setIfInBounds p v) a.tmps = a.tmps.setIfInBounds p v := fun v => by simp
    rw [hz]
    refine assign_b hp hd hpd _ _ _ ?_
    exact hK _ _ ((KeepsOthers.alloc _ _).from _) (KeepX.of hk) ⟨hOI _ _ _ none hi.1 hk.grown (fun _ h => by cases h), Nat.le_trans hi.2 hk.size⟩ ⟨W.heap.size, hi.2, Cells.new W _ _, rfl⟩
  case body =>
    rintro l pre x a' W _ _ hi ⟨Bx, h1, h2, rfl⟩ hlt
    refine Code.wpIn_mono (fun e a W' h => ?_) (hbody l pre x W Bx h1 h2 hi.1 hlt)
    cases e
    case normal => exact ⟨h.1, h.2.1, h.2.2, Nat.le_trans hi.2 h.2.1.1⟩
    all_goals exact h
  case done =>
    rintro D ys W hD rfl hi hK
    exact hdone D W hD hi.1 hK
  case stop => exact hstop

set_option maxRecDepth 100000 in
set_option maxHeartbeats 2000000 in
theorem impl_SlabOk_ok (w : World) (ao : Option Addr) (cap : Nat) (zs : List Int) (hI : Ints w ao zs) (hL : zs.length * 8 ≤ 140737488351232) :
    Calls Tryz.prog 60 #[.agg #[.slice ao zs.length cap]] w fun e w' => e = .returned (.bool (slabOk zs)) ∧ Kept w w' := by
  by_cases hlong : 2000 < zs.length
  · have hno : slabOk zs = false := by simp [slabOk]; omega
    rw [hno]
    go_enter Tryz.func60, Tryz.ntmps60
    go_wp2
    go_ret
    exact ⟨rfl, Kept.alloc (Below.refl _ _) _⟩
  · refine (callsIn_wide (n := 3)).1 ?_
    refine callsIn_of_wp_marks Tryz.func60 rfl trivial ?_ rfl
    simp only [Tryz.ntmps60, List.size_toArray, List.length_cons, List.length_nil, Nat.reduceAdd, Nat.reduceSub, Array.replicate_succ, Array.replicate_zero, List.push_toArray, List.append_toArray, List.nil_append, List.cons_append]
    gi_wp2_with (refine ⟨trivial, ?_⟩; gi_at_call 61; refine (callsIn_wide.2 (blocksOf_ok _ _ _ _)).mono ?_; rintro e w' ⟨rfl, rfl⟩)
    have hlen : zs.length ≤ 2000 := by omega
    have hk0 : Kept w (((w.alloc (.cells #[.slice ao zs.length cap] 26)).alloc (.cells #[.int .i64 0] 3)).alloc (.cells #[.slice ao zs.length cap] 24)) := ((Kept.alloc (Below.refl _ _) _).alloc _).alloc _
    have bS := ((Cells.new w 26 #[.slice ao zs.length cap]).alloc (.cells #[.int .i64 0] 3)).alloc (.cells #[.slice ao zs.length cap] 24)
    have bE := (Cells.new (w.alloc (.cells #[.slice ao zs.length cap] 26)) 3 #[.int .i64 0]).alloc (.cells #[.slice ao zs.length cap] 24)
    have bB := Cells.new ((w.alloc (.cells #[.slice ao zs.length cap] 26)).alloc (.cells #[.int .i64 0] 3)) 24 #[.slice ao zs.length cap]
    have hsz : (((w.alloc (.cells #[.slice ao zs.length cap] 26)).alloc (.cells #[.int .i64 0] 3)).alloc (.cells #[.slice ao zs.length cap] 24)).heap.size = w.heap.size + 3 := by simp
    simp only [World.size_alloc] at bE bB
    obtain ⟨W0, hW0⟩ : ∃ W0, ((w.alloc (.cells #[.slice ao zs.length cap] 26)).alloc (.cells #[.int .i64 0] 3)).alloc (.cells #[.slice ao zs.length cap] 24) = W0 := ⟨_, rfl⟩
    rw [hW0] at bS bE bB hk0 hsz ⊢
    clear hW0
    refine range_blocks (X := fun k => k = w.heap.size + 1) (nX := w.heap.size + 2) (zs := zs) (ao := ao) (cap := cap) (by omega) rfl (by simp) (by simp) (by decide) hL hI hk0 (by intro k h; omega) (by intro k h; omega) (by intro k h; omega) (by omega) bB
      (fun pre W => (Cells W (w.heap.size + 1) 3 #[.int .i64 (endOf 0 pre : Nat)] ∧ Cells W w.heap.size 26 #[.slice ao zs.length cap]) ∧ Below w.heap.size w W)
      (fun _ _ _ => False)
      (OwnFrom.and (OwnFrom.and (Own.from (Cells.own _ _ (fun pre => #[.int .i64 (endOf 0 pre : Nat)])) _) (Own.from (Cells.own _ _ _) _)) (ownFrom_below (Nat.le_refl _) (by omega)))
      (fun _ _ _ _ _ hs _ _ => hs)
      ⟨⟨bE, bS⟩, hk0⟩ ?body ?done ?stop
    case body =>
      rintro l pre x W Bx hBx bX ⟨⟨bE1, bS1⟩, hB1⟩ hlt
      have hx := x.2
      have c0 := bX.cell 0
      have c1 := bX.cell 1
      have c2 := bX.cell 2
      have cE := bE1.cell 0
      have fE := bE1.frozen 0
      have lE := bE1.lt
      simp only [List.setIfInBounds_toArray, List.set_cons_succ, List.set_cons_zero]
      gi_wp2_with (refine ⟨trivial, ?_⟩; gi_at_call 100; refine (CallsIn.inRound l (callsIn_wide.2 (end_ok _ _ _ _ (by omega) (by omega)))).mono ?_; rintro e w4 ⟨rfl, rfl⟩)
      refine ⟨((KeepsOthers.setCell _ _ _).trans (KeepsOthers.alloc _ _)).from _, (KeepX.setCell (X := fun k => k = w.heap.size + 1) (p := ⟨w.heap.size + 1, 0, none⟩) rfl _).t (KeepX.of (Kept.alloc (Below.refl _ _) _)), ⟨?_, (bS1.other (by simp) _).alloc _⟩, (hB1.setCell (p := ⟨w.heap.size + 1, 0, none⟩) (by simp) _).alloc (by have := hB1.size; simpa [World.setCell] using this) _⟩
      rw [endOf_snoc]
      exact (bE1.set1 _).alloc _
    case done =>
      rintro D W hD ⟨⟨bE1, bS1⟩, hB1⟩ hK
      have cE := bE1.cell 0
      have cS := bS1.cell 0
      gi_wp2
      refine ⟨by simp, .inl ⟨_, _, rfl, run_takeDeferred hK, ?_⟩⟩
      refine ⟨_, results_tmp rfl _ _ _, ?_, hB1.trans (belowK_b (w := w) (Nat.le_refl _) W D _ _ (by omega) hK rfl rfl)⟩
      rw [show endOf 0 (blocks zs) = stop zs 0 from endOf_blks zs 0]
      have hb : (((stop zs 0 : Nat) : Int) == ((zs.length : Nat) : Int)) = decide (stop zs 0 = zs.length) := by rw [Bool.eq_iff_iff]; simp; omega
      simp [slabOk, hlen, hb]
    case stop =>
      rintro D c pre W _ _ h _
      exact h.elim

/-- What findBlock tells. -/
def fbV (zs : List Int) (a : Int) : Value := match atB zs a with
  | some b => .tuple #[bkV (b.1.at' : Nat) (b.1.size : Nat) (b.1.kind : Nat), .bool true]
  | none => .tuple #[bkV 0 0 0, .bool false]
set_option maxRecDepth 100000 in
set_option maxHeartbeats 2000000 in
theorem findBlock_ok (w : World) (ao : Option Addr) (cap : Nat) (zs : List Int) (a : Int) (hI : Ints w ao zs) (hL : zs.length * 8 ≤ 140737488351232) :
    Calls Tryz.prog 51 #[.agg #[.slice ao zs.length cap], .int .i64 a] w fun e w' => e = .returned (fbV zs a) ∧ Kept w w' := by
  have b0 := (((Cells.new w 26 #[.slice ao zs.length cap]).alloc (.cells #[.int .i64 a] 3)).alloc (.cells (bkC 0 0 0) 73)).alloc (.cells #[.bool false] 4)
  have b1 := ((Cells.new (w.alloc (.cells #[.slice ao zs.length cap] 26)) 3 #[.int .i64 a]).alloc (.cells (bkC 0 0 0) 73)).alloc (.cells #[.bool false] 4)
  have b2 := (Cells.new ((w.alloc (.cells #[.slice ao zs.length cap] 26)).alloc (.cells #[.int .i64 a] 3)) 73 (bkC 0 0 0)).alloc (.cells #[.bool false] 4)
  have b3 := Cells.new (((w.alloc (.cells #[.slice ao zs.length cap] 26)).alloc (.cells #[.int .i64 a] 3)).alloc (.cells (bkC 0 0 0) 73)) 4 #[.bool false]
  simp only [World.size_alloc] at b0 b1 b2 b3
  have k0 : Kept w ((((w.alloc (.cells #[.slice ao zs.length cap] 26)).alloc (.cells #[.int .i64 a] 3)).alloc (.cells (bkC 0 0 0) 73)).alloc (.cells #[.bool false] 4)) := (((Kept.alloc (Below.refl _ _) _).alloc _).alloc _).alloc _
  cases hok : slabOk zs with
  | false =>
    have HO : Hid (slabOk zs = false) := hok
    clear hok
    go_enter Tryz.func51, Tryz.ntmps51
    go_wp2_with (go_at_call 60; refine (impl_SlabOk_ok _ ao cap zs (hI.kept k0) hL).mono ?_; rintro e w1 ⟨rfl, hk1⟩; rw [HO.out]; have b2' := b2.kept hk1; have b3' := b3.kept hk1; have c20 := b2'.cell 0; have c21 := b2'.cell 1; have c22 := b2'.cell 2; have f20 := b2'.frozen 0; have f21 := b2'.frozen 1; have f22 := b2'.frozen 2; have c3 := b3'.cell 0; have f3 := b3'.frozen 0)
    have q2 := (b2'.set3 (.int .i64 0) (.int .i64 0) (.int .i64 0)).other (p := ⟨w.heap.size + 1 + 1 + 1, 0, none⟩) (by simp) (.bool false)
    have q3 := (b3'.other3 (B' := w.heap.size + 1 + 1) (by omega) (.int .i64 0) (.int .i64 0) (.int .i64 0)).set1 (.bool false)
    refine bodyPost_ret (v := .tuple #[bkV 0 0 0, .bool false]) (by simp [results, Tryz.results51, go_sem, q2.cell 0, q2.cell 1, q2.cell 2, q3.cell 0]) rfl ⟨?_, ?_⟩
    · have : atB zs a = none := by simp [atB, HO.out]
      simp [fbV, this]
    · exact (below3 (k0.trans hk1) (by omega) _ _ _).setCell (p := ⟨w.heap.size + 1 + 1 + 1, 0, none⟩) (by simp; omega) _
  | true =>
    have HO : Hid (slabOk zs = true) := hok
    clear hok
    refine (callsIn_wide (n := 3)).1 ?_
    refine callsIn_of_wp_marks Tryz.func51 rfl trivial ?_ rfl
    simp only [Tryz.ntmps51, List.size_toArray, List.length_cons, List.length_nil, Nat.reduceAdd, Nat.reduceSub, Array.replicate_succ, Array.replicate_zero, List.push_toArray, List.append_toArray, List.nil_append, List.cons_append]
    gi_wp2_with (first | (refine ⟨trivial, ?_⟩; gi_at_call 60; refine (callsIn_wide.2 (impl_SlabOk_ok _ ao cap zs (hI.kept k0) hL)).mono ?_; rintro e w1 ⟨rfl, hk1⟩; rw [HO.out]; have b0' := b0.kept hk1; have c0 := b0'.cell 0) | (refine ⟨trivial, ?_⟩; gi_at_call 61; refine (callsIn_wide.2 (blocksOf_ok _ _ _ _)).mono ?_; rintro e w2 ⟨rfl, rfl⟩))
    have bB := Cells.new w1 24 #[.slice ao zs.length cap]
    have b1 := (b1.kept hk1).alloc (.cells #[.slice ao zs.length cap] 24)
    have b2 := (b2.kept hk1).alloc (.cells #[.slice ao zs.length cap] 24)
    have b3 := (b3.kept hk1).alloc (.cells #[.slice ao zs.length cap] 24)
    have k1 := (k0.trans hk1).alloc (.cells #[.slice ao zs.length cap] 24)
    have hs1 : w.heap.size + 4 ≤ w1.heap.size := by have := hk1.size; simp at this; omega
    have hsz : (w1.alloc (.cells #[.slice ao zs.length cap] 24)).heap.size = w1.heap.size + 1 := by simp
    obtain ⟨W0, hW0⟩ : ∃ W0, w1.alloc (.cells #[.slice ao zs.length cap] 24) = W0 := ⟨_, rfl⟩
    rw [hW0] at b1 b2 b3 bB k1 hsz ⊢
    clear hW0 hk1 b0 b0' c0 k0
    refine range_blocks (X := fun k => k = w.heap.size + 1 + 1 ∨ k = w.heap.size + 1 + 1 + 1) (nX := w.heap.size + 4) (zs := zs) (ao := ao) (cap := cap) (by omega) rfl (by simp) (by simp) (by decide) hL hI k1 (by intro k h; omega) (by intro k h; omega) (by intro k h; omega) (by omega) bB
      (fun pre W => (∀ b ∈ pre, (b.1.at' : Int) < a) ∧ ((Cells W (w.heap.size + 1) 3 #[.int .i64 a] ∧ Cells W (w.heap.size + 1 + 1) 73 (bkC 0 0 0)) ∧ Cells W (w.heap.size + 1 + 1 + 1) 4 #[.bool false]) ∧ Below w.heap.size w W)
      (fun c pre W => ((c = .ret ∧ ∃ pre' x, pre = pre' ++ [x] ∧ (∀ b ∈ pre', (b.1.at' : Int) < a) ∧ (x.1.at' : Int) = a ∧ Cells W (w.heap.size + 1 + 1) 73 (bkC (x.1.at' : Nat) (x.1.size : Nat) (x.1.kind : Nat)) ∧ Cells W (w.heap.size + 1 + 1 + 1) 4 #[.bool true]) ∨
        (c = .exit 0 ∧ ∃ pre' x, pre = pre' ++ [x] ∧ (∀ b ∈ pre', (b.1.at' : Int) < a) ∧ a < (x.1.at' : Int) ∧ Cells W (w.heap.size + 1 + 1) 73 (bkC 0 0 0) ∧ Cells W (w.heap.size + 1 + 1 + 1) 4 #[.bool false])) ∧ Below w.heap.size w W)
      ?oi ?ox ⟨by simp, ⟨⟨b1, b2⟩, b3⟩, k1⟩ ?body ?done ?stop
    case oi => exact OwnFrom.and (fun _ _ _ _ h _ _ => h) (OwnFrom.and (OwnFrom.and (OwnFrom.and (Own.from (Cells.own _ _ _) _) (Own.from (Cells.own _ _ _) _)) (Own.from (Cells.own _ _ _) _)) (ownFrom_below (Nat.le_refl _) (by omega)))
    case ox =>
      rintro c s Y Z row ⟨h | h, hB⟩ hg hr
      · obtain ⟨e, pre', x, h1, h2, h3, h4, h5⟩ := h
        exact ⟨.inl ⟨e, pre', x, h1, h2, h3, Own.from (Cells.own _ _ (fun _ : Unit => _)) W0.heap.size () Y Z row h4 hg hr, Own.from (Cells.own _ _ (fun _ : Unit => _)) W0.heap.size () Y Z row h5 hg hr⟩, ownFrom_below (Nat.le_refl _) (by omega) s Y Z row hB hg hr⟩
      · obtain ⟨e, pre', x, h1, h2, h3, h4, h5⟩ := h
        exact ⟨.inr ⟨e, pre', x, h1, h2, h3, Own.from (Cells.own _ _ (fun _ : Unit => _)) W0.heap.size () Y Z row h4 hg hr, Own.from (Cells.own _ _ (fun _ : Unit => _)) W0.heap.size () Y Z row h5 hg hr⟩, ownFrom_below (Nat.le_refl _) (by omega) s Y Z row hB hg hr⟩
    case body =>
      rintro l pre x W Bx hBx bX ⟨hp, ⟨⟨d1, d2⟩, d3⟩, hB1⟩ hlt
      have hx := x.2
      have c0 := bX.cell 0
      have c1 := bX.cell 1
      have c2 := bX.cell 2
      have e1 := d1.cell 0
      have e20 := d2.cell 0
      have e21 := d2.cell 1
      have e22 := d2.cell 2
      have f20 := d2.frozen 0
      have f21 := d2.frozen 1
      have f22 := d2.frozen 2
      have e3 := d3.cell 0
      have f3 := d3.frozen 0
      simp only [List.setIfInBounds_toArray, List.set_cons_succ, List.set_cons_zero]
      rcases (show (x.1.at' : Int) = a ∨ a < (x.1.at' : Int) ∨ (x.1.at' : Int) < a by omega) with h | h | h
      · gi_wp2
        refine ⟨((others3 _ _ _).trans (KeepsOthers.setCell _ _ _)).from _, .inl ⟨rfl, pre, x, rfl, hp, h, ?_, (d3.other3 (by omega) _ _ _).set1 _⟩, (below3 hB1 (by omega) _ _ _).setCell (p := ⟨w.heap.size + 1 + 1 + 1, 0, none⟩) (by simp; omega) _⟩
        rw [h]
        exact (d2.set3 _ _ _).other (by simp) _
      · gi_wp2
        exact ⟨KeepsFrom.refl _ _, .inr ⟨rfl, pre, x, rfl, hp, h, d2, d3⟩, hB1⟩
      · gi_wp2
        exact ⟨KeepsFrom.refl _ _, KeepX.of (Below.refl _ _), fun b hb => by rcases List.mem_append.1 hb with hb | hb; exact hp b hb; simp at hb; subst hb; exact h, ⟨⟨d1, d2⟩, d3⟩, hB1⟩
    case done =>
      rintro D W hD ⟨hp, ⟨⟨d1, d2⟩, d3⟩, hB1⟩ hK
      have e20 := d2.cell 0
      have e21 := d2.cell 1
      have e22 := d2.cell 2
      have f20 := d2.frozen 0
      have f21 := d2.frozen 1
      have f22 := d2.frozen 2
      have e3 := d3.cell 0
      have f3 := d3.frozen 0
      gi_wp2
      have hK' := ((others3 (W := W) (B := w.heap.size + 1 + 1) (.int .i64 0) (.int .i64 0) (.int .i64 0)).trans (KeepsOthers.setCell _ ⟨w.heap.size + 1 + 1 + 1, 0, none⟩ (.bool false))).same D _ hK rfl
      refine ⟨by simp, .inl ⟨_, _, rfl, run_takeDeferred hK', ?_⟩⟩
      have q2 := ((d2.set3 (.int .i64 0) (.int .i64 0) (.int .i64 0)).other (p := ⟨w.heap.size + 1 + 1 + 1, 0, none⟩) (by simp) (.bool false)).put hK' rfl (.deferred none)
      have q3 := ((d3.other3 (B' := w.heap.size + 1 + 1) (by omega) (.int .i64 0) (.int .i64 0) (.int .i64 0)).set1 (.bool false)).put hK' rfl (.deferred none)
      refine ⟨.tuple #[bkV 0 0 0, .bool false], by simp [results, Tryz.results51, go_sem, q2.cell 0, q2.cell 1, q2.cell 2, q3.cell 0], by simp [fbV, find_none hp], ?_⟩
      exact ((below3 hB1 (by omega) _ _ _).setCell (p := ⟨w.heap.size + 1 + 1 + 1, 0, none⟩) (by simp; omega) _).trans (belowK_b (w := w) (Nat.le_refl _) _ D _ _ (by omega) hK' rfl rfl)
    case stop =>
      rintro D c pre W hD hpre ⟨h | h, hB⟩ hK
      · obtain ⟨rfl, pre', x, rfl, hp, hx, d2, d3⟩ := h
        gi_wp2
        refine ⟨by simp, .inl ⟨_, _, rfl, run_takeDeferred hK, ?_⟩⟩
        have q2 := d2.put hK rfl (.deferred none)
        have q3 := d3.put hK rfl (.deferred none)
        refine ⟨.tuple #[bkV (x.1.at' : Nat) (x.1.size : Nat) (x.1.kind : Nat), .bool true], by simp [results, Tryz.results51, go_sem, q2.cell 0, q2.cell 1, q2.cell 2, q3.cell 0], by simp [fbV, find_hit HO.out hpre hp hx], ?_⟩
        exact hB.trans (belowK_b (w := w) (Nat.le_refl _) _ D _ _ (by omega) hK rfl rfl)
      · obtain ⟨rfl, pre', x, rfl, hp, hx, d2, d3⟩ := h
        have e20 := d2.cell 0
        have e21 := d2.cell 1
        have e22 := d2.cell 2
        have f20 := d2.frozen 0
        have f21 := d2.frozen 1
        have f22 := d2.frozen 2
        have e3 := d3.cell 0
        have f3 := d3.frozen 0
        gi_wp2
        have hK' := ((others3 (W := W) (B := w.heap.size + 1 + 1) (.int .i64 0) (.int .i64 0) (.int .i64 0)).trans (KeepsOthers.setCell _ ⟨w.heap.size + 1 + 1 + 1, 0, none⟩ (.bool false))).same D _ hK rfl
        refine ⟨by simp, .inl ⟨_, _, rfl, run_takeDeferred hK', ?_⟩⟩
        have q2 := ((d2.set3 (.int .i64 0) (.int .i64 0) (.int .i64 0)).other (p := ⟨w.heap.size + 1 + 1 + 1, 0, none⟩) (by simp) (.bool false)).put hK' rfl (.deferred none)
        have q3 := ((d3.other3 (B' := w.heap.size + 1 + 1) (by omega) (.int .i64 0) (.int .i64 0) (.int .i64 0)).set1 (.bool false)).put hK' rfl (.deferred none)
        refine ⟨.tuple #[bkV 0 0 0, .bool false], by simp [results, Tryz.results51, go_sem, q2.cell 0, q2.cell 1, q2.cell 2, q3.cell 0], by simp [fbV, find_past hpre hp hx], ?_⟩
        exact ((below3 hB (by omega) _ _ _).setCell (p := ⟨w.heap.size + 1 + 1 + 1, 0, none⟩) (by simp; omega) _).trans (belowK_b (w := w) (Nat.le_refl _) _ D _ _ (by omega) hK' rfl rfl)
end Go.Proofs.YtpljjeknphnnpaaGreat
