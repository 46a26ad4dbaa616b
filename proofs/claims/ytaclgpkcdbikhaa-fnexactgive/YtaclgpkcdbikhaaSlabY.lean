/-
  The contract of impl.freeAbout: how far a block reaches as free and one with the free ones about it.
-/
import Derived.Test.YtaclgpkcdbikhaaSlabX
import Derived.Test.YtaclgpkcdbikhaaSlabV
import Derived.Test.YtaclgpkcdbikhaaSlabZ
namespace Go.Proofs.Ytaclgpkcdbikhaa
open Go.RowKit Go.Shelf
attribute [local go_sem] Oper.semAt_some

theorem about_past {zs : List Int} {b : Bk} {pre : List (BkOf zs.length)} {x : BkOf zs.length} (hp : pre ++ [x] <+: blocks zs) (hx : b.at' + b.size ≤ x.1.at') : (raw (pre ++ [x])).foldl (stp b.at' (b.at' + b.size)) (b.at', b.size) = about zs b := by
  obtain ⟨rest, e⟩ := hp
  unfold about
  rw [← e]
  simp only [raw]
  rw [List.map_append (l₂ := rest), List.foldl_append]
  refine (stps_id _ _ ?_).symm
  intro y hy
  obtain ⟨z, hz, rfl⟩ := List.mem_map.1 hy
  have hs := blks_sorted zs 0
  rw [show blks zs 0 = blocks zs from rfl, ← e] at hs
  have := (List.pairwise_append.1 hs).2.2 x (by simp) z hz
  omega
theorem stp_eq {a e f1 f2 : Nat} (x : Bk) : stp a e (f1, f2) x = ((if decide (x.kind = 0 ∧ x.at' + x.size = a) = true then x.at' else f1), (if decide (x.kind = 0 ∧ x.at' = e) = true then (if decide (x.kind = 0 ∧ x.at' + x.size = a) = true then f2 + x.size else f2) + x.size else (if decide (x.kind = 0 ∧ x.at' + x.size = a) = true then f2 + x.size else f2))) := by
  unfold stp
  by_cases h1 : x.kind = 0 ∧ x.at' + x.size = a <;> by_cases h2 : x.kind = 0 ∧ x.at' = e
  · rw [if_pos h2]; simp only [if_pos h1, decide_eq_true h1, decide_eq_true h2, if_true]
  · rw [if_neg h2]; simp only [if_pos h1, decide_eq_true h1, decide_eq_false h2, if_true, Bool.false_eq_true, if_false]
  · rw [if_pos h2]; simp only [if_neg h1, decide_eq_false h1, decide_eq_true h2, if_true, Bool.false_eq_true, if_false]
  · rw [if_neg h2]; simp only [if_neg h1, decide_eq_false h1, decide_eq_false h2, Bool.false_eq_true, if_false]
theorem stp_bd {a e L : Nat} (f : Nat × Nat) (x : Bk) (hx : x.size ≤ L) : (stp a e f x).2 ≤ f.2 + 2 * L := by
  unfold stp
  split <;> split <;> (try simp only) <;> omega
theorem stps_bd {a e L : Nat} : ∀ (l : List (BkOf L)) (f : Nat × Nat), ((raw l).foldl (stp a e) f).2 ≤ f.2 + l.length * (2 * L)
  | [], f => by simp
  | x :: l, f => by
    have h1 := stps_bd (a := a) (e := e) l (stp a e f x.1)
    have h2 := stp_bd (a := a) (e := e) f x.1 (L := L) (by have := x.2; omega)
    simp only [raw, List.map_cons, List.foldl_cons, List.length_cons] at h1 ⊢
    rw [Nat.add_mul]
    omega

/-- What a round of freeAbout has made of the world W it began with: its own block (+2) holds g1, g2. -/
def AbR (w W : World) (nI Bx : Nat) (x : Bk) (a s q g1 g2 : Nat) (wx : World) : Prop :=
  (KeepsOthers W wx ∧ KeepX (fun k => k = w.heap.size + 1 + 1) nI W wx) ∧ (Cells wx Bx 55 (bkC (x.at' : Nat) (x.size : Nat) (x.kind : Nat)) ∧ Cells wx w.heap.size 55 (bkC a s q)) ∧ (Cells wx (w.heap.size + 1) 55 (bkC 0 0 0) ∧ Cells wx (w.heap.size + 1 + 1) 55 (bkC (g1 : Nat) (g2 : Nat) 0)) ∧ Below w.heap.size w wx
theorem AbR.kept {w W : World} {nI Bx : Nat} {x : Bk} {a s q g1 g2 : Nat} {wx wy : World} (h : AbR w W nI Bx x a s q g1 g2 wx) (hk : Kept wx wy) : AbR w W nI Bx x a s q g1 g2 wy := by
  obtain ⟨⟨h1, h2⟩, ⟨h3, h4⟩, ⟨h5, h6⟩, h7⟩ := h
  exact ⟨⟨h1.trans ⟨hk.size, fun k o e _ => (hk.block k (Array.getElem?_eq_some_iff.1 e).1).trans e⟩, h2.t (KeepX.of hk)⟩, ⟨h3.kept hk, h4.kept hk⟩, ⟨h5.kept hk, h6.kept hk⟩, Below.trans h7 (hk.mono h7.size)⟩
theorem AbR.set {w W : World} {nI Bx : Nat} {x : Bk} {a s q g1 g2 : Nat} {wx : World} (h : AbR w W nI Bx x a s q g1 g2 wx) (hB : w.heap.size + 4 ≤ Bx) (v : Int) (n2 : Nat) (hv : v = (n2 : Int)) : AbR w W nI Bx x a s q g1 n2 (wx.setCell ⟨w.heap.size + 1 + 1, 1, none⟩ (.int .i64 v)) := by
  obtain ⟨⟨h1, h2⟩, ⟨h3, h4⟩, ⟨h5, h6⟩, h7⟩ := h
  subst hv
  exact ⟨⟨h1.trans (KeepsOthers.setCell _ _ _), h2.t (KeepX.setCell (X := fun k => k = w.heap.size + 1 + 1) (p := ⟨w.heap.size + 1 + 1, 1, none⟩) rfl _)⟩, ⟨h3.other (by intro h; simp at h; omega) _, h4.other (by intro h; simp at h; omega) _⟩, ⟨h5.other (by intro h; simp at h) _, h6.set 1 _⟩, h7.setCell (p := ⟨w.heap.size + 1 + 1, 1, none⟩) (by simp; omega) _⟩
theorem AbR.set0 {w W : World} {nI Bx : Nat} {x : Bk} {a s q g1 g2 : Nat} {wx : World} (h : AbR w W nI Bx x a s q g1 g2 wx) (hB : w.heap.size + 4 ≤ Bx) (n1 : Nat) : AbR w W nI Bx x a s q n1 g2 (wx.setCell ⟨w.heap.size + 1 + 1, 0, none⟩ (.int .i64 (n1 : Nat))) := by
  obtain ⟨⟨h1, h2⟩, ⟨h3, h4⟩, ⟨h5, h6⟩, h7⟩ := h
  exact ⟨⟨h1.trans (KeepsOthers.setCell _ _ _), h2.t (KeepX.setCell (X := fun k => k = w.heap.size + 1 + 1) (p := ⟨w.heap.size + 1 + 1, 0, none⟩) rfl _)⟩, ⟨h3.other (by intro h; simp at h; omega) _, h4.other (by intro h; simp at h; omega) _⟩, ⟨h5.other (by intro h; simp at h) _, h6.set 0 _⟩, h7.setCell (p := ⟨w.heap.size + 1 + 1, 0, none⟩) (by simp; omega) _⟩
set_option maxRecDepth 100000 in
set_option maxHeartbeats 4000000 in
theorem freeAbout_ok (w : World) (ao : Option Addr) (cap : Nat) (zs : List Int) (a s q : Nat) (hI : Ints w ao zs) (hl : zs.length ≤ 1048576) (hle : a + s ≤ zs.length) :
    Calls Try.prog 63 #[.slice ao zs.length cap, bkV a s q] w fun e w' => e = .returned (bkV ((about zs ⟨a, s, q⟩).1 : Nat) ((about zs ⟨a, s, q⟩).2 : Nat) 0) ∧ Kept w w' := by
  have hL : zs.length * 8 ≤ 140737488351232 := by omega
  have b1 := ((Cells.new w 55 (bkC a s q)).alloc (.cells (bkC 0 0 0) 55)).alloc (.cells (bkC a s 0) 55)
  have b2 := (Cells.new (w.alloc (.cells (bkC a s q) 55)) 55 (bkC 0 0 0)).alloc (.cells (bkC a s 0) 55)
  have b3 := Cells.new ((w.alloc (.cells (bkC a s q) 55)).alloc (.cells (bkC 0 0 0) 55)) 55 (bkC a s 0)
  have k1 : Kept w (((w.alloc (.cells (bkC a s q) 55)).alloc (.cells (bkC 0 0 0) 55)).alloc (.cells (bkC a s 0) 55)) := ((Kept.alloc (Below.refl _ _) _).alloc _).alloc _
  simp only [World.size_alloc] at b1 b2 b3
  refine (callsIn_wide (n := 3)).1 ?_
  refine callsIn_of_wp_marks Try.func63 rfl trivial ?_ rfl
  simp only [Try.ntmps63, List.size_toArray, List.length_cons, List.length_nil, Nat.reduceAdd, Nat.reduceSub, Array.replicate_succ, Array.replicate_zero, List.push_toArray, List.append_toArray, List.nil_append, List.cons_append]
  gi_wp2_with (refine ⟨trivial, ?_⟩; gi_at_call 43; refine (callsIn_wide.2 (blocksOf_ok _ _ _ _)).mono ?_; rintro e w2 ⟨rfl, rfl⟩)
  have bB := Cells.new (((w.alloc (.cells (bkC a s q) 55)).alloc (.cells (bkC 0 0 0) 55)).alloc (.cells (bkC a s 0) 55)) 24 #[.slice ao zs.length cap]
  have b1 := b1.alloc (.cells #[.slice ao zs.length cap] 24)
  have b2 := b2.alloc (.cells #[.slice ao zs.length cap] 24)
  have b3 := b3.alloc (.cells #[.slice ao zs.length cap] 24)
  have k1 := k1.alloc (.cells #[.slice ao zs.length cap] 24)
  have hsz : ((((w.alloc (.cells (bkC a s q) 55)).alloc (.cells (bkC 0 0 0) 55)).alloc (.cells (bkC a s 0) 55)).alloc (.cells #[.slice ao zs.length cap] 24)).heap.size = w.heap.size + 4 := by simp
  simp only [World.size_alloc] at bB
  obtain ⟨W0, hW0⟩ : ∃ W0, (((w.alloc (.cells (bkC a s q) 55)).alloc (.cells (bkC 0 0 0) 55)).alloc (.cells (bkC a s 0) 55)).alloc (.cells #[.slice ao zs.length cap] 24) = W0 := ⟨_, rfl⟩
  rw [hW0] at b1 b2 b3 bB k1 hsz
  simp only [bkC] at hW0
  rw [hW0]
  clear hW0
  refine range_blocks (X := fun k => k = w.heap.size + 1 + 1) (nX := w.heap.size + 3) (zs := zs) (ao := ao) (cap := cap) (by omega) rfl (by simp) (by simp) (by decide) hL hI k1 (by intro k h; omega) (by intro k h; omega) (by intro k h; omega) (by omega) bB
    (fun pre W => ((Cells W w.heap.size 55 (bkC a s q) ∧ Cells W (w.heap.size + 1) 55 (bkC 0 0 0)) ∧ Cells W (w.heap.size + 1 + 1) 55 (bkC (((raw pre).foldl (stp a (a + s)) (a, s)).1 : Nat) (((raw pre).foldl (stp a (a + s)) (a, s)).2 : Nat) 0)) ∧ Below w.heap.size w W)
    (fun c pre W => (c = .exit 0 ∧ ∃ pre' x, pre = pre' ++ [x] ∧ a + s ≤ x.1.at' ∧ Cells W (w.heap.size + 1) 55 (bkC 0 0 0) ∧ Cells W (w.heap.size + 1 + 1) 55 (bkC (((raw pre).foldl (stp a (a + s)) (a, s)).1 : Nat) (((raw pre).foldl (stp a (a + s)) (a, s)).2 : Nat) 0)) ∧ Below w.heap.size w W)
    ?oi ?ox ⟨⟨⟨b1, b2⟩, b3⟩, k1⟩ ?body ?done ?stop
  case oi => exact OwnFrom.and (OwnFrom.and (OwnFrom.and (Own.from (Cells.own _ _ _) _) (Own.from (Cells.own _ _ _) _)) (Own.from (Cells.own _ _ (fun pre => bkC (((raw pre).foldl (stp a (a + s)) (a, s)).1 : Nat) (((raw pre).foldl (stp a (a + s)) (a, s)).2 : Nat) 0)) _)) (ownFrom_below (Nat.le_refl _) (by omega))
  case ox =>
    rintro c s Y Z row ⟨h, hB⟩ hg hr
    obtain ⟨e, pre', x, h1, h2, h4, h5⟩ := h
    exact ⟨⟨e, pre', x, h1, h2, Own.from (Cells.own _ _ (fun _ : Unit => _)) W0.heap.size () Y Z row h4 hg hr, Own.from (Cells.own _ _ (fun _ : Unit => _)) W0.heap.size () Y Z row h5 hg hr⟩, ownFrom_below (Nat.le_refl _) (by omega) s Y Z row hB hg hr⟩
  case body =>
    rintro l pre x W Bx hBx bX ⟨⟨⟨d1, d2⟩, d3⟩, hB1⟩ hlt
    have hx := x.2
    have hcnt := blocks_count zs
    have hbd := stps_bd (a := a) (e := a + s) pre (a, s)
    have hbd2 : pre.length * (2 * zs.length) ≤ 1048576 * (2 * 1048576) := Nat.mul_le_mul (by omega) (by omega)
    have hfs : (raw (pre ++ [x])).foldl (stp a (a + s)) (a, s) = stp a (a + s) ((raw pre).foldl (stp a (a + s)) (a, s)) x.1 := by simp only [raw, List.map_append, List.foldl_append, List.map_cons, List.map_nil, List.foldl_cons, List.foldl_nil]
    obtain ⟨f1, hf1⟩ : ∃ f1, ((raw pre).foldl (stp a (a + s)) (a, s)).1 = f1 := ⟨_, rfl⟩
    obtain ⟨f2, hf2⟩ : ∃ f2, ((raw pre).foldl (stp a (a + s)) (a, s)).2 = f2 := ⟨_, rfl⟩
    have hff : (raw pre).foldl (stp a (a + s)) (a, s) = (f1, f2) := by rw [← hf1, ← hf2]
    rw [hf1, hf2] at d3
    rw [hf2] at hbd
    rw [hff] at hfs
    simp only at hbd
    have hf2b : f2 ≤ 2200000000000 := by omega
    clear hff hf1 hf2 hbd hbd2 hcnt
    have hmix : Try.prog.follows .mixedOrders = true := by kernel_rfl
    have hB4 : w.heap.size + 4 ≤ Bx := by omega
    have r0 : AbR w W W0.heap.size Bx x.1 a s q f1 f2 W := ⟨⟨KeepsOthers.refl _, KeepX.of (Below.refl _ _)⟩, ⟨bX, d1⟩, ⟨d2, d3⟩, hB1⟩
    clear bX d1 d2 d3 hB1 b1 b2 b3 bB k1 hlt
    simp only [List.setIfInBounds_toArray, List.set_cons_succ, List.set_cons_zero]
    gi_wp2_with fail
    obtain ⟨tb, htb⟩ : ∃ tb, decide (x.1.kind = 0 ∧ x.1.at' + x.1.size = a) = tb := ⟨_, rfl⟩
    obtain ⟨tc, htc⟩ : ∃ tc, decide (x.1.kind = 0 ∧ x.1.at' = a + s) = tc := ⟨_, rfl⟩
    obtain ⟨td, htd⟩ : ∃ td, decide (a + s ≤ x.1.at') = td := ⟨_, rfl⟩
    gi_cut [23] from 15 (fun t wx => t = .bool tb ∧ AbR w W W0.heap.size Bx x.1 a s q f1 f2 wx)
    case first =>
      have c0 := r0.2.1.1.cell 0
      have c1 := r0.2.1.1.cell 1
      have c2 := r0.2.1.1.cell 2
      have lX := r0.2.1.1.lt
      have e10 := r0.2.1.2.cell 0
      have l1 := r0.2.1.2.lt
      have HR : Hid (AbR w W W0.heap.size Bx x.1 a s q f1 f2 W) := r0
      clear r0 hfs htc htd
      by_cases hk : x.1.kind = 0
      · have hq' : (((x.1.kind : Nat) : Int) == 0) = true := by simp [hk]
        have htb' : ((((x.1.at' : Nat) : Int) + ((x.1.size : Nat) : Int)) == ((a : Nat) : Int)) = tb := by rw [← htb, Bool.eq_iff_iff]; simp [hk]; omega
        clear hk htb
        gi_region_with_o (first | (refine ⟨trivial, ?_⟩; gi_at_call 47; refine (CallsIn.inRound l (callsIn_wide.2 (free_ok _ _ _ _))).mono ?_; rintro e w4 ⟨rfl, rfl⟩) | (refine ⟨trivial, ?_⟩; gi_at_call 38; refine (CallsIn.inRound l (callsIn_wide.2 (end_ok _ _ _ _ (by omega) (by omega)))).mono ?_; rintro e w4 ⟨rfl, rfl⟩))
        all_goals (gi_wp2_with fail; gi_meet; exact ⟨rfl, HR.out.kept (((Kept.alloc (Below.refl _ _) _).alloc _).drew)⟩)
      · have hq' : (((x.1.kind : Nat) : Int) == 0) = false := by simpa using hk
        obtain rfl : false = tb := by rw [← htb]; simp [hk]
        clear htb
        gi_region_with_o (first | (refine ⟨trivial, ?_⟩; gi_at_call 47; refine (CallsIn.inRound l (callsIn_wide.2 (free_ok _ _ _ _))).mono ?_; rintro e w4 ⟨rfl, rfl⟩) | (refine ⟨trivial, ?_⟩))
        all_goals (gi_wp2_with fail; gi_meet; exact ⟨rfl, HR.out.kept ((Kept.alloc (Below.refl _ _) _).drew)⟩)
    case rest =>
    obtain ⟨rfl, r1⟩ := hcut
    clear r0
    gi_upto_if 23 with fail
    gi_cut [] from 15 (fun wx => AbR w W W0.heap.size Bx x.1 a s q (if tb then x.1.at' else f1) (if tb then f2 + x.1.size else f2) wx)
    case first =>
      have c0 := r1.2.1.1.cell 0
      have c1 := r1.2.1.1.cell 1
      have e0 := r1.2.2.1.2.cell 0
      have e1 := r1.2.2.1.2.cell 1
      have p0 := r1.2.2.1.2.frozen 0
      have p1 := r1.2.2.1.2.frozen 1
      have le := r1.2.2.1.2.lt
      have lX := r1.2.1.1.lt
      have HR : Hid (AbR w W W0.heap.size Bx x.1 a s q f1 f2 wc) := r1
      clear r1 hfs htb htc htd
      cases tb with
      | true =>
        gi_wp2_with fail
        refine pair_ok (by omega) c0 c1 e0 e1 p0 p1 (by omega) (by omega) ?_
        intro _ _ _ _ _ _ _ _ _
        gi_wp2_with fail
        gi_meet
        exact ((HR.out.kept ((Below.refl _ _).drew)).set0 hB4 x.1.at').set hB4 _ (f2 + x.1.size) (by omega)
      | false =>
        gi_wp2_with fail
        gi_meet
        exact HR.out
    case rest =>
    obtain ⟨g1, hg1⟩ : ∃ g1, (if tb then x.1.at' else f1) = g1 := ⟨_, rfl⟩
    obtain ⟨g2, hg2⟩ : ∃ g2, (if tb then f2 + x.1.size else f2) = g2 := ⟨_, rfl⟩
    have r2 := hcut
    rw [hg1, hg2] at r2
    have hg2b : g2 ≤ 2300000000000 := by rw [← hg2]; split <;> omega
    clear r1 hcut
    gi_wp2_with fail
    gi_cut [41] from 15 (fun t wx => t = .bool tc ∧ AbR w W W0.heap.size Bx x.1 a s q g1 g2 wx)
    case first =>
      have c0 := r2.2.1.1.cell 0
      have c1 := r2.2.1.1.cell 1
      have c2 := r2.2.1.1.cell 2
      have lX := r2.2.1.1.lt
      have e10 := r2.2.1.2.cell 0
      have e11 := r2.2.1.2.cell 1
      have e12 := r2.2.1.2.cell 2
      have l1 := r2.2.1.2.lt
      have HR : Hid (AbR w W W0.heap.size Bx x.1 a s q g1 g2 wc) := r2
      clear r2 hfs htb htd hg1 hg2
      by_cases hk : x.1.kind = 0
      · have hq' : (((x.1.kind : Nat) : Int) == 0) = true := by simp [hk]
        have htc' : (((x.1.at' : Nat) : Int) == (((a : Nat) : Int) + ((s : Nat) : Int))) = tc := by rw [← htc, Bool.eq_iff_iff]; simp [hk]; omega
        clear hk htc
        gi_region_with_o (first | (refine ⟨trivial, ?_⟩; gi_at_call 47; refine (CallsIn.inRound l (callsIn_wide.2 (free_ok _ _ _ _))).mono ?_; rintro e w4 ⟨rfl, rfl⟩) | (refine ⟨trivial, ?_⟩; gi_at_call 38; refine (CallsIn.inRound l (callsIn_wide.2 (end_ok _ _ _ _ (by omega) (by omega)))).mono ?_; rintro e w4 ⟨rfl, rfl⟩))
        all_goals (gi_wp2_with fail; gi_meet; exact ⟨rfl, HR.out.kept (((Kept.alloc (Below.refl _ _) _).alloc _).drew)⟩)
      · have hq' : (((x.1.kind : Nat) : Int) == 0) = false := by simpa using hk
        obtain rfl : false = tc := by rw [← htc]; simp [hk]
        clear htc
        gi_region_with_o (first | (refine ⟨trivial, ?_⟩; gi_at_call 47; refine (CallsIn.inRound l (callsIn_wide.2 (free_ok _ _ _ _))).mono ?_; rintro e w4 ⟨rfl, rfl⟩) | (refine ⟨trivial, ?_⟩))
        all_goals (gi_wp2_with fail; gi_meet; exact ⟨rfl, HR.out.kept ((Kept.alloc (Below.refl _ _) _).drew)⟩)
    case rest =>
    obtain ⟨rfl, r3⟩ := hcut
    clear r2
    gi_upto_if 41 with fail
    gi_cut [] from 15 (fun wx => AbR w W W0.heap.size Bx x.1 a s q g1 (if tc then g2 + x.1.size else g2) wx)
    case first =>
      have c0 := r3.2.1.1.cell 0
      have c1 := r3.2.1.1.cell 1
      have e0 := r3.2.2.1.2.cell 0
      have e1 := r3.2.2.1.2.cell 1
      have p1 := r3.2.2.1.2.frozen 1
      have le := r3.2.2.1.2.lt
      have lX := r3.2.1.1.lt
      have HR : Hid (AbR w W W0.heap.size Bx x.1 a s q g1 g2 wc) := r3
      clear r3 hfs htb htc htd hg1 hg2
      cases tc with
      | true =>
        gi_wp2_with fail
        gi_meet
        exact HR.out.set hB4 _ (g2 + x.1.size) (by omega)
      | false =>
        gi_wp2_with fail
        gi_meet
        exact HR.out
    case rest =>
    obtain ⟨g3, hg3⟩ : ∃ g3, (if tc then g2 + x.1.size else g2) = g3 := ⟨_, rfl⟩
    have r4 := hcut
    rw [hg3] at r4
    have hst : (raw (pre ++ [x])).foldl (stp a (a + s)) (a, s) = (g1, g3) := by
      rw [hfs, stp_eq, ← hg3, ← hg1, ← hg2, ← htb, ← htc]
    clear r3 hcut hfs hg1 hg2 hg3 htb htc
    gi_wp2_with fail
    gi_cut [52] from 15 (fun t wx => t = .bool td ∧ AbR w W W0.heap.size Bx x.1 a s q g1 g3 wx)
    case first =>
      have c0 := r4.2.1.1.cell 0
      have c1 := r4.2.1.1.cell 1
      have c2 := r4.2.1.1.cell 2
      have lX := r4.2.1.1.lt
      have e10 := r4.2.1.2.cell 0
      have e11 := r4.2.1.2.cell 1
      have e12 := r4.2.1.2.cell 2
      have l1 := r4.2.1.2.lt
      have HR : Hid (AbR w W W0.heap.size Bx x.1 a s q g1 g3 wc) := r4
      have htd' : decide ((((a : Nat) : Int) + ((s : Nat) : Int)) ≤ ((x.1.at' : Nat) : Int)) = td := by rw [← htd, Bool.eq_iff_iff]; simp; omega
      clear r4 hst htd
      gi_region_with_o (first | (refine ⟨trivial, ?_⟩; gi_at_call 38; refine (CallsIn.inRound l (callsIn_wide.2 (end_ok _ _ _ _ (by omega) (by omega)))).mono ?_; rintro e w4 ⟨rfl, rfl⟩))
      all_goals (gi_wp2_with fail; gi_meet; exact ⟨by first | rfl | (simp [← htd']; done), HR.out.kept ((Kept.alloc (Below.refl _ _) _).drew)⟩)
    case rest =>
    obtain ⟨rfl, r5⟩ := hcut
    have HR : Hid (AbR w W W0.heap.size Bx x.1 a s q g1 g3 wc) := r5
    have HS : Hid ((raw (pre ++ [x])).foldl (stp a (a + s)) (a, s) = (g1, g3)) := hst
    clear r4 r5 hst
    cases td with
    | true =>
      gi_wp2
      obtain ⟨⟨h1, h2⟩, ⟨h3, h4⟩, ⟨h5, h6⟩, h7⟩ := HR.out
      exact ⟨h1.from _, ⟨rfl, pre, x, rfl, by simpa using htd, h5, by rw [HS.out]; exact h6⟩, h7⟩
    | false =>
      gi_wp2
      obtain ⟨⟨h1, h2⟩, ⟨h3, h4⟩, ⟨h5, h6⟩, h7⟩ := HR.out
      exact ⟨h1.from _, h2, ⟨⟨h4, h5⟩, by rw [HS.out]; exact h6⟩, h7⟩
  case done =>
    rintro D W hD ⟨⟨⟨d1, d2⟩, d3'⟩, hB1⟩ hK
    have d3 : Cells W (w.heap.size + 1 + 1) 55 (bkC ((about zs ⟨a, s, q⟩).1 : Nat) ((about zs ⟨a, s, q⟩).2 : Nat) 0) := d3'
    clear d3'
    have e20 := d2.cell 0
    have e21 := d2.cell 1
    have e22 := d2.cell 2
    have f20 := d2.frozen 0
    have f21 := d2.frozen 1
    have f22 := d2.frozen 2
    have e30 := d3.cell 0
    have e31 := d3.cell 1
    have e32 := d3.cell 2
    gi_wp2
    have hK' := (others3 (W := W) (B := w.heap.size + 1) (.int .i64 (about zs ⟨a, s, q⟩).1) (.int .i64 (about zs ⟨a, s, q⟩).2) (.int .i64 0)).same D _ hK rfl
    refine ⟨by simp, .inl ⟨_, _, rfl, run_takeDeferred hK', ?_⟩⟩
    have q2 := (d2.set3 (.int .i64 (about zs ⟨a, s, q⟩).1) (.int .i64 (about zs ⟨a, s, q⟩).2) (.int .i64 0)).put hK' rfl (.deferred none)
    refine ⟨bkV (about zs ⟨a, s, q⟩).1 (about zs ⟨a, s, q⟩).2 0, by simp [results, Try.results63, go_sem, q2.cell 0, q2.cell 1, q2.cell 2], rfl, ?_⟩
    exact (below3 hB1 (by omega) _ _ _).trans (belowK_b (w := w) (Nat.le_refl _) _ D _ _ (by omega) hK' rfl rfl)
  case stop =>
    rintro D c pre W hD hpre ⟨h, hB⟩ hK
    obtain ⟨rfl, pre', x, rfl, hx, d2, d3⟩ := h
    rw [about_past (b := ⟨a, s, q⟩) hpre hx] at d3
    have e20 := d2.cell 0
    have e21 := d2.cell 1
    have e22 := d2.cell 2
    have f20 := d2.frozen 0
    have f21 := d2.frozen 1
    have f22 := d2.frozen 2
    have e30 := d3.cell 0
    have e31 := d3.cell 1
    have e32 := d3.cell 2
    gi_wp2
    have hK' := (others3 (W := W) (B := w.heap.size + 1) (.int .i64 (about zs ⟨a, s, q⟩).1) (.int .i64 (about zs ⟨a, s, q⟩).2) (.int .i64 0)).same D _ hK rfl
    refine ⟨by simp, .inl ⟨_, _, rfl, run_takeDeferred hK', ?_⟩⟩
    have q2 := (d2.set3 (.int .i64 (about zs ⟨a, s, q⟩).1) (.int .i64 (about zs ⟨a, s, q⟩).2) (.int .i64 0)).put hK' rfl (.deferred none)
    refine ⟨bkV (about zs ⟨a, s, q⟩).1 (about zs ⟨a, s, q⟩).2 0, by simp [results, Try.results63, go_sem, q2.cell 0, q2.cell 1, q2.cell 2], rfl, ?_⟩
    exact (below3 hB (by omega) _ _ _).trans (belowK_b (w := w) (Nat.le_refl _) _ D _ _ (by omega) hK' rfl rfl)
end Go.Proofs.Ytaclgpkcdbikhaa
