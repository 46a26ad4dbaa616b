/-
  The contracts of chapter 2's functions of the program that read alone: KindAt, SizeAt, Room, firstFree, freeAbout, Blocks.
-/
import Derived.Test.YtaclgpkcdbikhaaSlabU
namespace Go.Proofs.Ytaclgpkcdbikhaa
open Go.RowKit Go.Shelf
attribute [local go_sem] Oper.semAt_some

theorem impl_KindAt_ok (w : World) (ao : Option Addr) (cap : Nat) (zs : List Int) (a : Int) (hI : Ints w ao zs) (hL : zs.length * 8 ≤ 140737488351232) :
    Calls Try.prog 13 #[.agg #[.slice ao zs.length cap], .int .i64 a] w fun e w' => e = .returned (.int .i64 (kindAt zs a)) ∧ Kept w w' := by
  have k0 : Kept w (w.alloc (.cells #[.slice ao zs.length cap] 26)) := Kept.alloc (Below.refl _ _) _
  have hF := findBlock_ok _ ao cap zs a (hI.kept k0) hL
  unfold fbV at hF
  unfold kindAt
  cases hb : atB zs a with
  | none =>
    rw [hb] at hF
    clear hb hI
    go_enter Try.func13, Try.ntmps13
    go_wp2_with (go_at_call 46; refine hF.mono ?_; rintro e w1 ⟨rfl, hk1⟩)
    go_ret
    exact ⟨rfl, (k0.trans hk1).alloc _⟩
  | some b =>
    rw [hb] at hF
    clear hb hI
    go_enter Try.func13, Try.ntmps13
    go_wp2_with (go_at_call 46; refine hF.mono ?_; rintro e w1 ⟨rfl, hk1⟩)
    go_ret
    exact ⟨rfl, (k0.trans hk1).alloc _⟩
theorem impl_SizeAt_ok (w : World) (ao : Option Addr) (cap : Nat) (zs : List Int) (a : Int) (hI : Ints w ao zs) (hL : zs.length * 8 ≤ 140737488351232) :
    Calls Try.prog 14 #[.agg #[.slice ao zs.length cap], .int .i64 a] w fun e w' => e = .returned (.int .i64 (sizeAt zs a)) ∧ Kept w w' := by
  have k0 : Kept w (w.alloc (.cells #[.slice ao zs.length cap] 26)) := Kept.alloc (Below.refl _ _) _
  have hF := findBlock_ok _ ao cap zs a (hI.kept k0) hL
  unfold fbV at hF
  unfold sizeAt
  cases hb : atB zs a with
  | none =>
    rw [hb] at hF
    clear hb hI
    go_enter Try.func14, Try.ntmps14
    go_wp2_with (go_at_call 46; refine hF.mono ?_; rintro e w1 ⟨rfl, hk1⟩)
    go_ret
    exact ⟨rfl, (k0.trans hk1).alloc _⟩
  | some b =>
    rw [hb] at hF
    clear hb hI
    go_enter Try.func14, Try.ntmps14
    go_wp2_with (go_at_call 46; refine hF.mono ?_; rintro e w1 ⟨rfl, hk1⟩)
    go_ret
    exact ⟨rfl, (k0.trans hk1).alloc _⟩
theorem blocks_count (zs : List Int) : 2 * (blocks zs).length ≤ zs.length := by
  refine blks_ind zs (P := fun k => k ≤ zs.length → k + 2 * (blks zs k).length ≤ zs.length) (fun k h ih hk => ?_) (fun k h hk => by rw [blks_no h]; simpa using hk) 0 (Nat.zero_le _) |> (fun h => by have : 0 + 2 * (blks zs 0).length ≤ zs.length := h; unfold blocks; omega)
  have := ih h.le
  have := h.sz2
  rw [blks_yes h]
  simp only [List.length_cons]
  omega
theorem slabOk_len {zs : List Int} (h : slabOk zs = true) : zs.length ≤ 2000 := (slabOk_iff.1 h).1
theorem roomOf_any {L : Nat} (pre : List (BkOf L)) : roomOf pre ≤ pre.length * L := by
  induction pre with
  | nil => simp [roomOf]
  | cons b bs ih =>
    have := b.2.2.1
    have h2 : (if b.1.kind = 0 then b.1.size else 0) ≤ L := by split <;> omega
    simp only [roomOf, List.length_cons, Nat.add_mul, Nat.one_mul]
    omega
theorem roomOf_pre {zs : List Int} {pre : List (BkOf zs.length)} (h : pre <+: blocks zs) : roomOf pre ≤ zs.length := by
  obtain ⟨r, e⟩ := h
  have := roomOf_le zs 0 (Nat.zero_le _)
  rw [show blks zs 0 = blocks zs from rfl, ← e, roomOf_append] at this
  omega
set_option maxRecDepth 100000 in
set_option maxHeartbeats 2000000 in
theorem impl_Room_ok (w : World) (ao : Option Addr) (cap : Nat) (zs : List Int) (hI : Ints w ao zs) (hL : zs.length * 8 ≤ 140737488351232) :
    Calls Try.prog 16 #[.agg #[.slice ao zs.length cap]] w fun e w' => e = .returned (.int .i64 (room zs : Nat)) ∧ Kept w w' := by
  have b0 := Cells.new w 26 #[.slice ao zs.length cap]
  have k0 : Kept w (w.alloc (.cells #[.slice ao zs.length cap] 26)) := Kept.alloc (Below.refl _ _) _
  cases hok : slabOk zs with
  | false =>
    have HO : Hid (slabOk zs = false) := hok
    clear hok
    go_enter Try.func16, Try.ntmps16
    go_wp2_with (go_at_call 11; refine (impl_SlabOk_ok _ ao cap zs (hI.kept k0) hL).mono ?_; rintro e w1 ⟨rfl, hk1⟩; rw [HO.out])
    go_ret
    exact ⟨by simp [room, HO.out], k0.trans hk1⟩
  | true =>
    have HO : Hid (slabOk zs = true) := hok
    have hlen := slabOk_len hok
    clear hok
    refine (callsIn_wide (n := 3)).1 ?_
    refine callsIn_of_wp_marks Try.func16 rfl trivial ?_ rfl
    simp only [Try.ntmps16, List.size_toArray, List.length_cons, List.length_nil, Nat.reduceAdd, Nat.reduceSub, Array.replicate_succ, Array.replicate_zero, List.push_toArray, List.append_toArray, List.nil_append, List.cons_append]
    gi_wp2_with (first | (refine ⟨trivial, ?_⟩; gi_at_call 11; refine (callsIn_wide.2 (impl_SlabOk_ok _ ao cap zs (hI.kept k0) hL)).mono ?_; rintro e w1 ⟨rfl, hk1⟩; rw [HO.out]; have c0 := ((b0.kept hk1).alloc (.cells #[.int .i64 0] 3)).cell 0; have l0 := (b0.kept hk1).lt; have c0' := (b0.kept hk1).cell 0) | (refine ⟨trivial, ?_⟩; gi_at_call 43; refine (callsIn_wide.2 (blocksOf_ok _ _ _ _)).mono ?_; rintro e w2 ⟨rfl, rfl⟩))
    have bB := Cells.new (w1.alloc (.cells #[.int .i64 0] 3)) 24 #[.slice ao zs.length cap]
    have bE := (Cells.new w1 3 #[.int .i64 0]).alloc (.cells #[.slice ao zs.length cap] 24)
    have k1 := ((k0.trans hk1).alloc (.cells #[.int .i64 0] 3)).alloc (.cells #[.slice ao zs.length cap] 24)
    have hs1 : w.heap.size + 1 ≤ w1.heap.size := by have := hk1.size; simp at this; omega
    have hsz : ((w1.alloc (.cells #[.int .i64 0] 3)).alloc (.cells #[.slice ao zs.length cap] 24)).heap.size = w1.heap.size + 2 := by simp
    simp only [World.size_alloc] at bB
    obtain ⟨W0, hW0⟩ : ∃ W0, (w1.alloc (.cells #[.int .i64 0] 3)).alloc (.cells #[.slice ao zs.length cap] 24) = W0 := ⟨_, rfl⟩
    rw [hW0] at bB bE k1 hsz ⊢
    clear hW0 b0 c0 c0' k0
    refine range_blocks (X := fun k => k = w1.heap.size) (nX := w1.heap.size + 1) (zs := zs) (ao := ao) (cap := cap) (by omega) rfl (by simp) (by simp) (by decide) hL hI k1 (by intro k h; omega) (by intro k h; omega) (by intro k h; omega) (by omega) bB
      (fun pre W => Cells W w1.heap.size 3 #[.int .i64 ((roomOf pre : Nat) : Int)] ∧ Below w.heap.size w W)
      (fun _ _ _ => False) ?oi (fun _ _ _ _ _ hs _ _ => hs) ⟨bE, k1⟩ ?body ?done ?stop
    case oi => exact OwnFrom.and (Own.from (Cells.own _ _ (fun pre => #[.int .i64 ((roomOf pre : Nat) : Int)])) _) (ownFrom_below (Nat.le_refl _) (by omega))
    case body =>
      rintro l pre x W Bx hBx bX ⟨d1, hB1⟩ hlt
      have hx := x.2
      have c0 := bX.cell 0
      have c1 := bX.cell 1
      have c2 := bX.cell 2
      have lX := bX.lt
      have e1 := d1.cell 0
      have f1 := d1.frozen 0
      have l1 := d1.lt
      have hr0 := roomOf_any pre
      have hr1 := blocks_count zs
      have hr2 : pre.length * zs.length ≤ 1000 * 2000 := Nat.mul_le_mul (by omega) hlen
      have hr3 : roomOf pre ≤ 2000000 := by omega
      clear hr0 hr1 hr2
      simp only [List.setIfInBounds_toArray, List.set_cons_succ, List.set_cons_zero]
      by_cases hq : x.1.kind = 0
      · have hq' : (((x.1.kind : Nat) : Int) == 0) = true := by simp [hq]
        gi_wp2_with (refine ⟨trivial, ?_⟩; gi_at_call 47; refine (CallsIn.inRound l (callsIn_wide.2 (free_ok _ _ _ _))).mono ?_; rintro e w4 ⟨rfl, rfl⟩)
        refine ⟨((KeepsOthers.setCell _ _ _).trans (KeepsOthers.alloc _ _)).from _, (KeepX.setCell (X := fun k => k = w1.heap.size) (p := ⟨w1.heap.size, 0, none⟩) rfl _).t (KeepX.of (Kept.alloc (Below.refl _ _) _)), ?_, (hB1.setCell (p := ⟨w1.heap.size, 0, none⟩) (by simp; omega) _).alloc (by have := hB1.size; simpa [World.setCell] using this) _⟩
        have hr : ((roomOf (pre ++ [x]) : Nat) : Int) = (roomOf pre : Nat) + (x.1.size : Nat) := by rw [roomOf_append]; simp [roomOf, hq]
        rw [hr]
        exact (d1.set1 _).alloc _
      · have hq' : (((x.1.kind : Nat) : Int) == 0) = false := by simpa using hq
        gi_wp2_with (refine ⟨trivial, ?_⟩; gi_at_call 47; refine (CallsIn.inRound l (callsIn_wide.2 (free_ok _ _ _ _))).mono ?_; rintro e w4 ⟨rfl, rfl⟩)
        refine ⟨(KeepsOthers.alloc _ _).from _, KeepX.of (Kept.alloc (Below.refl _ _) _), ?_, hB1.alloc hB1.size _⟩
        have hr : roomOf (pre ++ [x]) = roomOf pre := by rw [roomOf_append]; simp [roomOf, hq]
        rw [hr]
        exact d1.alloc _
    case done =>
      rintro D W hD ⟨d1, hB1⟩ hK
      have e1 := d1.cell 0
      gi_wp2
      refine ⟨by simp, .inl ⟨_, _, rfl, run_takeDeferred hK, ?_⟩⟩
      refine ⟨_, results_tmp rfl _ _ _, ?_, hB1.trans (belowK_b (w := w) (Nat.le_refl _) W D _ _ (by omega) hK rfl rfl)⟩
      simp [room, HO.out]
    case stop =>
      rintro D c pre W _ _ h _
      exact h.elim
end Go.Proofs.Ytaclgpkcdbikhaa
