/-
  The contracts of chapter 5's models that go from cell to cell: l5Round, l5Cell.
-/
import Derived.Test.YthkhlmbhickdbaaObjF
import Derived.Test.YthkhlmbhickdbaaSeq
namespace Go.Proofs.Ythkhlmbhickdbaa
open Go.RowKit

/-- The place to which a value leads. -/
def plc (v : Int) : Nat := (v / 8).toNat
theorem plc_is {v : Int} {n : Nat} (h : v / 8 = n) : plc v = n := by unfold plc; omega
/-- The link behind so many cells, or none. -/
def chase (zs : List Int) : Nat → Int → Int
  | 0, v => v
  | n + 1, v => if v = 0 then 0 else chase zs n (hz zs (plc v + 3))
theorem chase_zero (zs : List Int) (n : Nat) : chase zs n 0 = 0 := by cases n <;> simp [chase]
def roundR (zs : List Int) (obj : Int) : Bool := decide (chase zs zs.length (hz zs (plc obj + 2)) ≠ 0)
/-- The first cell of a name from a link on, and the last one ahead of it. -/
def cellF (zs : List Int) (name : Int) : Nat → Int → Int → Int × Int
  | 0, _, last => (-1, last)
  | n + 1, v, last => if v = 0 then (-1, last) else if hz zs (plc v + 1) = name then (((plc v : Nat) : Int), last) else cellF zs name n (hz zs (plc v + 3)) ((plc v : Nat) : Int)
theorem cellF_zero (zs : List Int) (name : Int) (n : Nat) (last : Int) : cellF zs name n 0 last = (-1, last) := by cases n <;> simp [cellF]
theorem cellF_yes {zs : List Int} {name v last : Int} {n a : Nat} (h0 : v ≠ 0) (ha : v / 8 = a) (he : hz zs (a + 1) = name) : cellF zs name (n + 1) v last = (((a : Nat) : Int), last) := by
  simp [cellF, h0, plc_is ha, he]
theorem cellF_no {zs : List Int} {name v last : Int} {n a : Nat} (h0 : v ≠ 0) (ha : v / 8 = a) (he : ¬ hz zs (a + 1) = name) : cellF zs name (n + 1) v last = cellF zs name n (hz zs (a + 3)) ((a : Nat) : Int) := by
  simp [cellF, h0, plc_is ha, he]
/-- It is none, or a cell's place. -/
def cellAt (zs : List Int) (x : Int) : Prop := x = -1 ∨ ∃ a : Nat, x = a ∧ a + 4 ≤ zs.length
theorem cellF_facts {zs : List Int} (hh : heapR zs = true) (name : Int) : ∀ (n : Nat) (v last : Int), nextR zs v 3 = true → cellAt zs last → cellAt zs (cellF zs name n v last).1 ∧ cellAt zs (cellF zs name n v last).2
  | 0, v, last, _, hl => ⟨.inl rfl, hl⟩
  | n + 1, v, last, hv, hl => by
    by_cases h0 : v = 0
    · subst h0; rw [cellF_zero]; exact ⟨.inl rfl, hl⟩
    · obtain ⟨a, s, ha, _, hle, hs, hn⟩ := next_facts hh hv h0
      by_cases he : hz zs (a + 1) = name
      · rw [cellF_yes h0 ha he]; exact ⟨.inr ⟨a, rfl, by omega⟩, hl⟩
      · rw [cellF_no h0 ha he]; exact cellF_facts hh name n _ _ hn (.inr ⟨a, rfl, by omega⟩)

theorem Num_to (v : Int) (a : Nat) (ha : v / 8 = a) (u : World) : Calls Try.prog 71 #[.int .i64 v] u fun e w' => e = .returned (.int .i64 (a : Int)) ∧ Kept u w' := by
  refine (spec_Num_ok v u).mono ?_
  rintro e w' ⟨rfl, rfl⟩
  exact ⟨by rw [ha], Below.refl _ _⟩
set_option maxHeartbeats 8000000 in
set_option maxRecDepth 100000 in
theorem l5Round_ok (w : World) (ao : Option Addr) (cap : Nat) (zs : List Int) (obj : Int) (hI : Ints w ao zs) (hl : zs.length ≤ 1048576) (hh : heapR zs = true) (h5 : obj % 8 = 5) (hv : leadsR zs obj 5 = true) :
    Calls Try.prog 39 #[.agg #[.slice ao zs.length cap], .int .i64 obj] w fun e w' => e = .returned (.bool (roundR zs obj)) ∧ Kept w w' := by
  obtain ⟨a, s, ha, hle, hs, _, _, hnx⟩ := obj_facts hh h5 hv
  have b0 := Cells.new w 28 #[.slice ao zs.length cap]
  have k0 : Kept w (w.alloc (.cells #[.slice ao zs.length cap] 28)) := Kept.alloc (Below.refl _ _) _
  have HR : Hid (roundR zs obj = decide (chase zs zs.length (hz zs (a + 2)) ≠ 0)) := by simp [Hid, roundR, plc_is ha]
  have HH : Hid (heapR zs = true) := hh
  have hN : Hid (∀ u, Kept w u → Calls Try.prog 71 #[.int .i64 obj] u fun e w' => e = .returned (.int .i64 (a : Int)) ∧ Kept u w') := fun u _ => Num_to obj a ha u
  obtain ⟨bb, off, rfl, hc⟩ := hI.at (k := a + 2) (by omega)
  have hcell : ∀ (j : Nat) (u : World), j < zs.length → Kept w u → u.cell? ⟨bb, off + j, none⟩ = some (.int .i64 (hz zs j)) := fun j u hj hu => (hu.cell (p := ⟨bb, off + j, none⟩) (World.block_lt_of_cell? _ _ (hc j hj))).trans (hc j hj)
  have HX : Hid _ := hcell
  have HB : Hid _ := fun (u : World) (hu : Kept (w.alloc (.cells #[.slice (some ⟨bb, off, none⟩) zs.length cap] 28)) u) => (b0.kept hu).cell 0
  have q0 : ∀ u, Kept (w.alloc (.cells #[.slice (some ⟨bb, off, none⟩) zs.length cap] 28)).drew u → u.cell? ⟨w.heap.size, 0, none⟩ = some (.slice (some ⟨bb, off, none⟩) zs.length cap) := fun u hu => HB.out u (Kept.trans (Below.refl _ _).drew hu)
  have q1 : ∀ u, Kept (w.alloc (.cells #[.slice (some ⟨bb, off, none⟩) zs.length cap] 28)).drew u → u.cell? ⟨bb, off + (a + 2), none⟩ = some (.int .i64 (hz zs (a + 2))) := fun u hu => HX.out (a + 2) u (by omega) (k0.trans (Kept.trans (Below.refl _ _).drew hu))
  have hN' : Hid (∀ u, Kept (w.alloc (.cells #[.slice (some ⟨bb, off, none⟩) zs.length cap] 28)).drew u → Calls Try.prog 71 #[.int .i64 obj] u fun e w' => e = .returned (.int .i64 (a : Int)) ∧ Kept u w') := fun u _ => Num_to obj a ha u
  have wr1 : IntKind.i64.wrap ((a : Int) + 2) = (a : Int) + 2 := by rw [IntWalk.i64_left, IntWalk.wrap64_in _ (by omega)]
  have t1 : ((a : Int) + 2).toNat = a + 2 := by omega
  have p1 : (a : Int) + 2 < (zs.length : Int) := by omega
  clear hc hcell hI ha hv h5 hh hN
  go_enter Try.func39, Try.ntmps39
  go_wp2_with fail
  refine wp_region_seqL (by kernel_rfl) (by kernel_rfl) ?_
  repeat (first
    | (refine SeqL.pure ?_ (by rfl) ?_ ?_; rotate_left; (focus (intro u hu; have q0' := q0 u hu; have q1' := q1 u hu; go_simp; first | done | exact rfl)); simp only [Act.put, List.setIfInBounds_toArray, List.set_cons_zero, List.set_cons_succ])
    | (refine SeqL.call _ _ _ (by rfl) ?_ hN'.out ?_; (focus (intro u; go_simp; done)); simp only [Act.put, List.setIfInBounds_toArray, List.set_cons_zero, List.set_cons_succ]))
  refine SeqL.nil ?_
  intro w1 hu1
  have kd1 : Kept (w.alloc (.cells #[.slice (some ⟨bb, off, none⟩) zs.length cap] 28)) w1 := Kept.trans (Below.refl _ _).drew hu1
  obtain ⟨v0, hv0⟩ : ∃ v0, hz zs (a + 2) = v0 := ⟨_, rfl⟩
  rw [hv0] at hnx HR
  simp only [hv0]
  clear q0 q1 hN' wr1 t1 p1 hu1 hv0
  go_wp2_with fail
  go_loopw [5, 6] (fun s5 s6 wr => ∃ (v : Int) (n : Nat), s5 = .int .i64 v ∧ s6 = .int .i64 n ∧ n ≤ zs.length ∧ nextR zs v 3 = true ∧ chase zs (zs.length - n) v = chase zs zs.length v0 ∧ Kept (w.alloc (.cells #[.slice (some ⟨bb, off, none⟩) zs.length cap] 28)) wr) (fun _ s6 _ => zs.length - (intOf s6).toNat)
  case atStart => exact ⟨v0, 0, rfl, rfl, Nat.zero_le _, hnx, rfl, kd1⟩
  case round =>
    obtain ⟨v, n, rfl, rfl, hn, hnv, hch, hK⟩ := hrel
    have q0 := HB.out wr hK
    by_cases hv0' : v = 0
    · subst hv0'
      rw [chase_zero] at hch
      have HF : Hid (roundR zs obj = false) := by show _ = _; rw [HR.out, ← hch]; simp
      have HK : Hid (Kept w wr) := k0.trans hK
      clear hch HR
      go_wp2
      go_ret
      exact ⟨by rw [HF.out]; rfl, HK.out⟩
    · have hv' : (v == 0) = false := by simp [hv0']
      have hv2 : (v != 0) = true := by simp [hv0']
      by_cases hlt : n < zs.length
      · obtain ⟨c, s', hc', _, hle', hs', hnx'⟩ := next_facts HH.out hnv hv0'
        have HC : Hid (chase zs (zs.length - (n + 1)) (hz zs (c + 3)) = chase zs zs.length v0) := by
          show _ = _
          rw [← hch, show zs.length - n = (zs.length - (n + 1)) + 1 by omega, chase, if_neg hv0', plc_is hc']
        have q1 : (n : Int) < (zs.length : Int) := by omega
        have x0 : ∀ u, Kept wr.drew u → u.cell? ⟨w.heap.size, 0, none⟩ = some (.slice (some ⟨bb, off, none⟩) zs.length cap) := fun u hu => HB.out u (hK.trans (Kept.trans (Below.refl _ _).drew hu))
        have x1 : ∀ u, Kept wr.drew u → u.cell? ⟨bb, off + (c + 3), none⟩ = some (.int .i64 (hz zs (c + 3))) := fun u hu => HX.out (c + 3) u (by omega) (k0.trans (hK.trans (Kept.trans (Below.refl _ _).drew hu)))
        have hN' : Hid (∀ u, Kept wr.drew u → Calls Try.prog 71 #[.int .i64 v] u fun e w' => e = .returned (.int .i64 (c : Int)) ∧ Kept u w') := fun u _ => Num_to v c hc' u
        have wr1 : IntKind.i64.wrap ((c : Int) + 3) = (c : Int) + 3 := by rw [IntWalk.i64_left, IntWalk.wrap64_in _ (by omega)]
        have t1 : ((c : Int) + 3).toNat = c + 3 := by omega
        have p1 : (c : Int) + 3 < (zs.length : Int) := by omega
        have HK : Hid _ := hK
        clear hch hnv hv0' hc' hK
        go_wp2_with fail
        refine wp_region_seqL (by kernel_rfl) (by kernel_rfl) ?_
        repeat (first
          | (refine SeqL.pure ?_ (by rfl) ?_ ?_; rotate_left; (focus (intro u hu; have x0' := x0 u hu; have x1' := x1 u hu; go_simp; first | done | exact rfl)); simp only [Act.put, List.setIfInBounds_toArray, List.set_cons_zero, List.set_cons_succ])
          | (refine SeqL.call _ _ _ (by rfl) ?_ hN'.out ?_; (focus (intro u; go_simp; done)); simp only [Act.put, List.setIfInBounds_toArray, List.set_cons_zero, List.set_cons_succ]))
        refine SeqL.nil ?_
        intro u hu
        have hK' := Kept.trans HK.out (Kept.trans (Below.refl _ _).drew hu)
        clear x0 x1 hN' wr1 t1 p1 q0
        go_wp2
        go_roundw
        case rel => exact ⟨_, n + 1, rfl, by go_num, by omega, hnx', HC.out, hK'⟩
        case measure => simp [intOf]; omega
      · have hg : ¬ (n : Int) < (zs.length : Int) := by omega
        have HF : Hid (roundR zs obj = true) := by
          show _ = _
          rw [HR.out, ← hch, show zs.length - n = 0 by omega, chase]
          simp [hv0']
        have HK : Hid (Kept w wr) := k0.trans hK
        clear hch HR
        go_wp2
        go_ret
        exact ⟨by rw [HF.out]; rfl, HK.out⟩
set_option maxHeartbeats 8000000 in
set_option maxRecDepth 100000 in
theorem l5Cell_ok (w : World) (ao : Option Addr) (cap : Nat) (zs : List Int) (obj name : Int) (hI : Ints w ao zs) (hl : zs.length ≤ 1048576) (hh : heapR zs = true) (h5 : obj % 8 = 5) (hv : leadsR zs obj 5 = true) :
    Calls Try.prog 70 #[.agg #[.slice ao zs.length cap], .int .i64 obj, .int .i64 name] w fun e w' => e = .returned (.tuple #[.int .i64 (cellF zs name zs.length (hz zs (plc obj + 2)) (-1)).1, .int .i64 (cellF zs name zs.length (hz zs (plc obj + 2)) (-1)).2]) ∧ Kept w w' := by
  obtain ⟨a, s, ha, hle, hs, _, _, hnx⟩ := obj_facts hh h5 hv
  rw [plc_is ha]
  have b0 := Cells.new w 28 #[.slice ao zs.length cap]
  have k0 : Kept w (w.alloc (.cells #[.slice ao zs.length cap] 28)) := Kept.alloc (Below.refl _ _) _
  have HH : Hid (heapR zs = true) := hh
  obtain ⟨bb, off, rfl, hc⟩ := hI.at (k := a + 2) (by omega)
  have hcell : ∀ (j : Nat) (u : World), j < zs.length → Kept w u → u.cell? ⟨bb, off + j, none⟩ = some (.int .i64 (hz zs j)) := fun j u hj hu => (hu.cell (p := ⟨bb, off + j, none⟩) (World.block_lt_of_cell? _ _ (hc j hj))).trans (hc j hj)
  have HX : Hid _ := hcell
  have HB : Hid _ := fun (u : World) (hu : Kept (w.alloc (.cells #[.slice (some ⟨bb, off, none⟩) zs.length cap] 28)) u) => (b0.kept hu).cell 0
  have q0 : ∀ u, Kept (w.alloc (.cells #[.slice (some ⟨bb, off, none⟩) zs.length cap] 28)).drew u → u.cell? ⟨w.heap.size, 0, none⟩ = some (.slice (some ⟨bb, off, none⟩) zs.length cap) := fun u hu => HB.out u (Kept.trans (Below.refl _ _).drew hu)
  have q1 : ∀ u, Kept (w.alloc (.cells #[.slice (some ⟨bb, off, none⟩) zs.length cap] 28)).drew u → u.cell? ⟨bb, off + (a + 2), none⟩ = some (.int .i64 (hz zs (a + 2))) := fun u hu => HX.out (a + 2) u (by omega) (k0.trans (Kept.trans (Below.refl _ _).drew hu))
  have hN' : Hid (∀ u, Kept (w.alloc (.cells #[.slice (some ⟨bb, off, none⟩) zs.length cap] 28)).drew u → Calls Try.prog 71 #[.int .i64 obj] u fun e w' => e = .returned (.int .i64 (a : Int)) ∧ Kept u w') := fun u _ => Num_to obj a ha u
  have wr1 : IntKind.i64.wrap ((a : Int) + 2) = (a : Int) + 2 := by rw [IntWalk.i64_left, IntWalk.wrap64_in _ (by omega)]
  have t1 : ((a : Int) + 2).toNat = a + 2 := by omega
  have p1 : (a : Int) + 2 < (zs.length : Int) := by omega
  clear hc hcell hI ha hv h5 hh
  obtain ⟨R, hRd⟩ : ∃ R, cellF zs name zs.length (hz zs (a + 2)) (-1) = R := ⟨_, rfl⟩
  rw [hRd]
  go_enter Try.func70, Try.ntmps70
  go_wp2_with fail
  refine wp_region_seqL (by kernel_rfl) (by kernel_rfl) ?_
  repeat (first
    | (refine SeqL.pure ?_ (by rfl) ?_ ?_; rotate_left; (focus (intro u hu; have q0' := q0 u hu; have q1' := q1 u hu; go_simp; first | done | exact rfl)); simp only [Act.put, List.setIfInBounds_toArray, List.set_cons_zero, List.set_cons_succ])
    | (refine SeqL.call _ _ _ (by rfl) ?_ hN'.out ?_; (focus (intro u; go_simp; done)); simp only [Act.put, List.setIfInBounds_toArray, List.set_cons_zero, List.set_cons_succ]))
  refine SeqL.nil ?_
  intro w1 hu1
  have kd1 : Kept (w.alloc (.cells #[.slice (some ⟨bb, off, none⟩) zs.length cap] 28)) w1 := Kept.trans (Below.refl _ _).drew hu1
  clear q0 q1 hN' wr1 t1 p1 hu1
  go_wp2_with fail
  go_loopw [8, 9, 10] (fun s8 s9 s10 wr => ∃ (last v : Int) (n : Nat), s8 = .int .i64 last ∧ s9 = .int .i64 v ∧ s10 = .int .i64 n ∧ n ≤ zs.length ∧ nextR zs v 3 = true ∧ cellF zs name (zs.length - n) v last = R ∧ Kept (w.alloc (.cells #[.slice (some ⟨bb, off, none⟩) zs.length cap] 28)) wr) (fun _ _ s10 _ => zs.length - (intOf s10).toNat)
  case atStart => exact ⟨-1, _, 0, rfl, rfl, rfl, Nat.zero_le _, hnx, hRd, kd1⟩
  case round =>
    obtain ⟨last, v, n, rfl, rfl, rfl, hn, hnv, hch, hK⟩ := hrel
    have q0 := HB.out wr hK
    have HK : Hid (Kept w wr) := k0.trans hK
    by_cases hv0' : v = 0
    · subst hv0'
      rw [cellF_zero] at hch
      have HF : Hid ((-1, last) = R) := hch
      clear hch hRd hK
      go_wp2
      refine bodyPost_ret (v := .tuple #[.int .i64 (-1), .int .i64 last]) (by simp [results, Try.results70, go_sem]) rfl ⟨by rw [← HF.out], HK.out⟩
    · have hv' : (v == 0) = false := by simp [hv0']
      have hv2 : (v != 0) = true := by simp [hv0']
      by_cases hlt : n < zs.length
      · obtain ⟨c, s', hc', _, hle', hs', hnx'⟩ := next_facts HH.out hnv hv0'
        have q1 : (n : Int) < (zs.length : Int) := by omega
        have x1 := HX.out (c + 1) wr (by omega) HK.out
        have x3 := HX.out (c + 3) wr (by omega) HK.out
        have wr1 : IntKind.i64.wrap ((c : Int) + 1) = (c : Int) + 1 := by rw [IntWalk.i64_left, IntWalk.wrap64_in _ (by omega)]
        have t1 : ((c : Int) + 1).toNat = c + 1 := by omega
        have p1 : (c : Int) + 1 < (zs.length : Int) := by omega
        have wr3 : IntKind.i64.wrap ((c : Int) + 3) = (c : Int) + 3 := by rw [IntWalk.i64_left, IntWalk.wrap64_in _ (by omega)]
        have t3 : ((c : Int) + 3).toNat = c + 3 := by omega
        have p3 : (c : Int) + 3 < (zs.length : Int) := by omega
        have hN' := (spec_Num_ok v wr)
        rw [hc'] at hN'
        have hsn : zs.length - n = (zs.length - (n + 1)) + 1 := by omega
        rw [hsn] at hch
        by_cases he : hz zs (c + 1) = name
        · rw [cellF_yes hv0' hc' he] at hch
          have he' : (hz zs (c + 1) == name) = true := by simp [he]
          have HF : Hid ((((c : Nat) : Int), last) = R) := hch
          clear hch hRd hK hnv he hc' hsn hv0'
          go_wp2_with (go_at_call 71; refine hN'.mono ?_; rintro e wx ⟨rfl, rfl⟩)
          refine bodyPost_ret (v := .tuple #[.int .i64 (c : Int), .int .i64 last]) (by simp [results, Try.results70, go_sem]) rfl ⟨by rw [← HF.out], HK.out⟩
        · rw [cellF_no hv0' hc' he] at hch
          have he' : (hz zs (c + 1) == name) = false := by simp [he]
          have HF : Hid _ := hch
          have HK2 : Hid _ := hK
          clear hch hRd hK hnv he hc' hsn hv0'
          go_wp2_with (go_at_call 71; refine hN'.mono ?_; rintro e wx ⟨rfl, rfl⟩)
          go_roundw
          case rel => exact ⟨_, _, n + 1, rfl, rfl, by go_num, by omega, hnx', HF.out, HK2.out⟩
          case measure => simp [intOf]; omega
      · have hg : ¬ (n : Int) < (zs.length : Int) := by omega
        rw [show zs.length - n = 0 by omega, cellF] at hch
        have HF : Hid ((-1, last) = R) := hch
        clear hch hRd hK
        go_wp2
        refine bodyPost_ret (v := .tuple #[.int .i64 (-1), .int .i64 last]) (by simp [results, Try.results70, go_sem]) rfl ⟨by rw [← HF.out], HK.out⟩
end Go.Proofs.Ythkhlmbhickdbaa
