/-
  The text of a slab (chapter 19): impl.SlabText, spec.SlabText exactly.
-/
import Derived.Test.YthmabhglmgnamaaDoorWpsA
import Derived.Test.YthmabhglmgnamaaDoorSlabW
import Derived.Test.YthmabhglmgnamaaDoorSlabR
import Derived.Test.YthmabhglmgnamaaDoorSeq
namespace Go.Proofs.YthmabhglmgnamaaDoor
open Go.RowKit
set_option linter.unusedSimpArgs false
set_option linter.unusedVariables false
theorem cellK9 {W W' : World} (hk : Kept W W') {p : Addr} {c : Value} (h : W.cell? p = some c) : W'.cell? p = some c := (hk.cell (World.block_lt_of_cell? _ _ h)).trans h
/-- The letter of a kind of block. -/
def letT (k : Nat) : ByteArray := (⟨#[46, 116, 111, 99, 102, 115]⟩ : ByteArray).extract k (k + 1)
/-- How the block at p is shown. -/
def partT (zs : List Int) (p : Nat) : ByteArray := letT (kd zs p) ++ numT (sz zs p : Nat)
def slabF (zs : List Int) (k : Nat) : ByteArray := if k = 0 then partT zs (hz (places zs) k).toNat else ⟨#[32]⟩ ++ partT zs (hz (places zs) k).toNat
def slabT (zs : List Int) : ByteArray := catF (slabF zs) (places zs).length
theorem letT_size (k : Nat) : (letT k).size ≤ 1 := by
  unfold letT
  rw [ByteArray.size_extract]
  omega
theorem place_at {zs : List Int} {k : Nat} (h : k < (places zs).length) : slabOk zs = true ∧ ∃ p : Nat, hz (places zs) k = (p : Nat) ∧ Good zs p := by
  cases hok : slabOk zs with
  | false => simp [places, hok] at h
  | true =>
    have hl : k < (blocks zs).length := by simpa [places, hok] using h
    have hm := blks_mem zs 0 _ (List.getElem_mem (l := blocks zs) hl)
    exact ⟨rfl, _, by simp [hz, places, hok, hl], hm.1⟩
theorem places_le (zs : List Int) : (places zs).length ≤ 1000 := by
  cases hok : slabOk zs with
  | false => simp [places, hok]
  | true =>
    have h1 := blocks_count zs
    have h2 := slabOk_len hok
    rw [places_len hok]
    omega
theorem partT_size {zs : List Int} {p : Nat} (h : Good zs p) (hl : zs.length ≤ 100000000000000) : (partT zs p).size ≤ 22 := by
  unfold partT
  rw [ByteArray.size_append]
  have h1 := letT_size (kd zs p)
  have h2 := h.le
  have h3 := numT_size (n := (sz zs p : Nat)) (by omega)
  omega
theorem slabF_size {zs : List Int} {k : Nat} (h : k < (places zs).length) : (slabF zs k).size ≤ 23 := by
  obtain ⟨hok, p, hp, hg⟩ := place_at h
  have hl := slabOk_len hok
  have hz1 := partT_size hg (by omega)
  unfold slabF
  rw [hp]
  simp only [Int.toNat_natCast]
  split
  · omega
  · rw [ByteArray.size_append]
    have e : (⟨#[32]⟩ : ByteArray).size = 1 := rfl
    omega
theorem slabC_size {zs : List Int} {k : Nat} (h : k ≤ (places zs).length) : (catF (slabF zs) k).size ≤ 100000 := by
  have h1 := catF_size (F := slabF zs) (c := 23) (n := k) (fun j hj => slabF_size (by omega))
  have h2 := places_le zs
  omega
theorem slice_let {K : Nat} (hK : K ≤ 5) (u : World) : (Instr.slice 9 (.string ⟨#[46, 116, 111, 99, 102, 115]⟩) (some (.int .i64 (K : Nat))) (some (.int .i64 ((K : Int) + 1))) none).run Tryd.prog u = .ok (.string (letT K)) u := by
  have hs : ((⟨#[46, 116, 111, 99, 102, 115]⟩ : ByteArray).size : Nat) = 6 := rfl
  have h := run_slice_string (P := Tryd.prog) u 9 ⟨#[46, 116, 111, 99, 102, 115]⟩ .i64 .i64 (K : Int) ((K : Int) + 1) Tryd.underlying9 (by omega) (by omega) (by rw [hs]; omega)
  rw [show ((K : Int) + 1).toNat = K + 1 by omega, Int.toNat_natCast] at h
  exact h
set_option maxHeartbeats 8000000 in
set_option maxRecDepth 100000 in
theorem blockText_ok (w : World) (ao : Option Addr) (cap : Nat) (zs : List Int) (p : Nat) (hI : Ints w ao zs) (hg : Good zs p) (hL : zs.length * 8 ≤ 140737488351232) (hT : Tab w) :
    Calls Tryd.prog 37 #[.slice ao zs.length cap, .int .i64 (p : Nat)] w fun e w' => e = .returned (.string (partT zs p)) ∧ Kept w w' := by
  have hRB := readBlock_good w ao cap zs p hI hg hL
  have hle := hg.le
  have hk5 := hg.kd5
  have hs := partT_size hg (by omega)
  have HE : Hid (partT zs p = letT (kd zs p) ++ numT (sz zs p : Nat)) := rfl
  obtain ⟨S, hS⟩ : ∃ S, sz zs p = S := ⟨_, rfl⟩
  obtain ⟨K, hK⟩ : ∃ K, kd zs p = K := ⟨_, rfl⟩
  rw [hK] at hRB HE hk5
  rw [hS] at hRB HE hle
  have HIt : Hid (∀ u, Kept w u → Calls Tryd.prog 27 #[.int .i64 (S : Nat)] u fun e w' => e = .returned (.string (numT (S : Nat))) ∧ Kept u w') := fun u hu => Itoa_ok (S : Nat) (by omega) u (hT.kept hu)
  have hzn := numT_size (n := (S : Nat)) (by omega)
  obtain ⟨d, hd⟩ : ∃ d, numT (S : Nat) = d := ⟨_, rfl⟩
  rw [hd] at HIt HE hzn
  have hlz := letT_size K
  have HSL : Hid (∀ u, (Instr.slice 9 (.string ⟨#[46, 116, 111, 99, 102, 115]⟩) (some (.int .i64 (K : Nat))) (some (.int .i64 ((K : Int) + 1))) none).run Tryd.prog u = .ok (.string (letT K)) u) := fun u => slice_let hk5 u
  obtain ⟨l, hlt⟩ : ∃ l, letT K = l := ⟨_, rfl⟩
  rw [hlt] at HE HSL hlz
  have p0 : ¬ 9223372036854775807 < l.size + d.size := by omega
  have q0 : (0 : Int) ≤ (K : Int) := by omega
  have q1 : (K : Int) + 1 ≤ 6 := by omega
  have q2 : ((K : Int) + 1).toNat = K + 1 := by omega
  have q3 : (0 : Int) ≤ (K : Int) + 1 := by omega
  have q4 : (K : Int) ≤ ((K + 1 : Nat) : Int) := by omega
  have qw : IntKind.i64.wrap ((K : Int) + 1) = (K : Int) + 1 := by rw [IntWalk.i64_left, IntWalk.wrap64_in _ (by omega)]
  clear hI hg hL hT hle hs hS hK hd hlz hzn hlt q0 q1 q2 q3 q4
  go_enter Tryd.func37, Tryd.ntmps37
  go_wp2_with (go_at_call 54; refine hRB.mono ?_; rintro e w1 ⟨rfl, hk1⟩; have kA : Kept w (w1.alloc (.cells (bkC p S K) 93)) := hk1.alloc _; have cb := Cells.new w1 93 (bkC p S K))
  obtain ⟨wa, hwa⟩ : ∃ x, w1.alloc (.cells (bkC p S K) 93) = x := ⟨_, rfl⟩
  have hwa' : w1.alloc (.cells #[.int .i64 (p : Nat), .int .i64 (S : Nat), .int .i64 (K : Nat)] 93) = wa := hwa
  rw [hwa] at kA cb
  try simp only [hwa']
  try simp only [hwa]
  have kd : Kept wa wa.drew := (Below.refl _ wa).drew
  have x1 : ∀ u, Kept wa.drew u → u.cell? ⟨w1.heap.size, 1, none⟩ = some (.int .i64 (S : Nat)) := fun u hu => (cb.kept (kd.trans hu)).cell 1
  have x2 : ∀ u, Kept wa.drew u → u.cell? ⟨w1.heap.size, 2, none⟩ = some (.int .i64 (K : Nat)) := fun u hu => (cb.kept (kd.trans hu)).cell 2
  have hIt : Hid (∀ u, Kept wa.drew u → Calls Tryd.prog 27 #[.int .i64 (S : Nat)] u fun e w' => e = .returned (.string d) ∧ Kept u w') := fun u hu => HIt.out u (kA.trans (kd.trans hu))
  have HKD : Hid (Kept w wa.drew) := kA.trans kd
  clear hwa hwa' cb kd kA HIt hk1
  refine wp_region_seqL (by kernel_rfl) (by kernel_rfl) ?_
  repeat (first
    | (refine SeqL.skip (by rfl) ?_; simp only [Act.put, List.setIfInBounds_toArray, List.set_cons_zero, List.set_cons_succ])
    | (refine SeqL.pure ?_ (by rfl) ?_ ?_; rotate_left; (focus (intro u hu; have x1' := x1 u hu; have x2' := x2 u hu; have sl := HSL.out u; go_simp; first | done | exact rfl)); simp only [Act.put, List.setIfInBounds_toArray, List.set_cons_zero, List.set_cons_succ])
    | (refine SeqL.call _ _ _ (by rfl) ?_ hIt.out ?_; (focus (intro u; go_simp; done)); simp only [Act.put, List.setIfInBounds_toArray, List.set_cons_zero, List.set_cons_succ]))
  refine SeqL.nil ?_
  intro u hu
  go_simp
  go_wp2_with fail
  go_ret
  exact ⟨by rw [HE.out]; rfl, Kept.trans HKD.out hu⟩
set_option maxHeartbeats 8000000 in
set_option maxRecDepth 100000 in
theorem slabPart_ok (w : World) (B C : Nat) (ao po : Option Addr) (cap pc : Nat) (zs : List Int) (k : Nat) (hX : Cells w B 38 #[.slice ao zs.length cap]) (hY : Cells w C 33 #[.slice po (places zs).length pc]) (hI : Ints w ao zs) (hP : Ints w po (places zs)) (hk : k < (places zs).length) (hT : Tab w) :
    Calls Tryd.prog 36 #[.int .i64 (k : Nat), .pointer (some ⟨B, 0, none⟩), .pointer (some ⟨C, 0, none⟩)] w fun e w' => e = .returned (.string (slabF zs k)) ∧ Kept w w' := by
  obtain ⟨hok, p, hp, hg⟩ := place_at hk
  have hl := slabOk_len hok
  have hsz := partT_size hg (by omega)
  obtain ⟨pb, off, rfl, hc⟩ := hP.at hk
  have g0 := hc k hk
  rw [hp] at g0
  have kd : Kept w w.drew := (Below.refl _ w).drew
  have x0 : ∀ u, Kept w.drew u → u.cell? ⟨B, 0, none⟩ = some (.slice ao zs.length cap) := fun u hu => (Cells.kept hX (kd.trans hu)).cell 0
  have y0 : ∀ u, Kept w.drew u → u.cell? ⟨C, 0, none⟩ = some (.slice (some ⟨pb, off, none⟩) (places zs).length pc) := fun u hu => (Cells.kept hY (kd.trans hu)).cell 0
  have z0 : ∀ u, Kept w.drew u → u.cell? ⟨pb, off + k, none⟩ = some (.int .i64 (p : Nat)) := fun u hu => cellK9 (kd.trans hu) g0
  have hBt : Hid (∀ u, Kept w.drew u → Calls Tryd.prog 37 #[.slice ao zs.length cap, .int .i64 (p : Nat)] u fun e w' => e = .returned (.string (partT zs p)) ∧ Kept u w') := fun u hu => blockText_ok u ao cap zs p (hI.kept (kd.trans hu)) hg (by omega) (hT.kept (kd.trans hu))
  have HE : Hid (slabF zs k = if k = 0 then partT zs p else ⟨#[32]⟩ ++ partT zs p) := by rw [Hid, slabF, hp, Int.toNat_natCast]
  obtain ⟨D, hD⟩ : ∃ D, partT zs p = D := ⟨_, rfl⟩
  obtain ⟨N, hN⟩ : ∃ N, (places zs).length = N := ⟨_, rfl⟩
  rw [hD] at hBt HE hsz
  rw [hN] at y0 hk
  have p0 : ¬ 9223372036854775807 < 1 + D.size := by omega
  have q1 : (k : Int) < (N : Int) := by omega
  have q0 : (0 : Int) ≤ (k : Int) := by omega
  have HKD : Hid (Kept w w.drew) := kd
  clear hX hY hI hP hT hok hp hg hl hc g0 kd hD hN hsz
  go_enter Tryd.func36, Tryd.ntmps36
  go_wp2_with fail
  refine wp_region_seqL (by kernel_rfl) (by kernel_rfl) ?_
  repeat (first
    | (refine SeqL.skip (by rfl) ?_; simp only [Act.put, List.setIfInBounds_toArray, List.set_cons_zero, List.set_cons_succ])
    | (refine SeqL.pure ?_ (by rfl) ?_ ?_; rotate_left; (focus (intro u hu; have x0' := x0 u hu; have y0' := y0 u hu; have z0' := z0 u hu; go_simp; first | done | exact rfl)); simp only [Act.put, List.setIfInBounds_toArray, List.set_cons_zero, List.set_cons_succ])
    | (refine SeqL.call _ _ _ (by rfl) ?_ hBt.out ?_; (focus (intro u; go_simp; done)); simp only [Act.put, List.setIfInBounds_toArray, List.set_cons_zero, List.set_cons_succ]))
  refine SeqL.nil ?_
  intro u hu
  clear x0 y0 z0
  by_cases h0 : k = 0
  · subst h0
    have HR : Hid (slabF zs 0 = D) := by rw [Hid, HE.out, if_pos rfl]
    go_simp
    go_wp2_with fail
    go_ret
    exact ⟨by rw [HR.out]; rfl, Kept.trans HKD.out hu⟩
  · have HR : Hid (slabF zs k = ⟨#[32]⟩ ++ D) := by rw [Hid, HE.out, if_neg h0]
    have hk0 : (k : Int) ≠ 0 := by omega
    have hk1 : ((k : Int) == 0) = false := by simpa using h0
    go_simp
    go_wp2_with fail
    go_ret
    exact ⟨by rw [HR.out]; rfl, Kept.trans HKD.out hu⟩
set_option maxHeartbeats 8000000 in
set_option maxRecDepth 100000 in
theorem impl_SlabText_ok (w : World) (ao : Option Addr) (cap : Nat) (zs : List Int) (hI : Ints w ao zs) (hL : zs.length * 8 ≤ 140737488351232) (hT : Tab w) :
    Calls Tryd.prog 14 #[.agg #[.slice ao zs.length cap]] w fun e w' => e = .returned (.string (slabT zs)) ∧ Kept w w' := by
  have k0 : Kept w (w.alloc (.cells #[.slice ao zs.length cap] 38)) := Kept.alloc (Below.refl _ _) _
  have b0 := Cells.new w 38 #[.slice ao zs.length cap]
  have hC := impl_Blocks_ok _ ao cap zs (hI.kept k0) hL
  have HW : Hid (∀ (u : World) (C : Nat) (po : Option Addr) (pc : Nat), Kept (w.alloc (.cells #[.slice ao zs.length cap] 38)) u → Cells u C 33 #[.slice po (places zs).length pc] → Ints u po (places zs) →
      Calls Tryd.prog 25 #[.int .i64 ((places zs).length : Nat), .func (.func 36) #[] #[.pointer (some ⟨w.heap.size, 0, none⟩), .pointer (some ⟨C, 0, none⟩)]] u fun e w' => e = .returned (.string (slabT zs)) ∧ Kept u w') := fun u C po pc hu hY hP =>
    writePartsS_ok u (places zs).length _ _ (slabF zs) (by have := places_le zs; omega) (fun k hk => by have := slabC_size hk; omega) (fun k hk => by have := slabF_size hk; omega)
      (fun k hk v hv => slabPart_ok v w.heap.size C ao po cap pc zs k (Cells.kept b0 (hu.trans hv)) (Cells.kept hY hv) (hI.kept (k0.trans (hu.trans hv))) (hP.kept hv) hk (hT.kept (k0.trans (hu.trans hv))))
  have m0 := b0.cell 0
  have HK0 : Hid _ := k0
  clear hI hT k0
  go_enter Tryd.func14, Tryd.ntmps14
  go_wp2_with (go_at_call 35; refine hC.mono ?_; rintro e w1 ⟨v, rfl, hO, hk1⟩; obtain ⟨po, pc, rfl, hP⟩ := hO.ints; have xC := Cells.new w1 33 #[.slice po (places zs).length pc]; have c0 := xC.cell 0; have kC : Kept w1 (w1.alloc (.cells #[.slice po (places zs).length pc] 33)) := Kept.alloc (Below.refl _ _) _; have hW := HW.out _ _ po pc (hk1.trans kC) xC (hP.kept kC))
  refine hW.mono ?_
  rintro e w2 ⟨rfl, hk2⟩
  go_wp2_with fail
  go_ret
  exact ⟨rfl, Kept.trans HK0.out ((hk1.trans kC).trans hk2)⟩
set_option maxHeartbeats 8000000 in
set_option maxRecDepth 100000 in
theorem spec_SlabText_ok (w : World) (ao : Option Addr) (cap : Nat) (zs : List Int) (hI : Ints w ao zs) (hL : zs.length * 8 ≤ 140737488351232) :
    Calls Tryd.prog 12 #[.agg #[.slice ao zs.length cap]] w fun e w' => e = .returned (.string (slabT zs)) ∧ Kept w w' := by
  have k0 : Kept w (w.alloc (.cells #[.slice ao zs.length cap] 38)) := Kept.alloc (Below.refl _ _) _
  have HB0 : Hid _ := Cells.new w 38 #[.slice ao zs.length cap]
  have HK0 : Hid _ := k0
  have HI : Hid (Ints w ao zs) := hI
  have HT : Hid (slabT zs = catF (slabF zs) (places zs).length) := rfl
  have hC := spec_Blocks_ok _ ao cap zs (hI.kept k0) hL
  clear hI k0
  go_enter Tryd.func12, Tryd.ntmps12
  go_wp2_with (go_at_call 31; refine hC.mono ?_; rintro e w1 ⟨v, rfl, hO, hk1⟩; obtain ⟨po, pc, rfl, hP⟩ := hO.ints)
  have HP : Hid (Ints w1 po (places zs)) := hP
  have HK1 : Hid _ := hk1
  clear hP hO hC hk1
  go_loopw [3, 5] (fun ov i wr => ∃ k : Nat, i = .int .i64 k ∧ k ≤ (places zs).length ∧ ov = .string (catF (slabF zs) k) ∧ Hid (Kept w1 wr)) (fun _ i _ => (places zs).length - (intOf i).toNat)
  case atStart => exact ⟨0, rfl, Nat.zero_le _, rfl, Below.refl _ _⟩
  case round =>
    obtain ⟨k, rfl, hk, rfl, hKp⟩ := hrel
    by_cases hlt : k < (places zs).length
    · have hO := slabC_size hk
      obtain ⟨hok, p, hp, hg⟩ := place_at hlt
      have hl := slabOk_len hok
      have hsz := partT_size hg (by omega)
      have kdd : Kept wr wr.drew := (Below.refl _ wr).drew
      have HKD : Hid (Kept w1 wr.drew) := Kept.trans hKp.out kdd
      obtain ⟨pb, off, rfl, hc⟩ := (HP.out.kept HKD.out).at hlt
      have g0 := hc k hlt
      rw [hp] at g0
      have hbd := HI.out.bd p
      obtain ⟨sb, so, rfl, hsc⟩ := ((HI.out.kept (Kept.trans HK0.out HK1.out)).kept HKD.out).at hg.lt
      have s0 := hsc p hg.lt
      have x0 : ∀ u, Kept wr.drew u → u.cell? ⟨w.heap.size, 0, none⟩ = some (.slice (some ⟨sb, so, none⟩) zs.length cap) := fun u hu => (Cells.kept (Cells.kept HB0.out HK1.out) (Kept.trans HKD.out hu)).cell 0
      have y0 : ∀ u, Kept wr.drew u → u.cell? ⟨pb, off + k, none⟩ = some (.int .i64 (p : Nat)) := fun u hu => cellK9 hu g0
      have z0 : ∀ u, Kept wr.drew u → u.cell? ⟨sb, so + p, none⟩ = some (.int .i64 (hz zs p)) := fun u hu => cellK9 hu s0
      have hKd := kdI zs p
      have hSz := hg.szI
      have hk5 := hg.kd5
      have hle := hg.le
      have Hq5 : Hid ((p : Int) < (zs.length : Int)) := by have := hg.lt; rw [Hid]; omega
      have Hq6 : Hid ((0 : Int) ≤ (p : Int)) := by rw [Hid]; omega
      have HN : Hid (catF (slabF zs) (k + 1) = catF (slabF zs) k ++ slabF zs k) := rfl
      have HF : Hid (slabF zs k = if k = 0 then letT (kd zs p) ++ numT (sz zs p : Nat) else ⟨#[32]⟩ ++ (letT (kd zs p) ++ numT (sz zs p : Nat))) := by rw [Hid, slabF, hp, Int.toNat_natCast]; rfl
      have hzn := numT_size (n := (sz zs p : Nat)) (by omega)
      have hlz := letT_size (kd zs p)
      have hKc := fun (u : World) => calls_kept (l2Kind_ok (hz zs p) u)
      have hSc := fun (u : World) => calls_kept (l2Size_ok (hz zs p) u)
      have hDg := fun (u : World) => l7Digits_ok u (sz zs p : Nat) (by omega)
      obtain ⟨z, hze⟩ : ∃ z, hz zs p = z := ⟨_, rfl⟩
      obtain ⟨K, hKe⟩ : ∃ K, kd zs p = K := ⟨_, rfl⟩
      obtain ⟨S, hSe⟩ : ∃ S, sz zs p = S := ⟨_, rfl⟩
      rw [hze] at hKc hSc z0 hKd hSz hbd
      rw [hKe] at hKd HF hk5 hlz
      rw [hSe] at hSz HF hDg hzn
      rw [← hKd] at hKc
      rw [← hSz] at hSc
      have HKc : Hid (∀ W u, Kept W u → Calls Tryd.prog 32 #[.int .i64 z] u fun e w' => e = .returned (.int .i64 (K : Nat)) ∧ Kept u w') := fun _ u _ => hKc u
      have HSc : Hid (∀ W u, Kept W u → Calls Tryd.prog 33 #[.int .i64 z] u fun e w' => e = .returned (.int .i64 (S : Nat)) ∧ Kept u w') := fun _ u _ => hSc u
      obtain ⟨d, hd⟩ : ∃ d, numT (S : Nat) = d := ⟨_, rfl⟩
      obtain ⟨O, hOO⟩ : ∃ O, catF (slabF zs) k = O := ⟨_, rfl⟩
      rw [hd] at HF hzn
      rw [hOO] at HN hO
      have HDg : Hid (∀ W u, Kept W u → Calls Tryd.prog 22 #[.int .i64 (S : Nat)] u fun e w' => e = .returned (.string d) ∧ Kept u w') := fun _ u _ => by have := hDg u; rw [← hd]; exact this
      have HSL : Hid (∀ u, (Instr.slice 9 (.string ⟨#[46, 116, 111, 99, 102, 115]⟩) (some (.int .i64 (K : Nat))) (some (.int .i64 ((K : Int) + 1))) none).run Tryd.prog u = .ok (.string (letT K)) u) := fun u => slice_let hk5 u
      obtain ⟨l, hlt'⟩ : ∃ l, letT K = l := ⟨_, rfl⟩
      rw [hlt'] at HF HSL hlz
      have p0 : ¬ 9223372036854775807 < O.size + l.size := by omega
      have p1 : ¬ 9223372036854775807 < O.size + l.size + d.size := by omega
      have p2 : ¬ 9223372036854775807 < O.size + 1 := by omega
      have HO2 : Hid ((O ++ (⟨#[32]⟩ : ByteArray)).size + l.size + d.size ≤ 1000000) := by
        have e : (⟨#[32]⟩ : ByteArray).size = 1 := rfl
        rw [Hid, ByteArray.size_append]
        omega
      have qa : (k : Int) < ((places zs).length : Int) := by omega
      have qb : (0 : Int) ≤ (k : Int) := by omega
      have HW1 : Hid (wrap64 ((k : Int) + 1) = (k : Int) + 1) := by have := places_le zs; exact IntWalk.wrap64_in _ (by omega)
      have HQW : Hid (IntKind.i64.wrap ((K : Int) + 1) = (K : Int) + 1) := by rw [Hid, IntWalk.i64_left, IntWalk.wrap64_in _ (by omega)]
      simp only [hOO]
      clear hok hp hg hl hsz kdd hc g0 hbd hsc s0 hKd hSz hk5 hle hzn hlz hlt' hKc hSc hDg hze hKe hSe hd hO hOO
      by_cases h0 : k = 0
      · have hk0 : ¬ (0 : Int) < (k : Int) := by omega
        have HQ : Hid (catF (slabF zs) (k + 1) = (O ++ l) ++ d) := by rw [Hid, HN.out, HF.out, if_pos h0, ByteArray.append_assoc]
        clear h0
        go_wp2_with fail
        refine wp_region_seqL (by kernel_rfl) (by kernel_rfl) ?_
        repeat (first
          | (refine SeqL.skip (by rfl) ?_; simp only [Act.put, List.setIfInBounds_toArray, List.set_cons_zero, List.set_cons_succ])
          | (refine SeqL.pure ?_ (by rfl) ?_ ?_; rotate_left; (focus (intro u hu; have x0' := x0 u hu; have y0' := y0 u hu; have z0' := z0 u hu; have q5 := Hq5.out; have q6 := Hq6.out; go_simp; first | done | exact rfl)); simp only [Act.put, List.setIfInBounds_toArray, List.set_cons_zero, List.set_cons_succ]))
        refine SeqL.nil ?_
        intro u1 hu1
        clear x0 y0 z0
        go_simp
        go_wp2_with fail
        refine wp_region_seqL (by kernel_rfl) (by kernel_rfl) ?_
        repeat (first
          | (refine SeqL.skip (by rfl) ?_; simp only [Act.put, List.setIfInBounds_toArray, List.set_cons_zero, List.set_cons_succ])
          | (refine SeqL.pure ?_ (by rfl) ?_ ?_; rotate_left; (focus (intro u hu; have sl := HSL.out u; have qw := HQW.out; go_simp; first | done | exact rfl)); simp only [Act.put, List.setIfInBounds_toArray, List.set_cons_zero, List.set_cons_succ])
          | (refine SeqL.call _ _ _ (by rfl) ?_ (HKc.out _) ?_; (focus (intro u; go_simp; done)); simp only [Act.put, List.setIfInBounds_toArray, List.set_cons_zero, List.set_cons_succ])
          | (refine SeqL.call _ _ _ (by rfl) ?_ (HSc.out _) ?_; (focus (intro u; go_simp; done)); simp only [Act.put, List.setIfInBounds_toArray, List.set_cons_zero, List.set_cons_succ])
          | (refine SeqL.call _ _ _ (by rfl) ?_ (HDg.out _) ?_; (focus (intro u; go_simp; done)); simp only [Act.put, List.setIfInBounds_toArray, List.set_cons_zero, List.set_cons_succ]))
        refine SeqL.nil ?_
        intro u hu
        have hF : Kept w1 u := Kept.trans HKD.out (hu1.trans ((Below.refl _ u1).drew.trans hu))
        go_simp
        go_wp2_with fail
        go_roundw
        case rel => exact ⟨k + 1, by (have hw := HW1.out; go_num), by omega, by rw [HQ.out], hF⟩
        case measure => have hw := HW1.out; simp [intOf]; omega
      · have HQ : Hid (catF (slabF zs) (k + 1) = ((O ++ ⟨#[32]⟩) ++ l) ++ d) := by rw [Hid, HN.out, HF.out, if_neg h0]; simp only [ByteArray.append_assoc]
        have hk0 : (0 : Int) < (k : Int) := by omega
        clear h0
        go_wp2_with fail
        refine wp_region_seqL (by kernel_rfl) (by kernel_rfl) ?_
        repeat (first
          | (refine SeqL.skip (by rfl) ?_; simp only [Act.put, List.setIfInBounds_toArray, List.set_cons_zero, List.set_cons_succ])
          | (refine SeqL.pure ?_ (by rfl) ?_ ?_; rotate_left; (focus (intro u hu; have x0' := x0 u hu; have y0' := y0 u hu; have z0' := z0 u hu; have q5 := Hq5.out; have q6 := Hq6.out; go_simp; first | done | exact rfl)); simp only [Act.put, List.setIfInBounds_toArray, List.set_cons_zero, List.set_cons_succ]))
        refine SeqL.nil ?_
        intro u1 hu1
        clear x0 y0 z0
        obtain ⟨O2, hO2⟩ : ∃ x, O ++ (⟨#[32]⟩ : ByteArray) = x := ⟨_, rfl⟩
        rw [hO2] at HQ HO2
        have HO3 := HO2.out
        have p3 : ¬ 9223372036854775807 < O2.size + l.size := by omega
        have p4 : ¬ 9223372036854775807 < O2.size + l.size + d.size := by omega
        simp only [hO2]
        clear p0 p1 p2 HO3 hO2
        go_simp
        go_wp2_with fail
        refine wp_region_seqL (by kernel_rfl) (by kernel_rfl) ?_
        repeat (first
          | (refine SeqL.skip (by rfl) ?_; simp only [Act.put, List.setIfInBounds_toArray, List.set_cons_zero, List.set_cons_succ])
          | (refine SeqL.pure ?_ (by rfl) ?_ ?_; rotate_left; (focus (intro u hu; have sl := HSL.out u; have qw := HQW.out; go_simp; first | done | exact rfl)); simp only [Act.put, List.setIfInBounds_toArray, List.set_cons_zero, List.set_cons_succ])
          | (refine SeqL.call _ _ _ (by rfl) ?_ (HKc.out _) ?_; (focus (intro u; go_simp; done)); simp only [Act.put, List.setIfInBounds_toArray, List.set_cons_zero, List.set_cons_succ])
          | (refine SeqL.call _ _ _ (by rfl) ?_ (HSc.out _) ?_; (focus (intro u; go_simp; done)); simp only [Act.put, List.setIfInBounds_toArray, List.set_cons_zero, List.set_cons_succ])
          | (refine SeqL.call _ _ _ (by rfl) ?_ (HDg.out _) ?_; (focus (intro u; go_simp; done)); simp only [Act.put, List.setIfInBounds_toArray, List.set_cons_zero, List.set_cons_succ]))
        refine SeqL.nil ?_
        intro u hu
        have hF : Kept w1 u := Kept.trans HKD.out (hu1.trans ((Below.refl _ u1).drew.trans hu))
        go_simp
        go_wp2_with fail
        simp only [HW1.out]
        clear hk0 p3 p4
        go_roundw
        case rel => exact ⟨k + 1, rfl, by omega, by rw [HQ.out], hF⟩
        case measure => simp [intOf]; omega
    · have q1 : ¬ (k : Int) < ((places zs).length : Int) := by omega
      have HF : Hid (catF (slabF zs) k = slabT zs) := by rw [Hid, HT.out, show k = (places zs).length by omega]
      rw [HF.out]
      go_wp2_with fail
      go_ret
      exact ⟨rfl, Kept.trans HK0.out (Kept.trans HK1.out hKp.out)⟩
end Go.Proofs.YthmabhglmgnamaaDoor
