/-
  The bytes of a text block, as a fact on lists; the contracts of chapter 4's models l4Bytes and TextOf.
-/
import Derived.Laws.BytesArg
import Derived.Maps.AppendAt
import Derived.Test.YtpbafjcoomfooaaGreatZShapeQ
namespace Go.Proofs.YtpbafjcoomfooaaGreat
open Go.RowKit
attribute [local go_sem] Plain.and7

/-- The bytes from place f on, n of them. -/
def bytesL (zs : List Int) (f n : Nat) : List Int := (List.range n).map (fun i => hz zs (f + i))
theorem bytesL_len (zs : List Int) (f n : Nat) : (bytesL zs f n).length = n := by simp [bytesL]
theorem bytesL_at {zs : List Int} {f n i : Nat} (h : i < n) : (bytesL zs f n).getD i 0 = hz zs (f + i) := by simp [bytesL, List.getD, h]
theorem bytesL_succ (zs : List Int) (f n : Nat) : bytesL zs f (n + 1) = bytesL zs f n ++ [hz zs (f + n)] := by simp [bytesL, List.range_succ]
def textL (zs : List Int) (a : Nat) : List Int := bytesL zs (a + 2) (hz zs (a + 1)).toNat
def textOfR (zs : List Int) (v : Int) : ByteArray := if v % 8 = 4 ∧ heapR zs = true ∧ leadsR zs v 0 = true then strOfNums (textL zs (v / 8).toNat) else ⟨#[]⟩

/-- A block of a right heap is right. -/
theorem heapR_blk {zs : List Int} (hh : heapR zs = true) {b : BkOf zs.length} (hb : b ∈ blocks zs) : blkR zs b.1.at' b.1.size b.1.kind = true := by
  unfold heapR at hh
  rw [Bool.and_eq_true] at hh
  exact List.all_eq_true.1 hh.2 b hb
/-- What a text block of a right heap holds. -/
theorem text_facts {zs : List Int} {b : BkOf zs.length} (hh : heapR zs = true) (hb : b ∈ blocks zs) (hk : b.1.kind = 1) :
    ∃ n : Nat, hz zs (b.1.at' + 1) = (n : Int) ∧ n + 2 ≤ b.1.size ∧ ∀ i, i < n → 0 ≤ hz zs (b.1.at' + 2 + i) ∧ hz zs (b.1.at' + 2 + i) ≤ 255 := by
  have h := heapR_blk hh hb
  rw [hk, blk_text] at h
  unfold textR at h
  simp only [Bool.and_eq_true, decide_eq_true_eq, bytesR_iff] at h
  obtain ⟨⟨⟨h0, h1⟩, _⟩, h2⟩ := h
  refine ⟨(hz zs (b.1.at' + 1)).toNat, by omega, by omega, h2⟩
theorem leads_text {zs : List Int} {v : Int} (h4 : v % 8 = 4) (hl : leadsR zs v 0 = true) : ∃ b : BkOf zs.length, atB zs (v / 8) = some b ∧ v / 8 = (b.1.at' : Int) ∧ b.1.kind = 1 ∧ b ∈ blocks zs := by
  unfold leadsR at hl
  simp only [Bool.and_eq_true, Bool.or_eq_true, decide_eq_true_eq, h4] at hl
  obtain ⟨_, hl | hl⟩ := hl
  · omega
  · simp only [wantK, if_true] at hl
    unfold kindAt at hl
    cases hb : atB zs (v / 8) with
    | none => rw [hb] at hl; simp at hl
    | some b =>
      rw [hb] at hl
      obtain ⟨_, e, _, _, _, hm⟩ := atB_some hb
      exact ⟨b, rfl, e.symm, by simp at hl; omega, hm⟩

theorem infoB : (Tryz.prog.info? 5).map (fun i => (i.zero, i.size, i.bytes)) = some (some (.int .u8 0), 1, 1) := by kernel_rfl
/-- string(b), where b is a row of one's own that holds the numbers xs. -/
theorem conv_own {W : World} {base : Nat} {v : Value} {xs : List Int} (h : W.ownsRow base 5 1 v xs.length (xs.map (Value.int .u8))) : (convert 22 9 v).run Tryz.prog W = .ok (.string (strOfNums xs)) W := by
  obtain ⟨hl, ⟨e, hn⟩ | ⟨g, cap, cur, e, hb, hg, h1, h2, h3, h4⟩⟩ := h
  · subst e
    obtain rfl : xs = [] := List.length_eq_zero_iff.1 hn
    exact run_convert_bytes_nil W 22 5 Tryz.underlying22 Tryz.underlying5 0 0 9 Tryz.underlying9
  · subst e
    refine run_convert_bytes_arg W 22 5 Tryz.underlying22 Tryz.underlying5 g 0 xs.length cap xs rfl (fun j hj => ?_) 9 Tryz.underlying9
    simp at hl h4
    have : (cur.toList.take xs.length)[j]? = (xs.map (Value.int .u8))[j]? := by rw [h4]
    rw [List.getElem?_take, if_pos (by omega)] at this
    simp [List.getElem?_eq_getElem hj] at this
    simp only [World.cell?, hg, Nat.zero_add]
    simp [this, List.getD, List.getElem?_eq_getElem hj]

set_option maxHeartbeats 4000000 in
set_option maxRecDepth 100000 in
theorem l4Bytes_ok (w : World) (ao : Option Addr) (cap : Nat) (zs : List Int) (a s n : Nat) (hI : Ints w ao zs) (hl : zs.length ≤ 1048576) (hle : a + s ≤ zs.length) (hn : hz zs (a + 1) = (n : Int)) (hns : n + 2 ≤ s) (hby : ∀ i, i < n → 0 ≤ hz zs (a + 2 + i) ∧ hz zs (a + 2 + i) ≤ 255) :
    Calls Tryz.prog 52 #[.agg #[.slice ao zs.length cap], .int .i64 a] w fun e w' => e = .returned (.string (strOfNums (bytesL zs (a + 2) n))) ∧ Kept w w' := by
  obtain ⟨i0, hi, hz0, hz1, hz2⟩ := info_parts infoB
  have b0 := (Cells.new w 26 #[.slice ao zs.length cap]).alloc (.cells #[] 5)
  have k0 : Kept w ((w.alloc (.cells #[.slice ao zs.length cap] 26)).alloc (.cells #[] 5)) := (Kept.alloc (Below.refl _ _) _).alloc _
  have o0 : ((w.alloc (.cells #[.slice ao zs.length cap] 26)).alloc (.cells #[] 5)).ownsRow (w.heap.size + 1) 5 1 (.slice (some ⟨w.heap.size + 1, 0, none⟩) 0 0) 0 [] := by
    have := World.ownsRow_made (base := w.heap.size + 1) (e := 5) (size := 1) (w.alloc (.cells #[.slice ao zs.length cap] 26)) #[] 0 (by simp) (by unfold maxLen; omega) (by simp)
    simpa using this
  obtain ⟨bb, off, rfl, hc⟩ := hI.at (k := 0) (by omega)
  have hbl : bb < w.heap.size := World.block_lt_of_cell? _ _ (hc 0 (by omega))
  have h1 : w.cell? ⟨bb, off + (a + 1), none⟩ = some (.int .i64 (n : Int)) := by rw [← hn]; exact hc (a + 1) (by omega)
  have hw : ∀ k, k < n → w.cell? ⟨bb, off + (a + 2 + k), none⟩ = some (.int .i64 (hz zs (a + 2 + k))) := fun k hk => hc (a + 2 + k) (by omega)
  have t1 : ((a : Int) + 1).toNat = a + 1 := by omega
  have p1 : (a : Int) + 1 < (zs.length : Int) := by omega
  clear hc hn hI
  go_enter Tryz.func52, Tryz.ntmps52
  go_wp2
  go_loopw [5, 6] (fun v i wr => ∃ k : Nat, i = .int .i64 k ∧ k ≤ n ∧ wr.ownsRow (w.heap.size + 1) 5 1 v (bytesL zs (a + 2) k).length ((bytesL zs (a + 2) k).map (Value.int .u8)) ∧ Cells wr w.heap.size 26 #[.slice (some ⟨bb, off, none⟩) zs.length cap] ∧ Kept w wr ∧ w.heap.size + 1 ≤ wr.heap.size)
    (fun _ i _ => n - (intOf i).toNat)
  case atStart => exact ⟨0, rfl, Nat.zero_le _, o0, b0, k0, by simp⟩
  case round =>
    obtain ⟨k, rfl, hk, hrow, hb, hK, hsz⟩ := hrel
    clear b0 k0 o0
    have cb := hb.cell 0
    have cw1 := (hK.cell (p := ⟨bb, off + (a + 1), none⟩) hbl).trans h1
    have HK : Hid (Kept w wr) := hK
    by_cases hlt : k < n
    · have cw2 := (hK.cell (p := ⟨bb, off + (a + 2 + k), none⟩) hbl).trans (hw k hlt)
      have t2 : ((a : Int) + 2 + (k : Int)).toNat = a + 2 + k := by omega
      have p2 : (a : Int) + 2 + (k : Int) < (zs.length : Int) := by omega
      have p0 : (0 : Int) ≤ (a : Int) + 2 + (k : Int) := by omega
      have u8 := IntWalk.u8_in _ (hby k hlt)
      have g0 := (hby k hlt).1
      have g1 := (hby k hlt).2
      have hll := bytesL_len zs (a + 2) k
      have HS : Hid (bytesL zs (a + 2) (k + 1) = bytesL zs (a + 2) k ++ [hz zs (a + 2 + k)]) := bytesL_succ _ _ _
      clear hK
      go_wp2_with (first | (at_builtin; refine wpList_append_own _ rfl _ _ 22 rfl (w.heap.size + 1) 5 i0 (.int .u8 0) 1 1 Tryz.underlying22 hi hz0 hz1 hz2 rfl (by decide) _ _ _ rfl (hrow.alloc _) ⟨wr.heap.size, 0, none⟩ 1 1 [.int .u8 (hz zs (a + 2 + k))] rfl rfl (cell_one_new _ _ _) (by simp [Value.oneCell']) (by unfold maxLen; omega) (by omega) (by simp; omega) ?_; intro v' w1 hown' hgrow _; have kk : Below (w.heap.size + 1) wr w1 := ((Below.refl _ wr).alloc hsz _).grown hgrow (by simp; omega) (fun j ej => (hrow.lt j ej).1)))
      go_roundw
      case rel => exact ⟨k + 1, by go_num, by omega, by rw [HS.out]; simpa using hown', (kk.block w.heap.size (by omega)).trans hb, Below.trans HK.out (kk.mono (by omega)), Nat.le_trans hsz kk.size⟩
      case measure => simp [intOf]; omega
    · obtain rfl : n = k := by omega
      have hcv := conv_own hrow
      clear hK
      go_wp2
      go_ret
      exact ⟨rfl, HK.out⟩
set_option maxHeartbeats 4000000 in
set_option maxRecDepth 100000 in
theorem spec_TextOf_ok (w : World) (ao : Option Addr) (cap : Nat) (zs : List Int) (v : Int) (hI : Ints w ao zs) (hl : zs.length ≤ 1048576) (hv0 : -9223372036854775808 ≤ v) (hv1 : v ≤ 9223372036854775807) :
    Calls Tryz.prog 16 #[.agg #[.slice ao zs.length cap], .int .i64 v] w fun e w' => e = .returned (.string (textOfR zs v)) ∧ Kept w w' := by
  have b0 := Cells.new w 26 #[.slice ao zs.length cap]
  have k0 : Kept w (w.alloc (.cells #[.slice ao zs.length cap] 26)) := Kept.alloc (Below.refl _ _) _
  have hH := spec_HeapOk_ok _ ao cap zs (hI.kept k0) hl
  by_cases h4 : v % 8 = 4
  · have e4 : (v % 8 != 4) = false := by simp [h4]
    cases hh : heapR zs with
    | false =>
      have HR : Hid (textOfR zs v = ⟨#[]⟩) := by simp [Hid, textOfR, hh]
      rw [hh] at hH
      clear hh hI h4
      go_enter Tryz.func16, Tryz.ntmps16
      go_wp2_with (first | (go_at_call 50; refine (spec_Kind_ok _ _).mono ?_; rintro e wx ⟨rfl, rfl⟩) | (go_at_call 39; refine hH.mono ?_; rintro e w1 ⟨rfl, hk1⟩))
      go_ret
      exact ⟨by rw [HR.out]; rfl, k0.trans hk1⟩
    | true =>
      have hok := heapR_slab hh
      rw [hh] at hH
      have hLd := fun (u : World) (hu : Kept w u) => l3Leads_ok u ao cap zs v 0 (hI.kept hu) hl hok hv0 hv1 (by omega)
      cases hld : leadsR zs v 0 with
      | false =>
        have HR : Hid (textOfR zs v = ⟨#[]⟩) := by simp [Hid, textOfR, hld]
        rw [hld] at hLd
        clear hh hI hld hok h4
        go_enter Tryz.func16, Tryz.ntmps16
        go_wp2_with (first | (go_at_call 50; refine (spec_Kind_ok _ _).mono ?_; rintro e wx ⟨rfl, rfl⟩) | (go_at_call 39; refine hH.mono ?_; rintro e w1 ⟨rfl, hk1⟩; have c1 := (b0.kept hk1).cell 0) | (go_at_call 51; refine (hLd _ (k0.trans hk1)).mono ?_; rintro e w2 ⟨rfl, hk2⟩))
        go_ret
        exact ⟨by rw [HR.out]; rfl, (k0.trans hk1).trans hk2⟩
      | true =>
        obtain ⟨b, hb, e, hk, hm⟩ := leads_text h4 hld
        obtain ⟨n, hn, hns, hby⟩ := text_facts hh hm hk
        have hble := b.2.2.1
        have HR : Hid (textOfR zs v = strOfNums (bytesL zs (b.1.at' + 2) n)) := by
          show _ = _
          unfold textOfR textL
          rw [if_pos ⟨h4, hh, hld⟩, e]
          simp [hn]
        rw [hld] at hLd
        have hB := fun (u : World) (hu : Kept w u) => l4Bytes_ok u ao cap zs b.1.at' b.1.size n (hI.kept hu) hl hble hn hns hby
        obtain ⟨at', hat⟩ : ∃ at' : Nat, b.1.at' = at' := ⟨_, rfl⟩
        rw [hat] at e hB HR
        clear hh hI hld hok h4 hb hk hm hn hns hby hble hat
        go_enter Tryz.func16, Tryz.ntmps16
        go_wp2_with (first | (go_at_call 50; refine (spec_Kind_ok _ _).mono ?_; rintro e wx ⟨rfl, rfl⟩) | (go_at_call 39; refine hH.mono ?_; rintro e w1 ⟨rfl, hk1⟩; have c1 := (b0.kept hk1).cell 0) | (go_at_call 51; refine (hLd _ (k0.trans hk1)).mono ?_; rintro e w2 ⟨rfl, hk2⟩))
        have k2 := (k0.trans hk1).trans hk2
        have x0 : ∀ u, Kept w2.drew u → u.cell? ⟨w.heap.size, 0, none⟩ = some (.slice ao zs.length cap) := fun u hu => (((b0.kept hk1).kept hk2).kept (Kept.trans ((Below.refl _ w2).drew) hu)).cell 0
        have hC1 : Hid (∀ u, Kept w2.drew u → Calls Tryz.prog 53 #[.int .i64 v] u fun e w' => e = .returned (.int .i64 (at' : Int)) ∧ Kept u w') := fun u hu => by
          have := calls_kept (spec_Num_ok v u)
          rw [e] at this
          exact this
        have hC2 : Hid (∀ u, Kept w2.drew u → Calls Tryz.prog 52 #[.agg #[.slice ao zs.length cap], .int .i64 (at' : Int)] u fun e w' => e = .returned (.string (strOfNums (bytesL zs (at' + 2) n))) ∧ Kept u w') := fun u hu => hB u (k2.trans (Kept.trans ((Below.refl _ w2).drew) hu))
        refine wp_region_seqL (by kernel_rfl) (by kernel_rfl) ?_
        repeat (first
          | (refine SeqL.pure ?_ (by rfl) ?_ ?_; rotate_left; (focus (intro u hu; have x0' := x0 u hu; go_simp; first | done | exact rfl)); simp only [Act.put, List.setIfInBounds_toArray, List.set_cons_zero, List.set_cons_succ])
          | (refine SeqL.call _ _ _ (by rfl) ?_ hC1.out ?_; (focus (intro u; go_simp; done)); simp only [Act.put, List.setIfInBounds_toArray, List.set_cons_zero, List.set_cons_succ])
          | (refine SeqL.call _ _ _ (by rfl) ?_ hC2.out ?_; (focus (intro u; go_simp; done)); simp only [Act.put, List.setIfInBounds_toArray, List.set_cons_zero, List.set_cons_succ]))
        refine SeqL.nil ?_
        intro u hu
        go_wp2
        go_ret
        exact ⟨by rw [HR.out]; rfl, k2.trans (Kept.trans ((Below.refl _ w2).drew) hu)⟩
  · have e4 : (v % 8 != 4) = true := by simpa using h4
    have HR : Hid (textOfR zs v = ⟨#[]⟩) := by simp [Hid, textOfR, h4]
    clear hI h4 hH
    go_enter Tryz.func16, Tryz.ntmps16
    go_wp2_with (first | (go_at_call 50; refine (spec_Kind_ok _ _).mono ?_; rintro e wx ⟨rfl, rfl⟩))
    go_ret
    exact ⟨by rw [HR.out]; rfl, k0⟩
end Go.Proofs.YtpbafjcoomfooaaGreat
