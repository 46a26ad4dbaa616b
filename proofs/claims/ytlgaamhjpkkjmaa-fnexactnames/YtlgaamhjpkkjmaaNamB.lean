/-
  The contract of chapter 5's model Names.
-/
import Derived.Test.YtlgaamhjpkkjmaaNamP
namespace Go.Proofs.Ytlgaamhjpkkjmaa
open Go.RowKit

theorem names_is {zs : List Int} {obj : Int} : namesR zs obj = (isR zs [obj] 5 && !roundR zs obj) := by
  unfold namesR isR isOb
  rw [roots1, show hz [obj] 0 = obj from rfl]
  by_cases h5 : obj % 8 = 5
  · rw [leads_any (v := obj) (by omega) 5 0]
    simp [h5]
  · simp [h5]
/-- Behind so many cells. -/
theorem Path.step {zs : List Int} {ps : List Nat} {v v' : Int} {k p : Nat} (h : Path zs v (ps.drop k) v') (hp : ps[k]? = some p) : v ≠ 0 ∧ plc v = p ∧ Path zs (hz zs (p + 3)) (ps.drop (k + 1)) v' := by
  obtain ⟨hk, e⟩ := List.getElem?_eq_some_iff.1 hp
  rw [List.drop_eq_getElem_cons hk, e] at h
  exact h

set_option maxHeartbeats 8000000 in
set_option maxRecDepth 100000 in
theorem spec_Names_ok (w : World) (ao : Option Addr) (cap : Nat) (zs : List Int) (obj : Int) (hI : Ints w ao zs) (hl : zs.length ≤ 1048576) (ho : -9223372036854775808 ≤ obj ∧ obj ≤ 9223372036854775807) :
    Calls Try.prog 24 #[.agg #[.slice ao zs.length cap], .int .i64 obj] w fun e w' => ∃ v ps, e = .returned v ∧ OwnS w' w.heap.size v (txtsP zs ps) ∧ ((namesR zs obj = false ∧ ps = []) ∨ (namesR zs obj = true ∧ Path zs (hz zs (plc obj + 2)) ps 0)) ∧ Kept w w' := by
  obtain ⟨i0, hi, hz0, hz1, hz2⟩ := info_parts infoS
  have b0 := (Cells.new w 27 #[.slice ao zs.length cap]).alloc (.cells #[] 9)
  have k0 : Kept w ((w.alloc (.cells #[.slice ao zs.length cap] 27)).alloc (.cells #[] 9)) := (Kept.alloc (Below.refl _ _) _).alloc _
  have o0 : OwnS ((w.alloc (.cells #[.slice ao zs.length cap] 27)).alloc (.cells #[] 9)) (w.heap.size + 1) (.slice (some ⟨w.heap.size + 1, 0, none⟩) 0 0) (txtsP zs []) := by
    have := World.ownsRow_made (base := w.heap.size + 1) (e := 9) (size := 1) (w.alloc (.cells #[.slice ao zs.length cap] 27)) #[] 0 (by simp) (by unfold maxLen; omega) (by simp)
    simpa [OwnS, txtsP] using this
  have hL := l5Is_at _ ao cap zs [obj] 1 5 #[.int .i64 obj] rfl rfl (by simpa using ho) (by omega) (by omega) (hI.kept k0) hl
  simp only [World.size_alloc] at hL
  have c0 := b0.cell 0
  have c0' := (b0.alloc (.cells #[.int .i64 obj] 3)).cell 0
  cases hr : isR zs [obj] 5 with
  | false =>
    have HR : Hid (namesR zs obj = false) := by simp [Hid, names_is, hr]
    rw [hr] at hL
    have HO : Hid _ := o0
    clear hr hI o0
    go_enter Try.func24, Try.ntmps24
    go_wp2_with (first | (go_at_call 52; refine hL.mono ?_; rintro e w1 ⟨rfl, hk1⟩))
    go_ret
    exact ⟨_, [], rfl, (OwnS.kept HO.out hk1).base (by omega), .inl ⟨HR.out, rfl⟩, k0.trans hk1⟩
  | true =>
    rw [hr] at hL
    obtain ⟨hh, h5, hle5⟩ := isR_facts hr
    have hv := hle5 0 (by simp)
    have h5' : obj % 8 = 5 := h5
    have HRo : Hid _ := fun (u : World) (hu : Kept w u) => l5Round_ok u ao cap zs obj (hI.kept hu) hl hh h5' hv
    cases hrd : roundR zs obj with
    | true =>
      have HR : Hid (namesR zs obj = false) := by simp [Hid, names_is, hrd]
      rw [hrd] at HRo
      have HO : Hid _ := o0
      clear hr hI o0 hrd hh h5 hle5 hv h5'
      go_enter Try.func24, Try.ntmps24
      go_wp2_with (first | (go_at_call 52; refine hL.mono ?_; rintro e w1 ⟨rfl, hk1⟩; have d0 := (b0.kept hk1).cell 0) | (go_at_call 60; refine (HRo.out _ (k0.trans hk1)).mono ?_; rintro e w2 ⟨rfl, hk2⟩))
      go_ret
      exact ⟨_, [], rfl, ((OwnS.kept HO.out hk1).kept hk2).base (by omega), .inl ⟨HR.out, rfl⟩, (k0.trans hk1).trans hk2⟩
    | false =>
      obtain ⟨a, s, ha, hle, hs, _, _, hnx⟩ := obj_facts hh h5' hv
      have hpl := plc_is ha
      have hch : chase zs zs.length (hz zs (a + 2)) = 0 := by
        have := hrd
        unfold roundR at this
        rw [hpl] at this
        simpa using this
      obtain ⟨ps, hpn, hpath⟩ := chase_path _ _ hch
      have HR : Hid (namesR zs obj = true) := by rw [Hid, names_is, hr, hrd]; rfl
      have HP : Hid (plc obj = a) := hpl
      have HH : Hid _ := hh
      have HI : Hid _ := hI
      have HPa : Hid _ := hpath
      have HO : Hid _ := o0
      have HX : Hid _ := hnx
      rw [hrd] at HRo
      have hNm := fun (u : World) => spec_Num_ok obj u
      rw [ha] at hNm
      obtain ⟨bb, off, rfl, hc⟩ := hI.at (k := a + 2) (by omega)
      have ca := hc (a + 2) (by omega)
      have hbl : bb < w.heap.size := World.block_lt_of_cell? _ _ ca
      have HC : Hid _ := hc
      have p1 : (a : Int) + 2 < (zs.length : Int) := by omega
      have t1 : ((a : Int) + 2).toNat = a + 2 := by omega
      have z1 : (0 : Int) ≤ (a : Int) + 2 := by omega
      have wr1 : IntKind.i64.wrap ((a : Int) + 2) = (a : Int) + 2 := by rw [IntWalk.i64_left, IntWalk.wrap64_in _ (by omega)]
      clear hr hI o0 hrd hh h5 hle5 hv h5' hch hpath hnx hpl ha hc
      go_enter Try.func24, Try.ntmps24
      go_wp2_with (first | (go_at_call 52; refine hL.mono ?_; rintro e w1 ⟨rfl, hk1⟩; have d0 := (b0.kept hk1).cell 0) | (go_at_call 60; refine (HRo.out _ (k0.trans hk1)).mono ?_; rintro e w2 ⟨rfl, hk2⟩))
      have K2 := (k0.trans hk1).trans hk2
      have b2 := (b0.kept hk1).kept hk2
      have cs2 := b2.cell 0
      have ca2 := (K2.cell (p := ⟨bb, off + (a + 2), none⟩) hbl).trans ca
      have O2 := (OwnS.kept HO.out hk1).kept hk2
      go_region_held3 (fun w' => w'.cell? ⟨w.heap.size, 0, none⟩ = some (.slice (some ⟨bb, off, none⟩) zs.length cap) ∧ w'.cell? ⟨bb, off + (a + 2), none⟩ = some (.int .i64 (hz zs (a + 2)))) (go_keep) ((go_at_call 34; refine (hNm _).mono ?_; rintro e wx ⟨rfl, rfl⟩))
      have hs2 := K2.size
      have hs2' : w.heap.size + 2 ≤ w2.heap.size := by have := hk1.size; have := hk2.size; simp at *; omega
      clear d0 ca2 cs2
      go_wp2_with fail
      go_loopw [5, 6] (fun nm lk wr => ∃ (k : Nat) (v' : Int), lk = .int .i64 v' ∧ k ≤ ps.length ∧ Path zs v' (ps.drop k) 0 ∧ nextR zs v' 3 = true ∧ OwnS wr (w.heap.size + 1) nm (txtsP zs (ps.take k)) ∧ Below (w.heap.size + 1) w2.drew wr ∧ w.heap.size + 1 ≤ wr.heap.size) (fun nm _ _ => ps.length - lenV nm)
      case atStart => exact ⟨0, _, rfl, Nat.zero_le _, HPa.out, HX.out, O2.kept (Below.refl _ _).drew, Below.refl _ _, by simp; omega⟩
      case round =>
        obtain ⟨k, v', rfl, hk, hp', hn', hO, hB, hsz⟩ := hrel
        obtain ⟨na, nc, rfl⟩ := hO.shape
        have HO2 : Hid _ := hO
        have HB : Hid _ := hB
        have kw : Kept w wr := Below.trans K2.drew (hB.mono (by omega))
        have bS : Cells wr w.heap.size 27 #[.slice (some ⟨bb, off, none⟩) zs.length cap] := (hB.block w.heap.size (by omega)).trans (b2.kept (Below.refl _ _).drew)
        have cS := bS.cell 0
        have HLk : Hid ((txtsP zs (ps.take k)).length = k) := by rw [Hid, txtsP_len, List.length_take]; omega
        have hlk : (txtsP zs (ps.take k)).length ≤ 1048576 := by rw [HLk.out]; omega
        by_cases h0 : v' = 0
        · subst h0
          have hkk : k = ps.length := by
            rcases Nat.lt_or_ge k ps.length with h | h
            · have hd := List.drop_eq_getElem_cons h
              rw [hd] at hp'
              exact absurd rfl hp'.1
            · omega
          subst hkk
          clear hp' hn' hO hB
          go_wp2_with fail
          go_ret
          exact ⟨_, ps.take ps.length, rfl, OwnS.base HO2.out (by omega), .inr ⟨HR.out, by rw [HP.out, List.take_length]; exact HPa.out⟩, kw⟩
        · have hlt : k < ps.length := by
            rcases Nat.lt_or_ge k ps.length with h | h
            · exact h
            · rw [List.drop_eq_nil_of_le h] at hp'
              exact absurd (show (0 : Int) = v' from hp').symm h0
          obtain ⟨p, hp⟩ : ∃ p, ps[k]? = some p := ⟨_, List.getElem?_eq_getElem hlt⟩
          obtain ⟨_, hpp, hpn⟩ := hp'.step hp
          obtain ⟨p', m, t, e1, e2, e3, e4, e5, e6, e7, e8, e9, e10, e11⟩ := cell_name HH.out hn' h0
          obtain rfl : p' = p := e1.symm.trans hpp
          have HNa : Hid (∀ u : World, Calls Try.prog 34 #[.int .i64 v'] u fun e w' => e = .returned (.int .i64 (p' : Int)) ∧ u = w') := fun u => by have := spec_Num_ok v' u; rw [e2] at this; exact this
          have HNb : Hid (∀ u : World, Calls Try.prog 34 #[.int .i64 (hz zs (p' + 1))] u fun e w' => e = .returned (.int .i64 (m : Int)) ∧ u = w') := fun u => by have := spec_Num_ok (hz zs (p' + 1)) u; rw [e5] at this; exact this
          have HL4 : Hid (∀ u : World, Kept w u → Calls Try.prog 33 #[.agg #[.slice (some ⟨bb, off, none⟩) zs.length cap], .int .i64 (m : Int)] u fun e w' => e = .returned (.string (txtP zs (hz zs (p' + 1)))) ∧ Kept u w') := fun u hu => by rw [e11]; exact l4Bytes_ok u _ cap zs m (t + 2) t (Ints.kept HI.out hu) hl (by omega) e9 (by omega) e10
          have hne : (v' != 0) = true := by simpa using h0
          have q1 : (p' : Int) + 1 < (zs.length : Int) := by omega
          have q3 : (p' : Int) + 3 < (zs.length : Int) := by omega
          have z1' : (0 : Int) ≤ (p' : Int) + 1 := by omega
          have z3 : (0 : Int) ≤ (p' : Int) + 3 := by omega
          have r1 : ((p' : Int) + 1).toNat = p' + 1 := by omega
          have r3 : ((p' : Int) + 3).toNat = p' + 3 := by omega
          have s1 : IntKind.i64.wrap ((p' : Int) + 1) = (p' : Int) + 1 := by rw [IntWalk.i64_left, IntWalk.wrap64_in _ (by omega)]
          have s3 : IntKind.i64.wrap ((p' : Int) + 3) = (p' : Int) + 3 := by rw [IntWalk.i64_left, IntWalk.wrap64_in _ (by omega)]
          have g1 := (kw.cell (p := ⟨bb, off + (p' + 1), none⟩) hbl).trans (HC.out (p' + 1) (by omega))
          have hOb2 := OwnS.block hO
          have ag : (Value.slice na (txtsP zs (ps.take k)).length nc).ownBlock ≠ some w.heap.size := fun e => by have := hOb2 _ e; omega
          have ak : (Value.slice na (txtsP zs (ps.take k)).length nc).ownBlock ≠ some bb := fun e => by have := hOb2 _ e; omega
          have kdr : Kept wr wr.drew := (Below.refl _ _).drew
          have kwd := kw.trans kdr
          have oA := hO.kept kdr
          have HP' : Hid _ := hp
          have HPn : Hid _ := hpn
          have HN4 : Hid _ := e4
          have HC3 : Hid _ := HC.out (p' + 3) (by omega)
          clear e1 e2 e3 e4 e5 e6 e7 e8 e9 e10 e11 hp' hn' hp hpp hpn hOb2 hO hB
          go_wp2_with fail
          go_region_held3 (fun w' => w'.cell? ⟨w.heap.size, 0, none⟩ = some (.slice (some ⟨bb, off, none⟩) zs.length cap) ∧ w'.cell? ⟨bb, off + (p' + 1), none⟩ = some (.int .i64 (hz zs (p' + 1))))
            (first
              | go_keep
              | (go_split_ands
                 refine ⟨?_, ?_⟩
                 · (rw [hk4.cell (p := ⟨w.heap.size, 0, none⟩) (by simp; omega)]; assumption)
                 · (rw [hk4.cell (p := ⟨bb, off + (p' + 1), none⟩) (by simp; omega)]; assumption))
              | (go_split_ands
                 refine ⟨?_, ?_⟩
                 · (rw [hgrow.cell_far _ (by simp at hs4 ⊢; omega) (Ne.symm ag)]; assumption)
                 · (rw [hgrow.cell_far _ (by simp at hs4 ⊢; omega) (Ne.symm ak)]; assumption)))
            (first
              | (go_at_call 34; refine (HNa.out _).mono ?_; rintro e wx ⟨rfl, rfl⟩)
              | (go_at_call 34; refine (HNb.out _).mono ?_; rintro e wx ⟨rfl, rfl⟩)
              | (go_at_call 33; refine (HL4.out _ kwd).mono ?_; rintro e w4 ⟨rfl, hk4⟩; have hs4 := hk4.size)
              | (refine step_append_lies _ (by rfl) _ _ _ (by rfl) (w.heap.size + 1) 9 i0 _ 1 16 Try.underlying39 hi hz0 hz1 hz2 rfl (by omega) (.slice na (txtsP zs (ps.take k)).length nc) (txtsP zs (ps.take k)).length ((txtsP zs (ps.take k)).map Value.string) (by rfl) (World.ownsRow.alloc (OwnS.kept oA hk4) _) ⟨w4.heap.size, 0, none⟩ 1 1 [.string (txtP zs (hz zs (p' + 1)))] (by rfl) (by rfl) (cell_one_new _ _ _) (by simp [Value.oneCell']) (by omega) (by unfold maxLen; omega) (by omega) (by simp at hs4 ⊢; omega) (w4.heap.size + 1) (by simp) ?_; intro gg cg w5 hown1 hgrow hat hlt5))
          have hB5 : Below (w.heap.size + 1) wr w5 := Below.grown (Below.alloc (Below.trans ((Below.refl _ wr).drew) (hk4.mono (by simp; omega))) (by simp at hs4; omega) _) hgrow (by simp at hs4 ⊢; omega) (fun j e => (OwnS.block HO2.out j e).1)
          have bS5 : Cells w5 w.heap.size 27 #[.slice (some ⟨bb, off, none⟩) zs.length cap] := (hB5.block w.heap.size (by omega)).trans bS
          have cS5 := bS5.cell 0
          have g3 : w5.cell? ⟨bb, off + (p' + 3), none⟩ = some (.int .i64 (hz zs (p' + 3))) := (hB5.cell (p := ⟨bb, off + (p' + 3), none⟩) (by simp; omega)).trans ((kw.cell (p := ⟨bb, off + (p' + 3), none⟩) hbl).trans HC3.out)
          clear cS g1 kwd kdr oA
          go_wp2_with fail
          go_region_held3 (fun w' => w'.cell? ⟨w.heap.size, 0, none⟩ = some (.slice (some ⟨bb, off, none⟩) zs.length cap) ∧ w'.cell? ⟨bb, off + (p' + 3), none⟩ = some (.int .i64 (hz zs (p' + 3)))) (go_keep) ((go_at_call 34; refine (HNa.out _).mono ?_; rintro e wx ⟨rfl, rfl⟩))
          go_wp2_with fail
          go_roundw
          case rel =>
            have et : ps.take (k + 1) = ps.take k ++ [p'] := by rw [List.take_add_one, HP'.out]; rfl
            have eo : OwnS w5 (w.heap.size + 1) (.slice (some ⟨gg, 0, none⟩) ((txtsP zs (ps.take k)).length + 1) cg) (txtsP zs (ps.take (k + 1))) := by
              unfold OwnS
              rw [show (txtsP zs (ps.take (k + 1))).length = (txtsP zs (ps.take k)).length + 1 by rw [et]; simp [txtsP], et, txtsP_snoc]
              exact hown1
            exact ⟨k + 1, _, rfl, by omega, HPn.out, HN4.out, eo.kept (Below.refl _ _).drew, (Below.trans HB.out hB5).drew, by have := hB5.size; simp; omega⟩
          case measure => simp only [lenV]; rw [HLk.out]; omega
end Go.Proofs.Ytlgaamhjpkkjmaa
