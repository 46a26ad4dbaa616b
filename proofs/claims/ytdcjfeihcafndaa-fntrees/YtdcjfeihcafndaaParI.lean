/-
  Chapter 12's models, weakly told: what has a condition (genPar6.py).
-/
import Derived.Test.YtdcjfeihcafndaaParH
namespace Go.Proofs.Ytdcjfeihcafndaa
open Go.RowKit
set_option linter.unusedSimpArgs false
attribute [local go_sem] Plain.and7

theorem LocR.made {w W : World} {c g cap : Nat} {ts : List Tok} {p : Nat} {bad : Int} {v : Value} {ks : List Nd} (h : Loc0 w W c g cap ts p bad) (hr : NdRow W (fun b => w.heap.size ≤ b ∧ b ≠ w.heap.size) v ks) (op : Int) : ∃ xs, LocR w (W.alloc (.cells #[.int .i64 op, .string ⟨#[]⟩, .int .i64 0, v] 26)) c g cap ts p bad W.heap.size op ⟨#[]⟩ v ks xs := by
  have hk : Kept W (W.alloc (.cells #[.int .i64 op, .string ⟨#[]⟩, .int .i64 0, v] 26)) := Kept.alloc (Below.refl _ _) _
  have hL := h.kept hk
  obtain ⟨xs, hx⟩ := (hr.mono (S' := S0 w W.heap.size) (fun b hb hl => ⟨hb.1, hb.2, by omega⟩)).on (Stays.kept hk _)
  exact ⟨xs, hL.start, hL.keeps, hL.pa, hL.res, Cells.new W _ _, h.res.lt, hx⟩
theorem Loc.loc0 {w wr : World} {c g cap : Nat} {ts : List Tok} {p : Nat} {bad : Int} {X : Nat} {t : Nd} {a0 a1 a2 a3 : Value} (h : Loc w wr c g cap ts p bad X t a0 a1 a2 a3) : Loc0 w wr c g cap ts p bad := ⟨h.start, h.keeps, h.pa, h.res⟩
set_option maxHeartbeats 16000000 in
set_option maxRecDepth 100000 in
theorem l12Cond_ok (c g cap : Nat) (ts : List Tok) (hts : TsOk ts) (m : Nat) (hU : POk 35 1 c g cap ts m) (hV : POk 49 1 c g cap ts m) : EOk 36 c g cap ts m := by
  intro w p bad op h hb hn hm
  obtain ⟨i0, hi, hz0, hz1, hz2⟩ := info_parts infoNk
  have k0 : Kept w (w.alloc (.cells zeroN 26)) := Kept.alloc (Below.refl _ _) _
  have hC := l12Next_ok _ c g cap ts p bad (h.kept k0) hts
  rw [if_pos hn] at hC
  have HS : Hid (c < w.heap.size ∧ g < w.heap.size) := ⟨h.cur.lt, h.glt⟩
  have HU : Hid (POk 35 1 c g cap ts m) := hU
  have HV : Hid (POk 49 1 c g cap ts m) := hV
  have HT : Hid (TsOk ts) := hts
  have hlen := hts.len
  clear hU hV hts
  go_enter Try.func36, Try.ntmps36
  go_upto_region 7 with (first
    | (have _tk := hB6; go_at_call 39; refine (l12Node_ok _ _ _ _ _).mono ?_; rintro e w7 ⟨rfl, k7⟩)
    | (have _tk := L4; go_at_call 49; refine (HV.out _ _ _ L4.pa (by rcases hT4 with ⟨_, _, e⟩ | ⟨e, _⟩ <;> rcases hT2 with ⟨_, _, e⟩ | ⟨e, _⟩ <;> omega)).mono ?_; rintro e w6 ⟨t6, v6, p6, bad6, rfl, ht6, hp6, hk6, hB6⟩; obtain ⟨op6, s6, n6, ao6, l6, cp6, rfl⟩ := ht6.four; have L6 := L4.step hk6 hp6; have bx := L6.box; have c0 := bx.cell 0; have c1 := bx.cell 1; have c2 := bx.cell 2; have c3 := bx.cell 3; have lx := bx.lt)
    | (have _tk := L3; go_at_call 34; refine (l12Take_ok _ c g cap ts p3 bad3 L3.pa HT.out _).mono ?_; rintro e w4 ⟨rfl, hk4, p4, bad4, hT4, hp4⟩; have L4 := L3.step hk4 hp4)
    | (have _tk := hT2; go_at_call 35; refine (HU.out _ _ _ hp2 (by rcases hT2 with ⟨_, _, e⟩ | ⟨e, _⟩ <;> omega)).mono ?_; rintro e w3 ⟨t3, v3, p3, bad3, rfl, ht3, hp3, hk3, hB3⟩; obtain ⟨op3, s3, n3, ao3, l3, cp3, rfl⟩ := ht3.four; have hle3 := hB3.le; have L3 := Loc.first HS.out ((hk1.trans hk2).trans hk3) hp3 (NdS.mono (fun b hb _ => Nat.le_trans (hk1.trans hk2).size hb) _ _ ht3))
    | (have _tk := hk1; go_at_call 34; refine (l12Take_ok _ c g cap ts (p + 1) bad hp1 HT.out _).mono ?_; rintro e w2 ⟨rfl, hk2, p2, bad2, hT2, hp2⟩)
    | (go_at_call 32; refine hC.mono ?_; rintro e w1 ⟨rfl, hk1, hp1⟩))
  have kb : Kept w6 (w6.alloc (.cells #[.int .i64 op6, .string s6, .int .i64 n6, .slice ao6 l6 cp6] 26)) := Kept.alloc (Below.refl _ _) _
  have hsz6 := hk6.size
  have hx4 := L4.box.lt
  have hxx4 := L4.x
  have hrow : NdRow ((w6.alloc (.cells #[.int .i64 op6, .string s6, .int .i64 n6, .slice ao6 l6 cp6] 26)).alloc (.cells #[.int .i64 op3, .string s3, .int .i64 n3, .slice ao3 l3 cp3, .int .i64 op6, .string s6, .int .i64 n6, .slice ao6 l6 cp6] 26)) (fun b => w.heap.size ≤ b ∧ b ≠ w.heap.size) (.slice (some ⟨w6.heap.size + 1, 0, none⟩) 2 2) [t3, t6] := by
    have h1 := NdRow.two (S := fun b => w.heap.size ≤ b ∧ b ≠ w.heap.size) (NdS.mono (fun b hb _ => ⟨hb.1, hb.2.1⟩) _ _ (L6.kept kb).tree) (NdS.mono (fun b hb _ => ⟨by omega, by omega⟩) _ _ (NdS.stay (Stays.kept kb _) _ _ ht6)) (by simp only [World.size_alloc]; omega)
    simp only [World.size_alloc] at h1
    exact h1
  have L7 := ((L6.kept kb).kept (Kept.alloc (Below.refl _ _) (.cells #[.int .i64 op3, .string s3, .int .i64 n3, .slice ao3 l3 cp3, .int .i64 op6, .string s6, .int .i64 n6, .slice ao6 l6 cp6] 26))).kept k7
  obtain ⟨xs, LR⟩ := LocR.made L7.loc0 (hrow.on (Stays.kept k7 _)) op
  have hsize : p + 1 ≤ p6 ∧ (bad6 < 0 → 4 + sizesN [t3, t6] ≤ 4 * (p6 - p)) ∧ (0 ≤ bad6 → 1 + sizesN [t3, t6] ≤ 4 * (p6 - p) + 1) := by
    have g3 := hB3.good; have w3' := hB3.wrong; have g6 := hB6.good; have w6' := hB6.wrong; have l6' := hB6.le; have s3' := hB3.stop; have s6' := hB6.stop
    have e3 : t3.size ≤ 4 * (p3 - p2) + 1 := by
      by_cases h3 : bad3 < 0
      · have := g3 h3; omega
      · exact w3' (by omega)
    simp only [sizesN]
    have hpp : p + 1 ≤ p2 := by rcases hT2 with ⟨y1, y2, y3⟩ | ⟨y1, y2⟩ <;> omega
    have hp34 : p3 ≤ p4 := by rcases hT4 with ⟨y1, y2, y3⟩ | ⟨y1, y2⟩ <;> omega
    refine ⟨by omega, fun h => ?_, fun h => ?_⟩
    · have hb4 : bad4 < 0 := by rcases s6' with h1 | h1 <;> omega
      rcases hT4 with ⟨u1, u2, u3⟩ | ⟨u1, u2⟩
      · have := g3 u1
        have := g6 h
        have hb2 : bad2 < 0 := by rcases s3' with h1 | h1 <;> omega
        rcases hT2 with ⟨y1, y2, y3⟩ | ⟨y1, y2⟩ <;> omega
      · omega
    · have := w6' h
      omega
  have HLR : Hid (LocR w (w7.alloc (.cells #[.int .i64 op, .string ⟨#[]⟩, .int .i64 0, .slice (some ⟨w6.heap.size + 1, 0, none⟩) 2 2] 26)) c g cap ts p6 bad6 w7.heap.size op ⟨#[]⟩ (.slice (some ⟨w6.heap.size + 1, 0, none⟩) 2 2) [t3, t6] xs) := LR
  obtain ⟨va, hva⟩ : ∃ va, w6.heap.size + 1 = va := ⟨_, rfl⟩
  rw [hva] at HLR
  simp only [hva]
  obtain ⟨wr, hwr⟩ : ∃ wr, w7.alloc (.cells #[.int .i64 op, .string ⟨#[]⟩, .int .i64 0, .slice (some ⟨va, 0, none⟩) 2 2] 26) = wr := ⟨_, rfl⟩
  obtain ⟨X, hX⟩ : ∃ X, w7.heap.size = X := ⟨_, rfl⟩
  rw [hwr, hX] at HLR
  simp only [hwr, hX]
  clear LR L7 hrow L6 L4 L3 ht6 ht3 hk6 hk4 hk3 hk2 hk1 hp1 hp2 hp3 hp4 hp6 k7 kb hwr hX hva hsz6 hx4 hxx4 hC
  obtain ⟨x, hx⟩ : ∃ x, ts[p6]? = some x := ⟨ts[p6]'HLR.out.pa.lt, List.getElem?_eq_getElem HLR.out.pa.lt⟩
  have HI : Hid (∀ u s, Kept wr u → Calls Try.prog 31 #[.pointer (some ⟨c, 0, none⟩), .string s] u fun e w' => e = .returned (.bool (isT 1 x bad6 s)) ∧ Kept u w') := fun u s hu => l12Is_ok u c g cap ts p6 bad6 (HLR.out.pa.kept hu) x hx s
  have kz : Kept wr wr := Below.refl _ _
  have LZ := HLR.out
  have bx := LZ.box; have c0 := bx.cell 0; have c1 := bx.cell 1; have c2 := bx.cell 2; have c3 := bx.cell 3; have rx := LZ.res; have d0 := rx.cell 0; have d1 := rx.cell 1; have d2 := rx.cell 2; have d3 := rx.cell 3; have g0 := rx.frozen 0; have g1 := rx.frozen 1; have g2 := rx.frozen 2; have g3 := rx.frozen 3; have rl := rx.lt
  have hfin : Hid (Bnd 1 p bad p6 bad6 (.mk op ⟨#[]⟩ 0 [t3, t6])) := by
    obtain ⟨h1, h2, h3⟩ := hsize
    refine ⟨by omega, .inl hb, fun h => ?_, fun h => ?_, fun _ => by simp⟩
    · have := h2 h; simp only [Nd.size]; omega
    · have := h3 h; simp only [Nd.size]; omega
  by_cases ho : op = 5
  · subst ho
    cases hel : isT 1 x bad6 ⟨#[101, 108, 115, 101]⟩ with
    | true =>
      obtain ⟨hb6, hk⟩ := isT_yes hel
      have hn6 : p6 + 1 < ts.length := HT.out.next hx (by rw [hk]; decide)
      have hs6 := hsize.2.1 hb6
      have hs1 := hsize.1
      clear hk bx c0 c1 c2 c3 rx d0 d1 d2 d3 g0 g1 g2 g3 rl LZ
      go_upto_region 9 with (first
        | (go_at_call 32; refine (l12Next_ok _ c g cap ts p6 bad6 (HLR.out.kept kz).pa HT.out).mono ?_; rintro e w8 ⟨rfl, hk8, hp8⟩; rw [if_pos hn6] at hp8; have L8 := (HLR.out.kept kz).step hk8 hp8)
        | (go_at_call 31; refine (HI.out _ _ kz).mono ?_; rintro e wa ⟨rfl, ka⟩; have kz := Kept.trans kz ka))
      have Ld := L8.kept (Below.drew (Below.refl _ w8))
      have hA := HV.out w8.drew (p6 + 1) bad6 Ld.pa (by omega)
      have HLd : Hid (LocR w w8.drew c g cap ts (p6 + 1) bad6 X 5 ⟨#[]⟩ (.slice (some ⟨va, 0, none⟩) 2 2) [t3, t6] xs) := Ld
      have D0 := Ld.box.cell 3
      simp at D0
      clear Ld L8 HI hp8 hk8
      go_wp2_with fail
      go_region_law (first
        | (refine step_callN (by rfl) (by go_simp; done) hA ?_; rintro e wx ⟨t3', v3', p9, bad9, rfl, ht9, hp9, hk9, hB9⟩; obtain ⟨op9, s9, n9, ao9, l9, cp9, rfl⟩ := ht9.four; refine ⟨_, rfl, ?_⟩; have Lx := HLd.out.step hk9 hp9; have Dx := Lx.box.cell 3; have La := Lx.kept (Kept.alloc (Below.refl _ wx) (.cells #[.int .i64 op9, .string s9, .int .i64 n9, .slice ao9 l9 cp9] 26)); have Da := La.box.cell 3)
        | (refine step_append_lies _ (by rfl) _ _ _ (by rfl) 0 26 i0 _ 4 56 Try.underlying24 hi hz0 hz1 hz2 rfl (by omega) (.slice (some ⟨va, 0, none⟩) 2 2) 2 xs (by rfl) La.row.1 ⟨wx.heap.size, 0, none⟩ 1 1 [.int .i64 op9, .string s9, .int .i64 n9, .slice ao9 l9 cp9] (by rfl) (by rfl) (news_of _ _ _) (by simp [Value.oneCell']) (by omega) (by unfold maxLen; omega) (by omega) (by omega) (wx.heap.size + 1) (by simp) ?_; intro gg cg wz hown1 hgrow hat hlt9; have b9 : Cells wz X 26 #[.int .i64 5, .string ⟨#[]⟩, .int .i64 0, .slice (some ⟨va, 0, none⟩) 2 2] := (hgrow.block _ La.box.lt (fun e => (La.row.2.1 _ e.symm).2.2 rfl)).trans La.box; have dd := b9.cell 3; have ff := b9.frozen 3; have l9x := b9.lt; have hsz := hk9.size; have hxl := HLd.out.box.lt; have hxx := HLd.out.x; have hrl := HLd.out.row.row.lt; obtain ⟨xs', L9⟩ := La.app (v' := .slice (some ⟨gg, 0, none⟩) 3 cg) (NdS.stay (Stays.kept (Kept.alloc (Below.refl _ _) _) _) _ _ (NdS.mono (fun b hb _ => ⟨⟨by omega, by omega, by omega⟩, fun e => by have := hrl b e; omega⟩) _ _ ht9)) hown1 hgrow (hat.elim .inl (fun h => .inr (by rw [h]; simp [Value.ownBlock]))); have bx := L9.box; have c0 := bx.cell 0; have c1 := bx.cell 1; have c2 := bx.cell 2; have c3 := bx.cell 3; have rx := L9.res; have d0 := rx.cell 0; have d1 := rx.cell 1; have d2 := rx.cell 2; have d3 := rx.cell 3; have g0 := rx.frozen 0; have g1 := rx.frozen 1; have g2 := rx.frozen 2; have g3 := rx.frozen 3; have rl := rx.lt))
      all_goals (
        go_wp2_with fail
        obtain ⟨r1, r2, r3, r4⟩ := (L9.loc (by decide)).done
        have z0 := r4.cell 0; have z1 := r4.cell 1; have z2 := r4.cell 2; have z3 := r4.cell 3
        have l9 := hB9.le
        refine bodyPost_ret (v := .agg #[.int .i64 5, .string ⟨#[]⟩, .int .i64 0, .slice (some ⟨gg, 0, none⟩) 3 cg]) (by simp [results, Try.results36, go_sem, z0, z1, z2, z3]) rfl ⟨_, _, p9, bad9, rfl, r1, r2, r3, ⟨by omega, .inl hb, fun h => ?_, fun h => ?_, fun _ => by simp⟩⟩
        · have := hB9.good h
          simp only [Nd.size]
          rw [sizes_app]
          omega
        · have := hB9.wrong h
          simp only [Nd.size]
          rw [sizes_app]
          omega)
    | false =>
      go_wp2_with (go_at_call 31; refine (HI.out _ _ kz).mono ?_; rintro e wa ⟨rfl, ka⟩; have kz := Kept.trans kz ka; have L1 := HLR.out.kept kz; have bx := L1.box; have c0 := bx.cell 0; have c1 := bx.cell 1; have c2 := bx.cell 2; have c3 := bx.cell 3; have rx := L1.res; have d0 := rx.cell 0; have d1 := rx.cell 1; have d2 := rx.cell 2; have d3 := rx.cell 3; have g0 := rx.frozen 0; have g1 := rx.frozen 1; have g2 := rx.frozen 2; have g3 := rx.frozen 3; have rl := rx.lt)
      obtain ⟨r1, r2, r3, r4⟩ := (L1.loc (by decide)).done
      have z0 := r4.cell 0; have z1 := r4.cell 1; have z2 := r4.cell 2; have z3 := r4.cell 3
      exact bodyPost_ret (v := .agg #[.int .i64 5, .string ⟨#[]⟩, .int .i64 0, .slice (some ⟨va, 0, none⟩) 2 2]) (by simp [results, Try.results36, go_sem, z0, z1, z2, z3]) rfl ⟨_, _, p6, bad6, rfl, r1, r2, r3, hfin.out⟩
  · have ho' : (op == 5) = false := by simpa using ho
    go_wp2_with fail
    obtain ⟨r1, r2, r3, r4⟩ := (LZ.loc (by decide)).done
    have z0 := r4.cell 0; have z1 := r4.cell 1; have z2 := r4.cell 2; have z3 := r4.cell 3
    exact bodyPost_ret (v := .agg #[.int .i64 op, .string ⟨#[]⟩, .int .i64 0, .slice (some ⟨va, 0, none⟩) 2 2]) (by simp [results, Try.results36, go_sem, z0, z1, z2, z3]) rfl ⟨_, _, p6, bad6, rfl, r1, r2, r3, hfin.out⟩
end Go.Proofs.Ytdcjfeihcafndaa
