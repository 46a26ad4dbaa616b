/-
  Chapter 12's models, weakly told: sums and exprs (genPar.py).
-/
import Derived.Test.YtdcjfeihcafndaaParB
import Derived.Deep.CutRange
namespace Go.Proofs.Ytdcjfeihcafndaa
open Go.RowKit
set_option linter.unusedSimpArgs false
attribute [local go_sem] Plain.and7

/-- What is returned, of a tree that lies in no box. -/
theorem Loc.ret {w wr : World} {c g cap : Nat} {ts : List Tok} {p : Nat} {bad : Int} {X : Nat} {t t' : Nd} {a0 a1 a2 a3 b0 b1 b2 b3 : Value} (h : Loc w wr c g cap ts p bad X t a0 a1 a2 a3) (ht : NdS wr (fun b => w.heap.size ≤ b ∧ b ≠ w.heap.size ∧ b ≠ X) t' (.agg #[b0, b1, b2, b3])) : NdS (set4 wr w.heap.size b0 b1 b2 b3) (fun b => w.heap.size ≤ b) t' (.agg #[b0, b1, b2, b3]) ∧ PaW (set4 wr w.heap.size b0 b1 b2 b3) c g cap ts p bad ∧ Keeps c w (set4 wr w.heap.size b0 b1 b2 b3) ∧ Cells (set4 wr w.heap.size b0 b1 b2 b3) w.heap.size 26 #[b0, b1, b2, b3] := by
  have h1 := h.start
  have hs : Stays (fun b => b ≠ w.heap.size) wr (set4 wr w.heap.size b0 b1 b2 b3) := (Stays.refl _ wr).set4 (by simp) _ _ _ _
  refine ⟨NdS.mono (fun b hb _ => hb.1) _ _ (NdS.stay (hs.mono (fun b hb => hb.2.1)) _ _ ht), h.pa.set4 (by omega) (by omega), h.keeps.set4 (Nat.le_refl _) _ _ _ _, h.res.put4 _ _ _ _⟩
set_option maxHeartbeats 8000000 in
set_option maxRecDepth 100000 in
theorem l12Sum_ok (c g cap : Nat) (ts : List Tok) (hts : TsOk ts) (m : Nat) (hU : POk 51 1 c g cap ts m) : POk 48 1 c g cap ts m := by
  intro w p bad h hm
  have k0 : Kept w (w.alloc (.cells zeroN 26)) := Kept.alloc (Below.refl _ _) _
  have hC := hU _ p bad (h.kept k0) hm
  have HS : Hid (c < w.heap.size ∧ g < w.heap.size) := ⟨h.cur.lt, h.glt⟩
  have HU : Hid (POk 51 1 c g cap ts m) := hU
  have HT : Hid (TsOk ts) := hts
  clear hU hts
  go_enter Try.func48, Try.ntmps48
  go_wp2_with (go_at_call 51; refine hC.mono ?_; rintro e w1 ⟨t1, v1, p1, bad1, rfl, ht1, hp1, hk1, hB1⟩; obtain ⟨op1, s1, n1, ao1, l1, cp1, rfl⟩ := ht1.four)
  have L0 := Loc.first HS.out hk1 hp1 ht1
  have HL0 : Hid _ := L0
  clear L0 hp1 hk1 ht1 hC
  go_loopg [4] ts.length (fun gk _ wr => ∃ p' bad' t op s n ao l cp, ts.length - p' ≤ gk ∧ Hid (Loc w wr c g cap ts p' bad' w1.heap.size t (.int .i64 op) (.string s) (.int .i64 n) (.slice ao l cp)) ∧ Hid (Bnd 1 p bad p' bad' t))
  case atStart => exact ⟨_, _, _, _, _, _, _, _, _, by omega, HL0.out, hB1⟩
  case round =>
    obtain ⟨p', bad', t, op, s, n, ao, l, cp, hgk, hL, hB⟩ := hrel
    clear HL0 hB1
    obtain ⟨x, hx⟩ : ∃ x, ts[p']? = some x := ⟨ts[p']'hL.out.pa.lt, List.getElem?_eq_getElem hL.out.pa.lt⟩
    have HG : Hid (∀ u s, Kept wr u → Calls Try.prog 38 #[.pointer (some ⟨c, 0, none⟩), .string s] u fun e w' => e = .returned (.bool (isT 4 x bad' s)) ∧ Kept u w') := fun u s hu => l12Sign_ok u c g cap ts p' bad' (hL.out.pa.kept hu) x hx s
    have hlt := hL.out.pa.lt
    have HNX : Hid (∀ s, isT 4 x bad' s = true → bad' < 0 ∧ p' + 1 < ts.length) := fun s hi => ⟨(isT_yes hi).1, HT.out.next hx (by rw [(isT_yes hi).2]; decide)⟩
    have kz : Kept wr wr := Below.refl _ _
    cases hi : isT 4 x bad' ⟨#[43]⟩ with
    | true =>
      obtain ⟨hb, hn⟩ := HNX.out _ hi
      cases hj : isT 4 x bad' ⟨#[45]⟩ with
      | true =>
        have hle := hB.out.le
        go_wp2_with (first
          | (have g := L3; go_at_call 39; refine (l12Node_ok _ _ _ _ _).mono ?_; rintro e w5 ⟨rfl, k5⟩; have L5 := L4.kept k5; have bx := L5.box; have c0 := bx.cell 0; have c1 := bx.cell 1; have c2 := bx.cell 2; have c3 := bx.cell 3; have f0 := bx.frozen 0; have f1 := bx.frozen 1; have f2 := bx.frozen 2; have f3 := bx.frozen 3)
          | (have g := L2; go_at_call 51; refine (HU.out _ _ _ L2.pa (by omega)).mono ?_; rintro e w3 ⟨t3, v3, p3, bad3, rfl, ht3, hp3, hk3, hB3⟩; obtain ⟨op3, s3, n3, ao3, l3, cp3, rfl⟩ := ht3.four; have L3 := L2.step hk3 hp3; have bx := L3.box; have c0 := bx.cell 0; have c1 := bx.cell 1; have c2 := bx.cell 2; have c3 := bx.cell 3; have l0 := bx.lt; have L4 := L3.kept (Kept.alloc (Kept.alloc (Below.refl _ w3) (.cells #[.int .i64 op3, .string s3, .int .i64 n3, .slice ao3 l3 cp3] 26)) (.cells #[.int .i64 op, .string s, .int .i64 n, .slice ao l cp, .int .i64 op3, .string s3, .int .i64 n3, .slice ao3 l3 cp3] 26)))
          | (go_at_call 32; refine (l12Next_ok _ c _ cap ts p' bad' (hL.out.kept kz).pa HT.out).mono ?_; rintro e w2 ⟨rfl, k2, h2⟩; rw [if_pos hn] at h2; have L2 := (hL.out.kept kz).step k2 h2)
          | (go_at_call 38; refine (HG.out _ _ kz).mono ?_; rintro e wa ⟨rfl, k1⟩; have kz := Kept.trans kz k1))
        have kb : Kept w3 (w3.alloc (.cells #[.int .i64 op3, .string s3, .int .i64 n3, .slice ao3 l3 cp3] 26)) := Kept.alloc (Below.refl _ _) _
        have hx1 := L2.box.lt
        have hx2 := L2.x
        have hsz := hk3.size
        have ht4 : NdS (w3.alloc (.cells #[.int .i64 op3, .string s3, .int .i64 n3, .slice ao3 l3 cp3] 26)) (fun b => w.heap.size ≤ b ∧ b ≠ w.heap.size ∧ b ≠ w1.heap.size) t3 _ := NdS.mono (fun b hb _ => ⟨by omega, by omega, by omega⟩) _ _ (NdS.stay (Stays.kept kb _) _ _ ht3)
        have hN := NdS.two (L3.kept kb).tree ht4 (by simp only [World.size_alloc]; omega) 20 0 ⟨#[]⟩ (by decide)
        simp only [World.size_alloc] at hN
        have L6 := L5.put (NdS.stay (Stays.kept k5 _) _ _ hN)
        have hle3 := hB3.le
        go_roundg (ts.length - p3)
        case measure => omega
        case rel => exact ⟨p3, bad3, _, _, _, _, _, _, _, Nat.le_refl _, L6, hB.out.two hb hB3 20 0 ⟨#[]⟩⟩
      | false =>
        have hle := hB.out.le
        go_wp2_with (first
          | (have g := L3; go_at_call 39; refine (l12Node_ok _ _ _ _ _).mono ?_; rintro e w5 ⟨rfl, k5⟩; have L5 := L4.kept k5; have bx := L5.box; have c0 := bx.cell 0; have c1 := bx.cell 1; have c2 := bx.cell 2; have c3 := bx.cell 3; have f0 := bx.frozen 0; have f1 := bx.frozen 1; have f2 := bx.frozen 2; have f3 := bx.frozen 3)
          | (have g := L2; go_at_call 51; refine (HU.out _ _ _ L2.pa (by omega)).mono ?_; rintro e w3 ⟨t3, v3, p3, bad3, rfl, ht3, hp3, hk3, hB3⟩; obtain ⟨op3, s3, n3, ao3, l3, cp3, rfl⟩ := ht3.four; have L3 := L2.step hk3 hp3; have bx := L3.box; have c0 := bx.cell 0; have c1 := bx.cell 1; have c2 := bx.cell 2; have c3 := bx.cell 3; have l0 := bx.lt; have L4 := L3.kept (Kept.alloc (Kept.alloc (Below.refl _ w3) (.cells #[.int .i64 op3, .string s3, .int .i64 n3, .slice ao3 l3 cp3] 26)) (.cells #[.int .i64 op, .string s, .int .i64 n, .slice ao l cp, .int .i64 op3, .string s3, .int .i64 n3, .slice ao3 l3 cp3] 26)))
          | (go_at_call 32; refine (l12Next_ok _ c _ cap ts p' bad' (hL.out.kept kz).pa HT.out).mono ?_; rintro e w2 ⟨rfl, k2, h2⟩; rw [if_pos hn] at h2; have L2 := (hL.out.kept kz).step k2 h2)
          | (go_at_call 38; refine (HG.out _ _ kz).mono ?_; rintro e wa ⟨rfl, k1⟩; have kz := Kept.trans kz k1))
        have kb : Kept w3 (w3.alloc (.cells #[.int .i64 op3, .string s3, .int .i64 n3, .slice ao3 l3 cp3] 26)) := Kept.alloc (Below.refl _ _) _
        have hx1 := L2.box.lt
        have hx2 := L2.x
        have hsz := hk3.size
        have ht4 : NdS (w3.alloc (.cells #[.int .i64 op3, .string s3, .int .i64 n3, .slice ao3 l3 cp3] 26)) (fun b => w.heap.size ≤ b ∧ b ≠ w.heap.size ∧ b ≠ w1.heap.size) t3 _ := NdS.mono (fun b hb _ => ⟨by omega, by omega, by omega⟩) _ _ (NdS.stay (Stays.kept kb _) _ _ ht3)
        have hN := NdS.two (L3.kept kb).tree ht4 (by simp only [World.size_alloc]; omega) 19 0 ⟨#[]⟩ (by decide)
        simp only [World.size_alloc] at hN
        have L6 := L5.put (NdS.stay (Stays.kept k5 _) _ _ hN)
        have hle3 := hB3.le
        go_roundg (ts.length - p3)
        case measure => omega
        case rel => exact ⟨p3, bad3, _, _, _, _, _, _, _, Nat.le_refl _, L6, hB.out.two hb hB3 19 0 ⟨#[]⟩⟩
    | false =>
      cases hj : isT 4 x bad' ⟨#[45]⟩ with
      | true =>
        obtain ⟨hb, hn⟩ := HNX.out _ hj
        have hle := hB.out.le
        go_wp2_with (first
          | (have g := L3; go_at_call 39; refine (l12Node_ok _ _ _ _ _).mono ?_; rintro e w5 ⟨rfl, k5⟩; have L5 := L4.kept k5; have bx := L5.box; have c0 := bx.cell 0; have c1 := bx.cell 1; have c2 := bx.cell 2; have c3 := bx.cell 3; have f0 := bx.frozen 0; have f1 := bx.frozen 1; have f2 := bx.frozen 2; have f3 := bx.frozen 3)
          | (have g := L2; go_at_call 51; refine (HU.out _ _ _ L2.pa (by omega)).mono ?_; rintro e w3 ⟨t3, v3, p3, bad3, rfl, ht3, hp3, hk3, hB3⟩; obtain ⟨op3, s3, n3, ao3, l3, cp3, rfl⟩ := ht3.four; have L3 := L2.step hk3 hp3; have bx := L3.box; have c0 := bx.cell 0; have c1 := bx.cell 1; have c2 := bx.cell 2; have c3 := bx.cell 3; have l0 := bx.lt; have L4 := L3.kept (Kept.alloc (Kept.alloc (Below.refl _ w3) (.cells #[.int .i64 op3, .string s3, .int .i64 n3, .slice ao3 l3 cp3] 26)) (.cells #[.int .i64 op, .string s, .int .i64 n, .slice ao l cp, .int .i64 op3, .string s3, .int .i64 n3, .slice ao3 l3 cp3] 26)))
          | (go_at_call 32; refine (l12Next_ok _ c _ cap ts p' bad' (hL.out.kept kz).pa HT.out).mono ?_; rintro e w2 ⟨rfl, k2, h2⟩; rw [if_pos hn] at h2; have L2 := (hL.out.kept kz).step k2 h2)
          | (go_at_call 38; refine (HG.out _ _ kz).mono ?_; rintro e wa ⟨rfl, k1⟩; have kz := Kept.trans kz k1))
        have kb : Kept w3 (w3.alloc (.cells #[.int .i64 op3, .string s3, .int .i64 n3, .slice ao3 l3 cp3] 26)) := Kept.alloc (Below.refl _ _) _
        have hx1 := L2.box.lt
        have hx2 := L2.x
        have hsz := hk3.size
        have ht4 : NdS (w3.alloc (.cells #[.int .i64 op3, .string s3, .int .i64 n3, .slice ao3 l3 cp3] 26)) (fun b => w.heap.size ≤ b ∧ b ≠ w.heap.size ∧ b ≠ w1.heap.size) t3 _ := NdS.mono (fun b hb _ => ⟨by omega, by omega, by omega⟩) _ _ (NdS.stay (Stays.kept kb _) _ _ ht3)
        have hN := NdS.two (L3.kept kb).tree ht4 (by simp only [World.size_alloc]; omega) 20 0 ⟨#[]⟩ (by decide)
        simp only [World.size_alloc] at hN
        have L6 := L5.put (NdS.stay (Stays.kept k5 _) _ _ hN)
        have hle3 := hB3.le
        go_roundg (ts.length - p3)
        case measure => omega
        case rel => exact ⟨p3, bad3, _, _, _, _, _, _, _, Nat.le_refl _, L6, hB.out.two hb hB3 20 0 ⟨#[]⟩⟩
      | false =>
        go_wp2_with (go_at_call 38; refine (HG.out _ _ kz).mono ?_; rintro e wa ⟨rfl, k1⟩; have kz := Kept.trans kz k1; have L1 := hL.out.kept kz; have bx := L1.box; have c0 := bx.cell 0; have c1 := bx.cell 1; have c2 := bx.cell 2; have c3 := bx.cell 3; have rx := L1.res; have d0 := rx.cell 0; have d1 := rx.cell 1; have d2 := rx.cell 2; have d3 := rx.cell 3; have g0 := rx.frozen 0; have g1 := rx.frozen 1; have g2 := rx.frozen 2; have g3 := rx.frozen 3; have rl := rx.lt)
        have L1 := hL.out.kept kz
        obtain ⟨r1, r2, r3, r4⟩ := L1.done
        have z0 := r4.cell 0; have z1 := r4.cell 1; have z2 := r4.cell 2; have z3 := r4.cell 3
        exact bodyPost_ret (v := .agg #[.int .i64 op, .string s, .int .i64 n, .slice ao l cp]) (by simp [results, Try.results48, go_sem, z0, z1, z2, z3]) rfl ⟨t, _, p', bad', rfl, r1, r2, r3, hB.out⟩
set_option maxHeartbeats 8000000 in
set_option maxRecDepth 100000 in
theorem l12Expr_ok (c g cap : Nat) (ts : List Tok) (hts : TsOk ts) (m : Nat) (hU : POk 48 1 c g cap ts m) : POk 35 1 c g cap ts m := by
  intro w p bad h hm
  have k0 : Kept w (w.alloc (.cells zeroN 26)) := Kept.alloc (Below.refl _ _) _
  have hC := hU _ p bad (h.kept k0) hm
  have HS : Hid (c < w.heap.size ∧ g < w.heap.size) := ⟨h.cur.lt, h.glt⟩
  have HU : Hid (POk 48 1 c g cap ts m) := hU
  have HT : Hid (TsOk ts) := hts
  clear hU hts
  go_enter Try.func35, Try.ntmps35
  go_upto_region 2 with (go_at_call 48; refine hC.mono ?_; rintro e w1 ⟨t1, v1, p1, bad1, rfl, ht1, hp1, hk1, hB1⟩; obtain ⟨op1, s1, n1, ao1, l1, cp1, rfl⟩ := ht1.four)
  have L0 := Loc.first HS.out hk1 hp1 ht1
  have hL : Hid _ := L0
  obtain ⟨wr, hwr⟩ : ∃ wr, w1.alloc (.cells #[.int .i64 op1, .string s1, .int .i64 n1, .slice ao1 l1 cp1] 26) = wr := ⟨_, rfl⟩
  rw [hwr] at hL
  obtain ⟨x, hx⟩ : ∃ x, ts[p1]? = some x := ⟨ts[p1]'hL.out.pa.lt, List.getElem?_eq_getElem hL.out.pa.lt⟩
  have HG : Hid (∀ u s, Kept wr u → Calls Try.prog 38 #[.pointer (some ⟨c, 0, none⟩), .string s] u fun e w' => e = .returned (.bool (isT 4 x bad1 s)) ∧ Kept u w') := fun u s hu => l12Sign_ok u c g cap ts p1 bad1 (hL.out.pa.kept hu) x hx s
  have HNX : Hid (∀ s, isT 4 x bad1 s = true → bad1 < 0 ∧ p1 + 1 < ts.length) := fun s hi => ⟨(isT_yes hi).1, HT.out.next hx (by rw [(isT_yes hi).2]; decide)⟩
  have kz : Kept wr wr := Below.refl _ _
  have hlt := hL.out.pa.lt
  obtain ⟨X, hX⟩ : ∃ X, w1.heap.size = X := ⟨_, rfl⟩
  rw [hX] at hL
  simp only [hwr, hX]
  clear L0 hp1 hk1 ht1 hC hwr hX
  cases hi : isT 4 x bad1 ⟨#[60]⟩ with
  | true =>
    obtain ⟨hb, hn⟩ := HNX.out _ hi
    have hle := hB1.le
    go_wp2_with (first
      | (have g := L3; go_at_call 39; refine (l12Node_ok _ _ _ _ _).mono ?_; rintro e w5 ⟨rfl, k5⟩; have L5 := L4.kept k5; have rx := L5.res; have d0 := rx.cell 0; have d1 := rx.cell 1; have d2 := rx.cell 2; have d3 := rx.cell 3; have g0 := rx.frozen 0; have g1 := rx.frozen 1; have g2 := rx.frozen 2; have g3 := rx.frozen 3; have rl := rx.lt)
      | (have g := L2; go_at_call 48; refine (HU.out _ _ _ L2.pa (by omega)).mono ?_; rintro e w3 ⟨t3, v3, p3, bad3, rfl, ht3, hp3, hk3, hB3⟩; obtain ⟨op3, s3, n3, ao3, l3, cp3, rfl⟩ := ht3.four; have L3 := L2.step hk3 hp3; have bx := L3.box; have c0 := bx.cell 0; have c1 := bx.cell 1; have c2 := bx.cell 2; have c3 := bx.cell 3; have l0 := bx.lt; have L4 := L3.kept (Kept.alloc (Kept.alloc (Below.refl _ w3) (.cells #[.int .i64 op3, .string s3, .int .i64 n3, .slice ao3 l3 cp3] 26)) (.cells #[.int .i64 op1, .string s1, .int .i64 n1, .slice ao1 l1 cp1, .int .i64 op3, .string s3, .int .i64 n3, .slice ao3 l3 cp3] 26)))
      | (go_at_call 32; refine (l12Next_ok _ c _ cap ts p1 bad1 (hL.out.kept kz).pa HT.out).mono ?_; rintro e w2 ⟨rfl, k2, h2⟩; rw [if_pos hn] at h2; have L2 := (hL.out.kept kz).step k2 h2)
      | (go_at_call 38; refine (HG.out _ _ kz).mono ?_; rintro e wa ⟨rfl, k1⟩; have kz := Kept.trans kz k1))
    have kb : Kept w3 (w3.alloc (.cells #[.int .i64 op3, .string s3, .int .i64 n3, .slice ao3 l3 cp3] 26)) := Kept.alloc (Below.refl _ _) _
    have hx1 := L2.box.lt
    have hx2 := L2.x
    have hsz := hk3.size
    have ht4 : NdS (w3.alloc (.cells #[.int .i64 op3, .string s3, .int .i64 n3, .slice ao3 l3 cp3] 26)) (fun b => w.heap.size ≤ b ∧ b ≠ w.heap.size ∧ b ≠ X) t3 _ := NdS.mono (fun b hb _ => ⟨by omega, by omega, by omega⟩) _ _ (NdS.stay (Stays.kept kb _) _ _ ht3)
    have hN := NdS.two (L3.kept kb).tree ht4 (by simp only [World.size_alloc]; omega) 22 0 ⟨#[]⟩ (by decide)
    simp only [World.size_alloc] at hN
    obtain ⟨r1, r2, r3, r4⟩ := L5.ret (NdS.stay (Stays.kept k5 _) _ _ hN)
    have z0 := r4.cell 0; have z1 := r4.cell 1; have z2 := r4.cell 2; have z3 := r4.cell 3
    exact bodyPost_ret (v := .agg #[.int .i64 22, .string ⟨#[]⟩, .int .i64 0, .slice (some ⟨w3.heap.size + 1, 0, none⟩) 2 2]) (by simp [results, Try.results35, go_sem, z0, z1, z2, z3]) rfl ⟨_, _, p3, bad3, rfl, r1, r2, r3, hB1.two hb hB3 22 0 ⟨#[]⟩⟩
  | false =>
    cases hj : isT 4 x bad1 ⟨#[61, 61]⟩ with
    | true =>
      obtain ⟨hb, hn⟩ := HNX.out _ hj
      have hle := hB1.le
      go_wp2_with (first
        | (have g := L3; go_at_call 39; refine (l12Node_ok _ _ _ _ _).mono ?_; rintro e w5 ⟨rfl, k5⟩; have L5 := L4.kept k5; have rx := L5.res; have d0 := rx.cell 0; have d1 := rx.cell 1; have d2 := rx.cell 2; have d3 := rx.cell 3; have g0 := rx.frozen 0; have g1 := rx.frozen 1; have g2 := rx.frozen 2; have g3 := rx.frozen 3; have rl := rx.lt)
        | (have g := L2; go_at_call 48; refine (HU.out _ _ _ L2.pa (by omega)).mono ?_; rintro e w3 ⟨t3, v3, p3, bad3, rfl, ht3, hp3, hk3, hB3⟩; obtain ⟨op3, s3, n3, ao3, l3, cp3, rfl⟩ := ht3.four; have L3 := L2.step hk3 hp3; have bx := L3.box; have c0 := bx.cell 0; have c1 := bx.cell 1; have c2 := bx.cell 2; have c3 := bx.cell 3; have l0 := bx.lt; have L4 := L3.kept (Kept.alloc (Kept.alloc (Below.refl _ w3) (.cells #[.int .i64 op3, .string s3, .int .i64 n3, .slice ao3 l3 cp3] 26)) (.cells #[.int .i64 op1, .string s1, .int .i64 n1, .slice ao1 l1 cp1, .int .i64 op3, .string s3, .int .i64 n3, .slice ao3 l3 cp3] 26)))
        | (go_at_call 32; refine (l12Next_ok _ c _ cap ts p1 bad1 (hL.out.kept kz).pa HT.out).mono ?_; rintro e w2 ⟨rfl, k2, h2⟩; rw [if_pos hn] at h2; have L2 := (hL.out.kept kz).step k2 h2)
        | (go_at_call 38; refine (HG.out _ _ kz).mono ?_; rintro e wa ⟨rfl, k1⟩; have kz := Kept.trans kz k1))
      have kb : Kept w3 (w3.alloc (.cells #[.int .i64 op3, .string s3, .int .i64 n3, .slice ao3 l3 cp3] 26)) := Kept.alloc (Below.refl _ _) _
      have hx1 := L2.box.lt
      have hx2 := L2.x
      have hsz := hk3.size
      have ht4 : NdS (w3.alloc (.cells #[.int .i64 op3, .string s3, .int .i64 n3, .slice ao3 l3 cp3] 26)) (fun b => w.heap.size ≤ b ∧ b ≠ w.heap.size ∧ b ≠ X) t3 _ := NdS.mono (fun b hb _ => ⟨by omega, by omega, by omega⟩) _ _ (NdS.stay (Stays.kept kb _) _ _ ht3)
      have hN := NdS.two (L3.kept kb).tree ht4 (by simp only [World.size_alloc]; omega) 23 0 ⟨#[]⟩ (by decide)
      simp only [World.size_alloc] at hN
      obtain ⟨r1, r2, r3, r4⟩ := L5.ret (NdS.stay (Stays.kept k5 _) _ _ hN)
      have z0 := r4.cell 0; have z1 := r4.cell 1; have z2 := r4.cell 2; have z3 := r4.cell 3
      exact bodyPost_ret (v := .agg #[.int .i64 23, .string ⟨#[]⟩, .int .i64 0, .slice (some ⟨w3.heap.size + 1, 0, none⟩) 2 2]) (by simp [results, Try.results35, go_sem, z0, z1, z2, z3]) rfl ⟨_, _, p3, bad3, rfl, r1, r2, r3, hB1.two hb hB3 23 0 ⟨#[]⟩⟩
    | false =>
      go_wp2_with (go_at_call 38; refine (HG.out _ _ kz).mono ?_; rintro e wa ⟨rfl, k1⟩; have kz := Kept.trans kz k1; have L1 := hL.out.kept kz; have bx := L1.box; have c0 := bx.cell 0; have c1 := bx.cell 1; have c2 := bx.cell 2; have c3 := bx.cell 3; have rx := L1.res; have d0 := rx.cell 0; have d1 := rx.cell 1; have d2 := rx.cell 2; have d3 := rx.cell 3; have g0 := rx.frozen 0; have g1 := rx.frozen 1; have g2 := rx.frozen 2; have g3 := rx.frozen 3; have rl := rx.lt)
      have L1 := hL.out.kept kz
      obtain ⟨r1, r2, r3, r4⟩ := L1.done
      have z0 := r4.cell 0; have z1 := r4.cell 1; have z2 := r4.cell 2; have z3 := r4.cell 3
      exact bodyPost_ret (v := .agg #[.int .i64 op1, .string s1, .int .i64 n1, .slice ao1 l1 cp1]) (by simp [results, Try.results35, go_sem, z0, z1, z2, z3]) rfl ⟨t1, _, p1, bad1, rfl, r1, r2, r3, hB1⟩
end Go.Proofs.Ytdcjfeihcafndaa
