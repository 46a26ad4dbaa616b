/-
  Chapter 12's models, weakly told: atoms (genPar4.py).
-/
import Derived.Test.YtdcjfeihcafndaaParF
namespace Go.Proofs.Ytdcjfeihcafndaa
open Go.RowKit
set_option linter.unusedSimpArgs false
attribute [local go_sem] Plain.and7

/-- Within a function: the box of the result, the cursor. -/
structure Loc0 (w wr : World) (c g cap : Nat) (ts : List Tok) (p : Nat) (bad : Int) : Prop where
  start : c < w.heap.size ∧ g < w.heap.size
  keeps : Keeps c w wr
  pa : PaW wr c g cap ts p bad
  res : Cells wr w.heap.size 26 zeroN
theorem Loc0.step {w wr wr' : World} {c g cap : Nat} {ts : List Tok} {p p' : Nat} {bad bad' : Int} (h : Loc0 w wr c g cap ts p bad) (hk : Keeps c wr wr') (hp : PaW wr' c g cap ts p' bad') : Loc0 w wr' c g cap ts p' bad' :=
  ⟨h.start, h.keeps.trans hk, hp, h.res.keeps hk (by have := h.start.1; omega)⟩
theorem Loc0.kept {w wr wr' : World} {c g cap : Nat} {ts : List Tok} {p : Nat} {bad : Int} (h : Loc0 w wr c g cap ts p bad) (hk : Kept wr wr') : Loc0 w wr' c g cap ts p bad := h.step hk.keeps (h.pa.kept hk)
theorem Loc0.put {w wr : World} {c g cap : Nat} {ts : List Tok} {p : Nat} {bad : Int} {X : Nat} (h : Loc0 w wr c g cap ts p bad) (hX : w.heap.size < X) (x y z u : Value) : Loc0 w (set4 wr X x y z u) c g cap ts p bad := by
  have h1 := h.start
  have hs : Stays (fun b => b ≠ X) wr (set4 wr X x y z u) := (Stays.refl _ wr).set4 (by simp) _ _ _ _
  exact ⟨h1, h.keeps.set4 (by omega) _ _ _ _, h.pa.set4 (by omega) (by omega), (hs.block _ (by omega) h.res.lt).trans h.res⟩
theorem Loc0.ret {w wr : World} {c g cap : Nat} {ts : List Tok} {p : Nat} {bad : Int} {t : Nd} {b0 b1 b2 b3 : Value} (h : Loc0 w wr c g cap ts p bad) (ht : NdS wr (fun b => w.heap.size ≤ b ∧ b ≠ w.heap.size) t (.agg #[b0, b1, b2, b3])) : NdS (set4 wr w.heap.size b0 b1 b2 b3) (fun b => w.heap.size ≤ b) t (.agg #[b0, b1, b2, b3]) ∧ PaW (set4 wr w.heap.size b0 b1 b2 b3) c g cap ts p bad ∧ Keeps c w (set4 wr w.heap.size b0 b1 b2 b3) ∧ Cells (set4 wr w.heap.size b0 b1 b2 b3) w.heap.size 26 #[b0, b1, b2, b3] := by
  have h1 := h.start
  have hs : Stays (fun b => b ≠ w.heap.size) wr (set4 wr w.heap.size b0 b1 b2 b3) := (Stays.refl _ wr).set4 (by simp) _ _ _ _
  refine ⟨NdS.mono (fun b hb _ => hb.1) _ _ (NdS.stay (hs.mono (fun b hb => hb.2)) _ _ ht), h.pa.set4 (by omega) (by omega), h.keeps.set4 (Nat.le_refl _) _ _ _ _, h.res.put4 _ _ _ _⟩
theorem Bnd.leaf {p : Nat} {bad : Int} {p' : Nat} {bad' : Int} (hT : (bad < 0 ∧ p + 1 ≤ p') ∨ (p ≤ p' ∧ 0 ≤ bad' ∧ (bad < 0 ∨ p' = p))) (op n : Int) (s : ByteArray) (ho : op ≠ 17) : Bnd 1 p bad p' bad' (.mk op s n []) := by
  refine ⟨by omega, by omega, fun h => ?_, fun h => ?_, fun e => absurd e ho⟩ <;> simp only [Nd.size, sizesN] <;> omega
theorem Bnd.brack {p : Nat} {bad : Int} {p2 : Nat} {bad2 : Int} {p3 : Nat} {bad3 : Int} {t : Nd} (hb : bad < 0) (h : Bnd 1 (p + 1) bad p2 bad2 t) (hT : TakeR p2 bad2 p3 bad3) : Bnd 1 p bad p3 bad3 t := by
  have h1 := h.le
  refine ⟨?_, .inl hb, fun h3 => ?_, fun h3 => ?_, h.get⟩
  · rcases hT with ⟨a, b, e⟩ | ⟨e, b⟩ <;> omega
  · rcases hT with ⟨a, b, e⟩ | ⟨e, b⟩
    · have := h.good a; omega
    · omega
  · rcases hT with ⟨a, b, e⟩ | ⟨e, b⟩
    · have := h.good a; omega
    · by_cases h2 : bad2 < 0
      · have := h.good h2; omega
      · have := h.wrong (by omega); omega
set_option maxHeartbeats 8000000 in
set_option maxRecDepth 100000 in
theorem l12Atom_ok (c g cap : Nat) (ts : List Tok) (hts : TsOk ts) (m : Nat) (hU : POk 35 1 c g cap ts m) (hO : POk 55 1 c g cap ts (m + 1)) (hF : FOk 56 c g cap ts m) : POk 53 1 c g cap ts (m + 1) := by
  intro w p bad h hm
  have k0 : Kept w (w.alloc (.cells zeroN 26)) := Kept.alloc (Below.refl _ _) _
  obtain ⟨x, hx⟩ : ∃ x, ts[p]? = some x := ⟨ts[p]'h.lt, List.getElem?_eq_getElem h.lt⟩
  have hox := hts.ok x (List.mem_of_getElem? hx)
  have hxs : x.s.size ≤ maxLen := by have := hox.2.2.2.2; unfold maxLen; omega
  have hNw := l12Now_ok _ c g cap ts p bad (h.kept k0) x hx
  have Lz : Loc0 w (w.alloc (.cells zeroN 26)) c g cap ts p bad := ⟨⟨h.cur.lt, h.glt⟩, k0.keeps, h.kept k0, Cells.new w _ _⟩
  have HU : Hid (POk 35 1 c g cap ts m) := hU
  have HO : Hid (POk 55 1 c g cap ts (m + 1)) := hO
  have HF : Hid (FOk 56 c g cap ts m) := hF
  have HT : Hid (TsOk ts) := hts
  have HNX : Hid (x.k ≠ 0 → p + 1 < ts.length) := fun hk => hts.next hx hk
  have hplt := h.lt
  clear hU hO hF hts hox
  go_enter Try.func53, Try.ntmps53
  go_upto_region 3 with (first
    | (have _tk := L1; go_at_call 54; refine (l12Words_ok _ c g cap ts p bad L1.pa x hx).mono ?_; rintro e w2 ⟨op, rfl, hop, k2⟩)
    | (go_at_call 27; refine hNw.mono ?_; rintro e w1 ⟨rfl, k1⟩; have L1 := Lz.kept (Kept.alloc k1 (.cells #[.int .i64 x.k, .string x.s, .int .i64 x.n, .int .i64 x.a] 61)); have y1 := Cells.new w1 61 #[.int .i64 x.k, .string x.s, .int .i64 x.n, .int .i64 x.a]))
  have L2 := L1.kept k2
  have y2 := y1.kept k2
  have hB3 : w.heap.size < w1.heap.size := by have := Lz.res.lt; have := k1.size; omega
  obtain ⟨B3, hB3e⟩ : ∃ B3, w1.heap.size = B3 := ⟨_, rfl⟩
  rw [hB3e] at y2 hB3
  simp only [hB3e]
  have HL : Hid (Loc0 w w2 c g cap ts p bad) := L2
  have HG : Hid (∀ u s, Kept w2 u → Calls Try.prog 38 #[.pointer (some ⟨c, 0, none⟩), .string s] u fun e w' => e = .returned (.bool (isT 4 x bad s)) ∧ Kept u w') := fun u s hu => l12Sign_ok u c g cap ts p bad (HL.out.pa.kept hu) x hx s
  have HI : Hid (∀ u s, Kept w2 u → Calls Try.prog 31 #[.pointer (some ⟨c, 0, none⟩), .string s] u fun e w' => e = .returned (.bool (isT 1 x bad s)) ∧ Kept u w') := fun u s hu => l12Is_ok u c g cap ts p bad (HL.out.pa.kept hu) x hx s
  have HN : Hid (p + 1 < ts.length → ∀ u, Kept w2 u → Calls Try.prog 32 #[.pointer (some ⟨c, 0, none⟩)] u fun e w' => e = .returned (.tuple #[]) ∧ Keeps c u w' ∧ PaW w' c g cap ts (p + 1) bad) := fun hn u hu => by
    have := l12Next_ok u c g cap ts p bad (HL.out.pa.kept hu) HT.out
    rwa [if_pos hn] at this
  have HY : Hid (∀ k s, isT k x bad s = true → bad < 0 ∧ x.k = k) := fun k s hi => isT_yes hi
  have kz : Kept w2 w2 := Below.refl _ _
  have HB : Hid (∀ u, Kept w2 u → Cells u B3 61 #[.int .i64 x.k, .string x.s, .int .i64 x.n, .int .i64 x.a]) := fun u hu => y2.kept hu
  have e2 := L2.pa.cur.cell 2
  simp at e2
  have q0 := y2.cell 0; have q1 := y2.cell 1; have q2 := y2.cell 2; have q3 := y2.cell 3
  clear L1 L2 y1 y2 k1 k2 hB3e hNw Lz
  by_cases ho : op = 0
  · subst ho
    by_cases hb : bad < 0
    · by_cases hk2 : x.k = 2
      · have hk : (x.k == 2) = true := by simpa using hk2
        have hn := HNX.out (by rw [hk2]; decide)
        clear hk2
        go_wp2_with (go_at_call 32; refine (HN.out hn _ kz).mono ?_; rintro e w3 ⟨rfl, hk3, hp3⟩; have L3 := (HL.out.kept kz).step hk3 hp3; have y3 := (HB.out _ kz).keeps hk3 (by have := HL.out.start.1; omega); have q2 := y3.cell 2; have rx := L3.res; have d0 := rx.cell 0; have d1 := rx.cell 1; have d2 := rx.cell 2; have d3 := rx.cell 3; have g0 := rx.frozen 0; have g1 := rx.frozen 1; have g2 := rx.frozen 2; have g3 := rx.frozen 3; have rl := rx.lt)
        obtain ⟨r1, r2, r3, r4⟩ := L3.ret (NdS.leaf _ _ 10 x.n ⟨#[]⟩ (by decide))
        have z0 := r4.cell 0; have z1 := r4.cell 1; have z2 := r4.cell 2; have z3 := r4.cell 3
        exact bodyPost_ret (v := .agg #[.int .i64 10, .string ⟨#[]⟩, .int .i64 x.n, .slice none 0 0]) (by simp [results, Try.results53, go_sem, z0, z1, z2, z3]) rfl ⟨_, _, _, _, rfl, r1, r2, r3, Bnd.leaf (.inl ⟨hb, Nat.le_refl _⟩) 10 x.n ⟨#[]⟩ (by decide)⟩
      · have hk2' : (x.k == 2) = false := by simpa using hk2
        by_cases hk3 : x.k = 3
        · have hk : (x.k == 3) = true := by simpa using hk3
          have hn := HNX.out (by rw [hk3]; decide)
          clear hk2 hk3
          go_wp2_with (go_at_call 32; refine (HN.out hn _ kz).mono ?_; rintro e w3 ⟨rfl, hk3, hp3⟩; have L3 := (HL.out.kept kz).step hk3 hp3; have y3 := (HB.out _ kz).keeps hk3 (by have := HL.out.start.1; omega); have q1 := y3.cell 1; have rx := L3.res; have d0 := rx.cell 0; have d1 := rx.cell 1; have d2 := rx.cell 2; have d3 := rx.cell 3; have g0 := rx.frozen 0; have g1 := rx.frozen 1; have g2 := rx.frozen 2; have g3 := rx.frozen 3; have rl := rx.lt)
          obtain ⟨r1, r2, r3, r4⟩ := L3.ret (NdS.leaf _ _ 11 0 x.s hxs)
          have z0 := r4.cell 0; have z1 := r4.cell 1; have z2 := r4.cell 2; have z3 := r4.cell 3
          exact bodyPost_ret (v := .agg #[.int .i64 11, .string x.s, .int .i64 0, .slice none 0 0]) (by simp [results, Try.results53, go_sem, z0, z1, z2, z3]) rfl ⟨_, _, _, _, rfl, r1, r2, r3, Bnd.leaf (.inl ⟨hb, Nat.le_refl _⟩) 11 0 x.s (by decide)⟩
        · have hk3' : (x.k == 3) = false := by simpa using hk3
          clear hk2 hk3
          cases hm1 : isT 4 x bad ⟨#[45]⟩ with
          | true =>
            obtain ⟨hb, hk⟩ := HY.out _ _ hm1
            have hn := HNX.out (by rw [hk]; decide)
            obtain ⟨y, hy⟩ : ∃ y, ts[p + 1]? = some y := ⟨ts[p + 1]'hn, List.getElem?_eq_getElem hn⟩
            clear hk
            by_cases hy2 : y.k = 2
            · have hyk : (y.k != 2) = false := by simp [hy2]
              have hn2 : p + 1 + 1 < ts.length := HT.out.next hy (by rw [hy2]; decide)
              clear hy2
              go_wp2_with (first
                | (have _tk := L4; go_at_call 32; refine (l12Next_ok _ c g cap ts (p + 1) bad L4.pa HT.out).mono ?_; rintro e w5 ⟨rfl, hk5, hp5⟩; rw [if_pos hn2] at hp5; have L5 := L4.step hk5 hp5; have y5 := y4.keeps hk5 (by have := HL.out.start.1; omega); have q2 := y5.cell 2; have rx := L5.res; have d0 := rx.cell 0; have d1 := rx.cell 1; have d2 := rx.cell 2; have d3 := rx.cell 3; have g0 := rx.frozen 0; have g1 := rx.frozen 1; have g2 := rx.frozen 2; have g3 := rx.frozen 3; have rl := rx.lt)
                | (have _tk := L3; go_at_call 27; refine (l12Now_ok _ c g cap ts (p + 1) bad L3.pa y hy).mono ?_; rintro e w4 ⟨rfl, k4⟩; have b4 := y3.kept k4; have q0 := b4.cell 0; have q1 := b4.cell 1; have q2 := b4.cell 2; have q3 := b4.cell 3; have u0 := b4.frozen 0; have u1 := b4.frozen 1; have u2 := b4.frozen 2; have u3 := b4.frozen 3; have y4 := b4.put4 (.int .i64 y.k) (.string y.s) (.int .i64 y.n) (.int .i64 y.a); have L4 := (L3.kept k4).put hB3 (.int .i64 y.k) (.string y.s) (.int .i64 y.n) (.int .i64 y.a))
                | (go_at_call 32; refine (HN.out hn _ kz).mono ?_; rintro e w3 ⟨rfl, hk3, hp3⟩; have L3 := (HL.out.kept kz).step hk3 hp3; have y3 := (HB.out _ kz).keeps hk3 (by have := HL.out.start.1; omega))
                | (go_at_call 38; refine (HG.out _ _ kz).mono ?_; rintro e wa ⟨rfl, ka⟩; have kz := Kept.trans kz ka))
              obtain ⟨r1, r2, r3, r4⟩ := L5.ret (NdS.leaf _ _ 10 (wrap64 (-y.n)) ⟨#[]⟩ (by decide))
              have z0 := r4.cell 0; have z1 := r4.cell 1; have z2 := r4.cell 2; have z3 := r4.cell 3
              exact bodyPost_ret (v := .agg #[.int .i64 10, .string ⟨#[]⟩, .int .i64 (wrap64 (-y.n)), .slice none 0 0]) (by simp [results, Try.results53, go_sem, z0, z1, z2, z3]) rfl ⟨_, _, _, _, rfl, r1, r2, r3, Bnd.leaf (.inl ⟨hb, by omega⟩) 10 _ ⟨#[]⟩ (by decide)⟩
            · have hyk : (y.k != 2) = true := by simpa using hy2
              clear hy2
              go_wp2_with (first
                | (have _tk := L4; go_at_call 47; refine (l12Bad_ok _ c g cap ts (p + 1) bad L4.pa HT.out).mono ?_; rintro e w5 ⟨rfl, hk5, bad5, hb5, hp5⟩; have L5 := L4.step hk5 hp5; have rx := L5.res; have d0 := rx.cell 0; have d1 := rx.cell 1; have d2 := rx.cell 2; have d3 := rx.cell 3; have g0 := rx.frozen 0; have g1 := rx.frozen 1; have g2 := rx.frozen 2; have g3 := rx.frozen 3; have rl := rx.lt)
                | (have _tk := L3; go_at_call 27; refine (l12Now_ok _ c g cap ts (p + 1) bad L3.pa y hy).mono ?_; rintro e w4 ⟨rfl, k4⟩; have b4 := y3.kept k4; have q0 := b4.cell 0; have q1 := b4.cell 1; have q2 := b4.cell 2; have q3 := b4.cell 3; have u0 := b4.frozen 0; have u1 := b4.frozen 1; have u2 := b4.frozen 2; have u3 := b4.frozen 3; have L4 := (L3.kept k4).put hB3 (.int .i64 y.k) (.string y.s) (.int .i64 y.n) (.int .i64 y.a))
                | (go_at_call 32; refine (HN.out hn _ kz).mono ?_; rintro e w3 ⟨rfl, hk3, hp3⟩; have L3 := (HL.out.kept kz).step hk3 hp3; have y3 := (HB.out _ kz).keeps hk3 (by have := HL.out.start.1; omega))
                | (go_at_call 38; refine (HG.out _ _ kz).mono ?_; rintro e wa ⟨rfl, ka⟩; have kz := Kept.trans kz ka))
              obtain ⟨r1, r2, r3, r4⟩ := L5.ret (NdS.leaf _ _ 0 0 ⟨#[]⟩ (by decide))
              have z0 := r4.cell 0; have z1 := r4.cell 1; have z2 := r4.cell 2; have z3 := r4.cell 3
              exact bodyPost_ret (v := .agg #[.int .i64 0, .string ⟨#[]⟩, .int .i64 0, .slice none 0 0]) (by simp [results, Try.results53, go_sem, z0, z1, z2, z3]) rfl ⟨_, _, _, _, rfl, r1, r2, r3, Bnd.leaf (.inl ⟨hb, Nat.le_refl _⟩) 0 0 ⟨#[]⟩ (by decide)⟩
          | false =>
            cases hm2 : isT 4 x bad ⟨#[40]⟩ with
            | true =>
              obtain ⟨hb, hk⟩ := HY.out _ _ hm2
              have hn := HNX.out (by rw [hk]; decide)
              clear hk
              go_wp2_with (first
                | (have _tk := hB5; go_at_call 34; refine (l12Take_ok _ c g cap ts p5 bad5 Lf.pa HT.out _).mono ?_; rintro e w6 ⟨rfl, hk6, p6, bad6, hT6, hp6⟩; have L6 := Lf.step hk6 hp6; have bx := L6.box; have c0 := bx.cell 0; have c1 := bx.cell 1; have c2 := bx.cell 2; have c3 := bx.cell 3; have rx := L6.res; have d0 := rx.cell 0; have d1 := rx.cell 1; have d2 := rx.cell 2; have d3 := rx.cell 3; have g0 := rx.frozen 0; have g1 := rx.frozen 1; have g2 := rx.frozen 2; have g3 := rx.frozen 3; have rl := rx.lt)
                | (have _tk := L3; go_at_call 35; refine (HU.out _ _ _ L3.pa (by omega)).mono ?_; rintro e w5 ⟨t5, v5, p5, bad5, rfl, ht5, hp5, hk5, hB5⟩; obtain ⟨op5, s5, n5, ao5, l5, cp5, rfl⟩ := ht5.four; have hz5 := hk5.size; have hr3 := L3.res.lt; have Lf : Loc w (w5.alloc (.cells #[.int .i64 op5, .string s5, .int .i64 n5, .slice ao5 l5 cp5] 26)) c g cap ts p5 bad5 w5.heap.size t5 (.int .i64 op5) (.string s5) (.int .i64 n5) (.slice ao5 l5 cp5) := (by have Lq := (L3.step hk5 hp5).kept (Kept.alloc (Below.refl _ w5) (.cells #[.int .i64 op5, .string s5, .int .i64 n5, .slice ao5 l5 cp5] 26)); exact ⟨Lq.start, Lq.keeps, Lq.pa, Lq.res, Cells.new w5 _ _, by omega, NdS.stay (Stays.kept (Kept.alloc (Below.refl _ _) _) _) _ _ (NdS.mono (fun b hb hl => ⟨by omega, by omega, by omega⟩) _ _ ht5)⟩))
                | (go_at_call 32; refine (HN.out hn _ kz).mono ?_; rintro e w3 ⟨rfl, hk3, hp3⟩; have L3 := (HL.out.kept kz).step hk3 hp3; have y3 := (HB.out _ kz).keeps hk3 (by have := HL.out.start.1; omega))
                | (go_at_call 38; refine (HG.out _ _ kz).mono ?_; rintro e wa ⟨rfl, ka⟩; have kz := Kept.trans kz ka))
              obtain ⟨r1, r2, r3, r4⟩ := L6.done
              have z0 := r4.cell 0; have z1 := r4.cell 1; have z2 := r4.cell 2; have z3 := r4.cell 3
              exact bodyPost_ret (v := .agg #[.int .i64 op5, .string s5, .int .i64 n5, .slice ao5 l5 cp5]) (by simp [results, Try.results53, go_sem, z0, z1, z2, z3]) rfl ⟨t5, _, _, _, rfl, r1, r2, r3, hB5.brack hb hT6⟩
            | false =>
              cases hm3 : isT 4 x bad ⟨#[123]⟩ with
              | true =>
                go_wp2_with (first
                  | (go_at_call 55; refine (HO.out _ _ _ (HL.out.kept kz).pa hm).mono ?_; rintro e w5 ⟨t5, v5, p5, bad5, rfl, ht5, hp5, hk5, hB5⟩; obtain ⟨op5, s5, n5, ao5, l5, cp5, rfl⟩ := ht5.four; have L5 := (HL.out.kept kz).step hk5 hp5; have rx := L5.res; have d0 := rx.cell 0; have d1 := rx.cell 1; have d2 := rx.cell 2; have d3 := rx.cell 3; have g0 := rx.frozen 0; have g1 := rx.frozen 1; have g2 := rx.frozen 2; have g3 := rx.frozen 3; have rl := rx.lt)
                  | (go_at_call 38; refine (HG.out _ _ kz).mono ?_; rintro e wa ⟨rfl, ka⟩; have kz := Kept.trans kz ka))
                have hr3 := (HL.out.kept kz).res.lt
                obtain ⟨r1, r2, r3, r4⟩ := L5.ret (NdS.mono (fun b hb _ => ⟨by omega, by omega⟩) _ _ ht5)
                have z0 := r4.cell 0; have z1 := r4.cell 1; have z2 := r4.cell 2; have z3 := r4.cell 3
                exact bodyPost_ret (v := .agg #[.int .i64 op5, .string s5, .int .i64 n5, .slice ao5 l5 cp5]) (by simp [results, Try.results53, go_sem, z0, z1, z2, z3]) rfl ⟨t5, _, _, _, rfl, r1, r2, r3, hB5⟩
              | false =>
                cases hm4 : isT 1 x bad ⟨#[102, 117, 110, 99, 116, 105, 111, 110]⟩ with
                | true =>
                  obtain ⟨hb, hk⟩ := HY.out _ _ hm4
                  have hn := HNX.out (by rw [hk]; decide)
                  clear hk
                  go_wp2_with (first
                    | (go_at_call 56; refine (HF.out _ _ _ (HL.out.kept kz).pa hb hn hm).mono ?_; rintro e w5 ⟨t5, v5, p5, bad5, rfl, ht5, hp5, hk5, hB5⟩; obtain ⟨op5, s5, n5, ao5, l5, cp5, rfl⟩ := ht5.four; have L5 := (HL.out.kept kz).step hk5 hp5; have rx := L5.res; have d0 := rx.cell 0; have d1 := rx.cell 1; have d2 := rx.cell 2; have d3 := rx.cell 3; have g0 := rx.frozen 0; have g1 := rx.frozen 1; have g2 := rx.frozen 2; have g3 := rx.frozen 3; have rl := rx.lt)
                    | (go_at_call 31; refine (HI.out _ _ kz).mono ?_; rintro e wa ⟨rfl, ka⟩; have kz := Kept.trans kz ka)
                    | (go_at_call 38; refine (HG.out _ _ kz).mono ?_; rintro e wa ⟨rfl, ka⟩; have kz := Kept.trans kz ka))
                  have hr3 := (HL.out.kept kz).res.lt
                  obtain ⟨r1, r2, r3, r4⟩ := L5.ret (NdS.mono (fun b hb _ => ⟨by omega, by omega⟩) _ _ ht5)
                  have z0 := r4.cell 0; have z1 := r4.cell 1; have z2 := r4.cell 2; have z3 := r4.cell 3
                  exact bodyPost_ret (v := .agg #[.int .i64 op5, .string s5, .int .i64 n5, .slice ao5 l5 cp5]) (by simp [results, Try.results53, go_sem, z0, z1, z2, z3]) rfl ⟨t5, _, _, _, rfl, r1, r2, r3, hB5⟩
                | false =>
                  go_wp2_with (first
                    | (go_at_call 33; refine (l12Name_ok _ c g cap ts p bad (HL.out.kept kz).pa HT.out false).mono ?_; rintro e w5 ⟨s5, p5, bad5, rfl, hs5, hk5, hT5, hp5⟩; have L5 := (HL.out.kept kz).step hk5 hp5; have rx := L5.res; have d0 := rx.cell 0; have d1 := rx.cell 1; have d2 := rx.cell 2; have d3 := rx.cell 3; have g0 := rx.frozen 0; have g1 := rx.frozen 1; have g2 := rx.frozen 2; have g3 := rx.frozen 3; have rl := rx.lt)
                    | (go_at_call 31; refine (HI.out _ _ kz).mono ?_; rintro e wa ⟨rfl, ka⟩; have kz := Kept.trans kz ka)
                    | (go_at_call 38; refine (HG.out _ _ kz).mono ?_; rintro e wa ⟨rfl, ka⟩; have kz := Kept.trans kz ka))
                  obtain ⟨r1, r2, r3, r4⟩ := L5.ret (NdS.leaf _ _ 16 0 s5 (by unfold maxLen; omega))
                  have z0 := r4.cell 0; have z1 := r4.cell 1; have z2 := r4.cell 2; have z3 := r4.cell 3
                  exact bodyPost_ret (v := .agg #[.int .i64 16, .string s5, .int .i64 0, .slice none 0 0]) (by simp [results, Try.results53, go_sem, z0, z1, z2, z3]) rfl ⟨_, _, _, _, rfl, r1, r2, r3, Bnd.leaf (by rcases hT5 with ⟨a, b, e⟩ | ⟨e, b⟩ <;> omega) 16 0 s5 (by decide)⟩
    · have hb2 : ¬ bad < 0 := hb
      have n1 : isT 4 x bad ⟨#[45]⟩ = false := by simp [isT]; omega
      have n2 : isT 4 x bad ⟨#[40]⟩ = false := by simp [isT]; omega
      have n3 : isT 4 x bad ⟨#[123]⟩ = false := by simp [isT]; omega
      have n4 : isT 1 x bad ⟨#[102, 117, 110, 99, 116, 105, 111, 110]⟩ = false := by simp [isT]; omega
      go_wp2_with (first
        | (go_at_call 33; refine (l12Name_ok _ c g cap ts p bad (HL.out.kept kz).pa HT.out false).mono ?_; rintro e w5 ⟨s5, p5, bad5, rfl, hs5, hk5, hT5, hp5⟩; have L5 := (HL.out.kept kz).step hk5 hp5; have rx := L5.res; have d0 := rx.cell 0; have d1 := rx.cell 1; have d2 := rx.cell 2; have d3 := rx.cell 3; have g0 := rx.frozen 0; have g1 := rx.frozen 1; have g2 := rx.frozen 2; have g3 := rx.frozen 3; have rl := rx.lt)
        | (go_at_call 31; refine (HI.out _ _ kz).mono ?_; rintro e wa ⟨rfl, ka⟩; have kz := Kept.trans kz ka)
        | (go_at_call 38; refine (HG.out _ _ kz).mono ?_; rintro e wa ⟨rfl, ka⟩; have kz := Kept.trans kz ka))
      obtain ⟨r1, r2, r3, r4⟩ := L5.ret (NdS.leaf _ _ 16 0 s5 (by unfold maxLen; omega))
      have z0 := r4.cell 0; have z1 := r4.cell 1; have z2 := r4.cell 2; have z3 := r4.cell 3
      exact bodyPost_ret (v := .agg #[.int .i64 16, .string s5, .int .i64 0, .slice none 0 0]) (by simp [results, Try.results53, go_sem, z0, z1, z2, z3]) rfl ⟨_, _, _, _, rfl, r1, r2, r3, Bnd.leaf (by rcases hT5 with ⟨a, b, e⟩ | ⟨e, b⟩ <;> omega) 16 0 s5 (by decide)⟩
  · have ho' : (op != 0) = true := by simpa using ho
    obtain ⟨hb, hk1, ho17⟩ := hop ho
    have hn := HNX.out (by rw [hk1]; decide)
    clear hop ho hk1
    go_wp2_with (go_at_call 32; refine (HN.out hn _ kz).mono ?_; rintro e w3 ⟨rfl, hk3, hp3⟩; have L3 := (HL.out.kept kz).step hk3 hp3; have rx := L3.res; have d0 := rx.cell 0; have d1 := rx.cell 1; have d2 := rx.cell 2; have d3 := rx.cell 3; have g0 := rx.frozen 0; have g1 := rx.frozen 1; have g2 := rx.frozen 2; have g3 := rx.frozen 3; have rl := rx.lt)
    obtain ⟨r1, r2, r3, r4⟩ := L3.ret (NdS.leaf _ _ op 0 ⟨#[]⟩ (by decide))
    have z0 := r4.cell 0; have z1 := r4.cell 1; have z2 := r4.cell 2; have z3 := r4.cell 3
    exact bodyPost_ret (v := .agg #[.int .i64 op, .string ⟨#[]⟩, .int .i64 0, .slice none 0 0]) (by simp [results, Try.results53, go_sem, z0, z1, z2, z3]) rfl ⟨_, _, _, _, rfl, r1, r2, r3, Bnd.leaf (.inl ⟨hb, Nat.le_refl _⟩) op 0 ⟨#[]⟩ ho17⟩
end Go.Proofs.Ytdcjfeihcafndaa
