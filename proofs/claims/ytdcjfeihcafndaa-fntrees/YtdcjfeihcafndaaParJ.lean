/-
  Chapter 12's models, weakly told: statements (genPar7.py).
-/
import Derived.Test.YtdcjfeihcafndaaParI
namespace Go.Proofs.Ytdcjfeihcafndaa
open Go.RowKit
set_option linter.unusedSimpArgs false
attribute [local go_sem] Plain.and7

theorem Bnd.two2 {p : Nat} {bad : Int} {p' : Nat} {bad' : Int} {t : Nd} (h : Bnd 1 p bad p' bad' t) : Bnd 2 p bad p' bad' t := ⟨h.le, h.stop, h.good, fun hb => by have := h.wrong hb; omega, h.get⟩
theorem NdS.kid0 {W : World} {S : Nat → Prop} {t : Nd} {s : ByteArray} {n : Int} {ao : Option Addr} {l cp : Nat} (h : NdS W S t (.agg #[.int .i64 17, .string s, .int .i64 n, .slice ao l cp])) (hg : t.getOk) : ∃ b off k ks, ao = some ⟨b, off, none⟩ ∧ 0 < l ∧ t = .mk 17 s n (k :: ks) ∧ s.size ≤ maxLen ∧ S b ∧ ∃ c0 c1 c2 c3, W.cell? ⟨b, off, none⟩ = some c0 ∧ W.cell? ⟨b, off + 1, none⟩ = some c1 ∧ W.cell? ⟨b, off + 2, none⟩ = some c2 ∧ W.cell? ⟨b, off + 3, none⟩ = some c3 ∧ NdS W S k (.agg #[c0, c1, c2, c3]) := by
  obtain ⟨op, s', n', ks⟩ := t
  rw [NdS] at h
  obtain ⟨ao', cap, e, hl, hk⟩ := h
  simp at e
  obtain ⟨rfl, rfl, rfl, rfl, rfl, rfl⟩ := e
  have hne := hg rfl
  cases ks with
  | nil => exact absurd rfl hne
  | cons k ks =>
    rcases hk with h | ⟨b, off, e, hb, hn⟩
    · cases h
    · rw [NdsS] at hn
      exact ⟨b, off, k, ks, e, by simp, rfl, hl.1, hb, hn.2.1⟩
theorem set4_alloc {W : World} {X : Nat} (h : X < W.heap.size) {o : Obj} {a b c d : Value} : set4 (W.alloc o) X a b c d = (set4 W X a b c d).alloc o := by
  have e : ∀ (V : World) (j : Nat) (u : Value), X < V.heap.size → (V.alloc o).setCell ⟨X, j, none⟩ u = (V.setCell ⟨X, j, none⟩ u).alloc o := fun V j u hV => World.setCell_alloc_past _ _ _ _ hV
  simp only [set4]
  rw [e _ _ _ h, e _ _ _ (by simpa [World.setCell] using h), e _ _ _ (by simpa [World.setCell] using h), e _ _ _ (by simpa [World.setCell] using h)]
set_option maxHeartbeats 16000000 in
set_option maxRecDepth 100000 in
theorem l12Stmt_ok (c g cap : Nat) (ts : List Tok) (hts : TsOk ts) (m : Nat) (hU : POk 35 1 c g cap ts (m + 1)) (hC : EOk 36 c g cap ts m) (hE : EOk 37 c g cap ts m) : POk 28 2 c g cap ts (m + 1) := by
  intro w p bad h hm
  have k0 : Kept w (w.alloc (.cells zeroN 26)) := Kept.alloc (Below.refl _ _) _
  obtain ⟨x, hx⟩ : ∃ x, ts[p]? = some x := ⟨ts[p]'h.lt, List.getElem?_eq_getElem h.lt⟩
  have Lz : Loc0 w (w.alloc (.cells zeroN 26)) c g cap ts p bad := ⟨⟨h.cur.lt, h.glt⟩, k0.keeps, h.kept k0, Cells.new w _ _⟩
  have HU : Hid (POk 35 1 c g cap ts (m + 1)) := hU
  have HC : Hid (EOk 36 c g cap ts m) := hC
  have HE : Hid (EOk 37 c g cap ts m) := hE
  have HT : Hid (TsOk ts) := hts
  have HS : Hid (c < w.heap.size ∧ g < w.heap.size) := ⟨h.cur.lt, h.glt⟩
  have HI : Hid (∀ u s, Kept (w.alloc (.cells zeroN 26)) u → Calls Try.prog 31 #[.pointer (some ⟨c, 0, none⟩), .string s] u fun e w' => e = .returned (.bool (isT 1 x bad s)) ∧ Kept u w') := fun u s hu => l12Is_ok u c g cap ts p bad (Lz.pa.kept hu) x hx s
  have HY : Hid (∀ s, isT 1 x bad s = true → bad < 0 ∧ p + 1 < ts.length) := fun s hi => ⟨(isT_yes hi).1, hts.next hx (by rw [(isT_yes hi).2]; decide)⟩
  have kz : Kept (w.alloc (.cells zeroN 26)) (w.alloc (.cells zeroN 26)) := Below.refl _ _
  have hplt := h.lt
  clear hU hC hE hts h
  go_enter Try.func28, Try.ntmps28
  cases h1 : isT 1 x bad ⟨#[108, 101, 116]⟩ with
  | true =>
    obtain ⟨hb, hn⟩ := HY.out _ h1
    go_wp2_with (first
      | (have _tk := L5; go_at_call 34; refine (l12Take_ok _ c g cap ts p5 bad5 L5.pa HT.out _).mono ?_; rintro e w6 ⟨rfl, hk6, p6, bad6, hT6, hp6⟩; have L6 := L5.step hk6 hp6; have L7 := L6.kept (Kept.alloc (Below.refl _ w6) (.cells #[.int .i64 op5, .string s5, .int .i64 n5, .slice ao5 l5 cp5] 26)); have bx := L6.box; have c0 := bx.cell 0; have c1 := bx.cell 1; have c2 := bx.cell 2; have c3 := bx.cell 3; have rx := L7.res; have d0 := rx.cell 0; have d1 := rx.cell 1; have d2 := rx.cell 2; have d3 := rx.cell 3; have g0 := rx.frozen 0; have g1 := rx.frozen 1; have g2 := rx.frozen 2; have g3 := rx.frozen 3; have rl := rx.lt)
      | (have _tk := hT4; go_at_call 35; refine (HU.out _ _ _ L4.pa (by rcases hT4 with ⟨_, _, e⟩ | ⟨e, _⟩ <;> rcases hT3 with ⟨_, _, e⟩ | ⟨e, _⟩ <;> omega)).mono ?_; rintro e w5 ⟨t5, v5, p5, bad5, rfl, ht5, hp5, hk5, hB5⟩; obtain ⟨op5, s5, n5, ao5, l5, cp5, rfl⟩ := ht5.four; have L5 := Loc.first HS.out (((kz.keeps.trans hk2).trans hk3).trans (hk4.trans hk5)) hp5 (NdS.mono (fun b hb _ => Nat.le_trans (((kz.keeps.trans hk2).trans hk3).trans hk4).size hb) _ _ ht5))
      | (have _tk := hT3; go_at_call 34; refine (l12Take_ok _ c g cap ts p3 bad3 L3.pa HT.out _).mono ?_; rintro e w4 ⟨rfl, hk4, p4, bad4, hT4, hp4⟩; have L4 := L3.step hk4 hp4)
      | (have _tk := L2; go_at_call 33; refine (l12Name_ok _ c g cap ts (p + 1) bad L2.pa HT.out false).mono ?_; rintro e w3 ⟨s3, p3, bad3, rfl, hs3, hk3, hT3, hp3⟩; have L3 := L2.step hk3 hp3)
      | (go_at_call 32; refine (l12Next_ok _ c g cap ts p bad (Lz.kept kz).pa HT.out).mono ?_; rintro e w2 ⟨rfl, hk2, hp2⟩; rw [if_pos hn] at hp2; have L2 := (Lz.kept kz).step hk2 hp2)
      | (go_at_call 31; refine (HI.out _ _ kz).mono ?_; rintro e wa ⟨rfl, ka⟩; have kz := Kept.trans kz ka))
    have hN := NdS.one L6.tree (by have := L6.box.lt; have := L6.x; omega) 2 0 s3 (by unfold maxLen; omega)
    obtain ⟨r1, r2, r3, r4⟩ := L7.ret hN
    have z0 := r4.cell 0; have z1 := r4.cell 1; have z2 := r4.cell 2; have z3 := r4.cell 3
    exact bodyPost_ret (v := .agg #[.int .i64 2, .string s3, .int .i64 0, .slice (some ⟨w6.heap.size, 0, none⟩) 1 1]) (by simp [results, Try.results28, go_sem, z0, z1, z2, z3]) rfl ⟨_, _, _, _, rfl, r1, r2, r3, (hB5.around (p := p) (bad := bad) hb (by rcases hT4 with ⟨_, _, e⟩ | ⟨e, _⟩ <;> rcases hT3 with ⟨_, _, e⟩ | ⟨e, _⟩ <;> omega) (.inr hT6) 2 0 s3).two2⟩
  | false =>
    cases h2 : isT 1 x bad ⟨#[105, 102]⟩ with
    | true =>
      obtain ⟨hb, hn⟩ := HY.out _ h2
      go_wp2_with (first
        | (go_at_call 36; refine (HC.out _ _ _ 5 (Lz.kept kz).pa hb hn hm).mono ?_; rintro e w5 ⟨t5, v5, p5, bad5, rfl, ht5, hp5, hk5, hB5⟩; obtain ⟨op5, s5, n5, ao5, l5, cp5, rfl⟩ := ht5.four; have L5 := (Lz.kept kz).step hk5 hp5; have rx := L5.res; have d0 := rx.cell 0; have d1 := rx.cell 1; have d2 := rx.cell 2; have d3 := rx.cell 3; have g0 := rx.frozen 0; have g1 := rx.frozen 1; have g2 := rx.frozen 2; have g3 := rx.frozen 3; have rl := rx.lt)
        | (go_at_call 31; refine (HI.out _ _ kz).mono ?_; rintro e wa ⟨rfl, ka⟩; have kz := Kept.trans kz ka))
      have hr3 := (Lz.kept kz).res.lt
      obtain ⟨r1, r2, r3, r4⟩ := L5.ret (NdS.mono (fun b hb _ => ⟨by omega, by omega⟩) _ _ ht5)
      have z0 := r4.cell 0; have z1 := r4.cell 1; have z2 := r4.cell 2; have z3 := r4.cell 3
      exact bodyPost_ret (v := .agg #[.int .i64 op5, .string s5, .int .i64 n5, .slice ao5 l5 cp5]) (by simp [results, Try.results28, go_sem, z0, z1, z2, z3]) rfl ⟨t5, _, _, _, rfl, r1, r2, r3, hB5.two2⟩
    | false =>
      cases h3 : isT 1 x bad ⟨#[119, 104, 105, 108, 101]⟩ with
      | true =>
        obtain ⟨hb, hn⟩ := HY.out _ h3
        go_wp2_with (first
          | (go_at_call 36; refine (HC.out _ _ _ 6 (Lz.kept kz).pa hb hn hm).mono ?_; rintro e w5 ⟨t5, v5, p5, bad5, rfl, ht5, hp5, hk5, hB5⟩; obtain ⟨op5, s5, n5, ao5, l5, cp5, rfl⟩ := ht5.four; have L5 := (Lz.kept kz).step hk5 hp5; have rx := L5.res; have d0 := rx.cell 0; have d1 := rx.cell 1; have d2 := rx.cell 2; have d3 := rx.cell 3; have g0 := rx.frozen 0; have g1 := rx.frozen 1; have g2 := rx.frozen 2; have g3 := rx.frozen 3; have rl := rx.lt)
          | (go_at_call 31; refine (HI.out _ _ kz).mono ?_; rintro e wa ⟨rfl, ka⟩; have kz := Kept.trans kz ka))
        have hr3 := (Lz.kept kz).res.lt
        obtain ⟨r1, r2, r3, r4⟩ := L5.ret (NdS.mono (fun b hb _ => ⟨by omega, by omega⟩) _ _ ht5)
        have z0 := r4.cell 0; have z1 := r4.cell 1; have z2 := r4.cell 2; have z3 := r4.cell 3
        exact bodyPost_ret (v := .agg #[.int .i64 op5, .string s5, .int .i64 n5, .slice ao5 l5 cp5]) (by simp [results, Try.results28, go_sem, z0, z1, z2, z3]) rfl ⟨t5, _, _, _, rfl, r1, r2, r3, hB5.two2⟩
      | false =>
        cases h4 : isT 1 x bad ⟨#[114, 101, 116, 117, 114, 110]⟩ with
        | true =>
          obtain ⟨hb, hn⟩ := HY.out _ h4
          go_wp2_with (first
            | (go_at_call 37; refine (HE.out _ _ _ 7 (Lz.kept kz).pa hb hn hm).mono ?_; rintro e w5 ⟨t5, v5, p5, bad5, rfl, ht5, hp5, hk5, hB5⟩; obtain ⟨op5, s5, n5, ao5, l5, cp5, rfl⟩ := ht5.four; have L5 := (Lz.kept kz).step hk5 hp5; have rx := L5.res; have d0 := rx.cell 0; have d1 := rx.cell 1; have d2 := rx.cell 2; have d3 := rx.cell 3; have g0 := rx.frozen 0; have g1 := rx.frozen 1; have g2 := rx.frozen 2; have g3 := rx.frozen 3; have rl := rx.lt)
            | (go_at_call 31; refine (HI.out _ _ kz).mono ?_; rintro e wa ⟨rfl, ka⟩; have kz := Kept.trans kz ka))
          have hr3 := (Lz.kept kz).res.lt
          obtain ⟨r1, r2, r3, r4⟩ := L5.ret (NdS.mono (fun b hb _ => ⟨by omega, by omega⟩) _ _ ht5)
          have z0 := r4.cell 0; have z1 := r4.cell 1; have z2 := r4.cell 2; have z3 := r4.cell 3
          exact bodyPost_ret (v := .agg #[.int .i64 op5, .string s5, .int .i64 n5, .slice ao5 l5 cp5]) (by simp [results, Try.results28, go_sem, z0, z1, z2, z3]) rfl ⟨t5, _, _, _, rfl, r1, r2, r3, hB5.two2⟩
        | false =>
          cases h5 : isT 1 x bad ⟨#[112, 114, 105, 110, 116]⟩ with
          | true =>
            obtain ⟨hb, hn⟩ := HY.out _ h5
            go_wp2_with (first
              | (go_at_call 37; refine (HE.out _ _ _ 8 (Lz.kept kz).pa hb hn hm).mono ?_; rintro e w5 ⟨t5, v5, p5, bad5, rfl, ht5, hp5, hk5, hB5⟩; obtain ⟨op5, s5, n5, ao5, l5, cp5, rfl⟩ := ht5.four; have L5 := (Lz.kept kz).step hk5 hp5; have rx := L5.res; have d0 := rx.cell 0; have d1 := rx.cell 1; have d2 := rx.cell 2; have d3 := rx.cell 3; have g0 := rx.frozen 0; have g1 := rx.frozen 1; have g2 := rx.frozen 2; have g3 := rx.frozen 3; have rl := rx.lt)
              | (go_at_call 31; refine (HI.out _ _ kz).mono ?_; rintro e wa ⟨rfl, ka⟩; have kz := Kept.trans kz ka))
            have hr3 := (Lz.kept kz).res.lt
            obtain ⟨r1, r2, r3, r4⟩ := L5.ret (NdS.mono (fun b hb _ => ⟨by omega, by omega⟩) _ _ ht5)
            have z0 := r4.cell 0; have z1 := r4.cell 1; have z2 := r4.cell 2; have z3 := r4.cell 3
            exact bodyPost_ret (v := .agg #[.int .i64 op5, .string s5, .int .i64 n5, .slice ao5 l5 cp5]) (by simp [results, Try.results28, go_sem, z0, z1, z2, z3]) rfl ⟨t5, _, _, _, rfl, r1, r2, r3, hB5.two2⟩
          | false =>
            go_upto_region 17 with (first
              | (go_at_call 35; refine (HU.out _ _ _ (Lz.kept kz).pa hm).mono ?_; rintro e w1 ⟨t1, v1, p1, bad1, rfl, ht1, hp1, hk1, hB1⟩; obtain ⟨op1, s1, n1, ao1, l1, cp1, rfl⟩ := ht1.four)
              | (go_at_call 31; refine (HI.out _ _ kz).mono ?_; rintro e wa ⟨rfl, ka⟩; have kz := Kept.trans kz ka))
            have L0 := Loc.first HS.out (kz.keeps.trans hk1) hp1 (NdS.mono (fun b hb _ => Nat.le_trans kz.size hb) _ _ ht1)
            have hL : Hid _ := L0
            obtain ⟨wr, hwr⟩ : ∃ wr, w1.alloc (.cells #[.int .i64 op1, .string s1, .int .i64 n1, .slice ao1 l1 cp1] 26) = wr := ⟨_, rfl⟩
            obtain ⟨X, hX⟩ : ∃ X, w1.heap.size = X := ⟨_, rfl⟩
            rw [hwr, hX] at hL
            simp only [hwr, hX]
            obtain ⟨y, hy⟩ : ∃ y, ts[p1]? = some y := ⟨ts[p1]'hL.out.pa.lt, List.getElem?_eq_getElem hL.out.pa.lt⟩
            have hlt1 := hL.out.pa.lt
            have HG : Hid (∀ u s, Kept wr u → Calls Try.prog 38 #[.pointer (some ⟨c, 0, none⟩), .string s] u fun e w' => e = .returned (.bool (isT 4 y bad1 s)) ∧ Kept u w') := fun u s hu => l12Sign_ok u c g cap ts p1 bad1 (hL.out.pa.kept hu) y hy s
            have HTk : Hid (∀ u s, Kept wr u → Calls Try.prog 34 #[.pointer (some ⟨c, 0, none⟩), .string s] u fun e w' => e = .returned (.tuple #[]) ∧ Keeps c u w' ∧ ∃ p2 bad2, TakeR p1 bad1 p2 bad2 ∧ PaW w' c g cap ts p2 bad2) := fun u s hu => l12Take_ok u c g cap ts p1 bad1 (hL.out.pa.kept hu) HT.out s
            have hle1 := hB1.le
            clear L0 hp1 hk1 ht1 hwr hX kz Lz HI HY h1 h2 h3 h4 h5
            have kz : Kept wr wr := Below.refl _ _
            cases hi : isT 4 y bad1 ⟨#[61]⟩ with
            | false =>
              go_wp2_with (first
                | (have _tk := L2; go_at_call 39; refine (l12Node_ok _ _ _ _ _).mono ?_; rintro e w5 ⟨rfl, k5⟩; have L5 := (L2.kept (Kept.alloc (Below.refl _ w2) (.cells #[.int .i64 op1, .string s1, .int .i64 n1, .slice ao1 l1 cp1] 26))).kept k5; have rx := L5.res; have d0 := rx.cell 0; have d1 := rx.cell 1; have d2 := rx.cell 2; have d3 := rx.cell 3; have g0 := rx.frozen 0; have g1 := rx.frozen 1; have g2 := rx.frozen 2; have g3 := rx.frozen 3; have rl := rx.lt)
                | (go_at_call 34; refine (HTk.out _ _ kz).mono ?_; rintro e w2 ⟨rfl, hk2, p2, bad2, hT2, hp2⟩; have L2 := (hL.out.kept kz).step hk2 hp2; have bx := L2.box; have c0 := bx.cell 0; have c1 := bx.cell 1; have c2 := bx.cell 2; have c3 := bx.cell 3)
                | (go_at_call 38; refine (HG.out _ _ kz).mono ?_; rintro e wa ⟨rfl, ka⟩; have kz := Kept.trans kz ka; have L1 := hL.out.kept kz; have bx := L1.box; have c0 := bx.cell 0; have c1 := bx.cell 1; have c2 := bx.cell 2; have c3 := bx.cell 3))
              have hN := NdS.one L2.tree (by have := L2.box.lt; have := L2.x; omega) 9 0 ⟨#[]⟩ (by decide)
              obtain ⟨r1, r2, r3, r4⟩ := L5.ret (NdS.stay (Stays.kept k5 _) _ _ hN)
              have hBd : Bnd 2 p bad p2 bad2 (.mk 9 ⟨#[]⟩ 0 [t1]) := by
                refine ⟨?_, ?_, fun h => ?_, fun h => ?_, fun e => by cases e⟩
                · rcases hT2 with ⟨a, b, e⟩ | ⟨e, b⟩ <;> omega
                · rcases hB1.stop with h | h
                  · exact .inl h
                  · right; rcases hT2 with ⟨a, b, e⟩ | ⟨e, b⟩ <;> omega
                · simp only [Nd.size, sizesN]
                  rcases hT2 with ⟨a, b, e⟩ | ⟨e, b⟩
                  · have := hB1.good a; omega
                  · omega
                · simp only [Nd.size, sizesN]
                  rcases hT2 with ⟨a, b, e⟩ | ⟨e, b⟩
                  · omega
                  · by_cases h2 : bad1 < 0
                    · have := hB1.good h2; omega
                    · have := hB1.wrong (by omega); omega
              have z0 := r4.cell 0; have z1 := r4.cell 1; have z2 := r4.cell 2; have z3 := r4.cell 3
              exact bodyPost_ret (v := .agg #[.int .i64 9, .string ⟨#[]⟩, .int .i64 0, .slice (some ⟨w2.heap.size, 0, none⟩) 1 1]) (by simp [results, Try.results28, go_sem, z0, z1, z2, z3]) rfl ⟨_, _, _, _, rfl, r1, r2, r3, hBd⟩
            | true =>
              obtain ⟨hb1, hk⟩ := isT_yes hi
              have hn : p1 + 1 < ts.length := HT.out.next hy (by rw [hk]; decide)
              have hg1 := hB1.good hb1
              have hb0 : bad < 0 := by rcases hB1.stop with h | h <;> omega
              have hs1 : s1.size ≤ maxLen := by
                have ht := hL.out.tree
                obtain ⟨o, s', n', ks⟩ := t1
                rw [NdS] at ht
                obtain ⟨_, _, e, hl, _⟩ := ht
                simp at e
                obtain ⟨_, rfl, _⟩ := e
                exact hl.1
              clear hk
              by_cases h16 : op1 = 16
              · subst h16
                go_wp2_with (first
                  | (have _tk := L5; go_at_call 34; refine (l12Take_ok _ c g cap ts p5 bad5 L5.pa HT.out _).mono ?_; rintro e w6 ⟨rfl, hk6, p6, bad6, hT6, hp6⟩; have L6 := L5.step hk6 hp6; have v6 := y5.keeps hk6 (by have := L2.start.1; have := L2.box.lt; have := L2.x; have := hk5.size; omega); have bx := L6.box; have c0 := bx.cell 0; have c1 := bx.cell 1; have c2 := bx.cell 2; have c3 := bx.cell 3; have e0 := v6.cell 0; have e1 := v6.cell 1; have e2 := v6.cell 2; have e3 := v6.cell 3; have L7 := L6.kept (Kept.alloc (Below.refl _ w6) (.cells #[.int .i64 op5, .string s5, .int .i64 n5, .slice ao5 l5 cp5] 26)); have rx := L7.res; have d0 := rx.cell 0; have d1 := rx.cell 1; have d2 := rx.cell 2; have d3 := rx.cell 3; have g0 := rx.frozen 0; have g1 := rx.frozen 1; have g2 := rx.frozen 2; have g3 := rx.frozen 3; have rl := rx.lt)
                  | (have _tk := L2; go_at_call 35; refine (HU.out _ _ _ L2.pa (by omega)).mono ?_; rintro e w5 ⟨t5, v5, p5, bad5, rfl, ht5, hp5, hk5, hB5⟩; obtain ⟨op5, s5, n5, ao5, l5, cp5, rfl⟩ := ht5.four; have kv := Kept.alloc (Below.refl _ w5) (.cells #[.int .i64 op5, .string s5, .int .i64 n5, .slice ao5 l5 cp5] 26); have L5 := (L2.step hk5 hp5).kept kv; have y5 := Cells.new w5 26 #[.int .i64 op5, .string s5, .int .i64 n5, .slice ao5 l5 cp5])
                  | (go_at_call 32; refine (l12Next_ok _ c g cap ts p1 bad1 (hL.out.kept kz).pa HT.out).mono ?_; rintro e w2 ⟨rfl, k2, h2⟩; rw [if_pos hn] at h2; have L2 := (hL.out.kept kz).step k2 h2)
                  | (go_at_call 38; refine (HG.out _ _ kz).mono ?_; rintro e wa ⟨rfl, ka⟩; have kz := Kept.trans kz ka; have L1 := hL.out.kept kz; have bx := L1.box; have c0 := bx.cell 0; have c1 := bx.cell 1; have c2 := bx.cell 2; have c3 := bx.cell 3))
                have hx2 := L2.box.lt
                have hsz := hk5.size
                have hs6 := hk6.size
                simp only [World.size_alloc] at hs6
                have ht6 : NdS w6 (fun b => w.heap.size ≤ b ∧ b ≠ w.heap.size ∧ b ≠ X) t5 (.agg #[.int .i64 op5, .string s5, .int .i64 n5, .slice ao5 l5 cp5]) := NdS.stay (Stays.keeps hk6 (by intro h; have := L2.start.1; omega)) _ _ (NdS.stay (Stays.kept kv _) _ _ (NdS.mono (fun b hb _ => ⟨by have := L2.x; omega, by have := L2.x; omega, by omega⟩) _ _ ht5))
                have hN := NdS.one ht6 (by have := L2.x; omega) 3 0 s1 hs1
                obtain ⟨r1, r2, r3, r4⟩ := L7.ret hN
                have z0 := r4.cell 0; have z1 := r4.cell 1; have z2 := r4.cell 2; have z3 := r4.cell 3
                exact bodyPost_ret (v := .agg #[.int .i64 3, .string s1, .int .i64 0, .slice (some ⟨w6.heap.size, 0, none⟩) 1 1]) (by simp [results, Try.results28, go_sem, z0, z1, z2, z3]) rfl ⟨_, _, _, _, rfl, r1, r2, r3, (hB5.around (p := p) (bad := bad) hb0 (by omega) (.inr hT6) 3 0 s1).two2⟩
              · have h16' : (op1 == 16) = false := by simpa using h16
                by_cases h17 : op1 = 17
                · subst h17
                  go_upto_region 23 with (first
                    | (have _tk := L5; go_at_call 34; refine (l12Take_ok _ c g cap ts p5 bad5 L5.pa HT.out _).mono ?_; rintro e w6 ⟨rfl, hk6, p6, bad6, hT6, hp6⟩; have L6 := L5.step hk6 hp6; have v6 := y5.keeps hk6 (by have := L2.start.1; have := L2.box.lt; have := L2.x; have := hk5.size; omega); have bx := L6.box; have c0 := bx.cell 0; have c1 := bx.cell 1; have c2 := bx.cell 2; have c3 := bx.cell 3; have e0 := v6.cell 0; have e1 := v6.cell 1; have e2 := v6.cell 2; have e3 := v6.cell 3)
                    | (have _tk := L2; go_at_call 35; refine (HU.out _ _ _ L2.pa (by omega)).mono ?_; rintro e w5 ⟨t5, v5, p5, bad5, rfl, ht5, hp5, hk5, hB5⟩; obtain ⟨op5, s5, n5, ao5, l5, cp5, rfl⟩ := ht5.four; have kv := Kept.alloc (Below.refl _ w5) (.cells #[.int .i64 op5, .string s5, .int .i64 n5, .slice ao5 l5 cp5] 26); have L5 := (L2.step hk5 hp5).kept kv; have y5 := Cells.new w5 26 #[.int .i64 op5, .string s5, .int .i64 n5, .slice ao5 l5 cp5])
                    | (go_at_call 32; refine (l12Next_ok _ c g cap ts p1 bad1 (hL.out.kept kz).pa HT.out).mono ?_; rintro e w2 ⟨rfl, k2, h2⟩; rw [if_pos hn] at h2; have L2 := (hL.out.kept kz).step k2 h2)
                    | (go_at_call 38; refine (HG.out _ _ kz).mono ?_; rintro e wa ⟨rfl, ka⟩; have kz := Kept.trans kz ka; have L1 := hL.out.kept kz; have bx := L1.box; have c0 := bx.cell 0; have c1 := bx.cell 1; have c2 := bx.cell 2; have c3 := bx.cell 3))
                  have hx2 := L2.box.lt
                  have hxx := L2.x
                  have hsz := hk5.size
                  have hs6 := hk6.size
                  simp only [World.size_alloc] at hs6
                  have ht6 : NdS w6 (fun b => w.heap.size ≤ b ∧ b ≠ w.heap.size ∧ b ≠ X) t5 (.agg #[.int .i64 op5, .string s5, .int .i64 n5, .slice ao5 l5 cp5]) := NdS.stay (Stays.keeps hk6 (by intro h; have := L2.start.1; omega)) _ _ (NdS.stay (Stays.kept kv _) _ _ (NdS.mono (fun b hb _ => ⟨by omega, by omega, by omega⟩) _ _ ht5))
                  obtain ⟨kb, ko, kt, kts, rfl, hl0, rfl, _, hSb, q0, q1, q2, q3, m0, m1, m2, m3, hkt⟩ := L6.tree.kid0 hB1.get
                  obtain ⟨opk, sk, nk, aok, lk, cpk, ek⟩ := hkt.four
                  simp at ek
                  obtain ⟨rfl, rfl, rfl, rfl⟩ := ek
                  have kbl : kb < w6.heap.size := World.block_lt_of_cell? _ _ m0
                  have n1 : kb ≠ w.heap.size := hSb.2.1
                  have n2 : X ≠ w.heap.size := by omega
                  have n3 : w5.heap.size ≠ w.heap.size := by omega
                  have q5 : (0 : Int) < (l1 : Int) := by omega
                  have rx := L6.res
                  have d0 := rx.cell 0; have d1 := rx.cell 1; have d2 := rx.cell 2; have d3 := rx.cell 3; have g0 := rx.frozen 0; have g1 := rx.frozen 1; have g2 := rx.frozen 2; have g3 := rx.frozen 3; have rl := rx.lt
                  have xl6 := L6.box.lt
                  simp at c0 c1 c2 c3 e0 e1 e2 e3 d0 d1 d2 d3
                  have HKP : Hid (∀ w', Stays (fun b => b ≠ w.heap.size) w6 w' → w'.cell? ⟨X, 1, none⟩ = some (.string s1) ∧ w'.cell? ⟨X, 3, none⟩ = some (.slice (some ⟨kb, ko, none⟩) l1 cp1) ∧ w'.cell? ⟨kb, ko, none⟩ = some (.int .i64 opk) ∧ w'.cell? ⟨kb, ko + 1, none⟩ = some (.string sk) ∧ w'.cell? ⟨kb, ko + 2, none⟩ = some (.int .i64 nk) ∧ w'.cell? ⟨kb, ko + 3, none⟩ = some (.slice aok lk cpk) ∧ w'.cell? ⟨w5.heap.size, 0, none⟩ = some (.int .i64 op5) ∧ w'.cell? ⟨w5.heap.size, 1, none⟩ = some (.string s5) ∧ w'.cell? ⟨w5.heap.size, 2, none⟩ = some (.int .i64 n5) ∧ w'.cell? ⟨w5.heap.size, 3, none⟩ = some (.slice ao5 l5 cp5)) := fun w' hs => ⟨hs.cell (p := ⟨X, 1, none⟩) n2 c1, hs.cell (p := ⟨X, 3, none⟩) n2 c3, hs.cell (p := ⟨kb, ko, none⟩) n1 m0, hs.cell (p := ⟨kb, ko + 1, none⟩) n1 m1, hs.cell (p := ⟨kb, ko + 2, none⟩) n1 m2, hs.cell (p := ⟨kb, ko + 3, none⟩) n1 m3, hs.cell (p := ⟨w5.heap.size, 0, none⟩) n3 e0, hs.cell (p := ⟨w5.heap.size, 1, none⟩) n3 e1, hs.cell (p := ⟨w5.heap.size, 2, none⟩) n3 e2, hs.cell (p := ⟨w5.heap.size, 3, none⟩) n3 e3⟩
                  have test := HKP.out (World.drew (World.alloc (set4 w6 w.heap.size (.int .i64 4) (.string s1) (.int .i64 0) (.slice (some ⟨w6.heap.size, 0, none⟩) 2 2)) (.cells #[.int .i64 opk, .string sk, .int .i64 nk, .slice aok lk cpk, .int .i64 op5, .string s5, .int .i64 n5, .slice ao5 l5 cp5] 26))) (((Stays.refl _ w6).set4 (by simp) _ _ _ _).trans (Stays.kept (Below.drew (Kept.alloc (Below.refl _ _) _)) _))
                  go_wp2_with fail
                  go_region_held3 (fun w' => w'.cell? ⟨X, 1, none⟩ = some (.string s1) ∧ w'.cell? ⟨X, 3, none⟩ = some (.slice (some ⟨kb, ko, none⟩) l1 cp1) ∧ w'.cell? ⟨kb, ko, none⟩ = some (.int .i64 opk) ∧ w'.cell? ⟨kb, ko + 1, none⟩ = some (.string sk) ∧ w'.cell? ⟨kb, ko + 2, none⟩ = some (.int .i64 nk) ∧ w'.cell? ⟨kb, ko + 3, none⟩ = some (.slice aok lk cpk) ∧ w'.cell? ⟨w5.heap.size, 0, none⟩ = some (.int .i64 op5) ∧ w'.cell? ⟨w5.heap.size, 1, none⟩ = some (.string s5) ∧ w'.cell? ⟨w5.heap.size, 2, none⟩ = some (.int .i64 n5) ∧ w'.cell? ⟨w5.heap.size, 3, none⟩ = some (.slice ao5 l5 cp5)) (go_keep) (fail)
                  all_goals (
                    go_wp2_with fail
                    have hN := NdS.two hkt ht6 (by omega) 4 0 s1 hs1
                    have L7 := L6.kept (Kept.alloc (Below.refl _ w6) (.cells #[.int .i64 opk, .string sk, .int .i64 nk, .slice aok lk cpk, .int .i64 op5, .string s5, .int .i64 n5, .slice ao5 l5 cp5] 26))
                    obtain ⟨r1, r2, r3, r4⟩ := L7.ret hN
                    rw [set4_alloc rl] at r1 r2 r3 r4
                    have z0 := r4.cell 0; have z1 := r4.cell 1; have z2 := r4.cell 2; have z3 := r4.cell 3
                    have hl5 := hB5.le
                    have hkz : kt.size + 1 ≤ 4 * (p1 - p) := by
                      have := hg1.2
                      simp only [Nd.size, sizesN] at this
                      omega
                    refine bodyPost_ret (v := .agg #[.int .i64 4, .string s1, .int .i64 0, .slice (some ⟨w6.heap.size, 0, none⟩) 2 2]) (by simp [results, Try.results28, go_sem, z0, z1, z2, z3]) rfl ⟨_, _, _, _, rfl, NdS.stay (Stays.kept (Below.drew (Below.refl _ _)) _) _ _ r1, r2.kept (Below.drew (Below.refl _ _)), r3.drew, ⟨?_, .inl hb0, fun h => ?_, fun h => ?_, fun e => by cases e⟩⟩
                    · rcases hT6 with ⟨a, b, e⟩ | ⟨e, b⟩ <;> omega
                    · simp only [Nd.size, sizesN]
                      rcases hT6 with ⟨a, b, e⟩ | ⟨e, b⟩
                      · have := hB5.good a; omega
                      · omega
                    · simp only [Nd.size, sizesN]
                      rcases hT6 with ⟨a, b, e⟩ | ⟨e, b⟩
                      · omega
                      · by_cases h2 : bad5 < 0
                        · have := hB5.good h2; omega
                        · have := hB5.wrong (by omega); omega)
                · have h17' : (op1 == 17) = false := by simpa using h17
                  clear h16 h17
                  go_wp2_with (first
                    | (have _tk := L2; go_at_call 39; refine (l12Node_ok _ _ _ _ _).mono ?_; rintro e w5 ⟨rfl, k5⟩; have L5 := (L2.kept (Kept.alloc (Below.refl _ w2) (.cells #[.int .i64 op1, .string s1, .int .i64 n1, .slice ao1 l1 cp1] 26))).kept k5; have rx := L5.res; have d0 := rx.cell 0; have d1 := rx.cell 1; have d2 := rx.cell 2; have d3 := rx.cell 3; have g0 := rx.frozen 0; have g1 := rx.frozen 1; have g2 := rx.frozen 2; have g3 := rx.frozen 3; have rl := rx.lt)
                    | (go_at_call 34; refine (HTk.out _ _ kz).mono ?_; rintro e w2 ⟨rfl, hk2, p2, bad2, hT2, hp2⟩; have L2 := (hL.out.kept kz).step hk2 hp2; have bx := L2.box; have c0 := bx.cell 0; have c1 := bx.cell 1; have c2 := bx.cell 2; have c3 := bx.cell 3)
                    | (go_at_call 38; refine (HG.out _ _ kz).mono ?_; rintro e wa ⟨rfl, ka⟩; have kz := Kept.trans kz ka; have L1 := hL.out.kept kz; have bx := L1.box; have c0 := bx.cell 0; have c1 := bx.cell 1; have c2 := bx.cell 2; have c3 := bx.cell 3))
                  have hN := NdS.one L2.tree (by have := L2.box.lt; have := L2.x; omega) 9 0 ⟨#[]⟩ (by decide)
                  obtain ⟨r1, r2, r3, r4⟩ := L5.ret (NdS.stay (Stays.kept k5 _) _ _ hN)
                  have hBd : Bnd 2 p bad p2 bad2 (.mk 9 ⟨#[]⟩ 0 [t1]) := by
                    refine ⟨?_, ?_, fun h => ?_, fun h => ?_, fun e => by cases e⟩
                    · rcases hT2 with ⟨a, b, e⟩ | ⟨e, b⟩ <;> omega
                    · rcases hB1.stop with h | h
                      · exact .inl h
                      · right; rcases hT2 with ⟨a, b, e⟩ | ⟨e, b⟩ <;> omega
                    · simp only [Nd.size, sizesN]
                      rcases hT2 with ⟨a, b, e⟩ | ⟨e, b⟩
                      · have := hB1.good a; omega
                      · omega
                    · simp only [Nd.size, sizesN]
                      rcases hT2 with ⟨a, b, e⟩ | ⟨e, b⟩
                      · omega
                      · by_cases h2 : bad1 < 0
                        · have := hB1.good h2; omega
                        · have := hB1.wrong (by omega); omega
                  have z0 := r4.cell 0; have z1 := r4.cell 1; have z2 := r4.cell 2; have z3 := r4.cell 3
                  exact bodyPost_ret (v := .agg #[.int .i64 9, .string ⟨#[]⟩, .int .i64 0, .slice (some ⟨w2.heap.size, 0, none⟩) 1 1]) (by simp [results, Try.results28, go_sem, z0, z1, z2, z3]) rfl ⟨_, _, _, _, rfl, r1, r2, r3, hBd⟩
end Go.Proofs.Ytdcjfeihcafndaa
