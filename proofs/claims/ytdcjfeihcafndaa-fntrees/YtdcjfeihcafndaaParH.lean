/-
  Chapter 12's models, weakly told: unaries (genPar5.py).
-/
import Derived.Test.YtdcjfeihcafndaaParG
namespace Go.Proofs.Ytdcjfeihcafndaa
open Go.RowKit
set_option linter.unusedSimpArgs false
attribute [local go_sem] Plain.and7

/-- Within a function: a box X, and a row of kids beside it. -/
structure LocK (w wr : World) (c g cap : Nat) (ts : List Tok) (p : Nat) (bad : Int) (X : Nat) (a0 a1 a2 a3 : Value) (v : Value) (ks : List Nd) (xs : List Value) : Prop where
  start : c < w.heap.size ∧ g < w.heap.size
  keeps : Keeps c w wr
  pa : PaW wr c g cap ts p bad
  res : Cells wr w.heap.size 26 zeroN
  box : Cells wr X 26 #[a0, a1, a2, a3]
  x : w.heap.size < X
  row : RowX wr (S0 w X) v ks xs
theorem LocK.step {w wr wr' : World} {c g cap : Nat} {ts : List Tok} {p p' : Nat} {bad bad' : Int} {X : Nat} {a0 a1 a2 a3 v : Value} {ks : List Nd} {xs : List Value} (h : LocK w wr c g cap ts p bad X a0 a1 a2 a3 v ks xs) (hk : Keeps c wr wr') (hp : PaW wr' c g cap ts p' bad') : LocK w wr' c g cap ts p' bad' X a0 a1 a2 a3 v ks xs :=
  ⟨h.start, h.keeps.trans hk, hp, h.res.keeps hk (by have := h.start.1; omega), h.box.keeps hk (by have := h.start.1; have := h.x; omega), h.x, h.row.on (Stays.keeps hk (by intro h2; have := h.start.1; omega))⟩
theorem LocK.kept {w wr wr' : World} {c g cap : Nat} {ts : List Tok} {p : Nat} {bad : Int} {X : Nat} {a0 a1 a2 a3 v : Value} {ks : List Nd} {xs : List Value} (h : LocK w wr c g cap ts p bad X a0 a1 a2 a3 v ks xs) (hk : Kept wr wr') : LocK w wr' c g cap ts p bad X a0 a1 a2 a3 v ks xs := h.step hk.keeps (h.pa.kept hk)
theorem LocK.first {w wr : World} {c g cap : Nat} {ts : List Tok} {p : Nat} {bad : Int} {X : Nat} {t : Nd} {a0 a1 a2 a3 : Value} (h : Loc w wr c g cap ts p bad X t a0 a1 a2 a3) : ∃ xs, LocK w (wr.alloc (.cells #[a0, a1, a2, a3] 26)) c g cap ts p bad X a0 a1 a2 a3 (.slice (some ⟨wr.heap.size, 0, none⟩) 1 1) [t] xs := by
  have hL := h.kept (Kept.alloc (Below.refl _ wr) (.cells #[a0, a1, a2, a3] 26))
  obtain ⟨xs, hr⟩ := NdRow.one h.tree (by have := h.box.lt; have := h.x; omega)
  exact ⟨xs, hL.start, hL.keeps, hL.pa, hL.res, hL.box, hL.x, hr⟩
theorem LocK.app {w W W' : World} {c g cap : Nat} {ts : List Tok} {p : Nat} {bad : Int} {X : Nat} {a0 a1 a2 a3 v v' : Value} {ks : List Nd} {xs : List Value} (h : LocK w W c g cap ts p bad X a0 a1 a2 a3 v ks xs) {t : Nd} {d0 d1 d2 d3 : Value}
    (ht : NdS W (fun b => S0 w X b ∧ v.ownBlock ≠ some b) t (.agg #[d0, d1, d2, d3])) (ho : W'.ownsRow 0 26 4 v' (ks.length + 1) (xs ++ [d0, d1, d2, d3])) (hg : W.grownBy W' v.ownBlock) (hv : v.ownBlock = v'.ownBlock ∨ v'.ownBlock = some W.heap.size) :
    ∃ xs', LocK w W' c g cap ts p bad X a0 a1 a2 a3 v' (ks ++ [t]) xs' := by
  have h1 := h.start
  have hx := h.x
  have hxl := h.box.lt
  have hS := h.row.2.1
  obtain ⟨xs', hr⟩ := NdRow.add h.row.2.2 (by have := h.row.1.1; omega) hS (by show _ ∧ _ ∧ _; omega) ht ho hg hv
  have same : ∀ k, k < W.heap.size → ¬ S0 w X k → W'.heap[k]? = W.heap[k]? := fun k hk hn => hg.block k hk (fun e => hn (hS k e.symm))
  have hcl := h.pa.cur.lt
  have hgl := h.pa.glt
  refine ⟨xs', h1, ⟨hg.os.trans h.keeps.os, hg.tape.trans h.keeps.tape, hg.output.trans h.keeps.output, Nat.le_trans h.keeps.size hg.size, fun k hk hc => ?_⟩, ?_, ?_, ?_, hx, hr⟩
  · have := h.keeps.size
    exact (same k (by omega) (by omega)).trans (h.keeps.block k hk hc)
  · exact h.pa.same (same c hcl (by omega)) (same g hgl (by omega))
  · exact (same _ h.res.lt (by omega)).trans h.res
  · exact (same _ hxl (by omega)).trans h.box
theorem LocK.put {w wr : World} {c g cap : Nat} {ts : List Tok} {p : Nat} {bad : Int} {X : Nat} {t' : Nd} {a0 a1 a2 a3 b0 b1 b2 b3 v : Value} {ks : List Nd} {xs : List Value} (h : LocK w wr c g cap ts p bad X a0 a1 a2 a3 v ks xs) (ht : NdS wr (S0 w X) t' (.agg #[b0, b1, b2, b3])) : Loc w (set4 wr X b0 b1 b2 b3) c g cap ts p bad X t' b0 b1 b2 b3 := by
  have hx := h.x
  have h1 := h.start
  have hs : Stays (fun b => b ≠ X) wr (set4 wr X b0 b1 b2 b3) := (Stays.refl _ wr).set4 (by simp) _ _ _ _
  exact ⟨h1, h.keeps.set4 (by omega) _ _ _ _, h.pa.set4 (by omega) (by omega), (hs.block _ (by omega) h.res.lt).trans h.res, h.box.put4 _ _ _ _, hx, NdS.stay (hs.mono (fun b hb => hb.2.2)) _ _ ht⟩
theorem Bnd.dot {p : Nat} {bad : Int} {p1 : Nat} {bad1 : Int} {t : Nd} {p2 : Nat} {bad2 : Int} (h : Bnd 1 p bad p1 bad1 t) (hb : bad1 < 0) (hT : TakeR (p1 + 1) bad1 p2 bad2) (s : ByteArray) : Bnd 1 p bad p2 bad2 (.mk 17 s 0 [t]) := by
  have h1 := h.good hb
  have h2 := h.le
  refine ⟨?_, ?_, fun h3 => ?_, fun h3 => ?_, fun _ => by simp⟩
  · rcases hT with ⟨a, b, e⟩ | ⟨e, b⟩ <;> omega
  · rcases h.stop with h | h
    · exact .inl h
    · omega
  · simp only [Nd.size, sizesN]
    rcases hT with ⟨a, b, e⟩ | ⟨e, b⟩ <;> omega
  · simp only [Nd.size, sizesN]
    rcases hT with ⟨a, b, e⟩ | ⟨e, b⟩ <;> omega
set_option maxHeartbeats 16000000 in
set_option maxRecDepth 100000 in
theorem l12Unary_ok (c g cap : Nat) (ts : List Tok) (hts : TsOk ts) (m : Nat) (hU : POk 52 1 c g cap ts m) (hE : POk 35 1 c g cap ts m) (hA : POk 53 1 c g cap ts (m + 1)) : POk 52 1 c g cap ts (m + 1) := by
  intro w p bad h hm
  obtain ⟨i0, hi, hz0, hz1, hz2⟩ := info_parts infoNk
  have k0 : Kept w (w.alloc (.cells zeroN 26)) := Kept.alloc (Below.refl _ _) _
  obtain ⟨x, hx⟩ : ∃ x, ts[p]? = some x := ⟨ts[p]'h.lt, List.getElem?_eq_getElem h.lt⟩
  have hC := l12Sign_ok _ c g cap ts p bad (h.kept k0) x hx ⟨#[33]⟩
  have HS : Hid (c < w.heap.size ∧ g < w.heap.size) := ⟨h.cur.lt, h.glt⟩
  have HP : Hid (PaW w c g cap ts p bad) := h
  have HU : Hid (POk 52 1 c g cap ts m) := hU
  have HE : Hid (POk 35 1 c g cap ts m) := hE
  have HA : Hid (POk 53 1 c g cap ts (m + 1)) := hA
  have HT : Hid (TsOk ts) := hts
  have hlen := hts.len
  have hplt := h.lt
  cases hbang : isT 4 x bad ⟨#[33]⟩ with
  | true =>
    rw [hbang] at hC
    obtain ⟨hb, hk⟩ := isT_yes hbang
    have hn : p + 1 < ts.length := hts.next hx (by rw [hk]; decide)
    clear hU hE hA hts hbang hk h
    go_enter Try.func52, Try.ntmps52
    go_wp2_with (first
      | (have _tk := L3; go_at_call 39; refine (l12Node_ok _ _ _ _ _).mono ?_; rintro e w5 ⟨rfl, k5⟩; have L5 := (L3.kept (Kept.alloc (Below.refl _ _) (.cells #[.int .i64 op3, .string s3, .int .i64 n3, .slice ao3 l3 cp3] 26))).kept k5; have rx := L5.res; have d0 := rx.cell 0; have d1 := rx.cell 1; have d2 := rx.cell 2; have d3 := rx.cell 3; have g0 := rx.frozen 0; have g1 := rx.frozen 1; have g2 := rx.frozen 2; have g3 := rx.frozen 3; have rl := rx.lt)
      | (have _tk := hk2; go_at_call 52; refine (HU.out _ _ _ hp2 (by omega)).mono ?_; rintro e w3 ⟨t3, v3, p3, bad3, rfl, ht3, hp3, hk3, hB3⟩; obtain ⟨op3, s3, n3, ao3, l3, cp3, rfl⟩ := ht3.four; have L3 := Loc.first HS.out ((ka.keeps.trans hk2).trans hk3) hp3 (NdS.mono (fun b hb _ => Nat.le_trans (ka.keeps.trans hk2).size hb) _ _ ht3); have bx := L3.box; have c0 := bx.cell 0; have c1 := bx.cell 1; have c2 := bx.cell 2; have c3 := bx.cell 3)
      | (have _tk := ka; go_at_call 32; refine (l12Next_ok _ c g cap ts p bad ((HP.out.kept k0).kept ka) HT.out).mono ?_; rintro e w2 ⟨rfl, hk2, hp2⟩; rw [if_pos hn] at hp2)
      | (go_at_call 38; refine hC.mono ?_; rintro e wa ⟨rfl, ka⟩))
    have hN := NdS.one L3.tree (by have := L3.box.lt; have := L3.x; omega) 24 0 ⟨#[]⟩ (by decide)
    simp only [World.size_alloc] at hN
    obtain ⟨r1, r2, r3, r4⟩ := L5.ret (NdS.stay (Stays.kept k5 _) _ _ hN)
    have z0 := r4.cell 0; have z1 := r4.cell 1; have z2 := r4.cell 2; have z3 := r4.cell 3
    exact bodyPost_ret (v := .agg #[.int .i64 24, .string ⟨#[]⟩, .int .i64 0, .slice (some ⟨w3.heap.size + 1, 0, none⟩) 1 1]) (by simp [results, Try.results52, go_sem, z0, z1, z2, z3]) rfl ⟨_, _, p3, bad3, rfl, r1, r2, r3, hB3.around (p := p) (bad := bad) hb (Nat.le_refl _) (.inl ⟨rfl, rfl⟩) 24 0 ⟨#[]⟩⟩
  | false =>
    rw [hbang] at hC
    clear hU hE hA hts hbang h
    go_enter Try.func52, Try.ntmps52
    go_wp2_with (first
      | (have _tk := ka; go_at_call 53; refine (HA.out _ _ _ ((HP.out.kept k0).kept ka) hm).mono ?_; rintro e w1 ⟨t1, v1, p1, bad1, rfl, ht1, hp1, hk1, hB1⟩; obtain ⟨op1, s1, n1, ao1, l1, cp1, rfl⟩ := ht1.four)
      | (go_at_call 38; refine hC.mono ?_; rintro e wa ⟨rfl, ka⟩))
    have L0 := Loc.first HS.out (ka.keeps.trans hk1) hp1 (NdS.mono (fun b hb _ => Nat.le_trans ka.size hb) _ _ ht1)
    have HL0 : Hid _ := L0
    clear L0 hp1 hk1 ht1 hC ka
    go_loopg [] ts.length (fun gk wr => ∃ p' bad' t op s n ao l cp, ts.length - p' ≤ gk ∧ Hid (Loc w wr c g cap ts p' bad' w1.heap.size t (.int .i64 op) (.string s) (.int .i64 n) (.slice ao l cp)) ∧ Hid (Bnd 1 p bad p' bad' t))
    case atStart => exact ⟨_, _, _, _, _, _, _, _, _, by omega, HL0.out, hB1⟩
    case round =>
      obtain ⟨p', bad', t, op, s, n, ao, l, cp, hgk, hL, hB⟩ := hrel
      clear HL0 hB1 hx
      obtain ⟨x, hx⟩ : ∃ x, ts[p']? = some x := ⟨ts[p']'hL.out.pa.lt, List.getElem?_eq_getElem hL.out.pa.lt⟩
      have HG : Hid (∀ u s, Kept wr u → Calls Try.prog 38 #[.pointer (some ⟨c, 0, none⟩), .string s] u fun e w' => e = .returned (.bool (isT 4 x bad' s)) ∧ Kept u w') := fun u s hu => l12Sign_ok u c g cap ts p' bad' (hL.out.pa.kept hu) x hx s
      have hlt := hL.out.pa.lt
      have HNX : Hid (∀ s, isT 4 x bad' s = true → bad' < 0 ∧ p' + 1 < ts.length) := fun s hi => ⟨(isT_yes hi).1, HT.out.next hx (by rw [(isT_yes hi).2]; decide)⟩
      have HNe : Hid (p' + 1 < ts.length → ∀ u, Kept wr u → Calls Try.prog 32 #[.pointer (some ⟨c, 0, none⟩)] u fun e w' => e = .returned (.tuple #[]) ∧ Keeps c u w' ∧ PaW w' c g cap ts (p' + 1) bad') := fun hn u hu => by
        have := l12Next_ok u c g cap ts p' bad' (hL.out.pa.kept hu) HT.out
        rwa [if_pos hn] at this
      have kz : Kept wr wr := Below.refl _ _
      have hle := hB.out.le
      cases hi1 : isT 4 x bad' ⟨#[46]⟩ with
      | true =>
        obtain ⟨hb, hn⟩ := HNX.out _ hi1
        go_wp2_with (first
          | (have _tk := L2; go_at_call 33; refine (l12Name_ok _ c g cap ts (p' + 1) bad' L2.pa HT.out true).mono ?_; rintro e w3 ⟨s3, p3, bad3, rfl, hs3, hk3, hT3, hp3⟩; have L3 := L2.step hk3 hp3; have L4 := L3.kept (Kept.alloc (Below.refl _ w3) (.cells #[.int .i64 op, .string s, .int .i64 n, .slice ao l cp] 26)); have bx := L3.box; have c0 := bx.cell 0; have c1 := bx.cell 1; have c2 := bx.cell 2; have c3 := bx.cell 3; have b4 := L4.box; have e0 := b4.cell 0; have e1 := b4.cell 1; have e2 := b4.cell 2; have e3 := b4.cell 3; have f0 := b4.frozen 0; have f1 := b4.frozen 1; have f2 := b4.frozen 2; have f3 := b4.frozen 3)
          | (go_at_call 32; refine (HNe.out hn _ kz).mono ?_; rintro e w2 ⟨rfl, k2, h2⟩; have L2 := (hL.out.kept kz).step k2 h2)
          | (go_at_call 38; refine (HG.out _ _ kz).mono ?_; rintro e wa ⟨rfl, ka⟩; have kz := Kept.trans kz ka))
        have hN := NdS.one L3.tree (by have := L3.box.lt; have := L3.x; omega) 17 0 s3 (by unfold maxLen; omega)
        have L6 := L4.put hN
        go_roundg (ts.length - p3)
        case measure => rcases hT3 with ⟨a, b, e⟩ | ⟨e, b⟩ <;> omega
        case rel =>
          refine ⟨p3, bad3, _, _, _, _, _, _, _, Nat.le_refl _, L6, hB.out.dot hb hT3 s3⟩
      | false =>
        cases hi2 : isT 4 x bad' ⟨#[40]⟩ with
        | true =>
          obtain ⟨hb, hn⟩ := HNX.out _ hi2
          have hgood := hB.out.good hb
          go_wp2_with (first
            | (go_at_call 32; refine (HNe.out hn _ kz).mono ?_; rintro e w2 ⟨rfl, k2, h2⟩; have L2 := (hL.out.kept kz).step k2 h2; have bx := L2.box; have c0 := bx.cell 0; have c1 := bx.cell 1; have c2 := bx.cell 2; have c3 := bx.cell 3; have l0 := bx.lt)
            | (go_at_call 38; refine (HG.out _ _ kz).mono ?_; rintro e wa ⟨rfl, ka⟩; have kz := Kept.trans kz ka))
          obtain ⟨xs0, K0⟩ := LocK.first L2
          have HK0 : Hid _ := K0
          clear K0
          go_loopg [6] (2 * ts.length + 2) (fun gk2 v wr2 => ∃ q bq va vc ks xs, v = .slice va ks.length vc ∧ 2 * (ts.length - q) + (if bq < 0 then 1 else 0) ≤ gk2 ∧ p' + 1 ≤ q ∧ Hid (LocK w wr2 c g cap ts q bq w1.heap.size (.int .i64 op) (.string s) (.int .i64 n) (.slice ao l cp) (.slice va ks.length vc) ks xs) ∧ Hid (p ≤ q ∧ (bad < 0 ∨ q = p ∧ 0 ≤ bq) ∧ (bq < 0 → 4 + sizesN ks ≤ 4 * (q - p)) ∧ (0 ≤ bq → 1 + sizesN ks ≤ 4 * (q - p) + 1)))
          case atStart =>
            refine ⟨p' + 1, bad', _, _, [t], xs0, rfl, by split <;> omega, Nat.le_refl _, HK0.out, ⟨by omega, ?_, fun _ => ?_, fun _ => ?_⟩⟩
            · rcases hB.out.stop with h | h
              · exact .inl h
              · omega
            · simp only [sizesN]; omega
            · simp only [sizesN]; omega
          case round =>
            obtain ⟨q, bq, va, vc, ks, xs, rfl, hgk2, hq, hK, hI⟩ := hrel
            clear HK0
            obtain ⟨y, hy⟩ : ∃ y, ts[q]? = some y := ⟨ts[q]'hK.out.pa.lt, List.getElem?_eq_getElem hK.out.pa.lt⟩
            have hqlt := hK.out.pa.lt
            have HG2 : Hid (∀ u s, Kept wr u → Calls Try.prog 38 #[.pointer (some ⟨c, 0, none⟩), .string s] u fun e w' => e = .returned (.bool (isT 4 y bq s)) ∧ Kept u w') := fun u s hu => l12Sign_ok u c g cap ts q bq (hK.out.pa.kept hu) y hy s
            have HTk : Hid (∀ u s, Kept wr u → Calls Try.prog 34 #[.pointer (some ⟨c, 0, none⟩), .string s] u fun e w' => e = .returned (.tuple #[]) ∧ Keeps c u w' ∧ ∃ p2 bad2, TakeR q bq p2 bad2 ∧ PaW w' c g cap ts p2 bad2) := fun u s hu => l12Take_ok u c g cap ts q bq (hK.out.pa.kept hu) HT.out s
            clear kz
            have kz : Kept wr wr := Below.refl _ _
            have e2 := hK.out.pa.cur.cell 2
            simp at e2
            by_cases hbq : bq < 0
            · cases hj : isT 4 y bq ⟨#[41]⟩ with
              | true =>
                go_wp2_with (first
                  | (have _tk := K2; go_at_call 39; refine (l12Node_ok _ _ _ _ _).mono ?_; rintro e w5 ⟨rfl, k5⟩; have K5 := K2.kept k5; have bx := K5.box; have c0 := bx.cell 0; have c1 := bx.cell 1; have c2 := bx.cell 2; have c3 := bx.cell 3; have f0 := bx.frozen 0; have f1 := bx.frozen 1; have f2 := bx.frozen 2; have f3 := bx.frozen 3)
                  | (go_at_call 34; refine (HTk.out _ _ kz).mono ?_; rintro e w2 ⟨rfl, hk2, p2, bad2, hT2, hp2⟩; have K2 := (hK.out.kept kz).step hk2 hp2)
                  | (go_at_call 38; refine (HG2.out _ _ kz).mono ?_; rintro e wa ⟨rfl, ka⟩; have kz := Kept.trans kz ka))
                have L6 := K5.put (K5.row.row.node 18 0 ⟨#[]⟩ (by decide))
                go_roundg (ts.length - p2)
                case measure => rcases hT2 with ⟨a, b, e⟩ | ⟨e, b⟩ <;> omega
                case rel => exact ⟨p2, bad2, _, _, _, _, _, _, _, Nat.le_refl _, L6, Bnd.block hI.out hT2 (by decide)⟩
              | false =>
                have hI3 := hI.out.2.2.1 hbq
                have hll := len_sizes ks
                have hgk3 : 2 * (ts.length - q) + 1 ≤ gk := by rw [if_pos hbq] at hgk2; exact hgk2
                clear hgk2
                by_cases hk1 : 1 < ks.length
                · have q1 : (1 : Int) < (ks.length : Int) := by omega
                  go_wp2_with (first
                    | (have _tk := Ka; at_builtin; refine wpList_append_lies _ rfl _ _ 24 rfl 0 26 i0 _ 4 56 Try.underlying24 hi hz0 hz1 hz2 rfl (by omega) (.slice va ks.length vc) ks.length xs rfl Ka.row.1 ⟨w5.heap.size, 0, none⟩ 1 1 [.int .i64 op5, .string s5, .int .i64 n5, .slice ao5 l5 cp5] rfl rfl (news_of _ _ _) (by simp [Value.oneCell']) (by omega) (by unfold maxLen; omega) (by omega) (by omega) (w5.heap.size + 1) (by simp) ?_; intro gg cg w9 hown1 hgrow hat hlt9)
                    | (have _tk := Kb; go_at_call 35; refine (HE.out _ _ _ Kb.pa (by rcases hT2 with ⟨_, _, e⟩ | ⟨e, _⟩ <;> omega)).mono ?_; rintro e w5 ⟨t5, v5, p5, bad5, rfl, ht5, hp5, hk5, hB5⟩; obtain ⟨op5, s5, n5, ao5, l5, cp5, rfl⟩ := ht5.four; have K5 := Kb.step hk5 hp5; have Ka := K5.kept (Kept.alloc (Below.refl _ w5) (.cells #[.int .i64 op5, .string s5, .int .i64 n5, .slice ao5 l5 cp5] 26)))
                    | (go_at_call 34; refine (HTk.out _ _ kz).mono ?_; rintro e w2 ⟨rfl, hk2, p2, bad2, hT2, hp2⟩; have Kb := (hK.out.kept kz).step hk2 hp2)
                    | (go_at_call 38; refine (HG2.out _ _ kz).mono ?_; rintro e wa ⟨rfl, ka⟩; have kz := Kept.trans kz ka))
                  have hsz := hk5.size
                  have hxl := Kb.box.lt
                  have hxx := Kb.x
                  have hrl := Kb.row.row.lt
                  have hte : NdS (w5.alloc (.cells #[.int .i64 op5, .string s5, .int .i64 n5, .slice ao5 l5 cp5] 26)) (fun b => S0 w w1.heap.size b ∧ (Value.slice va ks.length vc).ownBlock ≠ some b) t5 (.agg #[.int .i64 op5, .string s5, .int .i64 n5, .slice ao5 l5 cp5]) := NdS.stay (Stays.kept (Kept.alloc (Below.refl _ _) _) _) _ _ (NdS.mono (fun b hb _ => ⟨⟨by omega, by omega, by omega⟩, fun e => by have := hrl b e; omega⟩) _ _ ht5)
                  obtain ⟨xs', K9⟩ := Ka.app hte hown1 hgrow (hat.elim .inl (fun h => .inr (by rw [h]; simp [Value.ownBlock])))
                  have hle5 := hB5.le
                  have hI0 := hI.out
                  have hg5 := hB5.good
                  have hw5 := hB5.wrong
                  go_roundg (2 * (ts.length - p5) + (if bad5 < 0 then 1 else 0))
                  case measure =>
                    split
                    · have := hg5 (by assumption); rcases hT2 with ⟨u1, u2, u3⟩ | ⟨u1, u2⟩ <;> omega
                    · rcases hT2 with ⟨u1, u2, u3⟩ | ⟨u1, u2⟩ <;> omega
                  case rel =>
                    refine ⟨p5, bad5, _, cg, ks ++ [t5], xs', by rw [List.length_append]; rfl, Nat.le_refl _, by rcases hT2 with ⟨u1, u2, u3⟩ | ⟨u1, u2⟩ <;> omega, (by rw [Hid, List.length_append]; exact K9), ⟨by rcases hT2 with ⟨u1, u2, u3⟩ | ⟨u1, u2⟩ <;> omega, ?_, fun h => ?_, fun h => ?_⟩⟩
                    · rcases hI0.2.1 with h | h
                      · exact .inl h
                      · omega
                    · have := hg5 h
                      rw [sizes_app]
                      rcases hT2 with ⟨u1, u2, u3⟩ | ⟨u1, u2⟩ <;> omega
                    · have := hw5 h
                      rw [sizes_app]
                      rcases hT2 with ⟨u1, u2, u3⟩ | ⟨u1, u2⟩ <;> omega
                · have q1 : ¬ (1 : Int) < (ks.length : Int) := by omega
                  go_wp2_with (first
                    | (have _tk := Ka; at_builtin; refine wpList_append_lies _ rfl _ _ 24 rfl 0 26 i0 _ 4 56 Try.underlying24 hi hz0 hz1 hz2 rfl (by omega) (.slice va ks.length vc) ks.length xs rfl Ka.row.1 ⟨w5.heap.size, 0, none⟩ 1 1 [.int .i64 op5, .string s5, .int .i64 n5, .slice ao5 l5 cp5] rfl rfl (news_of _ _ _) (by simp [Value.oneCell']) (by omega) (by unfold maxLen; omega) (by omega) (by omega) (w5.heap.size + 1) (by simp) ?_; intro gg cg w9 hown1 hgrow hat hlt9)
                    | (have _tk := Kb; go_at_call 35; refine (HE.out _ _ _ Kb.pa (by omega)).mono ?_; rintro e w5 ⟨t5, v5, p5, bad5, rfl, ht5, hp5, hk5, hB5⟩; obtain ⟨op5, s5, n5, ao5, l5, cp5, rfl⟩ := ht5.four; have K5 := Kb.step hk5 hp5; have Ka := K5.kept (Kept.alloc (Below.refl _ w5) (.cells #[.int .i64 op5, .string s5, .int .i64 n5, .slice ao5 l5 cp5] 26)))
                    | (go_at_call 38; refine (HG2.out _ _ kz).mono ?_; rintro e wa ⟨rfl, ka⟩; have kz := Kept.trans kz ka; have Kb := hK.out.kept kz))
                  have hsz := hk5.size
                  have hxl := Kb.box.lt
                  have hxx := Kb.x
                  have hrl := Kb.row.row.lt
                  have hte : NdS (w5.alloc (.cells #[.int .i64 op5, .string s5, .int .i64 n5, .slice ao5 l5 cp5] 26)) (fun b => S0 w w1.heap.size b ∧ (Value.slice va ks.length vc).ownBlock ≠ some b) t5 (.agg #[.int .i64 op5, .string s5, .int .i64 n5, .slice ao5 l5 cp5]) := NdS.stay (Stays.kept (Kept.alloc (Below.refl _ _) _) _) _ _ (NdS.mono (fun b hb _ => ⟨⟨by omega, by omega, by omega⟩, fun e => by have := hrl b e; omega⟩) _ _ ht5)
                  obtain ⟨xs', K9⟩ := Ka.app hte hown1 hgrow (hat.elim .inl (fun h => .inr (by rw [h]; simp [Value.ownBlock])))
                  have hle5 := hB5.le
                  have hI0 := hI.out
                  have hg5 := hB5.good
                  have hw5 := hB5.wrong
                  go_roundg (2 * (ts.length - p5) + (if bad5 < 0 then 1 else 0))
                  case measure =>
                    split
                    · have := hg5 (by assumption); omega
                    · omega
                  case rel =>
                    refine ⟨p5, bad5, _, cg, ks ++ [t5], xs', by rw [List.length_append]; rfl, Nat.le_refl _, by omega, (by rw [Hid, List.length_append]; exact K9), ⟨by omega, ?_, fun h => ?_, fun h => ?_⟩⟩
                    · rcases hI0.2.1 with h | h
                      · exact .inl h
                      · omega
                    · have := hg5 h
                      rw [sizes_app]
                      omega
                    · have := hw5 h
                      rw [sizes_app]
                      omega
            · have hb2 : ¬ bq < 0 := hbq
              go_wp2_with (first
                | (have _tk := K2; go_at_call 39; refine (l12Node_ok _ _ _ _ _).mono ?_; rintro e w5 ⟨rfl, k5⟩; have K5 := K2.kept k5; have bx := K5.box; have c0 := bx.cell 0; have c1 := bx.cell 1; have c2 := bx.cell 2; have c3 := bx.cell 3; have f0 := bx.frozen 0; have f1 := bx.frozen 1; have f2 := bx.frozen 2; have f3 := bx.frozen 3)
                | (go_at_call 34; refine (HTk.out _ _ kz).mono ?_; rintro e w2 ⟨rfl, hk2, p2, bad2, hT2, hp2⟩; have K2 := (hK.out.kept kz).step hk2 hp2)
                | (go_at_call 38; refine (HG2.out _ _ kz).mono ?_; rintro e wa ⟨rfl, ka⟩; have kz := Kept.trans kz ka))
              have L6 := K5.put (K5.row.row.node 18 0 ⟨#[]⟩ (by decide))
              go_roundg (ts.length - p2)
              case measure => rcases hT2 with ⟨a, b, e⟩ | ⟨e, b⟩ <;> omega
              case rel => exact ⟨p2, bad2, _, _, _, _, _, _, _, Nat.le_refl _, L6, Bnd.block hI.out hT2 (by decide)⟩
        | false =>
          go_wp2_with (go_at_call 38; refine (HG.out _ _ kz).mono ?_; rintro e wa ⟨rfl, ka⟩; have kz := Kept.trans kz ka; have L1 := hL.out.kept kz; have bx := L1.box; have c0 := bx.cell 0; have c1 := bx.cell 1; have c2 := bx.cell 2; have c3 := bx.cell 3; have rx := L1.res; have d0 := rx.cell 0; have d1 := rx.cell 1; have d2 := rx.cell 2; have d3 := rx.cell 3; have g0 := rx.frozen 0; have g1 := rx.frozen 1; have g2 := rx.frozen 2; have g3 := rx.frozen 3; have rl := rx.lt)
          have L1 := hL.out.kept kz
          obtain ⟨r1, r2, r3, r4⟩ := L1.done
          have z0 := r4.cell 0; have z1 := r4.cell 1; have z2 := r4.cell 2; have z3 := r4.cell 3
          exact bodyPost_ret (v := .agg #[.int .i64 op, .string s, .int .i64 n, .slice ao l cp]) (by simp [results, Try.results52, go_sem, z0, z1, z2, z3]) rfl ⟨t, _, p', bad', rfl, r1, r2, r3, hB.out⟩
end Go.Proofs.Ytdcjfeihcafndaa
