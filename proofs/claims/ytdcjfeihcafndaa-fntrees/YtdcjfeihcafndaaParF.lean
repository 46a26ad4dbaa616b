/-
  Chapter 12's models, weakly told: objects (genPar3.py).
-/
import Derived.Test.YtdcjfeihcafndaaParE
namespace Go.Proofs.Ytdcjfeihcafndaa
open Go.RowKit
set_option linter.unusedSimpArgs false
attribute [local go_sem] Plain.and7

set_option maxHeartbeats 8000000 in
set_option maxRecDepth 100000 in
theorem l12Object_ok (c g cap : Nat) (ts : List Tok) (hts : TsOk ts) (m : Nat) (hU : POk 35 1 c g cap ts m) : POk 55 1 c g cap ts (m + 1) := by
  intro w p bad h hm
  obtain ⟨i0, hi, hz0, hz1, hz2⟩ := info_parts infoNk
  have k0 : Kept w (w.alloc (.cells zeroN 26)) := Kept.alloc (Below.refl _ _) _
  have hC := l12Take_ok _ c g cap ts p bad (h.kept k0) hts ⟨#[123]⟩
  have HS : Hid (c < w.heap.size ∧ g < w.heap.size) := ⟨h.cur.lt, h.glt⟩
  have HU : Hid (POk 35 1 c g cap ts m) := hU
  have HT : Hid (TsOk ts) := hts
  have hlen := hts.len
  clear hU hts
  go_enter Try.func55, Try.ntmps55
  go_wp2_with (go_at_call 34; refine hC.mono ?_; rintro e w1 ⟨rfl, hk1, p1, bad1, hT1, hp1⟩)
  have L0 := LocR.first HS.out hk1 hp1 25
  have HL0 : Hid _ := L0
  have hB0 : p ≤ p1 ∧ (bad < 0 ∨ p1 = p ∧ 0 ≤ bad1) ∧ (bad1 < 0 → 4 + sizesN [] ≤ 4 * (p1 - p)) ∧ (0 ≤ bad1 → 1 + sizesN [] ≤ 4 * (p1 - p) + 1) := by
    simp only [sizesN]
    rcases hT1 with ⟨h1, h2, h3⟩ | ⟨h1, h2⟩ <;> omega
  clear L0 hp1 hk1 hC hT1
  go_loopg [] (2 * ts.length + 2) (fun gk wr => ∃ p' bad' va vc ks xs, 2 * (ts.length - p') + (if bad' < 0 then 1 else 0) ≤ gk ∧ Hid (LocR w wr c g cap ts p' bad' w1.heap.size 25 ⟨#[]⟩ (.slice va ks.length vc) ks xs) ∧ Hid (p ≤ p' ∧ (bad < 0 ∨ p' = p ∧ 0 ≤ bad') ∧ (bad' < 0 → 4 + sizesN ks ≤ 4 * (p' - p)) ∧ (0 ≤ bad' → 1 + sizesN ks ≤ 4 * (p' - p) + 1)))
  case atStart => exact ⟨p1, bad1, none, 0, [], [], by split <;> omega, HL0.out, hB0⟩
  case round =>
    obtain ⟨p', bad', va, vc, ks, xs, hgk, hL, hB⟩ := hrel
    clear HL0 hB0
    obtain ⟨x, hx⟩ : ∃ x, ts[p']? = some x := ⟨ts[p']'hL.out.pa.lt, List.getElem?_eq_getElem hL.out.pa.lt⟩
    have HG : Hid (∀ u s, Kept wr u → Calls Try.prog 38 #[.pointer (some ⟨c, 0, none⟩), .string s] u fun e w' => e = .returned (.bool (isT 4 x bad' s)) ∧ Kept u w') := fun u s hu => l12Sign_ok u c g cap ts p' bad' (hL.out.pa.kept hu) x hx s
    have HTk : Hid (∀ u s, Kept wr u → Calls Try.prog 34 #[.pointer (some ⟨c, 0, none⟩), .string s] u fun e w' => e = .returned (.tuple #[]) ∧ Keeps c u w' ∧ ∃ p2 bad2, TakeR p' bad' p2 bad2 ∧ PaW w' c g cap ts p2 bad2) := fun u s hu => l12Take_ok u c g cap ts p' bad' (hL.out.pa.kept hu) HT.out s
    have kz : Kept wr wr := Below.refl _ _
    have e2 := hL.out.pa.cur.cell 2
    simp at e2
    by_cases hb : bad' < 0
    · cases hi2 : isT 4 x bad' ⟨#[125]⟩ with
      | true =>
        go_wp2_with (first
          | (go_at_call 34; refine (HTk.out _ _ kz).mono ?_; rintro e w2 ⟨rfl, hk2, p2, bad2, hT2, hp2⟩; have L2 := (hL.out.kept kz).step hk2 hp2; have bx := L2.box; have c0 := bx.cell 0; have c1 := bx.cell 1; have c2 := bx.cell 2; have c3 := bx.cell 3; have rx := L2.res; have d0 := rx.cell 0; have d1 := rx.cell 1; have d2 := rx.cell 2; have d3 := rx.cell 3; have g0 := rx.frozen 0; have g1 := rx.frozen 1; have g2 := rx.frozen 2; have g3 := rx.frozen 3; have rl := rx.lt)
          | (go_at_call 38; refine (HG.out _ _ kz).mono ?_; rintro e wa ⟨rfl, k1⟩; have kz := Kept.trans kz k1))
        obtain ⟨r1, r2, r3, r4⟩ := (L2.loc (by decide)).done
        have z0 := r4.cell 0; have z1 := r4.cell 1; have z2 := r4.cell 2; have z3 := r4.cell 3
        exact bodyPost_ret (v := .agg #[.int .i64 25, .string ⟨#[]⟩, .int .i64 0, .slice va ks.length vc]) (by simp [results, Try.results55, go_sem, z0, z1, z2, z3]) rfl ⟨_, _, p2, bad2, rfl, r1, r2, r3, Bnd.block hB.out hT2 (by decide)⟩
      | false =>
        have hB3' := hB.out.2.2.1 hb
        have hll := len_sizes ks
        have hlt := hL.out.pa.lt
        have hgk2 : 2 * (ts.length - p') + 1 ≤ gk := by rw [if_pos hb] at hgk; exact hgk
        have hpp : p + 1 ≤ p' := by omega
        have Kz := hL.out.box.cell 3
        simp at Kz
        clear hgk
        by_cases hk0 : 0 < ks.length
        · have q1 : (0 : Int) < (ks.length : Int) := by omega
          go_wp2_with (first
            | (have _tk := La; at_builtin; refine wpList_append_lies _ rfl _ _ 24 rfl 0 26 i0 _ 4 56 Try.underlying24 hi hz0 hz1 hz2 rfl (by omega) (.slice va ks.length vc) ks.length xs rfl La.row.1 ⟨w5.heap.size + 2, 0, none⟩ 1 1 [.int .i64 26, .string s3, .int .i64 0, .slice (some ⟨w5.heap.size + 1, 0, none⟩) 1 1] rfl rfl hnw (by simp [Value.oneCell']) (by omega) (by unfold maxLen; omega) (by omega) (by omega) (w5.heap.size + 3) (by simp) ?_; intro gg cg w9 hown1 hgrow hat hlt9; have b9 : Cells w9 w1.heap.size 26 #[.int .i64 25, .string ⟨#[]⟩, .int .i64 0, .slice va ks.length vc] := (hgrow.block _ La.box.lt (fun e => (La.row.2.1 _ e.symm).2.2 rfl)).trans La.box; have dd := b9.cell 3; have ff := b9.frozen 3; have l9 := b9.lt)
            | (have _tk := hT4; go_at_call 35; refine (HU.out _ _ _ hp4 (by rcases hT4 with ⟨_, _, e⟩ | ⟨e, _⟩ <;> rcases hT3 with ⟨_, _, e⟩ | ⟨e, _⟩ <;> rcases hT2 with ⟨_, _, e⟩ | ⟨e, _⟩ <;> omega)).mono ?_; rintro e w5 ⟨t5, v5, p5, bad5, rfl, ht5, hp5, hk5, hB5⟩; obtain ⟨op5, s5, n5, ao5, l5, cp5, rfl⟩ := ht5.four; have L5 := L4.step hk5 hp5; have La := ((L5.kept (Kept.alloc (Below.refl _ w5) (.cells #[.int .i64 op5, .string s5, .int .i64 n5, .slice ao5 l5 cp5] 26))).kept (Kept.alloc (Below.refl _ _) (.cells #[.int .i64 op5, .string s5, .int .i64 n5, .slice ao5 l5 cp5] 26))).kept (Kept.alloc (Below.refl _ _) (.cells #[.int .i64 26, .string s3, .int .i64 0, .slice (some ⟨w5.heap.size + 1, 0, none⟩) 1 1] 26)); have bx := L5.box; have c3 := bx.cell 3; have l5x := bx.lt; have hnw := news_of ((w5.alloc (.cells #[.int .i64 op5, .string s5, .int .i64 n5, .slice ao5 l5 cp5] 26)).alloc (.cells #[.int .i64 op5, .string s5, .int .i64 n5, .slice ao5 l5 cp5] 26)) 26 #[.int .i64 26, .string s3, .int .i64 0, .slice (some ⟨w5.heap.size + 1, 0, none⟩) 1 1]; simp only [World.size_alloc] at hnw)
            | (have _tk := hT3; go_at_call 34; refine (l12Take_ok _ c _ cap ts p3 bad3 hp3 HT.out _).mono ?_; rintro e w4 ⟨rfl, hk4, p4, bad4, hT4, hp4⟩; have L4 := L3.step hk4 hp4)
            | (have _tk := hT2; go_at_call 33; refine (l12Name_ok _ c _ cap ts p2 bad2 hp2 HT.out false).mono ?_; rintro e w3 ⟨s3, p3, bad3, rfl, hs3, hk3, hT3, hp3⟩; have L3 := L2.step hk3 hp3)
            | (go_at_call 34; refine (HTk.out _ _ kz).mono ?_; rintro e w2 ⟨rfl, hk2, p2, bad2, hT2, hp2⟩; have L2 := (hL.out.kept kz).step hk2 hp2)
            | (go_at_call 38; refine (HG.out _ _ kz).mono ?_; rintro e wa ⟨rfl, k1⟩; have kz := Kept.trans kz k1; have Kz := (hL.out.kept kz).box.cell 3))
          have hsz := hk5.size
          have hxl := L4.box.lt
          have hxx := L4.x
          have hrl := L4.row.row.lt
          have hte : NdS (w5.alloc (.cells #[.int .i64 op5, .string s5, .int .i64 n5, .slice ao5 l5 cp5] 26)) (fun b => S0 w w1.heap.size b ∧ (Value.slice va ks.length vc).ownBlock ≠ some b) t5 (.agg #[.int .i64 op5, .string s5, .int .i64 n5, .slice ao5 l5 cp5]) := NdS.stay (Stays.kept (Kept.alloc (Below.refl _ _) _) _) _ _ (NdS.mono (fun b hb _ => ⟨⟨by omega, by omega, by omega⟩, fun e => by have := hrl b e; omega⟩) _ _ ht5)
          have hN := NdS.one hte (by simp only [World.size_alloc]; exact ⟨⟨by omega, by omega, by omega⟩, fun e => by have := hrl _ e; omega⟩) 26 0 s3 (by unfold maxLen; omega)
          simp only [World.size_alloc] at hN
          obtain ⟨xs', L9⟩ := La.app (NdS.stay (Stays.kept (Kept.alloc (Below.refl _ _) _) _) _ _ hN) hown1 hgrow (hat.elim .inl (fun h => .inr (by rw [h]; simp [Value.ownBlock])))
          have hle5 := hB5.le
          have hB0 := hB.out
          have hg5 := hB5.good
          have hw5 := hB5.wrong
          go_roundg (2 * (ts.length - p5) + (if bad5 < 0 then 1 else 0))
          case measure =>
            split
            · have := hg5 (by assumption); rcases hT4 with ⟨u1, u2, u3⟩ | ⟨u1, u2⟩ <;> rcases hT3 with ⟨y1, y2, y3⟩ | ⟨y1, y2⟩ <;> rcases hT2 with ⟨z1, z2, z3⟩ | ⟨z1, z2⟩ <;> omega
            · rcases hT4 with ⟨u1, u2, u3⟩ | ⟨u1, u2⟩ <;> rcases hT3 with ⟨y1, y2, y3⟩ | ⟨y1, y2⟩ <;> rcases hT2 with ⟨z1, z2, z3⟩ | ⟨z1, z2⟩ <;> omega
          case rel =>
            refine ⟨p5, bad5, _, cg, ks ++ [.mk 26 s3 0 [t5]], xs', Nat.le_refl _, (by rw [Hid, List.length_append]; exact L9), ⟨by rcases hT4 with ⟨u1, u2, u3⟩ | ⟨u1, u2⟩ <;> rcases hT3 with ⟨y1, y2, y3⟩ | ⟨y1, y2⟩ <;> rcases hT2 with ⟨z1, z2, z3⟩ | ⟨z1, z2⟩ <;> omega, ?_, fun h => ?_, fun h => ?_⟩⟩
            · rcases hB0.2.1 with h | h
              · exact .inl h
              · omega
            · have := hg5 h
              have hst := hB5.stop
              rw [sizes_app]
              simp only [Nd.size, sizesN]
              rcases hT4 with ⟨u1, u2, u3⟩ | ⟨u1, u2⟩ <;> rcases hT3 with ⟨y1, y2, y3⟩ | ⟨y1, y2⟩ <;> rcases hT2 with ⟨z1, z2, z3⟩ | ⟨z1, z2⟩ <;> omega
            · have := hw5 h
              rw [sizes_app]
              simp only [Nd.size, sizesN]
              rcases hT4 with ⟨u1, u2, u3⟩ | ⟨u1, u2⟩ <;> rcases hT3 with ⟨y1, y2, y3⟩ | ⟨y1, y2⟩ <;> rcases hT2 with ⟨z1, z2, z3⟩ | ⟨z1, z2⟩ <;> omega
        · have q1 : ¬ (0 : Int) < (ks.length : Int) := by omega
          go_wp2_with (first
            | (have _tk := La; at_builtin; refine wpList_append_lies _ rfl _ _ 24 rfl 0 26 i0 _ 4 56 Try.underlying24 hi hz0 hz1 hz2 rfl (by omega) (.slice va ks.length vc) ks.length xs rfl La.row.1 ⟨w5.heap.size + 2, 0, none⟩ 1 1 [.int .i64 26, .string s3, .int .i64 0, .slice (some ⟨w5.heap.size + 1, 0, none⟩) 1 1] rfl rfl hnw (by simp [Value.oneCell']) (by omega) (by unfold maxLen; omega) (by omega) (by omega) (w5.heap.size + 3) (by simp) ?_; intro gg cg w9 hown1 hgrow hat hlt9; have b9 : Cells w9 w1.heap.size 26 #[.int .i64 25, .string ⟨#[]⟩, .int .i64 0, .slice va ks.length vc] := (hgrow.block _ La.box.lt (fun e => (La.row.2.1 _ e.symm).2.2 rfl)).trans La.box; have dd := b9.cell 3; have ff := b9.frozen 3; have l9 := b9.lt)
            | (have _tk := hT4; go_at_call 35; refine (HU.out _ _ _ hp4 (by rcases hT4 with ⟨_, _, e⟩ | ⟨e, _⟩ <;> rcases hT3 with ⟨_, _, e⟩ | ⟨e, _⟩ <;> omega)).mono ?_; rintro e w5 ⟨t5, v5, p5, bad5, rfl, ht5, hp5, hk5, hB5⟩; obtain ⟨op5, s5, n5, ao5, l5, cp5, rfl⟩ := ht5.four; have L5 := L4.step hk5 hp5; have La := ((L5.kept (Kept.alloc (Below.refl _ w5) (.cells #[.int .i64 op5, .string s5, .int .i64 n5, .slice ao5 l5 cp5] 26))).kept (Kept.alloc (Below.refl _ _) (.cells #[.int .i64 op5, .string s5, .int .i64 n5, .slice ao5 l5 cp5] 26))).kept (Kept.alloc (Below.refl _ _) (.cells #[.int .i64 26, .string s3, .int .i64 0, .slice (some ⟨w5.heap.size + 1, 0, none⟩) 1 1] 26)); have bx := L5.box; have c3 := bx.cell 3; have l5x := bx.lt; have hnw := news_of ((w5.alloc (.cells #[.int .i64 op5, .string s5, .int .i64 n5, .slice ao5 l5 cp5] 26)).alloc (.cells #[.int .i64 op5, .string s5, .int .i64 n5, .slice ao5 l5 cp5] 26)) 26 #[.int .i64 26, .string s3, .int .i64 0, .slice (some ⟨w5.heap.size + 1, 0, none⟩) 1 1]; simp only [World.size_alloc] at hnw)
            | (have _tk := hT3; go_at_call 34; refine (l12Take_ok _ c _ cap ts p3 bad3 hp3 HT.out _).mono ?_; rintro e w4 ⟨rfl, hk4, p4, bad4, hT4, hp4⟩; have L4 := L3.step hk4 hp4)
            | (go_at_call 33; refine (l12Name_ok _ c _ cap ts p' bad' (hL.out.pa.kept kz) HT.out false).mono ?_; rintro e w3 ⟨s3, p3, bad3, rfl, hs3, hk3, hT3, hp3⟩; have L3 := (hL.out.kept kz).step hk3 hp3)
            | (go_at_call 38; refine (HG.out _ _ kz).mono ?_; rintro e wa ⟨rfl, k1⟩; have kz := Kept.trans kz k1; have Kz := (hL.out.kept kz).box.cell 3))
          have hsz := hk5.size
          have hxl := L4.box.lt
          have hxx := L4.x
          have hrl := L4.row.row.lt
          have hte : NdS (w5.alloc (.cells #[.int .i64 op5, .string s5, .int .i64 n5, .slice ao5 l5 cp5] 26)) (fun b => S0 w w1.heap.size b ∧ (Value.slice va ks.length vc).ownBlock ≠ some b) t5 (.agg #[.int .i64 op5, .string s5, .int .i64 n5, .slice ao5 l5 cp5]) := NdS.stay (Stays.kept (Kept.alloc (Below.refl _ _) _) _) _ _ (NdS.mono (fun b hb _ => ⟨⟨by omega, by omega, by omega⟩, fun e => by have := hrl b e; omega⟩) _ _ ht5)
          have hN := NdS.one hte (by simp only [World.size_alloc]; exact ⟨⟨by omega, by omega, by omega⟩, fun e => by have := hrl _ e; omega⟩) 26 0 s3 (by unfold maxLen; omega)
          simp only [World.size_alloc] at hN
          obtain ⟨xs', L9⟩ := La.app (NdS.stay (Stays.kept (Kept.alloc (Below.refl _ _) _) _) _ _ hN) hown1 hgrow (hat.elim .inl (fun h => .inr (by rw [h]; simp [Value.ownBlock])))
          have hle5 := hB5.le
          have hB0 := hB.out
          have hg5 := hB5.good
          have hw5 := hB5.wrong
          go_roundg (2 * (ts.length - p5) + (if bad5 < 0 then 1 else 0))
          case measure =>
            split
            · have := hg5 (by assumption); rcases hT4 with ⟨u1, u2, u3⟩ | ⟨u1, u2⟩ <;> rcases hT3 with ⟨y1, y2, y3⟩ | ⟨y1, y2⟩ <;> omega
            · rcases hT4 with ⟨u1, u2, u3⟩ | ⟨u1, u2⟩ <;> rcases hT3 with ⟨y1, y2, y3⟩ | ⟨y1, y2⟩ <;> omega
          case rel =>
            refine ⟨p5, bad5, _, cg, ks ++ [.mk 26 s3 0 [t5]], xs', Nat.le_refl _, (by rw [Hid, List.length_append]; exact L9), ⟨by rcases hT4 with ⟨u1, u2, u3⟩ | ⟨u1, u2⟩ <;> rcases hT3 with ⟨y1, y2, y3⟩ | ⟨y1, y2⟩ <;> omega, ?_, fun h => ?_, fun h => ?_⟩⟩
            · rcases hB0.2.1 with h | h
              · exact .inl h
              · omega
            · have := hg5 h
              have hst := hB5.stop
              rw [sizes_app]
              simp only [Nd.size, sizesN]
              rcases hT4 with ⟨u1, u2, u3⟩ | ⟨u1, u2⟩ <;> rcases hT3 with ⟨y1, y2, y3⟩ | ⟨y1, y2⟩ <;> omega
            · have := hw5 h
              rw [sizes_app]
              simp only [Nd.size, sizesN]
              rcases hT4 with ⟨u1, u2, u3⟩ | ⟨u1, u2⟩ <;> rcases hT3 with ⟨y1, y2, y3⟩ | ⟨y1, y2⟩ <;> omega
    · have hb2 : ¬ bad' < 0 := hb
      go_wp2_with (first
        | (go_at_call 34; refine (HTk.out _ _ kz).mono ?_; rintro e w2 ⟨rfl, hk2, p2, bad2, hT2, hp2⟩; have L2 := (hL.out.kept kz).step hk2 hp2; have bx := L2.box; have c0 := bx.cell 0; have c1 := bx.cell 1; have c2 := bx.cell 2; have c3 := bx.cell 3; have rx := L2.res; have d0 := rx.cell 0; have d1 := rx.cell 1; have d2 := rx.cell 2; have d3 := rx.cell 3; have g0 := rx.frozen 0; have g1 := rx.frozen 1; have g2 := rx.frozen 2; have g3 := rx.frozen 3; have rl := rx.lt)
        | (go_at_call 38; refine (HG.out _ _ kz).mono ?_; rintro e wa ⟨rfl, k1⟩; have kz := Kept.trans kz k1))
      obtain ⟨r1, r2, r3, r4⟩ := (L2.loc (by decide)).done
      have z0 := r4.cell 0; have z1 := r4.cell 1; have z2 := r4.cell 2; have z3 := r4.cell 3
      exact bodyPost_ret (v := .agg #[.int .i64 25, .string ⟨#[]⟩, .int .i64 0, .slice va ks.length vc]) (by simp [results, Try.results55, go_sem, z0, z1, z2, z3]) rfl ⟨_, _, p2, bad2, rfl, r1, r2, r3, Bnd.block hB.out hT2 (by decide)⟩
end Go.Proofs.Ytdcjfeihcafndaa
