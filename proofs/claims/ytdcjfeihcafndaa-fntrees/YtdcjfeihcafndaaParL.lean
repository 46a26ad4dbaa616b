/-
  The contract of chapter 12's model Parse, weakly told: a tree that is not too great, or none (genPar8.py).
-/
import Derived.Test.YtdcjfeihcafndaaParK
namespace Go.Proofs.Ytdcjfeihcafndaa
open Go.RowKit
set_option linter.unusedSimpArgs false
attribute [local go_sem] Plain.and7

theorem field_kind (a b c d : Value) (w : World) : Sem.run Try.prog (Instr.field 61 (.agg #[a, b, c, d]) 0) w = .ok a w := by kernel_rfl
attribute [local go_sem] field_kind
theorem toksC_at : ∀ (ts : List Tok) (i : Nat) (x : Tok), ts[i]? = some x → (toksC ts)[i * 4]? = some (.int .i64 x.k) ∧ (toksC ts)[i * 4 + 1]? = some (.string x.s) ∧ (toksC ts)[i * 4 + 2]? = some (.int .i64 x.n) ∧ (toksC ts)[i * 4 + 3]? = some (.int .i64 x.a)
  | [], i, x, h => by simp at h
  | y :: ts, 0, x, h => by
    simp at h
    subst h
    simp [toksC, Tok.cs]
  | y :: ts, i + 1, x, h => by
    have ih := toksC_at ts i x (by simpa using h)
    have e : ∀ j, (toksC (y :: ts))[(i + 1) * 4 + j]? = (toksC ts)[i * 4 + j]? := fun j => by
      have : toksC (y :: ts) = y.cs ++ toksC ts := rfl
      rw [this, List.getElem?_append_right (by simp [Tok.cs]; omega)]
      congr 1
      simp [Tok.cs]
      omega
    exact ⟨(e 0).trans ih.1, (e 1).trans ih.2.1, (e 2).trans ih.2.2.1, (e 3).trans ih.2.2.2⟩
/-- Within Parse. -/
structure LocP (w wr : World) (c g cap : Nat) (ts : List Tok) (p : Nat) (bad : Int) (X : Nat) (v : Value) (ks : List Nd) (xs : List Value) : Prop where
  kept : Kept w wr
  pa : PaW wr c g cap ts p bad
  res : Cells wr w.heap.size 26 zeroN
  box : Cells wr X 26 #[.int .i64 1, .string ⟨#[]⟩, .int .i64 0, v]
  ord : w.heap.size < c ∧ c < X ∧ g < X ∧ w.heap.size < g
  row : RowX wr (fun b => X < b) v ks xs
theorem LocP.step {w wr wr' : World} {c g cap : Nat} {ts : List Tok} {p p' : Nat} {bad bad' : Int} {X : Nat} {v : Value} {ks : List Nd} {xs : List Value} (h : LocP w wr c g cap ts p bad X v ks xs) (hk : Keeps c wr wr') (hp : PaW wr' c g cap ts p' bad') : LocP w wr' c g cap ts p' bad' X v ks xs :=
  ⟨⟨hk.os.trans h.kept.os, hk.tape.trans h.kept.tape, hk.output.trans h.kept.output, Nat.le_trans h.kept.size hk.size, fun k hl => (hk.block k (Nat.lt_of_lt_of_le hl h.kept.size) (by have := h.ord.1; omega)).trans (h.kept.block k hl)⟩, hp, h.res.keeps hk (by have := h.ord.1; omega), h.box.keeps hk (by have := h.ord.2.1; omega), h.ord, h.row.on (Stays.keeps hk (by intro h2; have := h.ord.2.1; omega))⟩
theorem LocP.keptP {w wr wr' : World} {c g cap : Nat} {ts : List Tok} {p : Nat} {bad : Int} {X : Nat} {v : Value} {ks : List Nd} {xs : List Value} (h : LocP w wr c g cap ts p bad X v ks xs) (hk : Kept wr wr') : LocP w wr' c g cap ts p bad X v ks xs := h.step hk.keeps (h.pa.kept hk)
theorem LocP.app {w W W' : World} {c g cap : Nat} {ts : List Tok} {p : Nat} {bad : Int} {X : Nat} {v v' : Value} {ks : List Nd} {xs : List Value} (h : LocP w W c g cap ts p bad X v ks xs) {t : Nd} {d0 d1 d2 d3 : Value}
    (ht : NdS W (fun b => X < b ∧ v.ownBlock ≠ some b) t (.agg #[d0, d1, d2, d3])) (ho : W'.ownsRow 0 26 4 v' (ks.length + 1) (xs ++ [d0, d1, d2, d3])) (hg : W.grownBy W' v.ownBlock) (hv : v.ownBlock = v'.ownBlock ∨ v'.ownBlock = some W.heap.size) :
    ∃ xs', LocP w (W'.setCell ⟨X, 3, none⟩ v') c g cap ts p bad X v' (ks ++ [t]) xs' := by
  have h1 := h.ord
  have hxl := h.box.lt
  have hS := h.row.2.1
  obtain ⟨xs', hr⟩ := NdRow.add h.row.2.2 (by have := h.row.1.1; omega) hS (by show X < _; omega) ht ho hg hv
  have same : ∀ k, k < W.heap.size → k < X → (W'.setCell ⟨X, 3, none⟩ v').heap[k]? = W.heap[k]? := fun k hk hkx => (Below.heap_setCell _ _ _ _ (by show k ≠ X; omega)).trans (hg.block k hk (fun e => by have := hS k e.symm; omega))
  have hXb : W'.heap[X]? = W.heap[X]? := hg.block X hxl (fun e => absurd (hS X e.symm) (by omega))
  refine ⟨xs', ⟨hg.os.trans h.kept.os, hg.tape.trans h.kept.tape, hg.output.trans h.kept.output, ?_, fun k hk => ?_⟩, ?_, ?_, ?_, h1, ?_⟩
  · have := h.kept.size
    have := hg.size
    simp [World.setCell]
    omega
  · have := h.kept.size
    exact (same k (by omega) (by omega)).trans (h.kept.block k hk)
  · exact h.pa.same (same c h.pa.cur.lt (by omega)) (same g h.pa.glt (by omega))
  · exact (same _ h.res.lt (by omega)).trans h.res
  · have hb : Cells W' X 26 #[.int .i64 1, .string ⟨#[]⟩, .int .i64 0, v] := hXb.trans h.box
    have := hb.set 3 v'
    simpa using this
  · exact RowX.on hr ((Stays.refl _ W').set (by omega) _)
set_option maxHeartbeats 16000000 in
set_option maxRecDepth 100000 in
theorem Parse_ok (w : World) (t : ByteArray) (ht : t.size ≤ 1048576) :
    Calls Try.prog 22 #[.string t] w fun e w' => ∃ v p, e = .returned (.tuple #[v, .int .i64 p]) ∧ ((0 ≤ p ∧ v = .agg zeroN) ∨ (p = -1 ∧ ∃ n, NdS w' (fun b => w.heap.size ≤ b) n v ∧ n.size ≤ 200 ∧ n.deep ≤ 20)) ∧ Kept w w' := by
  obtain ⟨i0, hi, hz0, hz1, hz2⟩ := info_parts infoNk
  have k0 : Kept w (w.alloc (.cells zeroN 26)) := Kept.alloc (Below.refl _ _) _
  have hTk := Tokens_ok (w.alloc (.cells zeroN 26)) t ht
  have r0 := Cells.new w 26 zeroN
  go_enter Try.func22, Try.ntmps22
  go_upto_region 2 with (go_at_call 26; refine hTk.mono ?_; rintro e w1 ⟨tv, tp, rfl, hcase, k1⟩)
  have r1 := r0.kept k1
  rcases hcase with ⟨hp0, hp1⟩ | ⟨rfl, ts, a, hrow, htl, hok, ha0, ha1⟩
  · have rx := r1; have d0 := rx.cell 0; have d1 := rx.cell 1; have d2 := rx.cell 2; have d3 := rx.cell 3; have g0 := rx.frozen 0; have g1 := rx.frozen 1; have g2 := rx.frozen 2; have g3 := rx.frozen 3; have rl := rx.lt
    go_wp2_with fail
    have z := r1.put4 (.int .i64 0) (.string ⟨#[]⟩) (.int .i64 0) (.slice none 0 0)
    have z0 := z.cell 0; have z1 := z.cell 1; have z2 := z.cell 2; have z3 := z.cell 3
    exact bodyPost_ret (v := .tuple #[.agg zeroN, .int .i64 tp]) (by simp [results, Try.results22, go_sem, z0, z1, z2, z3]) rfl ⟨_, _, rfl, .inl ⟨hp0, rfl⟩, ((((k0.trans k1).set (Nat.le_refl _) _).set (Nat.le_refl _) _).set (Nat.le_refl _) _).set (Nat.le_refl _) _⟩
  · obtain ⟨tsF, htsF⟩ : ∃ tsF, ts ++ [(⟨0, ⟨#[]⟩, 0, a⟩ : Tok)] = tsF := ⟨_, rfl⟩
    rw [htsF] at hrow
    have hTs : TsOk tsF := by
      subst htsF
      refine ⟨by simp; omega, fun x hx => ?_, fun x hx => ?_⟩
      · rw [List.mem_append, List.mem_singleton] at hx
        rcases hx with hx | rfl
        · exact hok x hx
        · exact ⟨Int.le_refl _, (by show (0 : Int) ≤ 4; decide), ha0, ha1, Nat.zero_le _⟩
      · simp at hx
        rw [← hx]
    have hlF : 1 ≤ tsF.length := by subst htsF; simp
    obtain ⟨gg, cp, rfl, hgb, hcellF⟩ : ∃ gg cp, tv = .slice (some ⟨gg, 0, none⟩) tsF.length cp ∧ w.heap.size < gg ∧ ∀ i x, tsF[i]? = some x → w1.cell? ⟨gg, i * 4, none⟩ = some (.int .i64 x.k) ∧ w1.cell? ⟨gg, i * 4 + 1, none⟩ = some (.string x.s) ∧ w1.cell? ⟨gg, i * 4 + 2, none⟩ = some (.int .i64 x.n) ∧ w1.cell? ⟨gg, i * 4 + 3, none⟩ = some (.int .i64 x.a) := by
      rcases hrow.2 with ⟨_, h0⟩ | ⟨gg, cp, cur, e, hb, hg, h1, h2, h3, h4⟩
      · omega
      · refine ⟨gg, cp, e, by (have h5 : w.heap.size + 1 ≤ gg := by simpa using hb); omega, fun i x hx => ?_⟩
        have cell : ∀ j u, (toksC tsF)[j]? = some u → w1.cell? ⟨gg, j, none⟩ = some u := fun j u hu => by
          rw [← h4, List.getElem?_take] at hu
          split at hu
          · simp [World.cell?, hg]; simpa using hu
          · cases hu
        obtain ⟨a0, a1, a2, a3⟩ := toksC_at tsF i x hx
        exact ⟨cell _ _ a0, cell _ _ a1, cell _ _ a2, cell _ _ a3⟩
    have hgl : gg < w1.heap.size := by
      obtain ⟨x, hx⟩ : ∃ x, tsF[0]? = some x := ⟨tsF[0], List.getElem?_eq_getElem (by omega)⟩
      exact World.block_lt_of_cell? _ _ (hcellF 0 x hx).1
    have kc : Kept w1 (w1.alloc (.cells #[.slice (some ⟨gg, 0, none⟩) tsF.length cp, .int .i64 0, .int .i64 (-1)] 59)) := Kept.alloc (Below.refl _ _) _
    have P0 : PaW (w1.alloc (.cells #[.slice (some ⟨gg, 0, none⟩) tsF.length cp, .int .i64 0, .int .i64 (-1)] 59)) w1.heap.size gg cp tsF 0 (-1) := ⟨Cells.new w1 _ _, fun i x hx => by
      obtain ⟨a0, a1, a2, a3⟩ := hcellF i x hx
      exact ⟨kept_cell kc a0, kept_cell kc a1, kept_cell kc a2, kept_cell kc a3⟩, by omega, by omega, by decide, by decide⟩
    have kx : Kept (w1.alloc (.cells #[.slice (some ⟨gg, 0, none⟩) tsF.length cp, .int .i64 0, .int .i64 (-1)] 59)) ((w1.alloc (.cells #[.slice (some ⟨gg, 0, none⟩) tsF.length cp, .int .i64 0, .int .i64 (-1)] 59)).alloc (.cells #[.int .i64 1, .string ⟨#[]⟩, .int .i64 0, .slice none 0 0] 26)) := Kept.alloc (Below.refl _ _) _
    have L0 : LocP w ((w1.alloc (.cells #[.slice (some ⟨gg, 0, none⟩) tsF.length cp, .int .i64 0, .int .i64 (-1)] 59)).alloc (.cells #[.int .i64 1, .string ⟨#[]⟩, .int .i64 0, .slice none 0 0] 26)) w1.heap.size gg cp tsF 0 (-1) (w1.heap.size + 1) (.slice none 0 0) [] [] := by
      have z := Cells.new (w1.alloc (.cells #[.slice (some ⟨gg, 0, none⟩) tsF.length cp, .int .i64 0, .int .i64 (-1)] 59)) 26 #[.int .i64 1, .string ⟨#[]⟩, .int .i64 0, .slice none 0 0]
      simp only [World.size_alloc] at z
      have := r1.lt
      exact ⟨((k0.trans k1).trans kc).trans kx, P0.kept kx, (r1.kept kc).kept kx, z, ⟨by omega, by omega, by omega, hgb⟩, ⟨rfl, .inl ⟨rfl, rfl⟩⟩, fun g h => by simp [Value.ownBlock] at h, fun i t h => by simp at h⟩
    have HL0 : Hid _ := L0
    have HT : Hid (TsOk tsF) := hTs
    have hlen := hTs.len
    obtain ⟨c, hc⟩ : ∃ c, w1.heap.size = c := ⟨_, rfl⟩
    have HA : Hid (POk 28 2 c gg cp tsF 802) := by rw [← hc]; exact (all_ok _ _ _ _ hTs 802).2.2.2
    rw [hc] at HL0
    clear L0 P0 kc kx hcellF hgl hTs hrow hok r1 r0 hTk htsF
    go_wp2_with fail
    (try simp only [hc])
    go_loopg [] (2 * tsF.length + 2) (fun gk wr => ∃ p' bad' va vc ks xs, 2 * (tsF.length - p') + (if bad' < 0 then 1 else 0) ≤ gk ∧ Hid (LocP w wr c gg cp tsF p' bad' (c + 1) (.slice va ks.length vc) ks xs) ∧ Hid ((bad' < 0 → sizesN ks ≤ 4 * p') ∧ (0 ≤ bad' → sizesN ks ≤ 4 * p' + 2)))
    case atStart => exact ⟨0, -1, none, 0, [], [], by split <;> omega, HL0.out, ⟨fun _ => Nat.zero_le _, fun _ => Nat.zero_le _⟩⟩
    case round =>
      obtain ⟨p', bad', va, vc, ks, xs, hgk, hL, hB⟩ := hrel
      clear HL0
      obtain ⟨x, hx⟩ : ∃ x, tsF[p']? = some x := ⟨tsF[p']'hL.out.pa.lt, List.getElem?_eq_getElem hL.out.pa.lt⟩
      have hlt := hL.out.pa.lt
      have hN := l12Now_ok wr c gg cp tsF p' bad' hL.out.pa x hx
      have e2 := hL.out.pa.cur.cell 2
      simp at e2
      have hll := len_sizes ks
      by_cases hb : bad' < 0
      · have hb1 : bad' = -1 := by have := hL.out.pa.lo; omega
        by_cases hk0 : x.k = 0
        · have hk : (x.k != 0) = false := by simp [hk0]
          have hsz : sizesN ks ≤ 3204 := by have := hB.out.1 hb; omega
          clear hk0
          have hb3 : ¬ 0 ≤ bad' := by omega
          have HSz : Hid (∀ u, LocP w u c gg cp tsF p' bad' (c + 1) (.slice va ks.length vc) ks xs → Calls Try.prog 10 #[.agg #[.int .i64 1, .string ⟨#[]⟩, .int .i64 0, .slice va ks.length vc]] u fun e w' => e = .returned (.int .i64 ((1 + sizesN ks : Nat) : Int)) ∧ Kept u w') := fun u hu => by
            have h1 := NdS.toV (base := 1) (fun b hb => by omega) _ _ (hu.row.row.node 1 0 ⟨#[]⟩ (by decide))
            have := spec_Size_ok _ (.mk 1 ⟨#[]⟩ 0 ks) (Nat.le_refl _) u 1 _ h1 (by simp only [Nd.size]; omega)
            simpa only [Nd.size] using this
          have HDp : Hid (∀ u, LocP w u c gg cp tsF p' bad' (c + 1) (.slice va ks.length vc) ks xs → Calls Try.prog 9 #[.agg #[.int .i64 1, .string ⟨#[]⟩, .int .i64 0, .slice va ks.length vc]] u fun e w' => e = .returned (.int .i64 ((deepsN ks + 1 : Nat) : Int)) ∧ Kept u w') := fun u hu => by
            have h1 := NdS.toV (base := 1) (fun b hb => by omega) _ _ (hu.row.row.node 1 0 ⟨#[]⟩ (by decide))
            have := spec_Deep_ok _ (.mk 1 ⟨#[]⟩ 0 ks) (Nat.le_refl _) u 1 _ h1 (by simp only [Nd.size]; omega)
            simpa only [Nd.deep] using this
          by_cases hs2 : 200 < 1 + sizesN ks
          · have q1 : (200 : Int) < ((1 + sizesN ks : Nat) : Int) := by omega
            go_wp2_with (first
              | (have _tk := L1; go_at_call 10; refine (HSz.out _ L1).mono ?_; rintro e w3 ⟨rfl, k3⟩; have L3 := L1.keptP k3; have bx := L3.box; have c0 := bx.cell 0; have c1 := bx.cell 1; have c2 := bx.cell 2; have c3 := bx.cell 3; have rx := L3.res; have d0 := rx.cell 0; have d1 := rx.cell 1; have d2 := rx.cell 2; have d3 := rx.cell 3; have g0 := rx.frozen 0; have g1 := rx.frozen 1; have g2 := rx.frozen 2; have g3 := rx.frozen 3; have rl := rx.lt)
              | (go_at_call 27; refine hN.mono ?_; rintro e w2 ⟨rfl, k2⟩; have L1 := hL.out.keptP k2; have e2 := L1.pa.cur.cell 2; have bx := L1.box; have c0 := bx.cell 0; have c1 := bx.cell 1; have c2 := bx.cell 2; have c3 := bx.cell 3; have rx := L1.res; have d0 := rx.cell 0; have d1 := rx.cell 1; have d2 := rx.cell 2; have d3 := rx.cell 3; have g0 := rx.frozen 0; have g1 := rx.frozen 1; have g2 := rx.frozen 2; have g3 := rx.frozen 3; have rl := rx.lt))
            have z := L3.res.put4 (.int .i64 0) (.string ⟨#[]⟩) (.int .i64 0) (.slice none 0 0)
            have z0 := z.cell 0; have z1 := z.cell 1; have z2 := z.cell 2; have z3 := z.cell 3
            exact bodyPost_ret (v := .tuple #[.agg zeroN, .int .i64 0]) (by simp [results, Try.results22, go_sem, z0, z1, z2, z3]) rfl ⟨_, _, rfl, .inl ⟨Int.le_refl _, rfl⟩, (((L3.kept.set (Nat.le_refl _) _).set (Nat.le_refl _) _).set (Nat.le_refl _) _).set (Nat.le_refl _) _⟩
          · have q1 : ¬ (200 : Int) < ((1 + sizesN ks : Nat) : Int) := by omega
            by_cases hd2 : 20 < deepsN ks + 1
            · have q2 : (20 : Int) < ((deepsN ks + 1 : Nat) : Int) := by omega
              go_wp2_with (first
                | (have _tk := L3; go_at_call 9; refine (HDp.out _ L3).mono ?_; rintro e w4 ⟨rfl, k4⟩; have L4 := L3.keptP k4; have bx := L4.box; have c0 := bx.cell 0; have c1 := bx.cell 1; have c2 := bx.cell 2; have c3 := bx.cell 3; have rx := L4.res; have d0 := rx.cell 0; have d1 := rx.cell 1; have d2 := rx.cell 2; have d3 := rx.cell 3; have g0 := rx.frozen 0; have g1 := rx.frozen 1; have g2 := rx.frozen 2; have g3 := rx.frozen 3; have rl := rx.lt)
                | (have _tk := L1; go_at_call 10; refine (HSz.out _ L1).mono ?_; rintro e w3 ⟨rfl, k3⟩; have L3 := L1.keptP k3; have bx := L3.box; have c0 := bx.cell 0; have c1 := bx.cell 1; have c2 := bx.cell 2; have c3 := bx.cell 3; have rx := L3.res; have d0 := rx.cell 0; have d1 := rx.cell 1; have d2 := rx.cell 2; have d3 := rx.cell 3; have g0 := rx.frozen 0; have g1 := rx.frozen 1; have g2 := rx.frozen 2; have g3 := rx.frozen 3; have rl := rx.lt)
                | (go_at_call 27; refine hN.mono ?_; rintro e w2 ⟨rfl, k2⟩; have L1 := hL.out.keptP k2; have e2 := L1.pa.cur.cell 2; have bx := L1.box; have c0 := bx.cell 0; have c1 := bx.cell 1; have c2 := bx.cell 2; have c3 := bx.cell 3; have rx := L1.res; have d0 := rx.cell 0; have d1 := rx.cell 1; have d2 := rx.cell 2; have d3 := rx.cell 3; have g0 := rx.frozen 0; have g1 := rx.frozen 1; have g2 := rx.frozen 2; have g3 := rx.frozen 3; have rl := rx.lt))
              have z := L4.res.put4 (.int .i64 0) (.string ⟨#[]⟩) (.int .i64 0) (.slice none 0 0)
              have z0 := z.cell 0; have z1 := z.cell 1; have z2 := z.cell 2; have z3 := z.cell 3
              exact bodyPost_ret (v := .tuple #[.agg zeroN, .int .i64 0]) (by simp [results, Try.results22, go_sem, z0, z1, z2, z3]) rfl ⟨_, _, rfl, .inl ⟨Int.le_refl _, rfl⟩, (((L4.kept.set (Nat.le_refl _) _).set (Nat.le_refl _) _).set (Nat.le_refl _) _).set (Nat.le_refl _) _⟩
            · have q2 : ¬ (20 : Int) < ((deepsN ks + 1 : Nat) : Int) := by omega
              go_wp2_with (first
                | (have _tk := L3; go_at_call 9; refine (HDp.out _ L3).mono ?_; rintro e w4 ⟨rfl, k4⟩; have L4 := L3.keptP k4; have bx := L4.box; have c0 := bx.cell 0; have c1 := bx.cell 1; have c2 := bx.cell 2; have c3 := bx.cell 3; have rx := L4.res; have d0 := rx.cell 0; have d1 := rx.cell 1; have d2 := rx.cell 2; have d3 := rx.cell 3; have g0 := rx.frozen 0; have g1 := rx.frozen 1; have g2 := rx.frozen 2; have g3 := rx.frozen 3; have rl := rx.lt)
                | (have _tk := L1; go_at_call 10; refine (HSz.out _ L1).mono ?_; rintro e w3 ⟨rfl, k3⟩; have L3 := L1.keptP k3; have bx := L3.box; have c0 := bx.cell 0; have c1 := bx.cell 1; have c2 := bx.cell 2; have c3 := bx.cell 3; have rx := L3.res; have d0 := rx.cell 0; have d1 := rx.cell 1; have d2 := rx.cell 2; have d3 := rx.cell 3; have g0 := rx.frozen 0; have g1 := rx.frozen 1; have g2 := rx.frozen 2; have g3 := rx.frozen 3; have rl := rx.lt)
                | (go_at_call 27; refine hN.mono ?_; rintro e w2 ⟨rfl, k2⟩; have L1 := hL.out.keptP k2; have e2 := L1.pa.cur.cell 2; have bx := L1.box; have c0 := bx.cell 0; have c1 := bx.cell 1; have c2 := bx.cell 2; have c3 := bx.cell 3; have rx := L1.res; have d0 := rx.cell 0; have d1 := rx.cell 1; have d2 := rx.cell 2; have d3 := rx.cell 3; have g0 := rx.frozen 0; have g1 := rx.frozen 1; have g2 := rx.frozen 2; have g3 := rx.frozen 3; have rl := rx.lt))
              have z := L4.res.put4 (.int .i64 1) (.string ⟨#[]⟩) (.int .i64 0) (.slice va ks.length vc)
              have z0 := z.cell 0; have z1 := z.cell 1; have z2 := z.cell 2; have z3 := z.cell 3
              have ho := L4.ord
              refine bodyPost_ret (v := .tuple #[.agg #[.int .i64 1, .string ⟨#[]⟩, .int .i64 0, .slice va ks.length vc], .int .i64 (-1)]) (by simp [results, Try.results22, go_sem, z0, z1, z2, z3]) rfl ⟨_, _, rfl, .inr ⟨rfl, .mk 1 ⟨#[]⟩ 0 ks, ?_, by simp only [Nd.size]; omega, by simp only [Nd.deep]; omega⟩, (((L4.kept.set (Nat.le_refl _) _).set (Nat.le_refl _) _).set (Nat.le_refl _) _).set (Nat.le_refl _) _⟩
              refine NdS.mono (fun b hb _ => by omega) _ _ (NdS.stay ((Stays.refl _ w4).set4 (by omega) _ _ _ _) _ _ (L4.row.row.node 1 0 ⟨#[]⟩ (by decide)))
        · have hk : (x.k != 0) = true := by simpa using hk0
          clear hk0
          have hgk2 : 2 * (tsF.length - p') + 1 ≤ gk := by rw [if_pos hb] at hgk; exact hgk
          have hB1 := hB.out.1 hb
          clear hgk
          go_upto_region 7 with (go_at_call 27; refine hN.mono ?_; rintro e w2 ⟨rfl, k2⟩)
          have Ld := hL.out.keptP (Below.drew k2)
          have hA := HA.out w2.drew p' bad' Ld.pa (by omega)
          have HLd : Hid (LocP w w2.drew c gg cp tsF p' bad' (c + 1) (.slice va ks.length vc) ks xs) := Ld
          have D0 := Ld.box.cell 3
          simp at D0
          clear Ld e2 hN
          go_wp2_with fail
          go_region_law (first
            | (refine step_callN (by rfl) (by go_simp; done) hA ?_; rintro e wx ⟨t3, v3, p3, bad3, rfl, ht3, hp3, hk3, hB3⟩; obtain ⟨op3, s3, n3, ao3, l3, cp3, rfl⟩ := ht3.four; refine ⟨_, rfl, ?_⟩; have Lx := HLd.out.step hk3 hp3; have Dx := Lx.box.cell 3; have La := Lx.keptP (Kept.alloc (Below.refl _ wx) (.cells #[.int .i64 op3, .string s3, .int .i64 n3, .slice ao3 l3 cp3] 26)); have Da := La.box.cell 3)
            | (refine step_append_lies _ (by rfl) _ _ _ (by rfl) 0 26 i0 _ 4 56 Try.underlying24 hi hz0 hz1 hz2 rfl (by omega) (.slice va ks.length vc) ks.length xs (by rfl) La.row.1 ⟨wx.heap.size, 0, none⟩ 1 1 [.int .i64 op3, .string s3, .int .i64 n3, .slice ao3 l3 cp3] (by rfl) (by rfl) (news_of _ _ _) (by simp [Value.oneCell']) (by omega) (by unfold maxLen; omega) (by omega) (by omega) (wx.heap.size + 1) (by simp) ?_; intro gq cg w9 hown1 hgrow hat hlt9; have b9 : Cells w9 (c + 1) 26 #[.int .i64 1, .string ⟨#[]⟩, .int .i64 0, .slice va ks.length vc] := (hgrow.block _ La.box.lt (fun e => absurd (La.row.2.1 _ e.symm) (by omega))).trans La.box; have dd := b9.cell 3; have ff := b9.frozen 3; have l9 := b9.lt))
          all_goals (
            go_wp2_with fail
            have hsz := hk3.size
            have hxl := HLd.out.box.lt
            have hrl := HLd.out.row.row.lt
            obtain ⟨xs', L9⟩ := La.app (v' := .slice (some ⟨gq, 0, none⟩) (ks.length + 1) cg) (NdS.stay (Stays.kept (Kept.alloc (Below.refl _ _) _) _) _ _ (NdS.mono (fun b hb _ => ⟨by omega, fun e => by have := hrl b e; omega⟩) _ _ ht3)) hown1 hgrow (hat.elim .inl (fun h => .inr (by rw [h]; simp [Value.ownBlock])))
            have hle3 := hB3.le
            go_roundg (2 * (tsF.length - p3) + (if bad3 < 0 then 1 else 0))
            case measure =>
              split
              · have := (hB3.good (by assumption)).1; omega
              · omega
            case rel =>
              refine ⟨p3, bad3, _, cg, ks ++ [t3], xs', Nat.le_refl _, (by rw [Hid, List.length_append]; exact L9), ⟨fun h => ?_, fun h => ?_⟩⟩
              · have := hB3.good h
                rw [sizes_app]
                omega
              · have := hB3.wrong h
                rw [sizes_app]
                omega)
      · have hb2 : ¬ bad' < 0 := hb
        have hb3 : 0 ≤ bad' := by omega
        have LZ := hL.out
        have bx := LZ.box; have c0 := bx.cell 0; have c1 := bx.cell 1; have c2 := bx.cell 2; have c3 := bx.cell 3; have rx := LZ.res; have d0 := rx.cell 0; have d1 := rx.cell 1; have d2 := rx.cell 2; have d3 := rx.cell 3; have g0 := rx.frozen 0; have g1 := rx.frozen 1; have g2 := rx.frozen 2; have g3 := rx.frozen 3; have rl := rx.lt
        simp at d0 d1 d2 d3
        have n1 : c ≠ w.heap.size := by have := LZ.ord.1; omega
        have HKP : Hid (∀ w', Stays (fun b => b ≠ w.heap.size) wr w' → w'.cell? ⟨c, 2, none⟩ = some (.int .i64 bad')) := fun w' hs => hs.cell (p := ⟨c, 2, none⟩) n1 e2
        have test := HKP.out (World.drew (set4 wr w.heap.size (.int .i64 0) (.string ⟨#[]⟩) (.int .i64 0) (.slice none 0 0))) (((Stays.refl _ wr).set4 (by simp) _ _ _ _).trans (Stays.kept (Below.drew (Below.refl _ _)) _))
        go_wp2_with fail
        go_region_held3 (fun w' => w'.cell? ⟨c, 2, none⟩ = some (.int .i64 bad')) (go_keep) (fail)
        all_goals (
          go_wp2_with fail
          have z := LZ.res.put4 (.int .i64 0) (.string ⟨#[]⟩) (.int .i64 0) (.slice none 0 0)
          have z0 := z.cell 0; have z1 := z.cell 1; have z2 := z.cell 2; have z3 := z.cell 3
          exact bodyPost_ret (v := .tuple #[.agg zeroN, .int .i64 bad']) (by simp [results, Try.results22, go_sem, z0, z1, z2, z3]) rfl ⟨_, _, rfl, .inl ⟨hb3, rfl⟩, Below.drew ((((LZ.kept.set (Nat.le_refl _) _).set (Nat.le_refl _) _).set (Nat.le_refl _) _).set (Nat.le_refl _) _)⟩)
end Go.Proofs.Ytdcjfeihcafndaa
