/-
  Chapter 12's models, weakly told: a node whose kids are appended to; blocks; statements that a word begins.
-/
import Derived.Test.YtdcjfeihcafndaaParC
import Derived.Deep.RegionLaw
namespace Go.Proofs.Ytdcjfeihcafndaa
open Go.RowKit
set_option linter.unusedSimpArgs false
attribute [local go_sem] Plain.and7

/-- A call of a Go function, as one step of a region that draws. -/
theorem step_callN {P : Program} {ops : Array Oper} {o : Oper} {a : Act} {w : World} {K : Act → World → Prop} {Q : Exit → Act → World → Prop} {E : Prop} {f : FuncId} {args : Array Value} {R : Ending → World → Prop}
    (hg : o.guard = none) (hr : (execOp a.eval o).run P w = .ok (.enter f args) w) (hc : Calls P f args w R) (h : ∀ e w', R e w' → ∃ v, e = .returned v ∧ K (a.put o.dst v) w') :
    if Region.wanted o (yielded ops a.tmps) = true then Oper.wp P o a w K Q else E := by
  have hw : Region.wanted o (yielded ops a.tmps) = true := by simp [Region.wanted, hg]
  rw [if_pos hw]
  unfold Oper.wp
  rw [hr]
  simp only [Oper.upon]
  refine hc.mono (fun e w' hR => ?_)
  obtain ⟨v, rfl, hk⟩ := h e w' hR
  exact hk
theorem infoNk : (Try.prog.info? 26).map (fun i => (i.zero, i.size, i.bytes)) = some (some (.agg #[.int .i64 0, .string ⟨#[]⟩, .int .i64 0, .slice none 0 0]), 4, 56) := by kernel_rfl
abbrev S0 (w : World) (X : Nat) : Nat → Prop := fun b => w.heap.size ≤ b ∧ b ≠ w.heap.size ∧ b ≠ X
/-- Within a function: the box X of a node whose kids are a row of one's own. -/
structure LocR (w wr : World) (c g cap : Nat) (ts : List Tok) (p : Nat) (bad : Int) (X : Nat) (op : Int) (s : ByteArray) (v : Value) (ks : List Nd) (xs : List Value) : Prop where
  start : c < w.heap.size ∧ g < w.heap.size
  keeps : Keeps c w wr
  pa : PaW wr c g cap ts p bad
  res : Cells wr w.heap.size 26 zeroN
  box : Cells wr X 26 #[.int .i64 op, .string s, .int .i64 0, v]
  x : w.heap.size < X
  row : RowX wr (S0 w X) v ks xs
theorem LocR.step {w wr wr' : World} {c g cap : Nat} {ts : List Tok} {p p' : Nat} {bad bad' : Int} {X : Nat} {op : Int} {s : ByteArray} {v : Value} {ks : List Nd} {xs : List Value} (h : LocR w wr c g cap ts p bad X op s v ks xs) (hk : Keeps c wr wr') (hp : PaW wr' c g cap ts p' bad') : LocR w wr' c g cap ts p' bad' X op s v ks xs :=
  ⟨h.start, h.keeps.trans hk, hp, h.res.keeps hk (by have := h.start.1; omega), h.box.keeps hk (by have := h.start.1; have := h.x; omega), h.x, h.row.on (Stays.keeps hk (by intro h2; have := h.start.1; omega))⟩
theorem LocR.kept {w wr wr' : World} {c g cap : Nat} {ts : List Tok} {p : Nat} {bad : Int} {X : Nat} {op : Int} {s : ByteArray} {v : Value} {ks : List Nd} {xs : List Value} (h : LocR w wr c g cap ts p bad X op s v ks xs) (hk : Kept wr wr') : LocR w wr' c g cap ts p bad X op s v ks xs := h.step hk.keeps (h.pa.kept hk)
theorem LocR.loc {w wr : World} {c g cap : Nat} {ts : List Tok} {p : Nat} {bad : Int} {X : Nat} {op : Int} {s : ByteArray} {v : Value} {ks : List Nd} {xs : List Value} (h : LocR w wr c g cap ts p bad X op s v ks xs) (hs : s.size ≤ maxLen) : Loc w wr c g cap ts p bad X (.mk op s 0 ks) (.int .i64 op) (.string s) (.int .i64 0) v :=
  ⟨h.start, h.keeps, h.pa, h.res, h.box, h.x, h.row.row.node op 0 s hs⟩
/-- A node of no kids, put into a box of its own. -/
theorem LocR.first {w w1 : World} {c g cap : Nat} {ts : List Tok} {p : Nat} {bad : Int} (hs : c < w.heap.size ∧ g < w.heap.size) (hk : Keeps c (w.alloc (.cells zeroN 26)) w1) (hp : PaW w1 c g cap ts p bad) (op : Int) :
    LocR w (w1.alloc (.cells #[.int .i64 op, .string ⟨#[]⟩, .int .i64 0, .slice none 0 0] 26)) c g cap ts p bad w1.heap.size op ⟨#[]⟩ (.slice none 0 0) [] [] := by
  have k1 : Kept w1 (w1.alloc (.cells #[.int .i64 op, .string ⟨#[]⟩, .int .i64 0, .slice none 0 0] 26)) := Kept.alloc (Below.refl _ _) _
  have hz := hk.size
  simp only [World.size_alloc] at hz
  exact ⟨hs, ((Kept.alloc (Below.refl _ w) _).keeps.trans hk).alloc _, hp.kept k1, ((Cells.new w _ _).keeps hk (by omega)).kept k1, Cells.new w1 _ _, by omega, ⟨rfl, .inl ⟨rfl, rfl⟩⟩, fun g h => by simp [Value.ownBlock] at h, fun i t h => by simp at h⟩
theorem PaW.same {w w' : World} {c g cap : Nat} {ts : List Tok} {p : Nat} {bad : Int} (h : PaW w c g cap ts p bad) (hc : w'.heap[c]? = w.heap[c]?) (hg : w'.heap[g]? = w.heap[g]?) : PaW w' c g cap ts p bad := by
  refine ⟨hc.trans h.cur, fun i x hx => ?_, h.ne, h.lt, h.lo, h.hi⟩
  obtain ⟨h0, h1, h2, h3⟩ := h.row i x hx
  exact ⟨(World.cell?_of_block (w := w) hg).trans h0, (World.cell?_of_block (w := w) hg).trans h1, (World.cell?_of_block (w := w) hg).trans h2, (World.cell?_of_block (w := w) hg).trans h3⟩
/-- A kid is appended, and the row put back. -/
theorem LocR.app {w W W' : World} {c g cap : Nat} {ts : List Tok} {p : Nat} {bad : Int} {X : Nat} {op : Int} {s : ByteArray} {v v' : Value} {ks : List Nd} {xs : List Value} (h : LocR w W c g cap ts p bad X op s v ks xs) {t : Nd} {d0 d1 d2 d3 : Value}
    (ht : NdS W (fun b => S0 w X b ∧ v.ownBlock ≠ some b) t (.agg #[d0, d1, d2, d3])) (ho : W'.ownsRow 0 26 4 v' (ks.length + 1) (xs ++ [d0, d1, d2, d3])) (hg : W.grownBy W' v.ownBlock) (hv : v.ownBlock = v'.ownBlock ∨ v'.ownBlock = some W.heap.size) :
    ∃ xs', LocR w (W'.setCell ⟨X, 3, none⟩ v') c g cap ts p bad X op s v' (ks ++ [t]) xs' := by
  have h1 := h.start
  have hx := h.x
  have hxl := h.box.lt
  have hS := h.row.2.1
  obtain ⟨xs', hr⟩ := NdRow.add h.row.2.2 (by have := h.row.1.1; omega) hS (by show _ ∧ _ ∧ _; omega) ht ho hg hv
  have same : ∀ k, k < W.heap.size → ¬ S0 w X k → k ≠ X → (W'.setCell ⟨X, 3, none⟩ v').heap[k]? = W.heap[k]? := fun k hk hn hkx => (Below.heap_setCell _ _ _ _ hkx).trans (hg.block k hk (fun e => hn (hS k e.symm)))
  have hcl := h.pa.cur.lt
  have hgl := h.pa.glt
  have hXb : W'.heap[X]? = W.heap[X]? := hg.block X hxl (fun e => absurd (hS X e.symm) (by intro h; exact h.2.2 rfl))
  refine ⟨xs', h1, ⟨hg.os.trans h.keeps.os, hg.tape.trans h.keeps.tape, hg.output.trans h.keeps.output, ?_, fun k hk hc => ?_⟩, ?_, ?_, ?_, hx, ?_⟩
  · have := h.keeps.size
    have := hg.size
    simp [World.setCell]
    omega
  · have := h.keeps.size
    exact (same k (by omega) (by omega) (by omega)).trans (h.keeps.block k hk hc)
  · exact h.pa.same (same c hcl (by omega) (by omega)) (same g hgl (by omega) (by omega))
  · exact (same _ h.res.lt (by omega) (by omega)).trans h.res
  · have hb : Cells W' X 26 #[.int .i64 op, .string s, .int .i64 0, v] := hXb.trans h.box
    have := hb.set 3 v'
    simpa using this
  · exact RowX.on hr ((Stays.refl _ W').set (by intro h; exact h.2.2 rfl) _)
theorem Bnd.block {p : Nat} {bad : Int} {p' : Nat} {bad' : Int} {ks : List Nd} {p2 : Nat} {bad2 : Int} (h : p ≤ p' ∧ (bad < 0 ∨ p' = p ∧ 0 ≤ bad') ∧ (bad' < 0 → 4 + sizesN ks ≤ 4 * (p' - p)) ∧ (0 ≤ bad' → 1 + sizesN ks ≤ 4 * (p' - p) + 1)) (hT : TakeR p' bad' p2 bad2) {op n : Int} {s : ByteArray} (ho : op ≠ 17) : Bnd 1 p bad p2 bad2 (.mk op s n ks) := by
  obtain ⟨h1, h2, h3, h4⟩ := h
  refine ⟨?_, ?_, fun h => ?_, fun h => ?_, fun e => absurd e ho⟩
  · rcases hT with ⟨a, b, e⟩ | ⟨e, b⟩ <;> omega
  · rcases h2 with h | h
    · exact .inl h
    · right
      rcases hT with ⟨a, b, e⟩ | ⟨e, b⟩ <;> omega
  · simp only [Nd.size]
    rcases hT with ⟨a, b, e⟩ | ⟨e, b⟩
    · have := h3 a; omega
    · omega
  · simp only [Nd.size]
    rcases hT with ⟨a, b, e⟩ | ⟨e, b⟩
    · omega
    · by_cases hb : bad' < 0
      · have := h3 hb; omega
      · have := h4 (by omega); omega
theorem sizes_app (l : List Nd) (x : Nd) : sizesN (l ++ [x]) = sizesN l + x.size := by
  induction l with
  | nil => simp [sizesN]
  | cons y l ih => simp only [List.cons_append, sizesN, ih]; omega
set_option maxHeartbeats 8000000 in
set_option maxRecDepth 100000 in
theorem l12Block_ok (c g cap : Nat) (ts : List Tok) (hts : TsOk ts) (m : Nat) (hU : POk 28 2 c g cap ts m) : POk 49 1 c g cap ts m := by
  intro w p bad h hm
  obtain ⟨i0, hi, hz0, hz1, hz2⟩ := info_parts infoNk
  have k0 : Kept w (w.alloc (.cells zeroN 26)) := Kept.alloc (Below.refl _ _) _
  have hC := l12Take_ok _ c g cap ts p bad (h.kept k0) hts ⟨#[123]⟩
  have HS : Hid (c < w.heap.size ∧ g < w.heap.size) := ⟨h.cur.lt, h.glt⟩
  have HU : Hid (POk 28 2 c g cap ts m) := hU
  have HT : Hid (TsOk ts) := hts
  have hlen := hts.len
  clear hU hts
  go_enter Try.func49, Try.ntmps49
  go_wp2_with (go_at_call 34; refine hC.mono ?_; rintro e w1 ⟨rfl, hk1, p1, bad1, hT1, hp1⟩)
  have L0 := LocR.first HS.out hk1 hp1 1
  have HL0 : Hid _ := L0
  have hB0 : p ≤ p1 ∧ (bad < 0 ∨ p1 = p ∧ 0 ≤ bad1) ∧ (bad1 < 0 → 4 + sizesN [] ≤ 4 * (p1 - p)) ∧ (0 ≤ bad1 → 1 + sizesN [] ≤ 4 * (p1 - p) + 1) := by
    simp only [sizesN]
    rcases hT1 with ⟨h1, h2, h3⟩ | ⟨h1, h2⟩ <;> omega
  clear L0 hp1 hk1 hC hT1
  go_loopg [] (2 * ts.length + 2) (fun gk wr => ∃ p' bad' va vc ks xs, 2 * (ts.length - p') + (if bad' < 0 then 1 else 0) ≤ gk ∧ Hid (LocR w wr c g cap ts p' bad' w1.heap.size 1 ⟨#[]⟩ (.slice va ks.length vc) ks xs) ∧ Hid (p ≤ p' ∧ (bad < 0 ∨ p' = p ∧ 0 ≤ bad') ∧ (bad' < 0 → 4 + sizesN ks ≤ 4 * (p' - p)) ∧ (0 ≤ bad' → 1 + sizesN ks ≤ 4 * (p' - p) + 1)))
  case atStart => exact ⟨p1, bad1, none, 0, [], [], by split <;> omega, HL0.out, hB0⟩
  case round =>
    obtain ⟨p', bad', va, vc, ks, xs, hgk, hL, hB⟩ := hrel
    clear HL0 hB0
    obtain ⟨x, hx⟩ : ∃ x, ts[p']? = some x := ⟨ts[p']'hL.out.pa.lt, List.getElem?_eq_getElem hL.out.pa.lt⟩
    have HG : Hid (∀ u s, Kept wr u → Calls Try.prog 38 #[.pointer (some ⟨c, 0, none⟩), .string s] u fun e w' => e = .returned (.bool (isT 4 x bad' s)) ∧ Kept u w') := fun u s hu => l12Sign_ok u c g cap ts p' bad' (hL.out.pa.kept hu) x hx s
    have HTk : Hid (∀ u, Kept wr u → Calls Try.prog 34 #[.pointer (some ⟨c, 0, none⟩), .string ⟨#[125]⟩] u fun e w' => e = .returned (.tuple #[]) ∧ Keeps c u w' ∧ ∃ p2 bad2, TakeR p' bad' p2 bad2 ∧ PaW w' c g cap ts p2 bad2) := fun u hu => l12Take_ok u c g cap ts p' bad' (hL.out.pa.kept hu) HT.out _
    have kz : Kept wr wr := Below.refl _ _
    have e2 := hL.out.pa.cur.cell 2
    simp at e2
    by_cases hb : bad' < 0
    · cases hi2 : isT 4 x bad' ⟨#[125]⟩ with
      | true =>
        go_wp2_with (first
          | (go_at_call 34; refine (HTk.out _ kz).mono ?_; rintro e w2 ⟨rfl, hk2, p2, bad2, hT2, hp2⟩; have L2 := (hL.out.kept kz).step hk2 hp2; have bx := L2.box; have c0 := bx.cell 0; have c1 := bx.cell 1; have c2 := bx.cell 2; have c3 := bx.cell 3; have rx := L2.res; have d0 := rx.cell 0; have d1 := rx.cell 1; have d2 := rx.cell 2; have d3 := rx.cell 3; have g0 := rx.frozen 0; have g1 := rx.frozen 1; have g2 := rx.frozen 2; have g3 := rx.frozen 3; have rl := rx.lt)
          | (go_at_call 38; refine (HG.out _ _ kz).mono ?_; rintro e wa ⟨rfl, k1⟩; have kz := Kept.trans kz k1))
        obtain ⟨r1, r2, r3, r4⟩ := (L2.loc (by decide)).done
        have z0 := r4.cell 0; have z1 := r4.cell 1; have z2 := r4.cell 2; have z3 := r4.cell 3
        exact bodyPost_ret (v := .agg #[.int .i64 1, .string ⟨#[]⟩, .int .i64 0, .slice va ks.length vc]) (by simp [results, Try.results49, go_sem, z0, z1, z2, z3]) rfl ⟨_, _, p2, bad2, rfl, r1, r2, r3, Bnd.block hB.out hT2 (by decide)⟩
      | false =>
        have hB3' := hB.out.2.2.1 hb
        have hll := len_sizes ks
        have hlt := hL.out.pa.lt
        have hgk2 : 2 * (ts.length - p') + 1 ≤ gk := by rw [if_pos hb] at hgk; exact hgk
        clear hgk
        go_upto_region 4 with (go_at_call 38; refine (HG.out _ _ kz).mono ?_; rintro e wa ⟨rfl, k1⟩; have kz := Kept.trans kz k1)
        have kd : Kept wr wa.drew := Below.drew kz
        have Ld := hL.out.kept kd
        have hA := HU.out wa.drew p' bad' Ld.pa (by have := hB.out.1; omega)
        have HLd : Hid (LocR w wa.drew c g cap ts p' bad' w1.heap.size 1 ⟨#[]⟩ (.slice va ks.length vc) ks xs) := Ld
        have D0 := Ld.box.cell 3
        simp at D0
        clear Ld e2 HG HTk
        go_wp2_with fail
        go_region_law (first
          | (refine step_callN (by rfl) (by go_simp; done) hA ?_; rintro e wx ⟨t3, v3, p3, bad3, rfl, ht3, hp3, hk3, hB3⟩; obtain ⟨op3, s3, n3, ao3, l3, cp3, rfl⟩ := ht3.four; refine ⟨_, rfl, ?_⟩; have Lx := HLd.out.step hk3 hp3; have Dx := Lx.box.cell 3; have La := Lx.kept (Kept.alloc (Below.refl _ wx) (.cells #[.int .i64 op3, .string s3, .int .i64 n3, .slice ao3 l3 cp3] 26)); have Da := La.box.cell 3)
          | (refine step_append_lies _ (by rfl) _ _ _ (by rfl) 0 26 i0 _ 4 56 Try.underlying24 hi hz0 hz1 hz2 rfl (by omega) (.slice va ks.length vc) ks.length xs (by rfl) La.row.1 ⟨wx.heap.size, 0, none⟩ 1 1 [.int .i64 op3, .string s3, .int .i64 n3, .slice ao3 l3 cp3] (by rfl) (by rfl) (news_of _ _ _) (by simp [Value.oneCell']) (by omega) (by unfold maxLen; omega) (by omega) (by omega) (wx.heap.size + 1) (by simp) ?_; intro gg cg w9 hown1 hgrow hat hlt9; have b9 : Cells w9 w1.heap.size 26 #[.int .i64 1, .string ⟨#[]⟩, .int .i64 0, .slice va ks.length vc] := (hgrow.block _ La.box.lt (fun e => (La.row.2.1 _ e.symm).2.2 rfl)).trans La.box; have dd := b9.cell 3; have ff := b9.frozen 3; have l9 := b9.lt))
        all_goals (
          go_wp2_with fail
          have hsz := hk3.size
          have hxl := HLd.out.box.lt
          have hxx := HLd.out.x
          have hrl := HLd.out.row.row.lt
          have ht4 : NdS (wx.alloc (.cells #[.int .i64 op3, .string s3, .int .i64 n3, .slice ao3 l3 cp3] 26)) (fun b => S0 w w1.heap.size b ∧ (Value.slice va ks.length vc).ownBlock ≠ some b) t3 (.agg #[.int .i64 op3, .string s3, .int .i64 n3, .slice ao3 l3 cp3]) := NdS.stay (Stays.kept (Kept.alloc (Below.refl _ _) _) _) _ _ (NdS.mono (fun b hb _ => ⟨⟨by omega, by omega, by omega⟩, fun e => by have := hrl b e; omega⟩) _ _ ht3)
          obtain ⟨xs', L9⟩ := La.app ht4 hown1 hgrow (hat.elim .inl (fun h => .inr (by rw [h]; simp [Value.ownBlock])))
          have hle3 := hB3.le
          have hB0 := hB.out
          go_roundg (2 * (ts.length - p3) + (if bad3 < 0 then 1 else 0))
          case measure =>
            split
            · have := (hB3.good (by assumption)).1; omega
            · omega
          case rel =>
            refine ⟨p3, bad3, _, cg, ks ++ [t3], xs', Nat.le_refl _, (by rw [Hid, List.length_append]; exact L9), ⟨by omega, ?_, fun h => ?_, fun h => ?_⟩⟩
            · rcases hB0.2.1 with h | h
              · exact .inl h
              · omega
            · have := hB3.good h
              rw [sizes_app]
              omega
            · have := hB3.wrong h
              rw [sizes_app]
              omega)
    · have hb2 : ¬ bad' < 0 := hb
      go_wp2_with (first
        | (go_at_call 34; refine (HTk.out _ kz).mono ?_; rintro e w2 ⟨rfl, hk2, p2, bad2, hT2, hp2⟩; have L2 := (hL.out.kept kz).step hk2 hp2; have bx := L2.box; have c0 := bx.cell 0; have c1 := bx.cell 1; have c2 := bx.cell 2; have c3 := bx.cell 3; have rx := L2.res; have d0 := rx.cell 0; have d1 := rx.cell 1; have d2 := rx.cell 2; have d3 := rx.cell 3; have g0 := rx.frozen 0; have g1 := rx.frozen 1; have g2 := rx.frozen 2; have g3 := rx.frozen 3; have rl := rx.lt)
        | (go_at_call 38; refine (HG.out _ _ kz).mono ?_; rintro e wa ⟨rfl, k1⟩; have kz := Kept.trans kz k1))
      obtain ⟨r1, r2, r3, r4⟩ := (L2.loc (by decide)).done
      have z0 := r4.cell 0; have z1 := r4.cell 1; have z2 := r4.cell 2; have z3 := r4.cell 3
      exact bodyPost_ret (v := .agg #[.int .i64 1, .string ⟨#[]⟩, .int .i64 0, .slice va ks.length vc]) (by simp [results, Try.results49, go_sem, z0, z1, z2, z3]) rfl ⟨_, _, p2, bad2, rfl, r1, r2, r3, Bnd.block hB.out hT2 (by decide)⟩
end Go.Proofs.Ytdcjfeihcafndaa
