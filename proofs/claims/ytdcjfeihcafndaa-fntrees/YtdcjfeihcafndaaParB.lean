/-
  Chapter 12's models, weakly told: what a function that parses leaves; products and sums.
-/
import Derived.Test.YtdcjfeihcafndaaParA
import Derived.Test.YtdcjfeihcafndaaParP
import Derived.Deep.LoopGhost
namespace Go.Proofs.Ytdcjfeihcafndaa
open Go.RowKit
set_option linter.unusedSimpArgs false
attribute [local go_sem] Plain.and7

/-- What is an NdGet has a kid. -/
def Nd.getOk : Nd → Prop
  | .mk op _ _ ks => op = 17 → ks ≠ []
/-- How great a tree is that was parsed from p to p'. -/
structure Bnd (k : Nat) (p : Nat) (bad : Int) (p' : Nat) (bad' : Int) (t : Nd) : Prop where
  le : p ≤ p'
  stop : bad < 0 ∨ (p' = p ∧ 0 ≤ bad')
  good : bad' < 0 → p < p' ∧ t.size ≤ 4 * (p' - p)
  wrong : 0 ≤ bad' → t.size ≤ 4 * (p' - p) + k
  get : t.getOk
abbrev zeroN : Array Value := #[.int .i64 0, .string ⟨#[]⟩, .int .i64 0, .slice none 0 0]
abbrev set4 (W : World) (B : Nat) (a b c d : Value) : World := (((W.setCell ⟨B, 0, none⟩ a).setCell ⟨B, 1, none⟩ b).setCell ⟨B, 2, none⟩ c).setCell ⟨B, 3, none⟩ d
def POk (F : FuncId) (k : Nat) (c g cap : Nat) (ts : List Tok) (m : Nat) : Prop := ∀ w p bad, PaW w c g cap ts p bad → ts.length - p ≤ m →
  Calls Try.prog F #[.pointer (some ⟨c, 0, none⟩)] w fun e w' => ∃ t v p' bad', e = .returned v ∧ NdS w' (fun b => w.heap.size ≤ b) t v ∧ PaW w' c g cap ts p' bad' ∧ Keeps c w w' ∧ Bnd k p bad p' bad' t
theorem Cells.put4 {W : World} {B : Nat} {t : TypeId} {x y z u : Value} (h : Cells W B t #[x, y, z, u]) (a b c d : Value) : Cells (set4 W B a b c d) B t #[a, b, c, d] := (((h.set 0 a).set 1 b).set 2 c).set 3 d
theorem Stays.set4 {S : Nat → Prop} {A B : World} (h : Stays S A B) {X : Nat} (hX : ¬ S X) (a b c d : Value) : Stays S A (set4 B X a b c d) := (((h.set hX a).set hX b).set hX c).set hX d
theorem Keeps.set4 {c : Nat} {a w : World} (h : Keeps c a w) {X : Nat} (hX : a.heap.size ≤ X) (x y z u : Value) : Keeps c a (set4 w X x y z u) := (((h.setNew hX x).setNew hX y).setNew hX z).setNew hX u
theorem PaW.set4 {w : World} {c g cap : Nat} {ts : List Tok} {p : Nat} {bad : Int} {X : Nat} {x y z u : Value} (h : PaW w c g cap ts p bad) (hc : X ≠ c) (hg : X ≠ g) : PaW (set4 w X x y z u) c g cap ts p bad := by
  have hs : Stays (fun b => b ≠ X) w (Go.Proofs.Ytdcjfeihcafndaa.set4 w X x y z u) := (Stays.refl _ w).set4 (by simp) x y z u
  refine ⟨(hs.block c (Ne.symm hc) h.cur.lt).trans h.cur, fun i t ht => ?_, h.ne, h.lt, h.lo, h.hi⟩
  obtain ⟨h0, h1, h2, h3⟩ := h.row i t ht
  exact ⟨hs.cell (p := ⟨g, i * 4, none⟩) (Ne.symm hg) h0, hs.cell (p := ⟨g, i * 4 + 1, none⟩) (Ne.symm hg) h1, hs.cell (p := ⟨g, i * 4 + 2, none⟩) (Ne.symm hg) h2, hs.cell (p := ⟨g, i * 4 + 3, none⟩) (Ne.symm hg) h3⟩
theorem PaW.glt {w : World} {c g cap : Nat} {ts : List Tok} {p : Nat} {bad : Int} (h : PaW w c g cap ts p bad) : g < w.heap.size := by
  have hl := h.lt
  obtain ⟨h0, _⟩ := h.row p (ts[p]'hl) (List.getElem?_eq_getElem hl)
  exact World.block_lt_of_cell? _ _ h0
/-- Within a function: the box of the result, the box X of a tree, the cursor. -/
structure Loc (w wr : World) (c g cap : Nat) (ts : List Tok) (p : Nat) (bad : Int) (X : Nat) (t : Nd) (a0 a1 a2 a3 : Value) : Prop where
  start : c < w.heap.size ∧ g < w.heap.size
  keeps : Keeps c w wr
  pa : PaW wr c g cap ts p bad
  res : Cells wr w.heap.size 26 zeroN
  box : Cells wr X 26 #[a0, a1, a2, a3]
  x : w.heap.size < X
  tree : NdS wr (fun b => w.heap.size ≤ b ∧ b ≠ w.heap.size ∧ b ≠ X) t (.agg #[a0, a1, a2, a3])
theorem Loc.step {w wr wr' : World} {c g cap : Nat} {ts : List Tok} {p p' : Nat} {bad bad' : Int} {X : Nat} {t : Nd} {a0 a1 a2 a3 : Value} (h : Loc w wr c g cap ts p bad X t a0 a1 a2 a3) (hk : Keeps c wr wr') (hp : PaW wr' c g cap ts p' bad') : Loc w wr' c g cap ts p' bad' X t a0 a1 a2 a3 :=
  ⟨h.start, h.keeps.trans hk, hp, h.res.keeps hk (by have := h.start.1; omega), h.box.keeps hk (by have := h.start.1; have := h.x; omega), h.x, NdS.stay (Stays.keeps hk (by intro h2; have := h.start.1; omega)) _ _ h.tree⟩
theorem Loc.kept {w wr wr' : World} {c g cap : Nat} {ts : List Tok} {p : Nat} {bad : Int} {X : Nat} {t : Nd} {a0 a1 a2 a3 : Value} (h : Loc w wr c g cap ts p bad X t a0 a1 a2 a3) (hk : Kept wr wr') : Loc w wr' c g cap ts p bad X t a0 a1 a2 a3 := h.step hk.keeps (h.pa.kept hk)
/-- The first tree, put into a box of its own. -/
theorem Loc.first {w w1 : World} {c g cap : Nat} {ts : List Tok} {p : Nat} {bad : Int} {t : Nd} {a0 a1 a2 a3 : Value} (hs : c < w.heap.size ∧ g < w.heap.size) (hk : Keeps c (w.alloc (.cells zeroN 26)) w1) (hp : PaW w1 c g cap ts p bad) (ht : NdS w1 (fun b => (w.alloc (.cells zeroN 26)).heap.size ≤ b) t (.agg #[a0, a1, a2, a3])) :
    Loc w (w1.alloc (.cells #[a0, a1, a2, a3] 26)) c g cap ts p bad w1.heap.size t a0 a1 a2 a3 := by
  have k1 : Kept w1 (w1.alloc (.cells #[a0, a1, a2, a3] 26)) := Kept.alloc (Below.refl _ _) _
  have hz := hk.size
  simp only [World.size_alloc] at hz ht
  refine ⟨hs, ((Kept.alloc (Below.refl _ w) _).keeps.trans hk).alloc _, hp.kept k1, ((Cells.new w _ _).keeps hk (by omega)).kept k1, Cells.new w1 _ _, by omega, ?_⟩
  exact NdS.stay (Stays.kept k1 _) _ _ (NdS.mono (fun b hb hl => ⟨by omega, by omega, by omega⟩) _ _ ht)
/-- Another tree is put into the box. -/
theorem Loc.put {w wr : World} {c g cap : Nat} {ts : List Tok} {p : Nat} {bad : Int} {X : Nat} {t t' : Nd} {a0 a1 a2 a3 b0 b1 b2 b3 : Value} (h : Loc w wr c g cap ts p bad X t a0 a1 a2 a3) (ht : NdS wr (fun b => w.heap.size ≤ b ∧ b ≠ w.heap.size ∧ b ≠ X) t' (.agg #[b0, b1, b2, b3])) : Loc w (set4 wr X b0 b1 b2 b3) c g cap ts p bad X t' b0 b1 b2 b3 := by
  have hx := h.x
  have h1 := h.start
  have hs : Stays (fun b => b ≠ X) wr (set4 wr X b0 b1 b2 b3) := (Stays.refl _ wr).set4 (by simp) _ _ _ _
  exact ⟨h1, h.keeps.set4 (by omega) _ _ _ _, h.pa.set4 (by omega) (by omega), (hs.block _ (by omega) h.res.lt).trans h.res, h.box.put4 _ _ _ _, hx, NdS.stay (hs.mono (fun b hb => hb.2.2)) _ _ ht⟩
/-- What is returned. -/
theorem Loc.done {w wr : World} {c g cap : Nat} {ts : List Tok} {p : Nat} {bad : Int} {X : Nat} {t : Nd} {a0 a1 a2 a3 : Value} (h : Loc w wr c g cap ts p bad X t a0 a1 a2 a3) : NdS (set4 wr w.heap.size a0 a1 a2 a3) (fun b => w.heap.size ≤ b) t (.agg #[a0, a1, a2, a3]) ∧ PaW (set4 wr w.heap.size a0 a1 a2 a3) c g cap ts p bad ∧ Keeps c w (set4 wr w.heap.size a0 a1 a2 a3) ∧ Cells (set4 wr w.heap.size a0 a1 a2 a3) w.heap.size 26 #[a0, a1, a2, a3] := by
  have h1 := h.start
  have hs : Stays (fun b => b ≠ w.heap.size) wr (set4 wr w.heap.size a0 a1 a2 a3) := (Stays.refl _ wr).set4 (by simp) _ _ _ _
  refine ⟨NdS.mono (fun b hb _ => hb.1) _ _ (NdS.stay (hs.mono (fun b hb => hb.2.1)) _ _ h.tree), h.pa.set4 (by omega) (by omega), h.keeps.set4 (Nat.le_refl _) _ _ _ _, h.res.put4 _ _ _ _⟩
/-- A node of two trees, of one. -/
theorem NdS.two {W : World} {S : Nat → Prop} {t1 t2 : Nd} {a0 a1 a2 a3 b0 b1 b2 b3 : Value} (h1 : NdS W S t1 (.agg #[a0, a1, a2, a3])) (h2 : NdS W S t2 (.agg #[b0, b1, b2, b3])) (hg : S W.heap.size) (op n : Int) (s : ByteArray) (hs : s.size ≤ maxLen) : NdS (W.alloc (.cells #[a0, a1, a2, a3, b0, b1, b2, b3] 26)) S (.mk op s n [t1, t2]) (.agg #[.int .i64 op, .string s, .int .i64 n, .slice (some ⟨W.heap.size, 0, none⟩) 2 2]) := by
  have k1 : Kept W (W.alloc (.cells #[a0, a1, a2, a3, b0, b1, b2, b3] 26)) := Kept.alloc (Below.refl _ _) _
  have z := Cells.new W 26 #[a0, a1, a2, a3, b0, b1, b2, b3]
  rw [NdS]
  refine ⟨_, 2, rfl, ⟨hs, by unfold maxLen; simp⟩, .inr ⟨_, 0, rfl, hg, NdsS.of ⟨_, _, z⟩ (fun i t ht => ?_)⟩⟩
  match i, ht with
  | 0, ht => simp at ht; subst ht; exact ⟨_, _, _, _, z.cell 0, z.cell 1, z.cell 2, z.cell 3, NdS.stay (Stays.kept k1 _) _ _ h1⟩
  | 1, ht => simp at ht; subst ht; exact ⟨_, _, _, _, z.cell 4, z.cell 5, z.cell 6, z.cell 7, NdS.stay (Stays.kept k1 _) _ _ h2⟩
  | n + 2, ht => simp at ht
theorem NdS.one {W : World} {S : Nat → Prop} {t1 : Nd} {a0 a1 a2 a3 : Value} (h1 : NdS W S t1 (.agg #[a0, a1, a2, a3])) (hg : S W.heap.size) (op n : Int) (s : ByteArray) (hs : s.size ≤ maxLen) : NdS (W.alloc (.cells #[a0, a1, a2, a3] 26)) S (.mk op s n [t1]) (.agg #[.int .i64 op, .string s, .int .i64 n, .slice (some ⟨W.heap.size, 0, none⟩) 1 1]) := by
  have k1 : Kept W (W.alloc (.cells #[a0, a1, a2, a3] 26)) := Kept.alloc (Below.refl _ _) _
  have z := Cells.new W 26 #[a0, a1, a2, a3]
  rw [NdS]
  refine ⟨_, 1, rfl, ⟨hs, by unfold maxLen; simp⟩, .inr ⟨_, 0, rfl, hg, NdsS.of ⟨_, _, z⟩ (fun i t ht => ?_)⟩⟩
  match i, ht with
  | 0, ht => simp at ht; subst ht; exact ⟨_, _, _, _, z.cell 0, z.cell 1, z.cell 2, z.cell 3, NdS.stay (Stays.kept k1 _) _ _ h1⟩
  | n + 1, ht => simp at ht
theorem Bnd.two {p : Nat} {bad : Int} {p1 : Nat} {bad1 : Int} {t1 : Nd} {p2 : Nat} {bad2 : Int} {t2 : Nd} (h1 : Bnd 1 p bad p1 bad1 t1) (hb : bad1 < 0) (h2 : Bnd 1 (p1 + 1) bad1 p2 bad2 t2) (op n : Int) (s : ByteArray) : Bnd 1 p bad p2 bad2 (.mk op s n [t1, t2]) := by
  have a := h1.good hb
  have l2 := h2.le
  refine ⟨by omega, ?_, fun h => ?_, fun h => ?_, fun _ => by simp⟩
  · rcases h1.stop with h | h
    · exact .inl h
    · omega
  · have := h2.good h
    simp only [Nd.size, sizesN]
    omega
  · have := h2.wrong h
    simp only [Nd.size, sizesN]
    omega
set_option maxHeartbeats 8000000 in
set_option maxRecDepth 100000 in
theorem l12Product_ok (c g cap : Nat) (ts : List Tok) (hts : TsOk ts) (m : Nat) (hU : POk 52 1 c g cap ts m) : POk 51 1 c g cap ts m := by
  intro w p bad h hm
  have k0 : Kept w (w.alloc (.cells zeroN 26)) := Kept.alloc (Below.refl _ _) _
  have hC := hU _ p bad (h.kept k0) hm
  have HS : Hid (c < w.heap.size ∧ g < w.heap.size) := ⟨h.cur.lt, h.glt⟩
  have HU : Hid (POk 52 1 c g cap ts m) := hU
  have HT : Hid (TsOk ts) := hts
  clear hU hts
  go_enter Try.func51, Try.ntmps51
  go_wp2_with (go_at_call 52; refine hC.mono ?_; rintro e w1 ⟨t1, v1, p1, bad1, rfl, ht1, hp1, hk1, hB1⟩; obtain ⟨op1, s1, n1, ao1, l1, cp1, rfl⟩ := ht1.four)
  have L0 := Loc.first HS.out hk1 hp1 ht1
  have HL0 : Hid _ := L0
  clear L0 hp1 hk1 ht1 hC
  go_loopg [] ts.length (fun gk wr => ∃ p' bad' t op s n ao l cp, ts.length - p' ≤ gk ∧ Hid (Loc w wr c g cap ts p' bad' w1.heap.size t (.int .i64 op) (.string s) (.int .i64 n) (.slice ao l cp)) ∧ Hid (Bnd 1 p bad p' bad' t))
  case atStart => exact ⟨_, _, _, _, _, _, _, _, _, by omega, HL0.out, hB1⟩
  case round =>
    obtain ⟨p', bad', t, op, s, n, ao, l, cp, hgk, hL, hB⟩ := hrel
    clear HL0 hB1
    obtain ⟨x, hx⟩ : ∃ x, ts[p']? = some x := ⟨ts[p']'hL.out.pa.lt, List.getElem?_eq_getElem hL.out.pa.lt⟩
    have HG := l12Sign_ok wr c g cap ts p' bad' hL.out.pa x hx ⟨#[42]⟩
    have hlt := hL.out.pa.lt
    cases hi : isT 4 x bad' ⟨#[42]⟩ with
    | true =>
      rw [hi] at HG
      obtain ⟨hb, hk⟩ := isT_yes hi
      have hn : p' + 1 < ts.length := HT.out.next hx (by rw [hk]; decide)
      have hle := hB.out.le
      clear hi hk
      go_wp2_with (first
        | (have g := L3; go_at_call 39; refine (l12Node_ok _ _ _ _ _).mono ?_; rintro e w5 ⟨rfl, k5⟩; have L5 := L4.kept k5; have bx := L5.box; have c0 := bx.cell 0; have c1 := bx.cell 1; have c2 := bx.cell 2; have c3 := bx.cell 3; have f0 := bx.frozen 0; have f1 := bx.frozen 1; have f2 := bx.frozen 2; have f3 := bx.frozen 3)
        | (have g := L2; go_at_call 52; refine (HU.out _ _ _ L2.pa (by omega)).mono ?_; rintro e w3 ⟨t3, v3, p3, bad3, rfl, ht3, hp3, hk3, hB3⟩; obtain ⟨op3, s3, n3, ao3, l3, cp3, rfl⟩ := ht3.four; have L3 := L2.step hk3 hp3; have bx := L3.box; have c0 := bx.cell 0; have c1 := bx.cell 1; have c2 := bx.cell 2; have c3 := bx.cell 3; have l0 := bx.lt; have L4 := L3.kept (Kept.alloc (Kept.alloc (Below.refl _ w3) (.cells #[.int .i64 op3, .string s3, .int .i64 n3, .slice ao3 l3 cp3] 26)) (.cells #[.int .i64 op, .string s, .int .i64 n, .slice ao l cp, .int .i64 op3, .string s3, .int .i64 n3, .slice ao3 l3 cp3] 26)))
        | (have g := k1; go_at_call 32; refine (l12Next_ok _ c _ cap ts p' bad' (hL.out.kept k1).pa HT.out).mono ?_; rintro e w2 ⟨rfl, k2, h2⟩; rw [if_pos hn] at h2; have L2 := (hL.out.kept k1).step k2 h2)
        | (go_at_call 38; refine HG.mono ?_; rintro e wa ⟨rfl, k1⟩))
      have kb : Kept w3 (w3.alloc (.cells #[.int .i64 op3, .string s3, .int .i64 n3, .slice ao3 l3 cp3] 26)) := Kept.alloc (Below.refl _ _) _
      have hx1 := L2.box.lt
      have hx2 := L2.x
      have hsz := hk3.size
      have ht4 : NdS (w3.alloc (.cells #[.int .i64 op3, .string s3, .int .i64 n3, .slice ao3 l3 cp3] 26)) (fun b => w.heap.size ≤ b ∧ b ≠ w.heap.size ∧ b ≠ w1.heap.size) t3 _ := NdS.mono (fun b hb _ => ⟨by omega, by omega, by omega⟩) _ _ (NdS.stay (Stays.kept kb _) _ _ ht3)
      have hN := NdS.two (L3.kept kb).tree ht4 (by simp only [World.size_alloc]; omega) 21 0 ⟨#[]⟩ (by decide)
      simp only [World.size_alloc] at hN
      have L6 := L5.put (NdS.stay (Stays.kept k5 _) _ _ hN)
      have hle3 := hB3.le
      go_roundg (ts.length - p3)
      case measure => omega
      case rel => exact ⟨p3, bad3, _, _, _, _, _, _, _, Nat.le_refl _, L6, hB.out.two hb hB3 21 0 ⟨#[]⟩⟩
    | false =>
      rw [hi] at HG
      clear hi
      go_wp2_with (go_at_call 38; refine HG.mono ?_; rintro e wa ⟨rfl, k1⟩; have L1 := hL.out.kept k1; have bx := L1.box; have c0 := bx.cell 0; have c1 := bx.cell 1; have c2 := bx.cell 2; have c3 := bx.cell 3; have rx := L1.res; have d0 := rx.cell 0; have d1 := rx.cell 1; have d2 := rx.cell 2; have d3 := rx.cell 3; have f0 := rx.frozen 0; have f1 := rx.frozen 1; have f2 := rx.frozen 2; have f3 := rx.frozen 3)
      obtain ⟨r1, r2, r3, r4⟩ := L1.done
      have z0 := r4.cell 0; have z1 := r4.cell 1; have z2 := r4.cell 2; have z3 := r4.cell 3
      exact bodyPost_ret (v := .agg #[.int .i64 op, .string s, .int .i64 n, .slice ao l cp]) (by simp [results, Try.results51, go_sem, z0, z1, z2, z3]) rfl ⟨t, _, p', bad', rfl, r1, r2, r3, hB.out⟩
end Go.Proofs.Ytdcjfeihcafndaa
