/-
  The knot of chapter 13's models l13Expr, l13Stmt, l13Block; spec.Write exactly.
-/
import Derived.Test.YtejpjbfmjmfnmaaGreatDoorGrpWt
import Derived.Test.YtejpjbfmjmfnmaaGreatDoorGrpOk
namespace Go.Proofs.YtejpjbfmjmfnmaaGreatDoor
open Go.RowKit
set_option linter.unusedSimpArgs false

/-- spec.l13Expr, of exprs and blocks that are smaller. -/
theorem l13Expr_step (m : Nat) (H : TxEx m) (HBk : TxBk m) : TxEx (m + 1) := by
  intro t ht h200 hb hok hst w base v hv
  cases t with
  | mk op s n ks =>
  have hst : st op = 3 := hst
  have ho := (st_op (op := op)).2.2.1.1 hst
  obtain ⟨hown, hc, hkk⟩ := okT_parts hok
  simp only [Nd.size, Nd.bulk] at ht h200 hb
  have hk := (okK_iffT ks 0).1 hkk
  have part : ∀ j x, ks[j]? = some x → okT x = true ∧ st x.op = wantAt op j ∧ x.size ≤ m ∧ x.size ≤ 200 ∧ x.bulk ≤ 1048576 := fun j x hx => by
    have h := hk j x hx
    rw [Nat.zero_add] at h
    unfold stOk at h
    rw [Bool.and_eq_true, decide_eq_true_eq] at h
    have h1 := size_mem hx
    have h2 := bulk_mem hx
    exact ⟨h.2, h.1, by omega, by omega, by omega⟩
  have hs : s.size ≤ 1048576 := by omega
  have zero : ∀ k, (op = k ∧ (k = 10 ∨ k = 11 ∨ k = 12 ∨ k = 13 ∨ k = 14 ∨ k = 15 ∨ k = 16)) → ks = [] := fun k h => by
    have h1 : ks.length = 0 := by
      obtain ⟨rfl, h | h | h | h | h | h | h⟩ := h <;> subst h <;> simpa [countB, one1, two2] using hc
    exact List.length_eq_zero_iff.1 h1
  have one : ∀ k, (op = k ∧ (k = 17 ∨ k = 24 ∨ k = 27)) → ∃ x, ks = [x] := fun k h => by
    have h1 : ks.length = 1 := by
      obtain ⟨rfl, h | h | h⟩ := h <;> subst h <;> simpa [countB, one1] using hc
    match ks, h1 with
    | [x], _ => exact ⟨x, rfl⟩
  have two : ∀ k, (op = k ∧ (k = 19 ∨ k = 20 ∨ k = 21 ∨ k = 22 ∨ k = 23)) → ∃ x y, ks = [x, y] := fun k h => by
    have h1 : ks.length = 2 := by
      obtain ⟨rfl, h | h | h | h | h⟩ := h <;> subst h <;> simpa [countB, one1, two2] using hc
    match ks, h1 with
    | [x, y], _ => exact ⟨x, y, rfl⟩
  have hall := okK_all ks 0 hkk
  rcases (show op = 10 ∨ op = 11 ∨ op = 12 ∨ op = 13 ∨ op = 14 ∨ op = 15 ∨ op = 16 ∨ op = 17 ∨ op = 18 ∨ op = 19 ∨ op = 20 ∨ op = 21 ∨ op = 22 ∨ op = 23 ∨ op = 24 ∨ op = 25 ∨ op = 27 by omega) with rfl | rfl | rfl | rfl | rfl | rfl | rfl | rfl | rfl | rfl | rfl | rfl | rfl | rfl | rfl | rfl | rfl
  · obtain rfl := zero 10 (by decide)
    exact ex13_10 s n (own_num hown rfl) w base v hv
  · obtain rfl := zero 11 (by decide)
    exact ex13_11 s n hs w base v hv
  · obtain rfl := zero 12 (by decide)
    exact ex13_12 s n hs w base v hv
  · obtain rfl := zero 13 (by decide)
    exact ex13_13 s n hs w base v hv
  · obtain rfl := zero 14 (by decide)
    exact ex13_14 s n hs w base v hv
  · obtain rfl := zero 15 (by decide)
    exact ex13_15 s n hs w base v hv
  · obtain rfl := zero 16 (by decide)
    exact ex13_16 s n hs w base v hv
  · obtain ⟨x, rfl⟩ := one 17 (by decide)
    obtain ⟨a1, a2, a3, a4, a5⟩ := part 0 x rfl
    exact ex13_17 m H s n x a3 a4 a5 hs a1 a2 w base v hv
  · have h1 : 1 ≤ ks.length := by simpa [countB, one1, two2] using hc
    obtain ⟨x, hx⟩ : ∃ x, ks[0]? = some x := ⟨_, List.getElem?_eq_getElem (by omega)⟩
    exact ex13_18 m H s n x ks hx ht h200 hb hall (fun k hk' => by
      obtain ⟨j, hj⟩ := List.getElem?_of_mem hk'
      exact (part j k hj).2.1) w base v hv
  · obtain ⟨x, y, rfl⟩ := two 19 (by decide)
    obtain ⟨a1, a2, a3, a4, a5⟩ := part 0 x rfl
    obtain ⟨b1, b2, b3, b4, b5⟩ := part 1 y rfl
    exact ex13_19 m H s n x y a3 a4 a5 b3 b4 b5 a1 b1 a2 b2 w base v hv
  · obtain ⟨x, y, rfl⟩ := two 20 (by decide)
    obtain ⟨a1, a2, a3, a4, a5⟩ := part 0 x rfl
    obtain ⟨b1, b2, b3, b4, b5⟩ := part 1 y rfl
    exact ex13_20 m H s n x y a3 a4 a5 b3 b4 b5 a1 b1 a2 b2 w base v hv
  · obtain ⟨x, y, rfl⟩ := two 21 (by decide)
    obtain ⟨a1, a2, a3, a4, a5⟩ := part 0 x rfl
    obtain ⟨b1, b2, b3, b4, b5⟩ := part 1 y rfl
    exact ex13_21 m H s n x y a3 a4 a5 b3 b4 b5 a1 b1 a2 b2 w base v hv
  · obtain ⟨x, y, rfl⟩ := two 22 (by decide)
    obtain ⟨a1, a2, a3, a4, a5⟩ := part 0 x rfl
    obtain ⟨b1, b2, b3, b4, b5⟩ := part 1 y rfl
    exact ex13_22 m H s n x y a3 a4 a5 b3 b4 b5 a1 b1 a2 b2 w base v hv
  · obtain ⟨x, y, rfl⟩ := two 23 (by decide)
    obtain ⟨a1, a2, a3, a4, a5⟩ := part 0 x rfl
    obtain ⟨b1, b2, b3, b4, b5⟩ := part 1 y rfl
    exact ex13_23 m H s n x y a3 a4 a5 b3 b4 b5 a1 b1 a2 b2 w base v hv
  · obtain ⟨x, rfl⟩ := one 24 (by decide)
    obtain ⟨a1, a2, a3, a4, a5⟩ := part 0 x rfl
    exact ex13_24 m H s n x a3 a4 a5 hs a1 a2 w base v hv
  · exact ex13_25 m H s n ks ht h200 hb hall (fun k hk' => by
      obtain ⟨j, hj⟩ := List.getElem?_of_mem hk'
      exact (part j k hj).2.1) w base v hv
  · obtain ⟨x, rfl⟩ := one 27 (by decide)
    obtain ⟨a1, a2, a3, a4, a5⟩ := part 0 x rfl
    exact ex13_27 m HBk s n x a3 a4 a5 hs a1 ((st_op (op := x.op)).1.1 a2) w base v hv
theorem wtKnot : ∀ m, TxEx m ∧ TxBk m ∧ TxSt m
  | 0 => by
    have h0 : ∀ t : Nd, ¬ t.size ≤ 0 := fun t => by cases t; simp [Nd.size]
    exact ⟨fun t h => absurd h (h0 t), fun t h => absurd h (h0 t), fun t h => absurd h (h0 t)⟩
  | m + 1 => by
    obtain ⟨h1, h2, h3⟩ := wtKnot m
    exact ⟨l13Expr_step m h1 h2, fun t a b c d e w base v hv => l13Block_ok m h3 t a b c d e w base v hv, l13Stmt_step m h1 h2⟩
set_option maxHeartbeats 16000000 in
set_option maxRecDepth 100000 in
theorem spec_Write_ok (t : Nd) (hb : t.bulk ≤ 1048576) (w : World) (base : Nat) (v : Value) (hv : NdV w base t v) :
    Calls Tryz.prog 6 #[v] w fun e w' => e = .returned (.string (writeR t)) ∧ Kept w w' := by
  have hNO := fun u (hu : Kept w u) => spec_NodeOk_ok t hb u base v (hv.kept hu)
  cases t with
  | mk op s n ks =>
  rw [NdV] at hv
  obtain ⟨ao, cap, rfl, hml, hks⟩ := hv
  have b0 := Cells.new w 29 #[.int .i64 op, .string s, .int .i64 n, .slice ao ks.length cap]
  have k0 : Kept w (w.alloc (.cells #[.int .i64 op, .string s, .int .i64 n, .slice ao ks.length cap] 29)) := Kept.alloc (Below.refl _ _) _
  have hN1 := hNO _ k0
  have c0 := b0.cell 0; have c1 := b0.cell 1; have c2 := b0.cell 2; have c3 := b0.cell 3
  clear hNO
  cases hr : nodeR (.mk op s n ks) with
  | false =>
    have HR : Hid (writeR (.mk op s n ks) = ⟨#[]⟩) := by rw [Hid, writeR, hr]; rfl
    rw [hr] at hN1
    clear hr hks hml
    go_enter Tryz.func6, Tryz.ntmps6
    go_wp2_with (go_at_call 17; refine hN1.mono ?_; rintro e w1 ⟨rfl, hk1⟩)
    go_ret
    exact ⟨by rw [HR.out]; rfl, k0.trans hk1⟩
  | true =>
    have HR : Hid (writeR (.mk op s n ks) = linesT (ks.map wT)) := by rw [Hid, writeR, hr]; rfl
    rw [hr] at hN1
    unfold nodeR at hr
    simp only [Bool.and_eq_true, decide_eq_true_eq] at hr
    obtain ⟨h1, _, h200, hok⟩ := hr
    have h1 : op = 1 := h1
    subst h1
    obtain ⟨_, _, hkk⟩ := okT_parts hok
    have hall := okK_all ks 0 hkk
    have hst : ∀ k ∈ ks, st k.op = 2 := fun k hk => by
      have h := okK_const (op := 1) (a := 2) (fun _ => rfl) ks 0
      rw [h, List.all_eq_true] at hkk
      have := hkk k hk
      unfold stOk at this
      rw [Bool.and_eq_true, decide_eq_true_eq] at this
      exact this.1
    simp only [Nd.size, Nd.bulk] at h200 hb
    have HKS : Hid (ks = [] ∨ ∃ b off, ao = some ⟨b, off, none⟩ ∧ base ≤ b ∧ NdsV w base b off ks) := hks
    have HH : Hid (TxSt 200) := (wtKnot 200).2.2
    have HALL : Hid (∀ k ∈ ks, okT k = true) := hall
    have HST : Hid (∀ k ∈ ks, st k.op = 2) := hst
    have hll := len_sizes ks
    have hsum := sum_map hall
    have HB : Hid (∀ k, (linesT ((ks.take k).map wT)).size ≤ 4000000) := fun k => by
      have h2 : ∀ (l : List Nd) (j : Nat), sumT ((l.take j).map wT) ≤ sumT (l.map wT) := by
        intro l
        induction l with
        | nil => intro j; simp
        | cons x l ih => intro j; cases j with
          | zero => simp [sumT]
          | succ j => have := ih j; simp only [List.take_succ_cons, List.map_cons, sumT]; omega
      rw [lines_size, List.length_map, List.length_take]
      have := h2 ks k
      omega
    clear hks hml hall hst hkk hok
    go_enter Tryz.func6, Tryz.ntmps6
    go_wp2_with (go_at_call 17; refine hN1.mono ?_; rintro e w1 ⟨rfl, hk1⟩)
    clear c0 c1 c2 c3
    have b1 := b0.kept hk1
    have k1 := k0.trans hk1
    clear b0 k0 hk1 hN1
    go_loopw [3, 4] (fun ov iv wr => ∃ (k : Nat), iv = .int .i64 k ∧ k ≤ ks.length ∧ ov = .string (linesT ((ks.take k).map wT)) ∧ Hid (Kept w1 wr)) (fun _ i _ => ks.length - (intOf i).toNat)
    case atStart => exact ⟨0, rfl, Nat.zero_le _, rfl, Below.refl _ _⟩
    case round =>
      obtain ⟨k, rfl, hk, rfl, hK⟩ := hrel
      have c3 := (b1.kept hK.out).cell 3
      have hO := HB.out k
      by_cases hlt : k < ks.length
      · have q1 : (k : Int) < (ks.length : Int) := by omega
        have q2 : (k : Int) + 1 ≤ 9223372036854775807 := by omega
        obtain ⟨x, hx⟩ : ∃ x, ks[k]? = some x := ⟨ks[k], List.getElem?_eq_getElem hlt⟩
        have hxs := size_mem hx
        have hxb := bulk_mem hx
        have hxm := List.mem_of_getElem? hx
        obtain ⟨b, off, a2, cq, rfl, g0, g1, g2, g3, hv⟩ := kid_at HKS.out (k1.trans hK.out) hx
        have hC := HH.out x (by omega) (by omega) (by omega) (HALL.out x hxm) (HST.out x hxm) wr base _ hv
        have hO1 := HB.out (k + 1)
        have HN : Hid (linesT ((ks.take k).map wT) ++ (wT x ++ ⟨#[10]⟩) = linesT ((ks.take (k + 1)).map wT)) := by
          rw [Hid, take_snoc hx, lines_snoc]
        rw [take_snoc hx, lines_snoc, ByteArray.size_append] at hO1
        obtain ⟨O, hOO⟩ : ∃ O, linesT ((ks.take k).map wT) = O := ⟨_, rfl⟩
        obtain ⟨X, hX⟩ : ∃ X, wT x ++ ⟨#[10]⟩ = X := ⟨_, rfl⟩
        rw [hX, hOO] at hO1
        rw [hX] at hC
        rw [hOO] at hO
        rw [hOO, hX] at HN
        simp only [hOO]
        have q3 : ¬ 9223372036854775807 < O.size + X.size := by omega
        obtain ⟨xo, hxo⟩ : ∃ o, x.op = o := ⟨_, rfl⟩
        obtain ⟨xs, hxs'⟩ : ∃ o, x.s = o := ⟨_, rfl⟩
        obtain ⟨xn, hxn⟩ : ∃ o, x.n = o := ⟨_, rfl⟩
        obtain ⟨xl, hxl⟩ : ∃ o, x.kids.length = o := ⟨_, rfl⟩
        rw [hxo, hxs', hxn, hxl] at hC
        rw [hxo] at g0
        rw [hxs'] at g1
        rw [hxn] at g2
        rw [hxl] at g3
        clear hx hxs hxb hxm hv hO hO1 hOO hX hxo hxs' hxn hxl
        go_wp2_with (go_at_call 18; refine hC.mono ?_; rintro e w2 ⟨rfl, hk2⟩)
        exact ⟨⟨k + 1, by go_num, by omega, by rw [HN.out], hK.out.trans hk2⟩, by simp [intOf]; omega⟩
      · have q1 : ¬ (k : Int) < (ks.length : Int) := by omega
        have HF : Hid (writeR (.mk 1 s n ks) = linesT ((ks.take k).map wT)) := by
          rw [Hid, HR.out, List.take_of_length_le (by omega)]
        obtain ⟨O, hOO⟩ : ∃ O, linesT ((ks.take k).map wT) = O := ⟨_, rfl⟩
        rw [hOO] at HF
        simp only [hOO]
        clear hOO hO
        go_wp2_with fail
        go_ret
        exact ⟨by rw [HF.out]; rfl, k1.trans hK.out⟩
end Go.Proofs.YtejpjbfmjmfnmaaGreatDoor
