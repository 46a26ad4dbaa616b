/-
  The contracts of chapter 13's models l13Block and l13List (genWt.py).
  The contract of chapter 13's model l13Stmt, statement by statement (genWs.py).
-/
import Derived.Test.YtejpjbfmjmfnmaaGreatDoorGrpTp
import Derived.Test.YtejpjbfmjmfnmaaGreatDoorSeq
namespace Go.Proofs.YtejpjbfmjmfnmaaGreatDoor
open Go.RowKit
set_option linter.unusedSimpArgs false

theorem emptyB : (⟨#[]⟩ : ByteArray) = ByteArray.empty := rfl
theorem lines_snoc (xs : List ByteArray) (x : ByteArray) : linesT (xs ++ [x]) = linesT xs ++ (x ++ ⟨#[10]⟩) := by
  induction xs with
  | nil => simp only [List.nil_append, linesT]; rw [emptyB, ByteArray.append_empty, ByteArray.empty_append]
  | cons y r ih => simp only [List.cons_append, linesT, ih, ByteArray.append_assoc]
theorem take_snoc {α β : Type} {f : α → β} {l : List α} {k : Nat} {x : α} (h : l[k]? = some x) : (l.take (k + 1)).map f = (l.take k).map f ++ [f x] := by
  rw [List.take_add_one, h]
  simp
theorem sum_map {ks : List Nd} (h : ∀ k ∈ ks, okT k = true) : sumT (ks.map wT) ≤ 32 * sizesN ks + 2 * bulksN ks := by
  rw [← wTs_map]
  exact wTs_size ks h
def TxSt (m : Nat) : Prop := ∀ t : Nd, t.size ≤ m → t.size ≤ 200 → t.bulk ≤ 1048576 → okT t = true → st t.op = 2 → ∀ (w : World) (base : Nat) (v : Value), NdV w base t v → Calls Tryz.prog 18 #[v] w fun e w' => e = .returned (.string (wT t ++ ⟨#[10]⟩)) ∧ Kept w w'
set_option maxHeartbeats 8000000 in
set_option maxRecDepth 100000 in
theorem l13Block_ok (m : Nat) (H : TxSt m) (t : Nd) (ht : t.size ≤ m + 1) (h200 : t.size ≤ 200) (hb : t.bulk ≤ 1048576) (hok : okT t = true) (h1 : t.op = 1) (w : World) (base : Nat) (v : Value) (hv : NdV w base t v) :
    Calls Tryz.prog 32 #[v] w fun e w' => e = .returned (.string (wT t)) ∧ Kept w w' := by
  cases t with
  | mk op s n ks =>
  have h1 : op = 1 := h1
  subst h1
  obtain ⟨_, _, hkk⟩ := okT_parts hok
  have hall := okK_all ks 0 hkk
  have hst : ∀ k ∈ ks, st k.op = 2 := fun k hk => by
    have h := okK_const (op := 1) (a := 2) (fun _ => rfl) ks 0
    rw [h, List.all_eq_true] at hkk
    have := hkk k hk
    unfold stOk at this
    rw [Bool.and_eq_true, decide_eq_true_eq] at this
    exact this.1
  rw [NdV] at hv
  obtain ⟨ao, cap, rfl, hml, hks⟩ := hv
  simp only [Nd.size, Nd.bulk] at ht h200 hb
  have b0 := Cells.new w 29 #[.int .i64 1, .string s, .int .i64 n, .slice ao ks.length cap]
  have k0 : Kept w (w.alloc (.cells #[.int .i64 1, .string s, .int .i64 n, .slice ao ks.length cap] 29)) := Kept.alloc (Below.refl _ _) _
  have HKS : Hid (ks = [] ∨ ∃ b off, ao = some ⟨b, off, none⟩ ∧ base ≤ b ∧ NdsV w base b off ks) := hks
  have HH : Hid (TxSt m) := H
  have HALL : Hid (∀ k ∈ ks, okT k = true) := hall
  have HST : Hid (∀ k ∈ ks, st k.op = 2) := hst
  have hll := len_sizes ks
  have HW : Hid (wT (.mk 1 s n ks) = (⟨#[123, 10]⟩ ++ linesT (ks.map wT)) ++ ⟨#[125]⟩) := by rw [Hid, wT, wTs_map]; rfl
  have hsum := sum_map hall
  have HB : Hid (∀ k, (linesT ((ks.take k).map wT)).size ≤ 4000000) := fun k => by
    have h2 : ∀ (l : List Nd) (j : Nat), sumT ((l.take j).map wT) ≤ sumT (l.map wT) := by
      intro l
      induction l with
      | nil => intro j; simp
      | cons x l ih => intro j; cases j with
        | zero => simp [sumT]
        | succ j => have := ih j; simp only [List.take_succ_cons, List.map_cons, sumT]; omega
    rw [lines_size, List.length_map, List.length_take]
    have := h2 ks k
    omega
  clear hks H hml hall hst hkk hok
  go_enter Tryz.func32, Tryz.ntmps32
  go_wp2_with fail
  go_loopw [3, 4] (fun ov iv wr => ∃ (k : Nat), iv = .int .i64 k ∧ k ≤ ks.length ∧ ov = .string (⟨#[123, 10]⟩ ++ linesT ((ks.take k).map wT)) ∧ Hid (Kept (w.alloc (.cells #[.int .i64 1, .string s, .int .i64 n, .slice ao ks.length cap] 29)) wr)) (fun _ i _ => ks.length - (intOf i).toNat)
  case atStart => exact ⟨0, rfl, Nat.zero_le _, by simp only [List.take_zero, List.map_nil, linesT]; rw [emptyB, ByteArray.append_empty], Below.refl _ _⟩
  case round =>
    obtain ⟨k, rfl, hk, rfl, hK⟩ := hrel
    have c3 := (b0.kept hK.out).cell 3
    have hO := HB.out k
    have hOs : ((⟨#[123, 10]⟩ : ByteArray) ++ linesT ((ks.take k).map wT)).size ≤ 4000002 := by rw [ByteArray.size_append]; show 2 + _ ≤ _; omega
    by_cases hlt : k < ks.length
    · have q1 : (k : Int) < (ks.length : Int) := by omega
      have q2 : (k : Int) + 1 ≤ 9223372036854775807 := by omega
      obtain ⟨x, hx⟩ : ∃ x, ks[k]? = some x := ⟨ks[k], List.getElem?_eq_getElem hlt⟩
      have hxs := size_mem hx
      have hxb := bulk_mem hx
      have hxm := List.mem_of_getElem? hx
      obtain ⟨b, off, a2, cq, rfl, g0, g1, g2, g3, hv⟩ := kid_at HKS.out (k0.trans hK.out) hx
      have hC := HH.out x (by omega) (by omega) (by omega) (HALL.out x hxm) (HST.out x hxm) wr base _ hv
      have hO1 := HB.out (k + 1)
      have HN : Hid ((⟨#[123, 10]⟩ ++ linesT ((ks.take k).map wT)) ++ (wT x ++ ⟨#[10]⟩) = (⟨#[123, 10]⟩ : ByteArray) ++ linesT ((ks.take (k + 1)).map wT)) := by
        rw [Hid, take_snoc hx, lines_snoc, ByteArray.append_assoc]
      rw [take_snoc hx, lines_snoc, ByteArray.size_append] at hO1
      obtain ⟨O, hOO⟩ : ∃ O, (⟨#[123, 10]⟩ : ByteArray) ++ linesT ((ks.take k).map wT) = O := ⟨_, rfl⟩
      obtain ⟨X, hX⟩ : ∃ X, wT x ++ ⟨#[10]⟩ = X := ⟨_, rfl⟩
      rw [hX] at hC hO1
      rw [hOO] at hOs
      rw [hOO, hX] at HN
      simp only [hOO]
      have q3 : ¬ 9223372036854775807 < O.size + X.size := by omega
      obtain ⟨xo, hxo⟩ : ∃ o, x.op = o := ⟨_, rfl⟩
      obtain ⟨xs, hxs'⟩ : ∃ o, x.s = o := ⟨_, rfl⟩
      obtain ⟨xn, hxn⟩ : ∃ o, x.n = o := ⟨_, rfl⟩
      obtain ⟨xl, hxl⟩ : ∃ o, x.kids.length = o := ⟨_, rfl⟩
      rw [hxo, hxs', hxn, hxl] at hC
      rw [hxo] at g0
      rw [hxs'] at g1
      rw [hxn] at g2
      rw [hxl] at g3
      clear hx hxs hxb hxm hv hO hO1 hOO hX hxo hxs' hxn hxl hOs
      go_wp2_with (go_at_call 18; refine hC.mono ?_; rintro e w1 ⟨rfl, hk1⟩)
      exact ⟨⟨k + 1, by go_num, by omega, by rw [HN.out], hK.out.trans hk1⟩, by simp [intOf]; omega⟩
    · have q1 : ¬ (k : Int) < (ks.length : Int) := by omega
      have HF : Hid (wT (.mk 1 s n ks) = (⟨#[123, 10]⟩ ++ linesT ((ks.take k).map wT)) ++ ⟨#[125]⟩) := by
        rw [Hid, HW.out, List.take_of_length_le (by omega)]
      obtain ⟨O, hOO⟩ : ∃ O, (⟨#[123, 10]⟩ : ByteArray) ++ linesT ((ks.take k).map wT) = O := ⟨_, rfl⟩
      rw [hOO] at hOs HF
      simp only [hOO]
      have q3 : ¬ 9223372036854775807 < O.size + (⟨#[125]⟩ : ByteArray).size := by show ¬ _ < _ + 1; omega
      clear hOs hOO hO
      go_wp2_with fail
      go_ret
      exact ⟨by rw [HF.out]; rfl, k0.trans hK.out⟩
theorem comma_snoc : ∀ (xs : List ByteArray) (x : ByteArray), commaT (xs ++ [x]) = if xs = [] then x else commaT xs ++ (⟨#[44, 32]⟩ ++ x)
  | [], x => rfl
  | [y], x => by simp [commaT]
  | y :: z :: r, x => by
    have ih := comma_snoc (z :: r) x
    rw [if_neg (by simp)] at ih ⊢
    show y ++ (⟨#[44, 32]⟩ ++ commaT (z :: r ++ [x])) = (y ++ (⟨#[44, 32]⟩ ++ commaT (z :: r))) ++ (⟨#[44, 32]⟩ ++ x)
    rw [ih]
    simp only [ByteArray.append_assoc]
def TxEx (m : Nat) : Prop := ∀ t : Nd, t.size ≤ m → t.size ≤ 200 → t.bulk ≤ 1048576 → okT t = true → st t.op = 3 → ∀ (w : World) (base : Nat) (v : Value), NdV w base t v → Calls Tryz.prog 31 #[v] w fun e w' => e = .returned (.string (wT t)) ∧ Kept w w'
/-- A pair is one kid, and its name. -/
theorem pair_of {x : Nd} (h : okT x = true) (h4 : st x.op = 4) : ∃ s n e, x = .mk 26 s n [e] ∧ okT e = true ∧ st e.op = 3 ∧ wT x = (s ++ ⟨#[58, 32]⟩) ++ wT e := by
  cases x with
  | mk op s n ks =>
    have ho : op = 26 := (st_op (op := op)).2.2.2.1 h4
    subst ho
    obtain ⟨_, hc, hk⟩ := okT_parts h
    match ks, hc, hk with
    | [], hc, _ => exact absurd hc (by decide)
    | [e], _, hk =>
      rw [okK_const (a := 3) (fun _ => rfl), List.all_eq_true] at hk
      have := hk e (by simp)
      unfold stOk at this
      rw [Bool.and_eq_true, decide_eq_true_eq] at this
      exact ⟨s, n, e, rfl, this.2, this.1, rfl⟩
    | a :: b :: r, hc, _ => simp [countB, one1] at hc
set_option maxHeartbeats 16000000 in
set_option maxRecDepth 100000 in
theorem l13List_ok (m : Nat) (H : TxEx m) (op n : Int) (s : ByteArray) (ks : List Nd) (q : Nat) (hq : q ≤ ks.length) (ht : 1 + sizesN ks ≤ m + 1) (h200 : 1 + sizesN ks ≤ 200) (hb : s.size + (ks.length + bulksN ks) ≤ 1048576) (hall : ∀ k ∈ ks, okT k = true) (hst : ∀ k ∈ ks, st k.op = 3 ∨ st k.op = 4) (w : World) (base : Nat) (v : Value) (hv : NdV w base (.mk op s n ks) v) :
    Calls Tryz.prog 50 #[v, .int .i64 (q : Nat)] w fun e w' => e = .returned (.string (commaT ((ks.drop q).map wT))) ∧ Kept w w' := by
  rw [NdV] at hv
  obtain ⟨ao, cap, rfl, hml, hks⟩ := hv
  have b0 := Cells.new w 29 #[.int .i64 op, .string s, .int .i64 n, .slice ao ks.length cap]
  have k0 : Kept w (w.alloc (.cells #[.int .i64 op, .string s, .int .i64 n, .slice ao ks.length cap] 29)) := Kept.alloc (Below.refl _ _) _
  have HKS : Hid (ks = [] ∨ ∃ b off, ao = some ⟨b, off, none⟩ ∧ base ≤ b ∧ NdsV w base b off ks) := hks
  have HH : Hid (TxEx m) := H
  have HALL : Hid (∀ k ∈ ks, okT k = true) := hall
  have HST : Hid (∀ k ∈ ks, st k.op = 3 ∨ st k.op = 4) := hst
  have hll := len_sizes ks
  have hsum := sum_map hall
  have HB : Hid (∀ k, (commaT (((ks.drop q).take k).map wT)).size ≤ 4000000) := fun k => by
    have h2 : ∀ (l : List Nd) (j : Nat), sumT ((l.take j).map wT) ≤ sumT (l.map wT) := by
      intro l
      induction l with
      | nil => intro j; simp
      | cons x l ih => intro j; cases j with
        | zero => simp [sumT]
        | succ j => have := ih j; simp only [List.take_succ_cons, List.map_cons, sumT]; omega
    have h3 : ∀ (l : List Nd) (j : Nat), sumT ((l.drop j).map wT) ≤ sumT (l.map wT) := by
      intro l
      induction l with
      | nil => intro j; simp
      | cons x l ih => intro j; cases j with
        | zero => simp
        | succ j => have := ih j; simp only [List.drop_succ_cons, List.map_cons, sumT]; omega
    have h4 := comma_size (((ks.drop q).take k).map wT)
    rw [List.length_map, List.length_take, List.length_drop] at h4
    have := h2 (ks.drop q) k
    have := h3 ks q
    omega
  have HXB : Hid (∀ x ∈ ks, (wT x).size ≤ 4000000) := fun x hx => by
    obtain ⟨k, hk⟩ := List.getElem?_of_mem hx
    have h1 := wT_size x (hall x hx)
    have h2 := size_mem hk
    have h3 := bulk_mem hk
    omega
  clear hks H hml hall hst
  go_enter Tryz.func50, Tryz.ntmps50
  go_wp2_with fail
  go_loopw [5, 6] (fun ov iv wr => ∃ (k : Nat), iv = .int .i64 k ∧ q ≤ k ∧ k ≤ ks.length ∧ ov = .string (commaT (((ks.drop q).take (k - q)).map wT)) ∧ Hid (Kept (w.alloc (.cells #[.int .i64 op, .string s, .int .i64 n, .slice ao ks.length cap] 29)) wr)) (fun _ i _ => ks.length - (intOf i).toNat)
  case atStart => exact ⟨q, rfl, Nat.le_refl _, hq, by simp [commaT], Below.refl _ _⟩
  case round =>
    obtain ⟨k, rfl, hqk, hk, rfl, hK⟩ := hrel
    have c3 := (b0.kept hK.out).cell 3
    have hO := HB.out (k - q)
    by_cases hlt : k < ks.length
    · have q1 : (k : Int) < (ks.length : Int) := by omega
      have q2 : (k : Int) + 1 ≤ 9223372036854775807 := by omega
      obtain ⟨x, hx⟩ : ∃ x, ks[k]? = some x := ⟨ks[k], List.getElem?_eq_getElem hlt⟩
      have hxs := size_mem hx
      have hxb := bulk_mem hx
      have hxm := List.mem_of_getElem? hx
      have hxw := HXB.out x hxm
      have hdx : (ks.drop q)[k - q]? = some x := by rw [List.getElem?_drop, show q + (k - q) = k by omega]; exact hx
      obtain ⟨b, off, a2, cq, rfl, g0, g1, g2, g3, hv⟩ := kid_at HKS.out (k0.trans hK.out) hx
      have HN : Hid ((if k = q then wT x else commaT (((ks.drop q).take (k - q)).map wT) ++ (⟨#[44, 32]⟩ ++ wT x)) = commaT (((ks.drop q).take (k + 1 - q)).map wT)) := by
        rw [Hid, show k + 1 - q = (k - q) + 1 by omega, take_snoc hdx, comma_snoc]
        by_cases hkq : k = q
        · rw [if_pos hkq, if_pos (by rw [show k - q = 0 by omega]; rfl)]
        · rw [if_neg hkq, if_neg]
          intro h
          have := congrArg List.length h
          simp at this
          omega
      have HE0 : Hid (k = q → commaT (((ks.drop q).take (k - q)).map wT) = ⟨#[]⟩) := fun h => by rw [show k - q = 0 by omega]; rfl
      obtain ⟨O, hOO⟩ : ∃ O, commaT (((ks.drop q).take (k - q)).map wT) = O := ⟨_, rfl⟩
      rw [hOO] at hO HN HE0
      simp only [hOO]
      by_cases h4 : st x.op = 4
      · obtain ⟨s2, n2, e2, rfl, he2, hs2, hwe⟩ := pair_of (HALL.out x hxm) h4
        rw [NdV] at hv
        obtain ⟨a3, c3', ee, hml2, hks2⟩ := hv
        injection ee with ee
        have e3 := congrArg Array.toList ee
        simp [Nd.kids, Nd.op, Nd.s, Nd.n] at e3
        obtain ⟨rfl, rfl⟩ := e3
        obtain ⟨b3, off3, a4, c4, rfl, j0, j1, j2, j3, hv2⟩ := kid_at hks2 (Below.refl _ wr) (k := 0) (x := e2) rfl
        simp only [Nat.zero_mul, Nat.add_zero] at j0 j1 j2 j3
        simp only [Nd.kids, Nd.op, Nd.s, Nd.n, List.length_cons, List.length_nil, Nat.zero_add] at g0 g1 g2 g3
        simp only [Nd.size, Nd.bulk, sizesN, bulksN, List.length_cons, List.length_nil] at hxs hxb
        have hC : Hid (∀ u, Kept wr.drew u → Calls Tryz.prog 31 #[.agg #[.int .i64 e2.op, .string e2.s, .int .i64 e2.n, .slice a4 e2.kids.length c4]] u fun e w' => e = .returned (.string (wT e2)) ∧ Kept u w') := fun u hu => HH.out e2 (by omega) (by omega) (by omega) he2 hs2 u base _ (hv2.kept ((Below.refl _ wr).drew.trans hu))
        rw [hwe] at HN hxw
        rw [ByteArray.size_append, ByteArray.size_append] at hxw
        obtain ⟨E, hE⟩ : ∃ E, wT e2 = E := ⟨_, rfl⟩
        rw [hE] at hC HN hxw
        obtain ⟨xo, hxo⟩ : ∃ o, e2.op = o := ⟨_, rfl⟩
        obtain ⟨xs, hxs'⟩ : ∃ o, e2.s = o := ⟨_, rfl⟩
        obtain ⟨xn, hxn⟩ : ∃ o, e2.n = o := ⟨_, rfl⟩
        obtain ⟨xl, hxl⟩ : ∃ o, e2.kids.length = o := ⟨_, rfl⟩
        rw [hxo, hxs', hxn, hxl] at hC
        rw [hxo] at j0
        rw [hxs'] at j1
        rw [hxn] at j2
        rw [hxl] at j3
        clear hx hxs hxb hxm hv2 hks2 hml2 hOO hE hwe h4 hdx hxo hxs' hxn hxl he2 hs2 ee
        have kd : Kept wr wr.drew := (Below.refl _ wr).drew
        have X0 : ∀ u, Kept wr.drew u → u.cell? ⟨w.heap.size, 3, none⟩ = some (.slice (some ⟨b, off, none⟩) ks.length cap) := fun u hu => kept_cell (kd.trans hu) c3
        have X1 : ∀ u, Kept wr.drew u → u.cell? ⟨b, off + k * 4 + 1, none⟩ = some (.string s2) := fun u hu => kept_cell (kd.trans hu) g1
        have X2 : ∀ u, Kept wr.drew u → u.cell? ⟨b, off + k * 4 + 3, none⟩ = some (.slice (some ⟨b3, off3, none⟩) 1 cq) := fun u hu => kept_cell (kd.trans hu) g3
        have Y0 : ∀ u, Kept wr.drew u → u.cell? ⟨b3, off3, none⟩ = some (.int .i64 xo) := fun u hu => kept_cell (kd.trans hu) j0
        have Y1 : ∀ u, Kept wr.drew u → u.cell? ⟨b3, off3 + 1, none⟩ = some (.string xs) := fun u hu => kept_cell (kd.trans hu) j1
        have Y2 : ∀ u, Kept wr.drew u → u.cell? ⟨b3, off3 + 2, none⟩ = some (.int .i64 xn) := fun u hu => kept_cell (kd.trans hu) j2
        have Y3 : ∀ u, Kept wr.drew u → u.cell? ⟨b3, off3 + 3, none⟩ = some (.slice a4 xl c4) := fun u hu => kept_cell (kd.trans hu) j3
        have z2 : (⟨#[58, 32]⟩ : ByteArray).size = 2 := rfl
        have z3 : (⟨#[44, 32]⟩ : ByteArray).size = 2 := rfl
        by_cases hkq : k = q
        · have q4 : ¬ (q : Int) < (k : Int) := by omega
          have HE1 : Hid (((O ++ s2) ++ ⟨#[58, 32]⟩) ++ E = commaT (((ks.drop q).take (k + 1 - q)).map wT)) := by
            have h := HN.out
            rw [if_pos hkq] at h
            rw [Hid, ← h, HE0.out hkq, emptyB, ByteArray.empty_append]
          have p4 : ¬ 9223372036854775807 < O.size + s2.size + 2 := by omega
          have p5 : ¬ 9223372036854775807 < O.size + s2.size + 2 + E.size := by omega
          have p1 : ¬ 9223372036854775807 < O.size + s2.size := by omega
          have p2 : ¬ 9223372036854775807 < (O ++ s2).size + (⟨#[58, 32]⟩ : ByteArray).size := by rw [ByteArray.size_append, z2]; omega
          have p3 : ¬ 9223372036854775807 < ((O ++ s2) ++ ⟨#[58, 32]⟩).size + E.size := by rw [ByteArray.size_append, ByteArray.size_append, z2]; omega
          clear HN HE0 hkq hO hxw z2 z3
          go_wp2_with fail
          refine wp_region_seqL (by kernel_rfl) (by kernel_rfl) ?_
          repeat (first
            | (refine SeqL.skip (by rfl) ?_; simp only [Act.put, List.setIfInBounds_toArray, List.set_cons_zero, List.set_cons_succ])
            | (refine SeqL.pure ?_ (by rfl) ?_ ?_; rotate_left; (focus (intro u hu; have x0' := X0 u hu; have x1' := X1 u hu; have x2' := X2 u hu; have y0' := Y0 u hu; have y1' := Y1 u hu; have y2' := Y2 u hu; have y3' := Y3 u hu; go_simp; first | done | exact rfl)); simp only [Act.put, List.setIfInBounds_toArray, List.set_cons_zero, List.set_cons_succ])
            | (refine SeqL.call _ _ _ (by rfl) ?_ hC.out ?_; (focus (intro u; go_simp; done)); simp only [Act.put, List.setIfInBounds_toArray, List.set_cons_zero, List.set_cons_succ]))
          refine SeqL.nil ?_
          intro w1 hk1
          go_simp
          go_wp2_with fail
          exact ⟨⟨k + 1, by go_num, by omega, by omega, by first | rw [HE1.out] | (simp; exact HE1.out), hK.out.trans (kd.trans hk1)⟩, by simp [intOf]; omega⟩
        · have q4 : (q : Int) < (k : Int) := by omega
          have HE1 : Hid ((((O ++ ⟨#[44, 32]⟩) ++ s2) ++ ⟨#[58, 32]⟩) ++ E = commaT (((ks.drop q).take (k + 1 - q)).map wT)) := by
            have h := HN.out
            rw [if_neg hkq] at h
            rw [Hid, ← h]
            simp only [ByteArray.append_assoc]
          have p4 : ¬ 9223372036854775807 < O.size + 2 + s2.size := by omega
          have p5 : ¬ 9223372036854775807 < O.size + 2 + s2.size + 2 := by omega
          have p6 : ¬ 9223372036854775807 < O.size + 2 + s2.size + 2 + E.size := by omega
          have p0 : ¬ 9223372036854775807 < O.size + (⟨#[44, 32]⟩ : ByteArray).size := by rw [z3]; omega
          have p1 : ¬ 9223372036854775807 < (O ++ ⟨#[44, 32]⟩).size + s2.size := by rw [ByteArray.size_append, z3]; omega
          have p2 : ¬ 9223372036854775807 < ((O ++ ⟨#[44, 32]⟩) ++ s2).size + (⟨#[58, 32]⟩ : ByteArray).size := by rw [ByteArray.size_append, ByteArray.size_append, z2, z3]; omega
          have p3 : ¬ 9223372036854775807 < (((O ++ ⟨#[44, 32]⟩) ++ s2) ++ ⟨#[58, 32]⟩).size + E.size := by rw [ByteArray.size_append, ByteArray.size_append, ByteArray.size_append, z2, z3]; omega
          clear HN HE0 hkq hO hxw z2 z3
          go_wp2_with fail
          refine wp_region_seqL (by kernel_rfl) (by kernel_rfl) ?_
          repeat (first
            | (refine SeqL.skip (by rfl) ?_; simp only [Act.put, List.setIfInBounds_toArray, List.set_cons_zero, List.set_cons_succ])
            | (refine SeqL.pure ?_ (by rfl) ?_ ?_; rotate_left; (focus (intro u hu; have x0' := X0 u hu; have x1' := X1 u hu; have x2' := X2 u hu; have y0' := Y0 u hu; have y1' := Y1 u hu; have y2' := Y2 u hu; have y3' := Y3 u hu; go_simp; first | done | exact rfl)); simp only [Act.put, List.setIfInBounds_toArray, List.set_cons_zero, List.set_cons_succ])
            | (refine SeqL.call _ _ _ (by rfl) ?_ hC.out ?_; (focus (intro u; go_simp; done)); simp only [Act.put, List.setIfInBounds_toArray, List.set_cons_zero, List.set_cons_succ]))
          refine SeqL.nil ?_
          intro w1 hk1
          go_simp
          go_wp2_with fail
          exact ⟨⟨k + 1, by go_num, by omega, by omega, by first | rw [HE1.out] | (simp; exact HE1.out), hK.out.trans (kd.trans hk1)⟩, by simp [intOf]; omega⟩
      · have h3 : st x.op = 3 := (HST.out x hxm).resolve_right h4
        have hC := HH.out x (by omega) (by omega) (by omega) (HALL.out x hxm) h3 wr base _ hv
        obtain ⟨E, hE⟩ : ∃ E, wT x = E := ⟨_, rfl⟩
        rw [hE] at hC HN hxw
        have h26 : (x.op == 26) = false := by
          have := (st_op (op := x.op)).2.2.2
          simp only [beq_eq_false_iff_ne, ne_eq]
          intro h
          exact h4 (this.2 h)
        obtain ⟨xo, hxo⟩ : ∃ o, x.op = o := ⟨_, rfl⟩
        obtain ⟨xs, hxs'⟩ : ∃ o, x.s = o := ⟨_, rfl⟩
        obtain ⟨xn, hxn⟩ : ∃ o, x.n = o := ⟨_, rfl⟩
        obtain ⟨xl, hxl⟩ : ∃ o, x.kids.length = o := ⟨_, rfl⟩
        rw [hxo, hxs', hxn, hxl] at hC
        rw [hxo] at g0 h26
        rw [hxs'] at g1
        rw [hxn] at g2
        rw [hxl] at g3
        clear hx hxs hxb hxm hv hOO hE h4 h3 hdx hxo hxs' hxn hxl
        have z3 : (⟨#[44, 32]⟩ : ByteArray).size = 2 := rfl
        by_cases hkq : k = q
        · have q4 : ¬ (q : Int) < (k : Int) := by omega
          have HE1 : Hid (O ++ E = commaT (((ks.drop q).take (k + 1 - q)).map wT)) := by
            have h := HN.out
            rw [if_pos hkq] at h
            rw [Hid, ← h, HE0.out hkq, emptyB, ByteArray.empty_append]
          have p1 : ¬ 9223372036854775807 < O.size + E.size := by omega
          clear HN HE0 hkq hO hxw z3
          go_wp2_with (go_at_call 31; refine hC.mono ?_; rintro e w1 ⟨rfl, hk1⟩)
          exact ⟨⟨k + 1, by go_num, by omega, by omega, by first | rw [HE1.out] | (simp; exact HE1.out), hK.out.trans hk1⟩, by simp [intOf]; omega⟩
        · have q4 : (q : Int) < (k : Int) := by omega
          have HE1 : Hid ((O ++ ⟨#[44, 32]⟩) ++ E = commaT (((ks.drop q).take (k + 1 - q)).map wT)) := by
            have h := HN.out
            rw [if_neg hkq] at h
            rw [Hid, ← h, ByteArray.append_assoc]
          have p0 : ¬ 9223372036854775807 < O.size + (⟨#[44, 32]⟩ : ByteArray).size := by rw [z3]; omega
          have p1 : ¬ 9223372036854775807 < (O ++ ⟨#[44, 32]⟩).size + E.size := by rw [ByteArray.size_append, z3]; omega
          clear HN HE0 hkq hO hxw z3
          go_wp2_with (go_at_call 31; refine hC.mono ?_; rintro e w1 ⟨rfl, hk1⟩)
          exact ⟨⟨k + 1, by go_num, by omega, by omega, by first | rw [HE1.out] | (simp; exact HE1.out), hK.out.trans hk1⟩, by simp [intOf]; omega⟩
    · have q1 : ¬ (k : Int) < (ks.length : Int) := by omega
      have HF : Hid (commaT (((ks.drop q).take (k - q)).map wT) = commaT ((ks.drop q).map wT)) := by rw [Hid, List.take_of_length_le (by rw [List.length_drop]; omega)]
      obtain ⟨O, hOO⟩ : ∃ O, commaT (((ks.drop q).take (k - q)).map wT) = O := ⟨_, rfl⟩
      rw [hOO, List.map_drop] at HF
      simp only [hOO]
      clear hOO hO
      go_wp2_with fail
      go_ret
      exact ⟨by rw [← HF.out]; rfl, k0.trans hK.out⟩
end Go.Proofs.YtejpjbfmjmfnmaaGreatDoor
namespace Go.Proofs.YtejpjbfmjmfnmaaGreatDoor
open Go.RowKit
set_option linter.unusedSimpArgs false

theorem okK_iffT {op : Int} : ∀ (ks : List Nd) (i : Nat), okK op i ks = true ↔ ∀ j x, ks[j]? = some x → stOk (wantAt op (i + j)) x = true
  | [], i => by simp [okK]
  | k :: ks, i => by
    rw [okK, Bool.and_eq_true, okK_iffT ks (i + 1)]
    constructor
    · rintro ⟨h1, h2⟩ j x hx
      cases j with
      | zero => simp at hx; subst hx; exact h1
      | succ j => have := h2 j x (by simpa using hx); rwa [show i + 1 + j = i + (j + 1) by omega] at this
    · intro h
      exact ⟨h 0 k rfl, fun j x hx => by have := h (j + 1) x (by simpa using hx); rwa [show i + (j + 1) = i + 1 + j by omega] at this⟩
/-- The cells of kid 0. -/
theorem kid_0 {w wr : World} {base : Nat} {ks : List Nd} {ao : Option Addr} (h : ks = [] ∨ ∃ b off, ao = some ⟨b, off, none⟩ ∧ base ≤ b ∧ NdsV w base b off ks) (hk : Kept w wr) {x : Nd} (hx : ks[0]? = some x) :
    ∃ b off a2 c2, ao = some ⟨b, off, none⟩ ∧ wr.cell? ⟨b, off, none⟩ = some (.int .i64 x.op) ∧ wr.cell? ⟨b, off + 1, none⟩ = some (.string x.s) ∧ wr.cell? ⟨b, off + 2, none⟩ = some (.int .i64 x.n) ∧ wr.cell? ⟨b, off + 3, none⟩ = some (.slice a2 x.kids.length c2) ∧ NdV wr base x (.agg #[.int .i64 x.op, .string x.s, .int .i64 x.n, .slice a2 x.kids.length c2]) := by
  have := kid_at h hk hx
  simpa only [Nat.zero_mul, Nat.add_zero] using this
theorem semi_nl : (⟨#[59]⟩ : ByteArray) ++ ⟨#[10]⟩ = ⟨#[59, 10]⟩ := by decide
theorem wT_small {x : Nd} (h : okT x = true) (h1 : x.size ≤ 200) (h2 : x.bulk ≤ 1048576) : (wT x).size ≤ 4000000 := by
  have := wT_size x h
  omega
def TxBk (m : Nat) : Prop := ∀ t : Nd, t.size ≤ m → t.size ≤ 200 → t.bulk ≤ 1048576 → okT t = true → t.op = 1 → ∀ (w : World) (base : Nat) (v : Value), NdV w base t v → Calls Tryz.prog 32 #[v] w fun e w' => e = .returned (.string (wT t)) ∧ Kept w w'
set_option maxHeartbeats 8000000 in
set_option maxRecDepth 100000 in
theorem stmt_2 (m : Nat) (H : TxEx m) (s : ByteArray) (n : Int) (x : Nd) (hx0 : x.size ≤ m) (hx2 : x.size ≤ 200) (hxb : x.bulk ≤ 1048576) (hsb : s.size ≤ 1048576) (hok : okT x = true) (hst : st x.op = 3) (w : World) (base : Nat) (v : Value) (hv : NdV w base (.mk 2 s n [x]) v) :
    Calls Tryz.prog 18 #[v] w fun e w' => e = .returned (.string (wT (.mk 2 s n [x]) ++ ⟨#[10]⟩)) ∧ Kept w w' := by
  rw [NdV] at hv
  obtain ⟨ao, cap, rfl, hml, hks⟩ := hv
  simp only [List.length_cons, List.length_nil, Nat.zero_add]
  have b0 := Cells.new w 29 #[.int .i64 2, .string s, .int .i64 n, .slice ao 1 cap]
  have k0 : Kept w (w.alloc (.cells #[.int .i64 2, .string s, .int .i64 n, .slice ao 1 cap] 29)) := Kept.alloc (Below.refl _ _) _
  obtain ⟨b, off, a2, cq, rfl, g0, g1, g2, g3, hv⟩ := kid_0 hks k0 (x := x) rfl
  have hC := H x hx0 hx2 hxb hok hst _ base _ hv
  have hE4 := wT_small hok hx2 hxb
  have HW : Hid (wT (.mk 2 s n [x]) ++ ⟨#[10]⟩ = ((((⟨#[108, 101, 116, 32]⟩ ++ s) ++ ⟨#[32, 61, 32]⟩) ++ wT x) ++ ⟨#[59, 10]⟩)) := by
    rw [Hid, wT]
    show ((((⟨#[108, 101, 116, 32]⟩ ++ s) ++ ⟨#[32, 61, 32]⟩) ++ wT x) ++ ⟨#[59]⟩) ++ ⟨#[10]⟩ = _
    rw [ByteArray.append_assoc, semi_nl]
  obtain ⟨E, hE⟩ : ∃ E, wT x = E := ⟨_, rfl⟩
  rw [hE] at hC hE4 HW
  obtain ⟨xo, hxo⟩ : ∃ o, x.op = o := ⟨_, rfl⟩
  obtain ⟨xs, hxs'⟩ : ∃ o, x.s = o := ⟨_, rfl⟩
  obtain ⟨xn, hxn⟩ : ∃ o, x.n = o := ⟨_, rfl⟩
  obtain ⟨xl, hxl⟩ : ∃ o, x.kids.length = o := ⟨_, rfl⟩
  rw [hxo, hxs', hxn, hxl] at hC
  rw [hxo] at g0
  rw [hxs'] at g1
  rw [hxn] at g2
  rw [hxl] at g3
  have p0 : ¬ 9223372036854775807 < 4 + s.size := by omega
  have p1 : ¬ 9223372036854775807 < 4 + s.size + 3 := by omega
  have p2 : ¬ 9223372036854775807 < 4 + s.size + 3 + E.size := by omega
  have p3 : ¬ 9223372036854775807 < 4 + s.size + 3 + E.size + 2 := by omega
  have _hs := hsb
  clear _hs hks hml hv hE hxo hxs' hxn hxl hok hst hx0 hx2 hxb hE4 hsb H
  go_enter Tryz.func18, Tryz.ntmps18
  go_wp2_with (go_at_call 31; refine hC.mono ?_; rintro e w1 ⟨rfl, hk1⟩; have y := b0.kept hk1; have c0 := y.cell 0; have c1 := y.cell 1; have c2 := y.cell 2; have c3 := y.cell 3; simp at c0 c1 c2 c3)
  go_ret
  exact ⟨by rw [HW.out]; rfl, k0.trans hk1⟩
set_option maxHeartbeats 8000000 in
set_option maxRecDepth 100000 in
theorem stmt_3 (m : Nat) (H : TxEx m) (s : ByteArray) (n : Int) (x : Nd) (hx0 : x.size ≤ m) (hx2 : x.size ≤ 200) (hxb : x.bulk ≤ 1048576) (hsb : s.size ≤ 1048576) (hok : okT x = true) (hst : st x.op = 3) (w : World) (base : Nat) (v : Value) (hv : NdV w base (.mk 3 s n [x]) v) :
    Calls Tryz.prog 18 #[v] w fun e w' => e = .returned (.string (wT (.mk 3 s n [x]) ++ ⟨#[10]⟩)) ∧ Kept w w' := by
  rw [NdV] at hv
  obtain ⟨ao, cap, rfl, hml, hks⟩ := hv
  simp only [List.length_cons, List.length_nil, Nat.zero_add]
  have b0 := Cells.new w 29 #[.int .i64 3, .string s, .int .i64 n, .slice ao 1 cap]
  have k0 : Kept w (w.alloc (.cells #[.int .i64 3, .string s, .int .i64 n, .slice ao 1 cap] 29)) := Kept.alloc (Below.refl _ _) _
  obtain ⟨b, off, a2, cq, rfl, g0, g1, g2, g3, hv⟩ := kid_0 hks k0 (x := x) rfl
  have hC := H x hx0 hx2 hxb hok hst _ base _ hv
  have hE4 := wT_small hok hx2 hxb
  have HW : Hid (wT (.mk 3 s n [x]) ++ ⟨#[10]⟩ = (((s ++ ⟨#[32, 61, 32]⟩) ++ wT x) ++ ⟨#[59, 10]⟩)) := by
    rw [Hid, wT]
    show (((s ++ ⟨#[32, 61, 32]⟩) ++ wT x) ++ ⟨#[59]⟩) ++ ⟨#[10]⟩ = _
    rw [ByteArray.append_assoc, semi_nl]
  obtain ⟨E, hE⟩ : ∃ E, wT x = E := ⟨_, rfl⟩
  rw [hE] at hC hE4 HW
  obtain ⟨xo, hxo⟩ : ∃ o, x.op = o := ⟨_, rfl⟩
  obtain ⟨xs, hxs'⟩ : ∃ o, x.s = o := ⟨_, rfl⟩
  obtain ⟨xn, hxn⟩ : ∃ o, x.n = o := ⟨_, rfl⟩
  obtain ⟨xl, hxl⟩ : ∃ o, x.kids.length = o := ⟨_, rfl⟩
  rw [hxo, hxs', hxn, hxl] at hC
  rw [hxo] at g0
  rw [hxs'] at g1
  rw [hxn] at g2
  rw [hxl] at g3
  have p0 : ¬ 9223372036854775807 < s.size + 3 := by omega
  have p1 : ¬ 9223372036854775807 < s.size + 3 + E.size := by omega
  have p2 : ¬ 9223372036854775807 < s.size + 3 + E.size + 2 := by omega
  have _hs := hsb
  clear _hs hks hml hv hE hxo hxs' hxn hxl hok hst hx0 hx2 hxb hE4 hsb H
  go_enter Tryz.func18, Tryz.ntmps18
  go_wp2_with (go_at_call 31; refine hC.mono ?_; rintro e w1 ⟨rfl, hk1⟩; have y := b0.kept hk1; have c0 := y.cell 0; have c1 := y.cell 1; have c2 := y.cell 2; have c3 := y.cell 3; simp at c0 c1 c2 c3)
  go_ret
  exact ⟨by rw [HW.out]; rfl, k0.trans hk1⟩
set_option maxHeartbeats 8000000 in
set_option maxRecDepth 100000 in
theorem stmt_7 (m : Nat) (H : TxEx m) (s : ByteArray) (n : Int) (x : Nd) (hx0 : x.size ≤ m) (hx2 : x.size ≤ 200) (hxb : x.bulk ≤ 1048576) (hsb : s.size ≤ 1048576) (hok : okT x = true) (hst : st x.op = 3) (w : World) (base : Nat) (v : Value) (hv : NdV w base (.mk 7 s n [x]) v) :
    Calls Tryz.prog 18 #[v] w fun e w' => e = .returned (.string (wT (.mk 7 s n [x]) ++ ⟨#[10]⟩)) ∧ Kept w w' := by
  rw [NdV] at hv
  obtain ⟨ao, cap, rfl, hml, hks⟩ := hv
  simp only [List.length_cons, List.length_nil, Nat.zero_add]
  have b0 := Cells.new w 29 #[.int .i64 7, .string s, .int .i64 n, .slice ao 1 cap]
  have k0 : Kept w (w.alloc (.cells #[.int .i64 7, .string s, .int .i64 n, .slice ao 1 cap] 29)) := Kept.alloc (Below.refl _ _) _
  obtain ⟨b, off, a2, cq, rfl, g0, g1, g2, g3, hv⟩ := kid_0 hks k0 (x := x) rfl
  have hC := H x hx0 hx2 hxb hok hst _ base _ hv
  have hE4 := wT_small hok hx2 hxb
  have HW : Hid (wT (.mk 7 s n [x]) ++ ⟨#[10]⟩ = ((⟨#[114, 101, 116, 117, 114, 110, 32]⟩ ++ wT x) ++ ⟨#[59, 10]⟩)) := by
    rw [Hid, wT]
    show ((⟨#[114, 101, 116, 117, 114, 110, 32]⟩ ++ wT x) ++ ⟨#[59]⟩) ++ ⟨#[10]⟩ = _
    rw [ByteArray.append_assoc, semi_nl]
  obtain ⟨E, hE⟩ : ∃ E, wT x = E := ⟨_, rfl⟩
  rw [hE] at hC hE4 HW
  obtain ⟨xo, hxo⟩ : ∃ o, x.op = o := ⟨_, rfl⟩
  obtain ⟨xs, hxs'⟩ : ∃ o, x.s = o := ⟨_, rfl⟩
  obtain ⟨xn, hxn⟩ : ∃ o, x.n = o := ⟨_, rfl⟩
  obtain ⟨xl, hxl⟩ : ∃ o, x.kids.length = o := ⟨_, rfl⟩
  rw [hxo, hxs', hxn, hxl] at hC
  rw [hxo] at g0
  rw [hxs'] at g1
  rw [hxn] at g2
  rw [hxl] at g3
  have p0 : ¬ 9223372036854775807 < 7 + E.size := by omega
  have p1 : ¬ 9223372036854775807 < 7 + E.size + 2 := by omega
  have _hs := hsb
  clear _hs hks hml hv hE hxo hxs' hxn hxl hok hst hx0 hx2 hxb hE4 hsb H
  go_enter Tryz.func18, Tryz.ntmps18
  go_wp2_with (go_at_call 31; refine hC.mono ?_; rintro e w1 ⟨rfl, hk1⟩; have y := b0.kept hk1; have c0 := y.cell 0; have c1 := y.cell 1; have c2 := y.cell 2; have c3 := y.cell 3; simp at c0 c1 c2 c3)
  go_ret
  exact ⟨by rw [HW.out]; rfl, k0.trans hk1⟩
set_option maxHeartbeats 8000000 in
set_option maxRecDepth 100000 in
theorem stmt_8 (m : Nat) (H : TxEx m) (s : ByteArray) (n : Int) (x : Nd) (hx0 : x.size ≤ m) (hx2 : x.size ≤ 200) (hxb : x.bulk ≤ 1048576) (hsb : s.size ≤ 1048576) (hok : okT x = true) (hst : st x.op = 3) (w : World) (base : Nat) (v : Value) (hv : NdV w base (.mk 8 s n [x]) v) :
    Calls Tryz.prog 18 #[v] w fun e w' => e = .returned (.string (wT (.mk 8 s n [x]) ++ ⟨#[10]⟩)) ∧ Kept w w' := by
  rw [NdV] at hv
  obtain ⟨ao, cap, rfl, hml, hks⟩ := hv
  simp only [List.length_cons, List.length_nil, Nat.zero_add]
  have b0 := Cells.new w 29 #[.int .i64 8, .string s, .int .i64 n, .slice ao 1 cap]
  have k0 : Kept w (w.alloc (.cells #[.int .i64 8, .string s, .int .i64 n, .slice ao 1 cap] 29)) := Kept.alloc (Below.refl _ _) _
  obtain ⟨b, off, a2, cq, rfl, g0, g1, g2, g3, hv⟩ := kid_0 hks k0 (x := x) rfl
  have hC := H x hx0 hx2 hxb hok hst _ base _ hv
  have hE4 := wT_small hok hx2 hxb
  have HW : Hid (wT (.mk 8 s n [x]) ++ ⟨#[10]⟩ = ((⟨#[112, 114, 105, 110, 116, 32]⟩ ++ wT x) ++ ⟨#[59, 10]⟩)) := by
    rw [Hid, wT]
    show ((⟨#[112, 114, 105, 110, 116, 32]⟩ ++ wT x) ++ ⟨#[59]⟩) ++ ⟨#[10]⟩ = _
    rw [ByteArray.append_assoc, semi_nl]
  obtain ⟨E, hE⟩ : ∃ E, wT x = E := ⟨_, rfl⟩
  rw [hE] at hC hE4 HW
  obtain ⟨xo, hxo⟩ : ∃ o, x.op = o := ⟨_, rfl⟩
  obtain ⟨xs, hxs'⟩ : ∃ o, x.s = o := ⟨_, rfl⟩
  obtain ⟨xn, hxn⟩ : ∃ o, x.n = o := ⟨_, rfl⟩
  obtain ⟨xl, hxl⟩ : ∃ o, x.kids.length = o := ⟨_, rfl⟩
  rw [hxo, hxs', hxn, hxl] at hC
  rw [hxo] at g0
  rw [hxs'] at g1
  rw [hxn] at g2
  rw [hxl] at g3
  have p0 : ¬ 9223372036854775807 < 6 + E.size := by omega
  have p1 : ¬ 9223372036854775807 < 6 + E.size + 2 := by omega
  have _hs := hsb
  clear _hs hks hml hv hE hxo hxs' hxn hxl hok hst hx0 hx2 hxb hE4 hsb H
  go_enter Tryz.func18, Tryz.ntmps18
  go_wp2_with (go_at_call 31; refine hC.mono ?_; rintro e w1 ⟨rfl, hk1⟩; have y := b0.kept hk1; have c0 := y.cell 0; have c1 := y.cell 1; have c2 := y.cell 2; have c3 := y.cell 3; simp at c0 c1 c2 c3)
  go_ret
  exact ⟨by rw [HW.out]; rfl, k0.trans hk1⟩
set_option maxHeartbeats 8000000 in
set_option maxRecDepth 100000 in
theorem stmt_9 (m : Nat) (H : TxEx m) (s : ByteArray) (n : Int) (x : Nd) (hx0 : x.size ≤ m) (hx2 : x.size ≤ 200) (hxb : x.bulk ≤ 1048576) (hsb : s.size ≤ 1048576) (hok : okT x = true) (hst : st x.op = 3) (w : World) (base : Nat) (v : Value) (hv : NdV w base (.mk 9 s n [x]) v) :
    Calls Tryz.prog 18 #[v] w fun e w' => e = .returned (.string (wT (.mk 9 s n [x]) ++ ⟨#[10]⟩)) ∧ Kept w w' := by
  rw [NdV] at hv
  obtain ⟨ao, cap, rfl, hml, hks⟩ := hv
  simp only [List.length_cons, List.length_nil, Nat.zero_add]
  have b0 := Cells.new w 29 #[.int .i64 9, .string s, .int .i64 n, .slice ao 1 cap]
  have k0 : Kept w (w.alloc (.cells #[.int .i64 9, .string s, .int .i64 n, .slice ao 1 cap] 29)) := Kept.alloc (Below.refl _ _) _
  obtain ⟨b, off, a2, cq, rfl, g0, g1, g2, g3, hv⟩ := kid_0 hks k0 (x := x) rfl
  have hC := H x hx0 hx2 hxb hok hst _ base _ hv
  have hE4 := wT_small hok hx2 hxb
  have HW : Hid (wT (.mk 9 s n [x]) ++ ⟨#[10]⟩ = (wT x ++ ⟨#[59, 10]⟩)) := by
    rw [Hid, wT]
    show (wT x ++ ⟨#[59]⟩) ++ ⟨#[10]⟩ = _
    rw [ByteArray.append_assoc, semi_nl]
  obtain ⟨E, hE⟩ : ∃ E, wT x = E := ⟨_, rfl⟩
  rw [hE] at hC hE4 HW
  obtain ⟨xo, hxo⟩ : ∃ o, x.op = o := ⟨_, rfl⟩
  obtain ⟨xs, hxs'⟩ : ∃ o, x.s = o := ⟨_, rfl⟩
  obtain ⟨xn, hxn⟩ : ∃ o, x.n = o := ⟨_, rfl⟩
  obtain ⟨xl, hxl⟩ : ∃ o, x.kids.length = o := ⟨_, rfl⟩
  rw [hxo, hxs', hxn, hxl] at hC
  rw [hxo] at g0
  rw [hxs'] at g1
  rw [hxn] at g2
  rw [hxl] at g3
  have p0 : ¬ 9223372036854775807 < E.size + 2 := by omega
  have _hs := hsb
  clear _hs hks hml hv hE hxo hxs' hxn hxl hok hst hx0 hx2 hxb hE4 hsb H
  go_enter Tryz.func18, Tryz.ntmps18
  go_wp2_with (go_at_call 31; refine hC.mono ?_; rintro e w1 ⟨rfl, hk1⟩; have y := b0.kept hk1; have c0 := y.cell 0; have c1 := y.cell 1; have c2 := y.cell 2; have c3 := y.cell 3; simp at c0 c1 c2 c3)
  go_ret
  exact ⟨by rw [HW.out]; rfl, k0.trans hk1⟩
set_option maxHeartbeats 8000000 in
set_option maxRecDepth 100000 in
theorem stmt_6 (m : Nat) (H : TxEx m) (HBk : TxBk m) (s : ByteArray) (n : Int) (x y : Nd) (hx0 : x.size ≤ m) (hx2 : x.size ≤ 200) (hxb : x.bulk ≤ 1048576) (hy0 : y.size ≤ m) (hy2 : y.size ≤ 200) (hyb : y.bulk ≤ 1048576) (hok : okT x = true) (hst : st x.op = 3) (hoky : okT y = true) (hsty : y.op = 1) (w : World) (base : Nat) (v : Value) (hv : NdV w base (.mk 6 s n [x, y]) v) :
    Calls Tryz.prog 18 #[v] w fun e w' => e = .returned (.string (wT (.mk 6 s n [x, y]) ++ ⟨#[10]⟩)) ∧ Kept w w' := by
  rw [NdV] at hv
  obtain ⟨ao, cap, rfl, hml, hks⟩ := hv
  simp only [List.length_cons, List.length_nil, Nat.zero_add, Nat.reduceAdd]
  have b0 := Cells.new w 29 #[.int .i64 6, .string s, .int .i64 n, .slice ao 2 cap]
  have k0 : Kept w (w.alloc (.cells #[.int .i64 6, .string s, .int .i64 n, .slice ao 2 cap] 29)) := Kept.alloc (Below.refl _ _) _
  obtain ⟨b, off, a2, cq, rfl, g0, g1, g2, g3, hv⟩ := kid_0 hks k0 (x := x) rfl
  obtain ⟨b', off', a3, cq3, e', j0, j1, j2, j3, hvy⟩ := kid_at hks k0 (k := 1) (x := y) rfl
  injection e' with e'
  injection e' with e1 e2
  subst e1 e2
  simp only [Nat.one_mul, Nat.add_assoc, Nat.reduceAdd] at j0 j1 j2 j3
  have hC := H x hx0 hx2 hxb hok hst _ base _ hv
  have HD : Hid (∀ u, Kept (w.alloc (.cells #[.int .i64 6, .string s, .int .i64 n, .slice (some ⟨b, off, none⟩) 2 cap] 29)) u → Calls Tryz.prog 32 #[.agg #[.int .i64 y.op, .string y.s, .int .i64 y.n, .slice a3 y.kids.length cq3]] u fun e w' => e = .returned (.string (wT y)) ∧ Kept u w') := fun u hu => HBk y hy0 hy2 hyb hoky hsty u base _ (hvy.kept hu)
  have HJ : Hid (∀ u, Kept (w.alloc (.cells #[.int .i64 6, .string s, .int .i64 n, .slice (some ⟨b, off, none⟩) 2 cap] 29)) u → u.cell? ⟨b, off + 4, none⟩ = some (.int .i64 y.op) ∧ u.cell? ⟨b, off + 5, none⟩ = some (.string y.s) ∧ u.cell? ⟨b, off + 6, none⟩ = some (.int .i64 y.n) ∧ u.cell? ⟨b, off + 7, none⟩ = some (.slice a3 y.kids.length cq3)) := fun u hu => ⟨kept_cell hu j0, kept_cell hu j1, kept_cell hu j2, kept_cell hu j3⟩
  have hE4 := wT_small hok hx2 hxb
  have hF4 := wT_small hoky hy2 hyb
  have HW : Hid (wT (.mk 6 s n [x, y]) ++ ⟨#[10]⟩ = (((⟨#[119, 104, 105, 108, 101, 32, 40]⟩ ++ wT x) ++ ⟨#[41, 32]⟩) ++ wT y) ++ ⟨#[10]⟩) := by
    rw [Hid, wT]
    rfl
  obtain ⟨E, hE⟩ : ∃ E, wT x = E := ⟨_, rfl⟩
  obtain ⟨F, hF⟩ : ∃ E, wT y = E := ⟨_, rfl⟩
  rw [hE] at hC hE4 HW
  rw [hF] at HD hF4 HW
  obtain ⟨xo, hxo⟩ : ∃ o, x.op = o := ⟨_, rfl⟩
  obtain ⟨xs, hxs'⟩ : ∃ o, x.s = o := ⟨_, rfl⟩
  obtain ⟨xn, hxn⟩ : ∃ o, x.n = o := ⟨_, rfl⟩
  obtain ⟨xl, hxl⟩ : ∃ o, x.kids.length = o := ⟨_, rfl⟩
  rw [hxo, hxs', hxn, hxl] at hC
  rw [hxo] at g0
  rw [hxs'] at g1
  rw [hxn] at g2
  rw [hxl] at g3
  obtain ⟨yo, hyo⟩ : ∃ o, y.op = o := ⟨_, rfl⟩
  obtain ⟨ys, hys'⟩ : ∃ o, y.s = o := ⟨_, rfl⟩
  obtain ⟨yn, hyn⟩ : ∃ o, y.n = o := ⟨_, rfl⟩
  obtain ⟨yl, hyl⟩ : ∃ o, y.kids.length = o := ⟨_, rfl⟩
  rw [hyo, hys', hyn, hyl] at HD HJ
  have p0 : ¬ 9223372036854775807 < 7 + E.size := by omega
  have p1 : ¬ 9223372036854775807 < 7 + E.size + 2 := by omega
  have p2 : ¬ 9223372036854775807 < 7 + E.size + 2 + F.size := by omega
  have p3 : ¬ 9223372036854775807 < 7 + E.size + 2 + F.size + 1 := by omega
  clear hks hml hv hvy hE hF hxo hxs' hxn hxl hyo hys' hyn hyl hok hst hx0 hx2 hxb hoky hsty hy0 hy2 hyb hE4 hF4 H HBk j0 j1 j2 j3
  go_enter Tryz.func18, Tryz.ntmps18
  go_wp2_with (first
    | (have _tk := hk1; go_at_call 32; refine (HD.out _ hk1).mono ?_; rintro e w2 ⟨rfl, hk2⟩)
    | (go_at_call 31; refine hC.mono ?_; rintro e w1 ⟨rfl, hk1⟩; have y := b0.kept hk1; have c0 := y.cell 0; have c1 := y.cell 1; have c2 := y.cell 2; have c3 := y.cell 3; simp at c0 c1 c2 c3; obtain ⟨j0, j1, j2, j3⟩ := HJ.out _ hk1))
  go_ret
  exact ⟨by rw [HW.out]; rfl, k0.trans (hk1.trans hk2)⟩
set_option maxHeartbeats 8000000 in
set_option maxRecDepth 100000 in
theorem stmt_5a (m : Nat) (H : TxEx m) (HBk : TxBk m) (s : ByteArray) (n : Int) (x y : Nd) (hx0 : x.size ≤ m) (hx2 : x.size ≤ 200) (hxb : x.bulk ≤ 1048576) (hy0 : y.size ≤ m) (hy2 : y.size ≤ 200) (hyb : y.bulk ≤ 1048576) (hok : okT x = true) (hst : st x.op = 3) (hoky : okT y = true) (hsty : y.op = 1) (w : World) (base : Nat) (v : Value) (hv : NdV w base (.mk 5 s n [x, y]) v) :
    Calls Tryz.prog 18 #[v] w fun e w' => e = .returned (.string (wT (.mk 5 s n [x, y]) ++ ⟨#[10]⟩)) ∧ Kept w w' := by
  rw [NdV] at hv
  obtain ⟨ao, cap, rfl, hml, hks⟩ := hv
  simp only [List.length_cons, List.length_nil, Nat.zero_add, Nat.reduceAdd]
  have b0 := Cells.new w 29 #[.int .i64 5, .string s, .int .i64 n, .slice ao 2 cap]
  have k0 : Kept w (w.alloc (.cells #[.int .i64 5, .string s, .int .i64 n, .slice ao 2 cap] 29)) := Kept.alloc (Below.refl _ _) _
  obtain ⟨b, off, a2, cq, rfl, g0, g1, g2, g3, hv⟩ := kid_0 hks k0 (x := x) rfl
  obtain ⟨b', off', a3, cq3, e', j0, j1, j2, j3, hvy⟩ := kid_at hks k0 (k := 1) (x := y) rfl
  injection e' with e'
  injection e' with e1 e2
  subst e1 e2
  simp only [Nat.one_mul, Nat.add_assoc, Nat.reduceAdd] at j0 j1 j2 j3
  have hC := H x hx0 hx2 hxb hok hst _ base _ hv
  have HD : Hid (∀ u, Kept (w.alloc (.cells #[.int .i64 5, .string s, .int .i64 n, .slice (some ⟨b, off, none⟩) 2 cap] 29)) u → Calls Tryz.prog 32 #[.agg #[.int .i64 y.op, .string y.s, .int .i64 y.n, .slice a3 y.kids.length cq3]] u fun e w' => e = .returned (.string (wT y)) ∧ Kept u w') := fun u hu => HBk y hy0 hy2 hyb hoky hsty u base _ (hvy.kept hu)
  have HJ : Hid (∀ u, Kept (w.alloc (.cells #[.int .i64 5, .string s, .int .i64 n, .slice (some ⟨b, off, none⟩) 2 cap] 29)) u → u.cell? ⟨b, off + 4, none⟩ = some (.int .i64 y.op) ∧ u.cell? ⟨b, off + 5, none⟩ = some (.string y.s) ∧ u.cell? ⟨b, off + 6, none⟩ = some (.int .i64 y.n) ∧ u.cell? ⟨b, off + 7, none⟩ = some (.slice a3 y.kids.length cq3)) := fun u hu => ⟨kept_cell hu j0, kept_cell hu j1, kept_cell hu j2, kept_cell hu j3⟩
  have hE4 := wT_small hok hx2 hxb
  have hF4 := wT_small hoky hy2 hyb
  have HW : Hid (wT (.mk 5 s n [x, y]) ++ ⟨#[10]⟩ = (((⟨#[105, 102, 32, 40]⟩ ++ wT x) ++ ⟨#[41, 32]⟩) ++ wT y) ++ ⟨#[10]⟩) := by
    rw [Hid, wT]
    rfl
  obtain ⟨E, hE⟩ : ∃ E, wT x = E := ⟨_, rfl⟩
  obtain ⟨F, hF⟩ : ∃ E, wT y = E := ⟨_, rfl⟩
  rw [hE] at hC hE4 HW
  rw [hF] at HD hF4 HW
  obtain ⟨xo, hxo⟩ : ∃ o, x.op = o := ⟨_, rfl⟩
  obtain ⟨xs, hxs'⟩ : ∃ o, x.s = o := ⟨_, rfl⟩
  obtain ⟨xn, hxn⟩ : ∃ o, x.n = o := ⟨_, rfl⟩
  obtain ⟨xl, hxl⟩ : ∃ o, x.kids.length = o := ⟨_, rfl⟩
  rw [hxo, hxs', hxn, hxl] at hC
  rw [hxo] at g0
  rw [hxs'] at g1
  rw [hxn] at g2
  rw [hxl] at g3
  obtain ⟨yo, hyo⟩ : ∃ o, y.op = o := ⟨_, rfl⟩
  obtain ⟨ys, hys'⟩ : ∃ o, y.s = o := ⟨_, rfl⟩
  obtain ⟨yn, hyn⟩ : ∃ o, y.n = o := ⟨_, rfl⟩
  obtain ⟨yl, hyl⟩ : ∃ o, y.kids.length = o := ⟨_, rfl⟩
  rw [hyo, hys', hyn, hyl] at HD HJ
  have p0 : ¬ 9223372036854775807 < 4 + E.size := by omega
  have p1 : ¬ 9223372036854775807 < 4 + E.size + 2 := by omega
  have p2 : ¬ 9223372036854775807 < 4 + E.size + 2 + F.size := by omega
  have p3 : ¬ 9223372036854775807 < 4 + E.size + 2 + F.size + 1 := by omega
  clear hks hml hv hvy hE hF hxo hxs' hxn hxl hyo hys' hyn hyl hok hst hx0 hx2 hxb hoky hsty hy0 hy2 hyb hE4 hF4 H HBk j0 j1 j2 j3
  go_enter Tryz.func18, Tryz.ntmps18
  go_wp2_with (first
    | (have _tk := hk1; go_at_call 32; refine (HD.out _ hk1).mono ?_; rintro e w2 ⟨rfl, hk2⟩; have c3 := ((b0.kept hk1).kept hk2).cell 3; simp at c3)
    | (go_at_call 31; refine hC.mono ?_; rintro e w1 ⟨rfl, hk1⟩; have y := b0.kept hk1; have c0 := y.cell 0; have c1 := y.cell 1; have c2 := y.cell 2; have c3 := y.cell 3; simp at c0 c1 c2 c3; obtain ⟨j0, j1, j2, j3⟩ := HJ.out _ hk1))
  go_ret
  exact ⟨by rw [HW.out]; rfl, k0.trans (hk1.trans hk2)⟩
set_option maxHeartbeats 8000000 in
set_option maxRecDepth 100000 in
theorem stmt_5b (m : Nat) (H : TxEx m) (HBk : TxBk m) (s : ByteArray) (n : Int) (x y z : Nd) (hx0 : x.size ≤ m) (hx2 : x.size ≤ 200) (hxb : x.bulk ≤ 1048576) (hy0 : y.size ≤ m) (hy2 : y.size ≤ 200) (hyb : y.bulk ≤ 1048576) (hok : okT x = true) (hst : st x.op = 3) (hz0 : z.size ≤ m) (hz2 : z.size ≤ 200) (hzb : z.bulk ≤ 1048576) (hokz : okT z = true) (hstz : z.op = 1) (hoky : okT y = true) (hsty : y.op = 1) (w : World) (base : Nat) (v : Value) (hv : NdV w base (.mk 5 s n [x, y, z]) v) :
    Calls Tryz.prog 18 #[v] w fun e w' => e = .returned (.string (wT (.mk 5 s n [x, y, z]) ++ ⟨#[10]⟩)) ∧ Kept w w' := by
  rw [NdV] at hv
  obtain ⟨ao, cap, rfl, hml, hks⟩ := hv
  simp only [List.length_cons, List.length_nil, Nat.zero_add, Nat.reduceAdd]
  have b0 := Cells.new w 29 #[.int .i64 5, .string s, .int .i64 n, .slice ao 3 cap]
  have k0 : Kept w (w.alloc (.cells #[.int .i64 5, .string s, .int .i64 n, .slice ao 3 cap] 29)) := Kept.alloc (Below.refl _ _) _
  obtain ⟨b, off, a2, cq, rfl, g0, g1, g2, g3, hv⟩ := kid_0 hks k0 (x := x) rfl
  obtain ⟨b', off', a3, cq3, e', j0, j1, j2, j3, hvy⟩ := kid_at hks k0 (k := 1) (x := y) rfl
  injection e' with e'
  injection e' with e1 e2
  subst e1 e2
  simp only [Nat.one_mul, Nat.add_assoc, Nat.reduceAdd] at j0 j1 j2 j3
  obtain ⟨b'', off'', a5, cq5, e'', i0, i1, i2, i3, hvz⟩ := kid_at hks k0 (k := 2) (x := z) rfl
  injection e'' with e''
  injection e'' with e1 e2
  subst e1 e2
  simp only [Nat.add_assoc, Nat.reduceAdd, Nat.reduceMul] at i0 i1 i2 i3
  have hC := H x hx0 hx2 hxb hok hst _ base _ hv
  have HD : Hid (∀ u, Kept (w.alloc (.cells #[.int .i64 5, .string s, .int .i64 n, .slice (some ⟨b, off, none⟩) 3 cap] 29)) u → Calls Tryz.prog 32 #[.agg #[.int .i64 y.op, .string y.s, .int .i64 y.n, .slice a3 y.kids.length cq3]] u fun e w' => e = .returned (.string (wT y)) ∧ Kept u w') := fun u hu => HBk y hy0 hy2 hyb hoky hsty u base _ (hvy.kept hu)
  have HJ : Hid (∀ u, Kept (w.alloc (.cells #[.int .i64 5, .string s, .int .i64 n, .slice (some ⟨b, off, none⟩) 3 cap] 29)) u → u.cell? ⟨b, off + 4, none⟩ = some (.int .i64 y.op) ∧ u.cell? ⟨b, off + 5, none⟩ = some (.string y.s) ∧ u.cell? ⟨b, off + 6, none⟩ = some (.int .i64 y.n) ∧ u.cell? ⟨b, off + 7, none⟩ = some (.slice a3 y.kids.length cq3)) := fun u hu => ⟨kept_cell hu j0, kept_cell hu j1, kept_cell hu j2, kept_cell hu j3⟩
  have HG : Hid (∀ u, Kept (w.alloc (.cells #[.int .i64 5, .string s, .int .i64 n, .slice (some ⟨b, off, none⟩) 3 cap] 29)) u → Calls Tryz.prog 32 #[.agg #[.int .i64 z.op, .string z.s, .int .i64 z.n, .slice a5 z.kids.length cq5]] u fun e w' => e = .returned (.string (wT z)) ∧ Kept u w') := fun u hu => HBk z hz0 hz2 hzb hokz hstz u base _ (hvz.kept hu)
  have HI : Hid (∀ u, Kept (w.alloc (.cells #[.int .i64 5, .string s, .int .i64 n, .slice (some ⟨b, off, none⟩) 3 cap] 29)) u → u.cell? ⟨b, off + 8, none⟩ = some (.int .i64 z.op) ∧ u.cell? ⟨b, off + 9, none⟩ = some (.string z.s) ∧ u.cell? ⟨b, off + 10, none⟩ = some (.int .i64 z.n) ∧ u.cell? ⟨b, off + 11, none⟩ = some (.slice a5 z.kids.length cq5)) := fun u hu => ⟨kept_cell hu i0, kept_cell hu i1, kept_cell hu i2, kept_cell hu i3⟩
  have HBB : Hid (∀ u, Kept (w.alloc (.cells #[.int .i64 5, .string s, .int .i64 n, .slice (some ⟨b, off, none⟩) 3 cap] 29)) u → u.cell? ⟨w.heap.size, 3, none⟩ = some (.slice (some ⟨b, off, none⟩) 3 cap)) := fun u hu => (b0.kept hu).cell 3
  have hG4 := wT_small hokz hz2 hzb
  have hE4 := wT_small hok hx2 hxb
  have hF4 := wT_small hoky hy2 hyb
  have HW : Hid (wT (.mk 5 s n [x, y, z]) ++ ⟨#[10]⟩ = (((((⟨#[105, 102, 32, 40]⟩ ++ wT x) ++ ⟨#[41, 32]⟩) ++ wT y) ++ ⟨#[32, 101, 108, 115, 101, 32]⟩) ++ wT z) ++ ⟨#[10]⟩) := by
    rw [Hid, wT]
    rfl
  obtain ⟨E, hE⟩ : ∃ E, wT x = E := ⟨_, rfl⟩
  obtain ⟨F, hF⟩ : ∃ E, wT y = E := ⟨_, rfl⟩
  rw [hE] at hC hE4 HW
  rw [hF] at HD hF4 HW
  obtain ⟨G, hG⟩ : ∃ E, wT z = E := ⟨_, rfl⟩
  rw [hG] at HG hG4 HW
  obtain ⟨zo, hzo⟩ : ∃ o, z.op = o := ⟨_, rfl⟩
  obtain ⟨zs, hzs'⟩ : ∃ o, z.s = o := ⟨_, rfl⟩
  obtain ⟨zn, hzn⟩ : ∃ o, z.n = o := ⟨_, rfl⟩
  obtain ⟨zl, hzl⟩ : ∃ o, z.kids.length = o := ⟨_, rfl⟩
  rw [hzo, hzs', hzn, hzl] at HG HI
  obtain ⟨xo, hxo⟩ : ∃ o, x.op = o := ⟨_, rfl⟩
  obtain ⟨xs, hxs'⟩ : ∃ o, x.s = o := ⟨_, rfl⟩
  obtain ⟨xn, hxn⟩ : ∃ o, x.n = o := ⟨_, rfl⟩
  obtain ⟨xl, hxl⟩ : ∃ o, x.kids.length = o := ⟨_, rfl⟩
  rw [hxo, hxs', hxn, hxl] at hC
  rw [hxo] at g0
  rw [hxs'] at g1
  rw [hxn] at g2
  rw [hxl] at g3
  obtain ⟨yo, hyo⟩ : ∃ o, y.op = o := ⟨_, rfl⟩
  obtain ⟨ys, hys'⟩ : ∃ o, y.s = o := ⟨_, rfl⟩
  obtain ⟨yn, hyn⟩ : ∃ o, y.n = o := ⟨_, rfl⟩
  obtain ⟨yl, hyl⟩ : ∃ o, y.kids.length = o := ⟨_, rfl⟩
  rw [hyo, hys', hyn, hyl] at HD HJ
  have p0 : ¬ 9223372036854775807 < 4 + E.size := by omega
  have p1 : ¬ 9223372036854775807 < 4 + E.size + 2 := by omega
  have p2 : ¬ 9223372036854775807 < 4 + E.size + 2 + F.size := by omega
  have p3 : ¬ 9223372036854775807 < 4 + E.size + 2 + F.size + 6 := by omega
  have p4 : ¬ 9223372036854775807 < 4 + E.size + 2 + F.size + 6 + G.size := by omega
  have p5 : ¬ 9223372036854775807 < 4 + E.size + 2 + F.size + 6 + G.size + 1 := by omega
  clear hG hzo hzs' hzn hzl hvz hz0 hz2 hzb hokz hstz hG4 i0 i1 i2 i3
  clear hks hml hv hvy hE hF hxo hxs' hxn hxl hyo hys' hyn hyl hok hst hx0 hx2 hxb hoky hsty hy0 hy2 hyb hE4 hF4 H HBk j0 j1 j2 j3
  go_enter Tryz.func18, Tryz.ntmps18
  go_wp2_with (first
    | (have _tk := hk2; go_at_call 32; refine (HG.out _ (hk1.trans hk2)).mono ?_; rintro e w3 ⟨rfl, hk3⟩)
    | (have _tk := hk1; go_at_call 32; refine (HD.out _ hk1).mono ?_; rintro e w2 ⟨rfl, hk2⟩; obtain ⟨i0, i1, i2, i3⟩ := HI.out _ (hk1.trans hk2); have c3 := HBB.out _ (hk1.trans hk2))
    | (go_at_call 31; refine hC.mono ?_; rintro e w1 ⟨rfl, hk1⟩; have y := b0.kept hk1; have c0 := y.cell 0; have c1 := y.cell 1; have c2 := y.cell 2; have c3 := y.cell 3; simp at c0 c1 c2 c3; obtain ⟨j0, j1, j2, j3⟩ := HJ.out _ hk1))
  go_ret
  exact ⟨by rw [HW.out]; rfl, k0.trans ((hk1.trans hk2).trans hk3)⟩
set_option maxHeartbeats 8000000 in
set_option maxRecDepth 100000 in
theorem stmt_4 (m : Nat) (H : TxEx m) (s : ByteArray) (n : Int) (x y : Nd) (hx0 : x.size ≤ m) (hx2 : x.size ≤ 200) (hxb : x.bulk ≤ 1048576) (hy0 : y.size ≤ m) (hy2 : y.size ≤ 200) (hyb : y.bulk ≤ 1048576) (hok : okT x = true) (hst : st x.op = 3) (hoky : okT y = true) (hsty : st y.op = 3) (hsb : s.size ≤ 1048576) (w : World) (base : Nat) (v : Value) (hv : NdV w base (.mk 4 s n [x, y]) v) :
    Calls Tryz.prog 18 #[v] w fun e w' => e = .returned (.string (wT (.mk 4 s n [x, y]) ++ ⟨#[10]⟩)) ∧ Kept w w' := by
  rw [NdV] at hv
  obtain ⟨ao, cap, rfl, hml, hks⟩ := hv
  simp only [List.length_cons, List.length_nil, Nat.zero_add, Nat.reduceAdd]
  have b0 := Cells.new w 29 #[.int .i64 4, .string s, .int .i64 n, .slice ao 2 cap]
  have k0 : Kept w (w.alloc (.cells #[.int .i64 4, .string s, .int .i64 n, .slice ao 2 cap] 29)) := Kept.alloc (Below.refl _ _) _
  obtain ⟨b, off, a2, cq, rfl, g0, g1, g2, g3, hv⟩ := kid_0 hks k0 (x := x) rfl
  obtain ⟨b', off', a3, cq3, e', j0, j1, j2, j3, hvy⟩ := kid_at hks k0 (k := 1) (x := y) rfl
  injection e' with e'
  injection e' with e1 e2
  subst e1 e2
  simp only [Nat.one_mul, Nat.add_assoc, Nat.reduceAdd] at j0 j1 j2 j3
  have hC := H x hx0 hx2 hxb hok hst _ base _ hv
  have HD : Hid (∀ u, Kept (w.alloc (.cells #[.int .i64 4, .string s, .int .i64 n, .slice (some ⟨b, off, none⟩) 2 cap] 29)) u → Calls Tryz.prog 31 #[.agg #[.int .i64 y.op, .string y.s, .int .i64 y.n, .slice a3 y.kids.length cq3]] u fun e w' => e = .returned (.string (wT y)) ∧ Kept u w') := fun u hu => H y hy0 hy2 hyb hoky hsty u base _ (hvy.kept hu)
  have HJ : Hid (∀ u, Kept (w.alloc (.cells #[.int .i64 4, .string s, .int .i64 n, .slice (some ⟨b, off, none⟩) 2 cap] 29)) u → u.cell? ⟨b, off + 4, none⟩ = some (.int .i64 y.op) ∧ u.cell? ⟨b, off + 5, none⟩ = some (.string y.s) ∧ u.cell? ⟨b, off + 6, none⟩ = some (.int .i64 y.n) ∧ u.cell? ⟨b, off + 7, none⟩ = some (.slice a3 y.kids.length cq3)) := fun u hu => ⟨kept_cell hu j0, kept_cell hu j1, kept_cell hu j2, kept_cell hu j3⟩
  have hE4 := wT_small hok hx2 hxb
  have hF4 := wT_small hoky hy2 hyb
  have HW : Hid (wT (.mk 4 s n [x, y]) ++ ⟨#[10]⟩ = (((((⟨#[40]⟩ ++ wT x) ++ ⟨#[41, 46]⟩) ++ s) ++ ⟨#[32, 61, 32]⟩) ++ wT y) ++ ⟨#[59, 10]⟩) := by
    rw [Hid, wT]
    show ((((((⟨#[40]⟩ ++ wT x) ++ ⟨#[41, 46]⟩) ++ s) ++ ⟨#[32, 61, 32]⟩) ++ wT y) ++ ⟨#[59]⟩) ++ ⟨#[10]⟩ = _
    rw [ByteArray.append_assoc, semi_nl]
  obtain ⟨E, hE⟩ : ∃ E, wT x = E := ⟨_, rfl⟩
  obtain ⟨F, hF⟩ : ∃ E, wT y = E := ⟨_, rfl⟩
  rw [hE] at hC hE4 HW
  rw [hF] at HD hF4 HW
  obtain ⟨xo, hxo⟩ : ∃ o, x.op = o := ⟨_, rfl⟩
  obtain ⟨xs, hxs'⟩ : ∃ o, x.s = o := ⟨_, rfl⟩
  obtain ⟨xn, hxn⟩ : ∃ o, x.n = o := ⟨_, rfl⟩
  obtain ⟨xl, hxl⟩ : ∃ o, x.kids.length = o := ⟨_, rfl⟩
  rw [hxo, hxs', hxn, hxl] at hC
  rw [hxo] at g0
  rw [hxs'] at g1
  rw [hxn] at g2
  rw [hxl] at g3
  obtain ⟨yo, hyo⟩ : ∃ o, y.op = o := ⟨_, rfl⟩
  obtain ⟨ys, hys'⟩ : ∃ o, y.s = o := ⟨_, rfl⟩
  obtain ⟨yn, hyn⟩ : ∃ o, y.n = o := ⟨_, rfl⟩
  obtain ⟨yl, hyl⟩ : ∃ o, y.kids.length = o := ⟨_, rfl⟩
  rw [hyo, hys', hyn, hyl] at HD HJ
  have p0 : ¬ 9223372036854775807 < 1 + E.size := by omega
  have p1 : ¬ 9223372036854775807 < 1 + E.size + 2 := by omega
  have p2 : ¬ 9223372036854775807 < 1 + E.size + 2 + s.size := by omega
  have p3 : ¬ 9223372036854775807 < 1 + E.size + 2 + s.size + 3 := by omega
  have p4 : ¬ 9223372036854775807 < 1 + E.size + 2 + s.size + 3 + F.size := by omega
  have p5 : ¬ 9223372036854775807 < 1 + E.size + 2 + s.size + 3 + F.size + 2 := by omega
  clear hks hml hv hvy hE hF hxo hxs' hxn hxl hyo hys' hyn hyl hok hst hx0 hx2 hxb hoky hsty hy0 hy2 hyb hE4 hF4 hsb H j0 j1 j2 j3
  go_enter Tryz.func18, Tryz.ntmps18
  go_wp2_with (go_at_call 31; refine hC.mono ?_; rintro e w1 ⟨rfl, hk1⟩; have yb := b0.kept hk1; have c0 := yb.cell 0; have c1 := yb.cell 1; have c2 := yb.cell 2; have c3 := yb.cell 3; simp at c0 c1 c2 c3)
  have kd : Kept w1 w1.drew := (Below.refl _ w1).drew
  have X1 : ∀ u, Kept w1.drew u → u.cell? ⟨w.heap.size, 1, none⟩ = some (.string s) := fun u hu => kept_cell (kd.trans hu) c1
  have X3 : ∀ u, Kept w1.drew u → u.cell? ⟨w.heap.size, 3, none⟩ = some (.slice (some ⟨b, off, none⟩) 2 cap) := fun u hu => kept_cell (kd.trans hu) c3
  have Y0 : ∀ u, Kept w1.drew u → u.cell? ⟨b, off + 4, none⟩ = some (.int .i64 yo) := fun u hu => (HJ.out u (hk1.trans (kd.trans hu))).1
  have Y1 : ∀ u, Kept w1.drew u → u.cell? ⟨b, off + 5, none⟩ = some (.string ys) := fun u hu => (HJ.out u (hk1.trans (kd.trans hu))).2.1
  have Y2 : ∀ u, Kept w1.drew u → u.cell? ⟨b, off + 6, none⟩ = some (.int .i64 yn) := fun u hu => (HJ.out u (hk1.trans (kd.trans hu))).2.2.1
  have Y3 : ∀ u, Kept w1.drew u → u.cell? ⟨b, off + 7, none⟩ = some (.slice a3 yl cq3) := fun u hu => (HJ.out u (hk1.trans (kd.trans hu))).2.2.2
  have hC2 : Hid (∀ u, Kept w1.drew u → Calls Tryz.prog 31 #[.agg #[.int .i64 yo, .string ys, .int .i64 yn, .slice a3 yl cq3]] u fun e w' => e = .returned (.string F) ∧ Kept u w') := fun u hu => HD.out u (hk1.trans (kd.trans hu))
  refine wp_region_seqL (by kernel_rfl) (by kernel_rfl) ?_
  repeat (first
    | (refine SeqL.skip (by rfl) ?_; simp only [Act.put, List.setIfInBounds_toArray, List.set_cons_zero, List.set_cons_succ])
    | (refine SeqL.pure ?_ (by rfl) ?_ ?_; rotate_left; (focus (intro u hu; have x1' := X1 u hu; have x3' := X3 u hu; have y0' := Y0 u hu; have y1' := Y1 u hu; have y2' := Y2 u hu; have y3' := Y3 u hu; go_simp; first | done | exact rfl)); simp only [Act.put, List.setIfInBounds_toArray, List.set_cons_zero, List.set_cons_succ])
    | (refine SeqL.call _ _ _ (by rfl) ?_ hC2.out ?_; (focus (intro u; go_simp; done)); simp only [Act.put, List.setIfInBounds_toArray, List.set_cons_zero, List.set_cons_succ]))
  refine SeqL.nil ?_
  intro w2 hk2
  go_simp
  go_wp2_with fail
  go_ret
  exact ⟨by rw [HW.out]; rfl, k0.trans (hk1.trans (kd.trans hk2))⟩
/-- spec.l13Stmt, of exprs and blocks that are smaller. -/
theorem l13Stmt_step (m : Nat) (H : TxEx m) (HBk : TxBk m) : TxSt (m + 1) := by
  intro t ht h200 hb hok hst w base v hv
  cases t with
  | mk op s n ks =>
  have hst : st op = 2 := hst
  have ho := (st_op (op := op)).2.1.1 hst
  obtain ⟨_, hc, hkk⟩ := okT_parts hok
  simp only [Nd.size, Nd.bulk] at ht h200 hb
  have hk := (okK_iffT ks 0).1 hkk
  have part : ∀ j x, ks[j]? = some x → okT x = true ∧ st x.op = wantAt op j ∧ x.size ≤ m ∧ x.size ≤ 200 ∧ x.bulk ≤ 1048576 := fun j x hx => by
    have h := hk j x hx
    rw [Nat.zero_add] at h
    unfold stOk at h
    rw [Bool.and_eq_true, decide_eq_true_eq] at h
    have h1 := size_mem hx
    have h2 := bulk_mem hx
    exact ⟨h.2, h.1, by omega, by omega, by omega⟩
  have hs : s.size ≤ 1048576 := by omega
  have one : ∀ k, (op = k ∧ (k = 2 ∨ k = 3 ∨ k = 7 ∨ k = 8 ∨ k = 9)) → ∃ x, ks = [x] := fun k h => by
    have h1 : ks.length = 1 := by
      obtain ⟨rfl, h | h | h | h | h⟩ := h <;> subst h <;> simpa [countB, one1] using hc
    match ks, h1 with
    | [x], _ => exact ⟨x, rfl⟩
  rcases (show op = 2 ∨ op = 3 ∨ op = 4 ∨ op = 5 ∨ op = 6 ∨ op = 7 ∨ op = 8 ∨ op = 9 by omega) with rfl | rfl | rfl | rfl | rfl | rfl | rfl | rfl
  · obtain ⟨x, rfl⟩ := one 2 (by decide)
    obtain ⟨a1, a2, a3, a4, a5⟩ := part 0 x rfl
    exact stmt_2 m H s n x a3 a4 a5 hs a1 a2 w base v hv
  · obtain ⟨x, rfl⟩ := one 3 (by decide)
    obtain ⟨a1, a2, a3, a4, a5⟩ := part 0 x rfl
    exact stmt_3 m H s n x a3 a4 a5 hs a1 a2 w base v hv
  · have h1 : ks.length = 2 := by simpa [countB, one1, two2] using hc
    match ks, h1 with
    | [x, y], _ =>
      obtain ⟨a1, a2, a3, a4, a5⟩ := part 0 x rfl
      obtain ⟨b1, b2, b3, b4, b5⟩ := part 1 y rfl
      exact stmt_4 m H s n x y a3 a4 a5 b3 b4 b5 a1 a2 b1 b2 hs w base v hv
  · have h1 : 2 ≤ ks.length ∧ ks.length ≤ 3 := by simpa [countB, one1, two2] using hc
    match ks, h1 with
    | [x, y], _ =>
      obtain ⟨a1, a2, a3, a4, a5⟩ := part 0 x rfl
      obtain ⟨b1, b2, b3, b4, b5⟩ := part 1 y rfl
      exact stmt_5a m H HBk s n x y a3 a4 a5 b3 b4 b5 a1 a2 b1 ((st_op (op := y.op)).1.1 b2) w base v hv
    | [x, y, z], _ =>
      obtain ⟨a1, a2, a3, a4, a5⟩ := part 0 x rfl
      obtain ⟨b1, b2, b3, b4, b5⟩ := part 1 y rfl
      obtain ⟨c1, c2, c3, c4, c5⟩ := part 2 z rfl
      exact stmt_5b m H HBk s n x y z a3 a4 a5 b3 b4 b5 a1 a2 c3 c4 c5 c1 ((st_op (op := z.op)).1.1 c2) b1 ((st_op (op := y.op)).1.1 b2) w base v hv
    | [], h => simp at h
    | [x], h => simp at h
    | a :: b :: c :: d :: r, h => simp at h
  · have h1 : ks.length = 2 := by simpa [countB, one1, two2] using hc
    match ks, h1 with
    | [x, y], _ =>
      obtain ⟨a1, a2, a3, a4, a5⟩ := part 0 x rfl
      obtain ⟨b1, b2, b3, b4, b5⟩ := part 1 y rfl
      exact stmt_6 m H HBk s n x y a3 a4 a5 b3 b4 b5 a1 a2 b1 ((st_op (op := y.op)).1.1 b2) w base v hv
  · obtain ⟨x, rfl⟩ := one 7 (by decide)
    obtain ⟨a1, a2, a3, a4, a5⟩ := part 0 x rfl
    exact stmt_7 m H s n x a3 a4 a5 hs a1 a2 w base v hv
  · obtain ⟨x, rfl⟩ := one 8 (by decide)
    obtain ⟨a1, a2, a3, a4, a5⟩ := part 0 x rfl
    exact stmt_8 m H s n x a3 a4 a5 hs a1 a2 w base v hv
  · obtain ⟨x, rfl⟩ := one 9 (by decide)
    obtain ⟨a1, a2, a3, a4, a5⟩ := part 0 x rfl
    exact stmt_9 m H s n x a3 a4 a5 hs a1 a2 w base v hv
end Go.Proofs.YtejpjbfmjmfnmaaGreatDoor
