/-
  Chapter 12's models, weakly told: words, what a word begins, functions (genPar2.py).
-/
import Derived.Test.YtdcjfeihcafndaaParD
namespace Go.Proofs.Ytdcjfeihcafndaa
open Go.RowKit
set_option linter.unusedSimpArgs false
attribute [local go_sem] Plain.and7

set_option maxHeartbeats 4000000 in
theorem l12Words_ok (w : World) (c g cap : Nat) (ts : List Tok) (p : Nat) (bad : Int) (h : PaW w c g cap ts p bad) (x : Tok) (hx : ts[p]? = some x) :
    Calls Try.prog 54 #[.pointer (some ⟨c, 0, none⟩)] w fun e w' => ∃ op, e = .returned (.int .i64 op) ∧ (op ≠ 0 → bad < 0 ∧ x.k = 1 ∧ op ≠ 17) ∧ Kept w w' := by
  have HG : Hid (∀ u s, Kept w u → Calls Try.prog 31 #[.pointer (some ⟨c, 0, none⟩), .string s] u fun e w' => e = .returned (.bool (isT 1 x bad s)) ∧ Kept u w') := fun u s hu => l12Is_ok u c g cap ts p bad (h.kept hu) x hx s
  have kz : Kept w w := Below.refl _ _
  have HY : Hid (∀ s, isT 1 x bad s = true → bad < 0 ∧ x.k = 1) := fun s hi => isT_yes hi
  cases h1 : isT 1 x bad ⟨#[116, 114, 117, 101]⟩ with
  | true =>
    go_enter Try.func54, Try.ntmps54
    go_wp2_with (go_at_call 31; refine (HG.out _ _ kz).mono ?_; rintro e wa ⟨rfl, k1⟩; have kz := Kept.trans kz k1)
    go_ret
    exact ⟨_, rfl, fun _ => ⟨(HY.out _ h1).1, (HY.out _ h1).2, by decide⟩, kz⟩
  | false =>
    cases h2 : isT 1 x bad ⟨#[102, 97, 108, 115, 101]⟩ with
    | true =>
      go_enter Try.func54, Try.ntmps54
      go_wp2_with (go_at_call 31; refine (HG.out _ _ kz).mono ?_; rintro e wa ⟨rfl, k1⟩; have kz := Kept.trans kz k1)
      go_ret
      exact ⟨_, rfl, fun _ => ⟨(HY.out _ h2).1, (HY.out _ h2).2, by decide⟩, kz⟩
    | false =>
      cases h3 : isT 1 x bad ⟨#[110, 117, 108, 108]⟩ with
      | true =>
        go_enter Try.func54, Try.ntmps54
        go_wp2_with (go_at_call 31; refine (HG.out _ _ kz).mono ?_; rintro e wa ⟨rfl, k1⟩; have kz := Kept.trans kz k1)
        go_ret
        exact ⟨_, rfl, fun _ => ⟨(HY.out _ h3).1, (HY.out _ h3).2, by decide⟩, kz⟩
      | false =>
        cases h4 : isT 1 x bad ⟨#[117, 110, 100, 101, 102, 105, 110, 101, 100]⟩ with
        | true =>
          go_enter Try.func54, Try.ntmps54
          go_wp2_with (go_at_call 31; refine (HG.out _ _ kz).mono ?_; rintro e wa ⟨rfl, k1⟩; have kz := Kept.trans kz k1)
          go_ret
          exact ⟨_, rfl, fun _ => ⟨(HY.out _ h4).1, (HY.out _ h4).2, by decide⟩, kz⟩
        | false =>
          go_enter Try.func54, Try.ntmps54
          go_wp2_with (go_at_call 31; refine (HG.out _ _ kz).mono ?_; rintro e wa ⟨rfl, k1⟩; have kz := Kept.trans kz k1)
          go_ret
          exact ⟨_, rfl, fun h => absurd rfl h, kz⟩
/-- A node around a tree that came behind at least one token. -/
theorem Bnd.around {p : Nat} {bad : Int} {p1 : Nat} {bad1 : Int} {t : Nd} {p2 : Nat} {bad2 : Int} {p3 : Nat} {bad3 : Int} (hb : bad < 0) (hp : p + 1 ≤ p1) (h : Bnd 1 p1 bad1 p2 bad2 t) (hT : (p3 = p2 ∧ bad3 = bad2) ∨ TakeR p2 bad2 p3 bad3) (op n : Int) (s : ByteArray) : Bnd 1 p bad p3 bad3 (.mk op s n [t]) := by
  have hl := h.le
  have hg := h.good
  have hw := h.wrong
  have hp3 : p2 ≤ p3 := by
    rcases hT with ⟨e, _⟩ | ⟨a, b, e⟩ | ⟨e, b⟩ <;> omega
  refine ⟨by omega, .inl hb, fun h3 => ?_, fun h3 => ?_, fun _ => by simp⟩
  · simp only [Nd.size, sizesN]
    have : bad2 < 0 := by rcases hT with ⟨e, e2⟩ | ⟨a, b, e⟩ | ⟨e, b⟩ <;> omega
    have := hg this
    omega
  · simp only [Nd.size, sizesN]
    by_cases h2 : bad2 < 0
    · have := hg h2; omega
    · have := hw (by omega); omega
def EOk (F : FuncId) (c g cap : Nat) (ts : List Tok) (m : Nat) : Prop := ∀ w p bad op, PaW w c g cap ts p bad → bad < 0 → p + 1 < ts.length → ts.length - p ≤ m + 1 →
  Calls Try.prog F #[.pointer (some ⟨c, 0, none⟩), .int .i64 op] w fun e w' => ∃ t v p' bad', e = .returned v ∧ NdS w' (fun b => w.heap.size ≤ b) t v ∧ PaW w' c g cap ts p' bad' ∧ Keeps c w w' ∧ Bnd 1 p bad p' bad' t
set_option maxHeartbeats 8000000 in
set_option maxRecDepth 100000 in
theorem l12Ends_ok (c g cap : Nat) (ts : List Tok) (hts : TsOk ts) (m : Nat) (hU : POk 35 1 c g cap ts m) : EOk 37 c g cap ts m := by
  intro w p bad op h hb hn hm
  have k0 : Kept w (w.alloc (.cells zeroN 26)) := Kept.alloc (Below.refl _ _) _
  have hC := l12Next_ok _ c g cap ts p bad (h.kept k0) hts
  rw [if_pos hn] at hC
  have HS : Hid (c < w.heap.size ∧ g < w.heap.size) := ⟨h.cur.lt, h.glt⟩
  have HU : Hid (POk 35 1 c g cap ts m) := hU
  have HT : Hid (TsOk ts) := hts
  clear hU hts
  go_enter Try.func37, Try.ntmps37
  go_wp2_with (first
    | (have _tk := L3; go_at_call 39; refine (l12Node_ok _ _ _ _ _).mono ?_; rintro e w5 ⟨rfl, k5⟩; have L5 := (L3.kept (Kept.alloc (Below.refl _ w3) (.cells #[.int .i64 op2, .string s2, .int .i64 n2, .slice ao2 l2 cp2] 26))).kept k5; have rx := L5.res; have d0 := rx.cell 0; have d1 := rx.cell 1; have d2 := rx.cell 2; have d3 := rx.cell 3; have g0 := rx.frozen 0; have g1 := rx.frozen 1; have g2 := rx.frozen 2; have g3 := rx.frozen 3; have rl := rx.lt)
    | (have _tk := L2; go_at_call 34; refine (l12Take_ok _ c _ cap ts p2 bad2 L2.pa HT.out _).mono ?_; rintro e w3 ⟨rfl, hk3, p3, bad3, hT3, hp3⟩; have L3 := L2.step hk3 hp3; have bx := L3.box; have c0 := bx.cell 0; have c1 := bx.cell 1; have c2 := bx.cell 2; have c3 := bx.cell 3)
    | (have _tk := hk1; go_at_call 35; refine (HU.out _ _ _ hp1 (by omega)).mono ?_; rintro e w2 ⟨t2, v2, p2, bad2, rfl, ht2, hp2, hk2, hB2⟩; obtain ⟨op2, s2, n2, ao2, l2, cp2, rfl⟩ := ht2.four; have L2 := Loc.first HS.out (hk1.trans hk2) hp2 (NdS.mono (fun b hb _ => Nat.le_trans hk1.size hb) _ _ ht2))
    | (go_at_call 32; refine hC.mono ?_; rintro e w1 ⟨rfl, hk1, hp1⟩))
  have hN := NdS.one L3.tree (by have := L3.box.lt; have := L3.x; omega) op 0 ⟨#[]⟩ (by decide)
  obtain ⟨r1, r2, r3, r4⟩ := L5.ret (NdS.stay (Stays.kept k5 _) _ _ hN)
  have z0 := r4.cell 0; have z1 := r4.cell 1; have z2 := r4.cell 2; have z3 := r4.cell 3
  exact bodyPost_ret (v := .agg #[.int .i64 op, .string ⟨#[]⟩, .int .i64 0, .slice (some ⟨w3.heap.size, 0, none⟩) 1 1]) (by simp [results, Try.results37, go_sem, z0, z1, z2, z3]) rfl ⟨_, _, p3, bad3, rfl, r1, r2, r3, hB2.around (p := p) (bad := bad) hb (Nat.le_refl _) (.inr hT3) op 0 ⟨#[]⟩⟩
def FOk (F : FuncId) (c g cap : Nat) (ts : List Tok) (m : Nat) : Prop := ∀ w p bad, PaW w c g cap ts p bad → bad < 0 → p + 1 < ts.length → ts.length - p ≤ m + 1 →
  Calls Try.prog F #[.pointer (some ⟨c, 0, none⟩)] w fun e w' => ∃ t v p' bad', e = .returned v ∧ NdS w' (fun b => w.heap.size ≤ b) t v ∧ PaW w' c g cap ts p' bad' ∧ Keeps c w w' ∧ Bnd 1 p bad p' bad' t
set_option maxHeartbeats 8000000 in
set_option maxRecDepth 100000 in
theorem l12Function_ok (c g cap : Nat) (ts : List Tok) (hts : TsOk ts) (m : Nat) (hU : POk 49 1 c g cap ts m) : FOk 56 c g cap ts m := by
  intro w p bad h hb hn hm
  have k0 : Kept w (w.alloc (.cells zeroN 26)) := Kept.alloc (Below.refl _ _) _
  have hC := l12Next_ok _ c g cap ts p bad (h.kept k0) hts
  rw [if_pos hn] at hC
  have HS : Hid (c < w.heap.size ∧ g < w.heap.size) := ⟨h.cur.lt, h.glt⟩
  have HU : Hid (POk 49 1 c g cap ts m) := hU
  have HT : Hid (TsOk ts) := hts
  have hlen := hts.len
  clear hU hts
  go_enter Try.func56, Try.ntmps56
  go_wp2_with (first
    | (have _tk := hk1; go_at_call 34; refine (l12Take_ok _ c _ cap ts (p + 1) bad hp1 HT.out _).mono ?_; rintro e w2 ⟨rfl, hk2, p2, bad2, hT2, hp2⟩)
    | (go_at_call 32; refine hC.mono ?_; rintro e w1 ⟨rfl, hk1, hp1⟩))
  have HK0 : Hid (Keeps c (w.alloc (.cells zeroN 26)) w2) := hk1.trans hk2
  have HP0 : Hid _ := hp2
  have hq0 : p + 1 ≤ p2 := by rcases hT2 with ⟨a, b, e⟩ | ⟨e, b⟩ <;> omega
  clear hC hk1 hp1 hk2 hp2 hT2
  go_loopg [3, 4] (2 * ts.length + 2) (fun gk nv kv wr => ∃ p' bad' s k, nv = .string s ∧ kv = .int .i64 (k : Nat) ∧ 2 * (ts.length - p') + (if bad' < 0 then 1 else 0) ≤ gk ∧ p + 1 ≤ p' ∧ (bad' < 0 → s.size ≤ 1048577 * (p' - p) ∧ k ≤ p' - p) ∧ (0 ≤ bad' → s.size ≤ 1048577 * (p' - p + 1) ∧ k ≤ p' - p + 1) ∧ Hid (Keeps c (w.alloc (.cells zeroN 26)) wr) ∧ Hid (PaW wr c g cap ts p' bad'))
  case atStart => exact ⟨p2, bad2, ⟨#[]⟩, 0, rfl, rfl, by split <;> omega, hq0, fun _ => ⟨Nat.zero_le _, Nat.zero_le _⟩, fun _ => ⟨Nat.zero_le _, Nat.zero_le _⟩, HK0.out, HP0.out⟩
  case round =>
    obtain ⟨p', bad', s, k, rfl, rfl, hgk, hpp, hg1, hg2, hK, hP⟩ := hrel
    clear HK0 HP0 hq0
    obtain ⟨x, hx⟩ : ∃ x, ts[p']? = some x := ⟨ts[p']'hP.out.lt, List.getElem?_eq_getElem hP.out.lt⟩
    have hlt := hP.out.lt
    have HG : Hid (∀ u s, Kept wr u → Calls Try.prog 38 #[.pointer (some ⟨c, 0, none⟩), .string s] u fun e w' => e = .returned (.bool (isT 4 x bad' s)) ∧ Kept u w') := fun u s hu => l12Sign_ok u c g cap ts p' bad' (hP.out.kept hu) x hx s
    have kz : Kept wr wr := Below.refl _ _
    have e2 := hP.out.cur.cell 2
    simp at e2
    have hss : s.size ≤ 1048577 * 802 := by
      by_cases hb : bad' < 0
      · have := (hg1 hb).1; have : 1048577 * (p' - p) ≤ 1048577 * 802 := Nat.mul_le_mul_left _ (by omega); omega
      · have := (hg2 (by omega)).1; have : 1048577 * (p' - p + 1) ≤ 1048577 * 802 := Nat.mul_le_mul_left _ (by omega); omega
    by_cases hb' : bad' < 0
    · cases hi2 : isT 4 x bad' ⟨#[41]⟩ with
      | true =>
        go_wp2_with (first
          | (have _tk := hT2; go_at_call 49; refine (HU.out _ _ _ hp2 (by rcases hT2 with ⟨_, _, e⟩ | ⟨e, _⟩ <;> omega)).mono ?_; rintro e w3 ⟨t3, v3, p3, bad3, rfl, ht3, hp3, hk3, hB3⟩; obtain ⟨op3, s3, n3, ao3, l3, cp3, rfl⟩ := ht3.four; have L3 := Loc.first HS.out ((hK.out.trans (kz.keeps.trans hk2)).trans hk3) hp3 (NdS.mono (fun b hb _ => Nat.le_trans (hK.out.trans (kz.keeps.trans hk2)).size hb) _ _ ht3); have bx := L3.box; have c0 := bx.cell 0; have c1 := bx.cell 1; have c2 := bx.cell 2; have c3 := bx.cell 3; have L4 := L3.kept (Kept.alloc (Below.refl _ (w3.alloc (.cells #[.int .i64 op3, .string s3, .int .i64 n3, .slice ao3 l3 cp3] 26))) (.cells #[.int .i64 op3, .string s3, .int .i64 n3, .slice ao3 l3 cp3] 26)); have rx := L4.res; have d0 := rx.cell 0; have d1 := rx.cell 1; have d2 := rx.cell 2; have d3 := rx.cell 3; have g0 := rx.frozen 0; have g1 := rx.frozen 1; have g2 := rx.frozen 2; have g3 := rx.frozen 3; have rl := rx.lt)
          | (go_at_call 34; refine (l12Take_ok _ c _ cap ts p' bad' (hP.out.kept kz) HT.out _).mono ?_; rintro e w2 ⟨rfl, hk2, p2, bad2, hT2, hp2⟩)
          | (go_at_call 38; refine (HG.out _ _ kz).mono ?_; rintro e wa ⟨rfl, k1⟩; have kz := Kept.trans kz k1))
        have hN := NdS.one L3.tree (by have := L3.box.lt; have := L3.x; omega) 27 0 s (by unfold maxLen; omega)
        simp only [World.size_alloc] at hN
        obtain ⟨r1, r2, r3, r4⟩ := L4.ret hN
        have z0 := r4.cell 0; have z1 := r4.cell 1; have z2 := r4.cell 2; have z3 := r4.cell 3
        exact bodyPost_ret (v := .agg #[.int .i64 27, .string s, .int .i64 0, .slice (some ⟨w3.heap.size + 1, 0, none⟩) 1 1]) (by simp [results, Try.results56, go_sem, z0, z1, z2, z3]) rfl ⟨_, _, p3, bad3, rfl, r1, r2, r3, hB3.around (p := p) (bad := bad) hb (by rcases hT2 with ⟨_, _, e⟩ | ⟨e, _⟩ <;> omega) (.inl ⟨rfl, rfl⟩) 27 0 s⟩
      | false =>
        obtain ⟨h1, h2⟩ := hg1 hb'
        have hgk2 : 2 * (ts.length - p') + 1 ≤ gk := by rw [if_pos hb'] at hgk; exact hgk
        clear hgk hg1 hg2
        by_cases hk0 : 0 < k
        · have q1 : (0 : Int) < (k : Int) := by omega
          have a1 : s.size + 1 ≤ 9223372036854775807 := by omega
          go_wp2_with (first
            | (have _tk := hT2; go_at_call 33; refine (l12Name_ok _ c _ cap ts p2 bad2 hp2 HT.out false).mono ?_; rintro e w3 ⟨s3, p3, bad3, rfl, hs3, hk3, hT3, hp3⟩)
            | (go_at_call 34; refine (l12Take_ok _ c _ cap ts p' bad' (hP.out.kept kz) HT.out _).mono ?_; rintro e w2 ⟨rfl, hk2, p2, bad2, hT2, hp2⟩)
            | (go_at_call 38; refine (HG.out _ _ kz).mono ?_; rintro e wa ⟨rfl, k1⟩; have kz := Kept.trans kz k1))
          have hsz : (s ++ ⟨#[32]⟩ ++ s3).size = s.size + 1 + s3.size := by rw [ByteArray.size_append, ByteArray.size_append]; rfl
          go_roundg (2 * (ts.length - p3) + (if bad3 < 0 then 1 else 0))
          case measure =>
            rcases hT2 with ⟨a1, a2, a3⟩ | ⟨a1, a2⟩ <;> rcases hT3 with ⟨b1, b2, b3⟩ | ⟨b1, b2⟩ <;> split <;> omega
          case rel =>
            refine ⟨p3, bad3, _, k + 1, rfl, by go_num, Nat.le_refl _, ?_, fun h => ?_, fun h => ?_, hK.out.trans ((kz.keeps.trans hk2).trans hk3), hp3⟩
            · rcases hT2 with ⟨a1, a2, a3⟩ | ⟨a1, a2⟩ <;> rcases hT3 with ⟨b1, b2, b3⟩ | ⟨b1, b2⟩ <;> omega
            · rw [hsz]
              rcases hT2 with ⟨a1, a2, a3⟩ | ⟨a1, a2⟩ <;> rcases hT3 with ⟨b1, b2, b3⟩ | ⟨b1, b2⟩ <;> omega
            · rw [hsz]
              rcases hT2 with ⟨a1, a2, a3⟩ | ⟨a1, a2⟩ <;> rcases hT3 with ⟨b1, b2, b3⟩ | ⟨b1, b2⟩ <;> omega
        · obtain rfl : k = 0 := by omega
          go_wp2_with (first
            | (go_at_call 33; refine (l12Name_ok _ c _ cap ts p' bad' (hP.out.kept kz) HT.out false).mono ?_; rintro e w3 ⟨s3, p3, bad3, rfl, hs3, hk3, hT3, hp3⟩)
            | (go_at_call 38; refine (HG.out _ _ kz).mono ?_; rintro e wa ⟨rfl, k1⟩; have kz := Kept.trans kz k1))
          have hsz : (s ++ s3).size = s.size + s3.size := ByteArray.size_append
          go_roundg (2 * (ts.length - p3) + (if bad3 < 0 then 1 else 0))
          case measure => rcases hT3 with ⟨b1, b2, b3⟩ | ⟨b1, b2⟩ <;> split <;> omega
          case rel =>
            refine ⟨p3, bad3, _, 1, rfl, rfl, Nat.le_refl _, ?_, fun h => ?_, fun h => ?_, hK.out.trans (kz.keeps.trans hk3), hp3⟩
            · rcases hT3 with ⟨b1, b2, b3⟩ | ⟨b1, b2⟩ <;> omega
            · rw [hsz]
              rcases hT3 with ⟨b1, b2, b3⟩ | ⟨b1, b2⟩ <;> omega
            · rw [hsz]
              rcases hT3 with ⟨b1, b2, b3⟩ | ⟨b1, b2⟩ <;> omega
    · have hb2 : ¬ bad' < 0 := hb'
      go_wp2_with (first
        | (have _tk := hT2; go_at_call 49; refine (HU.out _ _ _ hp2 (by rcases hT2 with ⟨_, _, e⟩ | ⟨e, _⟩ <;> omega)).mono ?_; rintro e w3 ⟨t3, v3, p3, bad3, rfl, ht3, hp3, hk3, hB3⟩; obtain ⟨op3, s3, n3, ao3, l3, cp3, rfl⟩ := ht3.four; have L3 := Loc.first HS.out ((hK.out.trans (kz.keeps.trans hk2)).trans hk3) hp3 (NdS.mono (fun b hb _ => Nat.le_trans (hK.out.trans (kz.keeps.trans hk2)).size hb) _ _ ht3); have bx := L3.box; have c0 := bx.cell 0; have c1 := bx.cell 1; have c2 := bx.cell 2; have c3 := bx.cell 3; have L4 := L3.kept (Kept.alloc (Below.refl _ (w3.alloc (.cells #[.int .i64 op3, .string s3, .int .i64 n3, .slice ao3 l3 cp3] 26))) (.cells #[.int .i64 op3, .string s3, .int .i64 n3, .slice ao3 l3 cp3] 26)); have rx := L4.res; have d0 := rx.cell 0; have d1 := rx.cell 1; have d2 := rx.cell 2; have d3 := rx.cell 3; have g0 := rx.frozen 0; have g1 := rx.frozen 1; have g2 := rx.frozen 2; have g3 := rx.frozen 3; have rl := rx.lt)
        | (go_at_call 34; refine (l12Take_ok _ c _ cap ts p' bad' (hP.out.kept kz) HT.out _).mono ?_; rintro e w2 ⟨rfl, hk2, p2, bad2, hT2, hp2⟩)
        | (go_at_call 38; refine (HG.out _ _ kz).mono ?_; rintro e wa ⟨rfl, k1⟩; have kz := Kept.trans kz k1))
      have hN := NdS.one L3.tree (by have := L3.box.lt; have := L3.x; omega) 27 0 s (by unfold maxLen; omega)
      simp only [World.size_alloc] at hN
      obtain ⟨r1, r2, r3, r4⟩ := L4.ret hN
      have z0 := r4.cell 0; have z1 := r4.cell 1; have z2 := r4.cell 2; have z3 := r4.cell 3
      exact bodyPost_ret (v := .agg #[.int .i64 27, .string s, .int .i64 0, .slice (some ⟨w3.heap.size + 1, 0, none⟩) 1 1]) (by simp [results, Try.results56, go_sem, z0, z1, z2, z3]) rfl ⟨_, _, p3, bad3, rfl, r1, r2, r3, hB3.around (p := p) (bad := bad) hb (by rcases hT2 with ⟨_, _, e⟩ | ⟨e, _⟩ <;> omega) (.inl ⟨rfl, rfl⟩) 27 0 s⟩
end Go.Proofs.Ytdcjfeihcafndaa
