/-
  Chapter 12's models, weakly told: the cursor over tokens, and the small functions on it.
-/
import Derived.Test.YtdcjfeihcafndaaTokG
import Derived.Test.YtdcjfeihcafndaaKepP
import Derived.Test.YtdcjfeihcafndaaNodP
import Derived.Deep.RegionHeld3
import Derived.Deep.RegionWith
namespace Go.Proofs.Ytdcjfeihcafndaa
open Go.RowKit
set_option linter.unusedSimpArgs false
attribute [local go_sem] Plain.and7

theorem Kept.keeps {c : Nat} {w w' : World} (h : Kept w w') : Keeps c w w' := ⟨h.os, h.tape, h.output, h.size, fun k hk _ => h.block k hk⟩
theorem Kept.drawnN {a w : World} (h : Kept a w) (n : Nat) : Kept a (w.drewN n) := ⟨h.os, h.tape, h.output, h.size, h.block⟩
theorem Cells.keeps {W W' : World} {B c : Nat} {t : TypeId} {cs : Array Value} (h : Cells W B t cs) (hk : Keeps c W W') (hne : B ≠ c) : Cells W' B t cs := (hk.block B h.lt hne).trans h
/-- The cursor at c over the tokens ts that lie in the row g. -/
structure PaW (w : World) (c g cap : Nat) (ts : List Tok) (p : Nat) (bad : Int) : Prop where
  cur : Cells w c 59 #[.slice (some ⟨g, 0, none⟩) ts.length cap, .int .i64 (p : Nat), .int .i64 bad]
  row : ∀ i x, ts[i]? = some x → w.cell? ⟨g, i * 4, none⟩ = some (.int .i64 x.k) ∧ w.cell? ⟨g, i * 4 + 1, none⟩ = some (.string x.s) ∧ w.cell? ⟨g, i * 4 + 2, none⟩ = some (.int .i64 x.n) ∧ w.cell? ⟨g, i * 4 + 3, none⟩ = some (.int .i64 x.a)
  ne : g ≠ c
  lt : p < ts.length
  lo : -1 ≤ bad
  hi : bad ≤ 1048576
theorem PaW.keeps {w w' : World} {c g cap : Nat} {ts : List Tok} {p p' : Nat} {bad bad' : Int} (h : PaW w c g cap ts p bad) (hk : Keeps c w w') (hc : Cells w' c 59 #[.slice (some ⟨g, 0, none⟩) ts.length cap, .int .i64 (p' : Nat), .int .i64 bad']) (hp : p' < ts.length) (hl : -1 ≤ bad') (hh : bad' ≤ 1048576) : PaW w' c g cap ts p' bad' := by
  refine ⟨hc, fun i x hx => ?_, h.ne, hp, hl, hh⟩
  obtain ⟨h0, h1, h2, h3⟩ := h.row i x hx
  have hlt : g < w.heap.size := World.block_lt_of_cell? _ _ h0
  exact ⟨(hk.cell (p := ⟨g, i * 4, none⟩) hlt h.ne).trans h0, (hk.cell (p := ⟨g, i * 4 + 1, none⟩) hlt h.ne).trans h1, (hk.cell (p := ⟨g, i * 4 + 2, none⟩) hlt h.ne).trans h2, (hk.cell (p := ⟨g, i * 4 + 3, none⟩) hlt h.ne).trans h3⟩
theorem PaW.kept {w w' : World} {c g cap : Nat} {ts : List Tok} {p : Nat} {bad : Int} (h : PaW w c g cap ts p bad) (hk : Kept w w') : PaW w' c g cap ts p bad := h.keeps hk.keeps (h.cur.kept hk) h.lt h.lo h.hi
/-- What tokens are: few, each right, the last one the end. -/
structure TsOk (ts : List Tok) : Prop where
  len : ts.length ≤ 801
  ok : ∀ x ∈ ts, x.ok
  last : ∀ x, ts[ts.length - 1]? = some x → x.k = 0
theorem TsOk.next {ts : List Tok} (h : TsOk ts) {p : Nat} {x : Tok} (hx : ts[p]? = some x) (hk : x.k ≠ 0) : p + 1 < ts.length := by
  have hp := (List.getElem?_eq_some_iff.1 hx).1
  rcases Nat.lt_or_ge (p + 1) ts.length with h1 | h1
  · exact h1
  · exfalso
    have : p = ts.length - 1 := by omega
    subst this
    exact hk (h.last x hx)
set_option maxHeartbeats 4000000 in
theorem l12Now_ok (w : World) (c g cap : Nat) (ts : List Tok) (p : Nat) (bad : Int) (h : PaW w c g cap ts p bad) (x : Tok) (hx : ts[p]? = some x) :
    Calls Try.prog 27 #[.pointer (some ⟨c, 0, none⟩)] w fun e w' => e = .returned (tokV x.k x.s x.n x.a) ∧ Kept w w' := by
  obtain ⟨h0, h1, h2, h3⟩ := h.row p x hx
  have hlt : g < w.heap.size := World.block_lt_of_cell? _ _ h0
  have hcl := h.cur.lt
  have hp := h.lt
  have q1 : (p : Int) < (ts.length : Int) := by omega
  have k1 : Kept w (w.alloc (.cells #[.int .i64 0, .string ⟨#[]⟩, .int .i64 0, .int .i64 0] 61)) := Kept.alloc (Below.refl _ _) _
  have h0 := kept_cell k1 h0; have h1 := kept_cell k1 h1; have h2 := kept_cell k1 h2; have h3 := kept_cell k1 h3
  have y := Cells.new w 61 #[.int .i64 0, .string ⟨#[]⟩, .int .i64 0, .int .i64 0]
  have cc := h.cur.kept k1
  have d0 := h.cur.cell 0; have d1 := h.cur.cell 1
  simp at d0 d1
  have c0 := cc.cell 0; have c1 := cc.cell 1
  go_enter Try.func27, Try.ntmps27
  go_wp2_with fail
  go_region_held3 (fun w' => w'.cell? ⟨c, 0, none⟩ = some (.slice (some ⟨g, 0, none⟩) ts.length cap) ∧ w'.cell? ⟨c, 1, none⟩ = some (.int .i64 (p : Nat)) ∧ w'.cell? ⟨g, p * 4, none⟩ = some (.int .i64 x.k) ∧ w'.cell? ⟨g, p * 4 + 1, none⟩ = some (.string x.s) ∧ w'.cell? ⟨g, p * 4 + 2, none⟩ = some (.int .i64 x.n) ∧ w'.cell? ⟨g, p * 4 + 3, none⟩ = some (.int .i64 x.a)) (go_keep) (fail)
  all_goals (
    go_wp2_with fail
    exact bodyPost_ret (v := tokV x.k x.s x.n x.a) (by simp [results, Try.results27, go_sem]) rfl ⟨rfl, Below.drew (Kept.alloc (Below.refl _ _) _)⟩)
theorem field_at (a b c d : Value) (w : World) : Sem.run Try.prog (Instr.field 61 (.agg #[a, b, c, d]) 3) w = .ok d w := by kernel_rfl
attribute [local go_sem] field_at
set_option maxHeartbeats 4000000 in
theorem l12Bad_ok (w : World) (c g cap : Nat) (ts : List Tok) (p : Nat) (bad : Int) (h : PaW w c g cap ts p bad) (hts : TsOk ts) :
    Calls Try.prog 47 #[.pointer (some ⟨c, 0, none⟩)] w fun e w' => e = .returned (.tuple #[]) ∧ Keeps c w w' ∧ ∃ bad', 0 ≤ bad' ∧ PaW w' c g cap ts p bad' := by
  obtain ⟨x, hx⟩ : ∃ x, ts[p]? = some x := ⟨ts[p]'h.lt, List.getElem?_eq_getElem h.lt⟩
  have hox := hts.ok x (List.mem_of_getElem? hx)
  have hN := l12Now_ok w c g cap ts p bad h x hx
  have c2 := h.cur.cell 2
  simp at c2
  have HP : Hid (PaW w c g cap ts p bad) := h
  by_cases hb : bad < 0
  · have hc := h.cur
    go_enter Try.func47, Try.ntmps47
    go_wp2_with (go_at_call 27; refine hN.mono ?_; rintro e w1 ⟨rfl, hk1⟩; have hc := Cells.kept hc hk1; have d2 := hc.cell 2; have f2 := hc.frozen 2)
    have HK : Keeps c w (w1.setCell ⟨c, 2, none⟩ (.int .i64 x.a)) := (hk1.keeps (c := c)).setCell 2 _
    go_end0
    refine ⟨rfl, HK, x.a, hox.2.2.1, HP.out.keeps HK (hc.set 2 _) HP.out.lt (by have := hox.2.2.1; omega) hox.2.2.2.1⟩
  · have hb' : ¬ bad < 0 := hb
    go_enter Try.func47, Try.ntmps47
    go_wp2_with fail
    go_end0
    exact ⟨rfl, Keeps.refl _ _, bad, by omega, HP.out⟩
theorem wrap_small {n : Int} (h1 : -9223372036854775808 ≤ n) (h2 : n ≤ 9223372036854775807) : IntKind.i64.wrap n = n := by rw [IntWalk.i64_left, IntWalk.wrap64_in _ ⟨h1, h2⟩]
/-- A sign, or a word, is there. -/
def isT (k : Int) (x : Tok) (bad : Int) (s : ByteArray) : Bool := decide (bad < 0) && (x.k == k && x.s.toList == s.toList)
theorem isT_yes {k : Int} {x : Tok} {bad : Int} {s : ByteArray} (h : isT k x bad s = true) : bad < 0 ∧ x.k = k := by
  simp [isT] at h
  exact ⟨h.1, h.2.1⟩
set_option maxHeartbeats 4000000 in
theorem l12Sign_ok (w : World) (c g cap : Nat) (ts : List Tok) (p : Nat) (bad : Int) (h : PaW w c g cap ts p bad) (x : Tok) (hx : ts[p]? = some x) (s : ByteArray) :
    Calls Try.prog 38 #[.pointer (some ⟨c, 0, none⟩), .string s] w fun e w' => e = .returned (.bool (isT 4 x bad s)) ∧ Kept w w' := by
  have hN := l12Now_ok w c g cap ts p bad h x hx
  have hc := h.cur
  by_cases hb : bad < 0
  · by_cases hk : x.k = 4
    · have HI : Hid (isT 4 x bad s = (x.s.toList == s.toList)) := by simp [Hid, isT, hb, hk]
      have hk' : (x.k == 4) = true := by simpa using hk
      clear hk
      go_enter Try.func38, Try.ntmps38
      go_wp2_with (go_at_call 27; refine hN.mono ?_; rintro e w1 ⟨rfl, hk1⟩; have hc := Cells.kept hc hk1; have d2 := hc.cell 2; have l2 := hc.lt)
      go_ret
      exact ⟨by rw [HI.out]; rfl, Kept.alloc hk1 _⟩
    · have HI : Hid (isT 4 x bad s = false) := by simp [Hid, isT, hb, hk]
      have hk' : (x.k == 4) = false := by simpa using hk
      go_enter Try.func38, Try.ntmps38
      go_wp2_with (go_at_call 27; refine hN.mono ?_; rintro e w1 ⟨rfl, hk1⟩; have hc := Cells.kept hc hk1; have d2 := hc.cell 2; have l2 := hc.lt)
      go_ret
      exact ⟨by rw [HI.out]; rfl, Kept.alloc hk1 _⟩
  · have HI : Hid (isT 4 x bad s = false) := by simp [Hid, isT, hb]
    go_enter Try.func38, Try.ntmps38
    go_wp2_with (go_at_call 27; refine hN.mono ?_; rintro e w1 ⟨rfl, hk1⟩; have hc := Cells.kept hc hk1; have d2 := hc.cell 2; have l2 := hc.lt)
    go_ret
    exact ⟨by rw [HI.out]; rfl, Kept.alloc hk1 _⟩
set_option maxHeartbeats 4000000 in
theorem l12Is_ok (w : World) (c g cap : Nat) (ts : List Tok) (p : Nat) (bad : Int) (h : PaW w c g cap ts p bad) (x : Tok) (hx : ts[p]? = some x) (s : ByteArray) :
    Calls Try.prog 31 #[.pointer (some ⟨c, 0, none⟩), .string s] w fun e w' => e = .returned (.bool (isT 1 x bad s)) ∧ Kept w w' := by
  have hN := l12Now_ok w c g cap ts p bad h x hx
  have hc := h.cur
  by_cases hb : bad < 0
  · by_cases hk : x.k = 1
    · have HI : Hid (isT 1 x bad s = (x.s.toList == s.toList)) := by simp [Hid, isT, hb, hk]
      have hk' : (x.k == 1) = true := by simpa using hk
      clear hk
      go_enter Try.func31, Try.ntmps31
      go_wp2_with (go_at_call 27; refine hN.mono ?_; rintro e w1 ⟨rfl, hk1⟩; have hc := Cells.kept hc hk1; have d2 := hc.cell 2; have l2 := hc.lt)
      go_ret
      exact ⟨by rw [HI.out]; rfl, Kept.alloc hk1 _⟩
    · have HI : Hid (isT 1 x bad s = false) := by simp [Hid, isT, hb, hk]
      have hk' : (x.k == 1) = false := by simpa using hk
      go_enter Try.func31, Try.ntmps31
      go_wp2_with (go_at_call 27; refine hN.mono ?_; rintro e w1 ⟨rfl, hk1⟩; have hc := Cells.kept hc hk1; have d2 := hc.cell 2; have l2 := hc.lt)
      go_ret
      exact ⟨by rw [HI.out]; rfl, Kept.alloc hk1 _⟩
  · have HI : Hid (isT 1 x bad s = false) := by simp [Hid, isT, hb]
    go_enter Try.func31, Try.ntmps31
    go_wp2_with (go_at_call 27; refine hN.mono ?_; rintro e w1 ⟨rfl, hk1⟩; have hc := Cells.kept hc hk1; have d2 := hc.cell 2; have l2 := hc.lt)
    go_ret
    exact ⟨by rw [HI.out]; rfl, Kept.alloc hk1 _⟩
set_option maxHeartbeats 4000000 in
theorem l12Next_ok (w : World) (c g cap : Nat) (ts : List Tok) (p : Nat) (bad : Int) (h : PaW w c g cap ts p bad) (hts : TsOk ts) :
    Calls Try.prog 32 #[.pointer (some ⟨c, 0, none⟩)] w fun e w' => e = .returned (.tuple #[]) ∧ Keeps c w w' ∧ PaW w' c g cap ts (if p + 1 < ts.length then p + 1 else p) bad := by
  have hc := h.cur
  have HP : Hid (PaW w c g cap ts p bad) := h
  have hlt := h.lt
  have hlen := hts.len
  have c0 := h.cur.cell 0; have c1 := h.cur.cell 1
  simp at c0 c1
  have f1 := hc.frozen 1
  by_cases hp : p + 1 < ts.length
  · have q1 : (p : Int) < (ts.length : Int) - 1 := by omega
    have qw : IntKind.i64.wrap ((ts.length : Int) - 1) = (ts.length : Int) - 1 := wrap_small (by omega) (by omega)
    have HI : Hid ((if p + 1 < ts.length then p + 1 else p) = p + 1) := by simp [Hid, hp]
    rw [HI.out]
    go_enter Try.func32, Try.ntmps32
    go_wp2_with fail
    go_region_held3 (fun w' => w'.cell? ⟨c, 0, none⟩ = some (.slice (some ⟨g, 0, none⟩) ts.length cap) ∧ w'.cell? ⟨c, 1, none⟩ = some (.int .i64 (p : Nat))) (go_keep) (fail)
    all_goals (
      go_wp2_with fail
      have HK : Keeps c w (w.setCell ⟨c, 1, none⟩ (.int .i64 ((p : Int) + 1))).drew := ((Keeps.refl c w).setCell 1 _).drew
      have hz : Cells (w.setCell ⟨c, 1, none⟩ (.int .i64 ((p : Int) + 1))) c 59 #[.slice (some ⟨g, 0, none⟩) ts.length cap, .int .i64 ((p + 1 : Nat) : Int), .int .i64 bad] := by have := hc.set 1 (.int .i64 ((p : Int) + 1)); simpa using this
      go_end0
      exact ⟨rfl, HK, HP.out.keeps HK hz hp HP.out.lo HP.out.hi⟩)
  · have q1 : ¬ (p : Int) < (ts.length : Int) - 1 := by omega
    have qw : IntKind.i64.wrap ((ts.length : Int) - 1) = (ts.length : Int) - 1 := wrap_small (by omega) (by omega)
    have HI : Hid ((if p + 1 < ts.length then p + 1 else p) = p) := by simp [Hid, hp]
    rw [HI.out]
    go_enter Try.func32, Try.ntmps32
    go_wp2_with fail
    go_region_held3 (fun w' => w'.cell? ⟨c, 0, none⟩ = some (.slice (some ⟨g, 0, none⟩) ts.length cap) ∧ w'.cell? ⟨c, 1, none⟩ = some (.int .i64 (p : Nat))) (go_keep) (fail)
    all_goals (
      go_wp2_with fail
      have HK : Keeps c w w.drew := (Keeps.refl c w).drew
      go_end0
      exact ⟨rfl, HK, HP.out.keeps HK hc hlt HP.out.lo HP.out.hi⟩)
/-- What was taken: a token, or none and it is noted. -/
def TakeR (p : Nat) (bad : Int) (p' : Nat) (bad' : Int) : Prop := (bad < 0 ∧ bad' = bad ∧ p' = p + 1) ∨ (p' = p ∧ 0 ≤ bad')
set_option maxHeartbeats 4000000 in
theorem l12Take_ok (w : World) (c g cap : Nat) (ts : List Tok) (p : Nat) (bad : Int) (h : PaW w c g cap ts p bad) (hts : TsOk ts) (s : ByteArray) :
    Calls Try.prog 34 #[.pointer (some ⟨c, 0, none⟩), .string s] w fun e w' => e = .returned (.tuple #[]) ∧ Keeps c w w' ∧ ∃ p' bad', TakeR p bad p' bad' ∧ PaW w' c g cap ts p' bad' := by
  obtain ⟨x, hx⟩ : ∃ x, ts[p]? = some x := ⟨ts[p]'h.lt, List.getElem?_eq_getElem h.lt⟩
  have hS := l12Sign_ok w c g cap ts p bad h x hx s
  have HP : Hid (PaW w c g cap ts p bad) := h
  have HT : Hid (TsOk ts) := hts
  cases hi : isT 4 x bad s with
  | true =>
    rw [hi] at hS
    obtain ⟨hb, hk⟩ := isT_yes hi
    have hn : p + 1 < ts.length := hts.next hx (by rw [hk]; decide)
    clear hi hk h hts
    go_enter Try.func34, Try.ntmps34
    go_wp2_with (first
      | (have g := k1; go_at_call 32; refine (l12Next_ok _ c _ cap ts p bad (HP.out.kept k1) HT.out).mono ?_; rintro e w2 ⟨rfl, k2, h2⟩)
      | (go_at_call 38; refine hS.mono ?_; rintro e w1 ⟨rfl, k1⟩))
    go_end0
    rw [if_pos hn] at h2
    exact ⟨rfl, k1.keeps.trans k2, _, _, .inl ⟨hb, rfl, rfl⟩, h2⟩
  | false =>
    rw [hi] at hS
    clear hi h hts
    go_enter Try.func34, Try.ntmps34
    go_wp2_with (first
      | (have g := k1; go_at_call 47; refine (l12Bad_ok _ c _ cap ts p bad (HP.out.kept k1) HT.out).mono ?_; rintro e w2 ⟨rfl, k2, bad', hb', h2⟩)
      | (go_at_call 38; refine hS.mono ?_; rintro e w1 ⟨rfl, k1⟩))
    (try simp only [Exit.inBlock, Exit.then])
    refine bodyPost_ret (results_none rfl _ _ _) rfl ?_
    exact ⟨rfl, k1.keeps.trans k2, _, _, .inr ⟨rfl, hb'⟩, h2⟩
theorem l12Node_ok (w : World) (op : Int) (ao : Option Addr) (l cap : Nat) :
    Calls Try.prog 39 #[.int .i64 op, .slice ao l cap] w fun e w' => e = .returned (.agg #[.int .i64 op, .string ⟨#[]⟩, .int .i64 0, .slice ao l cap]) ∧ Kept w w' := by
  go_enter Try.func39, Try.ntmps39
  go_wp2_with fail
  exact bodyPost_ret (v := .agg #[.int .i64 op, .string ⟨#[]⟩, .int .i64 0, .slice ao l cap]) (by simp [results, Try.results39, go_sem]) rfl ⟨rfl, Kept.alloc (Below.refl _ _) _⟩
abbrev wordsC : Array Value := #[Value.string ⟨#[108, 101, 116]⟩, Value.string ⟨#[105, 102]⟩, Value.string ⟨#[101, 108, 115, 101]⟩, Value.string ⟨#[119, 104, 105, 108, 101]⟩, Value.string ⟨#[114, 101, 116, 117, 114, 110]⟩, Value.string ⟨#[112, 114, 105, 110, 116]⟩, Value.string ⟨#[102, 117, 110, 99, 116, 105, 111, 110]⟩, Value.string ⟨#[116, 114, 117, 101]⟩, Value.string ⟨#[102, 97, 108, 115, 101]⟩, Value.string ⟨#[110, 117, 108, 108]⟩, Value.string ⟨#[117, 110, 100, 101, 102, 105, 110, 101, 100]⟩, Value.string ⟨#[112, 114, 111, 116, 111]⟩]
theorem wordsC_at : ∀ k, k < 12 → ∃ s, wordsC[k]? = some (.string s)
  | 0, _ => ⟨_, rfl⟩
  | 1, _ => ⟨_, rfl⟩
  | 2, _ => ⟨_, rfl⟩
  | 3, _ => ⟨_, rfl⟩
  | 4, _ => ⟨_, rfl⟩
  | 5, _ => ⟨_, rfl⟩
  | 6, _ => ⟨_, rfl⟩
  | 7, _ => ⟨_, rfl⟩
  | 8, _ => ⟨_, rfl⟩
  | 9, _ => ⟨_, rfl⟩
  | 10, _ => ⟨_, rfl⟩
  | 11, _ => ⟨_, rfl⟩
  | n + 12, h => absurd h (by omega)
set_option maxHeartbeats 8000000 in
set_option maxRecDepth 100000 in
theorem Word_ok (w : World) (x : Tok) :
    Calls Try.prog 46 #[tokV x.k x.s x.n x.a] w fun e w' => ∃ b, e = .returned (.bool b) ∧ Kept w w' := by
  have b0 := (Cells.new w 61 #[.int .i64 x.k, .string x.s, .int .i64 x.n, .int .i64 x.a]).alloc (.cells wordsC 9)
  have b1 := Cells.new (w.alloc (.cells #[.int .i64 x.k, .string x.s, .int .i64 x.n, .int .i64 x.a] 61)) 9 wordsC
  simp only [World.size_alloc] at b1
  have k0 : Kept w ((w.alloc (.cells #[.int .i64 x.k, .string x.s, .int .i64 x.n, .int .i64 x.a] 61)).alloc (.cells wordsC 9)) := Kept.alloc (Kept.alloc (Below.refl _ _) _) _
  go_enter Try.func46, Try.ntmps46
  go_wp2_with fail
  go_loopw [4] (fun iv wr => ∃ (k : Nat), iv = .int .i64 k ∧ k ≤ 12 ∧ Hid (Kept ((w.alloc (.cells #[.int .i64 x.k, .string x.s, .int .i64 x.n, .int .i64 x.a] 61)).alloc (.cells wordsC 9)) wr)) (fun i _ => 12 - (intOf i).toNat)
  case atStart => exact ⟨0, rfl, Nat.zero_le _, Below.refl _ _⟩
  case round =>
    obtain ⟨k, rfl, hk, hK⟩ := hrel
    have a0 := (b0.kept hK.out).cell 0
    have a1 := (b0.kept hK.out).cell 1
    simp at a0 a1
    by_cases hlt : k < 12
    · have q1 : (k : Int) < 12 := by omega
      obtain ⟨sk, hsk⟩ := wordsC_at k hlt
      have ck := (b1.kept hK.out).cell k
      rw [hsk] at ck
      have hD : Hid (∀ nq, Kept ((w.alloc (.cells #[.int .i64 x.k, .string x.s, .int .i64 x.n, .int .i64 x.a] 61)).alloc (.cells wordsC 9)) (wr.drewN nq)) := fun nq => hK.out.drawnN nq
      cases hx : (x.k == 1) with
      | false =>
        go_wp2_with fail
        go_quiet (fail)
        go_wp2_with fail
        exact ⟨⟨k + 1, by go_num, by omega, hD.out _⟩, by simp [intOf]; omega⟩
      | true =>
        go_wp2_with fail
        go_quiet (fail)
        go_wp2_with fail
        · go_ret
          exact ⟨_, rfl, k0.trans (hD.out _)⟩
        · exact ⟨⟨k + 1, by go_num, by omega, hD.out _⟩, by simp [intOf]; omega⟩
    · obtain rfl : k = 12 := by omega
      go_wp2_with fail
      go_ret
      exact ⟨_, rfl, k0.trans hK.out⟩
set_option maxHeartbeats 8000000 in
theorem l12Name_ok (w : World) (c g cap : Nat) (ts : List Tok) (p : Nat) (bad : Int) (h : PaW w c g cap ts p bad) (hts : TsOk ts) (pr : Bool) :
    Calls Try.prog 33 #[.pointer (some ⟨c, 0, none⟩), .bool pr] w fun e w' => ∃ s p' bad', e = .returned (.string s) ∧ s.size ≤ 1048576 ∧ Keeps c w w' ∧ TakeR p bad p' bad' ∧ PaW w' c g cap ts p' bad' := by
  obtain ⟨x, hx⟩ : ∃ x, ts[p]? = some x := ⟨ts[p]'h.lt, List.getElem?_eq_getElem h.lt⟩
  have hN := l12Now_ok w c g cap ts p bad h x hx
  have hox := hts.ok x (List.mem_of_getElem? hx)
  have hxs : x.s.size ≤ 1048576 := hox.2.2.2.2
  have HP : Hid (PaW w c g cap ts p bad) := h
  have HT : Hid (TsOk ts) := hts
  have hc := h.cur
  have HNx : Hid (x.k = 1 → p + 1 < ts.length) := fun hk => hts.next hx (by rw [hk]; decide)
  clear h hts hox
  have AB : Hid (∀ u, Kept w u → Calls Try.prog 47 #[.pointer (some ⟨c, 0, none⟩)] u fun e w' => e = .returned (.tuple #[]) ∧ Keeps c u w' ∧ ∃ bad', 0 ≤ bad' ∧ PaW w' c g cap ts p bad') := fun u hu => l12Bad_ok u c g cap ts p bad (HP.out.kept hu) HT.out
  have AN : Hid (∀ u, Kept w u → Calls Try.prog 32 #[.pointer (some ⟨c, 0, none⟩)] u fun e w' => e = .returned (.tuple #[]) ∧ Keeps c u w' ∧ PaW w' c g cap ts (if p + 1 < ts.length then p + 1 else p) bad) := fun u hu => l12Next_ok u c g cap ts p bad (HP.out.kept hu) HT.out
  by_cases hb : bad < 0
  · by_cases hk : x.k = 1
    · have hk' : (x.k == 1) = true := by simpa using hk
      have hk2 : (x.k != 1) = false := by simp [hk]
      have hnx := HNx.out hk
      clear hk
      have hb2 : ¬ 0 ≤ bad := by omega
      go_enter Try.func33, Try.ntmps33
      go_wp2_with (first
        | (have g := k2; go_at_call 47; refine (AB.out _ (k1.trans k2)).mono ?_; rintro e w3 ⟨rfl, k3, bad', hb', h3⟩)
        | (have g := k2; go_at_call 32; refine (AN.out _ (k1.trans k2)).mono ?_; rintro e w3 ⟨rfl, k3, h3⟩; have cb := Cells.keeps (Cells.kept bx k2) k3 hne; have c1 := cb.cell 1)
        | (have g := k1; go_at_call 46; refine (Word_ok _ x).mono ?_; rintro e w2 ⟨b2, rfl, k2⟩; have cb := Cells.kept bx k2; have c1 := cb.cell 1)
        | (go_at_call 27; refine hN.mono ?_; rintro e w1 ⟨rfl, hk1⟩; have hc := Cells.kept hc hk1; have d2 := hc.cell 2; have l2 := hc.lt; have k1 := Kept.alloc hk1 (.cells #[.int .i64 x.k, .string x.s, .int .i64 x.n, .int .i64 x.a] 61); have bx := Cells.new w1 61 #[.int .i64 x.k, .string x.s, .int .i64 x.n, .int .i64 x.a]; have hne : w1.heap.size ≠ c := (by omega)))
      all_goals (
        go_ret
        first
          | exact ⟨_, _, _, rfl, Nat.zero_le _, (k1.trans k2).keeps.trans k3, .inr ⟨rfl, hb'⟩, h3⟩
          | (rw [if_pos hnx] at h3; exact ⟨_, _, _, rfl, hxs, (k1.trans k2).keeps.trans k3, .inl ⟨hb, rfl, rfl⟩, h3⟩))
    · have hk2 : (x.k != 1) = true := by simpa using hk
      have hb2 : ¬ 0 ≤ bad := by omega
      clear hk
      go_enter Try.func33, Try.ntmps33
      go_wp2_with (first
        | (have g := k1; go_at_call 47; refine (AB.out _ k1).mono ?_; rintro e w3 ⟨rfl, k3, bad', hb', h3⟩)
        | (go_at_call 27; refine hN.mono ?_; rintro e w1 ⟨rfl, hk1⟩; have hc := Cells.kept hc hk1; have d2 := hc.cell 2; have l2 := hc.lt; have k1 := Kept.alloc hk1 (.cells #[.int .i64 x.k, .string x.s, .int .i64 x.n, .int .i64 x.a] 61)))
      go_ret
      exact ⟨_, _, _, rfl, Nat.zero_le _, k1.keeps.trans k3, .inr ⟨rfl, hb'⟩, h3⟩
  · have hb2 : 0 ≤ bad := by omega
    go_enter Try.func33, Try.ntmps33
    go_wp2_with (first
      | (have g := k1; go_at_call 47; refine (AB.out _ k1).mono ?_; rintro e w3 ⟨rfl, k3, bad', hb', h3⟩)
      | (go_at_call 27; refine hN.mono ?_; rintro e w1 ⟨rfl, hk1⟩; have hc := Cells.kept hc hk1; have d2 := hc.cell 2; have l2 := hc.lt; have k1 := Kept.alloc hk1 (.cells #[.int .i64 x.k, .string x.s, .int .i64 x.n, .int .i64 x.a] 61)))
    go_ret
    exact ⟨_, _, _, rfl, Nat.zero_le _, k1.keeps.trans k3, .inr ⟨rfl, hb'⟩, h3⟩
end Go.Proofs.Ytdcjfeihcafndaa
