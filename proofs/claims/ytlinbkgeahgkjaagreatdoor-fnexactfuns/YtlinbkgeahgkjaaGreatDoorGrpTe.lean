/-
  The contract of chapter 11's model l11One, weakly told: a token that begins at a place ends behind it.
  The contract of chapter 11's model Tokens, weakly told: a row of tokens whose last one is the end.
-/
import Derived.Deep.AppendLies
import Derived.Maps.AppendAt
import Derived.OwnWalk
import Derived.Test.YtlinbkgeahgkjaaGreatDoorTokC
import Derived.Test.YtlinbkgeahgkjaaGreatDoorTokD
import Derived.Test.YtlinbkgeahgkjaaGreatDoorTokE
namespace Go.Proofs.YtlinbkgeahgkjaaGreatDoor
open Go.RowKit
set_option linter.unusedSimpArgs false

abbrev tokV (k : Int) (s : ByteArray) (n a : Int) : Value := .agg #[.int .i64 k, .string s, .int .i64 n, .int .i64 a]
theorem spanN_le {p : Int → Bool} {t : ByteArray} : ∀ n a, a ≤ spanN p t n a ∧ spanN p t n a ≤ max a t.size
  | 0, a => by simp [spanN]; omega
  | n + 1, a => by
    unfold spanN
    split
    · rename_i h
      simp at h
      have := spanN_le (p := p) (t := t) n (a + 1)
      omega
    · omega
theorem runE_le {p : Int → Bool} {t : ByteArray} (a : Nat) : a ≤ runE p t a ∧ runE p t a ≤ max a t.size := spanN_le _ _
/-- What is told of a token that was read at a. -/
def OneOk (t : ByteArray) (a : Nat) (v : Value) : Prop := ∃ k s n p to ok, v = .tuple #[tokV k s n p, .int .i64 (to : Nat), .bool ok] ∧ (ok = true → 1 ≤ k ∧ k ≤ 4 ∧ p = (a : Nat) ∧ a < to ∧ to ≤ t.size ∧ s.size ≤ 1048576) ∧
  (ok = true → k = 1 → n = 0 ∧ letB (byteN t a) = true ∧ s = t.extract a (runE nameB t a) ∧ to = runE nameB t a ∧ runE nameB t a ≤ a + 12) ∧ (letB (byteN t a) = true → runE nameB t a ≤ a + 12 → ok = true ∧ k = 1)
theorem extract_le (t : ByteArray) (a b : Nat) : (t.extract a b).size ≤ t.size := by
  rw [ByteArray.size_extract]
  omega
set_option maxHeartbeats 8000000 in
set_option maxRecDepth 100000 in
theorem l11One_ok (w : World) (t : ByteArray) (a : Nat) (ha : a < t.size) (ht : t.size ≤ 1048576) :
    Calls Tryz.prog 67 #[.string t, .int .i64 (a : Nat)] w fun e w' => ∃ v, e = .returned v ∧ OneOk t a v ∧ Kept w w' := by
  have q1 : (a : Int) < (t.size : Int) := by omega
  have y4 := Cells.new w 91 #[.int .i64 0, .string ⟨#[]⟩, .int .i64 0, .int .i64 0]
  have k0 : Kept w (w.alloc (.cells #[.int .i64 0, .string ⟨#[]⟩, .int .i64 0, .int .i64 0] 91)) := Kept.alloc (Below.refl _ _) _
  by_cases hL : letB (byteN t a) = true
  · have hL' : letB (t[a].toNat : Int) = true := by rw [byteN_get t a ha]; exact hL
    have hN := l11Name_ok (w.alloc (.cells #[.int .i64 0, .string ⟨#[]⟩, .int .i64 0, .int .i64 0] 91)) t a (by omega) ht
    have HO : Hid (OneOk t a (.tuple #[tokV 1 (t.extract a (runE nameB t a)) 0 (a : Nat), .int .i64 (runE nameB t a : Nat), .bool (decide (runE nameB t a ≤ a + 12))])) := by
      refine ⟨_, _, _, _, _, _, rfl, fun _ => ⟨by decide, by decide, rfl, ?_, ?_, Nat.le_trans (extract_le _ _ _) ht⟩, fun h _ => ⟨rfl, hL, rfl, rfl, by simpa using h⟩, fun _ h => ⟨by simpa using h, rfl⟩⟩
      · rw [runE_step ha (by simp [nameB, hL])]
        have := (runE_le (p := nameB) (t := t) (a + 1)).1
        omega
      · have := (runE_le (p := nameB) (t := t) a).2
        omega
    obtain ⟨s1, hs1⟩ : ∃ s1, t.extract a (runE nameB t a) = s1 := ⟨_, rfl⟩
    obtain ⟨e1, he1⟩ : ∃ e1, runE nameB t a = e1 := ⟨_, rfl⟩
    obtain ⟨o1, ho1⟩ : ∃ o1, decide (runE nameB t a ≤ a + 12) = o1 := ⟨_, rfl⟩
    rw [hs1, ho1, he1] at hN HO
    clear hL hs1 he1 ho1
    go_enter Tryz.func67, Tryz.ntmps67
    go_wp2_with (first | (go_at_call 85; refine (l11Letter_ok _ _).mono ?_; rintro e wx ⟨rfl, rfl⟩) | (go_at_call 86; refine hN.mono ?_; rintro e w1 ⟨rfl, hk1⟩; have y4 := Cells.kept y4 hk1; have c0 := y4.cell 0; have c1 := y4.cell 1; have c2 := y4.cell 2; have c3 := y4.cell 3; have f0 := y4.frozen 0; have f1 := y4.frozen 1; have f2 := y4.frozen 2; have f3 := y4.frozen 3; have l4 := y4.lt))
    have z := ((((y4.set 0 (.int .i64 1)).set 1 (.string s1)).set 2 (.int .i64 0)).set 3 (.int .i64 (a : Nat))).alloc (.cells #[.int .i64 1, .string s1, .int .i64 0, .int .i64 (a : Nat)] 91)
    have z0 := z.cell 0; have z1 := z.cell 1; have z2 := z.cell 2; have z3 := z.cell 3
    refine bodyPost_ret (v := .tuple #[tokV 1 s1 0 (a : Nat), .int .i64 (e1 : Nat), .bool o1]) (by simp [results, Tryz.results67, go_sem, z0, z1, z2, z3]) rfl ⟨_, rfl, HO.out, Kept.alloc (((((k0.trans hk1).set (Nat.le_refl _) _).set (Nat.le_refl _) _).set (Nat.le_refl _) _).set (Nat.le_refl _) _) _⟩
  · have hL' : letB (t[a].toNat : Int) = false := by rw [byteN_get t a ha]; simpa using hL
    by_cases hD : digB (byteN t a) = true
    · have hD' : digB (t[a].toNat : Int) = true := by rw [byteN_get t a ha]; exact hD
      have hN := l11Num_ok (w.alloc (.cells #[.int .i64 0, .string ⟨#[]⟩, .int .i64 0, .int .i64 0] 91)) t a (by omega) ht
      have HO : Hid (OneOk t a (.tuple #[tokV 2 ⟨#[]⟩ (numV t a) (a : Nat), .int .i64 (numE t a : Nat), .bool (numOk t a)])) := by
        refine ⟨_, _, _, _, _, _, rfl, fun _ => ⟨by decide, by decide, rfl, ?_, ?_, by decide⟩, fun _ h => absurd h (by decide), fun h => absurd h hL⟩
        · unfold numE
          rw [runE_step ha hD]
          have := (runE_le (p := digB) (t := t) (a + 1)).1
          omega
        · have := (runE_le (p := digB) (t := t) a).2
          unfold numE
          omega
      obtain ⟨n1, hn1⟩ : ∃ n1, numV t a = n1 := ⟨_, rfl⟩
      obtain ⟨e1, he1⟩ : ∃ e1, numE t a = e1 := ⟨_, rfl⟩
      obtain ⟨o1, ho1⟩ : ∃ o1, numOk t a = o1 := ⟨_, rfl⟩
      rw [hn1, ho1, he1] at hN HO
      clear hL hD hn1 he1 ho1
      go_enter Tryz.func67, Tryz.ntmps67
      go_wp2_with (first | (go_at_call 85; refine (l11Letter_ok _ _).mono ?_; rintro e wx ⟨rfl, rfl⟩) | (go_at_call 87; refine (l11Digit_ok _ _).mono ?_; rintro e wx ⟨rfl, rfl⟩) | (go_at_call 88; refine hN.mono ?_; rintro e w1 ⟨rfl, hk1⟩; have y4 := Cells.kept y4 hk1; have c0 := y4.cell 0; have c1 := y4.cell 1; have c2 := y4.cell 2; have c3 := y4.cell 3; have f0 := y4.frozen 0; have f1 := y4.frozen 1; have f2 := y4.frozen 2; have f3 := y4.frozen 3; have l4 := y4.lt))
      have z := ((((y4.set 0 (.int .i64 2)).set 1 (.string ⟨#[]⟩)).set 2 (.int .i64 n1)).set 3 (.int .i64 (a : Nat))).alloc (.cells #[.int .i64 2, .string ⟨#[]⟩, .int .i64 n1, .int .i64 (a : Nat)] 91)
      have z0 := z.cell 0; have z1 := z.cell 1; have z2 := z.cell 2; have z3 := z.cell 3
      refine bodyPost_ret (v := .tuple #[tokV 2 ⟨#[]⟩ n1 (a : Nat), .int .i64 (e1 : Nat), .bool o1]) (by simp [results, Tryz.results67, go_sem, z0, z1, z2, z3]) rfl ⟨_, rfl, HO.out, Kept.alloc (((((k0.trans hk1).set (Nat.le_refl _) _).set (Nat.le_refl _) _).set (Nat.le_refl _) _).set (Nat.le_refl _) _) _⟩
    · have hD' : digB (t[a].toNat : Int) = false := by rw [byteN_get t a ha]; simpa using hD
      by_cases hQ : byteN t a = 34
      · have hQ' : ((t[a].toNat : Int) == 34) = true := by rw [byteN_get t a ha]; simpa using hQ
        have hN := l11Text_ok (w.alloc (.cells #[.int .i64 0, .string ⟨#[]⟩, .int .i64 0, .int .i64 0] 91)) t a ha ht
        have HO : ∃ k s n p to ok, textV t a = .tuple #[tokV k s n p, .int .i64 (to : Nat), .bool ok] ∧ Hid (OneOk t a (.tuple #[tokV k s n p, .int .i64 (to : Nat), .bool ok])) := by
          unfold textV
          split
          · rename_i h
            unfold textOk at h
            simp at h
            refine ⟨_, _, _, _, _, _, rfl, ⟨_, _, _, _, _, _, rfl, fun _ => ⟨by decide, by decide, rfl, ?_, by omega, Nat.le_trans (extract_le _ _ _) ht⟩, fun _ h => absurd h (by decide), fun h => absurd h hL⟩⟩
            have := (runE_le (p := textB) (t := t) (a + 1)).1
            omega
          · exact ⟨_, _, _, _, _, _, rfl, ⟨_, _, _, _, _, _, rfl, fun h => (by cases h), fun h => (by cases h), fun h => absurd h hL⟩⟩
        obtain ⟨k1, s1, n1, p1, e1, o1, he, HO⟩ := HO
        rw [he] at hN
        clear hL hD hQ he
        go_enter Tryz.func67, Tryz.ntmps67
        go_wp2_with (first | (go_at_call 85; refine (l11Letter_ok _ _).mono ?_; rintro e wx ⟨rfl, rfl⟩) | (go_at_call 87; refine (l11Digit_ok _ _).mono ?_; rintro e wx ⟨rfl, rfl⟩) | (go_at_call 89; refine hN.mono ?_; rintro e w1 ⟨rfl, hk1⟩; have y4 := Cells.kept y4 hk1; have c0 := y4.cell 0; have c1 := y4.cell 1; have c2 := y4.cell 2; have c3 := y4.cell 3; have f0 := y4.frozen 0; have f1 := y4.frozen 1; have f2 := y4.frozen 2; have f3 := y4.frozen 3; have l4 := y4.lt))
        have z := ((((y4.set 0 (.int .i64 k1)).set 1 (.string s1)).set 2 (.int .i64 n1)).set 3 (.int .i64 p1)).alloc (.cells #[.int .i64 k1, .string s1, .int .i64 n1, .int .i64 p1] 91)
        have z0 := z.cell 0; have z1 := z.cell 1; have z2 := z.cell 2; have z3 := z.cell 3
        refine bodyPost_ret (v := .tuple #[tokV k1 s1 n1 p1, .int .i64 (e1 : Nat), .bool o1]) (by simp [results, Tryz.results67, go_sem, z0, z1, z2, z3]) rfl ⟨_, rfl, HO.out, Kept.alloc (((((k0.trans hk1).set (Nat.le_refl _) _).set (Nat.le_refl _) _).set (Nat.le_refl _) _).set (Nat.le_refl _) _) _⟩
      · have hQ' : ((t[a].toNat : Int) == 34) = false := by rw [byteN_get t a ha]; simpa using hQ
        have hN := l11Sign_ok (w.alloc (.cells #[.int .i64 0, .string ⟨#[]⟩, .int .i64 0, .int .i64 0] 91)) t a ha ht
        have HO : Hid (OneOk t a (.tuple #[tokV 4 (signT t a) 0 (a : Nat), .int .i64 ((a : Int) + ((signT t a).size : Nat)), .bool (!(signT t a).toList.isEmpty)])) := by
          refine ⟨_, _, _, _, a + (signT t a).size, _, by rw [Int.natCast_add], fun h => ?_, fun _ h => absurd h (by decide), fun h => absurd h hL⟩
          unfold signT at h ⊢
          split
          · rename_i h2
            unfold twoEq at h2
            simp at h2
            refine ⟨by decide, by decide, rfl, ?_, ?_, by decide⟩
            · show a < a + 2
              omega
            · show a + 2 ≤ _
              omega
          · rename_i h2
            rw [if_neg h2] at h
            split
            · have e : (t.extract a (a + 1)).size = 1 := by rw [ByteArray.size_extract]; omega
              refine ⟨by decide, by decide, rfl, by omega, by omega, by omega⟩
            · rename_i h3
              rw [if_neg h3] at h
              exact absurd h (by decide +kernel)
        obtain ⟨s1, hs1⟩ : ∃ s1, signT t a = s1 := ⟨_, rfl⟩
        have hsz : s1.size ≤ 1048576 := by
          rw [← hs1]
          unfold signT
          split
          · decide
          · split
            · exact Nat.le_trans (extract_le _ _ _) ht
            · decide
        rw [hs1] at hN HO
        clear hL hD hQ hs1
        go_enter Tryz.func67, Tryz.ntmps67
        go_wp2_with (first | (go_at_call 85; refine (l11Letter_ok _ _).mono ?_; rintro e wx ⟨rfl, rfl⟩) | (go_at_call 87; refine (l11Digit_ok _ _).mono ?_; rintro e wx ⟨rfl, rfl⟩) | (go_at_call 90; refine hN.mono ?_; rintro e w1 ⟨rfl, hk1⟩; have y4 := Cells.kept y4 hk1; have c0 := y4.cell 0; have c1 := y4.cell 1; have c2 := y4.cell 2; have c3 := y4.cell 3; have f0 := y4.frozen 0; have f1 := y4.frozen 1; have f2 := y4.frozen 2; have f3 := y4.frozen 3; have l4 := y4.lt))
        have z := (((y4.set 0 (.int .i64 4)).set 1 (.string s1)).set 2 (.int .i64 0)).set 3 (.int .i64 (a : Nat))
        have z0 := z.cell 0; have z1 := z.cell 1; have z2 := z.cell 2; have z3 := z.cell 3
        refine bodyPost_ret (v := .tuple #[tokV 4 s1 0 (a : Nat), .int .i64 ((a : Int) + (s1.size : Nat)), .bool (!s1.toList.isEmpty)]) (by simp [results, Tryz.results67, go_sem, z0, z1, z2, z3]) rfl ⟨_, rfl, HO.out, (((((k0.trans hk1).set (Nat.le_refl _) _).set (Nat.le_refl _) _).set (Nat.le_refl _) _).set (Nat.le_refl _) _)⟩
end Go.Proofs.YtlinbkgeahgkjaaGreatDoor
namespace Go.Proofs.YtlinbkgeahgkjaaGreatDoor
open Go.RowKit
set_option linter.unusedSimpArgs false

structure Tok where
  k : Int
  s : ByteArray
  n : Int
  a : Int
def Tok.cs (x : Tok) : List Value := [.int .i64 x.k, .string x.s, .int .i64 x.n, .int .i64 x.a]
def toksC (ts : List Tok) : List Value := ts.flatMap Tok.cs
theorem toksC_len (ts : List Tok) : (toksC ts).length = ts.length * 4 := by
  induction ts with
  | nil => rfl
  | cons x ts ih => simp only [toksC, List.flatMap_cons, List.length_append, List.length_cons] at ih ⊢; rw [ih]; simp [Tok.cs]; omega
def Tok.ok (x : Tok) : Prop := 0 ≤ x.k ∧ x.k ≤ 4 ∧ 0 ≤ x.a ∧ x.a ≤ 1048576 ∧ x.s.size ≤ 1048576
theorem news_of (w : World) (t : TypeId) (cs : Array Value) : ∀ j u, cs.toList[j]? = some u → (w.alloc (.cells cs t)).cell? ((⟨w.heap.size, 0, none⟩ : Addr).add j) = some u := by
  intro j u h
  rw [Addr.add_lit, Nat.zero_add, (Cells.new w t cs).cell j]
  simpa using h
/-- A name, and nothing else. -/
def nmB (t : ByteArray) : Bool := decide (0 < t.size) && (letB (byteN t 0) && (decide (runE nameB t 0 = t.size) && decide (t.size ≤ 12)))
theorem nmB_iff {t : ByteArray} : nmB t = true ↔ 0 < t.size ∧ letB (byteN t 0) = true ∧ runE nameB t 0 = t.size ∧ t.size ≤ 12 := by simp [nmB]
/-- Ahead of the place k of a source, where the tokens ts were read. -/
def TkInv (t : ByteArray) (k : Nat) (ts : List Tok) : Prop := (∀ x, ts[0]? = some x → x.k = 1 → x.s = t → nmB t = true) ∧ (nmB t = true → (k = 0 ∧ ts = []) ∨ (k = t.size ∧ ts = [⟨1, t, 0, 0⟩]))
theorem TkInv.zero (t : ByteArray) : TkInv t 0 [] := ⟨fun x h => by simp at h, fun _ => .inl ⟨rfl, rfl⟩⟩
theorem TkInv.blank {t : ByteArray} {k : Nat} {ts : List Tok} (h : TkInv t k ts) (hk : k < t.size) (hb : byteN t k = 32 ∨ byteN t k = 10) : TkInv t (k + 1) ts := by
  refine ⟨h.1, fun hn => ?_⟩
  rcases h.2 hn with ⟨rfl, rfl⟩ | ⟨rfl, _⟩
  · have h2 := (nmB_iff.1 hn).2.1
    rcases hb with hb | hb <;> rw [hb] at h2 <;> exact absurd h2 (by decide)
  · omega
theorem extract_all (t : ByteArray) : t.extract 0 t.size = t := by
  apply ByteArray.ext
  simp [ByteArray.data_extract]
theorem TkInv.bad {t : ByteArray} {k : Nat} {ts : List Tok} (h : TkInv t k ts) (hk : k < t.size) {k1 : Int} (h2 : letB (byteN t k) = true → runE nameB t k ≤ k + 12 → false = true ∧ k1 = 1) : nmB t = false := by
  cases hn : nmB t with
  | false => rfl
  | true =>
    obtain ⟨_, a2, a3, a4⟩ := nmB_iff.1 hn
    rcases h.2 hn with ⟨rfl, rfl⟩ | ⟨rfl, _⟩
    · exact absurd (h2 a2 (by omega)).1 (by decide)
    · omega
theorem TkInv.step {t : ByteArray} {k to1 : Nat} {ts : List Tok} {k1 n1 : Int} {s1 : ByteArray} (h : TkInv t k ts) (hk : k < t.size) (hto : k < to1) (hto2 : to1 ≤ t.size)
    (h1 : k1 = 1 → n1 = 0 ∧ letB (byteN t k) = true ∧ s1 = t.extract k (runE nameB t k) ∧ to1 = runE nameB t k ∧ runE nameB t k ≤ k + 12) (h2 : letB (byteN t k) = true → runE nameB t k ≤ k + 12 → k1 = 1) : TkInv t to1 (ts ++ [⟨k1, s1, n1, (k : Nat)⟩]) := by
  refine ⟨fun x hx h3 h4 => ?_, fun hn => ?_⟩
  · cases ts with
    | nil =>
      simp at hx
      subst hx
      simp only at h3 h4
      obtain ⟨_, b2, b3, b4, b5⟩ := h1 h3
      have hs : s1.size = t.size := by rw [h4]
      rw [b3, ByteArray.size_extract] at hs
      have hk0 : k = 0 := by omega
      subst hk0
      exact nmB_iff.2 ⟨by omega, b2, by omega, by omega⟩
    | cons y ts => exact h.1 x (by simpa using hx) h3 h4
  · obtain ⟨_, a2, a3, a4⟩ := nmB_iff.1 hn
    rcases h.2 hn with ⟨rfl, rfl⟩ | ⟨rfl, _⟩
    · have e1 := h2 a2 (by omega)
      obtain ⟨b1, _, b3, b4, _⟩ := h1 e1
      right
      refine ⟨by omega, ?_⟩
      rw [b3, a3, extract_all, e1, b1]
      rfl
    · omega
theorem infoTk : (Tryz.prog.info? 91).map (fun i => (i.zero, i.size, i.bytes)) = some (some (.agg #[.int .i64 0, .string ⟨#[]⟩, .int .i64 0, .int .i64 0]), 4, 40) := by kernel_rfl
def TokRow (W : World) (base : Nat) (v : Value) (ts : List Tok) : Prop := W.ownsRow base 91 4 v ts.length (toksC ts)
theorem TokRow.block_ge {W : World} {base : Nat} {v : Value} {ts : List Tok} (h : TokRow W base v ts) : ∀ j, v.ownBlock = some j → base ≤ j := by
  intro j hj
  rcases h.2 with ⟨rfl, _⟩ | ⟨g, cap, cur, rfl, hb, _⟩
  · simp [Value.ownBlock] at hj
  · simp [Value.ownBlock] at hj
    omega
set_option maxHeartbeats 8000000 in
set_option maxRecDepth 100000 in
theorem Tokens_nm (w : World) (t : ByteArray) (ht : t.size ≤ 1048576) :
    Calls Tryz.prog 48 #[.string t] w fun e w' => ∃ v p, e = .returned (.tuple #[v, .int .i64 p]) ∧ (∃ ga gn gc, v = .slice ga gn gc) ∧ ((0 ≤ p ∧ p ≤ 1048576 ∧ nmB t = false) ∨ (p = -1 ∧ ∃ ts a, TokRow w' w.heap.size v (ts ++ [⟨0, ⟨#[]⟩, 0, a⟩]) ∧ ts.length ≤ 800 ∧ (∀ x ∈ ts, x.ok) ∧ 0 ≤ a ∧ a ≤ 1048576 ∧ TkInv t t.size ts)) ∧ Kept w w' := by
  obtain ⟨i0, hi, hz0, hz1, hz2⟩ := info_parts infoTk
  have k1 : Kept w (w.alloc (.cells #[] 91)) := Kept.alloc (Below.refl _ _) _
  by_cases hbig : 800 < t.size
  · have q1 : (800 : Int) < (t.size : Int) := by omega
    go_enter Tryz.func48, Tryz.ntmps48
    go_wp2_with fail
    exact bodyPost_ret (v := .tuple #[.slice (some ⟨w.heap.size, 0, none⟩) 0 0, .int .i64 0]) (by simp [results, Tryz.results48, go_sem]) rfl ⟨_, _, rfl, ⟨_, _, _, rfl⟩, .inl ⟨by omega, by omega, by cases hn : nmB t with | false => rfl | true => have := (nmB_iff.1 hn).2.2.2; omega⟩, k1⟩
  · have q1 : ¬ (800 : Int) < (t.size : Int) := by omega
    have R0 : TokRow (w.alloc (.cells #[] 91)) w.heap.size (.slice (some ⟨w.heap.size, 0, none⟩) 0 0) [] := ⟨rfl, .inr ⟨_, 0, #[], rfl, Nat.le_refl _, heap_alloc_new w _, Nat.le_refl _, by unfold maxLen; omega, rfl, rfl⟩⟩
    have HR0 : Hid _ := R0
    clear R0
    go_enter Tryz.func48, Tryz.ntmps48
    go_wp2_with fail
    go_loopw [4, 5] (fun ov av wr => ∃ (k : Nat) (ts : List Tok), av = .int .i64 k ∧ k ≤ t.size ∧ ts.length ≤ k ∧ Hid (TokRow wr w.heap.size ov ts) ∧ Hid (∀ x ∈ ts, x.ok) ∧ Hid (Kept w wr) ∧ Hid (TkInv t k ts)) (fun _ i _ => t.size - (intOf i).toNat)
    case atStart => exact ⟨0, [], rfl, Nat.zero_le _, Nat.le_refl _, HR0.out, by simp [Hid], k1, TkInv.zero t⟩
    case round =>
      obtain ⟨k, ts, rfl, hk, htl, hR, hX, hK, hV⟩ := hrel
      clear HR0
      obtain ⟨ga, gn, gc, rfl⟩ : ∃ ga gn gc, u4 = Value.slice ga gn gc := by
        rcases hR.out.2 with ⟨rfl, h⟩ | ⟨g, cap, cur, rfl, h⟩
        · exact ⟨_, _, _, rfl⟩
        · exact ⟨_, _, _, rfl⟩
      by_cases hlt : k < t.size
      · have q2 : (k : Int) < (t.size : Int) := by omega
        by_cases hb : byteN t k = 32 ∨ byteN t k = 10
        · have hb' : ((t[k].toNat : Int) == 32) = true ∨ ((t[k].toNat : Int) == 32) = false ∧ ((t[k].toNat : Int) == 10) = true := by
            rw [byteN_get t k hlt]
            by_cases h : byteN t k = 32
            · left; simpa using h
            · right; exact ⟨by simpa using h, by simpa using hb.resolve_left h⟩
          have HB : Hid (TkInv t (k + 1) ts) := hV.out.blank hlt hb
          clear hb
          rcases hb' with hb | ⟨hb, hb2⟩
          · go_wp2_with fail
            refine ⟨⟨k + 1, ts, by go_num, by omega, by omega, hR.out, hX.out, hK.out, HB.out⟩, by simp [intOf]; omega⟩
          · go_wp2_with fail
            refine ⟨⟨k + 1, ts, by go_num, by omega, by omega, hR.out, hX.out, hK.out, HB.out⟩, by simp [intOf]; omega⟩
        · have hb1 : ((t[k].toNat : Int) == 32) = false := by rw [byteN_get t k hlt]; simp; intro h; exact hb (.inl h)
          have hb2 : ((t[k].toNat : Int) == 10) = false := by rw [byteN_get t k hlt]; simp; intro h; exact hb (.inr h)
          have hO := l11One_ok wr t k hlt ht
          clear hb
          have htl2 : ts.length ≤ 1048576 := by omega
          go_wp2_with (first
            | (have g := ky; at_builtin; refine wpList_append_lies _ rfl _ _ 87 rfl w.heap.size 91 i0 _ 4 40 Tryz.underlying87 hi hz0 hz1 hz2 rfl (by omega) (.slice ga gn gc) ts.length (toksC ts) rfl (World.ownsRow.kept hR.out ky.grown (Classical.em _)) ⟨w1.heap.size + 1, 0, none⟩ 1 1 (Tok.cs ⟨k1, s1, n1, p1⟩) rfl rfl hnw (by simp [Tok.cs, Value.oneCell']) (by omega) (by unfold maxLen; omega) (by omega) (by have := (hK.out.trans ky).size; omega) (w1.heap.size + 1 + 1) (by simp) ?_; intro gg cg w5 hown1 hgrow hat hlt5)
            | (go_at_call 67; refine hO.mono ?_; rintro e w1 ⟨v1, rfl, ⟨k1, s1, n1, p1, to1, ok1, rfl, hok, hm1, hm2⟩, hk1⟩; have HM1 : Hid _ := hm1; have HM2 : Hid _ := hm2; clear hm1 hm2; have ky := (Kept.alloc hk1 (.cells #[.int .i64 k1, .string s1, .int .i64 n1, .int .i64 p1] 91)).alloc (.cells #[.int .i64 k1, .string s1, .int .i64 n1, .int .i64 p1] 91); have hnw := news_of (w1.alloc (.cells #[.int .i64 k1, .string s1, .int .i64 n1, .int .i64 p1] 91)) 91 #[.int .i64 k1, .string s1, .int .i64 n1, .int .i64 p1]; simp only [World.size_alloc] at hnw))
          · rename_i hok1
            have OKF : nmB t = false := hV.out.bad hlt (k1 := k1) (by have h := HM2.out; simp at hok1; rw [hok1] at h; exact h)
            exact bodyPost_ret (v := .tuple #[.slice (some ⟨w1.heap.size + 1, 0, none⟩) 0 0, .int .i64 (k : Nat)]) (by simp [results, Tryz.results48, go_sem]) rfl ⟨_, _, rfl, ⟨_, _, _, rfl⟩, .inl ⟨by omega, by omega, OKF⟩, Kept.alloc (Kept.alloc (hK.out.trans hk1) _) _⟩
          · rename_i hok1
            obtain ⟨h1, h2, rfl, h3, h4, h5⟩ := hok (by simpa using hok1)
            have HST : Hid (TkInv t to1 (ts ++ [⟨k1, s1, n1, (k : Nat)⟩])) := hV.out.step hlt h3 h4 (HM1.out (by simpa using hok1)) (fun a b => (HM2.out a b).2)
            refine ⟨⟨to1, ts ++ [⟨k1, s1, n1, (k : Nat)⟩], rfl, h4, by simp; omega, ?_, ?_, ?_, HST⟩, by simp [intOf]; omega⟩
            · rw [Hid, TokRow, List.length_append, toksC, List.flatMap_append]
              simpa [toksC] using hown1
            · intro x hx
              rw [List.mem_append, List.mem_singleton] at hx
              rcases hx with hx | rfl
              · exact hX.out x hx
              · exact ⟨by simp; omega, h2, by simp, by simp; omega, h5⟩
            · refine Below.grown (hK.out.trans ky) hgrow (hK.out.trans ky).size (fun j ej => ?_)
              exact hR.out.block_ge j ej
      · have q2 : ¬ (k : Int) < (t.size : Int) := by omega
        obtain rfl : k = t.size := by omega
        have ky : Kept wr (wr.alloc (.cells #[.int .i64 0, .string ⟨#[]⟩, .int .i64 0, .int .i64 (t.size : Nat)] 91)) := Kept.alloc (Below.refl _ _) _
        have hnw := news_of wr 91 #[.int .i64 0, .string ⟨#[]⟩, .int .i64 0, .int .i64 (t.size : Nat)]
        go_wp2_with (at_builtin; refine wpList_append_lies _ rfl _ _ 87 rfl w.heap.size 91 i0 _ 4 40 Tryz.underlying87 hi hz0 hz1 hz2 rfl (by omega) (.slice ga gn gc) ts.length (toksC ts) rfl (World.ownsRow.kept hR.out ky.grown (Classical.em _)) ⟨wr.heap.size, 0, none⟩ 1 1 (Tok.cs ⟨0, ⟨#[]⟩, 0, (t.size : Nat)⟩) rfl rfl hnw (by simp [Tok.cs, Value.oneCell']) (by omega) (by unfold maxLen; omega) (by omega) (by have := (hK.out.trans ky).size; omega) (wr.heap.size + 1) (by simp) ?_; intro gg cg w5 hown1 hgrow hat hlt5)
        refine bodyPost_ret (v := .tuple #[.slice (some ⟨gg, 0, none⟩) (ts.length + 1) cg, .int .i64 (-1)]) (by simp [results, Tryz.results48, go_sem]) rfl ⟨_, _, rfl, ⟨_, _, _, rfl⟩, .inr ⟨rfl, ts, (t.size : Nat), ?_, by omega, hX.out, by omega, by omega, hV.out⟩, ?_⟩
        · rw [TokRow, List.length_append, toksC, List.flatMap_append]
          simpa [toksC] using hown1
        · refine Below.grown (hK.out.trans ky) hgrow (hK.out.trans ky).size (fun j ej => ?_)
          exact hR.out.block_ge j ej
theorem Tokens_ok (w : World) (t : ByteArray) (ht : t.size ≤ 1048576) :
    Calls Tryz.prog 48 #[.string t] w fun e w' => ∃ v p, e = .returned (.tuple #[v, .int .i64 p]) ∧ ((0 ≤ p ∧ p ≤ 1048576) ∨ (p = -1 ∧ ∃ ts a, TokRow w' w.heap.size v (ts ++ [⟨0, ⟨#[]⟩, 0, a⟩]) ∧ ts.length ≤ 800 ∧ (∀ x ∈ ts, x.ok) ∧ 0 ≤ a ∧ a ≤ 1048576)) ∧ Kept w w' := by
  refine (Tokens_nm w t ht).mono ?_
  rintro e w' ⟨v, p, rfl, _, ⟨h1, h2, _⟩ | ⟨h, ts, a, h1, h2, h3, h4, h5, _⟩, hk⟩
  · exact ⟨v, p, rfl, .inl ⟨h1, h2⟩, hk⟩
  · exact ⟨v, p, rfl, .inr ⟨h, ts, a, h1, h2, h3, h4, h5⟩, hk⟩
theorem TokRow.first {W : World} {base : Nat} {v : Value} {x : Tok} {r : List Tok} (h : TokRow W base v (x :: r)) : ∃ g cap, v = .slice (some ⟨g, 0, none⟩) (r.length + 1) cap ∧ W.cell? ⟨g, 0, none⟩ = some (.int .i64 x.k) ∧ W.cell? ⟨g, 1, none⟩ = some (.string x.s) ∧ W.cell? ⟨g, 2, none⟩ = some (.int .i64 x.n) ∧ W.cell? ⟨g, 3, none⟩ = some (.int .i64 x.a) := by
  obtain ⟨hl, ⟨rfl, e⟩ | ⟨g, cap, cur, rfl, hb, hg, h1, h2, h3, h4⟩⟩ := h
  · simp at e
  refine ⟨g, cap, by simp, ?_⟩
  have lk : ∀ j, j < 4 → cur[j]? = (toksC (x :: r))[j]? := fun j hj => by rw [← h4, List.getElem?_take, if_pos (by simp; omega)]; simp
  have z : Cells W g 91 cur := hg
  refine ⟨?_, ?_, ?_, ?_⟩
  · rw [z.cell 0, lk 0 (by omega)]; rfl
  · rw [z.cell 1, lk 1 (by omega)]; rfl
  · rw [z.cell 2, lk 2 (by omega)]; rfl
  · rw [z.cell 3, lk 3 (by omega)]; rfl
end Go.Proofs.YtlinbkgeahgkjaaGreatDoor
