/-
  Words and names as chapters 11 and 13's models ask for them: spec.Word, l13Name, l13Names, l13Text.
-/
import Derived.Test.YtlinbkgeahgkjaaGreatDoorGrpTe
namespace Go.Proofs.YtlinbkgeahgkjaaGreatDoor
open Go.RowKit
set_option linter.unusedSimpArgs false

theorem bytes_same (a b : ByteArray) : (a.toList == b.toList) = decide (a = b) := by
  rw [ByteArray.toList_eq, ByteArray.toList_eq, Bool.eq_iff_iff]
  simp only [beq_iff_eq, decide_eq_true_eq]
  exact ⟨WideShapes.bytes_inj, fun h => by rw [h]⟩
theorem kept_dn {a b : World} (h : Kept a b) (n : Nat) : Kept a (b.drewN n) := ⟨h.os, h.tape, h.output, h.size, h.block⟩
def wordsL : List ByteArray := [{ data := #[108, 101, 116] }, { data := #[105, 102] }, { data := #[101, 108, 115, 101] }, { data := #[119, 104, 105, 108, 101] }, { data := #[114, 101, 116, 117, 114, 110] }, { data := #[112, 114, 105, 110, 116] }, { data := #[102, 117, 110, 99, 116, 105, 111, 110] }, { data := #[116, 114, 117, 101] }, { data := #[102, 97, 108, 115, 101] }, { data := #[110, 117, 108, 108] }, { data := #[117, 110, 100, 101, 102, 105, 110, 101, 100] }, { data := #[112, 114, 111, 116, 111] }]
/-- The words of a program. -/
def isW (s : ByteArray) : Bool := wordsL.any (fun x => decide (s = x))
def protoS : ByteArray := { data := #[112, 114, 111, 116, 111] }
/-- A name that is no word, but proto where that is allowed. -/
def nameR (s : ByteArray) (p : Bool) : Bool := nmB s && (!isW s || (p && decide (s = protoS)))
/-- Names with a blank between; f is where the name at hand begins. -/
def namesF (s : ByteArray) : Nat → Nat → Nat → Bool
  | 0, _, _ => true
  | n + 1, f, i => if i = s.size ∨ byteN s i = 32 then nameR (s.extract f i) false && namesF s n (i + 1) (i + 1) else namesF s n f (i + 1)
def namesR (s : ByteArray) : Bool := decide (s.size = 0) || namesF s (s.size + 1) 0 0
def textR (s : ByteArray) : Bool := decide (runE textB s 0 = s.size) && decide (s.size ≤ 30)
set_option maxHeartbeats 8000000 in
set_option maxRecDepth 100000 in
theorem Word_ok (w : World) (s : ByteArray) (n a : Int) :
    Calls Tryz.prog 49 #[tokV 1 s n a] w fun e w' => e = .returned (.bool (isW s)) ∧ Kept w w' := by
  have b0 := (Cells.new w 91 #[.int .i64 1, .string s, .int .i64 n, .int .i64 a]).alloc (.cells #[.string { data := #[108, 101, 116] }, .string { data := #[105, 102] }, .string { data := #[101, 108, 115, 101] }, .string { data := #[119, 104, 105, 108, 101] }, .string { data := #[114, 101, 116, 117, 114, 110] }, .string { data := #[112, 114, 105, 110, 116] }, .string { data := #[102, 117, 110, 99, 116, 105, 111, 110] }, .string { data := #[116, 114, 117, 101] }, .string { data := #[102, 97, 108, 115, 101] }, .string { data := #[110, 117, 108, 108] }, .string { data := #[117, 110, 100, 101, 102, 105, 110, 101, 100] }, .string { data := #[112, 114, 111, 116, 111] }] 9)
  have b1 := Cells.new (w.alloc (.cells #[.int .i64 1, .string s, .int .i64 n, .int .i64 a] 91)) 9 #[.string { data := #[108, 101, 116] }, .string { data := #[105, 102] }, .string { data := #[101, 108, 115, 101] }, .string { data := #[119, 104, 105, 108, 101] }, .string { data := #[114, 101, 116, 117, 114, 110] }, .string { data := #[112, 114, 105, 110, 116] }, .string { data := #[102, 117, 110, 99, 116, 105, 111, 110] }, .string { data := #[116, 114, 117, 101] }, .string { data := #[102, 97, 108, 115, 101] }, .string { data := #[110, 117, 108, 108] }, .string { data := #[117, 110, 100, 101, 102, 105, 110, 101, 100] }, .string { data := #[112, 114, 111, 116, 111] }]
  have k0 : Kept w ((w.alloc (.cells #[.int .i64 1, .string s, .int .i64 n, .int .i64 a] 91)).alloc (.cells #[.string { data := #[108, 101, 116] }, .string { data := #[105, 102] }, .string { data := #[101, 108, 115, 101] }, .string { data := #[119, 104, 105, 108, 101] }, .string { data := #[114, 101, 116, 117, 114, 110] }, .string { data := #[112, 114, 105, 110, 116] }, .string { data := #[102, 117, 110, 99, 116, 105, 111, 110] }, .string { data := #[116, 114, 117, 101] }, .string { data := #[102, 97, 108, 115, 101] }, .string { data := #[110, 117, 108, 108] }, .string { data := #[117, 110, 100, 101, 102, 105, 110, 101, 100] }, .string { data := #[112, 114, 111, 116, 111] }] 9)) := (Kept.alloc (Below.refl _ _) _).alloc _
  simp only [World.size_alloc] at b1
  go_enter Tryz.func49, Tryz.ntmps49
  go_wp2_with fail
  obtain ⟨W, hW⟩ : ∃ W, (w.alloc (.cells #[.int .i64 1, .string s, .int .i64 n, .int .i64 a] 91)).alloc (.cells #[.string { data := #[108, 101, 116] }, .string { data := #[105, 102] }, .string { data := #[101, 108, 115, 101] }, .string { data := #[119, 104, 105, 108, 101] }, .string { data := #[114, 101, 116, 117, 114, 110] }, .string { data := #[112, 114, 105, 110, 116] }, .string { data := #[102, 117, 110, 99, 116, 105, 111, 110] }, .string { data := #[116, 114, 117, 101] }, .string { data := #[102, 97, 108, 115, 101] }, .string { data := #[110, 117, 108, 108] }, .string { data := #[117, 110, 100, 101, 102, 105, 110, 101, 100] }, .string { data := #[112, 114, 111, 116, 111] }] 9) = W := ⟨_, rfl⟩
  rw [hW] at b0 b1 k0
  simp only [hW]
  clear hW
  go_loopw [4] (fun iv wr => ∃ (k : Nat), iv = .int .i64 k ∧ k ≤ 12 ∧ Hid (∀ (j : Nat) x, j < k → wordsL[j]? = some x → s ≠ x) ∧ Hid (Kept W wr)) (fun i _ => 12 - (intOf i).toNat)
  case atStart => exact ⟨0, rfl, Nat.zero_le _, fun j x h => absurd h (Nat.not_lt_zero _), Below.refl _ _⟩
  case round =>
    obtain ⟨k, rfl, hk, hP, hK⟩ := hrel
    have y0 := b0.kept hK.out
    have c0 := y0.cell 0; have c1 := y0.cell 1
    by_cases hlt : k < 12
    · have hl : wordsL.length = 12 := rfl
      obtain ⟨x, hx⟩ : ∃ x, wordsL[k]? = some x := ⟨wordsL[k], List.getElem?_eq_getElem (by omega)⟩
      have hc : wr.cell? ⟨w.heap.size + 1, k, none⟩ = some (.string x) := by
        rw [(b1.kept hK.out).cell k]
        have e : (#[.string { data := #[108, 101, 116] }, .string { data := #[105, 102] }, .string { data := #[101, 108, 115, 101] }, .string { data := #[119, 104, 105, 108, 101] }, .string { data := #[114, 101, 116, 117, 114, 110] }, .string { data := #[112, 114, 105, 110, 116] }, .string { data := #[102, 117, 110, 99, 116, 105, 111, 110] }, .string { data := #[116, 114, 117, 101] }, .string { data := #[102, 97, 108, 115, 101] }, .string { data := #[110, 117, 108, 108] }, .string { data := #[117, 110, 100, 101, 102, 105, 110, 101, 100] }, .string { data := #[112, 114, 111, 116, 111] }] : Array Value) = (wordsL.map Value.string).toArray := rfl
        rw [e]
        simp [hx]
      have q1 : (k : Int) < 12 := by omega
      have HX : Hid _ := hx
      clear hx hl
      by_cases hs : s = x
      · have q2 : (s.toList == x.toList) = true := by rw [bytes_same]; simpa using hs
        have HW : Hid (isW s = true) := by
          rw [Hid, isW, List.any_eq_true]
          exact ⟨x, List.mem_of_getElem? HX.out, by simpa using hs⟩
        clear hs
        go_wp2_with fail
        go_quiet (fail)
        go_wp2_with fail
        go_ret
        exact ⟨by rw [HW.out]; rfl, kept_dn (k0.trans hK.out) _⟩
      · have q2 : (s.toList == x.toList) = false := by rw [bytes_same]; simpa using hs
        have HP : Hid (∀ (j : Nat) y, j < k + 1 → wordsL[j]? = some y → s ≠ y) := fun j y hj hy => by
          rcases Nat.lt_or_ge j k with h | h
          · exact hP.out j y h hy
          · obtain rfl : j = k := by omega
            rw [HX.out] at hy
            cases hy
            exact hs
        clear hs
        go_wp2_with fail
        go_quiet (fail)
        go_wp2_with fail
        exact ⟨⟨k + 1, by go_num, by omega, HP.out, kept_dn hK.out _⟩, by simp [intOf]; omega⟩
    · obtain rfl : k = 12 := by omega
      have HW : Hid (isW s = false) := by
        rw [Hid, isW, List.any_eq_false]
        intro x hx
        obtain ⟨j, hj⟩ := List.getElem?_of_mem hx
        have h12 := (List.getElem?_eq_some_iff.1 hj).1
        simpa using hP.out j x h12 hj
      go_wp2_with fail
      go_ret
      exact ⟨by rw [HW.out]; rfl, k0.trans hK.out⟩
set_option maxHeartbeats 8000000 in
set_option maxRecDepth 100000 in
theorem l13Name_ok (w : World) (s : ByteArray) (p : Bool) (hs : s.size ≤ 1048576) :
    Calls Tryz.prog 34 #[.string s, .bool p] w fun e w' => e = .returned (.bool (nameR s p)) ∧ Kept w w' := by
  have hT := Tokens_nm w s hs
  go_enter Tryz.func34, Tryz.ntmps34
  go_wp2_with fail
  refine hT.mono ?_
  rintro e w1 ⟨v, q, rfl, ⟨ga, gn, gc, rfl⟩, hcase, hk⟩
  clear hT
  rcases hcase with ⟨h1, h2, h3⟩ | ⟨rfl, ts, a, hR, hl, hX, ha0, ha1, hV⟩
  · have HN : Hid (nameR s p = false) := by simp [Hid, nameR, h3]
    have q1 : decide (0 ≤ q) = true := by simpa using h1
    clear h1 h2 h3
    go_wp2_with fail
    go_ret
    exact ⟨by rw [HN.out]; rfl, hk⟩
  · have HV : Hid _ := hV
    have HR : Hid _ := hR
    clear hX hV hR
    match ts, HV, HR with
    | [], HV, HR =>
      have HN : Hid (nameR s p = false) := by
        have : nmB s = false := by
          cases hn : nmB s with
          | false => rfl
          | true => rcases HV.out.2 hn with ⟨h, _⟩ | ⟨_, h⟩
                    · have := (nmB_iff.1 hn).1; omega
                    · cases h
        simp [Hid, nameR, this]
      obtain ⟨g, cap, e, c0, c1, c2, c3⟩ := TokRow.first (x := ⟨0, ⟨#[]⟩, 0, a⟩) (r := []) HR.out
      injection e with e1 e2 e3
      subst e1 e2 e3
      go_wp2_with fail
      go_ret
      exact ⟨by rw [HN.out]; rfl, hk⟩
    | x :: y :: r, HV, HR =>
      have HN : Hid (nameR s p = false) := by
        have : nmB s = false := by
          cases hn : nmB s with
          | false => rfl
          | true => rcases HV.out.2 hn with ⟨_, h⟩ | ⟨_, h⟩ <;> simp at h
        simp [Hid, nameR, this]
      have hR2 : TokRow w1 w.heap.size (.slice ga gn gc) (x :: (y :: r ++ [⟨0, ⟨#[]⟩, 0, a⟩])) := HR.out
      obtain ⟨g, cap, e, c0, c1, c2, c3⟩ := TokRow.first hR2
      injection e with e1 e2 e3
      subst e1 e2 e3
      have q1 : ((((y :: r ++ [(⟨0, ⟨#[]⟩, 0, a⟩ : Tok)]).length + 1 : Nat) : Int) != 2) = true := by simp; omega
      obtain ⟨L, hL⟩ : ∃ L, (y :: r ++ [(⟨0, ⟨#[]⟩, 0, a⟩ : Tok)]).length + 1 = L := ⟨_, rfl⟩
      rw [hL] at q1
      simp only [hL]
      go_wp2_with fail
      go_ret
      exact ⟨by rw [HN.out]; rfl, hk⟩
    | [x], HV, HR =>
      obtain ⟨g, cap, e, c0, c1, c2, c3⟩ := TokRow.first (r := [⟨0, ⟨#[]⟩, 0, a⟩]) HR.out
      injection e with e1 e2 e3
      subst e1 e2 e3
      obtain ⟨xk, xs, xn, xa⟩ := x
      simp only at c0 c1 c2 c3
      by_cases hxk : xk = 1
      · subst hxk
        by_cases hxs : xs = s
        · subst hxs
          have hn : nmB xs = true := HV.out.1 _ rfl rfl rfl
          have HN : Hid (nameR xs p = (!isW xs || (p && decide (xs = protoS)))) := by simp [Hid, nameR, hn]
          have q2 : (xs.toList != xs.toList) = false := by simp
          have q3 : (xs.toList == [112, 114, 111, 116, 111]) = decide (xs = protoS) := by rw [← bytes_same, show protoS.toList = [112, 114, 111, 116, 111] by rw [ByteArray.toList_eq]; rfl]
          have hW := Word_ok w1 xs xn xa
          obtain ⟨b, hb⟩ : ∃ b, isW xs = b := ⟨_, rfl⟩
          obtain ⟨d, hd⟩ : ∃ d, decide (xs = protoS) = d := ⟨_, rfl⟩
          rw [hb, hd] at HN
          rw [hb] at hW
          rw [hd] at q3
          clear hb hd hn
          cases b
          · cases p
            · go_wp2_with (go_at_call 49; refine hW.mono ?_; rintro e w2 ⟨rfl, hk2⟩)
              go_ret
              exact ⟨by rw [HN.out]; rfl, hk.trans hk2⟩
            · go_wp2_with (go_at_call 49; refine hW.mono ?_; rintro e w2 ⟨rfl, hk2⟩)
              go_ret
              exact ⟨by rw [HN.out]; rfl, hk.trans hk2⟩
          · cases p
            · go_wp2_with (go_at_call 49; refine hW.mono ?_; rintro e w2 ⟨rfl, hk2⟩)
              go_ret
              exact ⟨by rw [HN.out]; rfl, hk.trans hk2⟩
            · go_wp2_with (go_at_call 49; refine hW.mono ?_; rintro e w2 ⟨rfl, hk2⟩)
              go_ret
              exact ⟨by rw [HN.out]; rfl, hk.trans hk2⟩
        · have HN : Hid (nameR s p = false) := by
            have : nmB s = false := by
              cases hn : nmB s with
              | false => rfl
              | true =>
                rcases HV.out.2 hn with ⟨_, h⟩ | ⟨_, h⟩
                · cases h
                · simp at h; exact absurd h.1 hxs
            simp [Hid, nameR, this]
          have q2 : (xs.toList == s.toList) = false := by rw [bytes_same]; simpa using hxs
          have q3 : (xs.toList != s.toList) = true := by rw [bne, q2]; rfl
          clear hxs
          go_wp2_with fail
          go_ret
          exact ⟨by rw [HN.out]; rfl, hk⟩
      · have HN : Hid (nameR s p = false) := by
          have : nmB s = false := by
            cases hn : nmB s with
            | false => rfl
            | true =>
              rcases HV.out.2 hn with ⟨_, h⟩ | ⟨_, h⟩
              · cases h
              · simp at h; exact absurd h.1 hxk
          simp [Hid, nameR, this]
        have q2 : (xk != 1) = true := by simpa using hxk
        clear hxk
        go_wp2_with fail
        go_ret
        exact ⟨by rw [HN.out]; rfl, hk⟩
set_option maxHeartbeats 8000000 in
set_option maxRecDepth 100000 in
theorem l13Text_ok (w : World) (s : ByteArray) (hs : s.size ≤ 1048576) :
    Calls Tryz.prog 35 #[.string s] w fun e w' => e = .returned (.bool (textR s)) ∧ Kept w w' := by
  go_enter Tryz.func35, Tryz.ntmps35
  go_wp2_with fail
  go_loopw [3] (fun iv wr => ∃ (k : Nat), iv = .int .i64 k ∧ k ≤ s.size ∧ Hid (runE textB s k = runE textB s 0) ∧ Hid (Kept w wr)) (fun i _ => s.size - (intOf i).toNat)
  case atStart => exact ⟨0, rfl, Nat.zero_le _, rfl, Below.refl _ _⟩
  case round =>
    obtain ⟨k, rfl, hk, hE, hK⟩ := hrel
    by_cases hlt : k < s.size
    · have q1 : (k : Int) < (s.size : Int) := by omega
      by_cases hp : textB (byteN s k) = true
      · have hp2 : ¬ byteN s k = 34 ∧ 32 ≤ byteN s k ∧ byteN s k ≤ 126 := by simpa [textB] using hp
        have HN : Hid (runE textB s (k + 1) = runE textB s 0) := by rw [Hid, ← runE_step hlt hp]; exact hE.out
        have r1 : decide ((s[k].toNat : Int) < 32) = false := by rw [byteN_get s k hlt]; simp; omega
        have r2 : decide (126 < (s[k].toNat : Int)) = false := by rw [byteN_get s k hlt]; simp; omega
        have r3 : ((s[k].toNat : Int) == 34) = false := by rw [byteN_get s k hlt]; simpa using hp2.1
        clear hp hp2
        go_wp2_with fail
        exact ⟨⟨k + 1, by go_num, by omega, HN.out, hK.out⟩, by simp [intOf]; omega⟩
      · have HT : Hid (textR s = false) := by
          have hp' : textB (byteN s k) = false := by simpa using hp
          have : runE textB s 0 = k := by rw [← hE.out]; exact runE_stop hp'
          rw [Hid, textR, this]
          simp
          omega
        have hp2 : (s[k].toNat : Int) < 32 ∨ (¬ (s[k].toNat : Int) < 32 ∧ (126 : Int) < (s[k].toNat : Int)) ∨ (¬ (s[k].toNat : Int) < 32 ∧ ¬ (126 : Int) < (s[k].toNat : Int) ∧ (s[k].toNat : Int) = 34) := by
          rw [byteN_get s k hlt]
          simp [textB] at hp
          omega
        clear hp
        rcases hp2 with h | ⟨h1, h2⟩ | ⟨h1, h2, h3⟩
        · have r1 : decide ((s[k].toNat : Int) < 32) = true := by simpa using h
          clear h
          go_wp2_with fail
          go_ret
          exact ⟨by rw [HT.out]; rfl, hK.out⟩
        · have r1 : decide ((s[k].toNat : Int) < 32) = false := by simpa using h1
          have r2 : decide (126 < (s[k].toNat : Int)) = true := by simpa using h2
          clear h1 h2
          go_wp2_with fail
          go_ret
          exact ⟨by rw [HT.out]; rfl, hK.out⟩
        · have r1 : decide ((s[k].toNat : Int) < 32) = false := by simpa using h1
          have r2 : decide (126 < (s[k].toNat : Int)) = false := by simpa using h2
          have r3 : ((s[k].toNat : Int) == 34) = true := by simpa using h3
          clear h1 h2 h3
          go_wp2_with fail
          go_ret
          exact ⟨by rw [HT.out]; rfl, hK.out⟩
    · have q1 : ¬ (k : Int) < (s.size : Int) := by omega
      have HT : Hid (textR s = decide ((s.size : Int) ≤ 30)) := by
        rw [Hid, textR, ← hE.out, runE_end hlt, show k = s.size by omega]
        simp
        constructor <;> intro h <;> omega
      go_wp2_with fail
      go_ret
      exact ⟨by rw [HT.out]; rfl, hK.out⟩
set_option maxHeartbeats 8000000 in
set_option maxRecDepth 100000 in
theorem l13Names_ok (w : World) (s : ByteArray) (hs : s.size ≤ 1048576) :
    Calls Tryz.prog 36 #[.string s] w fun e w' => e = .returned (.bool (namesR s)) ∧ Kept w w' := by
  by_cases h0 : s.size = 0
  · obtain rfl : s = ⟨#[]⟩ := by
      apply ByteArray.ext
      exact Array.eq_empty_of_size_eq_zero h0
    go_enter Tryz.func36, Tryz.ntmps36
    go_wp2_with fail
    go_loopw [3, 4] (fun fv iv wr => fv = .int .i64 0 ∧ iv = .int .i64 0 ∧ Hid (Kept w wr)) (fun _ i _ => 1)
    case atStart => exact ⟨rfl, rfl, Below.refl _ _⟩
    case round =>
      obtain ⟨rfl, rfl, hK⟩ := hrel
      go_wp2_with fail
      go_ret
      exact ⟨rfl, hK.out⟩
  · have HE : s.toList.isEmpty = false := by
      rw [ByteArray.toList_eq]
      cases h : s.data.toList with
      | nil => exact absurd (by rw [ByteArray.size, ← Array.length_toList, h]; rfl) h0
      | cons a l => rfl
    have HR0 : Hid (namesR s = namesF s (s.size + 1) 0 0) := by simp [Hid, namesR, h0]
    go_enter Tryz.func36, Tryz.ntmps36
    go_wp2_with fail
    go_loopw [3, 4] (fun fv iv wr => ∃ (f k : Nat), fv = .int .i64 f ∧ iv = .int .i64 k ∧ f ≤ k ∧ k ≤ s.size + 1 ∧ Hid (namesF s (s.size + 1 - k) f k = namesR s) ∧ Hid (Kept w wr)) (fun _ i _ => s.size + 1 - (intOf i).toNat)
    case atStart => exact ⟨0, 0, rfl, rfl, Nat.le_refl _, Nat.zero_le _, HR0.out.symm, Below.refl _ _⟩
    case round =>
      obtain ⟨f, k, rfl, rfl, hf, hk, hE, hK⟩ := hrel
      by_cases hle : k ≤ s.size
      · have q1 : (k : Int) ≤ (s.size : Int) := by omega
        have hE' : namesF s ((s.size - k) + 1) f k = namesR s := by rw [show s.size - k + 1 = s.size + 1 - k by omega]; exact hE.out
        unfold namesF at hE'
        by_cases hx : k = s.size ∨ byteN s k = 32
        · rw [if_pos hx] at hE'
          have HE2 : Hid _ := hE'
          have hN := fun u => l13Name_ok u (s.extract f k) false (Nat.le_trans (extract_le _ _ _) hs)
          have q5 : (f : Int) ≤ (k : Int) := by omega
          obtain ⟨X, hX⟩ : ∃ X, s.extract f k = X := ⟨_, rfl⟩
          rw [hX] at HE2 hN
          obtain ⟨b, hb⟩ : ∃ b, nameR X false = b := ⟨_, rfl⟩
          rw [hb] at HE2
          have hN2 := fun u => hb ▸ hN u
          have HX : Hid _ := hX
          clear hE' hN hb
          have hx2 : k = s.size ∨ ∃ h : k < s.size, (((k : Nat) : Int) == ((s.size : Nat) : Int)) = false ∧ ((s[k].toNat : Int) == 32) = true := by
            rcases hx with h | h
            · exact .inl h
            · by_cases hk2 : k = s.size
              · exact .inl hk2
              · have hlt : k < s.size := by omega
                exact .inr ⟨hlt, by simp; omega, by rw [byteN_get s k hlt]; simpa using h⟩
          clear hx hE
          rcases hx2 with rfl | ⟨hlt, q3, q4⟩
          · cases b
            · go_wp2_with (go_at_call 34; refine (hN2 _).mono ?_; rintro e w2 ⟨rfl, hk2⟩)
              go_ret
              exact ⟨by rw [← HE2.out]; rfl, hK.out.trans hk2⟩
            · go_wp2_with (go_at_call 34; refine (hN2 _).mono ?_; rintro e w2 ⟨rfl, hk2⟩)
              refine ⟨⟨s.size + 1, s.size + 1, by go_num, by go_num, Nat.le_refl _, Nat.le_refl _, ?_, hK.out.trans hk2⟩, by simp [intOf]⟩
              rw [Hid, ← HE2.out]
              simp
          · cases b
            · go_wp2_with (go_at_call 34; refine (hN2 _).mono ?_; rintro e w2 ⟨rfl, hk2⟩)
              go_ret
              exact ⟨by rw [← HE2.out]; rfl, hK.out.trans hk2⟩
            · go_wp2_with (go_at_call 34; refine (hN2 _).mono ?_; rintro e w2 ⟨rfl, hk2⟩)
              refine ⟨⟨k + 1, k + 1, by go_num, by go_num, Nat.le_refl _, by omega, ?_, hK.out.trans hk2⟩, by simp [intOf]; omega⟩
              rw [Hid, ← HE2.out, show s.size + 1 - (k + 1) = s.size - k by omega]
              simp
        · rw [if_neg hx] at hE'
          have hlt : k < s.size := by omega
          have q3 : (((k : Nat) : Int) == ((s.size : Nat) : Int)) = false := by simp; omega
          have q4 : ((s[k].toNat : Int) == 32) = false := by rw [byteN_get s k hlt]; simp; intro h; exact hx (.inr h)
          have HE2 : Hid _ := hE'
          clear hx hE' hE
          go_wp2_with fail
          refine ⟨⟨f, k + 1, rfl, by go_num, by omega, by omega, ?_, hK.out⟩, by simp [intOf]; omega⟩
          rw [Hid, ← HE2.out, show s.size + 1 - (k + 1) = s.size - k by omega]
      · have q1 : ¬ (k : Int) ≤ (s.size : Int) := by omega
        have HT : Hid (namesR s = true) := by rw [Hid, ← hE.out, show s.size + 1 - k = 0 by omega]; rfl
        go_wp2_with fail
        go_ret
        exact ⟨by rw [HT.out]; rfl, hK.out⟩
end Go.Proofs.YtlinbkgeahgkjaaGreatDoor
