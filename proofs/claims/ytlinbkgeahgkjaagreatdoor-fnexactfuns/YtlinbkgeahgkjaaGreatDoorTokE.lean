/-
  The contract of chapter 11's model l11Num.
-/
import Derived.Test.YtlinbkgeahgkjaaGreatDoorTokB
import Derived.Test.YtlinbkgeahgkjaaGreatDoorDigA
import Derived.Test.YtlinbkgeahgkjaaGreatDoorSeqG
import Derived.Deep.RegionWith
namespace Go.Proofs.YtlinbkgeahgkjaaGreatDoor
open Go.RowKit
set_option linter.unusedSimpArgs false

/-- The number of the first n digits from a on; one that is too great is left as it is. -/
def numX (t : ByteArray) (a : Nat) : Nat → Int
  | 0 => 0
  | n + 1 => if numX t a n ≤ 2147483647 then 10 * numX t a n + byteN t (a + n) - 48 else numX t a n
def numE (t : ByteArray) (a : Nat) : Nat := runE digB t a
def numV (t : ByteArray) (a : Nat) : Int := numX t a (numE t a - a)
def numOk (t : ByteArray) (a : Nat) : Bool := decide (numV t a ≤ 2147483647) && ((strOfNums (digI (numV t a))).toList == (t.extract a (numE t a)).toList)
/-- What is told of the operations of l11Num's last region, for a number x that fits (b) or not. -/
def numT (w : World) (t : ByteArray) (a k : Nat) (x : Int) (b : Bool) (P : ByteArray) : Told where
  B u := Kept w u ∧ ∃ c0 c1 c2 c3, Cells u w.heap.size 91 #[c0, c1, c2, c3]
  R j vs u := match j with
    | 0 => vs 0 = .int .i64 x
    | 1 => vs 1 = .int .i64 (a : Nat)
    | 2 => vs 2 = .agg #[.int .i64 2, .string ⟨#[]⟩, .int .i64 x, .int .i64 (a : Nat)]
    | 3 => vs 3 = .int .i64 (k : Nat)
    | 4 => vs 4 = .int .i64 x
    | 5 => vs 5 = .bool b
    | 6 => vs 6 = .bool b
    | 7 => b = true → vs 7 = .int .i64 x
    | 8 => b = true → vs 8 = .string P
    | 9 => b = true → vs 9 = .string t
    | 10 => b = true → vs 10 = .int .i64 (a : Nat)
    | 11 => b = true → vs 11 = .int .i64 (k : Nat)
    | 12 => b = true → vs 12 = .string (t.extract a k)
    | 13 => b = true → vs 13 = .bool (P.toList == (t.extract a k).toList)
    | 14 => vs 14 = .bool (b && (P.toList == (t.extract a k).toList))
    | 15 => Cells u w.heap.size 91 #[.int .i64 2, .string ⟨#[]⟩, .int .i64 x, .int .i64 (a : Nat)]
    | 16 => vs 16 = .int .i64 (k : Nat)
    | _ => True
theorem numT_own {ops : Array Oper} {w : World} {t P : ByteArray} {a k : Nat} {x : Int} {b : Bool} : (numT w t a k x b P).own ops := by
  intro j vs vs' u h hR
  match j, h, hR with
  | 0, h, hR => show vs' 0 = _; rw [← h 0 (.inl rfl)]; exact hR
  | 1, h, hR => show vs' 1 = _; rw [← h 1 (.inl rfl)]; exact hR
  | 2, h, hR => show vs' 2 = _; rw [← h 2 (.inl rfl)]; exact hR
  | 3, h, hR => show vs' 3 = _; rw [← h 3 (.inl rfl)]; exact hR
  | 4, h, hR => show vs' 4 = _; rw [← h 4 (.inl rfl)]; exact hR
  | 5, h, hR => show vs' 5 = _; rw [← h 5 (.inl rfl)]; exact hR
  | 6, h, hR => show vs' 6 = _; rw [← h 6 (.inl rfl)]; exact hR
  | 7, h, hR => show b = true → vs' 7 = _; rw [← h 7 (.inl rfl)]; exact hR
  | 8, h, hR => show b = true → vs' 8 = _; rw [← h 8 (.inl rfl)]; exact hR
  | 9, h, hR => show b = true → vs' 9 = _; rw [← h 9 (.inl rfl)]; exact hR
  | 10, h, hR => show b = true → vs' 10 = _; rw [← h 10 (.inl rfl)]; exact hR
  | 11, h, hR => show b = true → vs' 11 = _; rw [← h 11 (.inl rfl)]; exact hR
  | 12, h, hR => show b = true → vs' 12 = _; rw [← h 12 (.inl rfl)]; exact hR
  | 13, h, hR => show b = true → vs' 13 = _; rw [← h 13 (.inl rfl)]; exact hR
  | 14, h, hR => show vs' 14 = _; rw [← h 14 (.inl rfl)]; exact hR
  | 16, h, hR => show vs' 16 = _; rw [← h 16 (.inl rfl)]; exact hR
  | 15, _, hR => exact hR
  | _ + 17, _, _ => exact trivial
theorem numT_kept {w u u' : World} {t P : ByteArray} {a k : Nat} {x : Int} {b : Bool} (hk : Kept u u') (j : Nat) (vs : Nat → Value) (h : (numT w t a k x b P).R j vs u) : (numT w t a k x b P).R j vs u' := by
  match j, h with
  | 0, h => exact h
  | 1, h => exact h
  | 2, h => exact h
  | 3, h => exact h
  | 4, h => exact h
  | 5, h => exact h
  | 6, h => exact h
  | 7, h => exact h
  | 8, h => exact h
  | 9, h => exact h
  | 10, h => exact h
  | 11, h => exact h
  | 12, h => exact h
  | 13, h => exact h
  | 14, h => exact h
  | 16, h => exact h
  | 15, h => exact Cells.kept h hk
  | _ + 17, _ => exact trivial
theorem numT_store {w u u' : World} {t P : ByteArray} {a k : Nat} {x : Int} {b : Bool} (j : Nat) (vs : Nat → Value) (hj : j ≠ 15) (h : (numT w t a k x b P).R j vs u) : (numT w t a k x b P).R j vs u' := by
  match j, hj, h with
  | 0, _, h => exact h
  | 1, _, h => exact h
  | 2, _, h => exact h
  | 3, _, h => exact h
  | 4, _, h => exact h
  | 5, _, h => exact h
  | 6, _, h => exact h
  | 7, _, h => exact h
  | 8, _, h => exact h
  | 9, _, h => exact h
  | 10, _, h => exact h
  | 11, _, h => exact h
  | 12, _, h => exact h
  | 13, _, h => exact h
  | 14, _, h => exact h
  | 16, _, h => exact h
  | 15, hj, _ => exact absurd rfl hj
  | _ + 17, _, _ => exact trivial
def noD (_ _ : Nat) : Bool := false
set_option maxHeartbeats 8000000 in
set_option maxRecDepth 100000 in
theorem l11Num_ok (w : World) (t : ByteArray) (a : Nat) (ha : a ≤ t.size) (ht : t.size ≤ 1048576) :
    Calls Tryz.prog 88 #[.string t, .int .i64 (a : Nat)] w fun e w' => e = .returned (.tuple #[.agg #[.int .i64 2, .string ⟨#[]⟩, .int .i64 (numV t a), .int .i64 (a : Nat)], .int .i64 (numE t a : Nat), .bool (numOk t a)]) ∧ Kept w w' := by
  have b0 := Cells.new w 91 #[.int .i64 0, .string ⟨#[]⟩, .int .i64 0, .int .i64 0]
  have k0 : Kept w (w.alloc (.cells #[.int .i64 0, .string ⟨#[]⟩, .int .i64 0, .int .i64 0] 91)) := Kept.alloc (Below.refl _ _) _
  go_enter Tryz.func88, Tryz.ntmps88
  go_wp2_with fail
  go_loopw [7, 8] (fun iv xv wr => ∃ (k : Nat), iv = .int .i64 k ∧ a ≤ k ∧ k ≤ t.size ∧ ∃ x, xv = .int .i64 x ∧ 0 ≤ x ∧ x ≤ 21474836479 ∧ Hid (x = numX t a (k - a)) ∧ Hid (runE digB t k = runE digB t a) ∧ Hid (Kept (w.alloc (.cells #[.int .i64 0, .string ⟨#[]⟩, .int .i64 0, .int .i64 0] 91)) wr)) (fun i _ _ => t.size - (intOf i).toNat)
  case atStart => exact ⟨a, rfl, Nat.le_refl _, ha, 0, rfl, by decide, by decide, by rw [Hid, Nat.sub_self]; rfl, rfl, Below.refl _ _⟩
  case round =>
    obtain ⟨k, rfl, hk0, hk, x, rfl, hx0, hx1, hX, hE, hK⟩ := hrel
    by_cases hgo : k < t.size ∧ digB (byteN t k) = true
    · obtain ⟨hlt, hp⟩ := hgo
      have q1 : (k : Int) < (t.size : Int) := by omega
      have hD' : digB (t[k].toNat : Int) = true := by rw [byteN_get t k hlt]; exact hp
      have hb : 48 ≤ byteN t k ∧ byteN t k ≤ 57 := by simpa [digB] using hp
      have hbt : (t[k].toNat : Int) = byteN t k := byteN_get t k hlt
      have hb1 : (48 : Int) ≤ (t[k].toNat : Int) := by omega
      have hb2 : (t[k].toNat : Int) ≤ 57 := by omega
      have HN : Hid (runE digB t (k + 1) = runE digB t a) := by rw [Hid, ← runE_step hlt hp]; exact hE.out
      by_cases hm : x ≤ 2147483647
      · have HX1 : Hid (10 * x + (t[k].toNat : Int) - 48 = numX t a (k + 1 - a)) := by
          rw [Hid, show k + 1 - a = (k - a) + 1 by omega]
          show _ = if numX t a (k - a) ≤ 2147483647 then _ else _
          rw [← hX.out, if_pos hm, show a + (k - a) = k by omega, hbt]
        clear hp hbt hb
        go_wp2_with (go_at_call 87; refine (l11Digit_ok _ _).mono ?_; rintro e wx ⟨rfl, rfl⟩)
        exact ⟨⟨k + 1, by go_num, by omega, by omega, _, rfl, by omega, by omega, HX1.out, HN.out, hK.out⟩, by simp [intOf]; omega⟩
      · have HX1 : Hid (x = numX t a (k + 1 - a)) := by
          rw [Hid, show k + 1 - a = (k - a) + 1 by omega]
          show _ = if numX t a (k - a) ≤ 2147483647 then _ else _
          rw [← hX.out, if_neg hm]
        clear hp hbt hb
        go_wp2_with (go_at_call 87; refine (l11Digit_ok _ _).mono ?_; rintro e wx ⟨rfl, rfl⟩)
        exact ⟨⟨k + 1, by go_num, by omega, by omega, x, rfl, hx0, hx1, HX1.out, HN.out, hK.out⟩, by simp [intOf]; omega⟩
    · have HE : Hid (numE t a = k) := by
        rw [Hid, numE, ← hE.out]
        by_cases hlt : k < t.size
        · exact runE_stop (by cases h : digB (byteN t k) with | false => rfl | true => exact absurd ⟨hlt, h⟩ hgo)
        · exact runE_end hlt
      have HV : Hid (numV t a = x) := by rw [Hid, numV, HE.out]; exact hX.out.symm
      have b1 := b0.kept hK.out
      have HKd : Hid (Kept w wr.drew) := (k0.trans hK.out).trans (Below.refl _ _).drew
      have HCd : Hid (∃ c0 c1 c2 c3, Cells wr.drew w.heap.size 91 #[c0, c1, c2, c3]) := ⟨_, _, _, _, b1.kept (Below.refl _ _).drew⟩
      have hgo2 : (¬ (k : Int) < (t.size : Int)) ∨ ∃ h : k < t.size, digB (t[k].toNat : Int) = false := by
        by_cases hlt : k < t.size
        · exact .inr ⟨hlt, by rw [byteN_get t k hlt]; cases h : digB (byteN t k) with | false => rfl | true => exact absurd ⟨hlt, h⟩ hgo⟩
        · exact .inl (by omega)
      have HC : Hid (∀ u, Calls Tryz.prog 105 #[.int .i64 x] u fun e w' => e = .returned (.string (strOfNums (digI x))) ∧ Kept u w') := fun u => l7Digits_ok u x ⟨by omega, by omega⟩
      have HO0 : Hid (numOk t a = (decide (x ≤ 2147483647) && ((strOfNums (digI x)).toList == (t.extract a k).toList))) := by rw [Hid, numOk, HV.out, HE.out]
      obtain ⟨P, hP⟩ : ∃ P, strOfNums (digI x) = P := ⟨_, rfl⟩
      rw [hP] at HO0 HC
      clear hgo hX hE hP b1
      by_cases hm : x ≤ 2147483647
      · have HO : Hid (numOk t a = (true && (P.toList == (t.extract a k).toList))) := by rw [Hid, HO0.out]; simp [hm]
        rcases hgo2 with q1 | ⟨hlt, q2⟩
        all_goals (
          try (have q1 : (k : Int) < (t.size : Int) := by omega)
          go_wp2_with (go_at_call 87; refine (l11Digit_ok _ _).mono ?_; rintro e wx ⟨rfl, rfl⟩)
          refine wp_region_toldG 17 (numT w t a k x true P) noD (by kernel_rfl) (by kernel_rfl) (by decide) (by kernel_rfl) numT_own ⟨HKd.out, HCd.out⟩ ?_ ?_
          · intro i hi vs
            rcases (show i = 0 ∨ i = 1 ∨ i = 2 ∨ i = 3 ∨ i = 4 ∨ i = 5 ∨ i = 6 ∨ i = 7 ∨ i = 8 ∨ i = 9 ∨ i = 10 ∨ i = 11 ∨ i = 12 ∨ i = 13 ∨ i = 14 ∨ i = 15 ∨ i = 16 by omega) with rfl | rfl | rfl | rfl | rfl | rfl | rfl | rfl | rfl | rfl | rfl | rfl | rfl | rfl | rfl | rfl | rfl
            · refine ⟨_, rfl, fun u hu hd => ?_⟩
              skip
              refine .inr ⟨rfl, .inl ⟨.int .i64 x, u, ?_, hu, by simp [numT, vsX], (fun j _ _ _ h => h)⟩⟩
              simp only [frR, dstAt, List.getElem?_toArray, List.getElem?_cons_zero, List.getElem?_cons_succ, Option.bind_some, Act.put, List.setIfInBounds_toArray, List.set_cons_zero, List.set_cons_succ]; go_simp; first | done | exact rfl
            · refine ⟨_, rfl, fun u hu hd => ?_⟩
              skip
              refine .inr ⟨rfl, .inl ⟨.int .i64 (a : Nat), u, ?_, hu, by simp [numT, vsX], (fun j _ _ _ h => h)⟩⟩
              simp only [frR, dstAt, List.getElem?_toArray, List.getElem?_cons_zero, List.getElem?_cons_succ, Option.bind_some, Act.put, List.setIfInBounds_toArray, List.set_cons_zero, List.set_cons_succ]; go_simp; first | done | exact rfl
            · refine ⟨_, rfl, fun u hu hd => ?_⟩
              have e0 : vs 0 = .int .i64 x := hd 0 (by kernel_rfl)
              have e1 : vs 1 = .int .i64 (a : Nat) := hd 1 (by kernel_rfl)
              refine .inr ⟨rfl, .inl ⟨.agg #[.int .i64 2, .string ⟨#[]⟩, .int .i64 x, .int .i64 (a : Nat)], u, ?_, hu, by simp [numT, vsX], (fun j _ _ _ h => h)⟩⟩
              simp only [frR, dstAt, List.getElem?_toArray, List.getElem?_cons_zero, List.getElem?_cons_succ, Option.bind_some, Act.put, List.setIfInBounds_toArray, List.set_cons_zero, List.set_cons_succ]; simp only [e0, e1]; go_simp; first | done | exact rfl
            · refine ⟨_, rfl, fun u hu hd => ?_⟩
              skip
              refine .inr ⟨rfl, .inl ⟨.int .i64 (k : Nat), u, ?_, hu, by simp [numT, vsX], (fun j _ _ _ h => h)⟩⟩
              simp only [frR, dstAt, List.getElem?_toArray, List.getElem?_cons_zero, List.getElem?_cons_succ, Option.bind_some, Act.put, List.setIfInBounds_toArray, List.set_cons_zero, List.set_cons_succ]; go_simp; first | done | exact rfl
            · refine ⟨_, rfl, fun u hu hd => ?_⟩
              skip
              refine .inr ⟨rfl, .inl ⟨.int .i64 x, u, ?_, hu, by simp [numT, vsX], (fun j _ _ _ h => h)⟩⟩
              simp only [frR, dstAt, List.getElem?_toArray, List.getElem?_cons_zero, List.getElem?_cons_succ, Option.bind_some, Act.put, List.setIfInBounds_toArray, List.set_cons_zero, List.set_cons_succ]; go_simp; first | done | exact rfl
            · refine ⟨_, rfl, fun u hu hd => ?_⟩
              have e4 : vs 4 = .int .i64 x := hd 4 (by kernel_rfl)
              refine .inr ⟨rfl, .inl ⟨.bool true, u, ?_, hu, by simp [numT, vsX], (fun j _ _ _ h => h)⟩⟩
              simp only [frR, dstAt, List.getElem?_toArray, List.getElem?_cons_zero, List.getElem?_cons_succ, Option.bind_some, Act.put, List.setIfInBounds_toArray, List.set_cons_zero, List.set_cons_succ]; simp only [e4]; go_simp; first | done | exact rfl
            · refine ⟨_, rfl, fun u hu hd => ?_⟩
              have e5 : vs 5 = .bool true := hd 5 (by kernel_rfl)
              refine .inr ⟨rfl, .inl ⟨.bool true, u, ?_, hu, by simp [numT, vsX], (fun j _ _ _ h => h)⟩⟩
              simp only [frR, dstAt, List.getElem?_toArray, List.getElem?_cons_zero, List.getElem?_cons_succ, Option.bind_some, Act.put, List.setIfInBounds_toArray, List.set_cons_zero, List.set_cons_succ]; simp only [e5]; go_simp; first | done | exact rfl
            · refine ⟨_, rfl, fun u hu hd => ?_⟩
              have e6 : vs 6 = .bool true := hd 6 (by kernel_rfl)
              refine .inr ⟨(by simp only [frR, dstAt, List.getElem?_toArray, List.getElem?_cons_zero, List.getElem?_cons_succ, Option.bind_some, Act.put, List.setIfInBounds_toArray, List.set_cons_zero, List.set_cons_succ]; simp only [e6]; rfl), .inl ⟨.int .i64 x, u, ?_, hu, by simp [numT, vsX], (fun j _ _ _ h => h)⟩⟩
              simp only [frR, dstAt, List.getElem?_toArray, List.getElem?_cons_zero, List.getElem?_cons_succ, Option.bind_some, Act.put, List.setIfInBounds_toArray, List.set_cons_zero, List.set_cons_succ]; simp only [e6]; go_simp; first | done | exact rfl
            · refine ⟨_, rfl, fun u hu hd => ?_⟩
              have e6 : vs 6 = .bool true := hd 6 (by kernel_rfl)
              have e7 : vs 7 = .int .i64 x := hd 7 (by kernel_rfl) rfl
              refine .inr ⟨(by simp only [frR, dstAt, List.getElem?_toArray, List.getElem?_cons_zero, List.getElem?_cons_succ, Option.bind_some, Act.put, List.setIfInBounds_toArray, List.set_cons_zero, List.set_cons_succ]; simp only [e6]; rfl), .inr (.inl ⟨105, #[.int .i64 x], ?_, ?_⟩)⟩
              · simp only [frR, dstAt, List.getElem?_toArray, List.getElem?_cons_zero, List.getElem?_cons_succ, Option.bind_some, Act.put, List.setIfInBounds_toArray, List.set_cons_zero, List.set_cons_succ]; simp only [e7]; go_simp; first | done | exact rfl
              · refine (HC.out u).mono ?_
                rintro e w5 ⟨rfl, hk5⟩
                obtain ⟨hKu, c0, c1, c2, c3, hcs⟩ := hu
                exact ⟨_, rfl, ⟨hKu.trans hk5, c0, c1, c2, c3, hcs.kept hk5⟩, (by simp [numT, vsX]), fun j _ _ _ h => numT_kept hk5 j vs h⟩
            · refine ⟨_, rfl, fun u hu hd => ?_⟩
              have e6 : vs 6 = .bool true := hd 6 (by kernel_rfl)
              refine .inr ⟨(by simp only [frR, dstAt, List.getElem?_toArray, List.getElem?_cons_zero, List.getElem?_cons_succ, Option.bind_some, Act.put, List.setIfInBounds_toArray, List.set_cons_zero, List.set_cons_succ]; simp only [e6]; rfl), .inl ⟨.string t, u, ?_, hu, by simp [numT, vsX], (fun j _ _ _ h => h)⟩⟩
              simp only [frR, dstAt, List.getElem?_toArray, List.getElem?_cons_zero, List.getElem?_cons_succ, Option.bind_some, Act.put, List.setIfInBounds_toArray, List.set_cons_zero, List.set_cons_succ]; simp only [e6]; go_simp; first | done | exact rfl
            · refine ⟨_, rfl, fun u hu hd => ?_⟩
              have e6 : vs 6 = .bool true := hd 6 (by kernel_rfl)
              refine .inr ⟨(by simp only [frR, dstAt, List.getElem?_toArray, List.getElem?_cons_zero, List.getElem?_cons_succ, Option.bind_some, Act.put, List.setIfInBounds_toArray, List.set_cons_zero, List.set_cons_succ]; simp only [e6]; rfl), .inl ⟨.int .i64 (a : Nat), u, ?_, hu, by simp [numT, vsX], (fun j _ _ _ h => h)⟩⟩
              simp only [frR, dstAt, List.getElem?_toArray, List.getElem?_cons_zero, List.getElem?_cons_succ, Option.bind_some, Act.put, List.setIfInBounds_toArray, List.set_cons_zero, List.set_cons_succ]; simp only [e6]; go_simp; first | done | exact rfl
            · refine ⟨_, rfl, fun u hu hd => ?_⟩
              have e6 : vs 6 = .bool true := hd 6 (by kernel_rfl)
              refine .inr ⟨(by simp only [frR, dstAt, List.getElem?_toArray, List.getElem?_cons_zero, List.getElem?_cons_succ, Option.bind_some, Act.put, List.setIfInBounds_toArray, List.set_cons_zero, List.set_cons_succ]; simp only [e6]; rfl), .inl ⟨.int .i64 (k : Nat), u, ?_, hu, by simp [numT, vsX], (fun j _ _ _ h => h)⟩⟩
              simp only [frR, dstAt, List.getElem?_toArray, List.getElem?_cons_zero, List.getElem?_cons_succ, Option.bind_some, Act.put, List.setIfInBounds_toArray, List.set_cons_zero, List.set_cons_succ]; simp only [e6]; go_simp; first | done | exact rfl
            · refine ⟨_, rfl, fun u hu hd => ?_⟩
              have e6 : vs 6 = .bool true := hd 6 (by kernel_rfl)
              have e9 : vs 9 = .string t := hd 9 (by kernel_rfl) rfl
              have e10 : vs 10 = .int .i64 (a : Nat) := hd 10 (by kernel_rfl) rfl
              have e11 : vs 11 = .int .i64 (k : Nat) := hd 11 (by kernel_rfl) rfl
              refine .inr ⟨(by simp only [frR, dstAt, List.getElem?_toArray, List.getElem?_cons_zero, List.getElem?_cons_succ, Option.bind_some, Act.put, List.setIfInBounds_toArray, List.set_cons_zero, List.set_cons_succ]; simp only [e6]; rfl), .inl ⟨.string (t.extract a k), u, ?_, hu, by simp [numT, vsX], (fun j _ _ _ h => h)⟩⟩
              simp only [frR, dstAt, List.getElem?_toArray, List.getElem?_cons_zero, List.getElem?_cons_succ, Option.bind_some, Act.put, List.setIfInBounds_toArray, List.set_cons_zero, List.set_cons_succ]; simp only [e6, e9, e10, e11]; go_simp; first | done | exact rfl
            · refine ⟨_, rfl, fun u hu hd => ?_⟩
              have e6 : vs 6 = .bool true := hd 6 (by kernel_rfl)
              have e8 : vs 8 = .string P := hd 8 (by kernel_rfl) rfl
              have e12 : vs 12 = .string (t.extract a k) := hd 12 (by kernel_rfl) rfl
              refine .inr ⟨(by simp only [frR, dstAt, List.getElem?_toArray, List.getElem?_cons_zero, List.getElem?_cons_succ, Option.bind_some, Act.put, List.setIfInBounds_toArray, List.set_cons_zero, List.set_cons_succ]; simp only [e6]; rfl), .inl ⟨.bool (P.toList == (t.extract a k).toList), u, ?_, hu, by simp [numT, vsX], (fun j _ _ _ h => h)⟩⟩
              simp only [frR, dstAt, List.getElem?_toArray, List.getElem?_cons_zero, List.getElem?_cons_succ, Option.bind_some, Act.put, List.setIfInBounds_toArray, List.set_cons_zero, List.set_cons_succ]; simp only [e6, e8, e12]; go_simp; first | done | exact rfl
            · refine ⟨_, rfl, fun u hu hd => ?_⟩
              have e6 : vs 6 = .bool true := hd 6 (by kernel_rfl)
              have e13 : vs 13 = .bool (P.toList == (t.extract a k).toList) := hd 13 (by kernel_rfl) rfl
              refine .inr ⟨rfl, .inl ⟨.bool (P.toList == (t.extract a k).toList), u, ?_, hu, by simp [numT, vsX], (fun j _ _ _ h => h)⟩⟩
              simp only [frR, dstAt, List.getElem?_toArray, List.getElem?_cons_zero, List.getElem?_cons_succ, Option.bind_some, Act.put, List.setIfInBounds_toArray, List.set_cons_zero, List.set_cons_succ]; simp only [e6, e13]; go_simp; first | done | exact rfl
            · refine ⟨_, rfl, fun u hu hd => ?_⟩
              have e2 : vs 2 = .agg #[.int .i64 2, .string ⟨#[]⟩, .int .i64 x, .int .i64 (a : Nat)] := hd 2 (by kernel_rfl)
              obtain ⟨hKu, c0, c1, c2, c3, hcs⟩ := hu
              have y0 := hcs.cell 0; have y1 := hcs.cell 1; have y2 := hcs.cell 2; have y3 := hcs.cell 3; have v0 := hcs.frozen 0; have v1 := hcs.frozen 1; have v2 := hcs.frozen 2; have v3 := hcs.frozen 3
              have hz := (((hcs.set 0 (.int .i64 2)).set 1 (.string ⟨#[]⟩)).set 2 (.int .i64 x)).set 3 (.int .i64 (a : Nat))
              refine .inr ⟨rfl, .inr (.inr ⟨(((u.setCell ⟨w.heap.size, 0, none⟩ (.int .i64 2)).setCell ⟨w.heap.size, 1, none⟩ (.string ⟨#[]⟩)).setCell ⟨w.heap.size, 2, none⟩ (.int .i64 x)).setCell ⟨w.heap.size, 3, none⟩ (.int .i64 (a : Nat)), ?_, ⟨(((hKu.set (by simp) _).set (by simp) _).set (by simp) _).set (by simp) _, _, _, _, _, hz⟩, hz, fun j hj _ _ h => numT_store j vs hj h⟩)⟩
              simp only [frR, dstAt, List.getElem?_toArray, List.getElem?_cons_zero, List.getElem?_cons_succ, Option.bind_some, Act.put, List.setIfInBounds_toArray, List.set_cons_zero, List.set_cons_succ]; simp only [e2]; go_simp; first | done | exact rfl
            · refine ⟨_, rfl, fun u hu hd => ?_⟩
              have e3 : vs 3 = .int .i64 (k : Nat) := hd 3 (by kernel_rfl)
              refine .inr ⟨rfl, .inl ⟨.int .i64 (k : Nat), u, ?_, hu, by simp [numT, vsX], (fun j _ _ _ h => h)⟩⟩
              simp only [frR, dstAt, List.getElem?_toArray, List.getElem?_cons_zero, List.getElem?_cons_succ, Option.bind_some, Act.put, List.setIfInBounds_toArray, List.set_cons_zero, List.set_cons_succ]; simp only [e3]; go_simp; first | done | exact rfl
          · intro vs u hu
            simp only [List.drop_succ_cons, List.drop_zero, seqWp]
            simp only [frR, dstAt, List.getElem?_toArray, List.getElem?_cons_zero, List.getElem?_cons_succ, Option.bind_some, Act.put, List.setIfInBounds_toArray, List.set_cons_zero, List.set_cons_succ]
            intro hR
            have e14 := hR 14 (by decide) (fun _ _ => rfl)
            have e16 : vs 16 = .int .i64 (k : Nat) := hR 16 (by decide) (fun _ _ => rfl)
            have c15 : Cells u w.heap.size 91 #[.int .i64 2, .string ⟨#[]⟩, .int .i64 x, .int .i64 (a : Nat)] := hR 15 (by decide) (fun _ _ => rfl)
            replace e14 : vs 14 = .bool (true && (P.toList == (t.extract a k).toList)) := e14
            simp only [e14, e16]
            unfold Oper.wp
            go_simp
            go_wp2_with fail
            have z0 := c15.cell 0; have z1 := c15.cell 1; have z2 := c15.cell 2; have z3 := c15.cell 3
            refine bodyPost_ret (v := .tuple #[.agg #[.int .i64 2, .string ⟨#[]⟩, .int .i64 x, .int .i64 (a : Nat)], .int .i64 (k : Nat), .bool (true && (P.toList == (t.extract a k).toList))]) (by simp [results, Tryz.results88, go_sem, z0, z1, z2, z3]) rfl ⟨by rw [HV.out, HE.out, HO.out], hu.1⟩
        )
      · have HO : Hid (numOk t a = (false && (P.toList == (t.extract a k).toList))) := by rw [Hid, HO0.out]; simp [hm]
        rcases hgo2 with q1 | ⟨hlt, q2⟩
        all_goals (
          try (have q1 : (k : Int) < (t.size : Int) := by omega)
          go_wp2_with (go_at_call 87; refine (l11Digit_ok _ _).mono ?_; rintro e wx ⟨rfl, rfl⟩)
          refine wp_region_toldG 17 (numT w t a k x false P) noD (by kernel_rfl) (by kernel_rfl) (by decide) (by kernel_rfl) numT_own ⟨HKd.out, HCd.out⟩ ?_ ?_
          · intro i hi vs
            rcases (show i = 0 ∨ i = 1 ∨ i = 2 ∨ i = 3 ∨ i = 4 ∨ i = 5 ∨ i = 6 ∨ i = 7 ∨ i = 8 ∨ i = 9 ∨ i = 10 ∨ i = 11 ∨ i = 12 ∨ i = 13 ∨ i = 14 ∨ i = 15 ∨ i = 16 by omega) with rfl | rfl | rfl | rfl | rfl | rfl | rfl | rfl | rfl | rfl | rfl | rfl | rfl | rfl | rfl | rfl | rfl
            · refine ⟨_, rfl, fun u hu hd => ?_⟩
              skip
              refine .inr ⟨rfl, .inl ⟨.int .i64 x, u, ?_, hu, by simp [numT, vsX], (fun j _ _ _ h => h)⟩⟩
              simp only [frR, dstAt, List.getElem?_toArray, List.getElem?_cons_zero, List.getElem?_cons_succ, Option.bind_some, Act.put, List.setIfInBounds_toArray, List.set_cons_zero, List.set_cons_succ]; go_simp; first | done | exact rfl
            · refine ⟨_, rfl, fun u hu hd => ?_⟩
              skip
              refine .inr ⟨rfl, .inl ⟨.int .i64 (a : Nat), u, ?_, hu, by simp [numT, vsX], (fun j _ _ _ h => h)⟩⟩
              simp only [frR, dstAt, List.getElem?_toArray, List.getElem?_cons_zero, List.getElem?_cons_succ, Option.bind_some, Act.put, List.setIfInBounds_toArray, List.set_cons_zero, List.set_cons_succ]; go_simp; first | done | exact rfl
            · refine ⟨_, rfl, fun u hu hd => ?_⟩
              have e0 : vs 0 = .int .i64 x := hd 0 (by kernel_rfl)
              have e1 : vs 1 = .int .i64 (a : Nat) := hd 1 (by kernel_rfl)
              refine .inr ⟨rfl, .inl ⟨.agg #[.int .i64 2, .string ⟨#[]⟩, .int .i64 x, .int .i64 (a : Nat)], u, ?_, hu, by simp [numT, vsX], (fun j _ _ _ h => h)⟩⟩
              simp only [frR, dstAt, List.getElem?_toArray, List.getElem?_cons_zero, List.getElem?_cons_succ, Option.bind_some, Act.put, List.setIfInBounds_toArray, List.set_cons_zero, List.set_cons_succ]; simp only [e0, e1]; go_simp; first | done | exact rfl
            · refine ⟨_, rfl, fun u hu hd => ?_⟩
              skip
              refine .inr ⟨rfl, .inl ⟨.int .i64 (k : Nat), u, ?_, hu, by simp [numT, vsX], (fun j _ _ _ h => h)⟩⟩
              simp only [frR, dstAt, List.getElem?_toArray, List.getElem?_cons_zero, List.getElem?_cons_succ, Option.bind_some, Act.put, List.setIfInBounds_toArray, List.set_cons_zero, List.set_cons_succ]; go_simp; first | done | exact rfl
            · refine ⟨_, rfl, fun u hu hd => ?_⟩
              skip
              refine .inr ⟨rfl, .inl ⟨.int .i64 x, u, ?_, hu, by simp [numT, vsX], (fun j _ _ _ h => h)⟩⟩
              simp only [frR, dstAt, List.getElem?_toArray, List.getElem?_cons_zero, List.getElem?_cons_succ, Option.bind_some, Act.put, List.setIfInBounds_toArray, List.set_cons_zero, List.set_cons_succ]; go_simp; first | done | exact rfl
            · refine ⟨_, rfl, fun u hu hd => ?_⟩
              have e4 : vs 4 = .int .i64 x := hd 4 (by kernel_rfl)
              refine .inr ⟨rfl, .inl ⟨.bool false, u, ?_, hu, by simp [numT, vsX], (fun j _ _ _ h => h)⟩⟩
              simp only [frR, dstAt, List.getElem?_toArray, List.getElem?_cons_zero, List.getElem?_cons_succ, Option.bind_some, Act.put, List.setIfInBounds_toArray, List.set_cons_zero, List.set_cons_succ]; simp only [e4]; go_simp; first | done | exact rfl
            · refine ⟨_, rfl, fun u hu hd => ?_⟩
              have e5 : vs 5 = .bool false := hd 5 (by kernel_rfl)
              refine .inr ⟨rfl, .inl ⟨.bool false, u, ?_, hu, by simp [numT, vsX], (fun j _ _ _ h => h)⟩⟩
              simp only [frR, dstAt, List.getElem?_toArray, List.getElem?_cons_zero, List.getElem?_cons_succ, Option.bind_some, Act.put, List.setIfInBounds_toArray, List.set_cons_zero, List.set_cons_succ]; simp only [e5]; go_simp; first | done | exact rfl
            · refine ⟨_, rfl, fun u hu hd => ?_⟩
              have e6 : vs 6 = .bool false := hd 6 (by kernel_rfl)
              exact .inl ⟨(by simp only [frR, dstAt, List.getElem?_toArray, List.getElem?_cons_zero, List.getElem?_cons_succ, Option.bind_some, Act.put, List.setIfInBounds_toArray, List.set_cons_zero, List.set_cons_succ]; simp only [e6]; rfl), hu, (by intro h; cases h), (fun j _ _ _ h => h)⟩
            · refine ⟨_, rfl, fun u hu hd => ?_⟩
              have e6 : vs 6 = .bool false := hd 6 (by kernel_rfl)
              exact .inl ⟨(by simp only [frR, dstAt, List.getElem?_toArray, List.getElem?_cons_zero, List.getElem?_cons_succ, Option.bind_some, Act.put, List.setIfInBounds_toArray, List.set_cons_zero, List.set_cons_succ]; simp only [e6]; rfl), hu, (by intro h; cases h), (fun j _ _ _ h => h)⟩
            · refine ⟨_, rfl, fun u hu hd => ?_⟩
              have e6 : vs 6 = .bool false := hd 6 (by kernel_rfl)
              exact .inl ⟨(by simp only [frR, dstAt, List.getElem?_toArray, List.getElem?_cons_zero, List.getElem?_cons_succ, Option.bind_some, Act.put, List.setIfInBounds_toArray, List.set_cons_zero, List.set_cons_succ]; simp only [e6]; rfl), hu, (by intro h; cases h), (fun j _ _ _ h => h)⟩
            · refine ⟨_, rfl, fun u hu hd => ?_⟩
              have e6 : vs 6 = .bool false := hd 6 (by kernel_rfl)
              exact .inl ⟨(by simp only [frR, dstAt, List.getElem?_toArray, List.getElem?_cons_zero, List.getElem?_cons_succ, Option.bind_some, Act.put, List.setIfInBounds_toArray, List.set_cons_zero, List.set_cons_succ]; simp only [e6]; rfl), hu, (by intro h; cases h), (fun j _ _ _ h => h)⟩
            · refine ⟨_, rfl, fun u hu hd => ?_⟩
              have e6 : vs 6 = .bool false := hd 6 (by kernel_rfl)
              exact .inl ⟨(by simp only [frR, dstAt, List.getElem?_toArray, List.getElem?_cons_zero, List.getElem?_cons_succ, Option.bind_some, Act.put, List.setIfInBounds_toArray, List.set_cons_zero, List.set_cons_succ]; simp only [e6]; rfl), hu, (by intro h; cases h), (fun j _ _ _ h => h)⟩
            · refine ⟨_, rfl, fun u hu hd => ?_⟩
              have e6 : vs 6 = .bool false := hd 6 (by kernel_rfl)
              exact .inl ⟨(by simp only [frR, dstAt, List.getElem?_toArray, List.getElem?_cons_zero, List.getElem?_cons_succ, Option.bind_some, Act.put, List.setIfInBounds_toArray, List.set_cons_zero, List.set_cons_succ]; simp only [e6]; rfl), hu, (by intro h; cases h), (fun j _ _ _ h => h)⟩
            · refine ⟨_, rfl, fun u hu hd => ?_⟩
              have e6 : vs 6 = .bool false := hd 6 (by kernel_rfl)
              exact .inl ⟨(by simp only [frR, dstAt, List.getElem?_toArray, List.getElem?_cons_zero, List.getElem?_cons_succ, Option.bind_some, Act.put, List.setIfInBounds_toArray, List.set_cons_zero, List.set_cons_succ]; simp only [e6]; rfl), hu, (by intro h; cases h), (fun j _ _ _ h => h)⟩
            · refine ⟨_, rfl, fun u hu hd => ?_⟩
              have e6 : vs 6 = .bool false := hd 6 (by kernel_rfl)
              refine .inr ⟨rfl, .inl ⟨.bool false, u, ?_, hu, by simp [numT, vsX], (fun j _ _ _ h => h)⟩⟩
              simp only [frR, dstAt, List.getElem?_toArray, List.getElem?_cons_zero, List.getElem?_cons_succ, Option.bind_some, Act.put, List.setIfInBounds_toArray, List.set_cons_zero, List.set_cons_succ]; simp only [e6]; go_simp; first | done | exact rfl
            · refine ⟨_, rfl, fun u hu hd => ?_⟩
              have e2 : vs 2 = .agg #[.int .i64 2, .string ⟨#[]⟩, .int .i64 x, .int .i64 (a : Nat)] := hd 2 (by kernel_rfl)
              obtain ⟨hKu, c0, c1, c2, c3, hcs⟩ := hu
              have y0 := hcs.cell 0; have y1 := hcs.cell 1; have y2 := hcs.cell 2; have y3 := hcs.cell 3; have v0 := hcs.frozen 0; have v1 := hcs.frozen 1; have v2 := hcs.frozen 2; have v3 := hcs.frozen 3
              have hz := (((hcs.set 0 (.int .i64 2)).set 1 (.string ⟨#[]⟩)).set 2 (.int .i64 x)).set 3 (.int .i64 (a : Nat))
              refine .inr ⟨rfl, .inr (.inr ⟨(((u.setCell ⟨w.heap.size, 0, none⟩ (.int .i64 2)).setCell ⟨w.heap.size, 1, none⟩ (.string ⟨#[]⟩)).setCell ⟨w.heap.size, 2, none⟩ (.int .i64 x)).setCell ⟨w.heap.size, 3, none⟩ (.int .i64 (a : Nat)), ?_, ⟨(((hKu.set (by simp) _).set (by simp) _).set (by simp) _).set (by simp) _, _, _, _, _, hz⟩, hz, fun j hj _ _ h => numT_store j vs hj h⟩)⟩
              simp only [frR, dstAt, List.getElem?_toArray, List.getElem?_cons_zero, List.getElem?_cons_succ, Option.bind_some, Act.put, List.setIfInBounds_toArray, List.set_cons_zero, List.set_cons_succ]; simp only [e2]; go_simp; first | done | exact rfl
            · refine ⟨_, rfl, fun u hu hd => ?_⟩
              have e3 : vs 3 = .int .i64 (k : Nat) := hd 3 (by kernel_rfl)
              refine .inr ⟨rfl, .inl ⟨.int .i64 (k : Nat), u, ?_, hu, by simp [numT, vsX], (fun j _ _ _ h => h)⟩⟩
              simp only [frR, dstAt, List.getElem?_toArray, List.getElem?_cons_zero, List.getElem?_cons_succ, Option.bind_some, Act.put, List.setIfInBounds_toArray, List.set_cons_zero, List.set_cons_succ]; simp only [e3]; go_simp; first | done | exact rfl
          · intro vs u hu
            simp only [List.drop_succ_cons, List.drop_zero, seqWp]
            simp only [frR, dstAt, List.getElem?_toArray, List.getElem?_cons_zero, List.getElem?_cons_succ, Option.bind_some, Act.put, List.setIfInBounds_toArray, List.set_cons_zero, List.set_cons_succ]
            intro hR
            have e14 := hR 14 (by decide) (fun _ _ => rfl)
            have e16 : vs 16 = .int .i64 (k : Nat) := hR 16 (by decide) (fun _ _ => rfl)
            have c15 : Cells u w.heap.size 91 #[.int .i64 2, .string ⟨#[]⟩, .int .i64 x, .int .i64 (a : Nat)] := hR 15 (by decide) (fun _ _ => rfl)
            replace e14 : vs 14 = .bool (false && (P.toList == (t.extract a k).toList)) := e14
            simp only [e14, e16]
            unfold Oper.wp
            go_simp
            go_wp2_with fail
            have z0 := c15.cell 0; have z1 := c15.cell 1; have z2 := c15.cell 2; have z3 := c15.cell 3
            refine bodyPost_ret (v := .tuple #[.agg #[.int .i64 2, .string ⟨#[]⟩, .int .i64 x, .int .i64 (a : Nat)], .int .i64 (k : Nat), .bool (false && (P.toList == (t.extract a k).toList))]) (by simp [results, Tryz.results88, go_sem, z0, z1, z2, z3]) rfl ⟨by rw [HV.out, HE.out, HO.out], hu.1⟩
        )
end Go.Proofs.YtlinbkgeahgkjaaGreatDoor
