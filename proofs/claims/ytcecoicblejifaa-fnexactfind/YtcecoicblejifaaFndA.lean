/-
  Rows of texts and rows of such rows, and where a name stands in them: spec.Find, impl.Find exactly.
-/
import Derived.Test.YtcecoicblejifaaSlabI
import Derived.OwnWalk
import Derived.RegionTactic
namespace Go.Proofs.Ytcecoicblejifaa
open Go.RowKit
attribute [local go_sem] Plain.and7

/-- The texts ts lie at ao. -/
def StA (W : World) (ao : Option Addr) (ts : List ByteArray) : Prop := ∀ j t, ts[j]? = some t → ∃ b off, ao = some ⟨b, off, none⟩ ∧ W.cell? ⟨b, off + j, none⟩ = some (.string t)
theorem StA.kept {W W' : World} {ao : Option Addr} {ts : List ByteArray} (h : StA W ao ts) (hk : Kept W W') : StA W' ao ts := by
  intro j t ht
  obtain ⟨b, off, e, hc⟩ := h j t ht
  exact ⟨b, off, e, (hk.cell (p := ⟨b, off + j, none⟩) (World.block_lt_of_cell? _ _ hc)).trans hc⟩
/-- The rows tss lie at ao. -/
def SsA (W : World) (ao : Option Addr) (tss : List (List ByteArray)) : Prop := ∀ j ts, tss[j]? = some ts → ∃ b off xo xc, ao = some ⟨b, off, none⟩ ∧ W.cell? ⟨b, off + j, none⟩ = some (.slice xo ts.length xc) ∧ StA W xo ts
theorem SsA.kept {W W' : World} {ao : Option Addr} {tss : List (List ByteArray)} (h : SsA W ao tss) (hk : Kept W W') : SsA W' ao tss := by
  intro j t ht
  obtain ⟨b, off, xo, xc, e, hc, hx⟩ := h j t ht
  exact ⟨b, off, xo, xc, e, (hk.cell (p := ⟨b, off + j, none⟩) (World.block_lt_of_cell? _ _ hc)).trans hc, hx.kept hk⟩
/-- Two worlds are one. -/
structure HidW (a b : World) : Prop where
  out : a = b
/-- Where a name stands first. -/
def plcF (s : ByteArray) : List ByteArray → Option Nat
  | [] => none
  | t :: ts => if t.toList == s.toList then some 0 else (plcF s ts).map (· + 1)
theorem plcF_none {s : ByteArray} : ∀ {ts : List ByteArray}, (∀ (j : Nat) t, ts[j]? = some t → (t.toList == s.toList) = false) → plcF s ts = none
  | [], _ => rfl
  | t :: ts, h => by
    rw [plcF, h 0 t rfl]
    simp [plcF_none (ts := ts) (fun j t ht => h (j + 1) t (by simpa using ht))]
theorem plcF_some {s : ByteArray} : ∀ {ts : List ByteArray} {k : Nat} {x : ByteArray}, (∀ (j : Nat) t, j < k → ts[j]? = some t → (t.toList == s.toList) = false) → ts[k]? = some x → (x.toList == s.toList) = true → plcF s ts = some k
  | [], k, x, _, hx, _ => by simp at hx
  | t :: ts, 0, x, _, hx, he => by
    simp at hx
    subst hx
    rw [plcF, he]
    rfl
  | t :: ts, k + 1, x, h, hx, he => by
    rw [plcF, h 0 t (by omega) rfl]
    simp [plcF_some (ts := ts) (k := k) (x := x) (fun j t hj ht => h (j + 1) t (by omega) (by simpa using ht)) (by simpa using hx) he]
/-- At which depth and place, from the innermost scope on. -/
def findD (s : ByteArray) : List (List ByteArray) → Nat → Nat × Nat × Bool
  | [], _ => (0, 0, false)
  | ts :: r, d => match plcF s ts with
    | some p => (d, p, true)
    | none => findD s r (d + 1)
def findR (tss : List (List ByteArray)) (s : ByteArray) : Nat × Nat × Bool := findD s tss.reverse 0
theorem rev_drop {α : Type} {l : List α} {k : Nat} {x : α} (hk : k < l.length) (hx : l[l.length - 1 - k]? = some x) : l.reverse.drop k = x :: l.reverse.drop (k + 1) := by
  have h : l.reverse[k]? = some x := by rw [List.getElem?_reverse hk]; exact hx
  obtain ⟨h1, h2⟩ := List.getElem?_eq_some_iff.1 h
  rw [List.drop_eq_getElem_cons h1, h2]
def fndV (tss : List (List ByteArray)) (s : ByteArray) : Value := .tuple #[.int .i64 ((findR tss s).1 : Nat), .int .i64 ((findR tss s).2.1 : Nat), .bool (findR tss s).2.2]

set_option maxHeartbeats 8000000 in
set_option maxRecDepth 100000 in
theorem spec_Find_ok (w : World) (ao : Option Addr) (cap : Nat) (tss : List (List ByteArray)) (s : ByteArray) (hA : SsA w ao tss) (hl : tss.length ≤ 1048576) (hi : ∀ ts ∈ tss, ts.length ≤ 1048576) :
    Calls Try.prog 5 #[.slice ao tss.length cap, .string s] w fun e w' => e = .returned (fndV tss s) ∧ w' = w := by
  have HA : Hid _ := hA
  have HI : Hid _ := hi
  clear hA hi
  go_enter Try.func5, Try.ntmps5
  go_wp2_with fail
  go_loopw [7] (fun i wr => ∃ k : Nat, i = .int .i64 k ∧ k ≤ tss.length ∧ Hid (findD s (tss.reverse.drop k) k = findR tss s) ∧ HidW wr w) (fun i _ => tss.length - (intOf i).toNat)
  case atStart => exact ⟨0, rfl, Nat.zero_le _, rfl, ⟨rfl⟩⟩
  case round =>
    obtain ⟨k, rfl, hk, HF, HW⟩ := hrel
    by_cases hlt : k < tss.length
    · obtain ⟨ts, ht⟩ : ∃ ts, tss[tss.length - 1 - k]? = some ts := ⟨_, List.getElem?_eq_getElem (by omega)⟩
      obtain ⟨b, off, xo, xc, rfl, hc, hx⟩ := HA.out _ _ ht
      have hls := HI.out ts (List.mem_of_getElem? ht)
      have HX : Hid (StA w xo ts) := hx
      have HT : Hid _ := rev_drop hlt ht
      have q1 : (k : Int) < (tss.length : Int) := by omega
      have q2 : (tss.length : Int) - 1 - (k : Int) < (tss.length : Int) := by omega
      have q3 : (0 : Int) ≤ (tss.length : Int) - 1 - (k : Int) := by omega
      have q4 : ((tss.length : Int) - 1 - (k : Int)).toNat = tss.length - 1 - k := by omega
      obtain rfl := HW.out
      clear ht hx HA HI
      go_wp2_with fail
      go_loopw [9] (fun i wq => ∃ m : Nat, i = .int .i64 m ∧ m ≤ ts.length ∧ Hid (∀ (j : Nat) t, j < m → ts[j]? = some t → (t.toList == s.toList) = false) ∧ HidW wq wr) (fun i _ => ts.length - (intOf i).toNat)
      case atStart => exact ⟨0, rfl, Nat.zero_le _, fun j t hj => by omega, ⟨rfl⟩⟩
      case round =>
        obtain ⟨m, rfl, hm, HM, HQ⟩ := hrel
        obtain rfl := HQ.out
        by_cases hmt : m < ts.length
        · obtain ⟨t, ht⟩ : ∃ t, ts[m]? = some t := ⟨_, List.getElem?_eq_getElem hmt⟩
          obtain ⟨b', off', rfl, hc'⟩ := HX.out m t ht
          have q5 : (m : Int) < (ts.length : Int) := by omega
          by_cases he : (t.toList == s.toList) = true
          · have HP : Hid (plcF s ts = some m) := plcF_some HM.out ht he
            clear ht
            go_wp2_with fail
            refine bodyPost_ret (v := .tuple #[.int .i64 (k : Nat), .int .i64 (m : Nat), .bool true]) (by simp [results, Try.results5, go_sem]) rfl ⟨?_, rfl⟩
            have e1 := HF.out
            rw [HT.out, findD, HP.out] at e1
            rw [fndV, ← e1]
          · have he' : (t.toList == s.toList) = false := by simpa using he
            have HM2 : Hid (∀ (j : Nat) t, j < m + 1 → ts[j]? = some t → (t.toList == s.toList) = false) := by
              intro j u hj hu
              by_cases hjm : j = m
              · subst hjm
                rw [ht] at hu
                injection hu with hu
                rw [← hu]
                exact he'
              · exact HM.out j u (by omega) hu
            clear ht he
            go_wp2_with fail
            exact ⟨⟨m + 1, by go_num, by omega, HM2.out, ⟨rfl⟩⟩, by simp [intOf]; omega⟩
        · have q5 : ¬ (m : Int) < (ts.length : Int) := by omega
          have HP : Hid (plcF s ts = none) := plcF_none (fun j t ht => HM.out j t (by have := (List.getElem?_eq_some_iff.1 ht).1; omega) ht)
          go_wp2_with fail
          have e1 := HF.out
          rw [HT.out, findD, HP.out] at e1
          exact ⟨⟨k + 1, by go_num, by omega, e1, ⟨rfl⟩⟩, by simp [intOf]; omega⟩
    · have q1 : ¬ (k : Int) < (tss.length : Int) := by omega
      obtain rfl := HW.out
      have HE : Hid (findR tss s = (0, 0, false)) := by
        have e1 := HF.out
        rw [List.drop_eq_nil_of_le (by simp; omega), findD] at e1
        exact e1.symm
      go_wp2_with fail
      refine bodyPost_ret (v := .tuple #[.int .i64 0, .int .i64 0, .bool false]) (by simp [results, Try.results5, go_sem]) rfl ⟨?_, rfl⟩
      rw [fndV, HE.out]
      rfl
set_option maxHeartbeats 8000000 in
set_option maxRecDepth 100000 in
theorem impl_Find_ok (w : World) (ao : Option Addr) (cap : Nat) (tss : List (List ByteArray)) (s : ByteArray) (hA : SsA w ao tss) (hl : tss.length ≤ 1048576) (hi : ∀ ts ∈ tss, ts.length ≤ 1048576) :
    Calls Try.prog 7 #[.slice ao tss.length cap, .string s] w fun e w' => e = .returned (fndV tss s) ∧ w' = w := by
  have HA : Hid _ := hA
  have HI : Hid _ := hi
  clear hA hi
  go_enter Try.func7, Try.ntmps7
  go_wp2_with fail
  go_loopw [12] (fun i wr => ∃ k : Nat, i = .int .i64 k ∧ k ≤ tss.length ∧ Hid (findD s (tss.reverse.drop k) k = findR tss s) ∧ HidW wr w) (fun i _ => tss.length - (intOf i).toNat)
  case atStart => exact ⟨0, rfl, Nat.zero_le _, rfl, ⟨rfl⟩⟩
  case round =>
    obtain ⟨k, rfl, hk, HF, HW⟩ := hrel
    by_cases hlt : k < tss.length
    · obtain ⟨ts, ht⟩ : ∃ ts, tss[tss.length - 1 - k]? = some ts := ⟨_, List.getElem?_eq_getElem (by omega)⟩
      obtain ⟨b, off, xo, xc, rfl, hc, hx⟩ := HA.out _ _ ht
      have hls := HI.out ts (List.mem_of_getElem? ht)
      have HX : Hid (StA w xo ts) := hx
      have HT : Hid _ := rev_drop hlt ht
      have q1 : (k : Int) < (tss.length : Int) := by omega
      have q2 : (tss.length : Int) - 1 - (k : Int) < (tss.length : Int) := by omega
      have q3 : (0 : Int) ≤ (tss.length : Int) - 1 - (k : Int) := by omega
      have q4 : ((tss.length : Int) - 1 - (k : Int)).toNat = tss.length - 1 - k := by omega
      obtain rfl := HW.out
      clear ht hx HA HI
      go_wp2_with fail
      go_loopw [25] (fun i wq => ∃ m : Nat, i = .int .i64 m ∧ m ≤ ts.length ∧ Hid (∀ (j : Nat) t, j < m → ts[j]? = some t → (t.toList == s.toList) = false) ∧ HidW wq wr) (fun i _ => ts.length - (intOf i).toNat)
      case atStart => exact ⟨0, rfl, Nat.zero_le _, fun j t hj => by omega, ⟨rfl⟩⟩
      case round =>
        obtain ⟨m, rfl, hm, HM, HQ⟩ := hrel
        obtain rfl := HQ.out
        by_cases hmt : m < ts.length
        · obtain ⟨t, ht⟩ : ∃ t, ts[m]? = some t := ⟨_, List.getElem?_eq_getElem hmt⟩
          obtain ⟨b', off', rfl, hc'⟩ := HX.out m t ht
          have q5 : (m : Int) < (ts.length : Int) := by omega
          by_cases he : (t.toList == s.toList) = true
          · have HP : Hid (plcF s ts = some m) := plcF_some HM.out ht he
            clear ht
            go_wp2_with fail
            refine bodyPost_ret (v := .tuple #[.int .i64 (k : Nat), .int .i64 (m : Nat), .bool true]) (by simp [results, Try.results7, go_sem]) rfl ⟨?_, rfl⟩
            have e1 := HF.out
            rw [HT.out, findD, HP.out] at e1
            rw [fndV, ← e1]
          · have he' : (t.toList == s.toList) = false := by simpa using he
            have HM2 : Hid (∀ (j : Nat) t, j < m + 1 → ts[j]? = some t → (t.toList == s.toList) = false) := by
              intro j u hj hu
              by_cases hjm : j = m
              · subst hjm
                rw [ht] at hu
                injection hu with hu
                rw [← hu]
                exact he'
              · exact HM.out j u (by omega) hu
            clear ht he
            go_wp2_with fail
            exact ⟨⟨m + 1, by go_num, by omega, HM2.out, ⟨rfl⟩⟩, by simp [intOf]; omega⟩
        · have q5 : ¬ (m : Int) < (ts.length : Int) := by omega
          have HP : Hid (plcF s ts = none) := plcF_none (fun j t ht => HM.out j t (by have := (List.getElem?_eq_some_iff.1 ht).1; omega) ht)
          go_wp2_with fail
          have e1 := HF.out
          rw [HT.out, findD, HP.out] at e1
          exact ⟨⟨k + 1, by go_num, by omega, e1, ⟨rfl⟩⟩, by simp [intOf]; omega⟩
    · have q1 : ¬ (k : Int) < (tss.length : Int) := by omega
      obtain rfl := HW.out
      have HE : Hid (findR tss s = (0, 0, false)) := by
        have e1 := HF.out
        rw [List.drop_eq_nil_of_le (by simp; omega), findD] at e1
        exact e1.symm
      go_wp2_with fail
      refine bodyPost_ret (v := .tuple #[.int .i64 0, .int .i64 0, .bool false]) (by simp [results, Try.results7, go_sem]) rfl ⟨?_, rfl⟩
      rw [fndV, HE.out]
      rfl
end Go.Proofs.Ytcecoicblejifaa
