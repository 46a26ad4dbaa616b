/-
  Right units, the program's side: textsOk, codeOk, UnitOk (chapter 15).
-/
import Derived.Test.YtjagnmajnlcahaaDoorUntD
namespace Go.Proofs.YtjagnmajnlcahaaDoor
open Go.RowKit
set_option linter.unusedSimpArgs false
set_option linter.unusedVariables false
set_option maxHeartbeats 8000000 in
set_option maxRecDepth 100000 in
theorem textsOk_ok (w : World) (ta : Option Addr) (tc : Nat) (ts : List ByteArray) (hA : StA w ta ts) (hl : ts.length ≤ 1048576) :
    Calls Tryd.prog 19 #[.slice ta ts.length tc] w fun e w' => e = .returned (.bool (textsR ts)) ∧ w' = w := by
  have HA : Hid _ := hA
  clear hA
  by_cases h2 : ts.length ≤ 200
  · have hd : ¬ (200 : Int) < (ts.length : Int) := by omega
    have HT : Hid (textsR ts = ts.all (fun t => decide (t.size ≤ 30))) := by rw [Hid, textsR, decide_eq_true h2, Bool.true_and]
    go_enter Tryd.func19, Tryd.ntmps19
    go_wp2_with fail
    go_loopw [10] (fun i wr => ∃ k : Nat, i = .int .i64 k ∧ k ≤ ts.length ∧ Hid (∀ (j : Nat) t, j < k → ts[j]? = some t → t.size ≤ 30) ∧ HidW wr w) (fun i _ => ts.length - (intOf i).toNat)
    case atStart => exact ⟨0, rfl, Nat.zero_le _, fun j t hj => by omega, ⟨rfl⟩⟩
    case round =>
      obtain ⟨k, rfl, hk, HM, HQ⟩ := hrel
      obtain rfl := HQ.out
      by_cases hlt : k < ts.length
      · obtain ⟨t, ht⟩ : ∃ t, ts[k]? = some t := ⟨_, List.getElem?_eq_getElem hlt⟩
        obtain ⟨b, off, rfl, hc⟩ := HA.out k t ht
        have q1 : (k : Int) < (ts.length : Int) := by omega
        by_cases h3 : t.size ≤ 30
        · have h3' : ¬ (30 : Int) < (t.size : Int) := by omega
          have HM2 : Hid (∀ (j : Nat) t, j < k + 1 → ts[j]? = some t → t.size ≤ 30) := by
            intro j u hj hu
            by_cases hjk : j = k
            · subst hjk
              rw [ht] at hu
              injection hu with hu
              rw [← hu]
              exact h3
            · exact HM.out j u (by omega) hu
          clear ht h3
          go_wp2_with fail
          go_roundw
          case rel => exact ⟨k + 1, by go_num, by omega, HM2.out, ⟨rfl⟩⟩
          case measure => simp [intOf]; omega
        · have h3' : (30 : Int) < (t.size : Int) := by omega
          have HE : Hid (textsR ts = false) := by rw [Hid, HT.out]; exact all_no ht (by simp; omega)
          clear ht h3
          go_wp2_with fail
          go_ret
          exact ⟨by rw [HE.out]; rfl, rfl⟩
      · have q1 : ¬ (k : Int) < (ts.length : Int) := by omega
        have HE : Hid (textsR ts = true) := by
          rw [Hid, HT.out]
          exact all_yes (fun j t hj ht => decide_eq_true (HM.out j t (by omega) ht))
        go_wp2_with fail
        go_ret
        exact ⟨by rw [HE.out]; rfl, rfl⟩
  · have hd : (200 : Int) < (ts.length : Int) := by omega
    have HE : Hid (textsR ts = false) := by rw [Hid, textsR, decide_eq_false h2, Bool.false_and]
    go_enter Tryd.func19, Tryd.ntmps19
    go_wp2_with fail
    go_ret
    exact ⟨by rw [HE.out]; rfl, rfl⟩
set_option maxHeartbeats 8000000 in
set_option maxRecDepth 100000 in
theorem codeOk_ok (w : World) (ca ta xa : Option Addr) (cc tc xc nc nt : Nat) (c : Cod) (hnc : nc ≤ 1048576) (hnt : nt ≤ 1048576) (hS : StpsA w xa c.ss) (hF : Forms w) :
    Calls Tryd.prog 20 #[.agg #[.int .i64 c.n, .int .i64 c.v, .slice xa c.ss.length xc], .agg #[.slice ca nc cc, .slice ta nt tc]] w fun e w' => e = .returned (.bool (codR c nt nc)) ∧ Kept w w' := by
  have k0 : Kept w ((w.alloc (.cells #[.int .i64 c.n, .int .i64 c.v, .slice xa c.ss.length xc] 45)).alloc (.cells #[.slice ca nc cc, .slice ta nt tc] 30)) := (Kept.alloc (Below.refl _ _) _).alloc _
  have y0 := (Cells.new w 45 #[.int .i64 c.n, .int .i64 c.v, .slice xa c.ss.length xc]).alloc (.cells #[.slice ca nc cc, .slice ta nt tc] 30)
  have y1 := Cells.new (w.alloc (.cells #[.int .i64 c.n, .int .i64 c.v, .slice xa c.ss.length xc] 45)) 30 #[.slice ca nc cc, .slice ta nt tc]
  simp only [World.size_alloc] at y0 y1
  obtain ⟨n, v, ss⟩ := c
  simp only at k0 y0 y1 hS ⊢
  have HC : Hid (codR ⟨n, v, ss⟩ nt nc = (headR ⟨n, v, ss⟩ && (ss.all (fun s => stpR s nt nc ss.length) && lastR ⟨n, v, ss⟩))) := rfl
  by_cases hh : headR ⟨n, v, ss⟩ = true
  · rw [hh, Bool.true_and] at HC
    obtain ⟨h1, h2, h3, h4, h5⟩ : 0 ≤ n ∧ n ≤ v ∧ v ≤ 12 ∧ 1 ≤ ss.length ∧ ss.length ≤ 2000 := of_decide_eq_true hh
    have d1 : ¬ n < 0 := by omega
    have d2 : ¬ v < n := by omega
    have d3 : ¬ (12 : Int) < v := by omega
    have d4 : ¬ (ss.length : Int) < 1 := by omega
    have d5 : ¬ (2000 : Int) < (ss.length : Int) := by omega
    have HS : Hid (StpsA w xa ss) := hS
    have HF : Hid (Forms w) := hF
    have HK0 : Hid _ := k0
    have HY0 : Hid _ := y0
    have HY1 : Hid _ := y1
    have HST : Hid (∀ u o a b, Forms u → Calls Tryd.prog 29 #[.agg #[.int .i64 o, .int .i64 a, .int .i64 b], .agg #[.slice ca nc cc, .slice ta nt tc], .agg #[.int .i64 n, .int .i64 v, .slice xa ss.length xc]] u fun e w' => e = .returned (.bool (stpR (o, a, b) nt nc ss.length)) ∧ Kept u w') := fun u o a b hf => stepOk_ok u ca ta xa cc tc xc nc nt ss.length n v hnc hnt (by omega) o a b hf
    clear hS hF k0 y0 y1 hh h1 h2 h3 hnc hnt
    go_enter Tryd.func20, Tryd.ntmps20
    go_wp2_with fail
    go_loopw [35] (fun i wr => ∃ k : Nat, i = .int .i64 k ∧ k ≤ ss.length ∧ Hid (∀ (j : Nat) s, j < k → ss[j]? = some s → stpR s nt nc ss.length = true) ∧ Hid (Kept ((w.alloc (.cells #[.int .i64 n, .int .i64 v, .slice xa ss.length xc] 45)).alloc (.cells #[.slice ca nc cc, .slice ta nt tc] 30)) wr)) (fun i _ => ss.length - (intOf i).toNat)
    case atStart => exact ⟨0, rfl, Nat.zero_le _, fun j t hj => by omega, Below.refl _ _⟩
    case round =>
      obtain ⟨k, rfl, hk, HM, HQ⟩ := hrel
      have kw := Kept.trans HK0.out HQ.out
      have m0 := Cells.kept HY0.out HQ.out
      have m1 := Cells.kept HY1.out HQ.out
      by_cases hlt : k < ss.length
      · obtain ⟨s, hs⟩ : ∃ s, ss[k]? = some s := ⟨_, List.getElem?_eq_getElem hlt⟩
        obtain ⟨b, off, rfl, g0, g1, g2⟩ := (StpsA.kept HS.out kw) k s hs
        obtain ⟨o, a, b'⟩ := s
        have q1 : (k : Int) < (ss.length : Int) := by omega
        have ka : Kept wr (wr.alloc (.cells #[.int .i64 o, .int .i64 a, .int .i64 b'] 37)) := Kept.alloc (Below.refl _ _) _
        have n0 := m0.alloc (.cells #[.int .i64 o, .int .i64 a, .int .i64 b'] 37)
        have n1 := m1.alloc (.cells #[.int .i64 o, .int .i64 a, .int .i64 b'] 37)
        have c0 := n0.cell 0; have c1 := n0.cell 1; have c2 := n0.cell 2; have e0 := n1.cell 0; have e1 := n1.cell 1
        have hC := HST.out (wr.alloc (.cells #[.int .i64 o, .int .i64 a, .int .i64 b'] 37)) o a b' (Forms.kept HF.out (Kept.trans kw ka))
        have HKW : Hid _ := Kept.trans HQ.out ka
        by_cases h6 : stpR (o, a, b') nt nc ss.length = true
        · rw [h6] at hC
          have HM2 : Hid (∀ (j : Nat) s, j < k + 1 → ss[j]? = some s → stpR s nt nc ss.length = true) := by
            intro j u hj hu
            by_cases hjk : j = k
            · subst hjk
              rw [hs] at hu
              injection hu with hu
              rw [← hu]
              exact h6
            · exact HM.out j u (by omega) hu
          clear hs h6 kw m0 m1 ka n0 n1
          go_wp2_with (go_at_call 29; refine hC.mono ?_; rintro e w1 ⟨rfl, hk1⟩)
          go_roundw
          case rel => exact ⟨k + 1, by go_num, by omega, HM2.out, Kept.trans HKW.out hk1⟩
          case measure => simp [intOf]; omega
        · have h6' : stpR (o, a, b') nt nc ss.length = false := by simpa using h6
          rw [h6'] at hC
          have HE : Hid (codR ⟨n, v, ss⟩ nt nc = false) := by rw [Hid, HC.out, all_no hs h6', Bool.false_and]
          clear hs h6 h6' kw m0 m1 ka n0 n1
          go_wp2_with (go_at_call 29; refine hC.mono ?_; rintro e w1 ⟨rfl, hk1⟩)
          go_ret
          exact ⟨by rw [HE.out]; rfl, Kept.trans HK0.out (Kept.trans HKW.out hk1)⟩
      · have q1 : ¬ (k : Int) < (ss.length : Int) := by omega
        have hall : ss.all (fun s => stpR s nt nc ss.length) = true := all_yes (fun j t hj ht => HM.out j t (by omega) ht)
        obtain ⟨s, hs⟩ : ∃ s, ss[ss.length - 1]? = some s := ⟨_, List.getElem?_eq_getElem (by omega)⟩
        have HE : Hid (codR ⟨n, v, ss⟩ nt nc = decide (s.1 = 13)) := by rw [Hid, HC.out, hall, Bool.true_and, lastR]; simp only [hs]
        obtain ⟨b, off, rfl, g0, g1, g2⟩ := (StpsA.kept HS.out kw) _ s hs
        obtain ⟨o, a, b'⟩ := s
        have c0 := m0.cell 0; have c1 := m0.cell 1; have c2 := m0.cell 2
        have p0 : (0 : Int) ≤ (ss.length : Int) - 1 := by omega
        have p1 : (ss.length : Int) - 1 < (ss.length : Int) := by omega
        have p2 : ((ss.length : Int) - 1).toNat = ss.length - 1 := by omega
        have HKW : Hid _ := kw
        clear hs hall kw m0 m1
        go_wp2_with fail
        go_ret
        exact ⟨by rw [HE.out]; rfl, HKW.out⟩
  · have hh' : headR ⟨n, v, ss⟩ = false := by simpa using hh
    have HE : Hid (codR ⟨n, v, ss⟩ nt nc = false) := by rw [Hid, HC.out, hh', Bool.false_and]
    have hn : ¬ (0 ≤ n ∧ n ≤ v ∧ v ≤ 12 ∧ 1 ≤ ss.length ∧ ss.length ≤ 2000) := of_decide_eq_false hh'
    have hlen : ss.length ≤ 9223372036854775807 ∨ 9223372036854775807 < ss.length := by omega
    have HK0 : Hid _ := k0
    clear hS hF y0 y1 hh hh' HC
    by_cases d1 : n < 0
    · clear hn
      go_enter Tryd.func20, Tryd.ntmps20
      go_wp2_with fail
      go_ret
      exact ⟨by rw [HE.out]; rfl, HK0.out⟩
    · by_cases d2 : v < n
      · clear hn
        go_enter Tryd.func20, Tryd.ntmps20
        go_wp2_with fail
        go_ret
        exact ⟨by rw [HE.out]; rfl, HK0.out⟩
      · by_cases d3 : (12 : Int) < v
        · clear hn
          go_enter Tryd.func20, Tryd.ntmps20
          go_wp2_with fail
          go_ret
          exact ⟨by rw [HE.out]; rfl, HK0.out⟩
        · by_cases d4 : (ss.length : Int) < 1
          · clear hn
            go_enter Tryd.func20, Tryd.ntmps20
            go_wp2_with fail
            go_ret
            exact ⟨by rw [HE.out]; rfl, HK0.out⟩
          · have d5 : (2000 : Int) < (ss.length : Int) := by omega
            clear hn
            go_enter Tryd.func20, Tryd.ntmps20
            go_wp2_with fail
            go_ret
            exact ⟨by rw [HE.out]; rfl, HK0.out⟩
end Go.Proofs.YtjagnmajnlcahaaDoor
