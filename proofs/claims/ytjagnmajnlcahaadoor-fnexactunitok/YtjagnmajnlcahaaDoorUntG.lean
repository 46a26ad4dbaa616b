/-
  Right units, the program's side: UnitOk (chapter 15).
-/
import Derived.Test.YtjagnmajnlcahaaDoorUntF
namespace Go.Proofs.YtjagnmajnlcahaaDoor
open Go.RowKit
set_option linter.unusedSimpArgs false
set_option linter.unusedVariables false
set_option maxHeartbeats 8000000 in
set_option maxRecDepth 100000 in
theorem impl_UnitOk_ok (w : World) (ca ta : Option Addr) (cc tc : Nat) (cs : List Cod) (ts : List ByteArray) (hA : CodsA w ca cs) (hB : StA w ta ts) (hl : cs.length ≤ 1048576) (ht : ts.length ≤ 1048576) (hF : Forms w) :
    Calls Tryd.prog 8 #[.agg #[.slice ca cs.length cc, .slice ta ts.length tc]] w fun e w' => e = .returned (.bool (unitR cs ts)) ∧ Kept w w' := by
  have k0 : Kept w (w.alloc (.cells #[.slice ca cs.length cc, .slice ta ts.length tc] 30)) := Kept.alloc (Below.refl _ _) _
  have y0 := Cells.new w 30 #[.slice ca cs.length cc, .slice ta ts.length tc]
  have hT := textsOk_ok (w.alloc (.cells #[.slice ca cs.length cc, .slice ta ts.length tc] 30)) ta tc ts (hB.kept k0) ht
  have HC : Hid (unitR cs ts = (decide (1 ≤ cs.length ∧ cs.length ≤ 40) && (textsR ts && cs.all (fun c => codR c ts.length cs.length)))) := rfl
  by_cases hh : 1 ≤ cs.length ∧ cs.length ≤ 40
  · rw [decide_eq_true hh, Bool.true_and] at HC
    have d1 : ¬ (cs.length : Int) < 1 := by omega
    have d2 : ¬ (40 : Int) < (cs.length : Int) := by omega
    by_cases h2 : textsR ts = true
    · rw [h2] at hT HC
      rw [Bool.true_and] at HC
      have HA : Hid (CodsA w ca cs) := hA
      have HF : Hid (Forms w) := hF
      have HK0 : Hid _ := k0
      have HY0 : Hid _ := y0
      have HST : Hid (∀ u (c : Cod) xa xc, StpsA u xa c.ss → Forms u → Calls Tryd.prog 20 #[.agg #[.int .i64 c.n, .int .i64 c.v, .slice xa c.ss.length xc], .agg #[.slice ca cs.length cc, .slice ta ts.length tc]] u fun e w' => e = .returned (.bool (codR c ts.length cs.length)) ∧ Kept u w') := fun u c xa xc hs hf => codeOk_ok u ca ta xa cc tc xc cs.length ts.length c hl ht hs hf
      clear hA hF hB k0 y0 hh ht hl h2
      go_enter Tryd.func8, Tryd.ntmps8
      go_wp2_with (go_at_call 19; refine hT.mono ?_; rintro e wx ⟨rfl, rfl⟩)
      go_loopw [24] (fun i wr => ∃ k : Nat, i = .int .i64 k ∧ k ≤ cs.length ∧ Hid (∀ (j : Nat) c, j < k → cs[j]? = some c → codR c ts.length cs.length = true) ∧ Hid (Kept (w.alloc (.cells #[.slice ca cs.length cc, .slice ta ts.length tc] 30)) wr)) (fun i _ => cs.length - (intOf i).toNat)
      case atStart => exact ⟨0, rfl, Nat.zero_le _, fun j t hj => by omega, Below.refl _ _⟩
      case round =>
        obtain ⟨k, rfl, hk, HM, HQ⟩ := hrel
        have kw := Kept.trans HK0.out HQ.out
        have m0 := Cells.kept HY0.out HQ.out
        by_cases hlt : k < cs.length
        · obtain ⟨s, hs⟩ : ∃ s, cs[k]? = some s := ⟨_, List.getElem?_eq_getElem hlt⟩
          obtain ⟨b, off, xa, xc, rfl, g0, g1, g2, hX⟩ := (CodsA.kept HA.out kw) k s hs
          have q1 : (k : Int) < (cs.length : Int) := by omega
          have ka : Kept wr (wr.alloc (.cells #[.int .i64 s.n, .int .i64 s.v, .slice xa s.ss.length xc] 45)) := Kept.alloc (Below.refl _ _) _
          have n0 := m0.alloc (.cells #[.int .i64 s.n, .int .i64 s.v, .slice xa s.ss.length xc] 45)
          have c0 := n0.cell 0; have c1 := n0.cell 1
          have hC := HST.out (wr.alloc (.cells #[.int .i64 s.n, .int .i64 s.v, .slice xa s.ss.length xc] 45)) s xa xc (hX.kept ka) (Forms.kept HF.out (Kept.trans kw ka))
          have HKW : Hid _ := Kept.trans HQ.out ka
          by_cases h6 : codR s ts.length cs.length = true
          · rw [h6] at hC
            have HM2 : Hid (∀ (j : Nat) c, j < k + 1 → cs[j]? = some c → codR c ts.length cs.length = true) := by
              intro j u hj hu
              by_cases hjk : j = k
              · subst hjk
                rw [hs] at hu
                injection hu with hu
                rw [← hu]
                exact h6
              · exact HM.out j u (by omega) hu
            clear hs h6 kw m0 ka n0 hX
            go_wp2_with (go_at_call 20; refine hC.mono ?_; rintro e w1 ⟨rfl, hk1⟩)
            go_roundw
            case rel => exact ⟨k + 1, by go_num, by omega, HM2.out, Kept.trans HKW.out hk1⟩
            case measure => simp [intOf]; omega
          · have h6' : codR s ts.length cs.length = false := by simpa using h6
            rw [h6'] at hC
            have HE : Hid (unitR cs ts = false) := by rw [Hid, HC.out, all_no hs h6']
            clear hs h6 h6' kw m0 ka n0 hX
            go_wp2_with (go_at_call 20; refine hC.mono ?_; rintro e w1 ⟨rfl, hk1⟩)
            go_ret
            exact ⟨by rw [HE.out]; rfl, Kept.trans HK0.out (Kept.trans HKW.out hk1)⟩
        · have q1 : ¬ (k : Int) < (cs.length : Int) := by omega
          have HE : Hid (unitR cs ts = true) := by rw [Hid, HC.out]; exact all_yes (fun j t hj ht => HM.out j t (by omega) ht)
          have HKW : Hid _ := kw
          clear kw m0
          go_wp2_with fail
          go_ret
          exact ⟨by rw [HE.out]; rfl, HKW.out⟩
    · have h2' : textsR ts = false := by simpa using h2
      rw [h2'] at hT HC
      rw [Bool.false_and] at HC
      clear hA hF hB y0 hh ht hl h2 h2'
      go_enter Tryd.func8, Tryd.ntmps8
      go_wp2_with (go_at_call 19; refine hT.mono ?_; rintro e wx ⟨rfl, rfl⟩)
      go_ret
      exact ⟨by rw [HC.out]; rfl, k0⟩
  · rw [decide_eq_false hh, Bool.false_and] at HC
    clear hA hF hB y0 hT ht
    by_cases d1 : (cs.length : Int) < 1
    · go_enter Tryd.func8, Tryd.ntmps8
      go_wp2_with fail
      go_ret
      exact ⟨by rw [HC.out]; rfl, k0⟩
    · have d2 : (40 : Int) < (cs.length : Int) := by omega
      clear hh
      go_enter Tryd.func8, Tryd.ntmps8
      go_wp2_with fail
      go_ret
      exact ⟨by rw [HC.out]; rfl, k0⟩
end Go.Proofs.YtjagnmajnlcahaaDoor
