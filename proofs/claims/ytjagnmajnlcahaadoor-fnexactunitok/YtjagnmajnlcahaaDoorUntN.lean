/-
  spec.UnitOk exactly (chapter 15).
-/
import Derived.Test.YtjagnmajnlcahaaDoorUntK
import Derived.Deep.CutRange
namespace Go.Proofs.YtjagnmajnlcahaaDoor
open Go.RowKit
set_option linter.unusedSimpArgs false
set_option linter.unusedVariables false
theorem codR_head {c : Cod} {nt nc : Nat} (h : ¬ ((0 ≤ c.v ∧ c.v ≤ 12) ∧ (0 ≤ c.n ∧ c.n ≤ c.v) ∧ (1 ≤ c.ss.length ∧ c.ss.length ≤ 2000))) : codR c nt nc = false := by
  rw [codR, headR, decide_eq_false (by omega), Bool.false_and]
theorem codR_rest {c : Cod} {nt nc : Nat} (h1 : 0 ≤ c.v ∧ c.v ≤ 12) (h2 : 0 ≤ c.n ∧ c.n ≤ c.v) (h3 : 1 ≤ c.ss.length ∧ c.ss.length ≤ 2000) : codR c nt nc = (c.ss.all (fun s => stpR s nt nc c.ss.length) && lastR c) := by
  rw [codR, headR, decide_eq_true (by omega), Bool.true_and]
theorem lastR_at {c : Cod} {s : Stp} (h : c.ss[c.ss.length - 1]? = some s) : lastR c = decide (s.1 = 13) := by
  rw [lastR]; simp only [h]
set_option maxHeartbeats 8000000 in
set_option maxRecDepth 100000 in
theorem spec_UnitOk_ok (w : World) (ca ta : Option Addr) (cc tc : Nat) (cs : List Cod) (ts : List ByteArray) (hA : CodsA w ca cs) (hB : StA w ta ts) (hl : cs.length ≤ 1048576) (ht : ts.length ≤ 1048576) (hss : ∀ c ∈ cs, c.ss.length ≤ 1048576) :
    Calls Tryd.prog 6 #[.agg #[.slice ca cs.length cc, .slice ta ts.length tc]] w fun e w' => e = .returned (.bool (unitR cs ts)) ∧ Kept w w' := by
  have k0 : Kept w (w.alloc (.cells #[.slice ca cs.length cc, .slice ta ts.length tc] 30)) := Kept.alloc (Below.refl _ _) _
  have y0 := Cells.new w 30 #[.slice ca cs.length cc, .slice ta ts.length tc]
  have HC : Hid (unitR cs ts = (decide (1 ≤ cs.length ∧ cs.length ≤ 40) && (textsR ts && cs.all (fun c => codR c ts.length cs.length)))) := rfl
  have HK0 : Hid _ := k0
  have HY0 : Hid _ := y0
  have HA : Hid (CodsA w ca cs) := hA
  have HB : Hid (StA w ta ts) := hB
  have HSS : Hid _ := hss
  by_cases hh : 1 ≤ cs.length ∧ cs.length ≤ 40
  · rw [decide_eq_true hh, Bool.true_and] at HC
    have hI := l1InS_yes (cs.length : Int) 1 40 (w.alloc (.cells #[.slice ca cs.length cc, .slice ta ts.length tc] 30)) (by omega) (by omega)
    by_cases h2 : ts.length ≤ 200
    · have hd : ¬ (200 : Int) < (ts.length : Int) := by omega
      rw [show textsR ts = ts.all (fun t => decide (t.size ≤ 30)) by rw [textsR, decide_eq_true h2, Bool.true_and]] at HC
      clear hA hB hh k0 y0 h2 hss
      go_enter Tryd.func6, Tryd.ntmps6
      go_wp2_with (go_at_call 15; refine hI.mono ?_; rintro e wx ⟨rfl, rfl⟩)
      go_loopw [3] (fun i wr => ∃ k : Nat, i = .int .i64 k ∧ k ≤ ts.length ∧ Hid (∀ (j : Nat) t, j < k → ts[j]? = some t → t.size ≤ 30) ∧ HidW wr (w.alloc (.cells #[.slice ca cs.length cc, .slice ta ts.length tc] 30))) (fun i _ => ts.length - (intOf i).toNat)
      case atStart => exact ⟨0, rfl, Nat.zero_le _, fun j t hj => by omega, ⟨rfl⟩⟩
      case round =>
        obtain ⟨k, rfl, hk, HM, HQ⟩ := hrel
        obtain rfl := HQ.out
        have m := HY0.out
        by_cases hlt : k < ts.length
        · obtain ⟨t, ht'⟩ : ∃ t, ts[k]? = some t := ⟨_, List.getElem?_eq_getElem hlt⟩
          obtain ⟨b, off, rfl, hc⟩ := (StA.kept HB.out HK0.out) k t ht'
          have q1 : (k : Int) < (ts.length : Int) := by omega
          by_cases h3 : t.size ≤ 30
          · have h3' : ¬ (30 : Int) < (t.size : Int) := by omega
            have HM2 : Hid (∀ (j : Nat) t, j < k + 1 → ts[j]? = some t → t.size ≤ 30) := by
              intro j u hj hu
              by_cases hjk : j = k
              · subst hjk
                rw [ht'] at hu
                injection hu with hu
                rw [← hu]
                exact h3
              · exact HM.out j u (by omega) hu
            clear ht' h3 m
            go_wp2_with fail
            go_roundw
            case rel => exact ⟨k + 1, by go_num, by omega, HM2.out, ⟨rfl⟩⟩
            case measure => simp [intOf]; omega
          · have h3' : (30 : Int) < (t.size : Int) := by omega
            have HE : Hid (unitR cs ts = false) := by rw [Hid, HC.out, all_no ht' (by simp; omega), Bool.false_and]
            clear ht' h3 m
            go_wp2_with fail
            go_ret
            exact ⟨by rw [HE.out]; rfl, HK0.out⟩
        · have q1 : ¬ (k : Int) < (ts.length : Int) := by omega
          have hall : ts.all (fun t => decide (t.size ≤ 30)) = true := all_yes (fun j t hj ht => decide_eq_true (HM.out j t (by omega) ht))
          rw [hall, Bool.true_and] at HC
          clear hall m HM
          go_wp2_with fail
          go_loopw [4] (fun i wr => ∃ k : Nat, i = .int .i64 k ∧ k ≤ cs.length ∧ Hid (∀ (j : Nat) c, j < k → cs[j]? = some c → codR c ts.length cs.length = true) ∧ Hid (Kept (w.alloc (.cells #[.slice ca cs.length cc, .slice ta ts.length tc] 30)) wr)) (fun i _ => cs.length - (intOf i).toNat)
          case atStart => exact ⟨0, rfl, Nat.zero_le _, fun j t hj => by omega, Below.refl _ _⟩
          case round =>
            obtain ⟨p, rfl, hp, HM, HK⟩ := hrel
            have kw := Kept.trans HK0.out HK.out
            have m0 := Cells.kept HY0.out HK.out
            have u0 := m0.cell 0; have u1 := m0.cell 1
            by_cases hlt2 : p < cs.length
            · obtain ⟨c, hc⟩ : ∃ c, cs[p]? = some c := ⟨_, List.getElem?_eq_getElem hlt2⟩
              obtain ⟨b, off, xa, xc, rfl, g0, g1, g2, hX⟩ := (CodsA.kept HA.out kw) p c hc
              have q2 : (p : Int) < (cs.length : Int) := by omega
              have hsl := HSS.out c (List.mem_of_getElem? hc)
              have HCc : Hid (cs[p]? = some c) := hc
              obtain ⟨n, v, ss⟩ := c
              simp only at g0 g1 g2 hX hsl
              have ka : Kept wr (wr.alloc (.cells #[.int .i64 n, .int .i64 v, .slice xa ss.length xc] 45)) := Kept.alloc (Below.refl _ _) _
              have n0 := m0.alloc (.cells #[.int .i64 n, .int .i64 v, .slice xa ss.length xc] 45)
              have n1 := Cells.new wr 45 #[.int .i64 n, .int .i64 v, .slice xa ss.length xc]
              have HKA : Hid _ := Kept.trans HK.out ka
              have HX : Hid (StpsA wr xa ss) := hX
              have HN0 : Hid _ := n0
              have HN1 : Hid _ := n1
              by_cases hv : 0 ≤ v ∧ v ≤ 12
              · have hI1 := l1InS_yes v 0 12 (wr.alloc (.cells #[.int .i64 n, .int .i64 v, .slice xa ss.length xc] 45)) hv.1 hv.2
                by_cases hn : 0 ≤ n ∧ n ≤ v
                · have hI2 := l1InS_yes n 0 v (wr.alloc (.cells #[.int .i64 n, .int .i64 v, .slice xa ss.length xc] 45)) hn.1 hn.2
                  by_cases hz : 1 ≤ ss.length ∧ ss.length ≤ 2000
                  · have hI3 := l1InS_yes (ss.length : Int) 1 2000 (wr.alloc (.cells #[.int .i64 n, .int .i64 v, .slice xa ss.length xc] 45)) (by omega) (by omega)
                    obtain ⟨s, hs⟩ : ∃ s, ss[ss.length - 1]? = some s := ⟨_, List.getElem?_eq_getElem (by omega)⟩
                    obtain ⟨xb, xf, rfl, r0, r1, r2⟩ := (hX.kept ka) _ s hs
                    have p0 : (0 : Int) ≤ (ss.length : Int) - 1 := by omega
                    have p1 : (ss.length : Int) - 1 < (ss.length : Int) := by omega
                    have p2 : ((ss.length : Int) - 1).toNat = ss.length - 1 := by omega
                    have HR : Hid (codR ⟨n, v, ss⟩ ts.length cs.length = (ss.all (fun s => stpR s ts.length cs.length ss.length) && decide (s.1 = 13))) := by rw [Hid, codR_rest hv hn hz, lastR_at hs]
                    by_cases h13 : s.1 = 13
                    · have h13' : (s.1 != 13) = false := by simp [h13]
                      rw [decide_eq_true h13, Bool.and_true] at HR
                      have HST : Hid (∀ u o x y, Calls Tryd.prog 16 #[.agg #[.slice (some ⟨b, off, none⟩) cs.length cc, .slice ta ts.length tc], .agg #[.int .i64 n, .int .i64 v, .slice (some ⟨xb, xf, none⟩) ss.length xc], .agg #[.int .i64 o, .int .i64 x, .int .i64 y]] u fun e w' => e = .returned (.bool (stpR (o, x, y) ts.length cs.length ss.length)) ∧ Kept u w') := fun u o x y => l15Step_ok u (some ⟨b, off, none⟩) ta (some ⟨xb, xf, none⟩) cc tc xc cs.length ts.length ss.length n v hl ht hsl o x y
                      have HZ : Hid _ := hz
                      clear hs hv hn hz h13 kw m0 ka n0 n1 hX hc
                      go_wp2_with (first
                        | (have _tk := tk2; go_at_call 15; refine hI3.mono ?_; rintro e wx ⟨rfl, rfl⟩)
                        | (have _tk := tk1; go_at_call 15; refine hI2.mono ?_; rintro e wx ⟨rfl, rfl⟩; have tk2 : True := trivial)
                        | (go_at_call 15; refine hI1.mono ?_; rintro e wx ⟨rfl, rfl⟩; have tk1 : True := trivial))
                      go_loopw [7] (fun i wq => ∃ q : Nat, i = .int .i64 q ∧ q ≤ ss.length ∧ Hid (∀ (j : Nat) s, j < q → ss[j]? = some s → stpR s ts.length cs.length ss.length = true) ∧ Hid (Kept (wr.alloc (.cells #[.int .i64 n, .int .i64 v, .slice (some ⟨xb, xf, none⟩) ss.length xc] 45)) wq)) (fun i _ => ss.length - (intOf i).toNat)
                      case atStart => exact ⟨0, rfl, Nat.zero_le _, fun j t hj => by omega, Below.refl _ _⟩
                      case round =>
                        obtain ⟨q, rfl, hq, HMq, HKq⟩ := hrel
                        have kd : Kept wr wr.drew := (Below.refl _ _).drew
                        have z0 := Cells.kept (Cells.kept HN0.out HKq.out) kd
                        have z1 := Cells.kept (Cells.kept HN1.out HKq.out) kd
                        have t0 := z0.cell 0; have t1 := z0.cell 1; have t2 := z1.cell 0; have t3 := z1.cell 1; have t4 := z1.cell 2
                        have a0 := (Cells.kept HN0.out HKq.out).cell 0; have a1 := (Cells.kept HN0.out HKq.out).cell 1; have a2 := (Cells.kept HN1.out HKq.out).cell 0; have a3 := (Cells.kept HN1.out HKq.out).cell 1; have a4 := (Cells.kept HN1.out HKq.out).cell 2
                        by_cases hlq : q < ss.length
                        · obtain ⟨s', hs'⟩ : ∃ s, ss[q]? = some s := ⟨_, List.getElem?_eq_getElem hlq⟩
                          obtain ⟨xb', xf', ex, r0', r1', r2'⟩ := (StpsA.kept (StpsA.kept (StpsA.kept HX.out (Kept.alloc (Below.refl _ _) _)) HKq.out) kd) q s' hs'
                          simp at ex
                          obtain ⟨rfl, rfl⟩ := ex
                          obtain ⟨o, x, y⟩ := s'
                          have q3 : (q : Int) < (ss.length : Int) := by omega
                          have hC := HST.out wr.drew o x y
                          have HKD : Hid _ := Kept.trans HKq.out kd
                          by_cases h6 : stpR (o, x, y) ts.length cs.length ss.length = true
                          · rw [h6] at hC
                            have HM2 : Hid (∀ (j : Nat) s, j < q + 1 → ss[j]? = some s → stpR s ts.length cs.length ss.length = true) := by
                              intro j u hj hu
                              by_cases hjk : j = q
                              · subst hjk
                                rw [hs'] at hu
                                injection hu with hu
                                rw [← hu]
                                exact h6
                              · exact HMq.out j u (by omega) hu
                            clear hs' h6 z0 z1 kd
                            go_wp2_with fail
                            go_region_with (go_at_call 16; refine hC.mono ?_; rintro e w1 ⟨rfl, hk1⟩)
                            all_goals (
                              go_wp2_with fail
                              go_roundw
                              case rel => exact ⟨q + 1, by go_num, by omega, HM2.out, Kept.trans HKD.out hk1⟩
                              case measure => simp [intOf]; omega)
                          · have h6' : stpR (o, x, y) ts.length cs.length ss.length = false := by simpa using h6
                            rw [h6'] at hC
                            have HE : Hid (unitR cs ts = false) := by rw [Hid, HC.out, all_no HCc.out (by rw [HR.out]; exact all_no hs' h6')]
                            clear hs' h6 h6' z0 z1 kd
                            go_wp2_with fail
                            go_region_with (go_at_call 16; refine hC.mono ?_; rintro e w1 ⟨rfl, hk1⟩)
                            all_goals (
                              go_wp2_with fail
                              go_ret
                              exact ⟨by rw [HE.out]; rfl, Kept.trans HK0.out (Kept.trans HKA.out (Kept.trans HKD.out hk1))⟩)
                        · have q3 : ¬ (q : Int) < (ss.length : Int) := by omega
                          have HM2 : Hid (∀ (j : Nat) c, j < p + 1 → cs[j]? = some c → codR c ts.length cs.length = true) := by
                            intro j u hj hu
                            by_cases hjk : j = p
                            · subst hjk
                              rw [HCc.out] at hu
                              injection hu with hu
                              rw [← hu, HR.out]
                              exact all_yes (fun j t hj ht => HMq.out j t (by omega) ht)
                            · exact HM.out j u (by omega) hu
                          clear z0 z1 kd
                          go_wp2_with fail
                          go_roundw
                          case rel => exact ⟨p + 1, by go_num, by omega, HM2.out, Kept.trans HKA.out HKq.out⟩
                          case measure => simp [intOf]; omega
                    · have h13' : (s.1 != 13) = true := by simpa using h13
                      rw [decide_eq_false h13, Bool.and_false] at HR
                      have HE : Hid (unitR cs ts = false) := by rw [Hid, HC.out, all_no HCc.out HR.out]
                      clear hs hv hn hz h13 kw m0 ka n0 n1 hX hc
                      go_wp2_with (first
                        | (have _tk := tk2; go_at_call 15; refine hI3.mono ?_; rintro e wx ⟨rfl, rfl⟩)
                        | (have _tk := tk1; go_at_call 15; refine hI2.mono ?_; rintro e wx ⟨rfl, rfl⟩; have tk2 : True := trivial)
                        | (go_at_call 15; refine hI1.mono ?_; rintro e wx ⟨rfl, rfl⟩; have tk1 : True := trivial))
                      go_ret
                      exact ⟨by rw [HE.out]; rfl, Kept.trans HK0.out HKA.out⟩
                  · have hI3 := l1InS_no (ss.length : Int) 1 2000 (wr.alloc (.cells #[.int .i64 n, .int .i64 v, .slice xa ss.length xc] 45)) (by omega)
                    have HE : Hid (unitR cs ts = false) := by rw [Hid, HC.out, all_no HCc.out (codR_head (fun h => hz h.2.2))]
                    clear hv hn hz kw m0 ka n0 n1 hX hc
                    go_wp2_with (first
                      | (have _tk := tk2; go_at_call 15; refine hI3.mono ?_; rintro e wx ⟨rfl, rfl⟩)
                      | (have _tk := tk1; go_at_call 15; refine hI2.mono ?_; rintro e wx ⟨rfl, rfl⟩; have tk2 : True := trivial)
                      | (go_at_call 15; refine hI1.mono ?_; rintro e wx ⟨rfl, rfl⟩; have tk1 : True := trivial))
                    go_ret
                    exact ⟨by rw [HE.out]; rfl, Kept.trans HK0.out HKA.out⟩
                · have hI2 := l1InS_no n 0 v (wr.alloc (.cells #[.int .i64 n, .int .i64 v, .slice xa ss.length xc] 45)) (by omega)
                  have HE : Hid (unitR cs ts = false) := by rw [Hid, HC.out, all_no HCc.out (codR_head (fun h => hn h.2.1))]
                  clear hv hn kw m0 ka n0 n1 hX hc
                  go_wp2_with (first
                    | (have _tk := tk1; go_at_call 15; refine hI2.mono ?_; rintro e wx ⟨rfl, rfl⟩)
                    | (go_at_call 15; refine hI1.mono ?_; rintro e wx ⟨rfl, rfl⟩; have tk1 : True := trivial))
                  go_ret
                  exact ⟨by rw [HE.out]; rfl, Kept.trans HK0.out HKA.out⟩
              · have hI1 := l1InS_no v 0 12 (wr.alloc (.cells #[.int .i64 n, .int .i64 v, .slice xa ss.length xc] 45)) (by omega)
                have HE : Hid (unitR cs ts = false) := by rw [Hid, HC.out, all_no HCc.out (codR_head (fun h => hv h.1))]
                clear hv kw m0 ka n0 n1 hX hc
                go_wp2_with (go_at_call 15; refine hI1.mono ?_; rintro e wx ⟨rfl, rfl⟩)
                go_ret
                exact ⟨by rw [HE.out]; rfl, Kept.trans HK0.out HKA.out⟩
            · have q2 : ¬ (p : Int) < (cs.length : Int) := by omega
              have HE : Hid (unitR cs ts = true) := by rw [Hid, HC.out]; exact all_yes (fun j t hj ht => HM.out j t (by omega) ht)
              have HKW : Hid _ := kw
              clear kw m0
              go_wp2_with fail
              go_ret
              exact ⟨by rw [HE.out]; rfl, HKW.out⟩
    · have hd : (200 : Int) < (ts.length : Int) := by omega
      have HE : Hid (unitR cs ts = false) := by rw [Hid, HC.out, textsR, decide_eq_false h2, Bool.false_and, Bool.false_and]
      clear hA hB hh y0 h2 hss
      go_enter Tryd.func6, Tryd.ntmps6
      go_wp2_with (go_at_call 15; refine hI.mono ?_; rintro e wx ⟨rfl, rfl⟩)
      go_ret
      exact ⟨by rw [HE.out]; rfl, k0⟩
  · have HE : Hid (unitR cs ts = false) := by rw [Hid, HC.out, decide_eq_false hh, Bool.false_and]
    have hI := l1InS_no (cs.length : Int) 1 40 (w.alloc (.cells #[.slice ca cs.length cc, .slice ta ts.length tc] 30)) (by omega)
    clear hA hB hh y0 hss
    go_enter Tryd.func6, Tryd.ntmps6
    go_wp2_with (go_at_call 15; refine hI.mono ?_; rintro e wx ⟨rfl, rfl⟩)
    go_ret
    exact ⟨by rw [HE.out]; rfl, k0⟩
end Go.Proofs.YtjagnmajnlcahaaDoor
