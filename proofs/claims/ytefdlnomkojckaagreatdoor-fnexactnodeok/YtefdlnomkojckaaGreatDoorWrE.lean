/-
  The contracts of chapter 13's stands and NodeOk (genWd.py).
-/
import Derived.Test.YtefdlnomkojckaaGreatDoorWrD
import Derived.Test.YtefdlnomkojckaaGreatDoorNodX
import Derived.Deep.RegionWith
namespace Go.Proofs.YtefdlnomkojckaaGreatDoor
open Go.RowKit
set_option linter.unusedSimpArgs false

theorem okK_iff {op : Int} : ∀ (ks : List Nd) (i : Nat), okK op i ks = true ↔ ∀ j x, ks[j]? = some x → stOk (wantAt op (i + j)) x = true
  | [], i => by simp [okK]
  | k :: ks, i => by
    rw [okK, Bool.and_eq_true, okK_iff ks (i + 1)]
    constructor
    · rintro ⟨h1, h2⟩ j x hx
      cases j with
      | zero => simp at hx; subst hx; exact h1
      | succ j => have := h2 j x (by simpa using hx); rwa [show i + 1 + j = i + (j + 1) by omega] at this
    · intro h
      exact ⟨h 0 k rfl, fun j x hx => by have := h (j + 1) x (by simpa using hx); rwa [show i + (j + 1) = i + 1 + j by omega] at this⟩
theorem ownF_enter (op : Int) (args : Array Value) (w : World) : Sem.run Tryz.prog (callFunc (ownF op) args) w = .ok (.enter (ownF op) args) w := by
  unfold ownF
  repeat' split
  all_goals kernel_rfl
theorem stOk_mk {a : Nat} {op n : Int} {s : ByteArray} {ks : List Nd} : stOk a (.mk op s n ks) = (decide (st op = a) && (ownB op s n && (countB op ks.length && okK op 0 ks))) := by
  rw [stOk, okT]
  rfl
def StCd (m : Nat) : Prop := ∀ t : Nd, t.size ≤ m → t.size ≤ 200 → t.bulk ≤ 1048576 → ∀ (a : Nat), 1 ≤ a → a ≤ 4 → ∀ (w : World) (base : Nat) (v : Value), EnvA w → NdV w base t v → Calls Tryz.prog 18 #[v, .int .i64 (a : Nat)] w fun e w' => e = .returned (.bool (stOk a t)) ∧ Kept w w'
set_option maxHeartbeats 16000000 in
set_option maxRecDepth 100000 in
theorem stands_step (m : Nat) (H : StCd m) : StCd (m + 1) := by
  intro t ht h200 hb a ha1 ha4 w base v hE hv
  cases t with
  | mk op s n ks =>
  rw [NdV] at hv
  obtain ⟨ao, cap, rfl, hml, hks⟩ := hv
  simp only [Nd.size, Nd.bulk] at ht h200 hb
  rw [stOk_mk]
  have b0 := Cells.new w 29 #[.int .i64 op, .string s, .int .i64 n, .slice ao ks.length cap]
  have k0 : Kept w (w.alloc (.cells #[.int .i64 op, .string s, .int .i64 n, .slice ao ks.length cap] 29)) := Kept.alloc (Below.refl _ _) _
  have HKS : Hid (ks = [] ∨ ∃ b off, ao = some ⟨b, off, none⟩ ∧ base ≤ b ∧ NdsV w base b off ks) := hks
  have HIH : Hid (StCd m) := H
  have hll := len_sizes ks
  have HEk : Hid (EnvA w) := hE
  clear hks H hE hml
  by_cases hr : 1 ≤ op ∧ op ≤ 27
  · have hW := writer_ok hr.1 hr.2 (w.alloc (.cells #[.int .i64 op, .string s, .int .i64 n, .slice ao ks.length cap] 29))
    have hc200 : ks.length ≤ 200 := by omega
    by_cases hst : st op = a
    · subst hst
      rw [decide_eq_true rfl, Bool.true_and]
      have hsb : s.size ≤ 1048576 := by omega
      have hct := count_tab hr.1 hr.2 hc200
      have HAT : Hid (∀ k, k < ks.length → countB op ks.length = true → 1 ≤ (standL op).length ∧ (standL op).length ≤ 2 ∧ (standL op)[min k ((standL op).length - 1)]? = some ((wantAt op k : Nat) : Int)) := fun k hk hc => at_tab hr.1 hr.2 hc hk
      obtain ⟨sto, hsto⟩ : ∃ x, st op = x := ⟨_, rfl⟩
      obtain ⟨lea, hlea⟩ : ∃ x, leastB op = x := ⟨_, rfl⟩
      obtain ⟨mos, hmos⟩ : ∃ x, mostB op = x := ⟨_, rfl⟩
      obtain ⟨SL, hSL⟩ : ∃ x, standL op = x := ⟨_, rfl⟩
      have HOW : Hid (∀ u, Kept (w.alloc (.cells #[.int .i64 op, .string s, .int .i64 n, .slice ao ks.length cap] 29)) u → Calls Tryz.prog (ownF op) #[.agg #[.int .i64 op, .string s, .int .i64 n, .slice ao ks.length cap]] u fun e w' => e = .returned (.bool (ownB op s n)) ∧ Kept u w') := fun u hu => own_ok hr.1 hr.2 u (HEk.out.kept (k0.trans hu)) n s ao ks.length cap hsb
      have hCF := ownF_enter op
      obtain ⟨of, hof⟩ : ∃ x, ownF op = x := ⟨_, rfl⟩
      rw [hof] at hCF
      rw [hsto, hlea, hmos, hSL, hof] at hW
      rw [hlea, hmos] at hct
      rw [hSL] at HAT
      rw [hof] at HOW
      rw [hsto] at ha1 ha4
      simp only [hsto]
      obtain ⟨ob, hob⟩ : ∃ x, ownB op s n = x := ⟨_, rfl⟩
      rw [hob] at HOW
      rw [hob]
      have HCT : Hid _ := hct
      clear hsto hlea hmos hSL hof hob hct
      obtain ⟨cb, hcb⟩ : ∃ x, countB op ks.length = x := ⟨_, rfl⟩
      rw [hcb] at HCT
      rw [hcb]
      have HCB : Hid _ := hcb
      clear hcb
      go_enter Tryz.func18, Tryz.ntmps18
      go_wp2_with fail
      refine hW.mono ?_
      rintro e w1 ⟨v1, rfl, ⟨sl, c, f, x, y, rfl, hsl⟩, hk1⟩
      have HSL : Hid _ := hsl
      have x5 := Cells.new w1 61 #[.int .i64 (sto : Nat), .func (.func of) #[] #[], .int .i64 lea, .int .i64 mos, .slice sl SL.length c, .func f x y]
      have ka : Kept w1 (w1.alloc (.cells #[.int .i64 (sto : Nat), .func (.func of) #[] #[], .int .i64 lea, .int .i64 mos, .slice sl SL.length c, .func f x y] 61)) := Kept.alloc (Below.refl _ _) _
      have K1 := hk1.trans ka
      have b1 := b0.kept K1
      have c0 := b1.cell 0; have c1 := b1.cell 1; have c2 := b1.cell 2; have c3 := b1.cell 3
      simp at c0 c1 c2 c3
      have hO := HOW.out _ K1
      clear hsl hW
      cases ob with
      | false =>
        have HX : Hid ((false && (cb && okK op 0 ks)) = false) := rfl
        go_wp2_with fail
        refine hO.mono ?_
        rintro e w2 ⟨rfl, hk2⟩
        go_wp2_with fail
        go_ret
        exact ⟨by rw [HX.out]; rfl, k0.trans (K1.trans hk2)⟩
      | true =>
        go_wp2_with fail
        refine hO.mono ?_
        rintro e w2 ⟨rfl, hk2⟩
        have K2 := K1.trans hk2
        have b2 := b0.kept K2
        have y2 := x5.kept hk2
        have c0 := b2.cell 0; have c1 := b2.cell 1; have c2 := b2.cell 2; have c3 := b2.cell 3
        have d0 := y2.cell 0; have d1 := y2.cell 1; have d2 := y2.cell 2; have d3 := y2.cell 3; have d4 := y2.cell 4
        simp at c0 c1 c2 c3 d0 d1 d2 d3 d4
        have hN := count_ok w2 lea mos ((ks.length : Nat) : Int) sl SL.length c
        rw [HCT.out] at hN
        clear hO
        cases cb with
        | false =>
          have HX : Hid ((true && (false && okK op 0 ks)) = false) := rfl
          go_wp2_with fail
          refine hN.mono ?_
          rintro e w3 ⟨rfl, hk3⟩
          go_wp2_with fail
          go_ret
          exact ⟨by rw [HX.out]; rfl, k0.trans (K2.trans hk3)⟩
        | true =>
          have HX : Hid ((true && (true && okK op 0 ks)) = okK op 0 ks) := rfl
          go_wp2_with fail
          refine hN.mono ?_
          rintro e w3 ⟨rfl, hk3⟩
          have K3 := K2.trans hk3
          have k13 : Kept (w1.alloc (.cells #[.int .i64 (sto : Nat), .func (.func of) #[] #[], .int .i64 lea, .int .i64 mos, .slice sl SL.length c, .func f x y] 61)) w3 := hk2.trans hk3
          have HS3 : Hid (SL = [] ∨ ∃ g, sl = some ⟨g, 0, none⟩ ∧ ∀ (j : Nat) x, SL[j]? = some x → w3.cell? ⟨g, j, none⟩ = some (.int .i64 x)) := by
            rcases HSL.out with h | ⟨g, h, h'⟩
            · exact .inl h
            · exact .inr ⟨g, h, fun j x hx => kept_cell (ka.trans k13) (h' j x hx)⟩
          have b3 := b0.kept K3
          have y3 := x5.kept k13
          have K03 : Kept w w3 := k0.trans K3
          obtain ⟨X5, hX5⟩ : ∃ X, w1.heap.size = X := ⟨_, rfl⟩
          rw [hX5] at y3
          clear hN c0 c1 c2 c3 d0 d1 d2 d3 d4 b1 b2 y2 x5 HSL hk1 hk2 hk3 ka k13 K1 K2
          simp only [hX5]
          clear hX5
          have c3 := b3.cell 3
          simp at c3
          go_wp2_with fail
          go_loopw [34] (fun iv wr => ∃ (k : Nat), iv = .int .i64 k ∧ k ≤ ks.length ∧ Hid (∀ j x, j < k → ks[j]? = some x → stOk (wantAt op j) x = true) ∧ Hid (Kept w3 wr)) (fun i _ => ks.length - (intOf i).toNat)
          case atStart => exact ⟨0, rfl, Nat.zero_le _, fun j x h => absurd h (Nat.not_lt_zero _), Below.refl _ _⟩
          case round =>
            obtain ⟨k, rfl, hk, hP, hK⟩ := hrel
            by_cases hlt : k < ks.length
            · have r2 : (k : Int) < (ks.length : Int) := by omega
              have q9 : (k : Int) + 1 ≤ 9223372036854775807 := by omega
              obtain ⟨x2, hx⟩ : ∃ x, ks[k]? = some x := ⟨ks[k], List.getElem?_eq_getElem hlt⟩
              have hxs := size_mem hx
              have hxb := bulk_mem hx
              obtain ⟨b, off, a2, cq, rfl, g0, g1, g2, g3, hv⟩ := kid_at HKS.out (K03.trans hK.out) hx
              have hwi := want_in op k
              obtain ⟨hS1, hS2, hS3⟩ := HAT.out k hlt HCB.out
              obtain ⟨g, rfl, hgc⟩ : ∃ g, sl = some ⟨g, 0, none⟩ ∧ ∀ (j : Nat) x, SL[j]? = some x → w3.cell? ⟨g, j, none⟩ = some (.int .i64 x) := by
                rcases HS3.out with h | h
                · rw [h] at hS1; simp at hS1
                · exact h
              have hgx := hgc _ _ hS3
              have hC := fun u (hu : Kept w3 u) => at_ok u lea mos ((wantAt op k : Nat) : Int) g SL.length c k hS1 (by omega) (kept_cell hu hgx)
              have hI0 := HIH.out x2 (by omega) (by omega) (by omega) (wantAt op k) hwi.1 hwi.2
              have hI := fun u (hu : Kept wr u) => hI0 u base _ (HEk.out.kept ((K03.trans hK.out).trans hu)) (hv.kept hu)
              have HX2 : Hid _ := hx
              obtain ⟨xo, hxo⟩ : ∃ o, x2.op = o := ⟨_, rfl⟩
              obtain ⟨xs, hxs'⟩ : ∃ o, x2.s = o := ⟨_, rfl⟩
              obtain ⟨xn, hxn⟩ : ∃ o, x2.n = o := ⟨_, rfl⟩
              obtain ⟨xl, hxl⟩ : ∃ o, x2.kids.length = o := ⟨_, rfl⟩
              obtain ⟨wk, hwk⟩ : ∃ o, wantAt op k = o := ⟨_, rfl⟩
              obtain ⟨xb, hxb'⟩ : ∃ o, stOk wk x2 = o := ⟨_, rfl⟩
              simp only [hxo, hxs', hxn, hxl, hwk, hxb'] at hI
              simp only [hwk] at hC
              rw [hxo] at g0
              rw [hxs'] at g1
              rw [hxn] at g2
              rw [hxl] at g3
              have HXB : Hid (stOk (wantAt op k) x2 = xb) := by rw [Hid, hwk]; exact hxb'
              clear hI0 hx hxs hxb hv hwi hS1 hS2 hS3 hgx hgc hxo hxs' hxn hxl hwk hxb'
              have kk : Kept wr (wr.alloc (.cells #[.int .i64 xo, .string xs, .int .i64 xn, .slice a2 xl cq] 29)).drew := (Kept.alloc (Below.refl _ _) _).drew
              have n0 := Cells.new wr 29 #[.int .i64 xo, .string xs, .int .i64 xn, .slice a2 xl cq]
              have n1 : Cells (wr.alloc (.cells #[.int .i64 xo, .string xs, .int .i64 xn, .slice a2 xl cq] 29)).drew wr.heap.size 29 #[.int .i64 xo, .string xs, .int .i64 xn, .slice a2 xl cq] := n0
              have y4 := (y3.kept hK.out).kept kk
              have d2 := y4.cell 2; have d3 := y4.cell 3; have d4 := y4.cell 4
              simp at d2 d3 d4
              have hC1 := hC _ (hK.out.trans kk)
              clear hC
              cases xb with
              | false =>
                have HF : Hid (okK op 0 ks = false) := by
                  cases h : okK op 0 ks with
                  | false => rfl
                  | true =>
                    have h2 := (okK_iff ks 0).1 h k x2 HX2.out
                    rw [Nat.zero_add, HXB.out] at h2
                    cases h2
                go_wp2_with fail
                go_region_with (first
                  | (have _tk := k5; go_at_call 18; refine (hI _ (kk.trans k5)).mono ?_; rintro e w6 ⟨rfl, k6⟩)
                  | (go_at_call 33; refine hC1.mono ?_; rintro e w5 ⟨rfl, k5⟩; have n5 := n1.kept k5; have m0 := n5.cell 0; have m1 := n5.cell 1; have m2 := n5.cell 2; have m3 := n5.cell 3; simp at m0 m1 m2 m3))
                all_goals (
                  have HKK : Hid (Kept w3 w6) := ((hK.out.trans kk).trans k5).trans k6
                  clear hI hC1 hCF
                  go_simp
                  go_wp2_with fail
                  go_ret
                  exact ⟨by first | (rw [HX.out, HF.out]; rfl) | (rw [HF.out]; rfl), K03.trans HKK.out⟩)
              | true =>
                have HA : Hid (∀ j x, j < k + 1 → ks[j]? = some x → stOk (wantAt op j) x = true) := fun j x hj hx => by
                  rcases Nat.lt_or_ge j k with h | h
                  · exact hP.out j x h hx
                  · obtain rfl : j = k := by omega
                    rw [HX2.out] at hx
                    cases hx
                    exact HXB.out
                go_wp2_with fail
                go_region_with (first
                  | (have _tk := k5; go_at_call 18; refine (hI _ (kk.trans k5)).mono ?_; rintro e w6 ⟨rfl, k6⟩)
                  | (go_at_call 33; refine hC1.mono ?_; rintro e w5 ⟨rfl, k5⟩; have n5 := n1.kept k5; have m0 := n5.cell 0; have m1 := n5.cell 1; have m2 := n5.cell 2; have m3 := n5.cell 3; simp at m0 m1 m2 m3))
                all_goals (
                  have HKK : Hid (Kept w3 w6) := ((hK.out.trans kk).trans k5).trans k6
                  clear hI hC1 hCF
                  go_simp
                  go_wp2_with fail
                  exact ⟨⟨k + 1, by go_num, by omega, HA.out, HKK.out⟩, by simp [intOf]; omega⟩)
            · have r2 : ¬ (k : Int) < (ks.length : Int) := by omega
              have HF : Hid (okK op 0 ks = true) := (okK_iff ks 0).2 (fun j x hx => by
                rw [Nat.zero_add]
                have := (List.getElem?_eq_some_iff.1 hx).1
                exact hP.out j x (by omega) hx)
              go_wp2_with fail
              go_ret
              exact ⟨by first | (rw [HX.out, HF.out]; rfl) | (rw [HF.out]; rfl), K03.trans hK.out⟩
    · have HX : Hid ((decide (st op = a) && (ownB op s n && (countB op ks.length && okK op 0 ks))) = false) := by rw [Hid, decide_eq_false hst]; rfl
      have q : (((st op : Nat) : Int) != ((a : Nat) : Int)) = true := by simp only [bne_iff_ne, ne_eq]; omega
      obtain ⟨sto, hsto⟩ : ∃ x, st op = x := ⟨_, rfl⟩
      rw [hsto] at hW q
      clear hst hsto
      go_enter Tryz.func18, Tryz.ntmps18
      go_wp2_with fail
      refine hW.mono ?_
      rintro e w1 ⟨v1, rfl, ⟨sl, c, f, x, y, rfl, hsl⟩, hk1⟩
      clear hsl hW
      go_wp2_with fail
      go_ret
      exact ⟨by rw [HX.out]; rfl, (k0.trans hk1).alloc _⟩
  · have hW := writer_none hr (w.alloc (.cells #[.int .i64 op, .string s, .int .i64 n, .slice ao ks.length cap] 29))
    have hst : st op ≠ a := by
      intro h
      unfold st at h
      (repeat' split at h) <;> omega
    have HX : Hid ((decide (st op = a) && (ownB op s n && (countB op ks.length && okK op 0 ks))) = false) := by rw [Hid, decide_eq_false hst]; rfl
    have q : ((0 : Int) != ((a : Nat) : Int)) = true := by simp only [bne_iff_ne, ne_eq]; omega
    clear hst hr
    go_enter Tryz.func18, Tryz.ntmps18
    go_wp2_with fail
    refine hW.mono ?_
    rintro e w1 ⟨rfl, hk1⟩
    clear hW
    go_wp2_with fail
    go_ret
    exact ⟨by rw [HX.out]; rfl, (k0.trans hk1).alloc _⟩
theorem stands_ok : ∀ m, StCd m
  | 0 => fun t ht => by have := t.size_pos; omega
  | m + 1 => stands_step m (stands_ok m)
set_option maxHeartbeats 16000000 in
set_option maxRecDepth 100000 in
theorem impl_NodeOk_ok (t : Nd) (hb : t.bulk ≤ 1048576) (w : World) (hE : EnvA w) (base : Nat) (hb1 : 1 ≤ base) (v : Value) (hv : NdV w base t v) :
    Calls Tryz.prog 8 #[v] w fun e w' => e = .returned (.bool (nodeR t)) ∧ Kept w w' := by
  have hsz := t.size_le
  obtain ⟨op, s, n, ao, l, cap, rfl⟩ := hv.four
  have hop : t.op = op := by
    cases t with
    | mk op' s' n' ks' =>
      rw [NdV] at hv
      obtain ⟨ao', cap', e, _⟩ := hv
      injection e with e
      have e3 := congrArg Array.toList e
      simp at e3
      exact e3.1.symm
  have hX := extentOf_ok _ t _ (hv.boxed (ty := 29) hb1) (by omega)
  have b0 := Cells.new w 29 #[.int .i64 op, .string s, .int .i64 n, .slice ao l cap]
  have k0 : Kept w (w.alloc (.cells #[.int .i64 op, .string s, .int .i64 n, .slice ao l cap] 29)) := Kept.alloc (Below.refl _ _) _
  have HS : Hid (t.size ≤ 200 → ∀ u, Kept w u → Calls Tryz.prog 18 #[.agg #[.int .i64 op, .string s, .int .i64 n, .slice ao l cap], .int .i64 1] u fun e w' => e = .returned (.bool (stOk 1 t)) ∧ Kept u w') := fun h u hu => stands_ok _ t (Nat.le_refl _) h hb 1 (by decide) (by decide) u base _ (hE.kept hu) (hv.kept hu)
  have HR : Hid (nodeR t = (decide (t.deep ≤ 20) && (decide (t.size ≤ 200) && stOk 1 t))) := by
    rw [Hid, nodeR, stOk]
    have h1 := @st_op t.op
    by_cases h : t.op = 1
    · rw [decide_eq_true h, decide_eq_true (h1.1.2 h)]; simp
    · rw [decide_eq_false h, decide_eq_false (fun e => h (h1.1.1 e))]; simp
  obtain ⟨x, hx⟩ : ∃ x, stOk 1 t = x := ⟨_, rfl⟩
  obtain ⟨D, hD⟩ : ∃ D, t.deep = D := ⟨_, rfl⟩
  obtain ⟨Z, hZ⟩ : ∃ D, t.size = D := ⟨_, rfl⟩
  rw [hx, hZ] at HS
  rw [hx, hD, hZ] at HR
  rw [hD, hZ] at hX
  clear hx hD hZ hb hsz hop hv hE
  by_cases h3 : Z ≤ 200
  · have q3 : ((Z : Nat) : Int) ≤ 200 := by omega
    rw [decide_eq_true h3] at HR
    have hS := HS.out h3
    by_cases h2 : D ≤ 20
    · have q2 : ((D : Nat) : Int) ≤ 20 := by omega
      rw [decide_eq_true h2] at HR
      clear h2 h3
      go_enter Tryz.func8, Tryz.ntmps8
      go_wp2_with fail
      refine hX.mono ?_
      rintro e w1 ⟨rfl, hk1⟩
      have ka : Kept w1 (w1.alloc (.cells #[.int .i64 (Z : Nat), .int .i64 (D : Nat)] 38)) := Kept.alloc (Below.refl _ _) _
      have b1 := (b0.kept hk1).kept ka
      have c0 := b1.cell 0; have c1 := b1.cell 1; have c2 := b1.cell 2; have c3 := b1.cell 3
      simp at c0 c1 c2 c3
      have hS1 := hS _ ((k0.trans hk1).trans ka)
      clear hX hS
      go_wp2_with (go_at_call 18; refine hS1.mono ?_; rintro e w2 ⟨rfl, hk2⟩)
      go_ret
      exact ⟨by rw [HR.out]; rfl, ((k0.trans hk1).trans ka).trans hk2⟩
    · have q2 : ¬ ((D : Nat) : Int) ≤ 20 := by omega
      rw [decide_eq_false h2] at HR
      clear h2 h3
      go_enter Tryz.func8, Tryz.ntmps8
      go_wp2_with fail
      refine hX.mono ?_
      rintro e w1 ⟨rfl, hk1⟩
      clear hX hS
      go_wp2_with fail
      go_ret
      exact ⟨by rw [HR.out]; rfl, (k0.trans hk1).alloc _⟩
  · have q3 : ¬ ((Z : Nat) : Int) ≤ 200 := by omega
    rw [decide_eq_false h3] at HR
    have HR2 : Hid (nodeR t = false) := by rw [Hid, HR.out]; simp
    clear h3
    go_enter Tryz.func8, Tryz.ntmps8
    go_wp2_with fail
    refine hX.mono ?_
    rintro e w1 ⟨rfl, hk1⟩
    clear hX
    go_wp2_with fail
    go_ret
    exact ⟨by rw [HR2.out]; rfl, (k0.trans hk1).alloc _⟩
end Go.Proofs.YtefdlnomkojckaaGreatDoor
