/-
  The contract of chapter 12's model l12Copy: the same tree, in memory of its own.
-/
import Derived.Test.YtdcjfeihcafndaaCpyT
import Derived.Test.YtdcjfeihcafndaaParL
namespace Go.Proofs.Ytdcjfeihcafndaa
open Go.RowKit
set_option linter.unusedSimpArgs false
attribute [local go_sem] Plain.and7

/-- Within l12Copy: the boxes of the argument, of the result, of what is built. -/
structure LocC (w wr : World) (op n : Int) (s : ByteArray) (ao : Option Addr) (l cap : Nat) (kv : Value) (ks : List Nd) : Prop where
  kept : Kept w wr
  arg : Cells wr w.heap.size 26 #[.int .i64 op, .string s, .int .i64 n, .slice ao l cap]
  res : Cells wr (w.heap.size + 1) 26 zeroN
  box : Cells wr (w.heap.size + 2) 26 #[.int .i64 op, .string s, .int .i64 n, kv]
  tree : CpT wr (.mk op s n ks) (w.heap.size + 3) wr.heap.size (.agg #[.int .i64 op, .string s, .int .i64 n, kv])
theorem LocC.kp {w wr wr' : World} {op n : Int} {s : ByteArray} {ao : Option Addr} {l cap : Nat} {kv : Value} {ks : List Nd} (h : LocC w wr op n s ao l cap kv ks) (hk : Kept wr wr') : LocC w wr' op n s ao l cap kv ks :=
  ⟨h.kept.trans hk, h.arg.kept hk, h.res.kept hk, h.box.kept hk, (h.tree.stay (fun b _ _ h3 => hk.block b h3)).mono (Nat.le_refl _) hk.size⟩
def CpOk (t : Nd) : Prop := ∀ (w : World) (base : Nat) (v : Value), NdV w base t v → t.size ≤ 1048576 →
    Calls Try.prog 15 #[v] w fun e w' => ∃ v', e = .returned v' ∧ CpT w' t w.heap.size w'.heap.size v' ∧ Kept w w'
set_option maxHeartbeats 16000000 in
set_option maxRecDepth 100000 in
theorem l12Copy_ok : ∀ (m : Nat) (t : Nd), t.size ≤ m → CpOk t := by
  intro m
  induction m with
  | zero =>
    intro t ht
    have := t.size_pos
    omega
  | succ m ih =>
    intro t ht w base v hv hbk
    obtain ⟨op, s, n, ks⟩ := t
    rw [NdV] at hv
    obtain ⟨ao, cap, rfl, hml, hks⟩ := hv
    simp only [Nd.size] at ht hbk
    obtain ⟨i0, hi, hz0, hz1, hz2⟩ := info_parts infoNk
    have HIH : Hid (∀ (t : Nd), t.size ≤ m → CpOk t) := ih
    have HKS : Hid (ks = [] ∨ ∃ b off, ao = some ⟨b, off, none⟩ ∧ base ≤ b ∧ NdsV w base b off ks) := hks
    have hs := hml.1
    clear ih hks
    have L0 : LocC w (((w.alloc (.cells #[.int .i64 op, .string s, .int .i64 n, .slice ao ks.length cap] 26)).alloc (.cells zeroN 26)).alloc (.cells #[.int .i64 op, .string s, .int .i64 n, .slice none 0 0] 26)) op n s ao ks.length cap (.slice none 0 0) [] := by
      have y1 := (Cells.new (w.alloc (.cells #[.int .i64 op, .string s, .int .i64 n, .slice ao ks.length cap] 26)) 26 zeroN).alloc (.cells #[.int .i64 op, .string s, .int .i64 n, .slice none 0 0] 26)
      have y2 := Cells.new ((w.alloc (.cells #[.int .i64 op, .string s, .int .i64 n, .slice ao ks.length cap] 26)).alloc (.cells zeroN 26)) 26 #[.int .i64 op, .string s, .int .i64 n, .slice none 0 0]
      simp only [World.size_alloc] at y1 y2
      exact ⟨((Kept.alloc (Below.refl _ _) _).alloc _).alloc _, ((Cells.new w _ _).alloc _).alloc _, y1, y2, .leaf hs⟩
    have HL0 : Hid _ := L0
    clear L0
    go_enter Try.func15, Try.ntmps15
    go_wp2_with fail
    go_loopw [4] (fun iv wr => ∃ (k : Nat) (va : Option Addr) (vc : Nat), iv = .int .i64 k ∧ k ≤ ks.length ∧ Hid (LocC w wr op n s ao ks.length cap (.slice va (ks.take k).length vc) (ks.take k))) (fun i _ => ks.length - (intOf i).toNat)
    case atStart => exact ⟨0, none, 0, rfl, Nat.zero_le _, HL0.out⟩
    case round =>
      obtain ⟨k, va, vc, rfl, hkl, hL⟩ := hrel
      clear HL0
      have hLo := hL.out
      have a3 := hLo.arg.cell 3
      simp at a3
      by_cases hlt : k < ks.length
      · obtain ⟨x, hx⟩ : ∃ x, ks[k]? = some x := ⟨ks[k], List.getElem?_eq_getElem hlt⟩
        have q1 : (k : Int) < (ks.length : Int) := by omega
        have hll := len_sizes ks
        have q2 : (k : Int) + 1 ≤ 9223372036854775807 := by omega
        obtain ⟨b, off, rfl, hbb, hn⟩ : ∃ b off, ao = some ⟨b, off, none⟩ ∧ base ≤ b ∧ NdsV w base b off ks := by
          rcases HKS.out with h | h
          · rw [h] at hlt; simp at hlt
          · exact h
        have kd : Kept w wr.drew := Below.drew hLo.kept
        obtain ⟨d0, d1, d2, d3, m0, m1, m2, m3, hvx⟩ := (NdsV.turn (Turn.kept kd) _ _ _ hbb hn).at hx
        obtain ⟨opx, sx, nx, aox, lx, cpx, ex⟩ := hvx.four
        simp at ex
        obtain ⟨rfl, rfl, rfl, rfl⟩ := ex
        have hsz := size_mem hx
        have hC := HIH.out x (by omega) wr.drew base _ hvx (by omega)
        have HLd : Hid (LocC w wr.drew op n s (some ⟨b, off, none⟩) ks.length cap (.slice va (ks.take k).length vc) (ks.take k)) := hLo.kp (Below.drew (Below.refl _ _))
        have HX : Hid (ks[k]? = some x) := hx
        have hlk : (ks.take k).length ≤ 1048576 := by rw [List.length_take]; omega
        have hle0 : w.heap.size + 3 ≤ wr.drew.heap.size := HLd.out.box.lt
        obtain ⟨pl, hpl⟩ : ∃ pl, (ks.take k).length = pl := ⟨_, rfl⟩
        have HPL : Hid ((ks.take k).length = pl) := hpl
        rw [hpl] at hlk HLd
        have D3 := HLd.out.box.cell 3
        have A3 := HLd.out.arg.cell 3
        simp at D3 A3
        clear hpl hvx hn hx hL hLo HKS
        go_wp2_with fail
        go_region_law (first
          | (refine step_callN (by rfl) (by go_simp; done) hC ?_; rintro e wx ⟨vx, rfl, htx, hkx⟩; obtain ⟨op5, s5, n5, ao5, l5, cp5, rfl⟩ := htx.four; refine ⟨_, rfl, ?_⟩; have Lx := HLd.out.kp hkx; have Dx := Lx.box.cell 3; have La := Lx.kp (Kept.alloc (Below.refl _ wx) (.cells #[.int .i64 op5, .string s5, .int .i64 n5, .slice ao5 l5 cp5] 26)); have Da := La.box.cell 3; have kk := hkx.trans (Kept.alloc (Below.refl _ wx) (.cells #[.int .i64 op5, .string s5, .int .i64 n5, .slice ao5 l5 cp5] 26)); obtain ⟨xs, hownx, hS0, happ⟩ := (HLd.out.tree.stay (fun b _ _ h3 => kk.block b h3)).own hle0; rw [HPL.out] at hownx happ)
          | (refine step_append_lies _ (by rfl) _ _ _ (by rfl) 0 26 i0 _ 4 56 Try.underlying24 hi hz0 hz1 hz2 rfl (by omega) (.slice va pl vc) pl xs (by rfl) hownx ⟨wx.heap.size, 0, none⟩ 1 1 [.int .i64 op5, .string s5, .int .i64 n5, .slice ao5 l5 cp5] (by rfl) (by rfl) (news_of _ _ _) (by simp [Value.oneCell']) (by omega) (by unfold maxLen; omega) (by omega) (by omega) (wx.heap.size + 1) (by simp) ?_; intro gq cg w9 hown1 hgrow hat hlt9; have b9 : Cells w9 (w.heap.size + 2) 26 #[.int .i64 op, .string s, .int .i64 n, .slice va pl vc] := (hgrow.block _ La.box.lt (fun e => by have := (hS0 _ e.symm).1; omega)).trans La.box; have dd := b9.cell 3; have ff := b9.frozen 3; have l9 := b9.lt))
        all_goals (
          go_wp2_with fail
          have hkz := hkx.size
          have key := happ w9 (.slice (some ⟨gq, 0, none⟩) (pl + 1) cg) x wr.drew.heap.size wx.heap.size w9.heap.size _ _ _ _ (Nat.le_refl _) hkz (by simp) (Nat.le_refl _) (htx.stay (fun b _ _ h3 => (Kept.alloc (Below.refl _ wx) _ : Kept wx _).block b h3)) hown1 hgrow (hat.elim .inl (fun h => .inr (by rw [h]; simp [Value.ownBlock])))
          have etk : ks.take (k + 1) = ks.take k ++ [x] := by rw [List.take_add_one, HX.out]; rfl
          have hne : ∀ j, (Value.slice va pl vc).ownBlock = some j → w.heap.size + 3 ≤ j := fun j e => (hS0 j e).1
          refine ⟨⟨k + 1, some ⟨gq, 0, none⟩, cg, by go_num, by omega, ?_⟩, by simp [intOf]; omega⟩
          rw [etk, List.length_append, HPL.out]
          refine ⟨Kept.set (Below.grown La.kept hgrow La.kept.size (fun j e => by have := hne j e; omega)) (by simp; omega) _, ?_, ?_, ?_, ?_⟩
          · exact Cells.other ((hgrow.block _ La.arg.lt (fun e => by have := hne _ e.symm; omega)).trans La.arg) (by show w.heap.size ≠ w.heap.size + 1 + 1; omega) _
          · exact Cells.other ((hgrow.block _ La.res.lt (fun e => by have := hne _ e.symm; omega)).trans La.res) (by show w.heap.size + 1 ≠ w.heap.size + 1 + 1; omega) _
          · have := b9.set 3 (.slice (some ⟨gq, 0, none⟩) (pl + 1) cg)
            simpa using this
          · refine (key.stay (fun b b1 b2 b3 => ?_)).mono (Nat.le_refl _) (by simp [World.setCell])
            exact Below.heap_setCell _ _ _ _ (by show b ≠ w.heap.size + 1 + 1; omega))
      · have q1 : ¬ (k : Int) < (ks.length : Int) := by omega
        obtain rfl : k = ks.length := by omega
        rw [List.take_length] at hLo
        have bx := hLo.box; have c0 := bx.cell 0; have c1 := bx.cell 1; have c2 := bx.cell 2; have c3 := bx.cell 3
        have rx := hLo.res; have e0 := rx.cell 0; have e1 := rx.cell 1; have e2 := rx.cell 2; have e3 := rx.cell 3; have g0 := rx.frozen 0; have g1 := rx.frozen 1; have g2 := rx.frozen 2; have g3 := rx.frozen 3
        have HLz : Hid (LocC w wr op n s ao ks.length cap (.slice va ks.length vc) ks) := hLo
        clear hL hLo
        go_wp2_with fail
        have hLo := HLz.out
        have y := hLo.res.set 0 (.int .i64 op) |>.set 1 (.string s) |>.set 2 (.int .i64 n) |>.set 3 (.slice va ks.length vc)
        have z0 := y.cell 0; have z1 := y.cell 1; have z2 := y.cell 2; have z3 := y.cell 3
        refine bodyPost_ret (v := .agg #[.int .i64 op, .string s, .int .i64 n, .slice va ks.length vc]) (by simp [results, Try.results15, go_sem, z0, z1, z2, z3]) rfl ⟨_, rfl, ?_, (((hLo.kept.set (by simp) _).set (by simp) _).set (by simp) _).set (by simp) _⟩
        refine (hLo.tree.stay (fun b b1 b2 b3 => ?_)).mono (by omega) (by simp [World.setCell])
        exact ((Stays.refl (fun b => b ≠ w.heap.size + 1) wr).set4 (by simp) _ _ _ _).block b (by omega) b3
end Go.Proofs.Ytdcjfeihcafndaa
