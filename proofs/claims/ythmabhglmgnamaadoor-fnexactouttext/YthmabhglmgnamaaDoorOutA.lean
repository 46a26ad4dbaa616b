/-
  The text of an outcome (chapter 19): impl.OutText, spec.OutText exactly.
-/
import Derived.Test.YthmabhglmgnamaaDoorFmsA
import Derived.Test.YthmabhglmgnamaaDoorFmsB
import Derived.Test.YthmabhglmgnamaaDoorSeqR
namespace Go.Proofs.YthmabhglmgnamaaDoor
open Go.RowKit
set_option linter.unusedSimpArgs false
set_option linter.unusedVariables false
/-- The names of codes. -/
def outTab : List ByteArray := [⟨#[101, 110, 100]⟩, ⟨#[116, 121, 112, 101]⟩, ⟨#[99, 97, 108, 108, 115]⟩, ⟨#[102, 117, 101, 108]⟩, ⟨#[114, 111, 111, 109]⟩, ⟨#[98, 97, 100]⟩]
theorem outTab_len : outTab.length = 6 := by decide
theorem outTab_size : ∀ e ∈ outTab, e.size ≤ 5 := by decide
def outT (c : Int) (n : Nat) : ByteArray := if 0 ≤ c ∧ c ≤ 5 then (outTab.getD c.toNat ⟨#[]⟩ ++ ⟨#[32]⟩) ++ numT (n : Nat) else ⟨#[]⟩
theorem outT_at {k : Nat} {e : ByteArray} (n : Nat) (h : outTab[k]? = some e) : outT (k : Nat) n = (e ++ ⟨#[32]⟩) ++ numT (n : Nat) := by
  have hk : k < 6 := by rw [← outTab_len]; exact (List.getElem?_eq_some_iff.1 h).1
  rw [outT, if_pos (by omega), Int.toNat_natCast, List.getD_eq_getElem?_getD, h]
  rfl
theorem outT_no {c : Int} (n : Nat) (h : c < 0 ∨ 5 < c) : outT c n = ⟨#[]⟩ := by rw [outT, if_neg (by omega)]
/-- The names lie in the variable outNames. -/
def Outs (w : World) : Prop := ∀ (k : Nat) (e : ByteArray), outTab[k]? = some e → w.cell? ⟨0, k, none⟩ = some (.string e)
theorem Outs.kept {w w' : World} (h : Outs w) (hk : Kept w w') : Outs w' := fun k e he => (hk.cell (World.block_lt_of_cell? _ _ (h k e he))).trans (h k e he)
def outC : Array Value := (outTab.map Value.string).toArray
theorem outC_cell {u : World} {g k : Nat} {e : ByteArray} (h : Cells u g 9 outC) (he : outTab[k]? = some e) : u.cell? ⟨g, k, none⟩ = some (.string e) := by
  rw [h.cell k]
  simp [outC, he]
def outsR (W : World) (B k : Nat) (ao : Option Addr) (n cap : Nat) (sb d : ByteArray) (j : Nat) (vs : Nat → Value) (u : World) : Prop :=
  match j, vs, u with
  | 0, vs, u => ∃ g, vs 0 = .slice (some ⟨g, 0, none⟩) 6 6 ∧ Cells u g 9 outC
  | 1, vs, _ => vs 1 = .pointer (some ⟨B, 0, none⟩)
  | 2, vs, _ => vs 2 = .int .i64 (k : Nat)
  | 3, vs, u => ∃ g, vs 3 = .pointer (some ⟨g, k, none⟩) ∧ Cells u g 9 outC
  | 4, vs, _ => vs 4 = .string sb
  | 5, vs, _ => vs 5 = .string (sb ++ ⟨#[32]⟩)
  | 6, vs, _ => vs 6 = .pointer (some ⟨B, 1, none⟩)
  | 7, vs, _ => vs 7 = .slice ao n cap
  | 8, vs, _ => vs 8 = .int .i64 (n : Nat)
  | 9, vs, u => vs 9 = .string d
  | 10, vs, _ => vs 10 = .string ((sb ++ ⟨#[32]⟩) ++ d)
  | _, _, _ => True
def outsT (W : World) (B k : Nat) (ao : Option Addr) (n cap : Nat) (sb d : ByteArray) : Told := ⟨outsR W B k ao n cap sb d, fun u => Kept W u⟩
theorem outsR_vs (W : World) (B k : Nat) (ao : Option Addr) (n cap : Nat) (sb d : ByteArray) {j : Nat} {vs vs' : Nat → Value} {u : World} (e : vs j = vs' j) (h : outsR W B k ao n cap sb d j vs u) : outsR W B k ao n cap sb d j vs' u := by
  match j, e, h with
  | 0, e, h => simp only [outsR] at h ⊢; rw [← e]; exact h
  | 1, e, h => simp only [outsR] at h ⊢; rw [← e]; exact h
  | 2, e, h => simp only [outsR] at h ⊢; rw [← e]; exact h
  | 3, e, h => simp only [outsR] at h ⊢; rw [← e]; exact h
  | 4, e, h => simp only [outsR] at h ⊢; rw [← e]; exact h
  | 5, e, h => simp only [outsR] at h ⊢; rw [← e]; exact h
  | 6, e, h => simp only [outsR] at h ⊢; rw [← e]; exact h
  | 7, e, h => simp only [outsR] at h ⊢; rw [← e]; exact h
  | 8, e, h => simp only [outsR] at h ⊢; rw [← e]; exact h
  | 9, e, h => simp only [outsR] at h ⊢; rw [← e]; exact h
  | 10, e, h => simp only [outsR] at h ⊢; rw [← e]; exact h
  | _ + 11, _, _ => trivial
theorem outsT_own {ops : Array Oper} (W : World) (B k : Nat) (ao : Option Addr) (n cap : Nat) (sb d : ByteArray) : (outsT W B k ao n cap sb d).own ops := fun j vs vs' u h hR => outsR_vs W B k ao n cap sb d (h j (.inl rfl)) hR
theorem outsR_kept (W : World) (B k : Nat) (ao : Option Addr) (n cap : Nat) (sb d : ByteArray) {u u' : World} (hk : Kept u u') (j : Nat) (vs : Nat → Value) (h : outsR W B k ao n cap sb d j vs u) : outsR W B k ao n cap sb d j vs u' := by
  match j, h with
  | 0, h => exact (by obtain ⟨g, h1, h2⟩ := h; exact ⟨g, h1, h2.kept hk⟩)
  | 1, h => exact h
  | 2, h => exact h
  | 3, h => exact (by obtain ⟨g, h1, h2⟩ := h; exact ⟨g, h1, h2.kept hk⟩)
  | 4, h => exact h
  | 5, h => exact h
  | 6, h => exact h
  | 7, h => exact h
  | 8, h => exact h
  | 9, h => exact (by exact h)
  | 10, h => exact h
  | _ + 11, _ => trivial
set_option maxHeartbeats 8000000 in
set_option maxRecDepth 100000 in
theorem impl_OutText_ok (w : World) (c : Int) (ao : Option Addr) (n cap : Nat) (hn : n ≤ 9223372036854775807) (hO : Outs w) (hT : Tab w) :
    Calls Tryd.prog 19 #[.agg #[.int .i64 c, .slice ao n cap]] w fun e w' => e = .returned (.string (outT c n)) ∧ Kept w w' := by
  have k0 : Kept w (w.alloc (.cells #[.int .i64 c, .slice ao n cap] 47)) := Kept.alloc (Below.refl _ _) _
  have b0 := Cells.new w 47 #[.int .i64 c, .slice ao n cap]
  have c0 := b0.cell 0
  have c1 := b0.cell 1
  by_cases h0 : c < 0
  · have HR : Hid (outT c n = ⟨#[]⟩) := outT_no n (.inl h0)
    clear hO hT
    go_enter Tryd.func19, Tryd.ntmps19
    go_wp2_with fail
    go_ret
    exact ⟨by rw [HR.out]; rfl, k0⟩
  · by_cases h1 : 5 < c
    · have HR : Hid (outT c n = ⟨#[]⟩) := outT_no n (.inr h1)
      have h2 : c ≥ 6 := by omega
      have h3 : (6 : Int) ≤ c := h2
      have h4 : decide (c < 0) = false := decide_eq_false h0
      clear hO hT
      go_enter Tryd.func19, Tryd.ntmps19
      go_wp2_with fail
      go_ret
      exact ⟨by rw [HR.out]; rfl, k0⟩
    · obtain ⟨k, rfl⟩ : ∃ k : Nat, c = k := ⟨c.toNat, by omega⟩
      have hk : k < 6 := by omega
      obtain ⟨e, he⟩ : ∃ e, outTab[k]? = some e := ⟨_, List.getElem?_eq_getElem (by rw [outTab_len]; omega)⟩
      have HR : Hid (outT (k : Nat) n = (e ++ ⟨#[32]⟩) ++ numT (n : Nat)) := outT_at n he
      have hes := outTab_size e (List.mem_of_getElem? he)
      have hzn := numT_size (n := (n : Nat)) (by omega)
      have kdd : Kept (w.alloc (.cells #[.int .i64 (k : Nat), .slice ao n cap] 47)) (w.alloc (.cells #[.int .i64 (k : Nat), .slice ao n cap] 47)).drew := (Below.refl _ _).drew
      obtain ⟨W, hW⟩ : ∃ x, w.alloc (.cells #[.int .i64 (k : Nat), .slice ao n cap] 47) = x := ⟨_, rfl⟩
      rw [hW] at k0 b0 c0 c1 kdd
      have HKD : Hid (Kept w W.drew) := k0.trans kdd
      have x0 : ∀ u, Kept W.drew u → u.cell? ⟨w.heap.size, 0, none⟩ = some (.int .i64 (k : Nat)) := fun u hu => (b0.kept (kdd.trans hu)).cell 0
      have x1 : ∀ u, Kept W.drew u → u.cell? ⟨w.heap.size, 1, none⟩ = some (.slice ao n cap) := fun u hu => (b0.kept (kdd.trans hu)).cell 1
      have y0 : ∀ u, Kept W.drew u → u.cell? ⟨0, k, none⟩ = some (.string e) := fun u hu => (hO.kept (k0.trans (kdd.trans hu))) k e he
      have HIt : Hid (∀ u, Kept W.drew u → Calls Tryd.prog 27 #[.int .i64 (n : Nat)] u fun e w' => e = .returned (.string (numT (n : Nat))) ∧ Kept u w') := fun u hu => Itoa_ok (n : Nat) (by omega) u (hT.kept (k0.trans (kdd.trans hu)))
      obtain ⟨d, hd⟩ : ∃ d, numT (n : Nat) = d := ⟨_, rfl⟩
      rw [hd] at HIt HR hzn
      have p0 : ¬ 9223372036854775807 < e.size + 1 := by omega
      have p1 : ¬ 9223372036854775807 < e.size + 1 + d.size := by omega
      have q0 : (0 : Int) ≤ (k : Int) := by omega
      have q1 : ¬ (k : Int) < 0 := by omega
      have q2 : (k : Int) < 6 := by omega
      have q3 : ¬ (k : Int) ≥ 6 := by omega
      have q4 : ¬ (6 : Int) ≤ (k : Int) := by omega
      clear h0 h1 hes hzn he hd hO hT k0 b0 kdd
      go_enter Tryd.func19, Tryd.ntmps19
      go_wp2_with fail
      try simp only [hW]
      refine wp_region_seqL (by kernel_rfl) (by kernel_rfl) ?_
      repeat (first
        | (refine SeqL.skip (by rfl) ?_; simp only [Act.put, List.setIfInBounds_toArray, List.set_cons_zero, List.set_cons_succ])
        | (refine SeqL.pure ?_ (by rfl) ?_ ?_; rotate_left; (focus (intro u hu; have x0' := x0 u hu; have x1' := x1 u hu; have y0' := y0 u hu; go_simp; first | done | exact rfl)); simp only [Act.put, List.setIfInBounds_toArray, List.set_cons_zero, List.set_cons_succ])
        | (refine SeqL.call _ _ _ (by rfl) ?_ HIt.out ?_; (focus (intro u; go_simp; done)); simp only [Act.put, List.setIfInBounds_toArray, List.set_cons_zero, List.set_cons_succ]))
      refine SeqL.nil ?_
      intro u hu
      go_simp
      go_wp2_with fail
      go_ret
      exact ⟨by rw [HR.out]; rfl, Kept.trans HKD.out hu⟩
set_option maxHeartbeats 8000000 in
set_option maxRecDepth 100000 in
theorem spec_OutText_ok (w : World) (c : Int) (ao : Option Addr) (n cap : Nat) (hn : n ≤ 9223372036854775807) :
    Calls Tryd.prog 17 #[.agg #[.int .i64 c, .slice ao n cap]] w fun e w' => e = .returned (.string (outT c n)) ∧ Kept w w' := by
  have k0 : Kept w (w.alloc (.cells #[.int .i64 c, .slice ao n cap] 47)) := Kept.alloc (Below.refl _ _) _
  have b0 := Cells.new w 47 #[.int .i64 c, .slice ao n cap]
  have c0 := b0.cell 0
  have c1 := b0.cell 1
  by_cases h : 0 ≤ c ∧ c ≤ 5
  · obtain ⟨k, rfl⟩ : ∃ k : Nat, c = k := ⟨c.toNat, by omega⟩
    have hk : k < 6 := by omega
    obtain ⟨sb, he⟩ : ∃ sb, outTab[k]? = some sb := ⟨_, List.getElem?_eq_getElem (by rw [outTab_len]; omega)⟩
    have HR : Hid (outT (k : Nat) n = (sb ++ ⟨#[32]⟩) ++ numT (n : Nat)) := outT_at n he
    have hes := outTab_size sb (List.mem_of_getElem? he)
    have hzn := numT_size (n := (n : Nat)) (by omega)
    have HE : Hid (outTab[k]? = some sb) := he
    have hIn := l1InS_yes (k : Nat) 0 5 (w.alloc (.cells #[.int .i64 (k : Nat), .slice ao n cap] 47)) h.1 h.2
    have kdd : Kept (w.alloc (.cells #[.int .i64 (k : Nat), .slice ao n cap] 47)) (w.alloc (.cells #[.int .i64 (k : Nat), .slice ao n cap] 47)).drew := (Below.refl _ _).drew
    obtain ⟨WA, hWA⟩ : ∃ x, w.alloc (.cells #[.int .i64 (k : Nat), .slice ao n cap] 47) = x := ⟨_, rfl⟩
    rw [hWA] at k0 b0 c0 c1 kdd hIn
    have HKD : Hid (Kept w WA.drew) := k0.trans kdd
    have HS : Hid (∀ u, Kept WA.drew u → u.cell? ⟨w.heap.size, 0, none⟩ = some (.int .i64 (k : Nat)) ∧ u.cell? ⟨w.heap.size, 1, none⟩ = some (.slice ao n cap)) := fun u hu => ⟨(b0.kept (kdd.trans hu)).cell 0, (b0.kept (kdd.trans hu)).cell 1⟩
    have hDg := fun (u : World) => l7Digits_ok u (n : Nat) (by omega)
    have HD : Hid (∀ u, Calls Tryd.prog 22 #[.int .i64 (n : Nat)] u fun e w' => e = .returned (.string (numT (n : Nat))) ∧ Kept u w') := hDg
    obtain ⟨d, hd⟩ : ∃ d, numT (n : Nat) = d := ⟨_, rfl⟩
    rw [hd] at HD HR hzn
    have HP : Hid (¬ 9223372036854775807 < sb.size + 1 ∧ ¬ 9223372036854775807 < sb.size + 1 + d.size) := ⟨by omega, by omega⟩
    have HQK : Hid ((k : Int) < 6) := by rw [Hid]; omega
    clear h hes hzn he hd k0 b0 kdd hDg
    go_enter Tryd.func17, Tryd.ntmps17
    go_wp2_with fail
    try simp only [hWA]
    refine hIn.mono ?_
    rintro e1 w1 ⟨rfl, rfl⟩
    go_wp2_with fail
    refine wp_region_told 11 (outsT w1.drew w.heap.size k ao n cap sb d) (fun _ _ => false) (by kernel_rfl) (by kernel_rfl) (by decide) (by kernel_rfl) (by kernel_rfl) (outsT_own _ _ _ _ _ _ _ _) (Below.refl _ _) ?_ ?_
    · intro i hi vs
      rcases (show i = 0 ∨ i = 1 ∨ i = 2 ∨ i = 3 ∨ i = 4 ∨ i = 5 ∨ i = 6 ∨ i = 7 ∨ i = 8 ∨ i = 9 ∨ i = 10 by omega) with rfl | rfl | rfl | rfl | rfl | rfl | rfl | rfl | rfl | rfl | rfl
      · refine ⟨_, rfl, fun u hu hd => ?_⟩
        refine .inl ⟨.slice (some ⟨u.heap.size, 0, none⟩) 6 6, u.alloc (.cells outC 9), ?_, Kept.alloc hu _, ⟨u.heap.size, by simp [vsX], Cells.new _ _ _⟩, (fun j _ _ _ h => outsR_kept w1.drew w.heap.size k ao n cap sb d (Kept.alloc (Below.refl _ _) _) j vs h)⟩
        simp only [frR, dstAt, List.getElem?_toArray, List.getElem?_cons_zero, List.getElem?_cons_succ, Option.bind_some, Act.put, List.setIfInBounds_toArray, List.set_cons_zero, List.set_cons_succ]; go_simp; first | done | exact rfl
      · refine ⟨_, rfl, fun u hu hd => .inl ⟨.pointer (some ⟨w.heap.size, 0, none⟩), u, ?_, hu, by simp [outsT, outsR, vsX], (fun j _ _ _ h => h)⟩⟩
        simp only [frR, dstAt, List.getElem?_toArray, List.getElem?_cons_zero, List.getElem?_cons_succ, Option.bind_some, Act.put, List.setIfInBounds_toArray, List.set_cons_zero, List.set_cons_succ]; go_simp; first | done | exact rfl
      · refine ⟨_, rfl, fun u hu hd => .inl ⟨.int .i64 (k : Nat), u, ?_, hu, by simp [outsT, outsR, vsX], (fun j _ _ _ h => h)⟩⟩
        have e1 : vs 1 = .pointer (some ⟨w.heap.size, 0, none⟩) := hd 1 (by kernel_rfl)
        obtain ⟨m0, m1⟩ := HS.out u hu
        simp only [frR, dstAt, List.getElem?_toArray, List.getElem?_cons_zero, List.getElem?_cons_succ, Option.bind_some, Act.put, List.setIfInBounds_toArray, List.set_cons_zero, List.set_cons_succ]; simp only [e1]; go_simp; first | done | exact rfl
      · refine ⟨_, rfl, fun u hu hd => ?_⟩
        obtain ⟨g, e0, h0⟩ : ∃ g, vs 0 = .slice (some ⟨g, 0, none⟩) 6 6 ∧ Cells u g 9 outC := hd 0 (by kernel_rfl)
        have e2 : vs 2 = .int .i64 (k : Nat) := hd 2 (by kernel_rfl)
        have qk := HQK.out
        refine .inl ⟨.pointer (some ⟨g, k, none⟩), u, ?_, hu, ⟨g, by simp [vsX], h0⟩, (fun j _ _ _ h => h)⟩
        simp only [frR, dstAt, List.getElem?_toArray, List.getElem?_cons_zero, List.getElem?_cons_succ, Option.bind_some, Act.put, List.setIfInBounds_toArray, List.set_cons_zero, List.set_cons_succ]; simp only [e0, e2]; go_simp; first | done | exact rfl
      · refine ⟨_, rfl, fun u hu hd => ?_⟩
        obtain ⟨g, e3, h3⟩ : ∃ g, vs 3 = .pointer (some ⟨g, k, none⟩) ∧ Cells u g 9 outC := hd 3 (by kernel_rfl)
        have ck := outC_cell h3 HE.out
        refine .inl ⟨.string sb, u, ?_, hu, by simp [outsT, outsR, vsX], (fun j _ _ _ h => h)⟩
        simp only [frR, dstAt, List.getElem?_toArray, List.getElem?_cons_zero, List.getElem?_cons_succ, Option.bind_some, Act.put, List.setIfInBounds_toArray, List.set_cons_zero, List.set_cons_succ]; simp only [e3]; go_simp; first | done | exact rfl
      · refine ⟨_, rfl, fun u hu hd => .inl ⟨.string (sb ++ ⟨#[32]⟩), u, ?_, hu, by simp [outsT, outsR, vsX], (fun j _ _ _ h => h)⟩⟩
        have e4 : vs 4 = .string sb := hd 4 (by kernel_rfl)
        have p0 := HP.out.1
        simp only [frR, dstAt, List.getElem?_toArray, List.getElem?_cons_zero, List.getElem?_cons_succ, Option.bind_some, Act.put, List.setIfInBounds_toArray, List.set_cons_zero, List.set_cons_succ]; simp only [e4]; go_simp; first | done | exact rfl
      · refine ⟨_, rfl, fun u hu hd => .inl ⟨.pointer (some ⟨w.heap.size, 1, none⟩), u, ?_, hu, by simp [outsT, outsR, vsX], (fun j _ _ _ h => h)⟩⟩
        simp only [frR, dstAt, List.getElem?_toArray, List.getElem?_cons_zero, List.getElem?_cons_succ, Option.bind_some, Act.put, List.setIfInBounds_toArray, List.set_cons_zero, List.set_cons_succ]; go_simp; first | done | exact rfl
      · refine ⟨_, rfl, fun u hu hd => .inl ⟨.slice ao n cap, u, ?_, hu, by simp [outsT, outsR, vsX], (fun j _ _ _ h => h)⟩⟩
        have e6 : vs 6 = .pointer (some ⟨w.heap.size, 1, none⟩) := hd 6 (by kernel_rfl)
        obtain ⟨m0, m1⟩ := HS.out u hu
        simp only [frR, dstAt, List.getElem?_toArray, List.getElem?_cons_zero, List.getElem?_cons_succ, Option.bind_some, Act.put, List.setIfInBounds_toArray, List.set_cons_zero, List.set_cons_succ]; simp only [e6]; go_simp; first | done | exact rfl
      · refine ⟨_, rfl, fun u hu hd => .inl ⟨.int .i64 (n : Nat), u, ?_, hu, by simp [outsT, outsR, vsX], (fun j _ _ _ h => h)⟩⟩
        have e7 : vs 7 = .slice ao n cap := hd 7 (by kernel_rfl)
        simp only [frR, dstAt, List.getElem?_toArray, List.getElem?_cons_zero, List.getElem?_cons_succ, Option.bind_some, Act.put, List.setIfInBounds_toArray, List.set_cons_zero, List.set_cons_succ]; simp only [e7]; go_simp; first | done | exact rfl
      · refine ⟨_, rfl, fun u hu hd => .inr (.inl ⟨22, #[.int .i64 (n : Nat)], ?_, ?_⟩)⟩
        · have e8 : vs 8 = .int .i64 (n : Nat) := hd 8 (by kernel_rfl)
          simp only [frR, dstAt, List.getElem?_toArray, List.getElem?_cons_zero, List.getElem?_cons_succ, Option.bind_some, Act.put, List.setIfInBounds_toArray, List.set_cons_zero, List.set_cons_succ]; simp only [e8]; go_simp; first | done | exact rfl
        · refine (HD.out u).mono ?_
          rintro e' w2 ⟨rfl, hk2⟩
          exact ⟨_, rfl, hu.trans hk2, (by simp [outsT, outsR, vsX]), (fun j _ _ _ h => outsR_kept w1.drew w.heap.size k ao n cap sb d hk2 j vs h)⟩
      · refine ⟨_, rfl, fun u hu hd => .inl ⟨.string ((sb ++ ⟨#[32]⟩) ++ d), u, ?_, hu, by simp [outsT, outsR, vsX], (fun j _ _ _ h => h)⟩⟩
        have e5 : vs 5 = .string (sb ++ ⟨#[32]⟩) := hd 5 (by kernel_rfl)
        have e9 : vs 9 = .string d := hd 9 (by kernel_rfl)
        have p1 := HP.out.2
        simp only [frR, dstAt, List.getElem?_toArray, List.getElem?_cons_zero, List.getElem?_cons_succ, Option.bind_some, Act.put, List.setIfInBounds_toArray, List.set_cons_zero, List.set_cons_succ]; simp only [e5, e9]; go_simp; first | done | exact rfl
    · intro vs u hu
      simp only [List.drop_succ_cons, List.drop_zero, seqWp]
      simp only [frR, dstAt, List.getElem?_toArray, List.getElem?_cons_zero, List.getElem?_cons_succ, Option.bind_some, Act.put, List.setIfInBounds_toArray, List.set_cons_zero, List.set_cons_succ]
      intro hR
      have e10 : vs 10 = .string ((sb ++ ⟨#[32]⟩) ++ d) := hR 10 (by decide) (fun _ _ => by trivial)
      have HU : Hid (Kept w1.drew u) := hu
      clear hR hu
      unfold Oper.wp
      simp only [e10]
      go_simp
      go_wp2_with fail
      go_ret
      exact ⟨by rw [HR.out]; rfl, Kept.trans HKD.out HU.out⟩
  · have HR : Hid (outT c n = ⟨#[]⟩) := outT_no n (by omega)
    have hIn := l1InS_no c 0 5 (w.alloc (.cells #[.int .i64 c, .slice ao n cap] 47)) (by omega)
    clear h
    go_enter Tryd.func17, Tryd.ntmps17
    go_wp2_with (go_at_call 40; refine hIn.mono ?_; rintro e1 w1 ⟨rfl, rfl⟩)
    go_ret
    exact ⟨by rw [HR.out]; rfl, k0⟩
end Go.Proofs.YthmabhglmgnamaaDoor
