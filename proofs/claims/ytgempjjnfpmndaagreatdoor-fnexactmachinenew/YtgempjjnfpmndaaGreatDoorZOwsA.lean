/-
  Rows of texts of one's own: slices.Clone of texts, and the laws' marks of them.
-/
import Derived.Maps.AppendAt
import Derived.Laws.AppendOwnNone
import Derived.Deep.RegionWith
import Derived.Deep.CutRange
import Derived.WalkKit
import Derived.Test.YtgempjjnfpmndaaGreatDoorFndB
import Derived.Test.YtgempjjnfpmndaaGreatDoorGrqTr
import Derived.Test.YtgempjjnfpmndaaGreatDoorHelpO
import Derived.Test.YtgempjjnfpmndaaGreatDoorSeq
namespace Go.Proofs.YtgempjjnfpmndaaGreatDoor
open Go.RowKit
set_option linter.unusedSimpArgs false
set_option linter.unusedVariables false
attribute [local go_sem] Plain.and7
/-- The texts ts lie in a row that is one's own. -/
def OwnS (W : World) (base : Nat) (v : Value) (ts : List ByteArray) : Prop := W.ownsRow base 9 1 v ts.length (ts.map Value.string)
theorem OwnS.kept {W W' : World} {base : Nat} {v : Value} {ts : List ByteArray} (h : OwnS W base v ts) (hk : Kept W W') : OwnS W' base v ts := World.ownsRow.kept h hk.grown (by cases e : v.ownBlock <;> simp)
theorem OwnS.block {W : World} {base : Nat} {v : Value} {ts : List ByteArray} (h : OwnS W base v ts) : ∀ j, v.ownBlock = some j → base ≤ j ∧ j < W.heap.size := by
  intro j hj
  rcases h.2 with ⟨rfl, _⟩ | ⟨g, cap, cur, rfl, hb, hg, _⟩
  · simp [Value.ownBlock] at hj
  · simp [Value.ownBlock] at hj
    subst hj
    exact ⟨hb, (Array.getElem?_eq_some_iff.1 hg).1⟩
theorem OwnS.at {W : World} {base : Nat} {v : Value} {ts : List ByteArray} (h : OwnS W base v ts) : ∃ ao cap, v = .slice ao ts.length cap ∧ StA W ao ts := by
  have h' := h
  rcases h.2 with ⟨rfl, hn⟩ | ⟨g, cap, cur, rfl, hb, hg, h1, _⟩
  · exact ⟨none, 0, by rw [hn], fun j t ht => by rw [List.length_eq_zero_iff.1 hn] at ht; simp at ht⟩
  · refine ⟨_, cap, rfl, fun j t ht => ⟨g, 0, rfl, ?_⟩⟩
    have h3 := World.ownsRow.cells h' (g := g) rfl j (.string t) (by rw [List.getElem?_map, ht]; rfl)
    rw [show (⟨g, 0, none⟩ : Addr).add j = ⟨g, 0 + j, none⟩ by unfold Addr.add; split <;> simp_all] at h3
    exact h3
theorem OwnS.stA {W : World} {base c : Nat} {ao : Option Addr} {ts : List ByteArray} (h : OwnS W base (.slice ao ts.length c) ts) : StA W ao ts := by
  obtain ⟨ao', cap, e, hI⟩ := h.at
  cases e
  exact hI
theorem OwnS.other {W W' : World} {base : Nat} {row : Option Nat} {v : Value} {ts : List ByteArray} (h : OwnS W base v ts) (hk : W.grownBy W' row) (hne : ∀ k, row = some k → ∀ j, v.ownBlock = some j → k ≠ j) : OwnS W' base v ts := by
  refine World.ownsRow.kept h hk ?_
  cases hv : v.ownBlock with
  | none => exact .inl rfl
  | some j => exact .inr (fun e => hne j e.symm j hv rfl)
theorem OwnS.tr {lo hi : Nat} {W W' : World} {base : Nat} {v : Value} {ts : List ByteArray} (h : OwnS W base v ts) (k : Tr lo hi W W') (hne : ∀ j, v.ownBlock = some j → ¬ (lo ≤ j ∧ j < hi)) : OwnS W' base v ts := by
  refine ⟨h.1, ?_⟩
  rcases h.2 with h2 | ⟨g, cap, cur, rfl, hb, hg, r⟩
  · exact .inl h2
  · exact .inr ⟨g, cap, cur, rfl, hb, (k.block g (Array.getElem?_eq_some_iff.1 hg).1 (hne g rfl)).trans hg, r⟩
theorem StA.news {w : World} {ad : Addr} {ts : List ByteArray} (h : StA w (some ad) ts) : ∀ (j : Nat) (u : Value), (ts.map Value.string)[j]? = some u → w.cell? (ad.add j) = some u := by
  intro j u hu
  rw [List.getElem?_map] at hu
  cases ht : ts[j]? with
  | none => rw [ht] at hu; cases hu
  | some t =>
    rw [ht] at hu
    simp only [Option.map_some, Option.some.injEq] at hu
    obtain ⟨b, off, e, hc⟩ := h j t ht
    cases e
    rw [Addr.add_lit, hc, ← hu]
theorem run_eql_strs_nil (W : World) (a : Option Addr) (l c : Nat) : (binOp .eql 23 (.slice a l c) (.slice none 0 0)).run Tryz.prog W = .ok (.bool a.isNone) W := by
  simp [binOp, run_equal_slice_nil (P := Tryz.prog) W 23 9 a l c Tryz.underlying23]
attribute [local go_sem] run_eql_strs_nil
set_option maxHeartbeats 8000000 in
set_option maxRecDepth 100000 in
theorem cloneS_ok (w : World) (ad : Addr) (cap : Nat) (ts : List ByteArray) (hI : StA w (some ad) ts) (hl : ts.length ≤ 1048576) :
    Calls Tryz.prog 109 #[.slice (some ad) ts.length cap] w fun e w' => ∃ v, e = .returned v ∧ OwnS w' w.heap.size v ts ∧ Kept w w' := by
  obtain ⟨i0, hi, hz0, hz1, hz2⟩ := info_parts infoStr
  have hrow : (w.alloc (.cells #[] 9)).ownsRow w.heap.size 9 1 (.slice (some ⟨w.heap.size, 0, none⟩) 0 0) 0 [] := ⟨rfl, .inr ⟨w.heap.size, 0, #[], rfl, Nat.le_refl _, heap_alloc_new w _, Nat.le_refl _, by unfold maxLen; omega, rfl, rfl⟩⟩
  have hcell := (hI.kept (Kept.alloc (Below.refl _ w) (.cells #[] 9))).news
  clear hI
  go_enter Tryz.func109, Tryz.ntmps109
  go_wp2_with (at_builtin; refine wpList_append_own _ rfl _ _ 23 rfl w.heap.size 9 i0 (.string ⟨#[]⟩) 1 16 Tryz.underlying23 hi hz0 hz1 hz2 rfl (by decide) _ _ _ rfl hrow ad ts.length cap (ts.map Value.string) rfl (by simp) hcell (by intro u hu; obtain ⟨z, _, rfl⟩ := List.mem_map.1 hu; rfl) (by unfold maxLen; omega) (by omega) (by simp) ?_; intro v' w5 hown' hgrow _)
  go_ret
  refine ⟨_, rfl, by simpa [OwnS] using hown', ?_⟩
  exact (Kept.alloc (Below.refl _ w) (.cells #[] 9)).grownRow hgrow (fun j ej => (hrow.lt j ej).1)
def marksS (n : Nat) : List ByteArray := (List.range n).map (fun i => mkM (i + 1))
theorem marksS_len (n : Nat) : (marksS n).length = n := by simp [marksS]
theorem marksS_at {n j : Nat} (h : j < n) : (marksS n)[j]? = some (mkM (j + 1)) := by simp [marksS, h]
def mixS (ts : List ByteArray) (k : Nat) : List ByteArray := marksS k ++ ts.drop k
theorem mixS_len {ts : List ByteArray} {k : Nat} (h : k ≤ ts.length) : (mixS ts k).length = ts.length := by simp [mixS, marksS_len]; omega
theorem mixS_zero (ts : List ByteArray) : mixS ts 0 = ts := by simp [mixS, marksS]
theorem mixS_all (ts : List ByteArray) : mixS ts ts.length = marksS ts.length := by simp [mixS]
theorem mixS_succ {ts : List ByteArray} {k : Nat} (h : k < ts.length) : (mixS ts k).set k (mkM (k + 1)) = mixS ts (k + 1) := by
  apply List.ext_getElem?
  intro j
  rw [List.getElem?_set, mixS_len (by omega)]
  unfold mixS
  by_cases e : k = j
  · subst e
    rw [if_pos rfl, if_pos h, List.getElem?_append_left (by rw [marksS_len]; omega), marksS_at (by omega)]
  · rw [if_neg e]
    by_cases h2 : j < k
    · rw [List.getElem?_append_left (by rw [marksS_len]; omega), List.getElem?_append_left (by rw [marksS_len]; omega), marksS_at h2, marksS_at (by omega)]
    · rw [List.getElem?_append_right (by rw [marksS_len]; omega), List.getElem?_append_right (by rw [marksS_len]; omega), marksS_len, marksS_len, List.getElem?_drop, List.getElem?_drop]
      rw [show k + (j - k) = j by omega, show k + 1 + (j - (k + 1)) = j by omega]
/-- The texts ts stand at the head of the block g. -/
def RowSt (W : World) (g : Nat) (ts : List ByteArray) : Prop := ∃ cur : Array Value, W.heap[g]? = some (.cells cur 9 (0, 0)) ∧ ts.length ≤ cur.size ∧ ∀ (j : Nat) (t : ByteArray), ts[j]? = some t → cur[j]? = some (Value.string t)
theorem RowSt.lt {W : World} {g : Nat} {ts : List ByteArray} (h : RowSt W g ts) : g < W.heap.size := by
  obtain ⟨_, h, _⟩ := h
  exact (Array.getElem?_eq_some_iff.1 h).1
theorem RowSt.kept {W W' : World} {g : Nat} {ts : List ByteArray} (h : RowSt W g ts) (hk : Kept W W') : RowSt W' g ts := by
  have hlt := h.lt
  obtain ⟨cur, h1, h2⟩ := h
  exact ⟨cur, (hk.block g hlt).trans h1, h2⟩
theorem RowSt.stA {W : World} {g : Nat} {ts : List ByteArray} (h : RowSt W g ts) : StA W (some ⟨g, 0, none⟩) ts := by
  obtain ⟨cur, h1, _, h3⟩ := h
  exact fun j t ht => ⟨g, 0, rfl, by simp [World.cell?, h1, h3 j t ht]⟩
theorem RowSt.there {W : World} {g j : Nat} {ts : List ByteArray} (h : RowSt W g ts) (hj : j < ts.length) : (∃ t, W.cell? ⟨g, j, none⟩ = some (.string t)) ∧ W.frozen? ⟨g, j, none⟩ = false := by
  obtain ⟨cur, h1, _, h3⟩ := h
  refine ⟨⟨ts[j], ?_⟩, ?_⟩
  · have := h3 j ts[j] (List.getElem?_eq_getElem hj)
    simp [World.cell?, h1, this]
  · simp [World.frozen?, h1]
theorem RowSt.set {W : World} {g k : Nat} {ts : List ByteArray} (h : RowSt W g ts) (hk : k < ts.length) (t : ByteArray) : RowSt (W.setCell ⟨g, k, none⟩ (.string t)) g (ts.set k t) := by
  obtain ⟨cur, h1, h2, h3⟩ := h
  refine ⟨cur.setIfInBounds k (.string t), Cells.set k (.string t) h1, by simpa using h2, fun j u hu => ?_⟩
  rw [List.getElem?_set] at hu
  rw [Array.getElem?_setIfInBounds]
  by_cases e : k = j
  · subst e
    rw [if_pos rfl, if_pos hk] at hu
    cases hu
    rw [if_pos rfl, if_pos (by omega)]
  · rw [if_neg e] at hu ⊢
    exact h3 j u hu
set_option maxHeartbeats 4000000 in
set_option maxRecDepth 100000 in
theorem markRowS_ok (w : World) (g cap : Nat) (ts : List ByteArray) (hR : RowSt w g ts) (hl : ts.length ≤ 1048576) :
    Calls Tryz.prog 59 #[.slice (some ⟨g, 0, none⟩) ts.length cap, .int .i64 1] w fun e w' => e = .returned (.int .i64 ((ts.length : Int) + 1)) ∧ RowSt w' g (marksS ts.length) ∧ w.grownBy w' (some g) := by
  go_enter Tryz.func59, Tryz.ntmps59
  go_wp2_with fail
  go_loopw [1, 5] (fun m i wr => ∃ k : Nat, i = .int .i64 k ∧ m = .int .i64 ((k : Int) + 1) ∧ k ≤ ts.length ∧ RowSt wr g (mixS ts k) ∧ w.grownBy wr (some g)) (fun _ i _ => ts.length - (intOf i).toNat)
  case atStart => exact ⟨0, rfl, rfl, Nat.zero_le _, by rw [mixS_zero]; exact hR, World.grownBy.refl _ _⟩
  case round =>
    obtain ⟨k, rfl, rfl, hk, hrow, hG⟩ := hrel
    have HG : Hid _ := hG
    have HRw : Hid _ := hrow
    clear hG hrow
    by_cases hlt : k < ts.length
    · have q1 : (k : Int) < (ts.length : Int) := by omega
      have q0 : (0 : Int) ≤ (k : Int) := by omega
      have hM : ∀ u, Calls Tryz.prog 113 #[.int .i64 ((k : Int) + 1)] u fun e w' => e = .returned (.string (mkM (k + 1))) ∧ Kept u w' := fun u => markTextN_ok u (k + 1) (by omega) (by omega)
      have HM : Hid _ := hM
      clear hM
      go_wp2_with (go_at_call 113; refine (HM.out _).mono ?_; rintro e w1 ⟨rfl, hk1⟩; have R1 := RowSt.kept HRw.out hk1; obtain ⟨⟨t1, c1⟩, f1⟩ := R1.there (j := k) (by rw [mixS_len (by omega)]; exact hlt))
      go_roundw
      case rel => exact ⟨k + 1, by go_num, by go_num, by omega, by rw [← mixS_succ hlt]; exact R1.set (by rw [mixS_len (by omega)]; exact hlt) _, grown_set (grown_kept HG.out hk1) _⟩
      case measure => simp [intOf]; omega
    · obtain rfl : k = ts.length := by omega
      go_wp2
      go_ret
      exact ⟨rfl, by rw [← mixS_all]; exact HRw.out, HG.out⟩
theorem markNilS_ok (w : World) (ao : Option Addr) (cap : Nat) :
    Calls Tryz.prog 59 #[.slice ao 0 cap, .int .i64 1] w fun e w' => e = .returned (.int .i64 1) ∧ w = w' := by
  go_enter Tryz.func59, Tryz.ntmps59
  go_wp2_with fail
  go_loopw [1, 5] (fun m i wr => i = .int .i64 0 ∧ m = .int .i64 1 ∧ w = wr) (fun _ _ _ => 0)
  case atStart => exact ⟨rfl, rfl, rfl⟩
  case round =>
    obtain ⟨rfl, rfl, rfl⟩ := hrel
    go_wp2
    go_ret
    exact ⟨rfl, rfl⟩
theorem markOwnS_ok (w : World) (base : Nat) (v : Value) (ts : List ByteArray) (hO : OwnS w base v ts) (hl : ts.length ≤ 1048576) :
    Calls Tryz.prog 59 #[v, .int .i64 1] w fun e w' => e = .returned (.int .i64 ((ts.length : Int) + 1)) ∧ (∃ ao cap, v = .slice ao ts.length cap ∧ StA w' ao (marksS ts.length)) ∧ w.grownBy w' v.ownBlock := by
  have h' := hO
  rcases hO.2 with ⟨rfl, hn⟩ | ⟨g, cap, cur, rfl, hb, hg, h1, _, h3, h4⟩
  · rw [hn]
    refine (markNilS_ok w none 0).mono ?_
    rintro e w' ⟨rfl, rfl⟩
    exact ⟨rfl, ⟨none, 0, rfl, fun j t ht => by simp [marksS] at ht⟩, World.grownBy.refl _ _⟩
  · have hR : RowSt w g ts := ⟨cur, hg, by omega, fun j t ht => by
      obtain ⟨hj, e⟩ := List.getElem?_eq_some_iff.1 ht
      have e2 : (cur.toList.take (ts.length * 1))[j]? = some (.string t) := by rw [h4, List.getElem?_map, ht]; rfl
      rw [List.getElem?_take, if_pos (by omega)] at e2
      simpa using e2⟩
    refine (markRowS_ok w g cap ts hR hl).mono ?_
    rintro e w' ⟨rfl, hR', hG⟩
    exact ⟨rfl, ⟨_, cap, rfl, hR'.stA⟩, hG⟩
set_option maxHeartbeats 4000000 in
set_option maxRecDepth 100000 in
theorem heldOwnS_ok (w : World) (ao : Option Addr) (cap n : Nat) (hA : StA w ao (marksS n)) (hl : n ≤ 1048576) :
    Calls Tryz.prog 69 #[.slice ao n cap, .int .i64 1] w fun e w' => e = .returned (.int .i64 ((n : Int) + 1)) ∧ Kept w w' := by
  have HA : Hid _ := hA
  clear hA
  go_enter Tryz.func69, Tryz.ntmps69
  go_wp2_with fail
  go_loopw [1, 5] (fun m i wr => ∃ k : Nat, i = .int .i64 k ∧ m = .int .i64 ((k : Int) + 1) ∧ k ≤ n ∧ Kept w wr) (fun _ i _ => n - (intOf i).toNat)
  case atStart => exact ⟨0, rfl, rfl, Nat.zero_le _, Below.refl _ _⟩
  case round =>
    obtain ⟨k, rfl, rfl, hk, hK⟩ := hrel
    have HK : Hid _ := hK
    by_cases hlt : k < n
    · obtain ⟨b, off, rfl, hc⟩ := (StA.kept HA.out hK) k _ (marksS_at hlt)
      have q1 : (k : Int) < (n : Int) := by omega
      have q0 : (0 : Int) ≤ (k : Int) := by omega
      obtain ⟨T, hT⟩ : ∃ T, mkM (k + 1) = T := ⟨_, rfl⟩
      rw [hT] at hc
      have C1 : Hid (∀ u, Kept wr.drew u → Calls Tryz.prog 113 #[.int .i64 ((k : Int) + 1)] u fun e w' => e = .returned (.string T) ∧ Kept u w') := fun u _ => by rw [← hT]; exact markTextN_ok u (k + 1) (by omega) (by omega)
      have hbl := World.block_lt_of_cell? _ _ hc
      have y0 : ∀ u, Kept wr.drew u → u.cell? ⟨b, off + k, none⟩ = some (.string T) := fun u hu => ((Kept.trans (Below.refl _ wr).drew hu).cell (p := ⟨b, off + k, none⟩) hbl).trans hc
      clear hT hK hc
      go_wp2_with fail
      refine wp_region_seqL (by kernel_rfl) (by kernel_rfl) ?_
      repeat (first
        | (refine SeqL.skip (by rfl) ?_; simp only [Act.put, List.setIfInBounds_toArray, List.set_cons_zero, List.set_cons_succ])
        | (refine SeqL.pure ?_ (by rfl) ?_ ?_; rotate_left; (focus (intro u hu; have y0' := y0 u hu; go_simp; first | done | exact rfl)); simp only [Act.put, List.setIfInBounds_toArray, List.set_cons_zero, List.set_cons_succ])
        | (refine SeqL.call _ _ _ (by rfl) ?_ C1.out ?_; (focus (intro u; go_simp; done)); simp only [Act.put, List.setIfInBounds_toArray, List.set_cons_zero, List.set_cons_succ]))
      refine SeqL.nil ?_
      intro w2 hu2
      have k2 := Kept.trans HK.out (Kept.trans (Below.refl _ wr).drew hu2)
      clear y0 C1 hu2
      go_wp2_with fail
      go_roundw
      case rel => exact ⟨k + 1, by go_num, by go_num, by omega, k2⟩
      case measure => simp [intOf]; omega
    · obtain rfl : k = n := by omega
      clear hK
      go_wp2
      go_ret
      exact ⟨rfl, HK.out⟩
end Go.Proofs.YtgempjjnfpmndaaGreatDoor
