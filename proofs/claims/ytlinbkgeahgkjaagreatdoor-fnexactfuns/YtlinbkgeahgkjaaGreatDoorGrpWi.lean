/-
  What is within a node, from the left, but not in a function in it (chapter 14): pure; nodes that are still to come, as pointers.
  The contracts of allKids, withAhead, within (chapter 14).
-/
import Derived.Deep.AppendLies
import Derived.Maps.AppendAt
import Derived.Maps.Range
import Derived.Test.YtlinbkgeahgkjaaGreatDoorGrpNu
namespace Go.Proofs.YtlinbkgeahgkjaaGreatDoor
open Go.RowKit

mutual
/-- A node, and what is gone to behind it. -/
def wiK : Nd → List Nd
  | .mk op s n ks => .mk op s n ks :: (if op = 27 then [] else wisK ks)
def wisK : List Nd → List Nd
  | [] => []
  | k :: ks => wiK k ++ wisK ks
end
theorem wisK_app (a b : List Nd) : wisK (a ++ b) = wisK a ++ wisK b := by
  induction a with
  | nil => rfl
  | cons x a ih => simp only [List.cons_append, wisK, ih, List.append_assoc]
/-- A node and where it lies. -/
abbrev Itm := Nd × Addr
/-- What is still to come of nodes that stand from the last one to the next one. -/
def pendK (it : List Itm) : List Nd := wisK (it.reverse.map (·.1))
theorem pendK_pop (it : List Itm) (x : Itm) : pendK (it ++ [x]) = wiK x.1 ++ pendK it := by
  simp only [pendK, List.reverse_append, List.reverse_cons, List.reverse_nil, List.nil_append, List.cons_append, List.map_cons, wisK]
theorem pendK_push (it js : List Itm) : pendK (it ++ js.reverse) = wisK (js.map (·.1)) ++ pendK it := by
  simp only [pendK, List.reverse_append, List.reverse_reverse, List.map_append, wisK_app]
theorem pendK_nil : pendK [] = [] := rfl
/-- The kids in a row, each with its place. -/
def kidI (b off : Nat) : List Nd → Nat → List Itm
  | [], _ => []
  | t :: ks, k => (t, ⟨b, off + k * 4, none⟩) :: kidI b off ks (k + 1)
theorem kidI_len (b off : Nat) (ks : List Nd) (k : Nat) : (kidI b off ks k).length = ks.length := by
  induction ks generalizing k with
  | nil => rfl
  | cons t ks ih => simp [kidI, ih]
theorem kidI_map (b off : Nat) (ks : List Nd) (k : Nat) : (kidI b off ks k).map (·.1) = ks := by
  induction ks generalizing k with
  | nil => rfl
  | cons t ks ih => simp [kidI, ih]
theorem kidI_at (b off : Nat) (ks : List Nd) (k j : Nat) : (kidI b off ks k)[j]? = (ks[j]?).map (fun t => (t, ⟨b, off + (k + j) * 4, none⟩)) := by
  induction ks generalizing k j with
  | nil => simp [kidI]
  | cons t ks ih =>
    cases j with
    | zero => simp [kidI]
    | succ j => simp [kidI, ih, show k + 1 + j = k + (j + 1) by omega]
def ptrV (it : List Itm) : List Value := it.map (fun x => .pointer (some x.2))
theorem ptrV_app (a b : List Itm) : ptrV (a ++ b) = ptrV a ++ ptrV b := by simp [ptrV]
theorem ptrV_len (a : List Itm) : (ptrV a).length = a.length := by simp [ptrV]
def sizI : List Itm → Nat
  | [] => 0
  | x :: it => x.1.size + sizI it
theorem sizI_app (a b : List Itm) : sizI (a ++ b) = sizI a + sizI b := by
  induction a with
  | nil => simp [sizI]
  | cons x a ih => simp [sizI, ih]; omega
theorem sizI_rev (a : List Itm) : sizI a.reverse = sizI a := by
  induction a with
  | nil => rfl
  | cons x a ih => simp [sizI_app, sizI, ih]; omega
theorem sizI_kid (b off : Nat) (ks : List Nd) (k : Nat) : sizI (kidI b off ks k) = sizesN ks := by
  induction ks generalizing k with
  | nil => rfl
  | cons t ks ih => simp [kidI, sizI, sizesN, ih]
theorem len_sizI (a : List Itm) : a.length ≤ sizI a := by
  induction a with
  | nil => simp
  | cons x a ih => have := x.1.size_pos; simp only [List.length_cons, sizI]; omega
/-- Each lies where it is said to. -/
def ItmAt (W : World) (it : List Itm) : Prop := ∀ x ∈ it, NdAt W x.1 x.2
theorem ItmAt.kids {W : World} {b off : Nat} {ks : List Nd} (h : ∀ k x, ks[k]? = some x → NdAt W x ⟨b, off + k * 4, none⟩) : ItmAt W (kidI b off ks 0) := by
  intro x hx
  obtain ⟨j, hj⟩ := List.getElem?_of_mem hx
  rw [kidI_at] at hj
  obtain ⟨t, ht, rfl⟩ := Option.map_eq_some_iff.1 hj
  simpa using h j t ht
/-- A row of one's own that is cut at its end. -/
theorem ownsRow_cut {W : World} {B e n : Nat} {g cap : Nat} {xs : List Value} {u : Value} (h : W.ownsRow B e 1 (.slice (some ⟨g, 0, none⟩) (n + 1) cap) (n + 1) (xs ++ [u])) (hl : xs.length = n) : W.ownsRow B e 1 (.slice (some ⟨g, 0, none⟩) n cap) n xs := by
  obtain ⟨h1, ⟨h2, _⟩ | ⟨g', cap', cur, e1, h2, h3, h4, h5, h6, h7⟩⟩ := h
  · cases h2
  · simp at e1
    obtain ⟨rfl, rfl⟩ := e1
    refine ⟨by omega, .inr ⟨g, cap, cur, rfl, h2, h3, by omega, h5, h6, ?_⟩⟩
    rw [Nat.mul_one] at h7 ⊢
    have e2 : List.take n cur.toList = List.take n (List.take (n + 1) cur.toList) := by rw [List.take_take, Nat.min_eq_left (by omega)]
    rw [e2, h7, List.take_append_of_le_length (by omega), List.take_of_length_le (by omega)]
end Go.Proofs.YtlinbkgeahgkjaaGreatDoor
namespace Go.Proofs.YtlinbkgeahgkjaaGreatDoor
open Go.RowKit
set_option linter.unusedSimpArgs false
set_option linter.unusedVariables false

theorem allKids_ok (w : World) (b off : Nat) (ao : Option Addr) (l cap : Nat) (h : w.cell? ⟨b, off + 3, none⟩ = some (.slice ao l cap)) :
    Calls Tryz.prog 28 #[.pointer (some ⟨b, off, none⟩)] w fun e w' => e = .returned (.slice ao l cap) ∧ w' = w := by
  go_enter Tryz.func28, Tryz.ntmps28
  go_wp2_with fail
  go_ret
  exact ⟨rfl, rfl⟩
theorem infoPN : (Tryz.prog.info? 42).map (fun i => (i.zero, i.size, i.bytes)) = some (some (.pointer none), 1, 8) := by kernel_rfl
theorem one_newP (W : World) (t : TypeId) (u : Value) : ∀ j x, [u][j]? = some x → (W.alloc (.cells #[u] t)).cell? ((⟨W.heap.size, 0, none⟩ : Addr).add j) = some x := by
  intro j x hx
  match j, hx with
  | 0, hx =>
    simp at hx
    subst hx
    exact (Cells.new W t #[u]).cell 0
theorem grown_own {a b c : World} {g g' : Option Nat} (h : a.grownBy b g) (h' : b.grownBy c g') (ho : g' = g ∨ ∃ x, g' = some x ∧ a.heap.size ≤ x) : a.grownBy c g :=
  h.andThen h' (fun j e => by
    rcases ho with rfl | ⟨x, rfl, hx⟩
    · exact .inr e
    · injection e with e; subst e; exact .inl hx)
set_option maxHeartbeats 8000000 in
set_option maxRecDepth 100000 in
theorem withAhead_ok (w : World) (v : Value) (it : List Itm) (ao : Option Addr) (cap : Nat) (ks : List Nd) (b off : Nat) (hrow : w.ownsRow 0 42 1 v it.length (ptrV it)) (hk : ks = [] ∨ ao = some ⟨b, off, none⟩) (hl : it.length + ks.length ≤ 10000000) :
    Calls Tryz.prog 45 #[v, .slice ao ks.length cap] w fun e w' => ∃ v', e = .returned v' ∧ w'.ownsRow 0 42 1 v' (it.length + ks.length) (ptrV (it ++ (kidI b off ks 0).reverse)) ∧ w.grownBy w' v.ownBlock ∧ (v'.ownBlock = v.ownBlock ∨ ∃ g, v'.ownBlock = some g ∧ w.heap.size ≤ g) := by
  obtain ⟨i0, hi, hz0, hz1, hz2⟩ := info_parts infoPN
  have HR0 : Hid _ := hrow
  have HK : Hid _ := hk
  clear hrow hk
  have HLN : Hid ((kidI b off ks 0).reverse.length = ks.length) := by rw [Hid, List.length_reverse, kidI_len]
  go_enter Tryz.func45, Tryz.ntmps45
  go_wp2_with fail
  go_loopw [0, 8] (fun vs i wr => ∃ (v' : Value) (k : Nat), vs = v' ∧ i = .int .i64 k ∧ k ≤ ks.length ∧ Hid (wr.ownsRow 0 42 1 v' (it.length + k) (ptrV (it ++ (kidI b off ks 0).reverse.take k)) ∧ w.grownBy wr v.ownBlock ∧ (v'.ownBlock = v.ownBlock ∨ ∃ g, v'.ownBlock = some g ∧ w.heap.size ≤ g))) (fun _ i _ => ks.length - (intOf i).toNat)
  case atStart => exact ⟨v, 0, rfl, rfl, Nat.zero_le _, by rw [List.take_zero, List.append_nil, Nat.add_zero]; exact HR0.out, World.grownBy.refl _ _, .inl rfl⟩
  case round =>
    obtain ⟨v', k, hvv, rfl, hk, HR⟩ := hrel
    obtain rfl : v' = _ := hvv.symm
    by_cases hlt : k < ks.length
    · obtain rfl : ao = some ⟨b, off, none⟩ := by
        rcases HK.out with h | h
        · rw [h] at hlt; simp at hlt
        · exact h
      obtain ⟨hrow, hg, ho⟩ := HR.out
      have hgs := hg.size
      obtain ⟨t, ht⟩ : ∃ t, ks[ks.length - 1 - k]? = some t := ⟨_, List.getElem?_eq_getElem (by omega)⟩
      have HT : Hid ((kidI b off ks 0).reverse.take (k + 1) = (kidI b off ks 0).reverse.take k ++ [(t, ⟨b, off + (ks.length - 1 - k) * 4, none⟩)]) := by
        rw [Hid, List.take_add_one]
        congr 1
        rw [List.getElem?_reverse (by rw [kidI_len]; exact hlt), kidI_len, kidI_at, ht]
        simp
      have q1 : (k : Int) < (ks.length : Int) := by omega
      have q2 : (0 : Int) ≤ (ks.length : Int) - 1 - (k : Int) := by omega
      have q3 : (ks.length : Int) - 1 - (k : Int) < (ks.length : Int) := by omega
      have q4 : ((ks.length : Int) - 1 - (k : Int)).toNat = ks.length - 1 - k := by omega
      have HG : Hid _ := hg
      have HO : Hid _ := ho
      clear ht hg ho
      go_wp2_with (at_builtin; refine wpList_append_lies _ rfl _ _ 68 rfl 0 42 i0 (.pointer none) 1 8 Tryz.underlying68 hi hz0 hz1 hz2 rfl (by decide) v' (it.length + k) (ptrV (it ++ (kidI b off ks 0).reverse.take k)) rfl (hrow.alloc _) ⟨wr.heap.size, 0, none⟩ 1 1 [.pointer (some ⟨b, off + (ks.length - 1 - k) * 4, none⟩)] rfl rfl (one_newP _ _ _) (by simp [Value.oneCell']) (by decide) (by unfold maxLen; omega) (by omega) (Nat.zero_le _) (wr.heap.size + 1) (by simp) ?_; intro g c' w5 hown5 hg5 ho5 hlt5)
      go_roundw
      case rel =>
        refine ⟨_, k + 1, rfl, by go_num, by omega, ?_, ?_, ?_⟩
        · rw [HT.out, ← List.append_assoc, ptrV_app]
          exact hown5
        · exact grown_own (grown_own HG.out (World.grownBy_alloc wr _ v'.ownBlock) HO.out) hg5 HO.out
        · rcases ho5 with h | h
          · rcases HO.out with h' | h'
            · exact .inl (by rw [← h', h]; rfl)
            · exact .inr (by obtain ⟨x, e, hx⟩ := h'; rw [h] at e; injection e with e; exact ⟨g, rfl, by omega⟩)
          · exact .inr ⟨g, rfl, by omega⟩
      case measure => simp [intOf]; omega
    · have q1 : ¬ (k : Int) < (ks.length : Int) := by omega
      have HF : Hid (wr.ownsRow 0 42 1 v' (it.length + ks.length) (ptrV (it ++ (kidI b off ks 0).reverse)) ∧ w.grownBy wr v.ownBlock ∧ (v'.ownBlock = v.ownBlock ∨ ∃ g, v'.ownBlock = some g ∧ w.heap.size ≤ g)) := by
        have := HR.out
        rw [List.take_of_length_le (by rw [HLN.out]; omega), show k = ks.length by omega] at this
        exact this
      go_wp2_with fail
      go_ret
      exact ⟨v', rfl, HF.out⟩
theorem within_ok (w : World) (p : Addr) (f : Value) (fv : f = .func (.func 28) #[] #[]) :
    Calls Tryz.prog 30 #[.pointer (some p), f] w fun e w' => e = .returned (.func (.func 44) #[] #[.pointer (some ⟨w.heap.size + 1, 0, none⟩), .pointer (some ⟨w.heap.size, 0, none⟩)]) ∧ w' = (w.alloc (.cells #[.pointer (some p)] 42)).alloc (.cells #[f] 80) := by
  subst fv
  go_enter Tryz.func30, Tryz.ntmps30
  go_wp2
  go_ret
  exact ⟨by simp, rfl⟩
end Go.Proofs.YtlinbkgeahgkjaaGreatDoor
