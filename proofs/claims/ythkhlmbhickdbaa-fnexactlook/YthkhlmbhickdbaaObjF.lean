/-
  What a right heap has where a value leads (facts on lists); lists that are written out.
-/
import Derived.Test.YthkhlmbhickdbaaObjA
import Derived.Test.YthkhlmbhickdbaaHeapQ
namespace Go.Proofs.Ythkhlmbhickdbaa
open Go.RowKit

theorem kind_block {zs : List Int} {a : Int} {k : Nat} (hh : heapR zs = true) (hk : kindAt zs a = k) :
    ∃ n s : Nat, a = n ∧ n + s ≤ zs.length ∧ 2 ≤ s ∧ hz zs n / 8 = (s : Int) ∧ hz zs n % 8 = (k : Int) ∧ blkR zs n s k = true := by
  unfold kindAt at hk
  cases hb : atB zs a with
  | none => rw [hb] at hk; simp at hk
  | some b =>
    rw [hb] at hk
    obtain ⟨_, e, hg, h1, h2, hm⟩ := atB_some hb
    have hr := heapR_blk hh hm
    have hk' : b.1.kind = k := by simp at hk; omega
    rw [hk'] at hr
    refine ⟨b.1.at', b.1.size, e.symm, b.2.2.1, b.2.1, ?_, ?_, hr⟩
    · rw [h1]; exact hg.szI.symm
    · rw [← kdI, ← h2, hk']
theorem obj_facts {zs : List Int} {v inner : Int} (hh : heapR zs = true) (h5 : v % 8 = 5) (hv : leadsR zs v inner = true) :
    ∃ n s : Nat, v / 8 = n ∧ n + s ≤ zs.length ∧ 3 ≤ s ∧ hz zs n / 8 = (s : Int) ∧ (hz zs (n + 1) = 1 ∨ (hz zs (n + 1) % 8 = 5 ∧ leadsR zs (hz zs (n + 1)) 0 = true)) ∧ nextR zs (hz zs (n + 2)) 3 = true := by
  have hk := leads_kind hv (by omega)
  rw [h5] at hk
  obtain ⟨n, s, e, h1, h2, h3, _, h4⟩ := kind_block (k := 2) hh (by rw [hk]; simp [wantK])
  rw [blk_obj] at h4
  unfold objR at h4
  simp only [Bool.and_eq_true, Bool.or_eq_true, decide_eq_true_eq] at h4
  exact ⟨n, s, e, h1, by omega, h3, h4.1.1.2, h4.1.2⟩
theorem next_facts {zs : List Int} {v : Int} (hh : heapR zs = true) (hv : nextR zs v 3 = true) (h0 : v ≠ 0) :
    ∃ n s : Nat, v / 8 = n ∧ v % 8 = 7 ∧ n + s ≤ zs.length ∧ 4 ≤ s ∧ nextR zs (hz zs (n + 3)) 3 = true := by
  unfold nextR at hv
  simp only [Bool.and_eq_true, Bool.or_eq_true, decide_eq_true_eq, h0, false_or] at hv
  have hk := leads_kind hv.2 (by omega)
  rw [hv.1] at hk
  obtain ⟨n, s, e, h1, h2, _, _, h4⟩ := kind_block (k := 3) hh (by rw [hk]; simp [wantK])
  rw [blk_cell] at h4
  unfold cellR at h4
  simp only [Bool.and_eq_true, decide_eq_true_eq] at h4
  exact ⟨n, s, e, hv.1, h1, by omega, h4.1.2⟩
theorem scope_facts {zs : List Int} {v : Int} (hh : heapR zs = true) (h7 : v % 8 = 7) (hv : leadsR zs v 5 = true) :
    ∃ n s : Nat, v / 8 = n ∧ n + s ≤ zs.length ∧ 2 ≤ s ∧ hz zs n / 8 = (s : Int) ∧ nextR zs (hz zs (n + 1)) 5 = true := by
  have hk := leads_kind hv (by omega)
  rw [h7] at hk
  obtain ⟨n, s, e, h1, h2, h3, _, h4⟩ := kind_block (k := 5) hh (by rw [hk]; simp [wantK])
  rw [blk_scope zs n s h2] at h4
  unfold scopeR at h4
  simp only [Bool.and_eq_true] at h4
  exact ⟨n, s, e, h1, h2, h3, h4.1⟩
theorem next_leads {zs : List Int} {v inner : Int} (hv : nextR zs v inner = true) (h0 : v ≠ 0) : v % 8 = 7 ∧ leadsR zs v inner = true := by
  unfold nextR at hv
  simp only [Bool.and_eq_true, Bool.or_eq_true, decide_eq_true_eq, h0, false_or] at hv
  exact hv
theorem isR_facts {zs rs : List Int} {k : Int} (h : isR zs rs k = true) : heapR zs = true ∧ hz rs 0 % 8 = k ∧ ∀ i, i < rs.length → leadsR zs (hz rs i) 5 = true := by
  unfold isR at h
  rw [Bool.and_eq_true, decide_eq_true_eq] at h
  refine ⟨rootsR_heap h.2, h.1, ?_⟩
  have := h.2
  unfold rootsR at this
  rw [Bool.and_eq_true] at this
  exact allR_iff.1 this.2

theorem lits_ints (w : World) (rs : List Int) (C : Array Value) (hC : C = (rs.map (Value.int .i64)).toArray) (hb : ∀ z ∈ rs, -9223372036854775808 ≤ z ∧ z ≤ 9223372036854775807) : Ints (w.alloc (.cells C 3)) (some ⟨w.heap.size, 0, none⟩) rs := by
  subst hC
  exact (Row.of_cells (Cells.new w 3 _) hb).ints
theorem l5Is_at (w : World) (ao : Option Addr) (cap : Nat) (zs rs : List Int) (n : Nat) (k : Int) (C : Array Value) (hn : rs.length = n) (hC : C = (rs.map (Value.int .i64)).toArray) (hb : ∀ z ∈ rs, -9223372036854775808 ≤ z ∧ z ≤ 9223372036854775807) (h0 : 0 < n) (hn3 : n ≤ 1048576) (hI : Ints w ao zs) (hl : zs.length ≤ 1048576) :
    Calls Try.prog 35 #[.agg #[.slice ao zs.length cap], .slice (some ⟨w.heap.size, 0, none⟩) n n, .int .i64 k] (w.alloc (.cells C 3)) fun e w' => e = .returned (.bool (isR zs rs k)) ∧ Kept w w' := by
  subst hn
  have ka : Kept w (w.alloc (.cells C 3)) := Kept.alloc (Below.refl _ _) _
  refine (l5Is_ok _ ao _ cap rs.length zs rs k (hI.kept ka) hl (lits_ints w rs C hC hb) hn3 h0).mono ?_
  rintro e w' ⟨rfl, hk⟩
  exact ⟨rfl, ka.trans hk⟩
theorem RootsOk_at (w : World) (ao : Option Addr) (cap : Nat) (zs rs : List Int) (n : Nat) (C : Array Value) (hn : rs.length = n) (hC : C = (rs.map (Value.int .i64)).toArray) (hb : ∀ z ∈ rs, -9223372036854775808 ≤ z ∧ z ≤ 9223372036854775807) (hn3 : n ≤ 1048576) (hI : Ints w ao zs) (hl : zs.length ≤ 1048576) :
    Calls Try.prog 69 #[.agg #[.slice ao zs.length cap], .slice (some ⟨w.heap.size, 0, none⟩) n n] (w.alloc (.cells C 3)) fun e w' => e = .returned (.bool (rootsR zs rs)) ∧ Kept w w' := by
  subst hn
  have ka : Kept w (w.alloc (.cells C 3)) := Kept.alloc (Below.refl _ _) _
  refine (spec_RootsOk_ok _ ao _ cap rs.length zs rs (hI.kept ka) hl (lits_ints w rs C hC hb) hn3).mono ?_
  rintro e w' ⟨rfl, hk⟩
  exact ⟨rfl, ka.trans hk⟩
end Go.Proofs.Ythkhlmbhickdbaa
