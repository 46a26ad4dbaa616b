/-
  The contracts of the marks of the exact laws: what is laid into a list of integers or a slab, and whether it is held there.
-/
import Derived.Test.YthkhlmbhickdbaaOwnP
import Derived.Test.YthkhlmbhickdbaaHelpL
namespace Go.Proofs.Ythkhlmbhickdbaa
open Go.RowKit

theorem grown_trans {a b c : World} {row : Option Nat} (h : a.grownBy b row) (k : b.grownBy c row) : a.grownBy c row :=
  ⟨k.os.trans h.os, k.tape.trans h.tape, k.output.trans h.output, Nat.le_trans h.size k.size, fun j hj hr => (k.block j (Nat.lt_of_lt_of_le hj h.size) hr).trans (h.block j hj hr)⟩
theorem grown_set {a b : World} {g k : Nat} (h : a.grownBy b (some g)) (v : Value) : a.grownBy (b.setCell ⟨g, k, none⟩ v) (some g) :=
  grown_trans h ⟨rfl, rfl, rfl, by simp [World.setCell], fun j _ hr => Below.heap_setCell _ _ _ _ (fun e => hr (by rw [e]))⟩
theorem grown_kept {a b c : World} {row : Option Nat} (h : a.grownBy b row) (k : Kept b c) : a.grownBy c row :=
  grown_trans h ⟨k.os, k.tape, k.output, k.size, fun j hj _ => k.block j hj⟩
theorem kept_grown {a b c : World} {row : Option Nat} (h : Kept a b) (k : b.grownBy c row) : a.grownBy c row :=
  grown_trans ⟨h.os, h.tape, h.output, h.size, fun j hj _ => h.block j hj⟩ k
theorem Kept.grownRow {w a b : World} {row : Option Nat} (h : Kept w a) (hg : a.grownBy b row) (hr : ∀ k, row = some k → w.heap.size ≤ k) : Kept w b := Below.grown h hg h.size hr
theorem Row.grown {W W' : World} {g : Nat} {zs : List Int} {row : Option Nat} (h : Row W g zs) (hg : W.grownBy W' row) (hne : some g ≠ row) : Row W' g zs := h.block (hg.block g h.lt hne)
theorem Cells.grown {W W' : World} {B : Nat} {t : TypeId} {cs : Array Value} {row : Option Nat} (h : Cells W B t cs) (hg : W.grownBy W' row) (hne : some B ≠ row) : Cells W' B t cs := (hg.block B h.lt hne).trans h
theorem OwnL.kept {W W' : World} {base : Nat} {v : Value} {zs : List Int} {row : Option Nat} (h : OwnL W base v zs) (hg : W.grownBy W' row) (hne : ∀ k, row = some k → ∀ j, v.ownBlock = some j → j ≠ k) : OwnL W' base v zs := by
  refine ⟨h.1, h.2.kept hg ?_⟩
  cases hv : v.ownBlock with
  | none => exact .inl rfl
  | some j => exact .inr (fun e => hne j e.symm j hv rfl)

/-- The marks 1, 2, .. -/
def marks (n : Nat) : List Int := (List.range n).map (fun i : Nat => (i : Int) + 1)
theorem marks_len (n : Nat) : (marks n).length = n := by simp [marks]
theorem marks_at {n j : Nat} (h : j < n) : hz (marks n) j = (j : Int) + 1 := by simp [hz, marks, h]
theorem marks_bd {n : Nat} (hn : n ≤ 1048576) : ∀ z ∈ marks n, -9223372036854775808 ≤ z ∧ z ≤ 9223372036854775807 := by
  intro z hz
  obtain ⟨i, hi, rfl⟩ := List.mem_map.1 hz
  have := List.mem_range.1 hi
  constructor <;> omega
def mixed (zs : List Int) (k : Nat) : List Int := marks k ++ zs.drop k
theorem mixed_len (zs : List Int) {k : Nat} (hk : k ≤ zs.length) : (mixed zs k).length = zs.length := by simp [mixed, marks_len]; omega
theorem mixed_all (zs : List Int) : mixed zs zs.length = marks zs.length := by simp [mixed]
theorem mixed_succ (zs : List Int) {k : Nat} (hk : k < zs.length) : (mixed zs k).set k ((k : Int) + 1) = mixed zs (k + 1) := by
  apply List.ext_getElem?
  intro j
  rw [List.getElem?_set, mixed_len zs (by omega)]
  unfold mixed
  by_cases e : k = j
  · subst e
    rw [if_pos rfl, if_pos hk, List.getElem?_append_left (by simp [marks_len])]
    simp [marks]
  · rw [if_neg e]
    by_cases h : j < k
    · rw [List.getElem?_append_left (by simp [marks_len]; omega), List.getElem?_append_left (by simp [marks_len]; omega)]
      simp [marks, h, show j < k + 1 by omega]
    · rw [List.getElem?_append_right (by simp [marks_len]; omega), List.getElem?_append_right (by simp [marks_len]; omega)]
      simp only [marks_len, List.getElem?_drop]
      rw [show k + (j - k) = k + 1 + (j - (k + 1)) by omega]

set_option maxHeartbeats 1000000 in
theorem markRow_ok (w : World) (g cap : Nat) (zs : List Int) (hR : Row w g zs) (hl : zs.length ≤ 1048576) :
    Calls Try.prog 32 #[.slice (some ⟨g, 0, none⟩) zs.length cap, .int .i64 1] w fun e w' => e = .returned (.int .i64 ((zs.length : Int) + 1)) ∧ Row w' g (marks zs.length) ∧ w.grownBy w' (some g) := by
  go_enter Try.func32, Try.ntmps32
  go_wp2
  go_loopw [1, 5] (fun m i wr => ∃ k : Nat, i = .int .i64 k ∧ m = .int .i64 ((k : Int) + 1) ∧ k ≤ zs.length ∧ Row wr g (mixed zs k) ∧ w.grownBy wr (some g)) (fun _ i _ => zs.length - (intOf i).toNat)
  case atStart => exact ⟨0, rfl, rfl, Nat.zero_le _, by simpa [mixed, marks] using hR, World.grownBy.refl _ _⟩
  case round =>
    obtain ⟨k, rfl, rfl, hk, hRk, hGk⟩ := hrel
    clear hR
    by_cases hlt : k < zs.length
    · have hcg := hRk.cell (j := k) (by rw [mixed_len _ hk]; exact hlt)
      have hfg := hRk.frozen k
      have HR : Hid _ := hRk.set (k := k) (v := (k : Int) + 1) (by rw [mixed_len _ hk]; exact hlt) ⟨by omega, by omega⟩
      have HG : Hid _ := grown_set (k := k) hGk (.int .i64 ((k : Int) + 1))
      clear hRk hGk
      go_wp2
      go_roundw
      case rel => exact ⟨k + 1, by go_num, by go_num, by omega, by rw [← mixed_succ zs hlt]; exact HR.out, HG.out⟩
      case measure => simp [intOf]; omega
    · obtain rfl : k = zs.length := by omega
      have HR : Hid _ := hRk
      have HG : Hid _ := hGk
      clear hRk hGk
      go_wp2
      go_ret
      exact ⟨rfl, by have := HR.out; rwa [mixed_all] at this, HG.out⟩
theorem markNil_ok (w : World) (ao : Option Addr) (cap : Nat) :
    Calls Try.prog 32 #[.slice ao 0 cap, .int .i64 1] w fun e w' => e = .returned (.int .i64 1) ∧ w = w' := by
  go_enter Try.func32, Try.ntmps32
  go_wp2
  go_loopw [1, 5] (fun m i wr => i = .int .i64 0 ∧ m = .int .i64 1 ∧ wr = w) (fun _ _ _ => 0)
  case atStart => exact ⟨rfl, rfl, rfl⟩
  case round =>
    obtain ⟨rfl, rfl, rfl⟩ := hrel
    go_wp2
    go_ret
    exact ⟨rfl, rfl⟩
theorem markIntS_ok (w : World) (base : Nat) (v : Value) (zs : List Int) (hO : OwnL w base v zs) (hl : zs.length ≤ 1048576) :
    Calls Try.prog 32 #[v, .int .i64 1] w fun e w' => e = .returned (.int .i64 ((zs.length : Int) + 1)) ∧ (∃ ao cap, v = .slice ao zs.length cap ∧ Ints w' ao (marks zs.length)) ∧ w.grownBy w' v.ownBlock := by
  rcases hO.cases with ⟨rfl, rfl⟩ | ⟨g, cap, rfl, _, _, _, hR⟩
  · refine (markNil_ok w none 0).mono ?_
    rintro e w' ⟨rfl, rfl⟩
    exact ⟨rfl, ⟨none, 0, rfl, by simp [marks], .inl rfl⟩, World.grownBy.refl _ _⟩
  · refine (markRow_ok w g cap zs hR hl).mono ?_
    rintro e w' ⟨rfl, hR', hG⟩
    exact ⟨rfl, ⟨_, cap, rfl, hR'.ints⟩, hG⟩
set_option maxHeartbeats 1000000 in
theorem heldIntS_ok (w : World) (ao : Option Addr) (cap n : Nat) (hI : Ints w ao (marks n)) (hl : n ≤ 1048576) :
    Calls Try.prog 33 #[.slice ao n cap, .int .i64 1] w fun e w' => e = .returned (.int .i64 ((n : Int) + 1)) ∧ w = w' := by
  go_enter Try.func33, Try.ntmps33
  go_wp2
  go_loopw [1, 5] (fun m i wr => wr = w ∧ ∃ k : Nat, i = .int .i64 k ∧ m = .int .i64 ((k : Int) + 1) ∧ k ≤ n) (fun _ i _ => n - (intOf i).toNat)
  case atStart => exact ⟨by first | rfl | trivial, 0, rfl, rfl, Nat.zero_le _⟩
  case round =>
    obtain ⟨rfl, k, rfl, rfl, hk⟩ := hrel
    by_cases hlt : k < n
    · obtain ⟨b, off, rfl, hc⟩ := hI.at (k := k) (by rw [marks_len]; exact hlt)
      have hck := hc k (by rw [marks_len]; exact hlt)
      rw [marks_at hlt] at hck
      clear hc hI
      go_wp2
      go_roundw
      case rel => exact ⟨by first | rfl | trivial, k + 1, by go_num, by go_num, by omega⟩
      case measure => simp [intOf]; omega
    · obtain rfl : k = n := by omega
      clear hI
      go_wp2
      go_ret
      exact ⟨rfl, rfl⟩
theorem markSlab_ok (w : World) (g cap : Nat) (zs : List Int) (hR : Row w g zs) (hl : zs.length ≤ 1048576) :
    Calls Try.prog 14 #[.agg #[.slice (some ⟨g, 0, none⟩) zs.length cap], .int .i64 1] w fun e w' => e = .returned (.int .i64 ((zs.length : Int) + 1)) ∧ Row w' g (marks zs.length) ∧ w.grownBy w' (some g) := by
  have k0 : Kept w (w.alloc (.cells #[.slice (some ⟨g, 0, none⟩) zs.length cap] 28)) := Kept.alloc (Below.refl _ _) _
  have hR0 := hR.kept k0
  go_enter Try.func14, Try.ntmps14
  go_wp2_with (go_at_call 32; refine (markRow_ok _ g cap zs hR0 hl).mono ?_; rintro e w1 ⟨rfl, hR1, hG1⟩)
  go_ret
  exact ⟨rfl, hR1, kept_grown k0 hG1⟩
theorem heldSlab_ok (w : World) (ao : Option Addr) (cap n : Nat) (hI : Ints w ao (marks n)) (hl : n ≤ 1048576) :
    Calls Try.prog 15 #[.agg #[.slice ao n cap], .int .i64 1] w fun e w' => e = .returned (.int .i64 ((n : Int) + 1)) ∧ Kept w w' := by
  have k0 : Kept w (w.alloc (.cells #[.slice ao n cap] 28)) := Kept.alloc (Below.refl _ _) _
  have hI0 := hI.kept k0
  go_enter Try.func15, Try.ntmps15
  go_wp2_with (go_at_call 33; refine (heldIntS_ok _ ao cap n hI0 hl).mono ?_; rintro e w1 ⟨rfl, rfl⟩)
  go_ret
  exact ⟨rfl, k0⟩
end Go.Proofs.Ythkhlmbhickdbaa
