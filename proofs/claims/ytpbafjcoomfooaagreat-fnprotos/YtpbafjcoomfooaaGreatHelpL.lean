/-
  The contracts of the helpers of the exact laws over lists of integers and slabs: their size, their copy, whether two are the same, the marks that are laid and held.
-/
import Derived.Test.YtpbafjcoomfooaaGreatSlabI
import Derived.RegionTactic
import Derived.ChangeAlike
namespace Go.Proofs.YtpbafjcoomfooaaGreat
open Go.RowKit

/-- Block g holds the words zs at its head, and may be written. -/
def Row (W : World) (g : Nat) (zs : List Int) : Prop :=
  (∀ z ∈ zs, -9223372036854775808 ≤ z ∧ z ≤ 9223372036854775807) ∧ ∃ cur : Array Value, W.heap[g]? = some (.cells cur 3 (0, 0)) ∧ zs.length ≤ cur.size ∧ ∀ j, j < zs.length → cur[j]? = some (.int .i64 (hz zs j))
theorem Row.lt {W : World} {g : Nat} {zs : List Int} (h : Row W g zs) : g < W.heap.size := by
  obtain ⟨_, cur, hc, _⟩ := h
  exact (Array.getElem?_eq_some_iff.1 hc).1
theorem Row.cell {W : World} {g : Nat} {zs : List Int} (h : Row W g zs) {j : Nat} (hj : j < zs.length) : W.cell? ⟨g, j, none⟩ = some (.int .i64 (hz zs j)) := by
  obtain ⟨_, cur, hc, _, h2⟩ := h
  simp [World.cell?, hc, h2 j hj]
theorem Row.frozen {W : World} {g : Nat} {zs : List Int} (h : Row W g zs) (j : Nat) : W.frozen? ⟨g, j, none⟩ = false := by
  obtain ⟨_, cur, hc, _⟩ := h
  simp [World.frozen?, hc]
theorem Row.ints {W : World} {g : Nat} {zs : List Int} (h : Row W g zs) : Ints W (some ⟨g, 0, none⟩) zs :=
  ⟨h.1, .inr ⟨g, 0, rfl, fun j hj => by rw [Nat.zero_add]; exact h.cell hj⟩⟩
theorem Row.block {W W' : World} {g : Nat} {zs : List Int} (h : Row W g zs) (e : W'.heap[g]? = W.heap[g]?) : Row W' g zs := by
  obtain ⟨h0, cur, hc, r⟩ := h
  exact ⟨h0, cur, e.trans hc, r⟩
theorem Row.kept {W W' : World} {g : Nat} {zs : List Int} (h : Row W g zs) (hk : Kept W W') : Row W' g zs := h.block (hk.block g h.lt)
theorem Row.other {W : World} {g : Nat} {zs : List Int} (h : Row W g zs) {p : Addr} (hp : g ≠ p.block) (v : Value) : Row (W.setCell p v) g zs := h.block (Below.heap_setCell _ _ _ _ hp)
theorem hz_set {zs : List Int} {k j : Nat} {v : Int} (hk : k < zs.length) : hz (zs.set k v) j = if j = k then v else hz zs j := by
  unfold hz
  rw [List.getElem?_set]
  by_cases h : k = j
  · subst h; simp [hk]
  · simp [h, Ne.symm h]
theorem Row.set {W : World} {g : Nat} {zs : List Int} (h : Row W g zs) {k : Nat} (hk : k < zs.length) {v : Int} (hv : -9223372036854775808 ≤ v ∧ v ≤ 9223372036854775807) : Row (W.setCell ⟨g, k, none⟩ (.int .i64 v)) g (zs.set k v) := by
  obtain ⟨h0, cur, hc, hl, h2⟩ := h
  refine ⟨fun z hz => ?_, cur.setIfInBounds k (.int .i64 v), ?_, by simpa using hl, fun j hj => ?_⟩
  · rcases List.mem_or_eq_of_mem_set hz with h | h
    · exact h0 z h
    · rw [h]; exact hv
  · obtain ⟨hlt, he⟩ := Array.getElem?_eq_some_iff.1 hc
    show (W.heap.modify g _)[g]? = _
    rw [Array.getElem?_eq_getElem (by rw [Array.size_modify]; exact hlt), Array.getElem_modify_self, he]
    rfl
  · rw [List.length_set] at hj
    rw [hz_set hk, Array.getElem?_setIfInBounds]
    by_cases e : j = k
    · subst e; simp; omega
    · simp [e, Ne.symm e, h2 j hj]
theorem Row.new (W : World) (zs : List Int) (h0 : ∀ z ∈ zs, -9223372036854775808 ≤ z ∧ z ≤ 9223372036854775807) : Row (W.alloc (.cells (zs.map (Value.int .i64)).toArray 3)) W.heap.size zs :=
  ⟨h0, _, heap_alloc_new W _, by simp, fun j hj => by simp [hz, List.getElem?_eq_getElem hj]⟩
theorem Row.of_owns {W : World} {base n cap g : Nat} {zs : List Int} (h : W.ownsRow base 3 1 (.slice (some ⟨g, 0, none⟩) n cap) n (zs.map (Value.int .i64))) (h0 : ∀ z ∈ zs, -9223372036854775808 ≤ z ∧ z ≤ 9223372036854775807) : Row W g zs ∧ base ≤ g := by
  obtain ⟨hl, ⟨e, _⟩ | ⟨g', cap', cur, e, hb, hg, h1, h2, h3, h4⟩⟩ := h
  · cases e
  · cases e
    simp at hl h4
    refine ⟨⟨h0, cur, hg, by omega, fun j hj => ?_⟩, hb⟩
    have : (cur.toList.take n)[j]? = (zs.map (Value.int .i64))[j]? := by rw [h4]
    rw [List.getElem?_take, if_pos (by omega)] at this
    simp [List.getElem?_eq_getElem hj] at this
    rw [this]
    simp [hz, List.getElem?_eq_getElem hj]
theorem madeInts (n : Nat) : (madeCells (Value.int .i64 0).cells (n * 1)).toList = (List.replicate n (0 : Int)).map (Value.int .i64) := by
  apply List.ext_getElem
  · simp [madeCells]
  · intro i h1 h2
    simp [madeCells, Value.cells, Nat.mod_one]

theorem kept_drewN {a b : World} (h : Kept a b) (n : Nat) : Kept a (b.drewN n) := ⟨h.os, h.tape, h.output, h.size, h.block⟩

theorem infoI : (Tryz.prog.info? 3).map (fun i => (i.zero, i.size, i.bytes)) = some (some (.int .i64 0), 1, 8) := by kernel_rfl


/-- What is copied when k words are over: the first k, and noughts. -/
def upto (zs : List Int) (k : Nat) : List Int := zs.take k ++ List.replicate (zs.length - k) 0
theorem upto_len (zs : List Int) (k : Nat) (hk : k ≤ zs.length) : (upto zs k).length = zs.length := by simp [upto]; omega
theorem upto_all (zs : List Int) : upto zs zs.length = zs := by simp [upto]
theorem upto_succ (zs : List Int) (k : Nat) (hk : k < zs.length) : (upto zs k).set k (hz zs k) = upto zs (k + 1) := by
  apply List.ext_getElem?
  intro j
  rw [List.getElem?_set, upto_len zs k (by omega)]
  unfold upto hz
  by_cases e : k = j
  · subst e
    rw [if_pos rfl, if_pos hk, List.getElem?_append_left (by simp; omega)]
    simp [List.getElem?_eq_getElem hk]
  · rw [if_neg e]
    by_cases h : j < k
    · rw [List.getElem?_append_left (by simp; omega), List.getElem?_append_left (by simp; omega)]
      simp [h, show j < k + 1 by omega]
    · rw [List.getElem?_append_right (by simp; omega), List.getElem?_append_right (by simp; omega)]
      simp [List.getElem?_replicate]
      have h1 : min k zs.length = k := by omega
      have h2 : min (k + 1) zs.length = k + 1 := by omega
      rw [h1, h2]
      by_cases h3 : j < zs.length
      · rw [if_pos (by omega), if_pos (by omega)]
      · rw [if_neg (by omega), if_neg (by omega)]

end Go.Proofs.YtpbafjcoomfooaaGreat
