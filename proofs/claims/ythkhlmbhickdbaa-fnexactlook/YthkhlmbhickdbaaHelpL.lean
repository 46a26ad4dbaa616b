/-
  The contracts of the helpers of the exact laws over lists of integers and slabs: their size, their copy, whether two are the same, the marks that are laid and held.
-/
import Derived.Test.YthkhlmbhickdbaaSlabI
import Derived.RegionTactic
import Derived.ChangeAlike
namespace Go.Proofs.Ythkhlmbhickdbaa
open Go.RowKit

/-- Block g holds the words zs at its head, and may be written. -/
def Row (W : World) (g : Nat) (zs : List Int) : Prop :=
  (∀ z ∈ zs, -9223372036854775808 ≤ z ∧ z ≤ 9223372036854775807) ∧ ∃ cur : Array Value, W.heap[g]? = some (.cells cur 3 (0, 0)) ∧ zs.length ≤ cur.size ∧ ∀ j, j < zs.length → cur[j]? = some (.int .i64 (hz zs j))
theorem Row.lt {W : World} {g : Nat} {zs : List Int} (h : Row W g zs) : g < W.heap.size := by
  obtain ⟨_, cur, hc, _⟩ := h
  exact (Array.getElem?_eq_some_iff.1 hc).1
theorem Row.cell {W : World} {g : Nat} {zs : List Int} (h : Row W g zs) {j : Nat} (hj : j < zs.length) : W.cell? ⟨g, j, none⟩ = some (.int .i64 (hz zs j)) := by
  obtain ⟨_, cur, hc, _, h2⟩ := h
  simp [World.cell?, hc, h2 j hj]
theorem Row.frozen {W : World} {g : Nat} {zs : List Int} (h : Row W g zs) (j : Nat) : W.frozen? ⟨g, j, none⟩ = false := by
  obtain ⟨_, cur, hc, _⟩ := h
  simp [World.frozen?, hc]
theorem Row.ints {W : World} {g : Nat} {zs : List Int} (h : Row W g zs) : Ints W (some ⟨g, 0, none⟩) zs :=
  ⟨h.1, .inr ⟨g, 0, rfl, fun j hj => by rw [Nat.zero_add]; exact h.cell hj⟩⟩
theorem Row.block {W W' : World} {g : Nat} {zs : List Int} (h : Row W g zs) (e : W'.heap[g]? = W.heap[g]?) : Row W' g zs := by
  obtain ⟨h0, cur, hc, r⟩ := h
  exact ⟨h0, cur, e.trans hc, r⟩
theorem Row.kept {W W' : World} {g : Nat} {zs : List Int} (h : Row W g zs) (hk : Kept W W') : Row W' g zs := h.block (hk.block g h.lt)
theorem Row.other {W : World} {g : Nat} {zs : List Int} (h : Row W g zs) {p : Addr} (hp : g ≠ p.block) (v : Value) : Row (W.setCell p v) g zs := h.block (Below.heap_setCell _ _ _ _ hp)
theorem hz_set {zs : List Int} {k j : Nat} {v : Int} (hk : k < zs.length) : hz (zs.set k v) j = if j = k then v else hz zs j := by
  unfold hz
  rw [List.getElem?_set]
  by_cases h : k = j
  · subst h; simp [hk]
  · simp [h, Ne.symm h]
theorem Row.set {W : World} {g : Nat} {zs : List Int} (h : Row W g zs) {k : Nat} (hk : k < zs.length) {v : Int} (hv : -9223372036854775808 ≤ v ∧ v ≤ 9223372036854775807) : Row (W.setCell ⟨g, k, none⟩ (.int .i64 v)) g (zs.set k v) := by
  obtain ⟨h0, cur, hc, hl, h2⟩ := h
  refine ⟨fun z hz => ?_, cur.setIfInBounds k (.int .i64 v), ?_, by simpa using hl, fun j hj => ?_⟩
  · rcases List.mem_or_eq_of_mem_set hz with h | h
    · exact h0 z h
    · rw [h]; exact hv
  · obtain ⟨hlt, he⟩ := Array.getElem?_eq_some_iff.1 hc
    show (W.heap.modify g _)[g]? = _
    rw [Array.getElem?_eq_getElem (by rw [Array.size_modify]; exact hlt), Array.getElem_modify_self, he]
    rfl
  · rw [List.length_set] at hj
    rw [hz_set hk, Array.getElem?_setIfInBounds]
    by_cases e : j = k
    · subst e; simp; omega
    · simp [e, Ne.symm e, h2 j hj]
theorem Row.new (W : World) (zs : List Int) (h0 : ∀ z ∈ zs, -9223372036854775808 ≤ z ∧ z ≤ 9223372036854775807) : Row (W.alloc (.cells (zs.map (Value.int .i64)).toArray 3)) W.heap.size zs :=
  ⟨h0, _, heap_alloc_new W _, by simp, fun j hj => by simp [hz, List.getElem?_eq_getElem hj]⟩
theorem Row.of_owns {W : World} {base n cap g : Nat} {zs : List Int} (h : W.ownsRow base 3 1 (.slice (some ⟨g, 0, none⟩) n cap) n (zs.map (Value.int .i64))) (h0 : ∀ z ∈ zs, -9223372036854775808 ≤ z ∧ z ≤ 9223372036854775807) : Row W g zs ∧ base ≤ g := by
  obtain ⟨hl, ⟨e, _⟩ | ⟨g', cap', cur, e, hb, hg, h1, h2, h3, h4⟩⟩ := h
  · cases e
  · cases e
    simp at hl h4
    refine ⟨⟨h0, cur, hg, by omega, fun j hj => ?_⟩, hb⟩
    have : (cur.toList.take n)[j]? = (zs.map (Value.int .i64))[j]? := by rw [h4]
    rw [List.getElem?_take, if_pos (by omega)] at this
    simp [List.getElem?_eq_getElem hj] at this
    rw [this]
    simp [hz, List.getElem?_eq_getElem hj]
theorem madeInts (n : Nat) : (madeCells (Value.int .i64 0).cells (n * 1)).toList = (List.replicate n (0 : Int)).map (Value.int .i64) := by
  apply List.ext_getElem
  · simp [madeCells]
  · intro i h1 h2
    simp [madeCells, Value.cells, Nat.mod_one]

theorem kept_drewN {a b : World} (h : Kept a b) (n : Nat) : Kept a (b.drewN n) := ⟨h.os, h.tape, h.output, h.size, h.block⟩

theorem infoI : (Try.prog.info? 3).map (fun i => (i.zero, i.size, i.bytes)) = some (some (.int .i64 0), 1, 8) := by kernel_rfl

theorem szSlab_ok (w : World) (ao : Option Addr) (cap len : Nat) (hl : len ≤ 1048576) :
    Calls Try.prog 7 #[.agg #[.slice ao len cap], .int .i64 1048576] w fun e w' => e = .returned (.int .i64 (1048576 - (len : Int))) ∧ Kept w w' := by
  go_enter Try.func7, Try.ntmps7
  go_wp2_with go_in
  go_ret
  exact ⟨rfl, Kept.alloc (Below.refl _ _) _⟩
theorem szSlab_big (w : World) (ao : Option Addr) (cap len : Nat) (hl : 1048576 < len) (hm : len ≤ 9223372036854775807) :
    Calls Try.prog 7 #[.agg #[.slice ao len cap], .int .i64 1048576] w fun e w' => e = .returned (.int .i64 (-1)) ∧ Kept w w' := by
  go_enter Try.func7, Try.ntmps7
  go_wp2_with go_in
  go_ret
  exact ⟨rfl, Kept.alloc (Below.refl _ _) _⟩

/-- What is copied when k words are over: the first k, and noughts. -/
def upto (zs : List Int) (k : Nat) : List Int := zs.take k ++ List.replicate (zs.length - k) 0
theorem upto_len (zs : List Int) (k : Nat) (hk : k ≤ zs.length) : (upto zs k).length = zs.length := by simp [upto]; omega
theorem upto_all (zs : List Int) : upto zs zs.length = zs := by simp [upto]
theorem upto_succ (zs : List Int) (k : Nat) (hk : k < zs.length) : (upto zs k).set k (hz zs k) = upto zs (k + 1) := by
  apply List.ext_getElem?
  intro j
  rw [List.getElem?_set, upto_len zs k (by omega)]
  unfold upto hz
  by_cases e : k = j
  · subst e
    rw [if_pos rfl, if_pos hk, List.getElem?_append_left (by simp; omega)]
    simp [List.getElem?_eq_getElem hk]
  · rw [if_neg e]
    by_cases h : j < k
    · rw [List.getElem?_append_left (by simp; omega), List.getElem?_append_left (by simp; omega)]
      simp [h, show j < k + 1 by omega]
    · rw [List.getElem?_append_right (by simp; omega), List.getElem?_append_right (by simp; omega)]
      simp [List.getElem?_replicate]
      have h1 : min k zs.length = k := by omega
      have h2 : min (k + 1) zs.length = k + 1 := by omega
      rw [h1, h2]
      by_cases h3 : j < zs.length
      · rw [if_pos (by omega), if_pos (by omega)]
      · rw [if_neg (by omega), if_neg (by omega)]
set_option maxHeartbeats 1000000 in
theorem toIntS_ok (w : World) (ao : Option Addr) (cap : Nat) (zs : List Int) (hI : Ints w ao zs) (hl : zs.length ≤ 1048576) :
    Calls Try.prog 23 #[.slice ao zs.length cap] w fun e w' => e = .returned (.slice (some ⟨w.heap.size, 0, none⟩) zs.length zs.length) ∧ Row w' w.heap.size zs ∧ Kept w w' := by
  obtain ⟨i0, hi, hz0, hz1, hz2⟩ := info_parts infoI
  go_enter Try.func23, Try.ntmps23
  go_wp2_with (at_make; refine wpList_make_full _ rfl _ _ 22 rfl w.heap.size 3 i0 (.int .i64 0) 1 Try.underlying22 hi hz0 hz1 .i64 .i64 _ _ zs.length rfl rfl rfl rfl (by rw [hz2]; omega) (by unfold maxLen; omega) (Nat.le_refl _) ?_; intro w1 hown hgrow)
  rw [madeInts] at hown
  have hR := (Row.of_owns hown (by simp)).1
  have hK : Kept w w1 := (Below.refl _ w).grown hgrow (Nat.le_refl _) (by simp)
  clear hown hgrow
  go_loopw [4] (fun i wr => ∃ k : Nat, i = .int .i64 k ∧ k ≤ zs.length ∧ Row wr w.heap.size (upto zs k) ∧ Kept w wr) (fun i _ => zs.length - (intOf i).toNat)
  case atStart => exact ⟨0, rfl, Nat.zero_le _, by simpa [upto] using hR, hK⟩
  case round =>
    obtain ⟨k, rfl, hk, hRk, hKk⟩ := hrel
    clear hR hK
    by_cases hlt : k < zs.length
    · obtain ⟨b, off, rfl, hc⟩ := (hI.kept hKk).at hlt
      have hck := hc k hlt
      have hcg := hRk.cell (j := k) (by rw [upto_len _ _ hk]; exact hlt)
      have hfg := hRk.frozen k
      have HR : Hid _ := hRk.set (k := k) (v := hz zs k) (by rw [upto_len _ _ hk]; exact hlt) (hI.bd k)
      have HK : Hid (Kept w _) := hKk.setCell (p := ⟨w.heap.size, k, none⟩) (Nat.le_refl _) (.int .i64 (hz zs k))
      clear hc hI hRk hKk
      go_wp2
      go_roundw
      case rel => exact ⟨k + 1, by go_num, by omega, by rw [← upto_succ zs k hlt]; exact HR.out, HK.out⟩
      case measure => simp [intOf]; omega
    · obtain rfl : k = zs.length := by omega
      have HR : Hid _ := hRk
      clear hRk hI
      go_wp2
      go_ret
      exact ⟨rfl, by have := HR.out; rwa [upto_all] at this, hKk⟩

set_option maxHeartbeats 1000000 in
theorem toSlab_ok (w : World) (ao : Option Addr) (cap : Nat) (zs : List Int) (hI : Ints w ao zs) (hl : zs.length ≤ 1048576) :
    Calls Try.prog 9 #[.agg #[.slice ao zs.length cap]] w fun e w' => ∃ g, e = .returned (.agg #[.slice (some ⟨g, 0, none⟩) zs.length zs.length]) ∧ w.heap.size ≤ g ∧ Row w' g zs ∧ Kept w w' := by
  have hI3 := hI.kept (((Kept.alloc (Below.refl _ w) (.cells #[.slice ao zs.length cap] 24)).alloc (.cells #[.slice none 0 0] 28)).alloc (.cells #[.slice none 0 0] 28))
  have b2 := Cells.new ((w.alloc (.cells #[.slice ao zs.length cap] 24)).alloc (.cells #[.slice none 0 0] 28)) 28 #[.slice none 0 0]
  have b1 := (Cells.new (w.alloc (.cells #[.slice ao zs.length cap] 24)) 28 #[.slice none 0 0]).alloc (.cells #[.slice none 0 0] 28)
  simp only [World.size_alloc] at b1 b2
  clear hI
  go_enter Try.func9, Try.ntmps9
  go_wp2_with (go_at_call 23; refine (toIntS_ok _ ao cap zs hI3 hl).mono ?_; rintro e w1 ⟨rfl, hR, hK⟩; have m2 := (b2.kept hK).cell 0; have f2 := (b2.kept hK).frozen 0; have m1 := (b1.kept hK).cell 0; have f1 := (b1.kept hK).frozen 0)
  have hR' : Row w1 (w.heap.size + 1 + 1 + 1) zs := by simpa using hR
  have hK' : Kept w w1 := (((Kept.alloc (Below.refl _ w) _).alloc _).alloc _).trans hK
  have hres := (((b1.kept hK).other (p := ⟨w.heap.size + 1 + 1, 0, none⟩) (by simp) (.slice (some ⟨w.heap.size + 1 + 1 + 1, 0, none⟩) zs.length zs.length)).set1 (.slice (some ⟨w.heap.size + 1 + 1 + 1, 0, none⟩) zs.length zs.length)).cell 0
  refine bodyPost_ret (v := .agg #[.slice (some ⟨w.heap.size + 1 + 1 + 1, 0, none⟩) zs.length zs.length]) (by simp [results, Try.results9, go_sem, hres]) rfl ⟨_, rfl, by omega, (hR'.other (by intro h; simp at h <;> omega) _).other (by intro h; simp at h <;> omega) _, (hK'.set (by simp; omega) _).set (by simp) _⟩
set_option maxHeartbeats 1000000 in
theorem eqIntS_ok (w : World) (ao bo : Option Addr) (ca cb : Nat) (zs : List Int) (hA : Ints w ao zs) (hB : Ints w bo zs) (hl : zs.length ≤ 1152921504606846975) :
    Calls Try.prog 27 #[.slice ao zs.length ca, .slice bo zs.length cb] w fun e w' => e = .returned (.bool true) ∧ Kept w w' := by
  go_enter Try.func27, Try.ntmps27
  go_wp2
  go_loopw [5] (fun i wr => ∃ k : Nat, i = .int .i64 k ∧ k ≤ zs.length ∧ Kept w wr) (fun i _ => zs.length - (intOf i).toNat)
  case atStart => exact ⟨0, rfl, Nat.zero_le _, Below.refl _ _⟩
  case round =>
    obtain ⟨k, rfl, hk, hKk⟩ := hrel
    by_cases hlt : k < zs.length
    · obtain ⟨b, off, rfl, hc⟩ := (hA.kept hKk).at hlt
      obtain ⟨b', off', rfl, hc'⟩ := (hB.kept hKk).at hlt
      have hck := hc k hlt
      have hck' := hc' k hlt
      have hlt' : (k : Int) < (zs.length : Int) := by omega
      clear hc hc' hA hB
      go_wp2_with fail
      go_quiet (fail)
      go_wp2
      go_roundw
      case rel => exact ⟨k + 1, by go_num, by omega, kept_drewN hKk _⟩
      case measure => simp [intOf]; omega
    · obtain rfl : k = zs.length := by omega
      clear hA hB
      go_wp2
      go_ret
      exact ⟨rfl, hKk⟩
theorem eqSlab_ok (w : World) (ao bo : Option Addr) (ca cb : Nat) (zs : List Int) (hA : Ints w ao zs) (hB : Ints w bo zs) (hl : zs.length ≤ 1152921504606846975) :
    Calls Try.prog 11 #[.agg #[.slice ao zs.length ca], .agg #[.slice bo zs.length cb]] w fun e w' => e = .returned (.bool true) ∧ Kept w w' := by
  have hk : Kept w ((w.alloc (.cells #[.slice ao zs.length ca] 28)).alloc (.cells #[.slice bo zs.length cb] 28)) := (Kept.alloc (Below.refl _ w) _).alloc _
  have hA' := hA.kept hk
  have hB' := hB.kept hk
  clear hA hB
  go_enter Try.func11, Try.ntmps11
  go_wp2_with (go_at_call 27; refine (eqIntS_ok _ ao bo ca cb zs hA' hB' hl).mono ?_; rintro e w1 ⟨rfl, hK⟩)
  go_ret
  exact ⟨rfl, hk.trans hK⟩
end Go.Proofs.Ythkhlmbhickdbaa
