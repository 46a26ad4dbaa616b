/-
  What the models that a draw calls come to, told weakly: a slab of its own that is as long, or empty.
  The contract of the draw of a heap: l3DrawHeap.
  The contracts of the draw of a heap that may be spoilt, of one of its values, and of a text.
  The contracts of the draws of chapter 7 (spec.l7DrawSome, l7Draw) and of DrawStart: weakly told.
-/
import Derived.Maps.AppendAt
import Derived.Deep.CutBlock
import Derived.Test.YtpljjeknphnnpaaGreatGrpSI
import Derived.Test.YtpljjeknphnnpaaGreatGrpSK
import Derived.Test.YtpljjeknphnnpaaGreatGrpSL
import Derived.Test.YtpljjeknphnnpaaGreatGrpSB
import Derived.Test.YtpljjeknphnnpaaGreatGrpSN
namespace Go.Proofs.YtpljjeknphnnpaaGreat
open Go.RowKit

def InB (x : Int) : Prop := -9223372036854775808 ≤ x ∧ x ≤ 9223372036854775807
/-- A slab of its own that is as long as it was, or empty. -/
def New1 (zs : List Int) (u : World) (e : Ending) (w' : World) : Prop := ∃ v rs, e = .returned (.tuple #[.agg #[v], .bool true]) ∧ OwnR w' u.heap.size v rs ∧ (rs.length = zs.length ∨ rs.length = 0) ∧ Kept u w'
def NewP (zs : List Int) (u : World) (e : Ending) (w' : World) : Prop := ∃ v rs y, e = .returned (.tuple #[.agg #[v], .bool y]) ∧ OwnR w' u.heap.size v rs ∧ (rs.length = zs.length ∨ rs.length = 0) ∧ Kept u w'
def NewV (zs : List Int) (u : World) (e : Ending) (w' : World) : Prop := ∃ v rs x y, e = .returned (.tuple #[.agg #[v], .int .i64 x, .bool y]) ∧ InB x ∧ OwnR w' u.heap.size v rs ∧ (rs.length = zs.length ∨ rs.length = 0) ∧ Kept u w'
theorem at_in {zs : List Int} (hl : zs.length ≤ 1048576) (b : BkOf zs.length) (k : Int) (h0 : 0 ≤ k) (h7 : k ≤ 7) : InB (8 * ((b.1.at' : Nat) : Int) + k) := by
  have := b.2.2.1
  have := b.2.1
  unfold InB
  omega
theorem zero_in : InB 0 := by unfold InB; omega
theorem TextPut_w (w : World) (ao : Option Addr) (cap : Nat) (zs : List Int) (t : ByteArray) (hI : Ints w ao zs) (hl : zs.length ≤ 1048576) : Calls Tryz.prog 117 #[.agg #[.slice ao zs.length cap], .string t] w (NewV zs w) := by
  cases hh : heapR zs with
  | false =>
    refine (spec_TextPut_bad w ao cap zs t hI hl hh).mono ?_
    rintro e w' ⟨rfl, hk⟩
    exact ⟨_, [], _, _, rfl, zero_in, .inl ⟨rfl, rfl⟩, .inr rfl, hk⟩
  | true =>
    refine (spec_TextPut_do w ao cap zs t hI hl hh).mono ?_
    rintro e w' ⟨v, rfl, ho, hk, _⟩
    refine ⟨_, _, _, _, rfl, ?_, ho, .inl (putC_len zs t), hk⟩
    unfold putC
    split
    · exact at_in hl _ 4 (by omega) (by omega)
    · split
      · exact zero_in
      · split
        · exact zero_in
        · exact at_in hl _ 4 (by omega) (by omega)
theorem ObjNew_w (w : World) (ao : Option Addr) (cap : Nat) (zs : List Int) (p : Int) (hI : Ints w ao zs) (hl : zs.length ≤ 1048576) (hp : InB p) : Calls Tryz.prog 119 #[.agg #[.slice ao zs.length cap], .int .i64 p] w (NewV zs w) := by
  refine (spec_ObjNew_ok w ao cap zs p hI hl hp).mono ?_
  rintro e w' ⟨v, rfl, ho, hk, _⟩
  refine ⟨_, _, _, _, rfl, ?_, ho, objNewC_len zs p, hk⟩
  unfold objNewC
  split
  · unfold objC
    split
    · exact zero_in
    · exact at_in hl _ 5 (by omega) (by omega)
  · exact zero_in
theorem ScopeNew_w (w : World) (ao : Option Addr) (cap : Nat) (zs : List Int) (p n : Int) (hI : Ints w ao zs) (hl : zs.length ≤ 1048576) (hp : InB p) : Calls Tryz.prog 120 #[.agg #[.slice ao zs.length cap], .int .i64 p, .int .i64 n] w (NewV zs w) := by
  refine (spec_ScopeNew_ok w ao cap zs p n hI hl hp).mono ?_
  rintro e w' ⟨v, rfl, ho, hk, _⟩
  refine ⟨_, _, _, _, rfl, ?_, ho, scopeNewC_len zs p n, hk⟩
  unfold scopeNewC
  split
  · unfold scoC
    split
    · exact zero_in
    · exact at_in hl _ 7 (by omega) (by omega)
  · exact zero_in
theorem FunNew_w (w : World) (ao : Option Addr) (cap : Nat) (zs : List Int) (p n : Int) (hI : Ints w ao zs) (hl : zs.length ≤ 1048576) (hp : InB n) : Calls Tryz.prog 121 #[.agg #[.slice ao zs.length cap], .int .i64 p, .int .i64 n] w (NewV zs w) := by
  refine (spec_FunNew_ok w ao cap zs p n hI hl hp).mono ?_
  rintro e w' ⟨v, rfl, ho, hk, _⟩
  refine ⟨_, _, _, _, rfl, ?_, ho, funNewC_len zs p n, hk⟩
  unfold funNewC
  split
  · unfold funC
    split
    · exact zero_in
    · exact at_in hl _ 6 (by omega) (by omega)
  · exact zero_in
theorem PropSet_w (w : World) (ao : Option Addr) (cap : Nat) (zs : List Int) (p n v : Int) (hI : Ints w ao zs) (hl : zs.length ≤ 1048576) (hp : InB p) (hn : InB n) (hv : InB v) : Calls Tryz.prog 122 #[.agg #[.slice ao zs.length cap], .int .i64 p, .int .i64 n, .int .i64 v] w (NewP zs w) := by
  refine (spec_PropSet_ok w ao cap zs p n v hI hl hp hn hv).mono ?_
  rintro e w' ⟨u, rfl, ho, hk, _⟩
  exact ⟨_, _, _, rfl, ho, propC_len zs p n v, hk⟩
theorem VarSet_w (w : World) (ao : Option Addr) (cap : Nat) (zs : List Int) (p d n v : Int) (hI : Ints w ao zs) (hl : zs.length ≤ 1048576) (hp : InB p) (hn : InB n) (hv : InB v) : Calls Tryz.prog 123 #[.agg #[.slice ao zs.length cap], .int .i64 p, .int .i64 d, .int .i64 n, .int .i64 v] w (NewP zs w) := by
  refine (spec_VarSet_ok w ao cap zs p d n v hI hl hp hn hv).mono ?_
  rintro e w' ⟨u, rfl, ho, hk, _⟩
  exact ⟨_, _, _, rfl, ho, varC_len zs p d n v, hk⟩

theorem strs_cell (w : World) (l : List ByteArray) (C : Array Value) (t : TypeId) (hC : C = (l.map Value.string).toArray) (i : Nat) (hi : i < l.length) : (w.alloc (.cells C t)).cell? ⟨w.heap.size, 0 + i, none⟩ = some (.string (l.getD i ⟨#[]⟩)) := by
  subst hC
  rw [World.cell?_alloc_at _ _ _ _ rfl]
  simp [hi]
theorem l1Pick_at (c : Nat) (a : Option Addr) (len cap : Nat) (z : Nat → Int) (l : List ByteArray) (n : Nat) (hn : l.length = n) (hl0 : 0 < n) (hl : n ≤ 1000) (C : Array Value) (t : TypeId) (hC : C = (l.map Value.string).toArray) (w : World) (h : Cur w c a len cap z) :
    Calls Tryz.prog 118 #[.pointer (some ⟨c, 0, none⟩), .slice (some ⟨w.heap.size, 0, none⟩) n n] (w.alloc (.cells C t)) fun e w' => ∃ x : ByteArray, e = .returned (.string x) ∧ x ∈ l ∧ Keeps c w w' ∧ Cur w' c a len cap z := by
  subst hn
  have hlt := h.lt
  have h0 := h.alloc (.cells C t)
  have hcell := strs_cell w l C t hC
  have k0 : Keeps c w (w.alloc (.cells C t)) := (Keeps.refl _ _).alloc _
  have hsz : (w.alloc (.cells C t)).heap.size = w.heap.size + 1 := by simp
  obtain ⟨W0, hW0⟩ : ∃ W0, w.alloc (.cells C t) = W0 := ⟨_, rfl⟩
  rw [hW0] at h0 hcell k0 hsz ⊢
  clear hW0
  go_enter Tryz.func118, Tryz.ntmps118
  go_wp2_with fail
  refine (l1Below_ok c a len cap z l.length (by omega) _ h0).mono ?_
  rintro e w1 ⟨x, rfl, hx0, hx1, hk, hc⟩
  obtain ⟨k, rfl⟩ := Int.eq_ofNat_of_zero_le hx0
  have hx2 : (k : Int) < (l.length : Int) := hx1 (by omega)
  have hcw : w1.cell? ⟨w.heap.size, 0 + k, none⟩ = some (.string (l.getD k ⟨#[]⟩)) := (hk.cell (p := ⟨w.heap.size, 0 + k, none⟩) (by simp; omega) (by simp; omega)).trans (hcell k (by omega))
  simp only [Nat.zero_add] at hcw
  clear hx1 hcell
  go_wp2
  go_ret
  refine ⟨_, rfl, ?_, k0.trans hk, hc⟩
  have hk2 : k < l.length := by omega
  simp [List.getElem?_eq_getElem hk2]
end Go.Proofs.YtpljjeknphnnpaaGreat
namespace Go.Proofs.YtpljjeknphnnpaaGreat
open Go.RowKit

theorem OwnL.same {W W' : World} {base : Nat} {v : Value} {zs : List Int} (h : OwnL W base v zs) (hb : ∀ j, v.ownBlock = some j → W'.heap[j]? = W.heap[j]?) : OwnL W' base v zs := by
  obtain ⟨h0, h1, h2⟩ := h
  refine ⟨h0, h1, ?_⟩
  rcases h2 with ⟨e, hn⟩ | ⟨g, cap, cur, rfl, hg0, hg, r⟩
  · exact .inl ⟨e, hn⟩
  · exact .inr ⟨g, cap, cur, rfl, hg0, (hb g rfl).trans hg, r⟩
theorem OwnL.lt {W : World} {base : Nat} {v : Value} {zs : List Int} (h : OwnL W base v zs) : ∀ j, v.ownBlock = some j → base ≤ j ∧ j < W.heap.size := h.2.lt
theorem OwnL.row {W : World} {base g cr : Nat} {zs : List Int} (h : OwnL W base (.slice (some ⟨g, 0, none⟩) zs.length cr) zs) : Row W g zs := (Row.of_owns h.2 h.1).1
theorem OwnL.made (W : World) (base : Nat) (hb : base ≤ W.heap.size) (rs : List Int) (n : Nat) (C : Array Value) (hn : rs.length = n) (hC : C = (rs.map (Value.int .i64)).toArray) (h0 : ∀ z ∈ rs, -9223372036854775808 ≤ z ∧ z ≤ 9223372036854775807) (hm : n ≤ 1000) : OwnL (W.alloc (.cells C 3)) base (.slice (some ⟨W.heap.size, 0, none⟩) n n) rs := by
  subst hn hC
  refine ⟨h0, by simp, .inr ⟨W.heap.size, rs.length, _, rfl, hb, Cells.new W 3 _, Nat.le_refl _, by unfold maxLen; omega, by simp, by simp [List.take_of_length_le]⟩⟩
theorem app_vals {W : World} {base : Nat} {v : Value} {zs : List Int} {x : Int} {n : Nat} {xs : List Value} (hb : ∀ y ∈ zs, -9223372036854775808 ≤ y ∧ y ≤ 9223372036854775807) (hx : InB x) (h : W.ownsRow base 3 1 v n xs) (hn : n = zs.length + 1 := by rfl) (hxs : xs = zs.map (Value.int .i64) ++ [.int .i64 x] := by rfl) : ∃ g' cp', v = .slice (some ⟨g', 0, none⟩) (zs.length + 1) cp' ∧ OwnL W base (.slice (some ⟨g', 0, none⟩) (zs ++ [x]).length cp') (zs ++ [x]) := by
  subst hn hxs
  have o3 : OwnL W base v (zs ++ [x]) := ⟨fun y hy => by rcases List.mem_append.1 hy with h | h; exact hb y h; simp at h; subst h; exact hx, by simpa using h⟩
  rcases o3.cases with ⟨_, e⟩ | ⟨g', cp', rfl, _⟩
  · simp at e
  · exact ⟨g', cp', by simp, o3⟩

/-- The state of l3DrawHeap: its slab, in its variable at block B, its values, and the cursor. -/
structure HS (c : Nat) (a : Option Addr) (len cap : Nat) (z : Nat → Int) (w0 : World) (B : Nat) (v : Value) (zs : List Int) (gr cr : Nat) (rs : List Int) (w : World) : Prop where
  keeps : Keeps c w0 w
  cur : Cur w c a len cap z
  cell : Cells w B 26 #[v]
  res : Cells w w0.heap.size 26 #[.slice none 0 0]
  own : OwnR w w0.heap.size v zs
  roots : OwnL w w0.heap.size (.slice (some ⟨gr, 0, none⟩) rs.length cr) rs
  apart : ∀ j, v.ownBlock = some j → j ≠ gr
  c0 : c < w0.heap.size
  hB : w0.heap.size < B
  len200 : zs.length ≤ 200
theorem OwnR.rowI {W : World} {base g n : Nat} {zs : List Int} (h : OwnR W base (.slice (some ⟨g, 0, none⟩) zs.length n) zs) : Ints W (some ⟨g, 0, none⟩) zs := by
  obtain ⟨_, _, e, hI⟩ := h.ints
  cases e
  exact hI
section
variable {c : Nat} {a : Option Addr} {len cap : Nat} {z : Nat → Int} {w0 : World} {B : Nat} {v : Value} {zs : List Int} {gr cr : Nat} {rs : List Int} {w w' : World}
theorem HS.grIn (h : HS c a len cap z w0 B v zs gr cr rs w) : w0.heap.size ≤ gr ∧ gr < w.heap.size := h.roots.lt gr rfl
theorem HS.go (h : HS c a len cap z w0 B v zs gr cr rs w) (hk : Keeps c w w') (hc : Cur w' c a len cap z) : HS c a len cap z w0 B v zs gr cr rs w' := by
  have hc0 := h.c0
  have hB := h.hB
  have hg := h.grIn
  exact ⟨h.keeps.trans hk, hc, h.cell.keeps hk (by omega), h.res.keeps hk (by omega), h.own.keeps hk hc0, h.roots.same (fun j e => by cases e; exact hk.block _ hg.2 (by show gr ≠ c; omega)), h.apart, hc0, hB, h.len200⟩
theorem HS.kept (h : HS c a len cap z w0 B v zs gr cr rs w) (hk : Kept w w') : HS c a len cap z w0 B v zs gr cr rs w' := h.go (hk.keeps c) (h.cur.kept hk)
theorem HS.notB (h : HS c a len cap z w0 B v zs gr cr rs w) : gr ≠ B := h.roots.row.notCells h.cell (by decide)
/-- The variable is written with a slab that is new. -/
theorem HS.put (h : HS c a len cap z w0 B v zs gr cr rs w) (hk : Kept w w') {v' : Value} {zs' : List Int} (ho : OwnR w' w.heap.size v' zs') (hl : zs'.length ≤ 200) : HS c a len cap z w0 B v' zs' gr cr rs (w'.setCell ⟨B, 0, none⟩ v') := by
  have h' := h.kept hk
  have hc0 := h.c0
  have hB := h.hB
  have hg := h.grIn
  have hnB := h.notB
  have hs := h.keeps.size
  have hother : ∀ k, k ≠ B → (w'.setCell ⟨B, 0, none⟩ v').heap[k]? = w'.heap[k]? := fun k hk => Below.heap_setCell _ _ _ _ hk
  have hsz : (w'.setCell ⟨B, 0, none⟩ v').heap.size = w'.heap.size := by simp [World.setCell]
  refine ⟨⟨h'.keeps.os, h'.keeps.tape, h'.keeps.output, by rw [hsz]; exact h'.keeps.size, fun i hi hc => (hother i (by omega)).trans (h'.keeps.block i hi hc)⟩, h'.cur.upto (by omega) (fun i hi => hother i (by omega)), h'.cell.set1 v', h'.res.other (by simp; omega) _, (ho.other h'.cell (by decide) v').base (by omega), h'.roots.same (fun j e => by cases e; exact hother _ hnB), fun j e => by have := (ho.block j e).1; omega, hc0, hB, hl⟩
/-- The values are others, that are new or lie where they lay. -/
theorem HS.vals (h : HS c a len cap z w0 B v zs gr cr rs w) (hg : w.grownBy w' (some gr)) {gr' cr' : Nat} {rs' : List Int} (ho : OwnL w' w0.heap.size (.slice (some ⟨gr', 0, none⟩) rs'.length cr') rs') (hn : gr' = gr ∨ w.heap.size ≤ gr') : HS c a len cap z w0 B v zs gr' cr' rs' w' := by
  have hc0 := h.c0
  have hB := h.hB
  have hgi := h.grIn
  have hnB := h.notB
  have hs := h.keeps.size
  have hbl : ∀ k, k < w.heap.size → k ≠ gr → w'.heap[k]? = w.heap[k]? := fun k h1 h2 => hg.block k h1 (by intro e; cases e; exact h2 rfl)
  refine ⟨⟨hg.os.trans h.keeps.os, hg.tape.trans h.keeps.tape, hg.output.trans h.keeps.output, Nat.le_trans hs hg.size, fun i hi hc => (hbl i (by omega) (by omega)).trans (h.keeps.block i hi hc)⟩, h.cur.upto hg.size (fun i hi => hbl i (by omega) (by omega)), (hbl B h.cell.lt (by omega)).trans h.cell, ?_, h.own.grown hg (fun k e j hj => by cases e; exact h.apart j hj), ho, fun j e => ?_, hc0, hB, h.len200⟩
  · have hr := h.res
    have hne : w0.heap.size ≠ gr := fun e => h.roots.row.notCells hr (by decide) e.symm
    exact (hbl _ hr.lt hne).trans hr
  · have h1 := h.apart j e
    have h2 := (h.own.block j e).2
    rcases hn with rfl | hn
    · exact h1
    · omega
end
def heapNs : List Int := [12, 40, 90, 200]
theorem heapNs_in : ∀ x ∈ heapNs, ∃ n : Nat, x = n ∧ 2 ≤ n ∧ n ≤ 200 := by
  intro x hx
  simp [heapNs] at hx
  rcases hx with rfl | rfl | rfl | rfl
  · exact ⟨12, rfl, by omega, by omega⟩
  · exact ⟨40, rfl, by omega, by omega⟩
  · exact ⟨90, rfl, by omega, by omega⟩
  · exact ⟨200, rfl, by omega, by omega⟩
def heapTs : List ByteArray := [⟨#[97]⟩, ⟨#[98]⟩, ⟨#[107, 101, 121]⟩, ⟨#[]⟩]

set_option maxHeartbeats 32000000 in
set_option maxRecDepth 100000 in
theorem l3DrawHeap_ok (c : Nat) (a : Option Addr) (len cap : Nat) (z : Nat → Int) (w : World) (h : Cur w c a len cap z) :
    Calls Tryz.prog 83 #[.pointer (some ⟨c, 0, none⟩)] w fun e w' => ∃ v zs gr cr rs, e = .returned (.tuple #[.agg #[v], .slice (some ⟨gr, 0, none⟩) rs.length cr]) ∧ OwnR w' w.heap.size v zs ∧ 2 ≤ zs.length ∧ zs.length ≤ 200 ∧ OwnL w' w.heap.size (.slice (some ⟨gr, 0, none⟩) rs.length cr) rs ∧ 0 < rs.length ∧ rs.length ≤ 40 ∧ (∀ j, v.ownBlock = some j → j ≠ gr) ∧ Keeps c w w' ∧ Cur w' c a len cap z := by
  obtain ⟨i0, hi, hz0, hz1, hz2⟩ := info_parts infoI
  have hc0 := h.lt
  have h0 := h.alloc (.cells #[.slice none 0 0] 26)
  have b0 := Cells.new w 26 #[.slice none 0 0]
  have kk0 : Keeps c w (w.alloc (.cells #[.slice none 0 0] 26)) := (Keeps.refl _ _).alloc _
  have hP := l1PickInt_at c a len cap z heapNs 4 rfl (by omega) (by omega) _ 3 rfl _ h0
  simp only [World.size_alloc] at hP
  go_enter Tryz.func83, Tryz.ntmps83
  go_wp2_with fail
  refine hP.mono ?_
  rintro e w1 ⟨x, rfl, hx, hk1, hc1⟩
  obtain ⟨n0, rfl, hn2, hn200⟩ := heapNs_in x hx
  have b1 := b0.keeps hk1 (by omega)
  have K1 := kk0.trans hk1
  clear hP hx kk0 b0 h0 h hk1
  go_wp2_with fail
  refine (spec_SlabNew_yes _ n0 hn2 (by omega)).mono ?_
  rintro e w2 ⟨g2, rfl, hg2, hR2, hk2, _⟩
  have ka : Kept w2 (w2.alloc (.cells #[.slice (some ⟨g2, 0, none⟩) n0 n0] 26)) := Kept.alloc (Below.refl _ _) _
  have b2 := (b1.kept hk2).kept ka
  have x2 := Cells.new w2 26 #[.slice (some ⟨g2, 0, none⟩) n0 n0]
  have C2 := (hc1.kept hk2).kept ka
  have K2 := K1.trans ((hk2.trans ka).keeps c)
  have R2 := hR2.kept ka
  have lB : w.heap.size < w2.heap.size := by have := b1.lt; have := hk2.size; omega
  have ls : w.heap.size ≤ g2 := by have := b1.lt; omega
  clear b1 K1 hk2 hR2 hc1
  obtain ⟨B, hBd⟩ : ∃ B, w2.heap.size = B := ⟨_, rfl⟩
  rw [hBd] at x2 lB
  have lB' := x2.lt
  go_wp2_with fail
  refine (l1Below_ok c a len cap z 9 (by omega) _ C2).mono ?_
  rintro e w3 ⟨y, rfl, hy0, hy1, hk3, hc3⟩
  have hy2 : y < 9 := hy1 (by omega)
  have x3 := x2.keeps hk3 (by omega)
  have b3 := b2.keeps hk3 (by omega)
  have R3 := R2.keeps hk3 (by omega)
  have K3 := K2.trans hk3
  have hwb := Plain.wrap32_bd y
  obtain ⟨yw, hyw⟩ : ∃ yw, 8 * wrap32 y + 3 = yw := ⟨_, rfl⟩
  have hywb : InB yw := by unfold InB; omega
  have hIO := spec_IntOf_ok y w3
  rw [hyw] at hIO
  clear hy1 hk3 x2 b2 R2 K2 C2 hyw hwb ka hBd
  go_wp2_with (first | (go_at_call 115; refine hIO.mono ?_; rintro e wx ⟨rfl, rfl⟩) | (go_at_call 116; refine (spec_BoolOf_ok _ _).mono ?_; rintro e wx ⟨rfl, rfl⟩) | (go_at_call 84; fail))
  have hs3 := K3.size
  have HS0 : HS c a len cap z w B (.slice (some ⟨g2, 0, none⟩) n0 n0) (newL n0) w3.heap.size 4 [0, 1, yw, 10] (w3.alloc (.cells #[.int .i64 0, .int .i64 1, .int .i64 yw, .int .i64 10] 3)) := by
    have kb : Kept w3 (w3.alloc (.cells #[.int .i64 0, .int .i64 1, .int .i64 yw, .int .i64 10] 3)) := Kept.alloc (Below.refl _ _) _
    refine ⟨K3.trans (kb.keeps c), hc3.kept kb, x3.kept kb, b3.kept kb, .inr ⟨g2, n0, by rw [newL_len], ls, by rw [newL_len]; omega, R3.kept kb⟩, OwnL.made w3 w.heap.size hs3 [0, 1, yw, 10] 4 _ rfl rfl (by intro q hq; simp at hq; unfold InB at hywb; rcases hq with rfl | rfl | rfl | rfl <;> omega) (by omega), fun j e => ?_, hc0, lB, by rw [newL_len]; omega⟩
    cases e
    have := R3.lt
    show g2 ≠ w3.heap.size
    omega
  clear x3 b3 R3 K3 hc3 hIO hs3
  refine (l1Below_ok c a len cap z 25 (by omega) _ HS0.cur).mono ?_
  rintro e w4 ⟨nn, rfl, hnn0, hnn1, hk4, hc4⟩
  have hnn2 : nn < 25 := hnn1 (by omega)
  obtain ⟨m, rfl⟩ : ∃ m : Nat, nn = m := ⟨nn.toNat, by omega⟩
  have HS4 := HS0.go hk4 hc4
  clear hnn1 hnn0 hk4 hc4 HS0
  go_wp2_with fail
  go_loopw [6, 8] (fun s6 s8 wr => ∃ (k gr cr gs cs : Nat) (rs zs : List Int), s6 = .slice (some ⟨gr, 0, none⟩) rs.length cr ∧ s8 = .int .i64 k ∧ k ≤ m ∧ 0 < rs.length ∧ rs.length ≤ 4 + k ∧ 2 ≤ zs.length ∧ HS c a len cap z w B (.slice (some ⟨gs, 0, none⟩) zs.length cs) zs gr cr rs wr) (fun _ s8 _ => m - (intOf s8).toNat)
  case atStart => exact ⟨0, w3.heap.size, 4, g2, n0, [0, 1, yw, 10], newL n0, rfl, rfl, Nat.zero_le _, by simp, by simp, by rw [newL_len]; exact hn2, by rw [newL_len]; exact HS4⟩
  case round =>
    obtain ⟨k, gr, cr, gs, cs, rs, zs, rfl, rfl, hkm, hr0, hr1, hz2', HSk⟩ := hrel
    have hl200 := HSk.len200
    clear HS4
    by_cases hlt : k < m
    · have q1 : (k : Int) < (m : Int) := by omega
      have hrb := HSk.roots.row.ints.bd
      have HBd : Hid _ := hrb
      clear hrb
      go_wp2_with fail
      refine (l1Below_ok c a len cap z (rs.length : Int) (by omega) _ HSk.cur).mono ?_
      rintro e wa ⟨x0, rfl, hx0, hx1, hkx, hcx⟩
      have hx2 : x0 < (rs.length : Int) := hx1 (by omega)
      obtain ⟨xa, rfl⟩ : ∃ xa : Nat, x0 = xa := ⟨x0.toNat, by omega⟩
      have HSa := HSk.go hkx hcx
      have cxa := HSa.roots.row.cell (j := xa) (by omega)
      have ira : InB (hz rs xa) := HBd.out xa
      obtain ⟨ra, hra⟩ : ∃ ra, hz rs xa = ra := ⟨_, rfl⟩
      rw [hra] at cxa ira
      clear hx1 hx0 hkx hcx hra HSk
      go_wp2_with fail
      refine (l1Below_ok c a len cap z (rs.length : Int) (by omega) _ HSa.cur).mono ?_
      rintro e wb ⟨x0, rfl, hx0, hx1, hkx, hcx⟩
      have hx2 : x0 < (rs.length : Int) := hx1 (by omega)
      obtain ⟨xb, rfl⟩ : ∃ xb : Nat, x0 = xb := ⟨x0.toNat, by omega⟩
      have HSb := HSa.go hkx hcx
      have cxb := HSb.roots.row.cell (j := xb) (by omega)
      have irb : InB (hz rs xb) := HBd.out xb
      obtain ⟨rb, hrb⟩ : ∃ rb, hz rs xb = rb := ⟨_, rfl⟩
      rw [hrb] at cxb irb
      clear hx1 hx0 hkx hcx hrb HSa
      go_wp2_with fail
      refine (l1Below_ok c a len cap z (rs.length : Int) (by omega) _ HSb.cur).mono ?_
      rintro e wc0 ⟨x0, rfl, hx0, hx1, hkx, hcx⟩
      have hx2 : x0 < (rs.length : Int) := hx1 (by omega)
      obtain ⟨xc, rfl⟩ : ∃ xc : Nat, x0 = xc := ⟨x0.toNat, by omega⟩
      have HSc := HSb.go hkx hcx
      have cxc := HSc.roots.row.cell (j := xc) (by omega)
      have irc : InB (hz rs xc) := HBd.out xc
      obtain ⟨rc, hrc⟩ : ∃ rc, hz rs xc = rc := ⟨_, rfl⟩
      rw [hrc] at cxc irc
      clear hx1 hx0 hkx hcx hrc HSb
      have lBx := HSc.cell.lt
      go_wp2_with fail
      refine (l1Below_ok c a len cap z 8 (by omega) _ HSc.cur).mono ?_
      rintro e wd ⟨nd, rfl, hnd0, hnd1, hkd, hcd⟩
      have hnd2 : nd < 8 := hnd1 (by omega)
      have HSd := HSc.go hkd hcd
      clear HSc hkd hcd hnd1
      have lB2 := HSd.cell.lt
      go_upto_block 2 with fail
      go_cut [12, 13] from 28 to 140 (fun s12 s13 wx => ∃ (v' : Value) (zs' : List Int) (x : Int) (y : Bool), s12 = .int .i64 x ∧ InB x ∧ s13 = .bool y ∧ (zs'.length = zs.length ∨ zs'.length = 0) ∧ HS c a len cap z w B v' zs' gr cr rs wx)
      case first =>
        have cB := HSd.cell.cell 0
        rcases (show nd = 0 ∨ nd = 1 ∨ nd = 2 ∨ nd = 3 ∨ nd = 4 ∨ nd = 5 ∨ nd = 6 ∨ nd = 7 by omega) with rfl | rfl | rfl | rfl | rfl | rfl | rfl | rfl
        · have HSx := HSd.kept (Below.refl _ wd).drew
          have cx := HSx.cell.cell 0
          clear HSd
          go_wp2_with fail
          go_region_with (first | (go_at_call 118; refine (l1Pick_at c a len cap z heapTs 4 rfl (by omega) (by omega) _ 9 rfl _ HSx.cur).mono ?_; rintro e wy ⟨yy, rfl, _, hky, hcy⟩; have HSy := HSx.go hky hcy; have cy := HSy.cell.cell 0) | (go_at_call 117; refine (TextPut_w _ _ cs zs yy HSy.own.rowI (by omega)).mono ?_; rintro e wm ⟨vm, zm, xm1, ym, rfl, hxm, om, hlm, hkm⟩; obtain ⟨lam, lcm, rfl, _⟩ := om.ints; have xm := HSy.cell.kept hkm; have cm := xm.cell 0; have fm := xm.frozen 0; have HSm := HSy.put hkm om (by omega)))
          all_goals (go_wp2_with fail; go_meet; exact ⟨_, zm, xm1, ym, rfl, hxm, rfl, hlm, HSm⟩)
        · have HSx := HSd.kept (Below.refl _ wd).drew
          have cx := HSx.cell.cell 0
          clear HSd
          go_wp2_with fail
          go_region_with (first | (go_at_call 118; refine (l1Pick_at c a len cap z heapTs 4 rfl (by omega) (by omega) _ 9 rfl _ HSx.cur).mono ?_; rintro e wy ⟨yy, rfl, _, hky, hcy⟩; have HSy := HSx.go hky hcy; have cy := HSy.cell.cell 0) | (go_at_call 117; refine (TextPut_w _ _ cs zs yy HSy.own.rowI (by omega)).mono ?_; rintro e wm ⟨vm, zm, xm1, ym, rfl, hxm, om, hlm, hkm⟩; obtain ⟨lam, lcm, rfl, _⟩ := om.ints; have xm := HSy.cell.kept hkm; have cm := xm.cell 0; have fm := xm.frozen 0; have HSm := HSy.put hkm om (by omega)))
          all_goals (go_wp2_with fail; go_meet; exact ⟨_, zm, xm1, ym, rfl, hxm, rfl, hlm, HSm⟩)
        · go_wp2_with (go_at_call 119; refine (ObjNew_w _ _ cs zs 1 HSd.own.rowI (by omega) (by unfold InB; omega)).mono ?_; rintro e wm ⟨vm, zm, xm1, ym, rfl, hxm, om, hlm, hkm⟩; obtain ⟨lam, lcm, rfl, _⟩ := om.ints; have xm := HSd.cell.kept hkm; have cm := xm.cell 0; have fm := xm.frozen 0; have HSm := HSd.put hkm om (by omega))
          go_meet
          exact ⟨_, zm, xm1, ym, rfl, hxm, rfl, hlm, HSm⟩
        · go_wp2_with (go_at_call 119; refine (ObjNew_w _ _ cs zs ra HSd.own.rowI (by omega) ira).mono ?_; rintro e wm ⟨vm, zm, xm1, ym, rfl, hxm, om, hlm, hkm⟩; obtain ⟨lam, lcm, rfl, _⟩ := om.ints; have xm := HSd.cell.kept hkm; have cm := xm.cell 0; have fm := xm.frozen 0; have HSm := HSd.put hkm om (by omega))
          go_meet
          exact ⟨_, zm, xm1, ym, rfl, hxm, rfl, hlm, HSm⟩
        · have HSx := HSd.kept (Below.refl _ wd).drew
          have cx := HSx.cell.cell 0
          clear HSd
          go_wp2_with fail
          go_region_with (first | (go_at_call 84; refine (l1Below_ok c a len cap z 3 (by omega) _ HSx.cur).mono ?_; rintro e wy ⟨yy, rfl, hy0, hy1, hky, hcy⟩; have HSy := HSx.go hky hcy; have cy := HSy.cell.cell 0; have hyb : InB yy := (by have := hy1 (by omega); unfold InB; omega)) | (go_at_call 120; refine (ScopeNew_w _ _ cs zs 0 yy HSy.own.rowI (by omega) zero_in).mono ?_; rintro e wm ⟨vm, zm, xm1, ym, rfl, hxm, om, hlm, hkm⟩; obtain ⟨lam, lcm, rfl, _⟩ := om.ints; have xm := HSy.cell.kept hkm; have cm := xm.cell 0; have fm := xm.frozen 0; have HSm := HSy.put hkm om (by omega)))
          all_goals (go_wp2_with fail; go_meet; exact ⟨_, zm, xm1, ym, rfl, hxm, rfl, hlm, HSm⟩)
        · have HSx := HSd.kept (Below.refl _ wd).drew
          have cx := HSx.cell.cell 0
          clear HSd
          go_wp2_with fail
          go_region_with (first | (go_at_call 84; refine (l1Below_ok c a len cap z 5 (by omega) _ HSx.cur).mono ?_; rintro e wy ⟨yy, rfl, hy0, hy1, hky, hcy⟩; have HSy := HSx.go hky hcy; have cy := HSy.cell.cell 0; have hyb : InB yy := (by have := hy1 (by omega); unfold InB; omega)) | (go_at_call 121; refine (FunNew_w _ _ cs zs yy ra HSy.own.rowI (by omega) ira).mono ?_; rintro e wm ⟨vm, zm, xm1, ym, rfl, hxm, om, hlm, hkm⟩; obtain ⟨lam, lcm, rfl, _⟩ := om.ints; have xm := HSy.cell.kept hkm; have cm := xm.cell 0; have fm := xm.frozen 0; have HSm := HSy.put hkm om (by omega)))
          all_goals (go_wp2_with fail; go_meet; exact ⟨_, zm, xm1, ym, rfl, hxm, rfl, hlm, HSm⟩)
        · go_wp2_with (go_at_call 122; refine (PropSet_w _ _ cs zs ra rb rc HSd.own.rowI (by omega) ira irb irc).mono ?_; rintro e wm ⟨vm, zm, ym, rfl, om, hlm, hkm⟩; obtain ⟨lam, lcm, rfl, _⟩ := om.ints; have xm := HSd.cell.kept hkm; have cm := xm.cell 0; have fm := xm.frozen 0; have HSm := HSd.put hkm om (by omega))
          go_meet
          exact ⟨_, zm, 0, false, rfl, zero_in, rfl, hlm, HSm⟩
        · have HSx := HSd.kept (Below.refl _ wd).drew
          have cx := HSx.cell.cell 0
          clear HSd
          go_wp2_with fail
          go_region_with (first | (go_at_call 84; refine (l1Below_ok c a len cap z 2 (by omega) _ HSx.cur).mono ?_; rintro e wy ⟨yy, rfl, hy0, hy1, hky, hcy⟩; have HSy := HSx.go hky hcy; have cy := HSy.cell.cell 0; have hyb : InB yy := (by have := hy1 (by omega); unfold InB; omega)) | (go_at_call 123; refine (VarSet_w _ _ cs zs ra 0 yy rb HSy.own.rowI (by omega) ira hyb irb).mono ?_; rintro e wm ⟨vm, zm, ym, rfl, om, hlm, hkm⟩; obtain ⟨lam, lcm, rfl, _⟩ := om.ints; have xm := HSy.cell.kept hkm; have cm := xm.cell 0; have fm := xm.frozen 0; have HSm := HSy.put hkm om (by omega)))
          all_goals (go_wp2_with fail; go_meet; exact ⟨_, zm, 0, false, rfl, zero_in, rfl, hlm, HSm⟩)
      case rest =>
        obtain ⟨v', zs', x', y', rfl, hx', rfl, hzl, HSe⟩ := hcut
        obtain ⟨la, lc, rfl, _⟩ := HSe.own.ints
        have ce := HSe.cell.cell 0
        have fe := HSe.cell.frozen 0
        have le := HSe.cell.lt
        clear HSd
        by_cases hemp : zs'.length = 0
        · have he1 : ((zs'.length : Int) == 0) = true := by simp [hemp]
          have HSE : Hid _ := HSe
          go_wp2_with fail
          refine (spec_SlabNew_yes _ 30 (by omega) (by omega)).mono ?_
          rintro e wf ⟨gf, rfl, hgf, hRf, hkf, _⟩
          have HSf := HSe.put hkf (v' := .slice (some ⟨gf, 0, none⟩) 30 30) (zs' := newL 30) (.inr ⟨gf, 30, by rw [newL_len], hgf, by rw [newL_len]; omega, hRf⟩) (by rw [newL_len]; omega)
          have cf := (HSe.cell.kept hkf).cell 0
          have ff := (HSe.cell.kept hkf).frozen 0
          clear HSe ce fe
          go_wp2_with fail
          have hsf := HSf.keeps.size
          have kb := fun W : World => Kept.alloc (Below.refl _ W) (.cells #[.int .i64 0, .int .i64 1] 3)
          have ho := OwnL.made (wf.setCell ⟨B, 0, none⟩ (.slice (some ⟨gf, 0, none⟩) 30 30)) w.heap.size hsf [0, 1] 2 #[.int .i64 0, .int .i64 1] rfl rfl (by simp) (by omega)
          have HSg := HSf.vals (grown_any (kb _) (some gr)) (cr' := 2) (rs' := [0, 1]) ho (.inr (Nat.le_refl _))
          rw [show (wf.setCell ⟨B, 0, none⟩ (.slice (some ⟨gf, 0, none⟩) 30 30)).heap.size = wf.heap.size by simp [World.setCell]] at HSg
          go_roundw
          case rel => exact ⟨k + 1, wf.heap.size, 2, gf, 30, [0, 1], newL 30, rfl, by go_num, by omega, by simp, by simp; omega, by rw [newL_len]; omega, by rw [newL_len]; exact HSg⟩
          case measure => simp [intOf]; omega
        · have he1 : ((zs'.length : Int) == 0) = false := beq_eq_false_iff_ne.2 (by omega)
          obtain ⟨gs', rfl⟩ : ∃ gs', la = some ⟨gs', 0, none⟩ := by
            rcases HSe.own with ⟨e, e'⟩ | ⟨g', c', e, _⟩
            · rw [e'] at hemp; simp at hemp
            · cases e; exact ⟨g', rfl⟩
          have hz2e : 2 ≤ zs'.length := by omega
          cases y' with
          | false =>
            have HSE : Hid _ := HSe
            go_wp2_with fail
            go_roundw
            case rel => exact ⟨k + 1, gr, cr, gs', lc, rs, zs', rfl, by go_num, by omega, hr0, by omega, hz2e, HSE.out⟩
            case measure => simp [intOf]; omega
          | true =>
            have hrow := HSe.roots
            have hgr := HSe.grIn
            have hbb := HSe.roots.1
            have ho := hrow.2
            have HSE : Hid _ := HSe
            go_wp2_with (at_builtin; refine wpList_append_own_at _ rfl _ _ 24 rfl w.heap.size 3 i0 (.int .i64 0) 1 8 Tryz.underlying24 hi hz0 hz1 hz2 rfl (by decide) _ _ _ rfl (ho.alloc _) ⟨wc.heap.size, 0, none⟩ 1 1 [.int .i64 x'] rfl rfl (cell_one_new _ _ _) (by simp [Value.oneCell']) (by unfold maxLen; omega) (by omega) (by simp; omega) ?_; intro v'' wn hown' hgrow0 _ hblk; have hgrow : (wc.alloc (.cells #[.int .i64 x'] 3)).grownBy wn (some gr) := hgrow0; obtain ⟨g', cp', rfl, hO'⟩ := app_vals hbb hx' hown')
            have HSn := (HSE.out.kept (Kept.alloc (Below.refl _ wc) (.cells #[.int .i64 x'] 3))).vals hgrow hO' (by
              rcases hblk with e | e
              · exact .inl (Option.some.inj e)
              · exact .inr (Nat.le_of_eq (Option.some.inj e).symm))
            go_roundw
            case rel => exact ⟨k + 1, g', cp', gs', lc, rs ++ [x'], zs', by simp, by go_num, by omega, by simp, by simp; omega, hz2e, HSn⟩
            case measure => simp [intOf]; omega
    · have hg : ¬ (k : Int) < (m : Int) := by omega
      have cB := HSk.cell.cell 0
      have cr0 := HSk.res.cell 0
      have fr0 := HSk.res.frozen 0
      have hlB := HSk.cell.lt
      have HK : Hid _ := HSk
      go_wp2_with fail
      have hS := HK.out
      have hne : gs ≠ w.heap.size := fun e => by
        rcases hS.own with ⟨e', _⟩ | ⟨g', c', e', _, _, hR⟩
        · cases e'
        · cases e'; exact hR.notCells hS.res (by decide) e
      have hgr : gr ≠ w.heap.size := hS.roots.row.notCells hS.res (by decide)
      have q := (hS.res.set1 (.slice (some ⟨gs, 0, none⟩) zs.length cs)).cell 0
      have hsz : (wr.setCell ⟨w.heap.size, 0, none⟩ (.slice (some ⟨gs, 0, none⟩) zs.length cs)).heap.size = wr.heap.size := by simp [World.setCell]
      have hoth : ∀ i, i ≠ w.heap.size → (wr.setCell ⟨w.heap.size, 0, none⟩ (.slice (some ⟨gs, 0, none⟩) zs.length cs)).heap[i]? = wr.heap[i]? := fun i hi => Below.heap_setCell _ _ _ _ hi
      refine bodyPost_ret (v := .tuple #[.agg #[.slice (some ⟨gs, 0, none⟩) zs.length cs], .slice (some ⟨gr, 0, none⟩) rs.length cr]) (by simp [results, Tryz.results83, go_sem, q]) rfl ⟨_, zs, gr, cr, rs, rfl, hS.own.other hS.res (by decide) _, hz2', hl200, hS.roots.same (fun j e => by cases e; exact hoth _ hgr), hr0, by omega, hS.apart, ⟨hS.keeps.os, hS.keeps.tape, hS.keeps.output, by rw [hsz]; exact hS.keeps.size, fun i hi hc => (hoth i (by omega)).trans (hS.keeps.block i hi hc)⟩, hS.cur.upto (by omega) (fun i hi => hoth i (by omega))⟩
end Go.Proofs.YtpljjeknphnnpaaGreat
namespace Go.Proofs.YtpljjeknphnnpaaGreat
open Go.RowKit

theorem OwnR.ownI {W : World} {base : Nat} {v : Value} {zs : List Int} (h : OwnR W base v zs) : OwnI W base v zs := by
  rcases h with ⟨rfl, rfl⟩ | ⟨g, cp, rfl, hb, hcp, hR⟩
  · exact ⟨none, 0, rfl, ⟨by simp, .inl rfl⟩, by simp⟩
  · exact OwnI.ofRow hR hb hcp
theorem OwnL.ownI {W : World} {base : Nat} {v : Value} {zs : List Int} (h : OwnL W base v zs) : OwnI W base v zs := by
  rcases h.cases with ⟨rfl, rfl⟩ | ⟨g, cp, rfl, hb, hcp, _, hR⟩
  · exact ⟨none, 0, rfl, ⟨by simp, .inl rfl⟩, by simp⟩
  · exact OwnI.ofRow hR hb hcp
theorem OwnL.base {W : World} {base base' : Nat} {v : Value} {zs : List Int} (h : OwnL W base v zs) (hb : base' ≤ base) : OwnL W base' v zs := ⟨h.1, ownsRow_base h.2 hb⟩
theorem OwnR.rowR {W : World} {base g n : Nat} {zs : List Int} (h : OwnR W base (.slice (some ⟨g, 0, none⟩) zs.length n) zs) : Row W g zs := by
  rcases h with ⟨e, _⟩ | ⟨g', c', e, _, _, hR⟩
  · cases e
  · cases e; exact hR
section
variable {c : Nat} {a : Option Addr} {len cap : Nat} {z : Nat → Int} {w0 : World} {B : Nat} {v : Value} {zs : List Int} {gr cr : Nat} {rs : List Int} {w w' : World}
/-- A word of the slab is written. -/
theorem HS.word {gs cs j : Nat} {x : Int} (h : HS c a len cap z w0 B (.slice (some ⟨gs, 0, none⟩) zs.length cs) zs gr cr rs w) (hj : j < zs.length) (hx : InB x) : HS c a len cap z w0 B (.slice (some ⟨gs, 0, none⟩) zs.length cs) (zs.set j x) gr cr rs (w.setCell ⟨gs, j, none⟩ (.int .i64 x)) := by
  have hR := h.own.rowR
  have hc0 := h.c0
  have hB := h.hB
  have hgs := (h.own.block gs rfl).1
  have hnB : gs ≠ B := hR.notCells h.cell (by decide)
  have hnr : gs ≠ w0.heap.size := hR.notCells h.res (by decide)
  have hap := h.apart gs rfl
  have hcap : zs.length ≤ cs := by
    rcases h.own with ⟨e, _⟩ | ⟨g', c', e, _, hc, _⟩
    · cases e
    · cases e; exact hc
  have hother : ∀ k, k ≠ gs → (w.setCell ⟨gs, j, none⟩ (.int .i64 x)).heap[k]? = w.heap[k]? := fun k hk => Below.heap_setCell _ _ _ _ hk
  have hsz : (w.setCell ⟨gs, j, none⟩ (.int .i64 x)).heap.size = w.heap.size := by simp [World.setCell]
  exact ⟨⟨h.keeps.os, h.keeps.tape, h.keeps.output, by rw [hsz]; exact h.keeps.size, fun i hi hc => (hother i (by omega)).trans (h.keeps.block i hi hc)⟩, h.cur.upto (by omega) (fun i hi => hother i (by omega)), (hother B (fun e => hnB e.symm)).trans h.cell, (hother _ (fun e => hnr e.symm)).trans h.res, .inr ⟨gs, cs, by simp, hgs, by simpa using hcap, hR.set hj hx⟩, h.roots.same (fun i e => by cases e; exact hother _ (fun e => hap e.symm)), h.apart, hc0, hB, by simpa using h.len200⟩
end
theorem draw_done {c : Nat} {a : Option Addr} {len cap : Nat} {z : Nat → Int} {w0 w : World} {v rv : Value} {zs rs : List Int} (hK : Keeps c w0 w) (hC : Cur w c a len cap z) (hres : Cells w w0.heap.size 26 #[.slice none 0 0]) (hV : OwnI w w0.heap.size v zs) (hR : OwnI w w0.heap.size rv rs) (hc0 : c < w0.heap.size) :
    Cells (w.setCell ⟨w0.heap.size, 0, none⟩ v) w0.heap.size 26 #[v] ∧ OwnI (w.setCell ⟨w0.heap.size, 0, none⟩ v) w0.heap.size v zs ∧ OwnI (w.setCell ⟨w0.heap.size, 0, none⟩ v) w0.heap.size rv rs ∧ Keeps c w0 (w.setCell ⟨w0.heap.size, 0, none⟩ v) ∧ Cur (w.setCell ⟨w0.heap.size, 0, none⟩ v) c a len cap z := by
  have hoth : ∀ i, i ≠ w0.heap.size → (w.setCell ⟨w0.heap.size, 0, none⟩ v).heap[i]? = w.heap[i]? := fun i hi => Below.heap_setCell _ _ _ _ hi
  have hsz : (w.setCell ⟨w0.heap.size, 0, none⟩ v).heap.size = w.heap.size := by simp [World.setCell]
  exact ⟨hres.set1 v, hV.other hres (by intro j n; cases j <;> simp) _, hR.other hres (by intro j n; cases j <;> simp) _, ⟨hK.os, hK.tape, hK.output, by rw [hsz]; exact hK.size, fun i hi hc => (hoth i (by omega)).trans (hK.block i hi hc)⟩, hC.upto (by omega) (fun i hi => hoth i (by omega))⟩

set_option maxHeartbeats 16000000 in
set_option maxRecDepth 100000 in
theorem l3Draw_ok (c : Nat) (a : Option Addr) (len cap : Nat) (z : Nat → Int) (w : World) (h : Cur w c a len cap z) :
    Calls Tryz.prog 44 #[.pointer (some ⟨c, 0, none⟩)] w fun e w' => ∃ v zs rv rs, e = .returned (.tuple #[.agg #[v], rv]) ∧ OwnI w' w.heap.size v zs ∧ zs.length ≤ 200 ∧ OwnI w' w.heap.size rv rs ∧ rs.length ≤ 41 ∧ Keeps c w w' ∧ Cur w' c a len cap z := by
  obtain ⟨i0, hi, hz0, hz1, hz2⟩ := info_parts infoI
  have hc0 := h.lt
  have h0 := h.alloc (.cells #[.slice none 0 0] 26)
  have b0 := Cells.new w 26 #[.slice none 0 0]
  have kk0 : Keeps c w (w.alloc (.cells #[.slice none 0 0] 26)) := (Keeps.refl _ _).alloc _
  go_enter Tryz.func44, Tryz.ntmps44
  go_wp2_with fail
  refine (l3DrawHeap_ok c a len cap z _ h0).mono ?_
  rintro e w1 ⟨v0, zs, gr, cr, rs, rfl, ho, hz2', hz200, hrt, hr0, hr40, hap, hk1, hc1⟩
  rcases ho with ⟨_, e0⟩ | ⟨gs, cs, rfl, hgs, hcs, hRs⟩
  · rw [e0] at hz2'; simp at hz2'
  simp only [World.size_alloc] at hgs hrt
  have b1 := b0.keeps hk1 (by omega)
  have lw1 := b1.lt
  have kA : Kept w1 (w1.alloc (.cells #[.slice (some ⟨gs, 0, none⟩) zs.length cs] 26)) := Kept.alloc (Below.refl _ _) _
  have HS1 : HS c a len cap z w w1.heap.size (.slice (some ⟨gs, 0, none⟩) zs.length cs) zs gr cr rs (w1.alloc (.cells #[.slice (some ⟨gs, 0, none⟩) zs.length cs] 26)) := by
    have hgr := (hrt.lt gr rfl)
    exact ⟨(kk0.trans hk1).trans (kA.keeps c), hc1.kept kA, Cells.new w1 26 _, b1.kept kA, .inr ⟨gs, cs, rfl, by omega, hcs, hRs.kept kA⟩, (hrt.base (by omega)).same (fun j e => by cases e; exact kA.block _ hgr.2), hap, hc0, lw1, hz200⟩
  obtain ⟨B, hBd⟩ : ∃ B, w1.heap.size = B := ⟨_, rfl⟩
  rw [hBd] at HS1
  clear b0 b1 kk0 hk1 hc1 hRs hrt hap h0 h kA
  go_wp2_with fail
  refine (l1Below_ok c a len cap z 20 (by omega) _ HS1.cur).mono ?_
  rintro e w2 ⟨n, rfl, hn0, hn1, hk2, hc2⟩
  have HS2 := HS1.go hk2 hc2
  clear hk2 hc2 HS1 hn1 hBd
  have cB := HS2.cell.cell 0
  have fB := HS2.cell.frozen 0
  have lB := HS2.cell.lt
  have c2 := HS2.res.cell 0
  have f2 := HS2.res.frozen 0
  rcases (show n = 0 ∨ n = 1 ∨ n = 2 ∨ 3 ≤ n by omega) with rfl | rfl | rfl | hn3
  · have HSx := HS2.kept (Below.refl _ w2).drew
    have cx := HSx.cell.cell 0
    clear HS2
    go_wp2_with fail
    go_region_with (first | (go_at_call 84; refine (l1Below_ok c a len cap z (zs.length : Int) (by omega) _ (by first | exact HSj.cur | exact HSx.cur)).mono ?_; rintro e wi ⟨xi, rfl, hi0, hi1, hki, hci⟩; have hi2 : xi < (zs.length : Int) := hi1 (by omega); obtain ⟨ii, rfl⟩ : ∃ ii : Nat, xi = ii := ⟨xi.toNat, by omega⟩; have HSi : HS c a len cap z w B (.slice (some ⟨gs, 0, none⟩) zs.length cs) zs gr cr rs wi := (by first | exact HSj.go hki hci | exact HSx.go hki hci); have ci := HSi.cell.cell 0; have gi := HSi.own.rowR.cell (j := ii) (by omega); have fi := HSi.own.rowR.frozen ii; clear hi1) | (go_at_call 85; refine (l1DrawAny_ok c a len cap z _ (by first | exact HSi.cur | exact HSx.cur)).mono ?_; rintro e wj ⟨xj, rfl, hjb, hkj, hcj⟩; have HSj : HS c a len cap z w B (.slice (some ⟨gs, 0, none⟩) zs.length cs) zs gr cr rs wj := (by first | exact HSi.go hkj hcj | exact HSx.go hkj hcj); have cj := HSj.cell.cell 0; try (have gj := HSj.own.rowR.cell (j := ii) (by omega)); try (have fj := HSj.own.rowR.frozen ii)))
    all_goals (
      have HFi : Hid _ := HSi.word (j := ii) (x := xj) (by omega) hjb
      have HFj : Hid _ := HSj.word (j := ii) (x := xj) (by omega) hjb
      have cfi := HFi.out.cell.cell 0
      have c3i := HFi.out.res.cell 0
      have f3i := HFi.out.res.frozen 0
      have cfj := HFj.out.cell.cell 0
      have c3j := HFj.out.res.cell 0
      have f3j := HFj.out.res.frozen 0
      go_wp2_with fail
      first
      | (obtain ⟨q1, q2, q3, q4, q5⟩ := draw_done HFi.out.keeps HFi.out.cur HFi.out.res HFi.out.own.ownI HFi.out.roots.ownI hc0
         have q := q1.cell 0
         exact bodyPost_ret (v := .tuple #[.agg #[.slice (some ⟨gs, 0, none⟩) zs.length cs], .slice (some ⟨gr, 0, none⟩) rs.length cr]) (by simp [results, Tryz.results44, go_sem, q]) rfl ⟨_, _, _, rs, rfl, q2, by simp; omega, q3, by omega, q4, q5⟩)
      | (obtain ⟨q1, q2, q3, q4, q5⟩ := draw_done HFj.out.keeps HFj.out.cur HFj.out.res HFj.out.own.ownI HFj.out.roots.ownI hc0
         have q := q1.cell 0
         exact bodyPost_ret (v := .tuple #[.agg #[.slice (some ⟨gs, 0, none⟩) zs.length cs], .slice (some ⟨gr, 0, none⟩) rs.length cr]) (by simp [results, Tryz.results44, go_sem, q]) rfl ⟨_, _, _, rs, rfl, q2, by simp; omega, q3, by omega, q4, q5⟩))
  · go_wp2_with fail
    refine (l1DrawAny_ok c a len cap z _ HS2.cur).mono ?_
    rintro e w3 ⟨x', rfl, hx', hk3, hc3⟩
    have HS3 := HS2.go hk3 hc3
    have cB3 := HS3.cell.cell 0
    have c3 := HS3.res.cell 0
    have f3 := HS3.res.frozen 0
    have hbb := HS3.roots.1
    have ho := HS3.roots.2
    have hgr := HS3.grIn
    have hs3 := HS3.keeps.size
    have HSE : Hid _ := HS3
    clear HS2 hk3 hc3 cB fB c2 f2 HS3
    go_wp2_with (at_builtin; refine wpList_append_own_at _ rfl _ _ 24 rfl w.heap.size 3 i0 (.int .i64 0) 1 8 Tryz.underlying24 hi hz0 hz1 hz2 rfl (by decide) _ _ _ rfl (ho.alloc _) ⟨w3.heap.size, 0, none⟩ 1 1 [.int .i64 x'] rfl rfl (cell_one_new _ _ _) (by simp [Value.oneCell']) (by unfold maxLen; omega) (by omega) (by simp; omega) ?_; intro v'' wn hown' hgrow0 _ hblk; have hgrow : (w3.alloc (.cells #[.int .i64 x'] 3)).grownBy wn (some gr) := hgrow0; obtain ⟨g', cp', rfl, hO'⟩ := app_vals hbb hx' hown'; have HSn := (HSE.out.kept (Kept.alloc (Below.refl _ w3) (.cells #[.int .i64 x'] 3))).vals hgrow hO' (by rcases hblk with e | e; exact .inl (Option.some.inj e); exact .inr (Nat.le_of_eq (Option.some.inj e).symm)); have cn := HSn.cell.cell 0; have d3 := HSn.res.cell 0; have g3 := HSn.res.frozen 0; have ln := HSn.cell.lt)
    obtain ⟨q1, q2, q3, q4, q5⟩ := draw_done HSn.keeps HSn.cur HSn.res HSn.own.ownI HSn.roots.ownI hc0
    have q := q1.cell 0
    exact bodyPost_ret (v := .tuple #[.agg #[.slice (some ⟨gs, 0, none⟩) zs.length cs], .slice (some ⟨g', 0, none⟩) (rs.length + 1) cp']) (by simp [results, Tryz.results44, go_sem, q]) rfl ⟨_, zs, _, rs ++ [x'], rfl, q2, hz200, by simpa using q3, by simp; omega, q4, q5⟩
  · go_wp2_with fail
    refine (l2Draw_ok c a len cap z _ HS2.cur).mono ?_
    rintro e w3 ⟨v3, zs3, rfl, hO3, hl3, hk3, hc3⟩
    have HS3 := HS2.go hk3 hc3
    have hs2 := HS2.keeps.size
    have cB3 := HS3.cell.cell 0
    have fB3 := HS3.cell.frozen 0
    have c3 := HS3.res.cell 0
    have f3 := HS3.res.frozen 0
    have lB3 := HS3.cell.lt
    have hBw := HS3.hB
    have hO3' := (hO3.base hs2).other HS3.cell (by intro j n; cases j <;> simp) v3
    have hR3 := HS3.roots.ownI.other HS3.cell (by intro j n; cases j <;> simp) v3
    have hB3 := HS3.cell.set1 v3
    have hr3 := HS3.res.other (p := ⟨B, 0, none⟩) (by simp; omega) v3
    have hK3 : Keeps c w (w3.setCell ⟨B, 0, none⟩ v3) := ⟨HS3.keeps.os, HS3.keeps.tape, HS3.keeps.output, by simpa [World.setCell] using HS3.keeps.size, fun i hi hc => (Below.heap_setCell _ _ _ _ (by simp; omega)).trans (HS3.keeps.block i hi hc)⟩
    have hC3 := HS3.cur.upto (w' := w3.setCell ⟨B, 0, none⟩ v3) (by simp [World.setCell]) (fun i hi => Below.heap_setCell _ _ _ _ (by simp; omega))
    obtain ⟨la3, lc3, rfl, _⟩ := hO3
    have cB4 := hB3.cell 0
    have c4 := hr3.cell 0
    have f4 := hr3.frozen 0
    obtain ⟨q1, q2, q3, q4, q5⟩ := draw_done hK3 hC3 hr3 hO3' hR3 hc0
    have HQ : Hid _ := And.intro q1 (And.intro q2 (And.intro q3 (And.intro q4 q5)))
    clear HS2 HS3 hk3 hc3 cB fB c2 f2 hO3' hR3 hB3 hr3 hK3 hC3 q1 q2 q3 q4 q5
    go_wp2_with fail
    obtain ⟨q1, q2, q3, q4, q5⟩ := HQ.out
    have q := q1.cell 0
    exact bodyPost_ret (v := .tuple #[.agg #[.slice la3 zs3.length lc3], .slice (some ⟨gr, 0, none⟩) rs.length cr]) (by simp [results, Tryz.results44, go_sem, q]) rfl ⟨_, zs3, _, rs, rfl, q2, by omega, q3, by omega, q4, q5⟩
  · have t0 : (n == 0) = false := by simp; omega
    have t1 : (n == 1) = false := by simp; omega
    have t2 : (n == 2) = false := by simp; omega
    have HF : Hid _ := HS2
    clear HS2
    go_wp2_with fail
    obtain ⟨q1, q2, q3, q4, q5⟩ := draw_done HF.out.keeps HF.out.cur HF.out.res HF.out.own.ownI HF.out.roots.ownI hc0
    have q := q1.cell 0
    exact bodyPost_ret (v := .tuple #[.agg #[.slice (some ⟨gs, 0, none⟩) zs.length cs], .slice (some ⟨gr, 0, none⟩) rs.length cr]) (by simp [results, Tryz.results44, go_sem, q]) rfl ⟨_, _, _, rs, rfl, q2, hz200, q3, by omega, q4, q5⟩
theorem size_q (t : ByteArray) : (t ++ (⟨#[113]⟩ : ByteArray)).size = t.size + 1 := by rw [ByteArray.size_append]; rfl
def textTs : List ByteArray := [⟨#[]⟩, ⟨#[97]⟩, ⟨#[98]⟩, ⟨#[107, 101, 121]⟩, ⟨#[122, 122]⟩, ⟨#[97, 0]⟩]
theorem textTs_in : ∀ t ∈ textTs, t.size ≤ 31 := by
  intro t ht
  simp [textTs] at ht
  rcases ht with rfl | rfl | rfl | rfl | rfl | rfl <;> decide
end Go.Proofs.YtpljjeknphnnpaaGreat
namespace Go.Proofs.YtpljjeknphnnpaaGreat
open Go.RowKit

set_option maxHeartbeats 16000000 in
set_option maxRecDepth 100000 in
theorem l7DrawSome_ok (c : Nat) (a : Option Addr) (len cap : Nat) (z : Nat → Int) (w : World) (h : Cur w c a len cap z) (base : Nat) (ro : Option Addr) (rc : Nat) (rs : List Int) (hR : OwnI w base (.slice ro rs.length rc) rs) (hcb : c < base) (hl : rs.length ≤ 1000) :
    Calls Tryz.prog 65 #[.pointer (some ⟨c, 0, none⟩), .slice ro rs.length rc] w fun e w' => ∃ v l, e = .returned v ∧ OwnL w' w.heap.size v l ∧ l.length ≤ 4 ∧ Keeps c w w' ∧ Cur w' c a len cap z := by
  obtain ⟨i0, hi, hz0, hz1, hz2⟩ := info_parts infoI
  have hc0 := h.lt
  have h0 := h.alloc (.cells #[] 3)
  have k0 : Keeps c w (w.alloc (.cells #[] 3)) := (Keeps.refl _ _).alloc _
  have o0 : OwnL (w.alloc (.cells #[] 3)) w.heap.size (.slice (some ⟨w.heap.size, 0, none⟩) 0 0) [] := by
    refine ⟨by simp, ?_⟩
    have := World.ownsRow_made (base := w.heap.size) (e := 3) (size := 1) w #[] 0 (by simp) (by unfold maxLen; omega) (by simp)
    simpa using this
  go_enter Tryz.func65, Tryz.ntmps65
  go_wp2_with fail
  go_loopw [5, 6] (fun v i wr => ∃ (k : Nat) (l : List Int), i = .int .i64 k ∧ k ≤ 4 ∧ l.length = k ∧ OwnL wr w.heap.size v l ∧ Keeps c w wr ∧ Cur wr c a len cap z) (fun _ i _ => 5 - (intOf i).toNat)
  case atStart => exact ⟨0, [], rfl, by omega, rfl, o0, k0, h0⟩
  case round =>
    obtain ⟨k, l, rfl, hk, hlk, hO, hK, hC⟩ := hrel
    clear h0 k0 o0
    have HLK : Hid _ := hlk
    clear hlk
    go_wp2_with fail
    refine (l1Below_ok c a len cap z 5 (by omega) _ hC).mono ?_
    rintro e w1 ⟨x, rfl, hx0, hx1, hk1, hc1⟩
    have hx5 : x < 5 := hx1 (by omega)
    have hO1 := hO.turned hk1 (by omega)
    have hK1 := hK.trans hk1
    clear hx1 hO hK hC hk1
    by_cases hlt : (k : Int) < x
    · by_cases hr0 : rs.length = 0
      · have t0 : (rs.length : Int) ≤ 0 := by omega
        have HO : Hid _ := hO1
        clear hO1 hr0
        go_wp2
        go_ret
        first | exact ⟨_, l, rfl, HO.out, by have := HLK.out; omega, hK1, hc1⟩ | exact ⟨_, rfl, l, HO.out, by have := HLK.out; omega, hK1, hc1⟩
      · have t0 : (0 : Int) < (rs.length : Int) := by omega
        obtain ⟨va, vc, rfl, _⟩ := hO1.ints
        have hs1 := hK1.size
        have HO : Hid (OwnL w1 w.heap.size (.slice va l.length vc) l) := hO1
        clear hO1
        go_wp2_with fail
        refine (l1Below_ok c a len cap z (rs.length : Int) (by omega) _ hc1).mono ?_
        rintro e w2 ⟨y, rfl, hy0, hy1, hk2, hc2⟩
        have hy2 : y < (rs.length : Int) := hy1 t0
        obtain ⟨j, rfl⟩ : ∃ j : Nat, y = j := ⟨y.toNat, by omega⟩
        have hK2 := hK1.trans hk2
        have hs2 := hK2.size
        obtain ⟨ao', cp', e, hI, _⟩ := hR.keeps hK2 hcb
        cases e
        obtain ⟨bb, off, rfl, hcell⟩ := hI.at (k := j) (by omega)
        have hcj := hcell j (by omega)
        have hb := hI.bd j
        have hO2 := HO.out.turned hk2 (by omega)
        have HB : Hid (∀ z ∈ l ++ [hz rs j], -9223372036854775808 ≤ z ∧ z ≤ 9223372036854775807) := fun z hz => by
          rcases List.mem_append.1 hz with h | h
          · exact hO2.1 z h
          · rw [List.mem_singleton.1 h]; exact hb
        have hrow := hO2.2
        have hlt' := fun j (ej : (Value.slice va l.length vc).ownBlock = some j) => (hrow.lt j ej).1
        have hll : l.length ≤ 4 := by have := HLK.out; omega
        clear hy1 hcell hI HO
        go_wp2_with (first | (at_builtin; refine wpList_append_own _ rfl _ _ 24 rfl w.heap.size 3 i0 (.int .i64 0) 1 8 Tryz.underlying24 hi hz0 hz1 hz2 rfl (by decide) _ _ _ rfl (hrow.alloc _) ⟨w2.heap.size, 0, none⟩ 1 1 [.int .i64 (hz rs j)] rfl rfl (cell_one_new _ _ _) (by simp [Value.oneCell']) (by unfold maxLen; omega) (by omega) (by simp; omega) ?_; intro v' w3 hown' hgrow _))
        go_roundw
        case rel =>
          refine ⟨k + 1, l ++ [hz rs j], by go_num, by omega, by rw [List.length_append, HLK.out]; rfl, OwnL.snoc HB.out (by simpa using hown'), (hK2.alloc _).on hgrow hlt', (hc2.alloc _).on hgrow (fun k e => by have := hlt' k e; omega)⟩
        case measure => simp [intOf]; omega
    · have HO : Hid _ := hO1
      clear hO1
      go_wp2
      go_ret
      first | exact ⟨_, l, rfl, HO.out, by have := HLK.out; omega, hK1, hc1⟩ | exact ⟨_, rfl, l, HO.out, by have := HLK.out; omega, hK1, hc1⟩
set_option maxHeartbeats 16000000 in
set_option maxRecDepth 100000 in
theorem l7Draw_ok (a : Option Addr) (len cap : Nat) (z : Nat → Int) (w : World) (h : Src w.heap.size w a len z) :
    Calls Tryz.prog 31 #[.slice a len cap] w fun e w' => ∃ v zs rv rs, e = .returned (.tuple #[.agg #[v], rv]) ∧ OwnI w' w.heap.size v zs ∧ zs.length ≤ 200 ∧ OwnI w' w.heap.size rv rs ∧ rs.length ≤ 4 ∧ Kept w w' := by
  have b0 := Cells.new w 26 #[.slice none 0 0]
  have k0 : Kept w (w.alloc (.cells #[.slice none 0 0] 26)) := Kept.alloc (Below.refl _ _) _
  have h0 : Src (w.alloc (.cells #[.slice none 0 0] 26)).heap.size (w.alloc (.cells #[.slice none 0 0] 26)) a len z := h.below k0
  go_enter Tryz.func31, Tryz.ntmps31
  go_wp2_with fail
  refine (l1New_ok a len cap z _ h0).mono ?_
  rintro e w1 ⟨c, rfl, hc1, hk1, hC1⟩
  have b1 := b0.kept hk1
  have k1 := k0.trans hk1
  simp only [World.size_alloc] at hc1
  clear h0 hk1 b0 k0
  go_wp2_with fail
  refine (l3Draw_ok c a len cap z _ hC1).mono ?_
  rintro e w2 ⟨v, zs, rv, rs, rfl, hO, hl, hRt, hrl, hk2, hC2⟩
  have hO2 := hO
  have hRt2 := hRt
  have hcb := hC1.lt
  have hb1 := k1.size
  have b2 := b1.keeps hk2 (by omega)
  have k2 : Kept w w2 := Below.trans k1 (hk2.below (by omega) k1.size)
  obtain ⟨ao, cp, rfl, _⟩ := hO
  obtain ⟨ro, rp, rfl, _⟩ := hRt
  have ka : Kept w2 (w2.alloc (.cells #[.slice ao zs.length cp] 26)) := Kept.alloc (Below.refl _ _) _
  have x4 := Cells.new w2 26 #[.slice ao zs.length cp]
  have hC5 := hC2.kept ka
  have b5 := b2.kept ka
  have hO5 := hO2.kept ka
  have hR5 := hRt2.kept ka
  have k5 := k2.trans ka
  have hcl := hC2.lt
  have lx := x4.lt
  have hs2 := hk2.size
  obtain ⟨B, hB⟩ : ∃ B, w2.heap.size = B := ⟨_, rfl⟩
  go_wp2_with fail
  obtain ⟨w5, hw5⟩ : ∃ w5, w2.alloc (.cells #[.slice ao zs.length cp] 26) = w5 := ⟨_, rfl⟩
  rw [hw5] at x4 hC5 b5 hO5 k5 lx hR5
  rw [hB] at x4 hcl lx hs2
  rw [hw5]
  clear hB hw5 ka hk2 hC1 hC2 hO2 b1 b2 k1 k2 hRt2
  have Cd := hC5.kept (Below.refl _ w5).drew
  have xd := x4.kept (Below.refl _ w5).drew
  have bd := b5.kept (Below.refl _ w5).drew
  have Od := hO5.kept (Below.refl _ w5).drew
  have Rd := hR5.kept (Below.refl _ w5).drew
  have kd : Kept w w5.drew := k5.drew
  have q4 := x4.cell 0
  have hbw : w.heap.size ≤ w5.heap.size := k5.size
  have hA := l7DrawSome_ok c a len cap z _ Cd w1.heap.size ro rp rs Rd hcb (by omega)
  go_region_with (first | (go_at_call 65; refine hA.mono ?_; rintro e wz ⟨u, ls, rfl, hu, hul, hkz, Cz⟩; have x6 := xd.keeps hkz (by omega); have q6 := x6.cell 0; have b6 := bd.keeps hkz (by omega); have e6 := b6.cell 0; have f6 := b6.frozen 0))
  all_goals (
    have O6 := Od.keeps hkz hcb
    have k6 : Kept w wz := Below.trans kd (hkz.below (by omega) kd.size)
    have U6 := (hu.ownI).base (base' := w.heap.size) hbw
    have q := (b6.set1 (.slice ao zs.length cp)).cell 0
    obtain ⟨ua, uc, eu, _⟩ := id U6
    subst eu
    go_wp2_with fail
    refine bodyPost_ret (v := .tuple #[.agg #[.slice ao zs.length cp], .slice ua ls.length uc]) (by simp [results, Tryz.results31, go_sem, q]) rfl ⟨_, zs, _, ls, rfl, ?_, hl, ?_, hul, k6.set (by simp) _⟩
    · exact (O6.other b6 (by intro j n; cases j <;> simp) _).base hb1
    · exact U6.other b6 (by intro j n; cases j <;> simp) _)
set_option maxHeartbeats 8000000 in
set_option maxRecDepth 100000 in
theorem DrawStart_ok (a : Option Addr) (len cap : Nat) (z : Nat → Int) (w : World) (h : Src w.heap.size w a len z) :
    Calls Tryz.prog 6 #[.slice a len cap] w fun e w' => ∃ v zs rv rs, e = .returned (.tuple #[.agg #[v], rv]) ∧ OwnI w' w.heap.size v zs ∧ zs.length ≤ 200 ∧ OwnI w' w.heap.size rv rs ∧ rs.length ≤ 4 ∧ Kept w w' := by
  have b0 := Cells.new w 26 #[.slice none 0 0]
  have k0 : Kept w (w.alloc (.cells #[.slice none 0 0] 26)) := Kept.alloc (Below.refl _ _) _
  have hD := l7Draw_ok a len cap z _ (h.below k0)
  go_enter Tryz.func6, Tryz.ntmps6
  go_wp2_with fail
  refine hD.mono ?_
  rintro e w1 ⟨v, zs, rv, rs, rfl, hO, hl, hR, hrl, hk1⟩
  have b1 := b0.kept hk1
  have k1 := k0.trans hk1
  have c1 := b1.cell 0
  have f1 := b1.frozen 0
  have l1 := b1.lt
  have hO1 := hO.base (base' := w.heap.size) (by simp)
  have hR1 := hR.base (base' := w.heap.size) (by simp)
  obtain ⟨ao, cp, rfl, _⟩ := hO
  obtain ⟨ro, rp, rfl, _⟩ := hR
  go_wp2_with fail
  have q := ((b1.set1 (.slice ao zs.length cp)).alloc (.cells #[.slice ao zs.length cp] 26)).cell 0
  refine bodyPost_ret (v := .tuple #[.agg #[.slice ao zs.length cp], .slice ro rs.length rp]) (by simp [results, Tryz.results6, go_sem, q]) rfl ⟨_, zs, _, rs, rfl, ?_, hl, ?_, hrl, (k1.set (by simp) _).alloc _⟩
  · exact (hO1.other b1 (by intro j n; cases j <;> simp) _).kept (Kept.alloc (Below.refl _ _) _)
  · exact (hR1.other b1 (by intro j n; cases j <;> simp) _).kept (Kept.alloc (Below.refl _ _) _)
end Go.Proofs.YtpljjeknphnnpaaGreat
