/-
  What the models that a draw calls come to, told weakly: a slab of its own that is as long, or empty.
  The contract of the draw of a heap: l3DrawHeap.
-/
import Derived.Maps.AppendAt
import Derived.Deep.CutBlock
import Derived.Test.YtpbafjcoomfooaaGreatGrpD
import Derived.Test.YtpbafjcoomfooaaGreatGrpE
import Derived.Test.YtpbafjcoomfooaaGreatGrpFg
namespace Go.Proofs.YtpbafjcoomfooaaGreat
open Go.RowKit

def InB (x : Int) : Prop := -9223372036854775808 ≤ x ∧ x ≤ 9223372036854775807
/-- A slab of its own that is as long as it was, or empty. -/
def New1 (zs : List Int) (u : World) (e : Ending) (w' : World) : Prop := ∃ v rs, e = .returned (.tuple #[.agg #[v], .bool true]) ∧ OwnR w' u.heap.size v rs ∧ (rs.length = zs.length ∨ rs.length = 0) ∧ Kept u w'
def NewP (zs : List Int) (u : World) (e : Ending) (w' : World) : Prop := ∃ v rs y, e = .returned (.tuple #[.agg #[v], .bool y]) ∧ OwnR w' u.heap.size v rs ∧ (rs.length = zs.length ∨ rs.length = 0) ∧ Kept u w'
def NewV (zs : List Int) (u : World) (e : Ending) (w' : World) : Prop := ∃ v rs x y, e = .returned (.tuple #[.agg #[v], .int .i64 x, .bool y]) ∧ InB x ∧ OwnR w' u.heap.size v rs ∧ (rs.length = zs.length ∨ rs.length = 0) ∧ Kept u w'
theorem at_in {zs : List Int} (hl : zs.length ≤ 1048576) (b : BkOf zs.length) (k : Int) (h0 : 0 ≤ k) (h7 : k ≤ 7) : InB (8 * ((b.1.at' : Nat) : Int) + k) := by
  have := b.2.2.1
  have := b.2.1
  unfold InB
  omega
theorem zero_in : InB 0 := by unfold InB; omega
theorem TextPut_w (w : World) (ao : Option Addr) (cap : Nat) (zs : List Int) (t : ByteArray) (hI : Ints w ao zs) (hl : zs.length ≤ 1048576) : Calls Tryz.prog 9 #[.agg #[.slice ao zs.length cap], .string t] w (NewV zs w) := by
  cases hh : heapR zs with
  | false =>
    refine (spec_TextPut_bad w ao cap zs t hI hl hh).mono ?_
    rintro e w' ⟨rfl, hk⟩
    exact ⟨_, [], _, _, rfl, zero_in, .inl ⟨rfl, rfl⟩, .inr rfl, hk⟩
  | true =>
    refine (spec_TextPut_do w ao cap zs t hI hl hh).mono ?_
    rintro e w' ⟨v, rfl, ho, hk, _⟩
    refine ⟨_, _, _, _, rfl, ?_, ho, .inl (putC_len zs t), hk⟩
    unfold putC
    split
    · exact at_in hl _ 4 (by omega) (by omega)
    · split
      · exact zero_in
      · split
        · exact zero_in
        · exact at_in hl _ 4 (by omega) (by omega)
theorem ObjNew_w (w : World) (ao : Option Addr) (cap : Nat) (zs : List Int) (p : Int) (hI : Ints w ao zs) (hl : zs.length ≤ 1048576) (hp : InB p) : Calls Tryz.prog 33 #[.agg #[.slice ao zs.length cap], .int .i64 p] w (NewV zs w) := by
  refine (spec_ObjNew_ok w ao cap zs p hI hl hp).mono ?_
  rintro e w' ⟨v, rfl, ho, hk, _⟩
  refine ⟨_, _, _, _, rfl, ?_, ho, objNewC_len zs p, hk⟩
  unfold objNewC
  split
  · unfold objC
    split
    · exact zero_in
    · exact at_in hl _ 5 (by omega) (by omega)
  · exact zero_in
theorem ScopeNew_w (w : World) (ao : Option Addr) (cap : Nat) (zs : List Int) (p n : Int) (hI : Ints w ao zs) (hl : zs.length ≤ 1048576) (hp : InB p) : Calls Tryz.prog 132 #[.agg #[.slice ao zs.length cap], .int .i64 p, .int .i64 n] w (NewV zs w) := by
  refine (spec_ScopeNew_ok w ao cap zs p n hI hl hp).mono ?_
  rintro e w' ⟨v, rfl, ho, hk, _⟩
  refine ⟨_, _, _, _, rfl, ?_, ho, scopeNewC_len zs p n, hk⟩
  unfold scopeNewC
  split
  · unfold scoC
    split
    · exact zero_in
    · exact at_in hl _ 7 (by omega) (by omega)
  · exact zero_in
theorem FunNew_w (w : World) (ao : Option Addr) (cap : Nat) (zs : List Int) (p n : Int) (hI : Ints w ao zs) (hl : zs.length ≤ 1048576) (hp : InB n) : Calls Tryz.prog 133 #[.agg #[.slice ao zs.length cap], .int .i64 p, .int .i64 n] w (NewV zs w) := by
  refine (spec_FunNew_ok w ao cap zs p n hI hl hp).mono ?_
  rintro e w' ⟨v, rfl, ho, hk, _⟩
  refine ⟨_, _, _, _, rfl, ?_, ho, funNewC_len zs p n, hk⟩
  unfold funNewC
  split
  · unfold funC
    split
    · exact zero_in
    · exact at_in hl _ 6 (by omega) (by omega)
  · exact zero_in
theorem PropSet_w (w : World) (ao : Option Addr) (cap : Nat) (zs : List Int) (p n v : Int) (hI : Ints w ao zs) (hl : zs.length ≤ 1048576) (hp : InB p) (hn : InB n) (hv : InB v) : Calls Tryz.prog 20 #[.agg #[.slice ao zs.length cap], .int .i64 p, .int .i64 n, .int .i64 v] w (NewP zs w) := by
  refine (spec_PropSet_ok w ao cap zs p n v hI hl hp hn hv).mono ?_
  rintro e w' ⟨u, rfl, ho, hk, _⟩
  exact ⟨_, _, _, rfl, ho, propC_len zs p n v, hk⟩
theorem VarSet_w (w : World) (ao : Option Addr) (cap : Nat) (zs : List Int) (p d n v : Int) (hI : Ints w ao zs) (hl : zs.length ≤ 1048576) (hp : InB p) (hn : InB n) (hv : InB v) : Calls Tryz.prog 134 #[.agg #[.slice ao zs.length cap], .int .i64 p, .int .i64 d, .int .i64 n, .int .i64 v] w (NewP zs w) := by
  refine (spec_VarSet_ok w ao cap zs p d n v hI hl hp hn hv).mono ?_
  rintro e w' ⟨u, rfl, ho, hk, _⟩
  exact ⟨_, _, _, rfl, ho, varC_len zs p d n v, hk⟩

theorem strs_cell (w : World) (l : List ByteArray) (C : Array Value) (t : TypeId) (hC : C = (l.map Value.string).toArray) (i : Nat) (hi : i < l.length) : (w.alloc (.cells C t)).cell? ⟨w.heap.size, 0 + i, none⟩ = some (.string (l.getD i ⟨#[]⟩)) := by
  subst hC
  rw [World.cell?_alloc_at _ _ _ _ rfl]
  simp [hi]
theorem l1Pick_at (c : Nat) (a : Option Addr) (len cap : Nat) (z : Nat → Int) (l : List ByteArray) (n : Nat) (hn : l.length = n) (hl0 : 0 < n) (hl : n ≤ 1000) (C : Array Value) (t : TypeId) (hC : C = (l.map Value.string).toArray) (w : World) (h : Cur w c a len cap z) :
    Calls Tryz.prog 94 #[.pointer (some ⟨c, 0, none⟩), .slice (some ⟨w.heap.size, 0, none⟩) n n] (w.alloc (.cells C t)) fun e w' => ∃ x : ByteArray, e = .returned (.string x) ∧ x ∈ l ∧ Keeps c w w' ∧ Cur w' c a len cap z := by
  subst hn
  have hlt := h.lt
  have h0 := h.alloc (.cells C t)
  have hcell := strs_cell w l C t hC
  have k0 : Keeps c w (w.alloc (.cells C t)) := (Keeps.refl _ _).alloc _
  have hsz : (w.alloc (.cells C t)).heap.size = w.heap.size + 1 := by simp
  obtain ⟨W0, hW0⟩ : ∃ W0, w.alloc (.cells C t) = W0 := ⟨_, rfl⟩
  rw [hW0] at h0 hcell k0 hsz ⊢
  clear hW0
  go_enter Tryz.func94, Tryz.ntmps94
  go_wp2_with fail
  refine (l1Below_ok c a len cap z l.length (by omega) _ h0).mono ?_
  rintro e w1 ⟨x, rfl, hx0, hx1, hk, hc⟩
  obtain ⟨k, rfl⟩ := Int.eq_ofNat_of_zero_le hx0
  have hx2 : (k : Int) < (l.length : Int) := hx1 (by omega)
  have hcw : w1.cell? ⟨w.heap.size, 0 + k, none⟩ = some (.string (l.getD k ⟨#[]⟩)) := (hk.cell (p := ⟨w.heap.size, 0 + k, none⟩) (by simp; omega) (by simp; omega)).trans (hcell k (by omega))
  simp only [Nat.zero_add] at hcw
  clear hx1 hcell
  go_wp2
  go_ret
  refine ⟨_, rfl, ?_, k0.trans hk, hc⟩
  have hk2 : k < l.length := by omega
  simp [List.getElem?_eq_getElem hk2]
end Go.Proofs.YtpbafjcoomfooaaGreat
namespace Go.Proofs.YtpbafjcoomfooaaGreat
open Go.RowKit

theorem OwnL.same {W W' : World} {base : Nat} {v : Value} {zs : List Int} (h : OwnL W base v zs) (hb : ∀ j, v.ownBlock = some j → W'.heap[j]? = W.heap[j]?) : OwnL W' base v zs := by
  obtain ⟨h0, h1, h2⟩ := h
  refine ⟨h0, h1, ?_⟩
  rcases h2 with ⟨e, hn⟩ | ⟨g, cap, cur, rfl, hg0, hg, r⟩
  · exact .inl ⟨e, hn⟩
  · exact .inr ⟨g, cap, cur, rfl, hg0, (hb g rfl).trans hg, r⟩
theorem OwnL.lt {W : World} {base : Nat} {v : Value} {zs : List Int} (h : OwnL W base v zs) : ∀ j, v.ownBlock = some j → base ≤ j ∧ j < W.heap.size := h.2.lt
theorem OwnL.row {W : World} {base g cr : Nat} {zs : List Int} (h : OwnL W base (.slice (some ⟨g, 0, none⟩) zs.length cr) zs) : Row W g zs := (Row.of_owns h.2 h.1).1
theorem OwnL.made (W : World) (base : Nat) (hb : base ≤ W.heap.size) (rs : List Int) (n : Nat) (C : Array Value) (hn : rs.length = n) (hC : C = (rs.map (Value.int .i64)).toArray) (h0 : ∀ z ∈ rs, -9223372036854775808 ≤ z ∧ z ≤ 9223372036854775807) (hm : n ≤ 1000) : OwnL (W.alloc (.cells C 3)) base (.slice (some ⟨W.heap.size, 0, none⟩) n n) rs := by
  subst hn hC
  refine ⟨h0, by simp, .inr ⟨W.heap.size, rs.length, _, rfl, hb, Cells.new W 3 _, Nat.le_refl _, by unfold maxLen; omega, by simp, by simp [List.take_of_length_le]⟩⟩
theorem app_vals {W : World} {base : Nat} {v : Value} {zs : List Int} {x : Int} {n : Nat} {xs : List Value} (hb : ∀ y ∈ zs, -9223372036854775808 ≤ y ∧ y ≤ 9223372036854775807) (hx : InB x) (h : W.ownsRow base 3 1 v n xs) (hn : n = zs.length + 1 := by rfl) (hxs : xs = zs.map (Value.int .i64) ++ [.int .i64 x] := by rfl) : ∃ g' cp', v = .slice (some ⟨g', 0, none⟩) (zs.length + 1) cp' ∧ OwnL W base (.slice (some ⟨g', 0, none⟩) (zs ++ [x]).length cp') (zs ++ [x]) := by
  subst hn hxs
  have o3 : OwnL W base v (zs ++ [x]) := ⟨fun y hy => by rcases List.mem_append.1 hy with h | h; exact hb y h; simp at h; subst h; exact hx, by simpa using h⟩
  rcases o3.cases with ⟨_, e⟩ | ⟨g', cp', rfl, _⟩
  · simp at e
  · exact ⟨g', cp', by simp, o3⟩

/-- The state of l3DrawHeap: its slab, in its variable at block B, its values, and the cursor. -/
structure HS (c : Nat) (a : Option Addr) (len cap : Nat) (z : Nat → Int) (w0 : World) (B : Nat) (v : Value) (zs : List Int) (gr cr : Nat) (rs : List Int) (w : World) : Prop where
  keeps : Keeps c w0 w
  cur : Cur w c a len cap z
  cell : Cells w B 26 #[v]
  res : Cells w w0.heap.size 26 #[.slice none 0 0]
  own : OwnR w w0.heap.size v zs
  roots : OwnL w w0.heap.size (.slice (some ⟨gr, 0, none⟩) rs.length cr) rs
  apart : ∀ j, v.ownBlock = some j → j ≠ gr
  c0 : c < w0.heap.size
  hB : w0.heap.size < B
  len200 : zs.length ≤ 200
theorem OwnR.rowI {W : World} {base g n : Nat} {zs : List Int} (h : OwnR W base (.slice (some ⟨g, 0, none⟩) zs.length n) zs) : Ints W (some ⟨g, 0, none⟩) zs := by
  obtain ⟨_, _, e, hI⟩ := h.ints
  cases e
  exact hI
section
variable {c : Nat} {a : Option Addr} {len cap : Nat} {z : Nat → Int} {w0 : World} {B : Nat} {v : Value} {zs : List Int} {gr cr : Nat} {rs : List Int} {w w' : World}
theorem HS.grIn (h : HS c a len cap z w0 B v zs gr cr rs w) : w0.heap.size ≤ gr ∧ gr < w.heap.size := h.roots.lt gr rfl
theorem HS.go (h : HS c a len cap z w0 B v zs gr cr rs w) (hk : Keeps c w w') (hc : Cur w' c a len cap z) : HS c a len cap z w0 B v zs gr cr rs w' := by
  have hc0 := h.c0
  have hB := h.hB
  have hg := h.grIn
  exact ⟨h.keeps.trans hk, hc, h.cell.keeps hk (by omega), h.res.keeps hk (by omega), h.own.keeps hk hc0, h.roots.same (fun j e => by cases e; exact hk.block _ hg.2 (by show gr ≠ c; omega)), h.apart, hc0, hB, h.len200⟩
theorem HS.kept (h : HS c a len cap z w0 B v zs gr cr rs w) (hk : Kept w w') : HS c a len cap z w0 B v zs gr cr rs w' := h.go (hk.keeps c) (h.cur.kept hk)
theorem HS.notB (h : HS c a len cap z w0 B v zs gr cr rs w) : gr ≠ B := h.roots.row.notCells h.cell (by decide)
/-- The variable is written with a slab that is new. -/
theorem HS.put (h : HS c a len cap z w0 B v zs gr cr rs w) (hk : Kept w w') {v' : Value} {zs' : List Int} (ho : OwnR w' w.heap.size v' zs') (hl : zs'.length ≤ 200) : HS c a len cap z w0 B v' zs' gr cr rs (w'.setCell ⟨B, 0, none⟩ v') := by
  have h' := h.kept hk
  have hc0 := h.c0
  have hB := h.hB
  have hg := h.grIn
  have hnB := h.notB
  have hs := h.keeps.size
  have hother : ∀ k, k ≠ B → (w'.setCell ⟨B, 0, none⟩ v').heap[k]? = w'.heap[k]? := fun k hk => Below.heap_setCell _ _ _ _ hk
  have hsz : (w'.setCell ⟨B, 0, none⟩ v').heap.size = w'.heap.size := by simp [World.setCell]
  refine ⟨⟨h'.keeps.os, h'.keeps.tape, h'.keeps.output, by rw [hsz]; exact h'.keeps.size, fun i hi hc => (hother i (by omega)).trans (h'.keeps.block i hi hc)⟩, h'.cur.upto (by omega) (fun i hi => hother i (by omega)), h'.cell.set1 v', h'.res.other (by simp; omega) _, (ho.other h'.cell (by decide) v').base (by omega), h'.roots.same (fun j e => by cases e; exact hother _ hnB), fun j e => by have := (ho.block j e).1; omega, hc0, hB, hl⟩
/-- The values are others, that are new or lie where they lay. -/
theorem HS.vals (h : HS c a len cap z w0 B v zs gr cr rs w) (hg : w.grownBy w' (some gr)) {gr' cr' : Nat} {rs' : List Int} (ho : OwnL w' w0.heap.size (.slice (some ⟨gr', 0, none⟩) rs'.length cr') rs') (hn : gr' = gr ∨ w.heap.size ≤ gr') : HS c a len cap z w0 B v zs gr' cr' rs' w' := by
  have hc0 := h.c0
  have hB := h.hB
  have hgi := h.grIn
  have hnB := h.notB
  have hs := h.keeps.size
  have hbl : ∀ k, k < w.heap.size → k ≠ gr → w'.heap[k]? = w.heap[k]? := fun k h1 h2 => hg.block k h1 (by intro e; cases e; exact h2 rfl)
  refine ⟨⟨hg.os.trans h.keeps.os, hg.tape.trans h.keeps.tape, hg.output.trans h.keeps.output, Nat.le_trans hs hg.size, fun i hi hc => (hbl i (by omega) (by omega)).trans (h.keeps.block i hi hc)⟩, h.cur.upto hg.size (fun i hi => hbl i (by omega) (by omega)), (hbl B h.cell.lt (by omega)).trans h.cell, ?_, h.own.grown hg (fun k e j hj => by cases e; exact h.apart j hj), ho, fun j e => ?_, hc0, hB, h.len200⟩
  · have hr := h.res
    have hne : w0.heap.size ≠ gr := fun e => h.roots.row.notCells hr (by decide) e.symm
    exact (hbl _ hr.lt hne).trans hr
  · have h1 := h.apart j e
    have h2 := (h.own.block j e).2
    rcases hn with rfl | hn
    · exact h1
    · omega
end
def heapNs : List Int := [12, 40, 90, 200]
theorem heapNs_in : ∀ x ∈ heapNs, ∃ n : Nat, x = n ∧ 2 ≤ n ∧ n ≤ 200 := by
  intro x hx
  simp [heapNs] at hx
  rcases hx with rfl | rfl | rfl | rfl
  · exact ⟨12, rfl, by omega, by omega⟩
  · exact ⟨40, rfl, by omega, by omega⟩
  · exact ⟨90, rfl, by omega, by omega⟩
  · exact ⟨200, rfl, by omega, by omega⟩
def heapTs : List ByteArray := [⟨#[97]⟩, ⟨#[98]⟩, ⟨#[107, 101, 121]⟩, ⟨#[]⟩]

set_option maxHeartbeats 32000000 in
set_option maxRecDepth 100000 in
theorem l3DrawHeap_ok (c : Nat) (a : Option Addr) (len cap : Nat) (z : Nat → Int) (w : World) (h : Cur w c a len cap z) :
    Calls Tryz.prog 89 #[.pointer (some ⟨c, 0, none⟩)] w fun e w' => ∃ v zs gr cr rs, e = .returned (.tuple #[.agg #[v], .slice (some ⟨gr, 0, none⟩) rs.length cr]) ∧ OwnR w' w.heap.size v zs ∧ 2 ≤ zs.length ∧ zs.length ≤ 200 ∧ OwnL w' w.heap.size (.slice (some ⟨gr, 0, none⟩) rs.length cr) rs ∧ 0 < rs.length ∧ rs.length ≤ 40 ∧ (∀ j, v.ownBlock = some j → j ≠ gr) ∧ Keeps c w w' ∧ Cur w' c a len cap z := by
  obtain ⟨i0, hi, hz0, hz1, hz2⟩ := info_parts infoI
  have hc0 := h.lt
  have h0 := h.alloc (.cells #[.slice none 0 0] 26)
  have b0 := Cells.new w 26 #[.slice none 0 0]
  have kk0 : Keeps c w (w.alloc (.cells #[.slice none 0 0] 26)) := (Keeps.refl _ _).alloc _
  have hP := l1PickInt_at c a len cap z heapNs 4 rfl (by omega) (by omega) _ 3 rfl _ h0
  simp only [World.size_alloc] at hP
  go_enter Tryz.func89, Tryz.ntmps89
  go_wp2_with fail
  refine hP.mono ?_
  rintro e w1 ⟨x, rfl, hx, hk1, hc1⟩
  obtain ⟨n0, rfl, hn2, hn200⟩ := heapNs_in x hx
  have b1 := b0.keeps hk1 (by omega)
  have K1 := kk0.trans hk1
  clear hP hx kk0 b0 h0 h hk1
  go_wp2_with fail
  refine (spec_SlabNew_yes _ n0 hn2 (by omega)).mono ?_
  rintro e w2 ⟨g2, rfl, hg2, hR2, hk2, _⟩
  have ka : Kept w2 (w2.alloc (.cells #[.slice (some ⟨g2, 0, none⟩) n0 n0] 26)) := Kept.alloc (Below.refl _ _) _
  have b2 := (b1.kept hk2).kept ka
  have x2 := Cells.new w2 26 #[.slice (some ⟨g2, 0, none⟩) n0 n0]
  have C2 := (hc1.kept hk2).kept ka
  have K2 := K1.trans ((hk2.trans ka).keeps c)
  have R2 := hR2.kept ka
  have lB : w.heap.size < w2.heap.size := by have := b1.lt; have := hk2.size; omega
  have ls : w.heap.size ≤ g2 := by have := b1.lt; omega
  clear b1 K1 hk2 hR2 hc1
  obtain ⟨B, hBd⟩ : ∃ B, w2.heap.size = B := ⟨_, rfl⟩
  rw [hBd] at x2 lB
  have lB' := x2.lt
  go_wp2_with fail
  refine (l1Below_ok c a len cap z 9 (by omega) _ C2).mono ?_
  rintro e w3 ⟨y, rfl, hy0, hy1, hk3, hc3⟩
  have hy2 : y < 9 := hy1 (by omega)
  have x3 := x2.keeps hk3 (by omega)
  have b3 := b2.keeps hk3 (by omega)
  have R3 := R2.keeps hk3 (by omega)
  have K3 := K2.trans hk3
  have hwb := Plain.wrap32_bd y
  obtain ⟨yw, hyw⟩ : ∃ yw, 8 * wrap32 y + 3 = yw := ⟨_, rfl⟩
  have hywb : InB yw := by unfold InB; omega
  have hIO := spec_IntOf_ok y w3
  rw [hyw] at hIO
  clear hy1 hk3 x2 b2 R2 K2 C2 hyw hwb ka hBd
  go_wp2_with (first | (go_at_call 130; refine hIO.mono ?_; rintro e wx ⟨rfl, rfl⟩) | (go_at_call 131; refine (spec_BoolOf_ok _ _).mono ?_; rintro e wx ⟨rfl, rfl⟩) | (go_at_call 90; fail))
  have hs3 := K3.size
  have HS0 : HS c a len cap z w B (.slice (some ⟨g2, 0, none⟩) n0 n0) (newL n0) w3.heap.size 4 [0, 1, yw, 10] (w3.alloc (.cells #[.int .i64 0, .int .i64 1, .int .i64 yw, .int .i64 10] 3)) := by
    have kb : Kept w3 (w3.alloc (.cells #[.int .i64 0, .int .i64 1, .int .i64 yw, .int .i64 10] 3)) := Kept.alloc (Below.refl _ _) _
    refine ⟨K3.trans (kb.keeps c), hc3.kept kb, x3.kept kb, b3.kept kb, .inr ⟨g2, n0, by rw [newL_len], ls, by rw [newL_len]; omega, R3.kept kb⟩, OwnL.made w3 w.heap.size hs3 [0, 1, yw, 10] 4 _ rfl rfl (by intro q hq; simp at hq; unfold InB at hywb; rcases hq with rfl | rfl | rfl | rfl <;> omega) (by omega), fun j e => ?_, hc0, lB, by rw [newL_len]; omega⟩
    cases e
    have := R3.lt
    show g2 ≠ w3.heap.size
    omega
  clear x3 b3 R3 K3 hc3 hIO hs3
  refine (l1Below_ok c a len cap z 25 (by omega) _ HS0.cur).mono ?_
  rintro e w4 ⟨nn, rfl, hnn0, hnn1, hk4, hc4⟩
  have hnn2 : nn < 25 := hnn1 (by omega)
  obtain ⟨m, rfl⟩ : ∃ m : Nat, nn = m := ⟨nn.toNat, by omega⟩
  have HS4 := HS0.go hk4 hc4
  clear hnn1 hnn0 hk4 hc4 HS0
  go_wp2_with fail
  go_loopw [6, 8] (fun s6 s8 wr => ∃ (k gr cr gs cs : Nat) (rs zs : List Int), s6 = .slice (some ⟨gr, 0, none⟩) rs.length cr ∧ s8 = .int .i64 k ∧ k ≤ m ∧ 0 < rs.length ∧ rs.length ≤ 4 + k ∧ 2 ≤ zs.length ∧ HS c a len cap z w B (.slice (some ⟨gs, 0, none⟩) zs.length cs) zs gr cr rs wr) (fun _ s8 _ => m - (intOf s8).toNat)
  case atStart => exact ⟨0, w3.heap.size, 4, g2, n0, [0, 1, yw, 10], newL n0, rfl, rfl, Nat.zero_le _, by simp, by simp, by rw [newL_len]; exact hn2, by rw [newL_len]; exact HS4⟩
  case round =>
    obtain ⟨k, gr, cr, gs, cs, rs, zs, rfl, rfl, hkm, hr0, hr1, hz2', HSk⟩ := hrel
    have hl200 := HSk.len200
    clear HS4
    by_cases hlt : k < m
    · have q1 : (k : Int) < (m : Int) := by omega
      have hrb := HSk.roots.row.ints.bd
      have HBd : Hid _ := hrb
      clear hrb
      go_wp2_with fail
      refine (l1Below_ok c a len cap z (rs.length : Int) (by omega) _ HSk.cur).mono ?_
      rintro e wa ⟨x0, rfl, hx0, hx1, hkx, hcx⟩
      have hx2 : x0 < (rs.length : Int) := hx1 (by omega)
      obtain ⟨xa, rfl⟩ : ∃ xa : Nat, x0 = xa := ⟨x0.toNat, by omega⟩
      have HSa := HSk.go hkx hcx
      have cxa := HSa.roots.row.cell (j := xa) (by omega)
      have ira : InB (hz rs xa) := HBd.out xa
      obtain ⟨ra, hra⟩ : ∃ ra, hz rs xa = ra := ⟨_, rfl⟩
      rw [hra] at cxa ira
      clear hx1 hx0 hkx hcx hra HSk
      go_wp2_with fail
      refine (l1Below_ok c a len cap z (rs.length : Int) (by omega) _ HSa.cur).mono ?_
      rintro e wb ⟨x0, rfl, hx0, hx1, hkx, hcx⟩
      have hx2 : x0 < (rs.length : Int) := hx1 (by omega)
      obtain ⟨xb, rfl⟩ : ∃ xb : Nat, x0 = xb := ⟨x0.toNat, by omega⟩
      have HSb := HSa.go hkx hcx
      have cxb := HSb.roots.row.cell (j := xb) (by omega)
      have irb : InB (hz rs xb) := HBd.out xb
      obtain ⟨rb, hrb⟩ : ∃ rb, hz rs xb = rb := ⟨_, rfl⟩
      rw [hrb] at cxb irb
      clear hx1 hx0 hkx hcx hrb HSa
      go_wp2_with fail
      refine (l1Below_ok c a len cap z (rs.length : Int) (by omega) _ HSb.cur).mono ?_
      rintro e wc0 ⟨x0, rfl, hx0, hx1, hkx, hcx⟩
      have hx2 : x0 < (rs.length : Int) := hx1 (by omega)
      obtain ⟨xc, rfl⟩ : ∃ xc : Nat, x0 = xc := ⟨x0.toNat, by omega⟩
      have HSc := HSb.go hkx hcx
      have cxc := HSc.roots.row.cell (j := xc) (by omega)
      have irc : InB (hz rs xc) := HBd.out xc
      obtain ⟨rc, hrc⟩ : ∃ rc, hz rs xc = rc := ⟨_, rfl⟩
      rw [hrc] at cxc irc
      clear hx1 hx0 hkx hcx hrc HSb
      have lBx := HSc.cell.lt
      go_wp2_with fail
      refine (l1Below_ok c a len cap z 8 (by omega) _ HSc.cur).mono ?_
      rintro e wd ⟨nd, rfl, hnd0, hnd1, hkd, hcd⟩
      have hnd2 : nd < 8 := hnd1 (by omega)
      have HSd := HSc.go hkd hcd
      clear HSc hkd hcd hnd1
      have lB2 := HSd.cell.lt
      go_upto_block 2 with fail
      go_cut [12, 13] from 28 to 140 (fun s12 s13 wx => ∃ (v' : Value) (zs' : List Int) (x : Int) (y : Bool), s12 = .int .i64 x ∧ InB x ∧ s13 = .bool y ∧ (zs'.length = zs.length ∨ zs'.length = 0) ∧ HS c a len cap z w B v' zs' gr cr rs wx)
      case first =>
        have cB := HSd.cell.cell 0
        rcases (show nd = 0 ∨ nd = 1 ∨ nd = 2 ∨ nd = 3 ∨ nd = 4 ∨ nd = 5 ∨ nd = 6 ∨ nd = 7 by omega) with rfl | rfl | rfl | rfl | rfl | rfl | rfl | rfl
        · have HSx := HSd.kept (Below.refl _ wd).drew
          have cx := HSx.cell.cell 0
          clear HSd
          go_wp2_with fail
          go_region_with (first | (go_at_call 94; refine (l1Pick_at c a len cap z heapTs 4 rfl (by omega) (by omega) _ 9 rfl _ HSx.cur).mono ?_; rintro e wy ⟨yy, rfl, _, hky, hcy⟩; have HSy := HSx.go hky hcy; have cy := HSy.cell.cell 0) | (go_at_call 9; refine (TextPut_w _ _ cs zs yy HSy.own.rowI (by omega)).mono ?_; rintro e wm ⟨vm, zm, xm1, ym, rfl, hxm, om, hlm, hkm⟩; obtain ⟨lam, lcm, rfl, _⟩ := om.ints; have xm := HSy.cell.kept hkm; have cm := xm.cell 0; have fm := xm.frozen 0; have HSm := HSy.put hkm om (by omega)))
          all_goals (go_wp2_with fail; go_meet; exact ⟨_, zm, xm1, ym, rfl, hxm, rfl, hlm, HSm⟩)
        · have HSx := HSd.kept (Below.refl _ wd).drew
          have cx := HSx.cell.cell 0
          clear HSd
          go_wp2_with fail
          go_region_with (first | (go_at_call 94; refine (l1Pick_at c a len cap z heapTs 4 rfl (by omega) (by omega) _ 9 rfl _ HSx.cur).mono ?_; rintro e wy ⟨yy, rfl, _, hky, hcy⟩; have HSy := HSx.go hky hcy; have cy := HSy.cell.cell 0) | (go_at_call 9; refine (TextPut_w _ _ cs zs yy HSy.own.rowI (by omega)).mono ?_; rintro e wm ⟨vm, zm, xm1, ym, rfl, hxm, om, hlm, hkm⟩; obtain ⟨lam, lcm, rfl, _⟩ := om.ints; have xm := HSy.cell.kept hkm; have cm := xm.cell 0; have fm := xm.frozen 0; have HSm := HSy.put hkm om (by omega)))
          all_goals (go_wp2_with fail; go_meet; exact ⟨_, zm, xm1, ym, rfl, hxm, rfl, hlm, HSm⟩)
        · go_wp2_with (go_at_call 33; refine (ObjNew_w _ _ cs zs 1 HSd.own.rowI (by omega) (by unfold InB; omega)).mono ?_; rintro e wm ⟨vm, zm, xm1, ym, rfl, hxm, om, hlm, hkm⟩; obtain ⟨lam, lcm, rfl, _⟩ := om.ints; have xm := HSd.cell.kept hkm; have cm := xm.cell 0; have fm := xm.frozen 0; have HSm := HSd.put hkm om (by omega))
          go_meet
          exact ⟨_, zm, xm1, ym, rfl, hxm, rfl, hlm, HSm⟩
        · go_wp2_with (go_at_call 33; refine (ObjNew_w _ _ cs zs ra HSd.own.rowI (by omega) ira).mono ?_; rintro e wm ⟨vm, zm, xm1, ym, rfl, hxm, om, hlm, hkm⟩; obtain ⟨lam, lcm, rfl, _⟩ := om.ints; have xm := HSd.cell.kept hkm; have cm := xm.cell 0; have fm := xm.frozen 0; have HSm := HSd.put hkm om (by omega))
          go_meet
          exact ⟨_, zm, xm1, ym, rfl, hxm, rfl, hlm, HSm⟩
        · have HSx := HSd.kept (Below.refl _ wd).drew
          have cx := HSx.cell.cell 0
          clear HSd
          go_wp2_with fail
          go_region_with (first | (go_at_call 90; refine (l1Below_ok c a len cap z 3 (by omega) _ HSx.cur).mono ?_; rintro e wy ⟨yy, rfl, hy0, hy1, hky, hcy⟩; have HSy := HSx.go hky hcy; have cy := HSy.cell.cell 0; have hyb : InB yy := (by have := hy1 (by omega); unfold InB; omega)) | (go_at_call 132; refine (ScopeNew_w _ _ cs zs 0 yy HSy.own.rowI (by omega) zero_in).mono ?_; rintro e wm ⟨vm, zm, xm1, ym, rfl, hxm, om, hlm, hkm⟩; obtain ⟨lam, lcm, rfl, _⟩ := om.ints; have xm := HSy.cell.kept hkm; have cm := xm.cell 0; have fm := xm.frozen 0; have HSm := HSy.put hkm om (by omega)))
          all_goals (go_wp2_with fail; go_meet; exact ⟨_, zm, xm1, ym, rfl, hxm, rfl, hlm, HSm⟩)
        · have HSx := HSd.kept (Below.refl _ wd).drew
          have cx := HSx.cell.cell 0
          clear HSd
          go_wp2_with fail
          go_region_with (first | (go_at_call 90; refine (l1Below_ok c a len cap z 5 (by omega) _ HSx.cur).mono ?_; rintro e wy ⟨yy, rfl, hy0, hy1, hky, hcy⟩; have HSy := HSx.go hky hcy; have cy := HSy.cell.cell 0; have hyb : InB yy := (by have := hy1 (by omega); unfold InB; omega)) | (go_at_call 133; refine (FunNew_w _ _ cs zs yy ra HSy.own.rowI (by omega) ira).mono ?_; rintro e wm ⟨vm, zm, xm1, ym, rfl, hxm, om, hlm, hkm⟩; obtain ⟨lam, lcm, rfl, _⟩ := om.ints; have xm := HSy.cell.kept hkm; have cm := xm.cell 0; have fm := xm.frozen 0; have HSm := HSy.put hkm om (by omega)))
          all_goals (go_wp2_with fail; go_meet; exact ⟨_, zm, xm1, ym, rfl, hxm, rfl, hlm, HSm⟩)
        · go_wp2_with (go_at_call 20; refine (PropSet_w _ _ cs zs ra rb rc HSd.own.rowI (by omega) ira irb irc).mono ?_; rintro e wm ⟨vm, zm, ym, rfl, om, hlm, hkm⟩; obtain ⟨lam, lcm, rfl, _⟩ := om.ints; have xm := HSd.cell.kept hkm; have cm := xm.cell 0; have fm := xm.frozen 0; have HSm := HSd.put hkm om (by omega))
          go_meet
          exact ⟨_, zm, 0, false, rfl, zero_in, rfl, hlm, HSm⟩
        · have HSx := HSd.kept (Below.refl _ wd).drew
          have cx := HSx.cell.cell 0
          clear HSd
          go_wp2_with fail
          go_region_with (first | (go_at_call 90; refine (l1Below_ok c a len cap z 2 (by omega) _ HSx.cur).mono ?_; rintro e wy ⟨yy, rfl, hy0, hy1, hky, hcy⟩; have HSy := HSx.go hky hcy; have cy := HSy.cell.cell 0; have hyb : InB yy := (by have := hy1 (by omega); unfold InB; omega)) | (go_at_call 134; refine (VarSet_w _ _ cs zs ra 0 yy rb HSy.own.rowI (by omega) ira hyb irb).mono ?_; rintro e wm ⟨vm, zm, ym, rfl, om, hlm, hkm⟩; obtain ⟨lam, lcm, rfl, _⟩ := om.ints; have xm := HSy.cell.kept hkm; have cm := xm.cell 0; have fm := xm.frozen 0; have HSm := HSy.put hkm om (by omega)))
          all_goals (go_wp2_with fail; go_meet; exact ⟨_, zm, 0, false, rfl, zero_in, rfl, hlm, HSm⟩)
      case rest =>
        obtain ⟨v', zs', x', y', rfl, hx', rfl, hzl, HSe⟩ := hcut
        obtain ⟨la, lc, rfl, _⟩ := HSe.own.ints
        have ce := HSe.cell.cell 0
        have fe := HSe.cell.frozen 0
        have le := HSe.cell.lt
        clear HSd
        by_cases hemp : zs'.length = 0
        · have he1 : ((zs'.length : Int) == 0) = true := by simp [hemp]
          have HSE : Hid _ := HSe
          go_wp2_with fail
          refine (spec_SlabNew_yes _ 30 (by omega) (by omega)).mono ?_
          rintro e wf ⟨gf, rfl, hgf, hRf, hkf, _⟩
          have HSf := HSe.put hkf (v' := .slice (some ⟨gf, 0, none⟩) 30 30) (zs' := newL 30) (.inr ⟨gf, 30, by rw [newL_len], hgf, by rw [newL_len]; omega, hRf⟩) (by rw [newL_len]; omega)
          have cf := (HSe.cell.kept hkf).cell 0
          have ff := (HSe.cell.kept hkf).frozen 0
          clear HSe ce fe
          go_wp2_with fail
          have hsf := HSf.keeps.size
          have kb := fun W : World => Kept.alloc (Below.refl _ W) (.cells #[.int .i64 0, .int .i64 1] 3)
          have ho := OwnL.made (wf.setCell ⟨B, 0, none⟩ (.slice (some ⟨gf, 0, none⟩) 30 30)) w.heap.size hsf [0, 1] 2 #[.int .i64 0, .int .i64 1] rfl rfl (by simp) (by omega)
          have HSg := HSf.vals (grown_any (kb _) (some gr)) (cr' := 2) (rs' := [0, 1]) ho (.inr (Nat.le_refl _))
          rw [show (wf.setCell ⟨B, 0, none⟩ (.slice (some ⟨gf, 0, none⟩) 30 30)).heap.size = wf.heap.size by simp [World.setCell]] at HSg
          go_roundw
          case rel => exact ⟨k + 1, wf.heap.size, 2, gf, 30, [0, 1], newL 30, rfl, by go_num, by omega, by simp, by simp; omega, by rw [newL_len]; omega, by rw [newL_len]; exact HSg⟩
          case measure => simp [intOf]; omega
        · have he1 : ((zs'.length : Int) == 0) = false := beq_eq_false_iff_ne.2 (by omega)
          obtain ⟨gs', rfl⟩ : ∃ gs', la = some ⟨gs', 0, none⟩ := by
            rcases HSe.own with ⟨e, e'⟩ | ⟨g', c', e, _⟩
            · rw [e'] at hemp; simp at hemp
            · cases e; exact ⟨g', rfl⟩
          have hz2e : 2 ≤ zs'.length := by omega
          cases y' with
          | false =>
            have HSE : Hid _ := HSe
            go_wp2_with fail
            go_roundw
            case rel => exact ⟨k + 1, gr, cr, gs', lc, rs, zs', rfl, by go_num, by omega, hr0, by omega, hz2e, HSE.out⟩
            case measure => simp [intOf]; omega
          | true =>
            have hrow := HSe.roots
            have hgr := HSe.grIn
            have hbb := HSe.roots.1
            have ho := hrow.2
            have HSE : Hid _ := HSe
            go_wp2_with (at_builtin; refine wpList_append_own_at _ rfl _ _ 24 rfl w.heap.size 3 i0 (.int .i64 0) 1 8 Tryz.underlying24 hi hz0 hz1 hz2 rfl (by decide) _ _ _ rfl (ho.alloc _) ⟨wc.heap.size, 0, none⟩ 1 1 [.int .i64 x'] rfl rfl (cell_one_new _ _ _) (by simp [Value.oneCell']) (by unfold maxLen; omega) (by omega) (by simp; omega) ?_; intro v'' wn hown' hgrow0 _ hblk; have hgrow : (wc.alloc (.cells #[.int .i64 x'] 3)).grownBy wn (some gr) := hgrow0; obtain ⟨g', cp', rfl, hO'⟩ := app_vals hbb hx' hown')
            have HSn := (HSE.out.kept (Kept.alloc (Below.refl _ wc) (.cells #[.int .i64 x'] 3))).vals hgrow hO' (by
              rcases hblk with e | e
              · exact .inl (Option.some.inj e)
              · exact .inr (Nat.le_of_eq (Option.some.inj e).symm))
            go_roundw
            case rel => exact ⟨k + 1, g', cp', gs', lc, rs ++ [x'], zs', by simp, by go_num, by omega, by simp, by simp; omega, hz2e, HSn⟩
            case measure => simp [intOf]; omega
    · have hg : ¬ (k : Int) < (m : Int) := by omega
      have cB := HSk.cell.cell 0
      have cr0 := HSk.res.cell 0
      have fr0 := HSk.res.frozen 0
      have hlB := HSk.cell.lt
      have HK : Hid _ := HSk
      go_wp2_with fail
      have hS := HK.out
      have hne : gs ≠ w.heap.size := fun e => by
        rcases hS.own with ⟨e', _⟩ | ⟨g', c', e', _, _, hR⟩
        · cases e'
        · cases e'; exact hR.notCells hS.res (by decide) e
      have hgr : gr ≠ w.heap.size := hS.roots.row.notCells hS.res (by decide)
      have q := (hS.res.set1 (.slice (some ⟨gs, 0, none⟩) zs.length cs)).cell 0
      have hsz : (wr.setCell ⟨w.heap.size, 0, none⟩ (.slice (some ⟨gs, 0, none⟩) zs.length cs)).heap.size = wr.heap.size := by simp [World.setCell]
      have hoth : ∀ i, i ≠ w.heap.size → (wr.setCell ⟨w.heap.size, 0, none⟩ (.slice (some ⟨gs, 0, none⟩) zs.length cs)).heap[i]? = wr.heap[i]? := fun i hi => Below.heap_setCell _ _ _ _ hi
      refine bodyPost_ret (v := .tuple #[.agg #[.slice (some ⟨gs, 0, none⟩) zs.length cs], .slice (some ⟨gr, 0, none⟩) rs.length cr]) (by simp [results, Tryz.results89, go_sem, q]) rfl ⟨_, zs, gr, cr, rs, rfl, hS.own.other hS.res (by decide) _, hz2', hl200, hS.roots.same (fun j e => by cases e; exact hoth _ hgr), hr0, by omega, hS.apart, ⟨hS.keeps.os, hS.keeps.tape, hS.keeps.output, by rw [hsz]; exact hS.keeps.size, fun i hi hc => (hoth i (by omega)).trans (hS.keeps.block i hi hc)⟩, hS.cur.upto (by omega) (fun i hi => hoth i (by omega))⟩
end Go.Proofs.YtpbafjcoomfooaaGreat
