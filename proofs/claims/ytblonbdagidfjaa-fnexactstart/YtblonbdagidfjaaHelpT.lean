/-
  What toIntS and toMarker yield are rows of one's own.
-/
import Derived.Test.YtblonbdagidfjaaHelpQ
import Derived.Test.YtblonbdagidfjaaHelpM
namespace Go.Proofs.Ytblonbdagidfjaa
open Go.RowKit

def SzIs (W : World) (g n : Nat) : Prop := ∃ cur : Array Value, W.heap[g]? = some (.cells cur 3 (0, 0)) ∧ cur.size = n
theorem SzIs.set {W : World} {g n k : Nat} {v : Value} (h : SzIs W g n) : SzIs (W.setCell ⟨g, k, none⟩ v) g n := by
  obtain ⟨cur, hc, hs⟩ := h
  refine ⟨cur.setIfInBounds k v, ?_, by simpa using hs⟩
  obtain ⟨hlt, he⟩ := Array.getElem?_eq_some_iff.1 hc
  show (W.heap.modify g _)[g]? = _
  rw [Array.getElem?_eq_getElem (by rw [Array.size_modify]; exact hlt), Array.getElem_modify_self, he]
  rfl
theorem Row.ownT {W : World} {g base : Nat} {zs : List Int} (h : Row W g zs) (hs : SzIs W g zs.length) (hb : base ≤ g) (hl : zs.length ≤ 1048576) : OwnL W base (.slice (some ⟨g, 0, none⟩) zs.length zs.length) zs := by
  obtain ⟨h0, cur, hc, _, h2⟩ := h
  obtain ⟨cur', hc', hsz⟩ := hs
  rw [hc] at hc'
  cases hc'
  refine ⟨h0, by simp, .inr ⟨g, zs.length, cur, rfl, hb, hc, Nat.le_refl _, by unfold maxLen; omega, by simpa using hsz, ?_⟩⟩
  apply List.ext_getElem?
  intro j
  rw [List.getElem?_take]
  by_cases hj : j < zs.length
  · rw [if_pos (by simpa using hj)]
    have := h2 j hj
    rw [List.getElem?_map, List.getElem?_eq_getElem hj]
    simp only [Array.getElem?_toList, this, hz, List.getElem?_eq_getElem hj, Option.map_some, Option.getD_some]
  · rw [if_neg (by simpa using hj), List.getElem?_eq_none (by simpa using hj)]
theorem OwnL.farT {W : World} {base : Nat} {v : Value} {l : List Int} {p : Addr} {u : Value} (h : OwnL W base v l) (hne : ∀ j, v.ownBlock = some j → j ≠ p.block) : OwnL (W.setCell p u) base v l :=
  OwnL.kept (row := some p.block) h ⟨rfl, rfl, rfl, by simp, fun k _ hk => Below.heap_setCell _ _ _ _ (fun e => hk (by rw [e]))⟩ (fun k e j hj => by cases e; exact hne j hj)
theorem OwnL.lowT {W : World} {a b : Nat} {v : Value} {l : List Int} (h : OwnL W b v l) (hab : a ≤ b) : OwnL W a v l := ⟨h.1, ownsRow_base h.2 hab⟩
theorem farB {g n c x : Nat} (h : g ≠ x) : ∀ j, (Value.slice (some ⟨g, 0, none⟩) n c).ownBlock = some j → j ≠ x := fun j hj => by simp [Value.ownBlock] at hj; omega
theorem Cells.belowT {n : Nat} {W W' : World} {B : Nat} {t : TypeId} {cs : Array Value} (h : Cells W B t cs) (hk : Below n W W') (hB : B < n) : Cells W' B t cs := (hk.block B hB).trans h
theorem OwnL.intsT {W : World} {base c : Nat} {ao : Option Addr} {l : List Int} (h : OwnL W base (.slice ao l.length c) l) : Ints W ao l := by
  obtain ⟨_, _, e, hI⟩ := h.ints
  cases e
  exact hI
theorem OwnL.keptT {W W' : World} {base : Nat} {v : Value} {l : List Int} (h : OwnL W base v l) (hk : Kept W W') : OwnL W' base v l := OwnL.kept (row := none) h hk.grown (fun k e => by cases e)
theorem OwnL.rowT {W : World} {base g c : Nat} {l : List Int} (h : OwnL W base (.slice (some ⟨g, 0, none⟩) l.length c) l) : Row W g l := (Row.of_owns h.2 h.1).1
theorem OwnL.belowT {W W' : World} {b base : Nat} {v : Value} {l : List Int} (h : OwnL W base v l) (hk : Below b W W') (hlt : ∀ j, v.ownBlock = some j → j < b) : OwnL W' base v l := by
  refine ⟨h.1, h.2.1, ?_⟩
  rcases h.2.2 with ⟨e, hn⟩ | ⟨g, cap, cur, rfl, hb, hg, h1⟩
  · exact .inl ⟨e, hn⟩
  · exact .inr ⟨g, cap, cur, rfl, hb, (hk.block g (hlt g rfl)).trans hg, h1⟩
set_option maxHeartbeats 1000000 in
theorem toIntS_own (w : World) (ao : Option Addr) (cap : Nat) (zs : List Int) (hI : Ints w ao zs) (hl : zs.length ≤ 1048576) :
    Calls Try.prog 9 #[.slice ao zs.length cap] w fun e w' => e = .returned (.slice (some ⟨w.heap.size, 0, none⟩) zs.length zs.length) ∧ OwnL w' w.heap.size (.slice (some ⟨w.heap.size, 0, none⟩) zs.length zs.length) zs ∧ Kept w w' := by
  obtain ⟨i0, hi, hz0, hz1, hz2⟩ := info_parts infoI
  go_enter Try.func9, Try.ntmps9
  go_wp2_with (at_make; refine wpList_make_full _ rfl _ _ 22 rfl w.heap.size 3 i0 (.int .i64 0) 1 Try.underlying22 hi hz0 hz1 .i64 .i64 _ _ zs.length rfl rfl rfl rfl (by rw [hz2]; omega) (by unfold maxLen; omega) (Nat.le_refl _) ?_; intro w1 hown hgrow)
  have hS : SzIs w1 w.heap.size zs.length := by
    rcases hown.2 with ⟨e, _⟩ | ⟨g, c, cur, e, _, hg, _, _, h3, _⟩
    · cases e
    · cases e
      exact ⟨cur, hg, by simpa using h3⟩
  rw [madeInts] at hown
  have hR := (Row.of_owns hown (by simp)).1
  have hK : Kept w w1 := (Below.refl _ w).grown hgrow (Nat.le_refl _) (by simp)
  clear hown hgrow
  go_loopw [4] (fun i wr => ∃ k : Nat, i = .int .i64 k ∧ k ≤ zs.length ∧ Row wr w.heap.size (upto zs k) ∧ Hid (SzIs wr w.heap.size zs.length) ∧ Kept w wr) (fun i _ => zs.length - (intOf i).toNat)
  case atStart => exact ⟨0, rfl, Nat.zero_le _, by simpa [upto] using hR, hS, hK⟩
  case round =>
    obtain ⟨k, rfl, hk, hRk, HSk, hKk⟩ := hrel
    clear hR hK hS
    by_cases hlt : k < zs.length
    · obtain ⟨b, off, rfl, hc⟩ := (hI.kept hKk).at hlt
      have hck := hc k hlt
      have hcg := hRk.cell (j := k) (by rw [upto_len _ _ hk]; exact hlt)
      have hfg := hRk.frozen k
      have HR : Hid _ := hRk.set (k := k) (v := hz zs k) (by rw [upto_len _ _ hk]; exact hlt) (hI.bd k)
      have HS : Hid _ := SzIs.set (k := k) (v := .int .i64 (hz zs k)) HSk.out
      have HK : Hid (Kept w _) := hKk.setCell (p := ⟨w.heap.size, k, none⟩) (Nat.le_refl _) (.int .i64 (hz zs k))
      clear hc hI hRk hKk
      go_wp2
      go_roundw
      case rel => exact ⟨k + 1, by go_num, by omega, by rw [← upto_succ zs k hlt]; exact HR.out, HS.out, HK.out⟩
      case measure => simp [intOf]; omega
    · obtain rfl : k = zs.length := by omega
      have HR : Hid _ := hRk
      clear hRk hI
      go_wp2
      go_ret
      exact ⟨rfl, Row.ownT (by have := HR.out; rwa [upto_all] at this) HSk.out (Nat.le_refl _) hl, hKk⟩
end Go.Proofs.Ytblonbdagidfjaa
