/-
  The contracts of the draws of chapter 2's slabs: what is drawn is a slab of the call's own, and nothing that was there turns but the cursor.
  The contracts of the draws of chapter 2: l2Draw, l2DrawAt, and what the laws draw.
  The contracts of what the laws of chapter 2 draw, and of sameInts.
  What Take makes of a slab, both of the program and of its model; sameInts.
  The contracts of what FnGiven draws; facts on lists that it asks for.
  The contracts of the draws of chapter 1 (spec.DrawWrap, DrawIntOf, DrawBoolOf, DrawRefOf, DrawKind, DrawNum, DrawValueOk): each returns an integer that fits, or a bool, and turns no memory that was there.
-/
import Derived.Deep.RegionWith
import Derived.Deep.CutRange
import Derived.Deep.RegionHeld3
import Derived.Test.YtpbafjcoomfooaaGreatDraw
import Derived.Test.YtpbafjcoomfooaaGreatKepB
import Derived.Test.YtpbafjcoomfooaaGreatGrpB
import Derived.Test.YtpbafjcoomfooaaGreatGrpC
import Derived.Test.YtpbafjcoomfooaaGreatSeq
import Derived.Test.YtpbafjcoomfooaaGreatSlabR
import Derived.Test.YtpbafjcoomfooaaGreatGrpS
import Derived.Test.YtpbafjcoomfooaaGreatSlabAt
namespace Go.Proofs.YtpbafjcoomfooaaGreat
open Go.RowKit

theorem Keeps.grown {c g : Nat} {w0 w w' : World} (h : Keeps c w0 w) (hg : w.grownBy w' (some g)) (hb : w0.heap.size ≤ g) : Keeps c w0 w' :=
  ⟨hg.os.trans h.os, hg.tape.trans h.tape, hg.output.trans h.output, Nat.le_trans h.size hg.size, fun k hk hc => (hg.block k (Nat.lt_of_lt_of_le hk h.size) (by intro e; cases e; omega)).trans (h.block k hk hc)⟩
theorem Cur.upto {w w' : World} {c : Nat} {a : Option Addr} {len cap : Nat} {z : Nat → Int} (h : Cur w c a len cap z) (hs : w.heap.size ≤ w'.heap.size) (hb : ∀ k, k ≤ c → w'.heap[k]? = w.heap[k]?) : Cur w' c a len cap z := by
  have hc : ∀ p : Addr, p.block ≤ c → w'.cell? p = w.cell? p := fun p hp => World.cell?_of_block (w := w) (hb p.block hp)
  have hf : ∀ p : Addr, p.block ≤ c → w'.frozen? p = w.frozen? p := fun p hp => by simp only [World.frozen?]; rw [hb p.block hp]
  obtain ⟨lt, src, b, i, g, f1, f2⟩ := h
  refine ⟨by omega, ⟨src.1, fun hl => ?_⟩, by rw [hc _ (Nat.le_refl _)]; exact b, ?_, ?_, by rw [hf _ (Nat.le_refl _)]; exact f1, by rw [hf _ (Nat.le_refl _)]; exact f2⟩
  · obtain ⟨b, o, ha, hB, hz⟩ := src.2 hl
    exact ⟨b, o, ha, hB, fun i hi => ⟨by rw [hc _ (by show b ≤ c; omega)]; exact (hz i hi).1, (hz i hi).2⟩⟩
  · obtain ⟨k, hk, e⟩ := i
    exact ⟨k, hk, by rw [hc _ (Nat.le_refl _)]; exact e⟩
  · obtain ⟨k, e⟩ := g
    exact ⟨k, by rw [hc _ (Nat.le_refl _)]; exact e⟩
theorem Cur.kept {w w' : World} {c : Nat} {a : Option Addr} {len cap : Nat} {z : Nat → Int} (h : Cur w c a len cap z) (hk : Kept w w') : Cur w' c a len cap z :=
  h.upto hk.size (fun k hk' => hk.block k (by have := h.lt; omega))
theorem Cur.grown {w w' : World} {c g : Nat} {a : Option Addr} {len cap : Nat} {z : Nat → Int} (h : Cur w c a len cap z) (hg : w.grownBy w' (some g)) (hc : c < g) : Cur w' c a len cap z :=
  h.upto hg.size (fun k hk' => hg.block k (by have := h.lt; omega) (by intro e; cases e; omega))
theorem OwnR.keeps {W W' : World} {base c : Nat} {v : Value} {zs : List Int} (h : OwnR W base v zs) (hk : Keeps c W W') (hc : c < base) : OwnR W' base v zs := by
  rcases h with ⟨rfl, rfl⟩ | ⟨g, cap, rfl, hb, hcap, hR⟩
  · exact .inl ⟨rfl, rfl⟩
  · exact .inr ⟨g, cap, rfl, hb, hcap, hR.keeps hk (by omega)⟩
theorem OwnR.base {W : World} {base base' : Nat} {v : Value} {zs : List Int} (h : OwnR W base v zs) (hb : base' ≤ base) : OwnR W base' v zs := by
  rcases h with ⟨rfl, rfl⟩ | ⟨g, cap, rfl, hg, hcap, hR⟩
  · exact .inl ⟨rfl, rfl⟩
  · exact .inr ⟨g, cap, rfl, by omega, hcap, hR⟩

/-- The state of l2DrawRight: its slab, in its variable at block B, and the cursor. -/
structure DS (c : Nat) (a : Option Addr) (len cap : Nat) (z : Nat → Int) (w0 : World) (B : Nat) (v : Value) (zs : List Int) (w : World) : Prop where
  keeps : Keeps c w0 w
  cur : Cur w c a len cap z
  cell : Cells w B 26 #[v]
  res : Cells w w0.heap.size 26 #[.slice none 0 0]
  own : OwnR w w0.heap.size v zs
  full : FullV w v
  ok : slabOk zs = true
  len2 : 2 ≤ zs.length
  len90 : zs.length ≤ 90
theorem DS.go {c : Nat} {a : Option Addr} {len cap : Nat} {z : Nat → Int} {w0 : World} {B : Nat} {v : Value} {zs : List Int} {w w' : World} (h : DS c a len cap z w0 B v zs w) (hc0 : c < w0.heap.size) (hB : w0.heap.size ≤ B) (hk : Keeps c w w') (hc : Cur w' c a len cap z) : DS c a len cap z w0 B v zs w' :=
  ⟨h.keeps.trans hk, hc, h.cell.keeps hk (by omega), h.res.keeps hk (by omega), h.own.keeps hk hc0, fun g n c' e => (h.full g n c' e).block (hk.block g (h.full g n c' e).lt (by have := (h.own.block g (by rw [e]; simp [Value.ownBlock])).1; omega)), h.ok, h.len2, h.len90⟩
theorem DS.kept {c : Nat} {a : Option Addr} {len cap : Nat} {z : Nat → Int} {w0 : World} {B : Nat} {v : Value} {zs : List Int} {w w' : World} (h : DS c a len cap z w0 B v zs w) (hc0 : c < w0.heap.size) (hB : w0.heap.size ≤ B) (hk : Kept w w') : DS c a len cap z w0 B v zs w' :=
  h.go hc0 hB (hk.keeps c) (h.cur.kept hk)
/-- The variable is written. -/
theorem DS.set {c : Nat} {a : Option Addr} {len cap : Nat} {z : Nat → Int} {w0 : World} {B : Nat} {v v' : Value} {zs zs' : List Int} {w : World} (h : DS c a len cap z w0 B v zs w) (hc0 : c < w0.heap.size) (hB : w0.heap.size < B) (ho : OwnR w w0.heap.size v' zs') (hfu : FullV w v') (hgB : ∀ j, v'.ownBlock = some j → j ≠ B) (ok : slabOk zs' = true) (hl : zs'.length = zs.length) : DS c a len cap z w0 B v' zs' (w.setCell ⟨B, 0, none⟩ v') := by
  have hother : ∀ k, k ≠ B → (w.setCell ⟨B, 0, none⟩ v').heap[k]? = w.heap[k]? := fun k hk => Below.heap_setCell _ _ _ _ hk
  have hsz : (w.setCell ⟨B, 0, none⟩ v').heap.size = w.heap.size := by simp [World.setCell]
  refine ⟨⟨h.keeps.os, h.keeps.tape, h.keeps.output, by rw [hsz]; exact h.keeps.size, fun k hk hc => (hother k (by omega)).trans (h.keeps.block k hk hc)⟩, h.cur.upto (by omega) (fun k hk => hother k (by omega)), h.cell.set1 v', h.res.other (by intro e; simp at e; omega) _, ?_, hfu.set _ _ _, ok, by have := h.len2; omega, by have := h.len90; omega⟩
  rcases ho with ⟨rfl, rfl⟩ | ⟨g, cp, rfl, hb, hcap, hR⟩
  · exact .inl ⟨rfl, rfl⟩
  · exact .inr ⟨g, cp, rfl, hb, hcap, hR.other (by intro e; exact hgB g (by simp [Value.ownBlock]) (by simpa using e)) _⟩

theorem Row.notCells {w : World} {g B : Nat} {zs : List Int} {t : TypeId} {cs : Array Value} (h : Row w g zs) (hB : Cells w B t cs) (ht : t ≠ 3) : g ≠ B := by
  rintro rfl
  obtain ⟨_, cur, e, _⟩ := h
  rw [show w.heap[g]? = _ from hB] at e
  simp at e
  exact ht e.2
theorem OwnR.other {W : World} {base B8 : Nat} {v : Value} {zs : List Int} {t : TypeId} {cs : Array Value} (h : OwnR W base v zs) (A : Cells W B8 t cs) (ht : t ≠ 3) (u : Value) : OwnR (W.setCell ⟨B8, 0, none⟩ u) base v zs := by
  rcases h with ⟨rfl, rfl⟩ | ⟨g, cp, rfl, hb, hcap, hR⟩
  · exact .inl ⟨rfl, rfl⟩
  · exact .inr ⟨g, cp, rfl, hb, hcap, hR.other (fun e => hR.notCells A ht (by simpa using e)) _⟩
theorem DS.other {c : Nat} {a : Option Addr} {len cap : Nat} {z : Nat → Int} {w0 : World} {B B8 : Nat} {v : Value} {zs : List Int} {w : World} {cs : Array Value} (h : DS c a len cap z w0 B v zs w) (hc0 : c < w0.heap.size) (A : Cells w B8 26 cs) (hB8 : w0.heap.size < B8) (hne : B8 ≠ B) (u : Value) : DS c a len cap z w0 B v zs (w.setCell ⟨B8, 0, none⟩ u) := by
  have hother : ∀ k, k ≠ B8 → (w.setCell ⟨B8, 0, none⟩ u).heap[k]? = w.heap[k]? := fun k hk => Below.heap_setCell _ _ _ _ hk
  have hsz : (w.setCell ⟨B8, 0, none⟩ u).heap.size = w.heap.size := by simp [World.setCell]
  exact ⟨⟨h.keeps.os, h.keeps.tape, h.keeps.output, by rw [hsz]; exact h.keeps.size, fun k hk hc => (hother k (by omega)).trans (h.keeps.block k hk hc)⟩, h.cur.upto (by omega) (fun k hk => hother k (by omega)), h.cell.other (by intro e; simp at e; omega) _, h.res.other (by intro e; simp at e; omega) _, h.own.other A (by decide) _, h.full.set _ _ _, h.ok, h.len2, h.len90⟩
/-- A word of the slab is written. -/
theorem DS.word {c : Nat} {a : Option Addr} {len cap : Nat} {z : Nat → Int} {w0 : World} {B g cp n : Nat} {zs : List Int} {w : World} (h : DS c a len cap z w0 B (.slice (some ⟨g, 0, none⟩) n cp) zs w) (hc0 : c < w0.heap.size) {j : Nat} (hj : j < zs.length) {x : Int} (hx : -9223372036854775808 ≤ x ∧ x ≤ 9223372036854775807) (ok : slabOk (zs.set j x) = true) : DS c a len cap z w0 B (.slice (some ⟨g, 0, none⟩) n cp) (zs.set j x) (w.setCell ⟨g, j, none⟩ (.int .i64 x)) := by
  rcases h.own with ⟨e, _⟩ | ⟨g', cp', e, hb, hcap, hR⟩
  · cases e
  · cases e
    have n1 := hR.notCells h.cell (by decide)
    have n2 := hR.notCells h.res (by decide)
    have hother : ∀ k, k ≠ g → (w.setCell ⟨g, j, none⟩ (.int .i64 x)).heap[k]? = w.heap[k]? := fun k hk => Below.heap_setCell _ _ _ _ hk
    have hsz : (w.setCell ⟨g, j, none⟩ (.int .i64 x)).heap.size = w.heap.size := by simp [World.setCell]
    refine ⟨⟨h.keeps.os, h.keeps.tape, h.keeps.output, by rw [hsz]; exact h.keeps.size, fun k hk hc => (hother k (by omega)).trans (h.keeps.block k hk hc)⟩, h.cur.upto (by omega) (fun k hk => hother k (by omega)), h.cell.other (by intro e; exact n1 (by simpa using e.symm)) _, h.res.other (by intro e; exact n2 (by simpa using e.symm)) _, .inr ⟨g, cp, by rw [List.length_set], hb, by rw [List.length_set]; exact hcap, hR.set hj hx⟩, h.full.set _ _ _, ok, by rw [List.length_set]; exact h.len2, by rw [List.length_set]; exact h.len90⟩
theorem wrapI (x : Int) (h1 : -9223372036854775808 ≤ x) (h2 : x ≤ 9223372036854775807) : IntKind.i64.wrap x = x := IntWalk.i64_in x ⟨h1, h2⟩
theorem spec_Take_any (w : World) (ao : Option Addr) (cap : Nat) (zs : List Int) (kind n : Int) (hI : Ints w ao zs) (hl : zs.length ≤ 1048576) (hok : slabOk zs = true) (h1 : 1 ≤ kind) (h5 : kind ≤ 5) (h2 : 2 ≤ n) (hn : n ≤ 9223372036854775807) :
    Calls Tryz.prog 154 #[.agg #[.slice ao zs.length cap], .int .i64 kind, .int .i64 n] w fun e w' => ∃ (rs : List Int) (at' : Nat) (ok : Bool) (v : Value), e = .returned (.tuple #[.agg #[v], .int .i64 at', .bool ok]) ∧ OwnR w' w.heap.size v rs ∧ Kept w w' ∧ FullV w' v ∧ rs.length = zs.length ∧ slabOk rs = true ∧ (ok = true → ∃ s' q, (⟨at', s', q⟩ : Bk) ∈ raw (blocks rs)) := by
  obtain ⟨k, rfl⟩ : ∃ k : Nat, kind = k := ⟨kind.toNat, by omega⟩
  obtain ⟨m, rfl⟩ : ∃ m : Nat, n = m := ⟨n.toNat, by omega⟩
  cases hb : ffB zs m with
  | none =>
    refine (spec_Take_do w ao cap zs k m hI hl hok (by omega) (by omega) (by omega) hn zs 0 false (.inr ⟨hb, rfl, rfl, rfl⟩)).mono ?_
    rintro e w' ⟨v, rfl, ho, hk, hf⟩
    exact ⟨zs, 0, false, v, rfl, ho, hk, hf, rfl, hok, by simp⟩
  | some b =>
    refine (spec_Take_do w ao cap zs k m hI hl hok (by omega) (by omega) (by omega) hn _ _ true (.inl ⟨b, hb, rfl, rfl, rfl⟩)).mono ?_
    rintro e w' ⟨v, rfl, ho, hk, hf⟩
    obtain ⟨s', _, _, h3, _, _, _, _, h8⟩ := takeL_ok (kind := k) hok hb (by omega) (by omega) (by omega)
    exact ⟨_, b.1.at', true, v, rfl, ho, hk, hf, takeL_len _ _ _ _, h3, fun _ => ⟨s', k, h8⟩⟩
def sizesL : List Int := [2, 3, 10, 40, 90]
theorem sizesL_in : ∀ x ∈ sizesL, 2 ≤ x ∧ x ≤ 90 := by decide

set_option maxHeartbeats 8000000 in
set_option maxRecDepth 100000 in
theorem l2DrawRight_ok (c : Nat) (a : Option Addr) (len cap : Nat) (z : Nat → Int) (w : World) (h : Cur w c a len cap z) :
    Calls Tryz.prog 137 #[.pointer (some ⟨c, 0, none⟩)] w fun e w' => ∃ v zs, e = .returned (.agg #[v]) ∧ OwnR w' w.heap.size v zs ∧ FullV w' v ∧ slabOk zs = true ∧ 2 ≤ zs.length ∧ zs.length ≤ 90 ∧ Keeps c w w' ∧ Cur w' c a len cap z := by
  have hc0 := h.lt
  have h0 := h.alloc (.cells #[.slice none 0 0] 26)
  have b0 := Cells.new w 26 #[.slice none 0 0]
  have kk0 : Keeps c w (w.alloc (.cells #[.slice none 0 0] 26)) := (Keeps.refl _ _).alloc _
  go_enter Tryz.func137, Tryz.ntmps137
  go_wp2_with fail
  have hP := l1PickInt_at c a len cap z sizesL 5 rfl (by omega) (by omega) _ 3 rfl _ h0
  simp only [World.size_alloc] at hP
  refine hP.mono ?_
  rintro e w1 ⟨x, rfl, hx, hk1, hc1⟩
  have hxb := sizesL_in x hx
  obtain ⟨m, rfl⟩ : ∃ m : Nat, x = m := ⟨x.toNat, by omega⟩
  clear hx hP
  go_wp2_with fail
  refine (spec_SlabNew_yes _ m (by omega) (by omega)).mono ?_
  rintro e w2 ⟨g2, rfl, hg2, hR2, hk2, sz2⟩
  have ka : Kept w2 (w2.alloc (.cells #[.slice (some ⟨g2, 0, none⟩) m m] 26)) := Kept.alloc (Below.refl _ _) _
  have hs1 := hk1.size
  have hs2 := hk2.size
  simp only [World.size_alloc] at hs1
  have hnew := newL_ok (n := m) (by omega) (by omega)
  have lg2 := hR2.lt
  have D0 : DS c a len cap z w w2.heap.size (.slice (some ⟨g2, 0, none⟩) m m) (newL m) (w2.alloc (.cells #[.slice (some ⟨g2, 0, none⟩) m m] 26)) :=
    ⟨((kk0.trans hk1).trans (hk2.keeps c)).trans (ka.keeps c), (hc1.kept hk2).kept ka, Cells.new _ _ _, (((b0.keeps hk1 (by omega)).kept hk2).kept ka), .inr ⟨g2, m, by rw [newL_len], by omega, by rw [newL_len]; exact Nat.le_refl _, hR2.kept ka⟩, FullV.one (sz2.kept ka), hnew.1, by rw [newL_len]; omega, by rw [newL_len]; omega⟩
  have hBw : w.heap.size < w2.heap.size := by omega
  obtain ⟨B, hB⟩ : ∃ B, w2.heap.size = B := ⟨_, rfl⟩
  obtain ⟨W2, hW2⟩ : ∃ W2, w2.alloc (.cells #[.slice (some ⟨g2, 0, none⟩) m m] 26) = W2 := ⟨_, rfl⟩
  go_wp2_with fail
  rw [hW2, hB] at D0
  rw [hB] at hBw
  clear hW2 hB hR2 hk2 ka hnew lg2 hk1 hc1 hs1 hs2 b0 kk0 h0 hg2
  refine (l1Below_ok c a len cap z 14 (by omega) W2 D0.cur).mono ?_
  rintro e w3 ⟨n, rfl, hn0, hn1, hk3, hc3⟩
  have hn2 : n < 14 := hn1 (by omega)
  have D1 := D0.go hc0 (by omega) hk3 hc3
  clear hn1 D0 hk3 hc3
  go_wp2_with fail
  go_loopw [6] (fun i wr => ∃ (k : Nat) (v : Value) (zs : List Int), i = .int .i64 k ∧ k ≤ 14 ∧ DS c a len cap z w B v zs wr) (fun i _ => 14 - (intOf i).toNat)
  case atStart => exact ⟨0, _, _, rfl, by omega, D1⟩
  case round =>
    obtain ⟨k, v, zs, rfl, hk, D⟩ := hrel
    clear D1
    by_cases hlt : (k : Int) < n
    · go_wp2_with fail
      refine (l1Once_ok c a len cap z 3 (by omega) _ D.cur).mono ?_
      rintro e w4 ⟨x, rfl, hk4, hc4⟩
      have D4 := D.go hc0 (by omega) hk4 hc4
      obtain ⟨ao, cp, rfl, hI⟩ := D4.own.ints
      have q4 := D4.cell.cell 0
      have lB4 := D4.cell.lt
      clear D hk4 hc4
      cases x with
      | true =>
        go_wp2_with fail
        refine (spec_Blocks_ok _ ao cp zs hI (by have := D4.len90; omega)).mono ?_
        rintro e w5 ⟨v5, rfl, o5, hk5⟩
        have D5 := D4.kept hc0 (by omega) hk5
        have hpos := blocks_pos D5.ok (by have := D5.len2; omega)
        rcases o5.cases with ⟨_, he⟩ | ⟨g5, lc, rfl, hg5, _, _, hR5⟩
        · rw [he] at hpos; simp at hpos
        · have hlp : (places zs).length ≤ 90 := by
            rw [places_len D5.ok]
            have := blocks_count zs
            have := D5.len90
            omega
          have hcg : g5 ≠ c := by have := D4.cur.lt; omega
          clear q4 o5
          go_wp2_with fail
          go_cut [] from 29 to 37 (fun wx => ∃ v' zs', DS c a len cap z w B v' zs' wx)
          case first =>
            have D5d := D5.kept hc0 (by omega) (Below.refl _ w5).drew
            have R5d := hR5.kept (Below.refl _ w5).drew
            have q5 := D5d.cell.cell 0
            go_region_with (first | (go_at_call 90; refine (l1Below_ok c a len cap z (places zs).length (by omega) _ D5d.cur).mono ?_; rintro e w6 ⟨x6, rfl, hx60, hx61, hk6, hc6⟩; have hx62 : x6 < ((places zs).length : Int) := hx61 (by omega); clear hx61; obtain ⟨j6, rfl⟩ : ∃ j : Nat, x6 = j := ⟨x6.toNat, by omega⟩; have D6 := D5d.go hc0 (by omega) hk6 hc6; have q6 := D6.cell.cell 0; have hj6 : j6 < (places zs).length := (by omega); have hlc := (R5d.keeps hk6 hcg).cell hj6) | (go_at_call 153; refine (spec_Give_ok _ ao cp zs (hz (places zs) j6) (D6.own.ints.elim fun _ h => h.elim fun _ h => by have := h.1; cases this; exact h.2) (by have := D6.len90; omega)).mono ?_; rintro e w7 ⟨v7, rfl, o7, hk7, fu7⟩; obtain ⟨la7, lc7, rfl, _⟩ := o7.ints; have D7 := D6.kept hc0 (by omega) hk7; have q7 := D7.cell.cell 0; have f7 := D7.cell.frozen 0))
            all_goals (
              go_wp2_with fail
              go_meet
              exact ⟨_, _, D7.set hc0 hBw (o7.base D6.keeps.size) fu7 (fun j hj => by have := o7.block j hj; have := D6.cell.lt; omega) (giveL_ok _ D7.ok).1 (giveL_len _ _)⟩)
          case rest =>
          obtain ⟨v', zs', D8⟩ := hcut
          clear D4 D5 hI lB4 hR5 hk5 hcg
          go_wp2_with fail
          go_roundw
          case rel => exact ⟨k + 1, _, _, by go_num, by omega, D8⟩
          case measure => simp [intOf]; omega
      | false =>
        go_wp2_with fail
        go_cut [8, 9, 10] from 38 to 49 (fun s8 s9 s10 wx => ∃ (B8 : Nat) (v' : Value) (zs' : List Int) (at' : Nat) (ok : Bool), s8 = .pointer (some ⟨B8, 0, none⟩) ∧ s9 = .int .i64 at' ∧ s10 = .bool ok ∧ Cells wx B8 26 #[v'] ∧ DS c a len cap z w B (.slice ao zs.length cp) zs wx ∧ OwnR wx w.heap.size v' zs' ∧ FullV wx v' ∧ (∀ j, v'.ownBlock = some j → j ≠ B) ∧ zs'.length = zs.length ∧ slabOk zs' = true ∧ (ok = true → ∃ s' kind, (⟨at', s', kind⟩ : Bk) ∈ raw (blocks zs')))
        case first =>
          have D4d := D4.kept hc0 (by omega) (Below.refl _ w4).drew
          have q4d := D4d.cell.cell 0
          have hsl : ∀ W : World, DS c a len cap z w B (.slice ao zs.length cp) zs W → Ints W ao zs := fun W h => h.own.ints.elim fun _ h => h.elim fun _ h => by have := h.1; cases this; exact h.2
          have hl90 := D4.len90
          have hok := D4.ok
          have Dc := D4d
          go_region_held3 (fun w' => w'.cell? ⟨B, 0, none⟩ = some (.slice ao zs.length cp)) (first | assumption | go_keep | (rw [World.cell?_setCell_far _ _ _ _ (by simp; omega)]; assumption)) (first | (go_at_call 90; refine (l1Below_ok c a len cap z _ (by omega) _ (DS.cur (by first | exact Dc | exact Dc.kept hc0 (by omega) (Kept.alloc (Below.refl _ _) _)))).mono ?_; rintro e w5 ⟨x5, rfl, hx50, hx51, hk5, hc5⟩; (have hx52 := hx51 (by omega)); clear hx51; obtain ⟨j5, rfl⟩ : ∃ j : Nat, x5 = j := ⟨x5.toNat, by omega⟩; (first | have A8 := A8.keeps hk5 hA8 | have A8 := (Cells.new _ _ _).keeps hk5 (Nat.ne_of_gt Dc.cur.lt); have hA8 := Nat.ne_of_gt Dc.cur.lt | have A8 := ((Cells.new _ _ _).kept ((Below.refl _ _).drew)).keeps hk5 (Nat.ne_of_gt Dc.cur.lt); have hA8 := Nat.ne_of_gt Dc.cur.lt | skip); (try have a8c := A8.cell 0); (try have a8f := A8.frozen 0); (try have A8 : Cells w5 w4.heap.size 26 #[.slice none 0 0] := A8); (try have a8c := A8.cell 0); (try have a8f := A8.frozen 0); have Dc := DS.go (by first | exact Dc | exact Dc.kept hc0 (by omega) (Kept.alloc (Below.refl _ _) _)) hc0 (by omega) hk5 hc5; have q5 := Dc.cell.cell 0; have lB5 := Dc.cell.lt) | (go_at_call 154; refine (spec_Take_any _ ao cp zs _ _ (hsl _ (by first | exact Dc | exact Dc.kept hc0 (by omega) (Kept.alloc (Below.refl _ _) _))) (by omega) hok (by rw [wrapI _ (by omega) (by omega)]; omega) (by rw [wrapI _ (by omega) (by omega)]; omega) (by rw [wrapI _ (by omega) (by omega)]; omega) (by rw [wrapI _ (by omega) (by omega)]; omega)).mono ?_; rintro e w7 ⟨rs, at', ok, v7, rfl, o7, hk7, fu7, hlr, hokr, hmem⟩; obtain ⟨la7, lc7, rfl, _⟩ := o7.ints; rw [hlr] at o7 fu7; have ob := o7.block; (try simp only [World.size_alloc] at ob); (have hg7 : ∀ j, Value.ownBlock (.slice la7 zs.length lc7) = some j → j ≠ B := fun j hj e => (by have := (ob j hj).1; omega)); have o7 := o7.base (Keeps.size (DS.keeps (by first | exact Dc | exact Dc.kept hc0 (by omega) (Kept.alloc (Below.refl _ _) _)))); (first | have A8 := A8.kept hk7 | have A8 := (Cells.new _ _ _).kept hk7 | skip); (try have a8c := A8.cell 0); (try have a8f := A8.frozen 0); have Dc := DS.kept (by first | exact Dc | exact Dc.kept hc0 (by omega) (Kept.alloc (Below.refl _ _) _)) hc0 (by omega) hk7; have q7 := Dc.cell.cell 0))
          all_goals (
            go_wp2_with fail
            go_meet)
          · exact ⟨_, _, rs, at', ok, rfl, rfl, rfl, Cells.new _ _ _, Dc.kept hc0 (by omega) (Kept.alloc (Below.refl _ _) _), o7.kept (Kept.alloc (Below.refl _ _) _), fu7.kept (Kept.alloc (Below.refl _ _) _), hg7, hlr, hokr, hmem⟩
          all_goals exact ⟨_, _, rs, at', ok, rfl, rfl, rfl, A8.set1 _, Dc.other hc0 A8 (by omega) (by omega) _, o7.other A8 (by decide) _, fu7.set _ _ _, hg7, hlr, hokr, hmem⟩
        case rest =>
        obtain ⟨B8, v', zs', at', ok, rfl, rfl, rfl, A8, D5, o5, fu5, hg5, hl5, hok5, hm5⟩ := hcut
        obtain ⟨la5, lc5, rfl, _⟩ := o5.ints
        rw [hl5] at o5 A8 hg5 fu5
        have q5 := D5.cell.cell 0
        have f5 := D5.cell.frozen 0
        have l5 := D5.cell.lt
        have a5 := A8.cell 0
        have l8 := A8.lt
        have D6 := D5.set hc0 hBw o5 fu5 hg5 hok5 hl5
        clear hI q4 D4 lB4 A8 o5
        cases ok with
        | false =>
          go_wp2_with fail
          go_roundw
          case rel => exact ⟨k + 1, _, _, by go_num, by omega, D6⟩
          case measure => simp [intOf]; omega
        | true =>
          obtain ⟨s', q', hmem⟩ := hm5 rfl
          have hset := fun x => slabOk_set hok5 hmem x
          simp only at hset
          have hat := (hset 0).2
          have hl90 := D6.len90
          go_wp2_with fail
          refine (l1Once_ok c a len cap z 2 (by omega) _ D6.cur).mono ?_
          rintro e w6 ⟨x, rfl, hk6, hc6⟩
          have D7 := D6.go hc0 (by omega) hk6 hc6
          clear D5 D6 hm5 q5 f5 a5 hk6 hc6
          cases x with
          | false =>
            go_wp2_with fail
            go_roundw
            case rel => exact ⟨k + 1, _, _, by go_num, by omega, D7⟩
            case measure => simp [intOf]; omega
          | true =>
            obtain ⟨g7, rfl⟩ : ∃ g7, la5 = some ⟨g7, 0, none⟩ := by
              rcases D7.own with ⟨e, h0⟩ | ⟨g, cp', e, _⟩
              · have := D7.len2; rw [h0] at this; simp at this
              · simp only [Value.slice.injEq] at e; exact ⟨g, e.1⟩
            have D7d := D7.kept hc0 (by omega) (Below.refl _ w6).drew
            have q7 := D7d.cell.cell 0
            have hatI : (at' : Int) + 1 < (zs.length : Int) := by omega
            have hat0 : (0 : Int) ≤ (at' : Int) + 1 := by omega
            have hatW : IntKind.i64.wrap ((at' : Int) + 1) = (at' : Int) + 1 := wrapI _ (by omega) (by omega)
            go_wp2_with fail
            go_region_with (first | (go_at_call 90; refine (l1Below_ok c a len cap z 50 (by omega) _ D7d.cur).mono ?_; rintro e w8 ⟨x8, rfl, hx80, hx81, hk8, hc8⟩; (have hx82 := hx81 (by omega)); clear hx81; have D8 := D7d.go hc0 (by omega) hk8 hc8; have q8 := D8.cell.cell 0; (obtain ⟨hc8', hf8⟩ : w8.cell? ⟨g7, at' + 1, none⟩ = some (.int .i64 (hz zs' (at' + 1))) ∧ w8.frozen? ⟨g7, at' + 1, none⟩ = false := (by
                rcases D8.own with ⟨e, h0⟩ | ⟨g, cp', e, _, _, hR⟩
                · simp at e
                · simp only [Value.slice.injEq] at e
                  obtain ⟨e1, _⟩ := e
                  cases e1
                  exact ⟨hR.cell (by omega), hR.frozen _⟩))))
            all_goals (
              go_wp2_with fail
              go_roundw
              case rel => exact ⟨k + 1, _, _, by go_num, by omega, D8.word hc0 (j := at' + 1) (by omega) ⟨by omega, by omega⟩ (hset _).1⟩
              case measure => simp [intOf]; omega)
    · obtain ⟨ao, cp, rfl, hI⟩ := D.own.ints
      have q4 := D.cell.cell 0
      have lB4 := D.cell.lt
      have q0 := D.res.cell 0
      have f0 := D.res.frozen 0
      have l0 := D.res.lt
      go_wp2
      have q := (D.res.set1 (.slice ao zs.length cp)).cell 0
      have hk' : Keeps c w (wr.setCell ⟨w.heap.size, 0, none⟩ (.slice ao zs.length cp)) := ⟨D.keeps.os, D.keeps.tape, D.keeps.output, by simpa [World.setCell] using D.keeps.size, fun i hi hc => (Below.heap_setCell _ _ _ _ (by simp; omega)).trans (D.keeps.block i hi hc)⟩
      refine bodyPost_ret (v := .agg #[.slice ao zs.length cp]) (by simp [results, Tryz.results137, go_sem, q]) rfl ⟨_, rfl, zs, ?_, D.full.set _ _ _, D.ok, D.len2, D.len90, hk', D.cur.upto (by simp [World.setCell]) (fun i hi => Below.heap_setCell _ _ _ _ (by simp; omega))⟩
      rcases D.own with ⟨e1, e2⟩ | ⟨g, cp', e1, hb, hcap, hR⟩
      · exact .inl ⟨e1, e2⟩
      · exact .inr ⟨g, cp', e1, hb, hcap, hR.other (fun e => hR.notCells D.res (by decide) (by simpa using e)) _⟩
end Go.Proofs.YtpbafjcoomfooaaGreat
namespace Go.Proofs.YtpbafjcoomfooaaGreat
open Go.RowKit

/-- v is a slab's words that lie in memory of the call's own. -/
def OwnI (W : World) (base : Nat) (v : Value) (zs : List Int) : Prop := ∃ ao cp, v = .slice ao zs.length cp ∧ Ints W ao zs ∧ (∀ x, zs ≠ [] → ao = some x → base ≤ x.block) ∧ zs.length ≤ cp
theorem OwnI.keeps {W W' : World} {base c : Nat} {v : Value} {zs : List Int} (h : OwnI W base v zs) (hk : Keeps c W W') (hc : c < base) : OwnI W' base v zs := by
  obtain ⟨ao, cp, e, hI, hb, hcp⟩ := h
  refine ⟨ao, cp, e, ⟨hI.1, ?_⟩, hb, hcp⟩
  by_cases hne : zs = []
  · exact .inl hne
  · obtain ⟨b, off, e', hc'⟩ := hI.at (k := 0) (List.length_pos_iff.2 hne)
    refine .inr ⟨b, off, e', fun j hj => ?_⟩
    have h1 := hb _ hne e'
    have h2 : b < W.heap.size := World.block_lt_of_cell? _ _ (hc' j hj)
    exact (hk.cell (p := ⟨b, off + j, none⟩) h2 (by simp at h1 ⊢; omega)).trans (hc' j hj)
theorem OwnI.kept {W W' : World} {base : Nat} {v : Value} {zs : List Int} (h : OwnI W base v zs) (hk : Kept W W') : OwnI W' base v zs := by
  obtain ⟨ao, cp, e, hI, hb⟩ := h
  exact ⟨ao, cp, e, hI.kept hk, hb⟩
theorem OwnI.base {W : World} {base base' : Nat} {v : Value} {zs : List Int} (h : OwnI W base v zs) (hb' : base' ≤ base) : OwnI W base' v zs := by
  obtain ⟨ao, cp, e, hI, hb⟩ := h
  exact ⟨ao, cp, e, hI, fun x h1 h2 => Nat.le_trans hb' (hb.1 x h1 h2), hb.2⟩
theorem OwnI.ofRow {W : World} {base g c : Nat} {zs : List Int} (h : Row W g zs) (hb : base ≤ g) (hc : zs.length ≤ c) : OwnI W base (.slice (some ⟨g, 0, none⟩) zs.length c) zs :=
  ⟨_, c, rfl, h.ints, fun x _ e => by cases e; exact hb, hc⟩
theorem Row.owns {W : World} {base g c : Nat} {zs : List Int} (h : Row W g zs) (hs : Sz W g c) (hl : zs.length ≤ c) (hb : base ≤ g) : W.ownsRow base 3 1 (.slice (some ⟨g, 0, none⟩) zs.length c) zs.length (zs.map (Value.int .i64)) := by
  obtain ⟨_, cur, hg, h1, h2⟩ := h
  obtain ⟨cur', hg', h3, h4⟩ := hs
  rw [hg] at hg'
  cases hg'
  refine ⟨by simp, .inr ⟨g, c, cur, rfl, hb, hg, hl, h4, by omega, ?_⟩⟩
  apply List.ext_getElem?
  intro j
  by_cases hj : j < zs.length
  · rw [List.getElem?_take, if_pos (by omega)]
    have := h2 j hj
    simp [List.getElem?_eq_getElem hj, hz] at this ⊢
    exact this
  · rw [List.getElem?_eq_none (by simp; omega), List.getElem?_eq_none (by simp; omega)]
theorem Row.tail {W : World} {g : Nat} {x : Int} {zs : List Int} (h : Row W g (x :: zs)) : Ints W (some ⟨g, 1, none⟩) zs := by
  have hI := h.ints
  refine ⟨fun z hz => hI.1 z (List.mem_cons_of_mem _ hz), .inr ⟨g, 1, rfl, fun j hj => ?_⟩⟩
  have := h.cell (j := j + 1) (by simp; omega)
  rw [Nat.add_comm 1 j, this]
  simp [hz]

theorem app_row {W : World} {base : Nat} {v : Value} {zs : List Int} {n : Nat} {xs : List Value} (hb : ∀ y ∈ zs, -9223372036854775808 ≤ y ∧ y ≤ 9223372036854775807) (h : W.ownsRow base 3 1 v n xs) (hn : n = zs.length + 1 := by rfl) (hx : xs = zs.map (Value.int .i64) ++ [.int .i64 16] := by rfl) : ∃ g' cp', v = .slice (some ⟨g', 0, none⟩) (zs.length + 1) cp' ∧ base ≤ g' ∧ zs.length + 1 ≤ cp' ∧ Row W g' (zs ++ [16]) := by
  subst hn hx
  have o3 : OwnL W base v (zs ++ [16]) := ⟨fun y hy => by rcases List.mem_append.1 hy with h | h; exact hb y h; simp at h; subst h; omega, by simpa using h⟩
  rcases o3.cases with ⟨_, e⟩ | ⟨g', cp', rfl, hg', hcp, _, hR'⟩
  · simp at e
  · exact ⟨g', cp', by simp, hg', by simpa using hcp, hR'⟩
def firstL : List Int := [0, 8, 16, 24, -8, 22, 9223372036854775807]
theorem firstL_in : ∀ x ∈ firstL, -9223372036854775808 ≤ x ∧ x ≤ 9223372036854775807 := by decide

set_option maxHeartbeats 8000000 in
set_option maxRecDepth 100000 in
theorem l2Draw_ok (c : Nat) (a : Option Addr) (len cap : Nat) (z : Nat → Int) (w : World) (h : Cur w c a len cap z) :
    Calls Tryz.prog 92 #[.pointer (some ⟨c, 0, none⟩)] w fun e w' => ∃ v zs, e = .returned (.agg #[v]) ∧ OwnI w' w.heap.size v zs ∧ zs.length ≤ 91 ∧ Keeps c w w' ∧ Cur w' c a len cap z := by
  obtain ⟨i0, hi, hz0, hz1, hz2⟩ := info_parts infoI
  have hc0 := h.lt
  have h0 := h.alloc (.cells #[.slice none 0 0] 26)
  have b0 := Cells.new w 26 #[.slice none 0 0]
  have kk0 : Keeps c w (w.alloc (.cells #[.slice none 0 0] 26)) := (Keeps.refl _ _).alloc _
  go_enter Tryz.func92, Tryz.ntmps92
  go_wp2_with fail
  refine (l2DrawRight_ok c a len cap z _ h0).mono ?_
  rintro e w1 ⟨v, zs, rfl, ho, hf, hok, h2, h90, hk1, hc1⟩
  rcases ho with ⟨_, h0⟩ | ⟨g, cp, rfl, hg, hcap, hR⟩
  · rw [h0] at h2; simp at h2
  have sz := hf g _ cp rfl
  have ka : Kept w1 (w1.alloc (.cells #[.slice (some ⟨g, 0, none⟩) zs.length cp] 26)) := Kept.alloc (Below.refl _ _) _
  have x1 := Cells.new w1 26 #[.slice (some ⟨g, 0, none⟩) zs.length cp]
  have hs1 := hk1.size
  simp only [World.size_alloc] at hg hs1
  have lg := hR.lt
  go_wp2_with fail
  refine (l1Below_ok c a len cap z 15 (by omega) _ (hc1.kept ka)).mono ?_
  rintro e w2 ⟨n, rfl, hn0, hn1, hk2, hc2⟩
  have hn : n < 15 := hn1 (by omega)
  have x2 := x1.keeps hk2 (by omega)
  have R2 := (hR.kept ka).keeps hk2 (by omega)
  have S2 : Sz w2 g cp := (sz.kept ka).block (hk2.block g (sz.kept ka).lt (by omega))
  have r2 := ((b0.keeps hk1 (by omega)).kept ka).keeps hk2 (by omega)
  have K2 := ((kk0.trans hk1).trans (ka.keeps c)).trans hk2
  have lB := x2.lt
  obtain ⟨B, hB⟩ : ∃ B, w1.heap.size = B := ⟨_, rfl⟩
  rw [hB] at x2 lB lg hs1 ⊢
  have hs2 := K2.size
  clear hn1 hf sz ka x1 hR hk1 hc1 hk2 b0 kk0 h0 hB h
  have fin : ∀ (W : World) (V : Value) (zs' : List Int), Cells W B 26 #[V] → Cells W w.heap.size 26 #[.slice none 0 0] → OwnI W w.heap.size V zs' → zs'.length ≤ 91 → Keeps c w W → Cur W c a len cap z →
      Cells (W.setCell ⟨w.heap.size, 0, none⟩ V) w.heap.size 26 #[V] ∧ ∃ v zs, Ending.returned (.agg #[V]) = .returned (.agg #[v]) ∧ OwnI (W.setCell ⟨w.heap.size, 0, none⟩ V) w.heap.size v zs ∧ zs.length ≤ 91 ∧ Keeps c w (W.setCell ⟨w.heap.size, 0, none⟩ V) ∧ Cur (W.setCell ⟨w.heap.size, 0, none⟩ V) c a len cap z := by
    intro W V zs' hb hr hO hl hK hC
    refine ⟨hr.set1 V, V, zs', rfl, ?_, hl, ⟨hK.os, hK.tape, hK.output, by simpa [World.setCell] using hK.size, fun i hi hc => (Below.heap_setCell _ _ _ _ (by simp; omega)).trans (hK.block i hi hc)⟩, hC.upto (by simp [World.setCell]) (fun i hi => Below.heap_setCell _ _ _ _ (by simp; omega))⟩
    obtain ⟨ao, cp, rfl, hI, hbs⟩ := hO
    refine ⟨ao, cp, rfl, ⟨hI.1, ?_⟩, hbs⟩
    by_cases hne : zs' = []
    · exact .inl hne
    · obtain ⟨b, off, e', hc'⟩ := hI.at (k := 0) (List.length_pos_iff.2 hne)
      refine .inr ⟨b, off, e', fun j hj => ?_⟩
      have hbn : b ≠ w.heap.size := by
        rintro rfl
        have := hc' 0 (List.length_pos_iff.2 hne)
        rw [hr.cell (off + 0)] at this
        cases off <;> simp at this
      have hh := hc' j hj
      have hheap : (W.setCell ⟨w.heap.size, 0, none⟩ (.slice ao zs'.length cp)).heap[b]? = W.heap[b]? := Below.heap_setCell _ _ _ _ hbn
      rw [← hh]
      exact World.cell?_of_block (w := W) hheap
  have HF : Hid _ := fin
  have hlt1 : (1 : Int) ≤ (zs.length : Int) := by omega
  clear fin
  have q2 := x2.cell 0
  have f2 := x2.frozen 0
  have e2 := r2.cell 0
  have g2 := r2.frozen 0
  rcases (show n = 0 ∨ n = 1 ∨ n = 2 ∨ n = 3 ∨ 4 ≤ n by omega) with rfl | rfl | rfl | rfl | hn4
  · have Cd := hc2.kept (Below.refl _ w2).drew
    have xd := x2.kept (Below.refl _ w2).drew
    have Rd := R2.kept (Below.refl _ w2).drew
    have rd := r2.kept (Below.refl _ w2).drew
    have Kd := K2.drew
    have qd := xd.cell 0
    have hP := l1PickInt_at c a len cap z firstL 7 rfl (by omega) (by omega) _ 3 rfl _ Cd
    go_wp2_with fail
    go_region_with (first | (go_at_call 129; refine hP.mono ?_; rintro e w3 ⟨x, rfl, hx, hk3, hc3⟩; have hxb := firstL_in x hx; have x3 := xd.keeps hk3 (by omega); have q3 := x3.cell 0; have R3 := Rd.keeps hk3 (by omega); have c3 := R3.cell (j := 0) (by omega); have f3 := R3.frozen 0))
    all_goals (
      have nB := R3.notCells x3 (by decide)
      have r3 := rd.keeps hk3 (by omega)
      have nr := R3.notCells r3 (by decide)
      have R4 := R3.set (k := 0) (v := x) (by omega) hxb
      have x4 := x3.other (p := ⟨g, 0, none⟩) (by simp; omega) (.int .i64 x)
      have r4 := r3.other (p := ⟨g, 0, none⟩) (by simp; omega) (.int .i64 x)
      have K4 : Keeps c w (w3.setCell ⟨g, 0, none⟩ (.int .i64 x)) := ⟨(Kd.trans hk3).os, (Kd.trans hk3).tape, (Kd.trans hk3).output, by simpa [World.setCell] using (Kd.trans hk3).size, fun i hi hc => (Below.heap_setCell _ _ _ _ (by simp; omega)).trans ((Kd.trans hk3).block i hi hc)⟩
      have C4 : Cur (w3.setCell ⟨g, 0, none⟩ (.int .i64 x)) c a len cap z := hc3.upto (by simp [World.setCell]) (fun i hi => Below.heap_setCell _ _ _ _ (by simp; omega))
      have q4 := x4.cell 0
      have e4 := r4.cell 0
      have h4 := r4.frozen 0
      clear q2 f2 e2 g2 Cd xd Rd rd Kd qd hP q3 c3 f3
      go_wp2_with fail
      obtain ⟨q, hfin⟩ := HF.out _ (.slice (some ⟨g, 0, none⟩) zs.length cp) (zs.set 0 x) x4 r4 (by have := OwnI.ofRow (base := w.heap.size) (c := cp) R4 (by omega) (by simpa using hcap); simpa using this) (by simp; omega) K4 C4
      exact bodyPost_ret (v := .agg #[.slice (some ⟨g, 0, none⟩) zs.length cp]) (by simp [results, Tryz.results92, go_sem, q.cell 0]) rfl hfin)
  · have hb := R2.ints.1
    go_wp2_with (at_builtin; refine wpList_append_own _ rfl _ _ 24 rfl (w.heap.size + 1) 3 i0 (.int .i64 0) 1 8 Tryz.underlying24 hi hz0 hz1 hz2 rfl (by decide) _ _ _ rfl ((R2.owns S2 hcap hg).alloc _) ⟨w2.heap.size, 0, none⟩ 1 1 [.int .i64 16] rfl rfl (cell_one_new _ _ _) (by simp [Value.oneCell']) (by unfold maxLen; omega) (by omega) (by simp; omega) ?_; intro v' w3 hown' hgrow0 _; have hgrow : (w2.alloc (.cells #[.int .i64 16] 3)).grownBy w3 (some g) := hgrow0; have kb : ∀ k, k < w2.heap.size → k ≠ g → w3.heap[k]? = w2.heap[k]? := fun k h1 h2 => (hgrow.block k (by simp; omega) (by intro e; cases e; exact h2 rfl)).trans (Below.heap_alloc _ _ _ h1); have ks := hgrow.size; have x3 : Cells w3 B 26 #[.slice (some ⟨g, 0, none⟩) zs.length cp] := (kb B (by omega) (by omega)).trans x2; have r3 : Cells w3 w.heap.size 26 #[.slice none 0 0] := (kb _ (by omega) (by omega)).trans r2; have q3 := x3.cell 0; have f3 := x3.frozen 0; have e3 := r3.cell 0; have g3 := r3.frozen 0; obtain ⟨g', cp', rfl, hg', hcp', hR'⟩ := app_row hb hown')
    have K3 : Keeps c w w3 := ⟨hgrow.os.trans K2.os, hgrow.tape.trans K2.tape, hgrow.output.trans K2.output, by simp at ks; omega, fun i hi hc => (kb i (by omega) (by omega)).trans (K2.block i hi hc)⟩
    have C3 : Cur w3 c a len cap z := hc2.upto (by simp at ks; omega) (fun i hi => kb i (by have := hc2.lt; omega) (by omega))
    have nB := hR'.notCells x3 (by decide)
    have nr := hR'.notCells r3 (by decide)
    have K4 : Keeps c w (w3.setCell ⟨B, 0, none⟩ (.slice (some ⟨g', 0, none⟩) (zs.length + 1) cp')) := ⟨K3.os, K3.tape, K3.output, by simpa [World.setCell] using K3.size, fun i hi hc => (Below.heap_setCell _ _ _ _ (by simp; omega)).trans (K3.block i hi hc)⟩
    have C4 : Cur (w3.setCell ⟨B, 0, none⟩ (.slice (some ⟨g', 0, none⟩) (zs.length + 1) cp')) c a len cap z := C3.upto (by simp [World.setCell]) (fun i hi => Below.heap_setCell _ _ _ _ (by simp; omega))
    obtain ⟨q, hfin⟩ := HF.out _ (.slice (some ⟨g', 0, none⟩) (zs.length + 1) cp') (zs ++ [16]) (x3.set1 _) (r3.other (by simp; omega) _) (by have := OwnI.ofRow (base := w.heap.size) (c := cp') (hR'.other (p := ⟨B, 0, none⟩) (by simp; omega) (.slice (some ⟨g', 0, none⟩) (zs.length + 1) cp')) (by omega) (by simpa using hcp'); simpa using this) (by simp; omega) K4 C4
    exact bodyPost_ret (v := .agg #[.slice (some ⟨g', 0, none⟩) (zs.length + 1) cp']) (by simp [results, Tryz.results92, go_sem, q.cell 0]) rfl hfin
  · go_wp2_with fail
    have K4 : Keeps c w (w2.setCell ⟨B, 0, none⟩ (.slice (some ⟨g, 1, none⟩) (zs.length - 1) (cp - 1))) := ⟨K2.os, K2.tape, K2.output, by simpa [World.setCell] using K2.size, fun i hi hc => (Below.heap_setCell _ _ _ _ (by simp; omega)).trans (K2.block i hi hc)⟩
    have C4 : Cur (w2.setCell ⟨B, 0, none⟩ (.slice (some ⟨g, 1, none⟩) (zs.length - 1) (cp - 1))) c a len cap z := hc2.upto (by simp [World.setCell]) (fun i hi => Below.heap_setCell _ _ _ _ (by simp; omega))
    have nB := R2.notCells x2 (by decide)
    obtain ⟨y, ys, rfl⟩ : ∃ y ys, zs = y :: ys := by
      cases zs with
      | nil => simp at h2
      | cons y ys => exact ⟨y, ys, rfl⟩
    have hI4 := (R2.other (p := ⟨B, 0, none⟩) (by simp; omega) (.slice (some ⟨g, 1, none⟩) ((y :: ys).length - 1) (cp - 1))).tail
    obtain ⟨q, hfin⟩ := HF.out _ (.slice (some ⟨g, 1, none⟩) ((y :: ys).length - 1) (cp - 1)) ys (x2.set1 _) (r2.other (by simp; omega) _) ⟨_, _, rfl, hI4, fun x _ e => by cases e; simp; omega, by simp at hcap; omega⟩ (by simp at h90; omega) K4 C4
    have q' := q.cell 0
    simp only [List.length_cons, Nat.add_sub_cancel] at q'
    exact bodyPost_ret (v := .agg #[.slice (some ⟨g, 1, none⟩) ((y :: ys).length - 1) (cp - 1)]) (by simp [results, Tryz.results92, go_sem, q']) rfl hfin
  · go_wp2_with fail
    have K4 : Keeps c w (w2.setCell ⟨B, 0, none⟩ (.slice none 0 0)) := ⟨K2.os, K2.tape, K2.output, by simpa [World.setCell] using K2.size, fun i hi hc => (Below.heap_setCell _ _ _ _ (by simp; omega)).trans (K2.block i hi hc)⟩
    have C4 : Cur (w2.setCell ⟨B, 0, none⟩ (.slice none 0 0)) c a len cap z := hc2.upto (by simp [World.setCell]) (fun i hi => Below.heap_setCell _ _ _ _ (by simp; omega))
    obtain ⟨q, hfin⟩ := HF.out _ (.slice none 0 0) [] (x2.set1 _) (r2.other (by simp; omega) _) ⟨none, 0, rfl, ⟨by simp, .inl rfl⟩, by simp⟩ (by simp) K4 C4
    exact bodyPost_ret (v := .agg #[.slice none 0 0]) (by simp [results, Tryz.results92, go_sem, q.cell 0]) rfl hfin
  · have t0 : (n == 0) = false := by simp; omega
    have t1 : (n == 1) = false := by simp; omega
    have t2 : (n == 2) = false := by simp; omega
    have t3 : (n == 3) = false := by simp; omega
    go_wp2_with fail
    obtain ⟨q, hfin⟩ := HF.out _ (.slice (some ⟨g, 0, none⟩) zs.length cp) zs x2 r2 (OwnI.ofRow R2 (by omega) hcap) (by omega) K2 hc2
    exact bodyPost_ret (v := .agg #[.slice (some ⟨g, 0, none⟩) zs.length cp]) (by simp [results, Tryz.results92, go_sem, q.cell 0]) rfl hfin
end Go.Proofs.YtpbafjcoomfooaaGreat
namespace Go.Proofs.YtpbafjcoomfooaaGreat
open Go.RowKit

def takeNs : List Int := [2, 3, 4, 6, 20, 1, 0, 9223372036854775807]
theorem takeNs_in : ∀ x ∈ takeNs, 0 ≤ x ∧ x ≤ 9223372036854775807 := by decide
def atNs : List Int := [-1, 0, 1, 5, 9999]
theorem atNs_in : ∀ x ∈ atNs, -1 ≤ x ∧ x ≤ 9999 := by decide
def newNs : List Int := [0, 1, 2, 3, 50, 2000, 2001, -1]
theorem newNs_in : ∀ x ∈ newNs, -1 ≤ x ∧ x ≤ 2001 := by decide

theorem OwnI.other {W : World} {base B : Nat} {v : Value} {zs : List Int} {t : TypeId} {cs : Array Value} (h : OwnI W base v zs) (hB : Cells W B t cs) (hn : ∀ (j : Nat) (n : Int), cs[j]? ≠ some (Value.int .i64 n)) (u : Value) : OwnI (W.setCell ⟨B, 0, none⟩ u) base v zs := by
  obtain ⟨ao, cp, e, hI, hb⟩ := h
  refine ⟨ao, cp, e, ⟨hI.1, ?_⟩, hb⟩
  by_cases hne : zs = []
  · exact .inl hne
  · have hpos : 0 < zs.length := List.length_pos_iff.2 hne
    obtain ⟨b, off, e', hc'⟩ := hI.at hpos
    refine .inr ⟨b, off, e', fun j hj => ?_⟩
    have hbn : b ≠ B := by
      rintro rfl
      have := hc' 0 hpos
      rw [hB.cell (off + 0)] at this
      exact hn _ _ this
    have hheap : (W.setCell ⟨B, 0, none⟩ u).heap[b]? = W.heap[b]? := Below.heap_setCell _ _ _ _ hbn
    rw [← hc' j hj]
    exact World.cell?_of_block (w := W) hheap
theorem Keeps.below' {B c : Nat} {w w' : World} (h : Keeps c w w') (hB : B ≤ c) (hw : B ≤ w.heap.size) : Below B w w' := h.below hB hw

end Go.Proofs.YtpbafjcoomfooaaGreat
namespace Go.Proofs.YtpbafjcoomfooaaGreat
open Go.RowKit

theorem Take_facts (zs : List Int) (kind n : Int) (hn : n ≤ 9223372036854775807) (hl : zs.length ≤ 1048576) : ∃ (rs : List Int) (at' : Int) (ok : Bool), rs.length ≤ 1048576 ∧
    (∀ (w : World) (ao : Option Addr) (cap : Nat), Ints w ao zs → Calls Tryz.prog 82 #[.agg #[.slice ao zs.length cap], .int .i64 kind, .int .i64 n] w fun e w' => ∃ v, e = .returned (.tuple #[.agg #[v], .int .i64 at', .bool ok]) ∧ OwnR w' w.heap.size v rs ∧ Kept w w') ∧
    (∀ (w : World) (ao : Option Addr) (cap : Nat), Ints w ao zs → Calls Tryz.prog 154 #[.agg #[.slice ao zs.length cap], .int .i64 kind, .int .i64 n] w fun e w' => ∃ v, e = .returned (.tuple #[.agg #[v], .int .i64 at', .bool ok]) ∧ OwnR w' w.heap.size v rs ∧ Kept w w') ∧
    (slabOk zs = false → rs = [] ∧ ok = false) ∧ (slabOk zs = true → ok = false → rs = zs) ∧
    (ok = true → slabOk zs = true ∧ ∃ s' : Nat, kindAt rs at' = kind ∧ sizeAt rs at' = s' ∧ n ≤ s' ∧ (s' : Int) ≤ n + 1 ∧ kindAt zs at' = 0 ∧ slabOk rs = true ∧ room rs + s' = room zs ∧ slabOk (giveL rs at') = true ∧ room (giveL rs at') = room zs ∧ rs.length = zs.length) := by
  cases hok : slabOk zs with
  | false =>
    refine ⟨[], 0, false, by simp, fun w ao cap hI => ?_, fun w ao cap hI => ?_, by simp, by simp, by simp⟩
    · refine (impl_Take_bad w ao cap zs kind n hI hl hok).mono ?_
      rintro e w' ⟨rfl, hk⟩
      exact ⟨_, rfl, .inl ⟨rfl, rfl⟩, hk⟩
    · refine (spec_Take_bad w ao cap zs kind n hI hl hok).mono ?_
      rintro e w' ⟨rfl, hk⟩
      exact ⟨_, rfl, .inl ⟨rfl, rfl⟩, hk⟩
  | true =>
    by_cases hA : 1 ≤ kind ∧ kind ≤ 5 ∧ 2 ≤ n
    · obtain ⟨k, rfl⟩ : ∃ k : Nat, kind = k := ⟨kind.toNat, by omega⟩
      obtain ⟨m, rfl⟩ : ∃ m : Nat, n = m := ⟨n.toNat, by omega⟩
      cases hb : ffB zs m with
      | none => exact ⟨zs, 0, false, hl, fun w ao cap hI => impl_Take_no w ao cap zs k m hI hl hok (.inr hb), fun w ao cap hI => (spec_Take_do w ao cap zs k m hI hl hok (by omega) (by omega) (by omega) hn zs 0 false (.inr ⟨hb, rfl, rfl, rfl⟩)).mono (fun _ _ ⟨v, h1, h2, h3, _⟩ => ⟨v, h1, h2, h3⟩), by simp, by simp, by simp⟩
      | some b =>
        obtain ⟨s', t1, t2, t3, t4, t5, t6, t7, t8⟩ := takeL_ok (kind := k) hok hb (by omega) (by omega) (by omega)
        have hgb := give_back t3 t8 (by omega)
        have hlen : (takeL zs b.1 k m).length = zs.length := takeL_len _ _ _ _
        refine ⟨takeL zs b.1 k m, (b.1.at' : Nat), true, by omega, fun w ao cap hI => impl_Take_yes w ao cap zs k m b hI hl hok (by omega) (by omega) (by omega) hb, fun w ao cap hI => (spec_Take_do w ao cap zs k m hI hl hok (by omega) (by omega) (by omega) hn _ _ true (.inl ⟨b, hb, rfl, rfl, rfl⟩)).mono (fun _ _ ⟨v, h1, h2, h3, _⟩ => ⟨v, h1, h2, h3⟩), by simp, by simp, fun _ => ⟨rfl, s', t4, t5, by omega, by omega, t6, t3, t7, hgb.1, by omega, hlen⟩⟩
    · exact ⟨zs, 0, false, hl, fun w ao cap hI => impl_Take_no w ao cap zs kind n hI hl hok (.inl hA), fun w ao cap hI => (spec_Take_arg w ao cap zs kind n hI hl hok hA).mono (fun _ _ ⟨v, h1, h2, h3, _⟩ => ⟨v, h1, h2, h3⟩), by simp, by simp, by simp⟩
end Go.Proofs.YtpbafjcoomfooaaGreat
namespace Go.Proofs.YtpbafjcoomfooaaGreat
open Go.RowKit

theorem field_words (v : Value) (w : World) : Sem.run Tryz.prog (Instr.field 26 (.agg #[v]) 0) w = .ok v w := by kernel_rfl
theorem kindAt_mem {zs : List Int} (hok : slabOk zs = true) {b : BkOf zs.length} (hb : b ∈ blocks zs) : kindAt zs ((b.1.at' : Nat) : Int) = ((b.1.kind : Nat) : Int) := by simp [kindAt, atB_mem hok hb]
theorem sizeAt_mem {zs : List Int} (hok : slabOk zs = true) {b : BkOf zs.length} (hb : b ∈ blocks zs) : sizeAt zs ((b.1.at' : Nat) : Int) = ((b.1.size : Nat) : Int) := by simp [sizeAt, atB_mem hok hb]
theorem kindAt_raw {zs : List Int} (hok : slabOk zs = true) {x : Bk} (hx : x ∈ raw (blocks zs)) : kindAt zs ((x.at' : Nat) : Int) = ((x.kind : Nat) : Int) ∧ sizeAt zs ((x.at' : Nat) : Int) = ((x.size : Nat) : Int) := by
  obtain ⟨b, hb, rfl⟩ := List.mem_map.1 hx
  exact ⟨kindAt_mem hok hb, sizeAt_mem hok hb⟩
/-- How many words the first blocks have together. -/
def sumB {L : Nat} : List (BkOf L) → Nat
  | [] => 0
  | b :: bs => b.1.size + sumB bs
theorem sumB_append {L : Nat} (xs ys : List (BkOf L)) : sumB (xs ++ ys) = sumB xs + sumB ys := by
  induction xs with
  | nil => simp [sumB]
  | cons x xs ih => simp only [List.cons_append, sumB, ih]; omega
theorem sumB_blks (zs : List Int) (k : Nat) : k + sumB (blks zs k) = stop zs k :=
  blks_ind zs (P := fun k => k + sumB (blks zs k) = stop zs k) (fun k h ih => by rw [blks_yes h, stop_yes h]; simp only [sumB]; omega) (fun k h => by rw [blks_no h, stop_no h]; rfl) k
theorem sumB_all {zs : List Int} (hok : slabOk zs = true) : sumB (blocks zs) = zs.length := by
  have := sumB_blks zs 0
  rw [(slabOk_iff.1 hok).2] at this
  unfold blocks
  omega
theorem sumB_take {zs : List Int} {k : Nat} (hk : k < (blocks zs).length) : sumB ((blocks zs).take (k + 1)) = sumB ((blocks zs).take k) + (blocks zs)[k].1.size := by
  rw [List.take_succ_eq_append_getElem hk, sumB_append]; simp [sumB]
theorem sumB_le {zs : List Int} (hok : slabOk zs = true) (k : Nat) : sumB ((blocks zs).take k) ≤ zs.length := by
  have h := sumB_append ((blocks zs).take k) ((blocks zs).drop k)
  rw [List.take_append_drop, sumB_all hok] at h
  omega

end Go.Proofs.YtpbafjcoomfooaaGreat
namespace Go.Proofs.YtpbafjcoomfooaaGreat
open Go.RowKit

def numList : List Int := [0, 1, 2, -1, -5, 77, 1999, 2000, 2147483647, 2147483648, -2147483648, -2147483649, 4294967296, 9223372036854775807, -9223372036854775808]
def anyList : List Int := [0, 1, 2, 5, 1999, 2000, -1]
theorem numList_in : ∀ x ∈ numList, -9223372036854775808 ≤ x ∧ x ≤ 9223372036854775807 := by decide
theorem anyList_in : ∀ x ∈ anyList, -1 ≤ x ∧ x ≤ 2000 := by decide

theorem l1DrawNum_ok (c : Nat) (a : Option Addr) (len cap : Nat) (z : Nat → Int) (w : World) (h : Cur w c a len cap z) :
    Calls Tryz.prog 136 #[.pointer (some ⟨c, 0, none⟩)] w fun e w' => ∃ x : Int, e = .returned (.int .i64 x) ∧ (-9223372036854775808 ≤ x ∧ x ≤ 9223372036854775807) ∧ Keeps c w w' ∧ Cur w' c a len cap z := by
  go_enter Tryz.func136, Tryz.ntmps136
  go_wp2_with fail
  refine (l1PickInt_at c a len cap z numList 15 rfl (by omega) (by omega) _ _ rfl w h).mono ?_
  rintro e w1 ⟨x, rfl, hx, hk, hc⟩
  have hb := numList_in x hx
  clear hx
  go_wp2
  go_ret
  exact ⟨x, rfl, hb, hk, hc⟩

theorem l1DrawAny_ok (c : Nat) (a : Option Addr) (len cap : Nat) (z : Nat → Int) (w : World) (h : Cur w c a len cap z) :
    Calls Tryz.prog 91 #[.pointer (some ⟨c, 0, none⟩)] w fun e w' => ∃ x : Int, e = .returned (.int .i64 x) ∧ (-9223372036854775808 ≤ x ∧ x ≤ 9223372036854775807) ∧ Keeps c w w' ∧ Cur w' c a len cap z := by
  go_enter Tryz.func91, Tryz.ntmps91
  go_wp2_with fail
  refine (l1Once_ok c a len cap z 3 (by omega) w h).mono ?_
  rintro e w1 ⟨x, rfl, hk, hc⟩
  cases x
  · go_wp2_with fail
    refine (l1PickInt_at c a len cap z anyList 7 rfl (by omega) (by omega) _ _ rfl w1 hc).mono ?_
    rintro e w2 ⟨x, rfl, hx, hk2, hc2⟩
    have hb := anyList_in x hx
    clear hx
    go_wp2_with fail
    refine (l1Below_ok c a len cap z 8 (by omega) w2 hc2).mono ?_
    rintro e w3 ⟨y, rfl, hy0, hy1, hk3, hc3⟩
    have hy2 : y < 8 := hy1 (by omega)
    clear hy1
    go_wp2
    go_ret
    exact ⟨_, rfl, by omega, (hk.trans hk2).trans hk3, hc3⟩
  · go_wp2_with fail
    refine (l1DrawNum_ok c a len cap z w1 hc).mono ?_
    rintro e w2 ⟨x, rfl, hx, hk2, hc2⟩
    go_wp2
    go_ret
    exact ⟨x, rfl, hx, hk.trans hk2, hc2⟩

end Go.Proofs.YtpbafjcoomfooaaGreat
