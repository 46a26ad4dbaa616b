/-
  The contracts of the cursor over the bytes of a draw (spec.l1New, l1Byte, l1Below, l1Once, l1PickInt): each returns, and turns no memory but the cursor's own; of the number that is drawn only its bounds are told.
-/
import Derived.Test.YtpbafjcoomfooaaGreatRows
import Derived.Test.YtpbafjcoomfooaaGreatPlain
import Derived.Test.YtpbafjcoomfooaaGreatKepP
import Derived.WalkKit
import Derived.WalkLawsBesides
import Derived.Deep.QuietTactic
import Derived.BigQuiet
import Derived.OpenShut
namespace Go.Proofs.YtpbafjcoomfooaaGreat
open Go.RowKit
attribute [local go_sem] Plain.and7 Plain.and32 Plain.and255 Plain.and30

theorem and_of {p q : Prop} (hp : p) (hq : p → q) : p ∧ q := ⟨hp, hq hp⟩

/-- THE BYTES of a draw: a slice, each of its elements a byte in a block below B. -/
def Src (B : Nat) (w : World) (a : Option Addr) (len : Nat) (z : Nat → Int) : Prop :=
  len ≤ 9223372036854775807 ∧ (0 < len → ∃ b o, a = some ⟨b, o, none⟩ ∧ b < B ∧ ∀ i, i < len → w.cell? ⟨b, o + i, none⟩ = some (.int .u8 (z i)) ∧ 0 ≤ z i ∧ z i ≤ 255)

/-- THE CURSOR in block c: the bytes, the place, the state. -/
structure Cur (w : World) (c : Nat) (a : Option Addr) (len cap : Nat) (z : Nat → Int) : Prop where
  lt : c < w.heap.size
  src : Src c w a len z
  b : w.cell? ⟨c, 0, none⟩ = some (.slice a len cap)
  i : ∃ i : Nat, i ≤ len ∧ w.cell? ⟨c, 1, none⟩ = some (.int .i64 i)
  h : ∃ h : Int, w.cell? ⟨c, 2, none⟩ = some (.int .i64 h)
  f1 : w.frozen? ⟨c, 1, none⟩ = false
  f2 : w.frozen? ⟨c, 2, none⟩ = false

theorem Src.keeps {B c : Nat} {w w' : World} {a : Option Addr} {len : Nat} {z : Nat → Int} (h : Src B w a len z) (hk : Keeps c w w') (hB : B ≤ c) (hw : B ≤ w.heap.size) : Src B w' a len z := by
  refine ⟨h.1, fun hl => ?_⟩
  obtain ⟨b, o, ha, hb, hz⟩ := h.2 hl
  exact ⟨b, o, ha, hb, fun i hi => ⟨(hk.cell (p := ⟨b, o + i, none⟩) (by show b < _; omega) (by show b ≠ c; omega)).trans (hz i hi).1, (hz i hi).2⟩⟩

theorem Src.alloc {B : Nat} {w : World} {a : Option Addr} {len : Nat} {z : Nat → Int} (h : Src B w a len z) (o : Obj) (hB : B ≤ w.heap.size) : Src B (w.alloc o) a len z :=
  h.keeps (c := w.heap.size) ((Keeps.refl _ _).alloc o) hB hB

/-- Bytes that came in, as the shell of a law tells them. -/
theorem src_of {w : World} {a : Option Addr} {len cap : Nat} {zs : List Int} (h : (a = none ∧ len = 0 ∧ cap = 0 ∧ zs = []) ∨
    ∃ x, a = some x ∧ len ≤ cap ∧ cap ≤ maxLen ∧ zs.length = cap ∧ (∀ i, i < zs.length → w.cell? (x.add i) = some (.int .u8 (zs.getD i 0))) ∧ ∀ n ∈ zs, (Lit.int .u8 n).wf = true) : Src w.heap.size w a len (fun i => zs.getD i 0) := by
  rcases h with ⟨rfl, rfl, rfl, rfl⟩ | ⟨x, rfl, hl, hm, hz, hcell, hwz⟩
  · exact ⟨by omega, fun h => by omega⟩
  · unfold maxLen at hm
    refine ⟨by omega, fun h0 => ?_⟩
    obtain ⟨b, off, spot⟩ := x
    have hc := hcell 0 (by omega)
    have hspot : spot = none := by simpa [Addr.add] using World.cell?_spot hc
    subst hspot
    have hlt : b < w.heap.size := by
      have := World.block_lt_of_cell? _ _ hc
      simpa [Addr.add] using this
    refine ⟨b, off, rfl, hlt, fun i hi => ⟨by rw [← Addr.add_lit]; exact hcell i (by omega), ?_⟩⟩
    have hi2 : i < zs.length := by omega
    exact bounds_u8 (hwz (zs.getD i 0) (by simp [List.getElem?_eq_getElem hi2]))

theorem Src.below {w w' : World} {a : Option Addr} {len : Nat} {z : Nat → Int} (h : Src w.heap.size w a len z) (hb : Below w.heap.size w w') : Src w'.heap.size w' a len z := by
  refine ⟨h.1, fun hl => ?_⟩
  obtain ⟨b, o, ha, hB, hz⟩ := h.2 hl
  exact ⟨b, o, ha, Nat.lt_of_lt_of_le hB hb.size, fun i hi => ⟨(hb.cell (p := ⟨b, o + i, none⟩) hB).trans (hz i hi).1, (hz i hi).2⟩⟩

theorem Cur.next {c : Nat} {w w' : World} {a : Option Addr} {len cap : Nat} {z : Nat → Int} (h : Src c w a len z) (lt : c < w.heap.size) (hk : Keeps c w w') (b : w'.cell? ⟨c, 0, none⟩ = some (.slice a len cap))
    (i : ∃ i : Nat, i ≤ len ∧ w'.cell? ⟨c, 1, none⟩ = some (.int .i64 i)) (hh : ∃ h : Int, w'.cell? ⟨c, 2, none⟩ = some (.int .i64 h)) (f1 : w'.frozen? ⟨c, 1, none⟩ = false) (f2 : w'.frozen? ⟨c, 2, none⟩ = false) : Cur w' c a len cap z :=
  ⟨Nat.lt_of_lt_of_le lt hk.size, h.keeps hk (Nat.le_refl _) (Nat.le_of_lt lt), b, i, hh, f1, f2⟩

set_option maxHeartbeats 400000 in
theorem l1Byte_ok (c : Nat) (a : Option Addr) (len cap : Nat) (z : Nat → Int) (w : World) (h : Cur w c a len cap z) :
    Calls Tryz.prog 135 #[.pointer (some ⟨c, 0, none⟩)] w fun e w' => ∃ x : Int, e = .returned (.int .i64 x) ∧ 0 ≤ x ∧ x ≤ 255 ∧ Keeps c w w' ∧ Cur w' c a len cap z := by
  obtain ⟨hlt, hs, hb, ⟨i, hi, hci⟩, ⟨g, hcg⟩, f1, f2⟩ := h
  obtain ⟨hl, hsrc⟩ := hs
  by_cases hlen : i < len
  · obtain ⟨b, o, rfl, hbc, hz⟩ := hsrc (by omega)
    have hne : b ≠ c := by omega
    have hz1 := (hz i hlen).1
    have hz2 := (hz i hlen).2
    have hlen' : (i : Int) < (len : Int) := by omega
    go_enter Tryz.func135, Tryz.ntmps135
    go_wp2
    go_quiet (fail)
    go_wp2
    go_quiet (fail)
    go_wp2
    go_quiet (fail)
    go_wp2
    go_ret
    refine ⟨_, rfl, by omega, by omega, and_of ?_ fun hk => Cur.next ⟨hl, hsrc⟩ hlt hk (by go_simp) ⟨i + 1, by omega, by go_simp⟩ ⟨wrap64 (wrap64 (g * 6364136223846793005) + 1442695040888963407), by go_simp⟩ (by go_simp) (by go_simp)⟩
    repeat (first | exact Keeps.refl _ _ | apply Keeps.drewN | apply Keeps.drew | apply Keeps.setCell)
  · have hge : ¬ (i : Int) < (len : Int) := by omega
    have hge' : decide ((i : Int) < (len : Int)) = false := by simpa using hge
    go_enter Tryz.func135, Tryz.ntmps135
    go_wp2
    go_quiet (fail)
    go_wp2
    go_quiet (fail)
    go_wp2
    go_ret
    refine ⟨_, rfl, by omega, by omega, and_of ?_ fun hk => Cur.next ⟨hl, hsrc⟩ hlt hk (by go_simp) ⟨i, by omega, by go_simp⟩ ⟨wrap64 (wrap64 (g * 6364136223846793005) + 1442695040888963407), by go_simp⟩ (by go_simp) (by go_simp)⟩
    repeat (first | exact Keeps.refl _ _ | apply Keeps.drewN | apply Keeps.drew | apply Keeps.setCell)

theorem l1Below_ok (c : Nat) (a : Option Addr) (len cap : Nat) (z : Nat → Int) (n : Int) (hn : n ≤ 9223372036854775807) (w : World) (h : Cur w c a len cap z) :
    Calls Tryz.prog 90 #[.pointer (some ⟨c, 0, none⟩), .int .i64 n] w fun e w' => ∃ x : Int, e = .returned (.int .i64 x) ∧ 0 ≤ x ∧ (0 < n → x < n) ∧ Keeps c w w' ∧ Cur w' c a len cap z := by
  by_cases h0 : n ≤ 0
  · go_enter Tryz.func90, Tryz.ntmps90
    go_wp2
    go_ret
    exact ⟨0, rfl, by omega, by omega, Keeps.refl _ _, h⟩
  by_cases h1 : n ≤ 256
  · go_enter Tryz.func90, Tryz.ntmps90
    go_wp2_with (go_at_call 135; refine (l1Byte_ok c a len cap z _ h).mono ?_; rintro e w1 ⟨x, rfl, hx0, hx1, hk, hc⟩)
    go_ret
    exact ⟨_, rfl, Int.emod_nonneg _ (by omega), fun _ => Int.emod_lt_of_pos _ (by omega), hk, hc⟩
  · go_enter Tryz.func90, Tryz.ntmps90
    go_wp2_with fail
    refine (l1Byte_ok c a len cap z _ h).mono ?_
    rintro e w1 ⟨x, rfl, hx0, hx1, hk1, hc1⟩
    go_wp2_with fail
    refine (l1Byte_ok c a len cap z _ hc1).mono ?_
    rintro e w2 ⟨y, rfl, hy0, hy1, hk2, hc2⟩
    go_wp2_with fail
    refine (l1Byte_ok c a len cap z _ hc2).mono ?_
    rintro e w3 ⟨u, rfl, hu0, hu1, hk3, hc3⟩
    go_wp2_with fail
    refine (l1Byte_ok c a len cap z _ hc3).mono ?_
    rintro e w4 ⟨v, rfl, hv0, hv1, hk4, hc4⟩
    go_wp2
    go_ret
    exact ⟨_, rfl, Int.emod_nonneg _ (by omega), fun _ => Int.emod_lt_of_pos _ (by omega), ((hk1.trans hk2).trans hk3).trans hk4, hc4⟩

theorem l1Once_ok (c : Nat) (a : Option Addr) (len cap : Nat) (z : Nat → Int) (n : Int) (hn : n ≤ 9223372036854775807) (w : World) (h : Cur w c a len cap z) :
    Calls Tryz.prog 70 #[.pointer (some ⟨c, 0, none⟩), .int .i64 n] w fun e w' => ∃ x : Bool, e = .returned (.bool x) ∧ Keeps c w w' ∧ Cur w' c a len cap z := by
  go_enter Tryz.func70, Tryz.ntmps70
  go_wp2_with (go_at_call 90; refine (l1Below_ok c a len cap z n hn _ h).mono ?_; rintro e w1 ⟨x, rfl, hx0, hx1, hk, hc⟩)
  go_ret
  exact ⟨_, rfl, hk, hc⟩
theorem l1PickInt_ok (c : Nat) (a : Option Addr) (len cap : Nat) (z : Nat → Int) (b o : Nat) (l : List Int) (lcap : Nat) (hl0 : 0 < l.length) (hl : l.length ≤ 9223372036854775807) (w : World) (h : Cur w c a len cap z)
    (hb : b < w.heap.size) (hne : b ≠ c) (hcell : ∀ i, i < l.length → w.cell? ⟨b, o + i, none⟩ = some (.int .i64 (l.getD i 0))) :
    Calls Tryz.prog 129 #[.pointer (some ⟨c, 0, none⟩), .slice (some ⟨b, o, none⟩) l.length lcap] w fun e w' => ∃ x : Int, e = .returned (.int .i64 x) ∧ x ∈ l ∧ Keeps c w w' ∧ Cur w' c a len cap z := by
  go_enter Tryz.func129, Tryz.ntmps129
  go_wp2_with fail
  refine (l1Below_ok c a len cap z l.length (by omega) _ h).mono ?_
  rintro e w1 ⟨x, rfl, hx0, hx1, hk, hc⟩
  obtain ⟨k, rfl⟩ := Int.eq_ofNat_of_zero_le hx0
  have hx2 : (k : Int) < (l.length : Int) := hx1 (by omega)
  have hcw : w1.cell? ⟨b, o + k, none⟩ = some (.int .i64 (l.getD k 0)) := (hk.cell (p := ⟨b, o + k, none⟩) hb hne).trans (hcell k (by omega))
  clear hx1
  go_wp2
  go_ret
  refine ⟨_, rfl, ?_, hk, hc⟩
  have hk2 : k < l.length := by omega
  simp [List.getElem?_eq_getElem hk2]

set_option maxRecDepth 100000 in
/-- A new cursor over the bytes. -/
theorem l1New_ok (a : Option Addr) (len cap : Nat) (z : Nat → Int) (w : World) (h : Src w.heap.size w a len z) :
    Calls Tryz.prog 42 #[.slice a len cap] w fun e w' => ∃ c, e = .returned (.pointer (some ⟨c, 0, none⟩)) ∧ w.heap.size ≤ c ∧ Below w.heap.size w w' ∧ Cur w' c a len cap z := by
  have HS : Hid (Src w.heap.size w a len z) := h
  obtain ⟨hl, hsrc⟩ := h
  by_cases hlen : 0 < len
  · obtain ⟨b, o, rfl, hb, hz⟩ := hsrc hlen
    clear hsrc
    go_enter Tryz.func42, Tryz.ntmps42
    go_wp2
    go_loop [3, 4] (fun h i => ∃ k : Nat, k ≤ len ∧ i = .int .i64 k ∧ ∃ g : Int, h = .int .i64 g) (fun _ i => len - (intOf i).toNat)
    case atStart => exact ⟨0, Nat.zero_le _, rfl, _, rfl⟩
    case round =>
      obtain ⟨k, hk, rfl, g, rfl⟩ := hrel
      have hcell : k < len → w.cell? ⟨b, o + k, none⟩ = some (.int .u8 (z k)) := fun hk => (hz k hk).1
      clear hz
      go_wp2
      · go_round
        case rel => exact ⟨k + 1, by omega, by go_num, _, rfl⟩
        case measure => simp [intOf]; omega
      · go_ret
        refine ⟨w.heap.size, rfl, Nat.le_refl _, (Below.refl _ _).alloc (Nat.le_refl _) _, by simp, (HS.out).alloc _ (Nat.le_refl _), by go_simp, ⟨0, Nat.zero_le _, by go_simp⟩, ⟨_, by go_simp; rfl⟩, by go_simp, by go_simp⟩
      · go_ret
        refine ⟨w.heap.size, rfl, Nat.le_refl _, (Below.refl _ _).alloc (Nat.le_refl _) _, by simp, (HS.out).alloc _ (Nat.le_refl _), by go_simp, ⟨0, Nat.zero_le _, by go_simp⟩, ⟨_, by go_simp; rfl⟩, by go_simp, by go_simp⟩
  · obtain rfl : len = 0 := by omega
    clear hsrc
    go_enter Tryz.func42, Tryz.ntmps42
    go_wp2
    go_loop [3, 4] (fun h i => ∃ k : Nat, k ≤ 0 ∧ i = .int .i64 k ∧ ∃ g : Int, h = .int .i64 g) (fun _ i => 0 - (intOf i).toNat)
    case atStart => exact ⟨0, Nat.zero_le _, rfl, _, rfl⟩
    case round =>
      obtain ⟨k, hk, rfl, g, rfl⟩ := hrel
      obtain rfl : k = 0 := by omega
      go_wp2
      · go_ret
        refine ⟨w.heap.size, rfl, Nat.le_refl _, (Below.refl _ _).alloc (Nat.le_refl _) _, by simp, (HS.out).alloc _ (Nat.le_refl _), by go_simp, ⟨0, Nat.zero_le _, by go_simp⟩, ⟨_, by go_simp; rfl⟩, by go_simp, by go_simp⟩
theorem Cur.alloc {w : World} {c : Nat} {a : Option Addr} {len cap : Nat} {z : Nat → Int} (h : Cur w c a len cap z) (o : Obj) : Cur (w.alloc o) c a len cap z := by
  obtain ⟨lt, src, b, i, g, f1, f2⟩ := h
  refine ⟨by simp; omega, src.alloc _ (by omega), ?_, ?_, ?_, ?_, ?_⟩
  · rw [World.cell?_alloc_past _ _ _ lt]; exact b
  · obtain ⟨k, hk, e⟩ := i
    exact ⟨k, hk, by rw [World.cell?_alloc_past _ _ _ lt]; exact e⟩
  · obtain ⟨k, e⟩ := g
    exact ⟨k, by rw [World.cell?_alloc_past _ _ _ lt]; exact e⟩
  · rw [World.frozen?_alloc_past _ _ _ lt]; exact f1
  · rw [World.frozen?_alloc_past _ _ _ lt]; exact f2

theorem lits_cell (w : World) (l : List Int) (C : Array Value) (t : TypeId) (hC : C = (l.map (Value.int .i64)).toArray) (i : Nat) (hi : i < l.length) : (w.alloc (.cells C t)).cell? ⟨w.heap.size, 0 + i, none⟩ = some (.int .i64 (l.getD i 0)) := by
  subst hC
  rw [World.cell?_alloc_at _ _ _ _ rfl]
  simp [hi]

theorem l1PickInt_at (c : Nat) (a : Option Addr) (len cap : Nat) (z : Nat → Int) (l : List Int) (n : Nat) (hn : l.length = n) (hl0 : 0 < n) (hl : n ≤ 9223372036854775807) (C : Array Value) (t : TypeId) (hC : C = (l.map (Value.int .i64)).toArray) (w : World) (h : Cur w c a len cap z) :
    Calls Tryz.prog 129 #[.pointer (some ⟨c, 0, none⟩), .slice (some ⟨w.heap.size, 0, none⟩) n n] (w.alloc (.cells C t)) fun e w' => ∃ x : Int, e = .returned (.int .i64 x) ∧ x ∈ l ∧ Keeps c w w' ∧ Cur w' c a len cap z := by
  subst hn
  have hlt := h.lt
  refine (l1PickInt_ok c a len cap z w.heap.size 0 l l.length hl0 hl _ (h.alloc _) (by simp) (by omega) (lits_cell w l C t hC)).mono ?_
  rintro e w' ⟨x, rfl, hx, hk, hc⟩
  exact ⟨x, rfl, hx, ((Keeps.refl _ _).alloc _).trans hk, hc⟩

end Go.Proofs.YtpbafjcoomfooaaGreat
