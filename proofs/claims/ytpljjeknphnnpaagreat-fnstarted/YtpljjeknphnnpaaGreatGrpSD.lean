/-
  The contract of impl.layBlock: a block is laid over a slab's words.
  The contracts of what Take and Give begin with: copySlab, firstFree, and the model's copy.
  The contract of impl.Take.
-/
import Derived.Lib.SliceRun
import Derived.Deep.RegionWith
import Derived.Deep.CutRange
import Derived.Laws.CopyOwn
import Derived.Laws.AppendOwnNone
import Derived.Test.YtpljjeknphnnpaaGreatHelpM
import Derived.Test.YtpljjeknphnnpaaGreatSlabS
namespace Go.Proofs.YtpljjeknphnnpaaGreat
open Go.RowKit

/-- From place o on the words vs are laid. -/
def sets (zs : List Int) : Nat → List Int → List Int
  | _, [] => zs
  | o, v :: r => sets (zs.set o v) (o + 1) r
theorem sets_len : ∀ (vs zs : List Int) (o : Nat), (sets zs o vs).length = zs.length
  | [], _, _ => rfl
  | v :: r, zs, o => by rw [sets, sets_len r]; simp
theorem hz_sets : ∀ (vs zs : List Int) (o j : Nat), o + vs.length ≤ zs.length → hz (sets zs o vs) j = if o ≤ j ∧ j < o + vs.length then hz vs (j - o) else hz zs j
  | [], zs, o, j, _ => by rw [if_neg (by simp only [List.length_nil]; omega)]; rfl
  | v :: r, zs, o, j, h => by
    simp only [List.length_cons] at h
    rw [sets, hz_sets r (zs.set o v) (o + 1) j (by simp; omega), hz_set (by omega)]
    by_cases e : j = o
    · subst e
      rw [if_neg (by omega), if_pos rfl, if_pos (by simp)]
      simp [hz]
    · by_cases h2 : o + 1 ≤ j ∧ j < o + 1 + r.length
      · rw [if_pos h2, if_pos (by simp; omega)]
        obtain ⟨m, rfl⟩ : ∃ m, j = o + 1 + m := ⟨j - (o + 1), by omega⟩
        rw [show o + 1 + m - (o + 1) = m by omega, show o + 1 + m - o = m + 1 by omega]
        simp [hz]
      · rw [if_neg h2, if_neg e, if_neg (by simp; omega)]
theorem Row.sets : ∀ (vs : List Int) {W : World} {g : Nat} {zs : List Int} {o : Nat}, Row W g zs → o + vs.length ≤ zs.length → (∀ z ∈ vs, -9223372036854775808 ≤ z ∧ z ≤ 9223372036854775807) → Row (W.setCells g o (vs.map (Value.int .i64))) g (sets zs o vs)
  | [], _, _, _, _, h, _, _ => h
  | v :: r, W, g, zs, o, h, hl, hv => by
    simp only [List.length_cons] at hl
    exact Row.sets r (h.set (k := o) (by omega) (hv v (by simp))) (by simp; omega) (fun z hz => hv z (by simp [hz]))
theorem grown_sets : ∀ (vs : List Value) {a b : World} {g o : Nat}, a.grownBy b (some g) → a.grownBy (b.setCells g o vs) (some g)
  | [], _, _, _, _, h => h
  | _ :: r, _, _, _, _, h => grown_sets r (grown_set h _)

/-- What layBlock makes of the words. -/
def layL (zs : List Int) (a s : Nat) (h : Int) : List Int := (sets zs a (List.replicate s 0)).set a h
theorem layL_len (zs : List Int) (a s : Nat) (h : Int) : (layL zs a s h).length = zs.length := by simp [layL, sets_len]
theorem hz_layL {zs : List Int} {a s j : Nat} {h : Int} (hle : a + s ≤ zs.length) (hs : 1 ≤ s) : hz (layL zs a s h) j = if j = a then h else if a < j ∧ j < a + s then 0 else hz zs j := by
  unfold layL
  rw [hz_set (by rw [sets_len]; omega), hz_sets _ _ _ _ (by simpa using hle)]
  by_cases e : j = a
  · simp [e]
  · simp only [e, if_false, List.length_replicate]
    by_cases h2 : a ≤ j ∧ j < a + s
    · rw [if_pos h2, if_pos (by omega)]
      simp [hz, show j - a < s by omega]
    · rw [if_neg h2, if_neg (by omega)]

end Go.Proofs.YtpljjeknphnnpaaGreat
namespace Go.Proofs.YtpljjeknphnnpaaGreat
open Go.RowKit Go.Shelf
attribute [local go_sem] Oper.semAt_some

theorem own_full {W : World} {base n g : Nat} {xs : List Value} (h : W.ownsRow base 3 1 (.slice (some ⟨g, 0, none⟩) n n) n xs) : Cells W g 3 xs.toArray := by
  rcases h.2 with ⟨e, _⟩ | ⟨g', cap, cur, e, _, hc, _, _, hs, ht⟩
  · cases e
  · cases e
    have : cur.toList = xs := by rw [← ht, List.take_of_length_le (by simp; omega)]
    show W.heap[g]? = _
    rw [hc, ← this]
theorem Row.of_cells {W : World} {g : Nat} {zs : List Int} (h : Cells W g 3 (zs.map (Value.int .i64)).toArray) (h0 : ∀ z ∈ zs, -9223372036854775808 ≤ z ∧ z ≤ 9223372036854775807) : Row W g zs :=
  ⟨h0, _, h, by simp, fun j hj => by simp [hz, List.getElem?_eq_getElem hj]⟩

theorem Ints.src {W : World} {ao : Option Addr} {zs : List Int} (h : Ints W ao zs) (hp : 0 < zs.length) : ∃ ad, ao = some ad ∧ ∀ j v, (zs.map (Value.int .i64))[j]? = some v → W.cell? (ad.add j) = some v := by
  obtain ⟨b, off, e, hc⟩ := h.at hp
  refine ⟨_, e, fun j v hj => ?_⟩
  rw [WideShapes.add_plain]
  rw [List.getElem?_map] at hj
  cases hz' : zs[j]? with
  | none => rw [hz'] at hj; cases hj
  | some z =>
    rw [hz'] at hj
    cases hj
    have hj' : j < zs.length := (List.getElem?_eq_some_iff.1 hz').1
    rw [hc j hj']
    simp [hz, hz']
theorem Cells.kept2 {n : Nat} {W W' : World} {B : Nat} {t : TypeId} {cs : Array Value} (h : Cells W B t cs) (hk : Below n W W') (hB : B < n) : Cells W' B t cs := (hk.block B hB).trans h

theorem Ints.srcs {W : World} {ad : Addr} {zs : List Int} (h : Ints W (some ad) zs) : ∀ j v, (zs.map (Value.int .i64))[j]? = some v → W.cell? (ad.add j) = some v := by
  intro j v hj
  by_cases hp : 0 < zs.length
  · obtain ⟨a, e, hs⟩ := h.src hp
    cases e
    exact hs j v hj
  · have : zs = [] := List.eq_nil_of_length_eq_zero (by omega)
    subst this
    simp at hj
theorem own_some {W : World} {base : Nat} {v : Value} {n : Nat} {xs : List Value} (h : W.ownsRow base 3 1 v n xs) (hv : ¬ v = .slice none 0 0) : ∃ g cap, v = .slice (some ⟨g, 0, none⟩) n cap ∧ n ≤ cap := by
  rcases h.2 with ⟨e, _⟩ | ⟨g, cap, cur, rfl, _, _, hn, _⟩
  · exact absurd e hv
  · exact ⟨g, cap, rfl, hn⟩


/-- The block at g has n cells. -/
def Sz (W : World) (g n : Nat) : Prop := ∃ cur, W.heap[g]? = some (.cells cur 3 (0, 0)) ∧ cur.size = n ∧ n ≤ maxLen
theorem Sz.lt {W : World} {g n : Nat} (h : Sz W g n) : g < W.heap.size := by
  obtain ⟨cur, e, _⟩ := h
  exact (Array.getElem?_eq_some_iff.1 e).1
theorem Sz.block {W W' : World} {g n : Nat} (h : Sz W g n) (hb : W'.heap[g]? = W.heap[g]?) : Sz W' g n := by
  obtain ⟨cur, e, hc⟩ := h
  exact ⟨cur, hb.trans e, hc⟩
theorem Sz.kept {W W' : World} {g n : Nat} (h : Sz W g n) (hk : Kept W W') : Sz W' g n := h.block (hk.block g h.lt)
theorem Sz.set {W : World} {g n : Nat} (h : Sz W g n) (b j : Nat) (v : Value) : Sz (W.setCell ⟨b, j, none⟩ v) g n := by
  by_cases e : g = b
  · subst e
    obtain ⟨cur, e, hc⟩ := h
    refine ⟨cur.setIfInBounds j v, Cells.set j v e, by simpa using hc.1, hc.2⟩
  · exact h.block (Below.heap_setCell _ _ _ _ e)
/-- Only the block at g has turned, and it has as many cells as it had; new ones came. -/
def GS (g : Nat) (w w' : World) : Prop := w.grownBy w' (some g) ∧ ∀ n, Sz w g n → Sz w' g n
theorem GS.refl (w : World) (g : Nat) : GS g w w := ⟨World.grownBy.refl _ _, fun _ h => h⟩
theorem GS.trans {g : Nat} {a b c : World} (h : GS g a b) (k : GS g b c) : GS g a c := ⟨grown_trans h.1 k.1, fun n x => k.2 n (h.2 n x)⟩
theorem GS.set {g k : Nat} {a b : World} (h : GS g a b) (v : Value) : GS g a (b.setCell ⟨g, k, none⟩ v) := ⟨grown_set h.1 v, fun n x => (h.2 n x).set _ _ _⟩
theorem GS.any {a b : World} (h : Kept a b) (g : Nat) : GS g a b := ⟨⟨h.os, h.tape, h.output, h.size, fun k hk _ => h.block k hk⟩, fun _ x => x.kept h⟩
theorem GS.setNew {g b j : Nat} {a c : World} (h : GS g a c) (hp : a.heap.size ≤ b) (v : Value) : GS g a (c.setCell ⟨b, j, none⟩ v) :=
  ⟨⟨h.1.os, h.1.tape, h.1.output, by simpa [World.setCell] using h.1.size, fun k hk hr => (Below.heap_setCell _ _ _ _ (by simp; omega)).trans (h.1.block k hk hr)⟩, fun n x => (h.2 n x).set _ _ _⟩
/-- The block of a slice has as many cells as its capacity says. -/
def FullV (W : World) (v : Value) : Prop := ∀ g n c, v = .slice (some ⟨g, 0, none⟩) n c → Sz W g c
theorem FullV.nil {W : World} : FullV W (.slice none 0 0) := fun _ _ _ e => by cases e
theorem FullV.one {W : World} {g n c : Nat} (h : Sz W g c) : FullV W (.slice (some ⟨g, 0, none⟩) n c) := fun _ _ _ e => by cases e; exact h
theorem FullV.kept {W W' : World} {v : Value} (h : FullV W v) (hk : Kept W W') : FullV W' v := fun g n c e => (h g n c e).kept hk
theorem FullV.set {W : World} {v : Value} (h : FullV W v) (b j : Nat) (u : Value) : FullV (W.setCell ⟨b, j, none⟩ u) v := fun g n c e => (h g n c e).set _ _ _
theorem Sz.of_owns {W : World} {base n g c : Nat} {xs : List Value} (h : W.ownsRow base 3 1 (.slice (some ⟨g, 0, none⟩) n c) n xs) : Sz W g c := by
  obtain ⟨_, ⟨e, _⟩ | ⟨g', cap', cur, e, _, hg, _, h2, h3, _⟩⟩ := h
  · cases e
  · cases e
    exact ⟨cur, hg, by omega, h2⟩

set_option maxHeartbeats 2000000 in
theorem l2Copy_ok (w : World) (ao : Option Addr) (cap : Nat) (zs : List Int) (hI : Ints w ao zs) (hl : zs.length ≤ 1048576) :
    Calls Tryz.prog 143 #[.agg #[.slice ao zs.length cap]] w fun e w' => ∃ g c, e = .returned (.agg #[.slice (some ⟨g, 0, none⟩) zs.length c]) ∧ w.heap.size ≤ g ∧ zs.length ≤ c ∧ Row w' g zs ∧ Kept w w' ∧ Sz w' g c := by
  obtain ⟨i0, hi, hz0, hz1, hz2⟩ := info_parts infoI
  have b1 := (Cells.new (w.alloc (.cells #[.slice ao zs.length cap] 26)) 26 #[.slice none 0 0]).alloc (.cells #[] 3)
  have k0 : Kept w (((w.alloc (.cells #[.slice ao zs.length cap] 26)).alloc (.cells #[.slice none 0 0] 26)).alloc (.cells #[] 3)) := ((Kept.alloc (Below.refl _ _) _).alloc _).alloc _
  have o0 : (((w.alloc (.cells #[.slice ao zs.length cap] 26)).alloc (.cells #[.slice none 0 0] 26)).alloc (.cells #[] 3)).ownsRow (w.heap.size + 2) 3 1 (.slice (some ⟨w.heap.size + 1 + 1, 0, none⟩) 0 0) 0 [] := by
    have := World.ownsRow_made (base := w.heap.size + 2) (e := 3) (size := 1) ((w.alloc (.cells #[.slice ao zs.length cap] 26)).alloc (.cells #[.slice none 0 0] 26)) #[] 0 (by simp) (by unfold maxLen; omega) (by simp)
    simpa using this
  simp only [World.size_alloc] at b1
  cases ao with
  | none =>
    have h0 : zs = [] := by
      rcases hI.2 with h | ⟨b, off, e, _⟩
      · exact h
      · cases e
    subst h0
    go_enter Tryz.func143, Tryz.ntmps143
    go_wp2
    refine bodyPost_ret (v := .agg #[.slice (some ⟨w.heap.size + 1 + 1, 0, none⟩) 0 0]) (by simp [results, Tryz.results143, go_sem]) rfl ⟨w.heap.size + 1 + 1, 0, rfl, by omega, by simp, ?_, ((Kept.alloc (Below.refl _ _) _).alloc _).alloc _, ⟨#[], ?_, rfl, Nat.zero_le _⟩⟩
    · refine Row.of_cells ?_ (by simp)
      have := Cells.new ((w.alloc (.cells #[.slice none 0 cap] 26)).alloc (.cells #[.slice (some ⟨w.heap.size + 1 + 1, 0, none⟩) 0 0] 26)) 3 #[]
      simpa using this
    · have := Cells.new ((w.alloc (.cells #[.slice none 0 cap] 26)).alloc (.cells #[.slice (some ⟨w.heap.size + 1 + 1, 0, none⟩) 0 0] 26)) 3 #[]
      simpa [Cells] using this
  | some ad =>
    go_enter Tryz.func143, Tryz.ntmps143
    go_wp2_with (at_builtin; refine wpList_append_own _ rfl _ _ 24 rfl (w.heap.size + 2) 3 i0 (.int .i64 0) 1 8 Tryz.underlying24 hi hz0 hz1 hz2 rfl (by decide) _ _ _ rfl o0 ad zs.length cap (zs.map (Value.int .i64)) rfl (by simp) ((hI.kept k0).srcs) (by intro v hv; obtain ⟨z, _, rfl⟩ := List.mem_map.1 hv; rfl) (by unfold maxLen; omega) (by omega) (by simp) ?_; intro v' w1 hown' hgrow hnil; have kk : Below (w.heap.size + 1 + 1) _ w1 := (Below.refl _ _).grown hgrow (by simp) (fun j ej => by have := (o0.lt j ej).1; omega); obtain ⟨g', c', rfl, hcc⟩ := own_some hown' (by intro h; have h2 : Value.slice (some ⟨w.heap.size + 1 + 1, 0, none⟩) 0 0 = Value.slice none 0 0 := (hnil.1 h).1; cases h2); have d1 := (b1.kept2 kk (by omega)).cell 0; have f1 := (b1.kept2 kk (by omega)).frozen 0)
    have hR := Row.of_owns (zs := zs) (by simpa using hown') hI.1
    have k1 : Kept w w1 := Below.trans k0 (kk.mono (by omega))
    have q := ((b1.kept2 kk (by omega)).set1 (.slice (some ⟨g', 0, none⟩) zs.length c')).cell 0
    have hg' := hR.2
    refine bodyPost_ret (v := .agg #[.slice (some ⟨g', 0, none⟩) zs.length c']) (by simp [results, Tryz.results143, go_sem, q]) rfl ⟨g', c', rfl, by omega, by omega, hR.1.other (by intro h; simp at h <;> omega) _, k1.set (by simp) _, (Sz.of_owns (by simpa using hown')).set _ _ _⟩

/-- The first free block of at least n words. -/
def freeP {L : Nat} (n : Int) (b : BkOf L) : Bool := decide (b.1.kind = 0 ∧ n ≤ (b.1.size : Int))
def ffB (zs : List Int) (n : Int) : Option (BkOf zs.length) := (blocks zs).find? (freeP n)
def ffV {L : Nat} : Option (BkOf L) → Value
  | some b => .tuple #[bkV (b.1.at' : Nat) (b.1.size : Nat) (b.1.kind : Nat), .bool true]
  | none => .tuple #[bkV 0 0 0, .bool false]
theorem ff_hit {zs : List Int} {n : Int} {pre : List (BkOf zs.length)} {x : BkOf zs.length} (hp : pre ++ [x] <+: blocks zs) (hb : ∀ b ∈ pre, freeP n b = false) (hx : freeP n x = true) : ffB zs n = some x := by
  obtain ⟨rest, e⟩ := hp
  unfold ffB
  rw [← e, List.append_assoc, List.find?_append]
  have : pre.find? (freeP n) = none := by
    rw [List.find?_eq_none]
    intro b h; rw [hb b h]; simp
  rw [this]
  simp [hx]
theorem ff_none {zs : List Int} {n : Int} (hb : ∀ b ∈ blocks zs, freeP n b = false) : ffB zs n = none := by
  unfold ffB
  rw [List.find?_eq_none]
  intro b h; rw [hb b h]; simp
end Go.Proofs.YtpljjeknphnnpaaGreat
namespace Go.Proofs.YtpljjeknphnnpaaGreat
open Go.RowKit
attribute [local go_sem] Plain.and7

/-- v is a slab's words of the call's own. -/
def OwnR (W : World) (base : Nat) (v : Value) (zs : List Int) : Prop :=
  (v = .slice none 0 0 ∧ zs = []) ∨ ∃ g cap, v = .slice (some ⟨g, 0, none⟩) zs.length cap ∧ base ≤ g ∧ zs.length ≤ cap ∧ Row W g zs
/-- What Take makes of the words, of a free block b that is large enough. -/
def takeL (zs : List Int) (b : Bk) (kind n : Nat) : List Int :=
  if n + 2 ≤ b.size then layL (zs.set (b.at' + n) (8 * ((b.size : Int) - (n : Int)))) b.at' n (8 * (n : Int) + (kind : Int)) else layL zs b.at' b.size (8 * (b.size : Int) + (kind : Int))

end Go.Proofs.YtpljjeknphnnpaaGreat
