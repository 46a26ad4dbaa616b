/-
  The contract of impl.layBlock: a block is laid over a slab's words.
  The contracts of what Take and Give begin with: copySlab, firstFree, and the model's copy.
  The contract of impl.Take.
-/
import Derived.Lib.SliceRun
import Derived.Deep.RegionWith
import Derived.Deep.CutRange
import Derived.Laws.CopyOwn
import Derived.Laws.AppendOwnNone
import Derived.Test.YtpbafjcoomfooaaGreatHelpM
import Derived.Test.YtpbafjcoomfooaaGreatSlabS
namespace Go.Proofs.YtpbafjcoomfooaaGreat
open Go.RowKit

/-- From place o on the words vs are laid. -/
def sets (zs : List Int) : Nat → List Int → List Int
  | _, [] => zs
  | o, v :: r => sets (zs.set o v) (o + 1) r
theorem sets_len : ∀ (vs zs : List Int) (o : Nat), (sets zs o vs).length = zs.length
  | [], _, _ => rfl
  | v :: r, zs, o => by rw [sets, sets_len r]; simp
theorem hz_sets : ∀ (vs zs : List Int) (o j : Nat), o + vs.length ≤ zs.length → hz (sets zs o vs) j = if o ≤ j ∧ j < o + vs.length then hz vs (j - o) else hz zs j
  | [], zs, o, j, _ => by rw [if_neg (by simp only [List.length_nil]; omega)]; rfl
  | v :: r, zs, o, j, h => by
    simp only [List.length_cons] at h
    rw [sets, hz_sets r (zs.set o v) (o + 1) j (by simp; omega), hz_set (by omega)]
    by_cases e : j = o
    · subst e
      rw [if_neg (by omega), if_pos rfl, if_pos (by simp)]
      simp [hz]
    · by_cases h2 : o + 1 ≤ j ∧ j < o + 1 + r.length
      · rw [if_pos h2, if_pos (by simp; omega)]
        obtain ⟨m, rfl⟩ : ∃ m, j = o + 1 + m := ⟨j - (o + 1), by omega⟩
        rw [show o + 1 + m - (o + 1) = m by omega, show o + 1 + m - o = m + 1 by omega]
        simp [hz]
      · rw [if_neg h2, if_neg e, if_neg (by simp; omega)]
theorem Row.sets : ∀ (vs : List Int) {W : World} {g : Nat} {zs : List Int} {o : Nat}, Row W g zs → o + vs.length ≤ zs.length → (∀ z ∈ vs, -9223372036854775808 ≤ z ∧ z ≤ 9223372036854775807) → Row (W.setCells g o (vs.map (Value.int .i64))) g (sets zs o vs)
  | [], _, _, _, _, h, _, _ => h
  | v :: r, W, g, zs, o, h, hl, hv => by
    simp only [List.length_cons] at hl
    exact Row.sets r (h.set (k := o) (by omega) (hv v (by simp))) (by simp; omega) (fun z hz => hv z (by simp [hz]))
theorem grown_sets : ∀ (vs : List Value) {a b : World} {g o : Nat}, a.grownBy b (some g) → a.grownBy (b.setCells g o vs) (some g)
  | [], _, _, _, _, h => h
  | _ :: r, _, _, _, _, h => grown_sets r (grown_set h _)

/-- What layBlock makes of the words. -/
def layL (zs : List Int) (a s : Nat) (h : Int) : List Int := (sets zs a (List.replicate s 0)).set a h
theorem layL_len (zs : List Int) (a s : Nat) (h : Int) : (layL zs a s h).length = zs.length := by simp [layL, sets_len]
theorem hz_layL {zs : List Int} {a s j : Nat} {h : Int} (hle : a + s ≤ zs.length) (hs : 1 ≤ s) : hz (layL zs a s h) j = if j = a then h else if a < j ∧ j < a + s then 0 else hz zs j := by
  unfold layL
  rw [hz_set (by rw [sets_len]; omega), hz_sets _ _ _ _ (by simpa using hle)]
  by_cases e : j = a
  · simp [e]
  · simp only [e, if_false, List.length_replicate]
    by_cases h2 : a ≤ j ∧ j < a + s
    · rw [if_pos h2, if_pos (by omega)]
      simp [hz, show j - a < s by omega]
    · rw [if_neg h2, if_neg (by omega)]

theorem zeroI (w : World) : (zeroValue 3).run Tryz.prog w = .ok (.int .i64 0) w := Tryz.zeroValue3 w
theorem clear_row {W : World} {g cap : Nat} {zs : List Int} {a s : Nat} (hR : Row W g zs) (hle : a + s ≤ zs.length) (hs : 1 ≤ s) (ty : TypeId) :
    (Builtin.clear_ #[24] ty #[.slice (some ⟨g, a, none⟩) s cap]).run Tryz.prog W = .ok (.tuple #[]) (W.setCells g a (List.replicate s (.int .i64 0))) :=
  Lib.run_clear_slice W _ _ ty _ Tryz.underlying24 zeroI rfl rfl g a s cap (by omega) (fun j hj => by rw [hR.cell (by omega)]; rfl) (fun j _ => hR.frozen _)
set_option maxHeartbeats 4000000 in
set_option maxRecDepth 100000 in
theorem layBlock_ok (w : World) (g cap : Nat) (zs : List Int) (a s q : Nat) (hR : Row w g zs) (hle : a + s ≤ zs.length) (hs : 1 ≤ s) (hq : q ≤ 5) (hcap : zs.length ≤ cap) (hl : zs.length ≤ 1048576) :
    Calls Tryz.prog 121 #[.slice (some ⟨g, 0, none⟩) zs.length cap, bkV a s q] w fun e w' => (∃ v, e = .returned v) ∧ Row w' g (layL zs a s (8 * (s : Int) + (q : Int))) ∧ w.grownBy w' (some g) := by
  have k0 : Kept w (w.alloc (.cells (bkC a s q) 111)) := Kept.alloc (Below.refl _ _) _
  have b0 := Cells.new w 111 (bkC a s q)
  have c0 := b0.cell 0
  have c1 := b0.cell 1
  have c2 := b0.cell 2
  have l0 := b0.lt
  go_enter Tryz.func121, Tryz.ntmps121
  go_wp2_with fail
  go_cut [] from 4 to 9 (fun wx => Row wx g (sets zs a (List.replicate s 0)) ∧ (w.alloc (.cells (bkC a s q) 111)).grownBy wx (some g))
  case first =>
    have k1 : Kept (w.alloc (.cells (bkC a s q) 111)) ((w.alloc (.cells (bkC a s q) 111)).alloc (.cells (bkC a s q) 111)).drew := (Kept.alloc (Below.refl _ _) _).drew
    have hcl := clear_row (cap := cap - a) ((hR.kept k0).kept k1) hle hs
    go_region_with (first | (go_at_call 120; refine (end_ok _ _ _ _ (by omega) (by omega)).mono ?_; rintro e wx ⟨rfl, rfl⟩))
    all_goals (
      go_wp2_with fail
      go_meet
      refine ⟨?_, ?_⟩
      · have := Row.sets (List.replicate s 0) ((hR.kept k0).kept k1) (o := a) (by simpa using hle) (by simp)
        simpa using this
      · exact grown_sets _ (kept_grown k1 (World.grownBy.refl _ _)))
  case rest =>
    obtain ⟨hRc, hGc⟩ := hcut
    have hgl := hR.lt
    have b1 := b0.grown hGc (by intro e; cases e; omega)
    have d0 := b1.cell 0
    have d1 := b1.cell 1
    have d2 := b1.cell 2
    have l1 := b1.lt
    have hgc := hRc.lt
    have hcg := hRc.cell (j := a) (by rw [sets_len]; omega)
    have hfg := hRc.frozen a
    clear c0 c1 c2 l0
    go_wp2_with fail
    go_region_with (first | (go_at_call 119; refine (header_ok _ _ _ _ (by omega) (by omega) (by omega) (by omega)).mono ?_; rintro e wx ⟨rfl, rfl⟩))
    all_goals go_wp2
    all_goals go_end0
    all_goals exact ⟨⟨_, rfl⟩, (hRc.set (k := a) (by rw [sets_len]; omega) ⟨by omega, by omega⟩).kept ((Kept.alloc (Below.refl _ _) _).drew), grown_kept (grown_set (kept_grown k0 hGc) _) ((Kept.alloc (Below.refl _ _) _).drew)⟩
end Go.Proofs.YtpbafjcoomfooaaGreat
namespace Go.Proofs.YtpbafjcoomfooaaGreat
open Go.RowKit Go.Shelf
attribute [local go_sem] Oper.semAt_some

theorem own_full {W : World} {base n g : Nat} {xs : List Value} (h : W.ownsRow base 3 1 (.slice (some ⟨g, 0, none⟩) n n) n xs) : Cells W g 3 xs.toArray := by
  rcases h.2 with ⟨e, _⟩ | ⟨g', cap, cur, e, _, hc, _, _, hs, ht⟩
  · cases e
  · cases e
    have : cur.toList = xs := by rw [← ht, List.take_of_length_le (by simp; omega)]
    show W.heap[g]? = _
    rw [hc, ← this]
theorem Row.of_cells {W : World} {g : Nat} {zs : List Int} (h : Cells W g 3 (zs.map (Value.int .i64)).toArray) (h0 : ∀ z ∈ zs, -9223372036854775808 ≤ z ∧ z ≤ 9223372036854775807) : Row W g zs :=
  ⟨h0, _, h, by simp, fun j hj => by simp [hz, List.getElem?_eq_getElem hj]⟩

theorem Ints.src {W : World} {ao : Option Addr} {zs : List Int} (h : Ints W ao zs) (hp : 0 < zs.length) : ∃ ad, ao = some ad ∧ ∀ j v, (zs.map (Value.int .i64))[j]? = some v → W.cell? (ad.add j) = some v := by
  obtain ⟨b, off, e, hc⟩ := h.at hp
  refine ⟨_, e, fun j v hj => ?_⟩
  rw [WideShapes.add_plain]
  rw [List.getElem?_map] at hj
  cases hz' : zs[j]? with
  | none => rw [hz'] at hj; cases hj
  | some z =>
    rw [hz'] at hj
    cases hj
    have hj' : j < zs.length := (List.getElem?_eq_some_iff.1 hz').1
    rw [hc j hj']
    simp [hz, hz']
theorem Cells.kept2 {n : Nat} {W W' : World} {B : Nat} {t : TypeId} {cs : Array Value} (h : Cells W B t cs) (hk : Below n W W') (hB : B < n) : Cells W' B t cs := (hk.block B hB).trans h

theorem Ints.srcs {W : World} {ad : Addr} {zs : List Int} (h : Ints W (some ad) zs) : ∀ j v, (zs.map (Value.int .i64))[j]? = some v → W.cell? (ad.add j) = some v := by
  intro j v hj
  by_cases hp : 0 < zs.length
  · obtain ⟨a, e, hs⟩ := h.src hp
    cases e
    exact hs j v hj
  · have : zs = [] := List.eq_nil_of_length_eq_zero (by omega)
    subst this
    simp at hj
theorem own_some {W : World} {base : Nat} {v : Value} {n : Nat} {xs : List Value} (h : W.ownsRow base 3 1 v n xs) (hv : ¬ v = .slice none 0 0) : ∃ g cap, v = .slice (some ⟨g, 0, none⟩) n cap ∧ n ≤ cap := by
  rcases h.2 with ⟨e, _⟩ | ⟨g, cap, cur, rfl, _, _, hn, _⟩
  · exact absurd e hv
  · exact ⟨g, cap, rfl, hn⟩

set_option maxHeartbeats 2000000 in
theorem copySlab_ok (w : World) (ao : Option Addr) (cap : Nat) (zs : List Int) (hI : Ints w ao zs) (hl : zs.length ≤ 1048576) :
    Calls Tryz.prog 36 #[.agg #[.slice ao zs.length cap]] w fun e w' => ∃ g c, e = .returned (.agg #[.slice (some ⟨g, 0, none⟩) zs.length c]) ∧ w.heap.size ≤ g ∧ zs.length ≤ c ∧ Row w' g zs ∧ Kept w w' := by
  obtain ⟨i0, hi, hz0, hz1, hz2⟩ := info_parts infoI
  have hsz : (Tryz.prog.info? 3).map (·.size) = some 1 := by rw [hi]; simp [hz1]
  have b0 := (Cells.new w 26 #[.slice ao zs.length cap]).alloc (.cells #[.slice none 0 0] 26)
  have b1 := Cells.new (w.alloc (.cells #[.slice ao zs.length cap] 26)) 26 #[.slice none 0 0]
  have k0 : Kept w ((w.alloc (.cells #[.slice ao zs.length cap] 26)).alloc (.cells #[.slice none 0 0] 26)) := (Kept.alloc (Below.refl _ _) _).alloc _
  simp only [World.size_alloc] at b1
  go_enter Tryz.func36, Tryz.ntmps36
  go_wp2_with (first | (at_make; refine wpList_make_full _ rfl _ _ 24 rfl (w.heap.size + 2) 3 i0 (.int .i64 0) 1 Tryz.underlying24 hi hz0 hz1 .i64 .i64 _ _ zs.length rfl rfl rfl rfl (by rw [hz2]; omega) (by unfold maxLen; omega) (by simp) ?_; intro w1 hown hgrow; rw [madeInts] at hown; have hc1 := own_full hown; have hK : Kept ((w.alloc (.cells #[.slice ao zs.length cap] 26)).alloc (.cells #[.slice none 0 0] 26)) w1 := (Below.refl _ _).grown hgrow (Nat.le_refl _) (by simp); simp only [World.size_alloc] at hc1; have d0 := (b0.kept hK).cell 0; clear hown hgrow) | (refine wpList_copy_splice rfl (.tmp 8) (.tmp 10) 24 24 rfl 3 Tryz.underlying24 hsz _ _ _ _ _ _ rfl rfl (w.heap.size + 1 + 1) 0 ((List.replicate zs.length (0 : Int)).map (Value.int .i64)) 3 hc1 (zs.map (Value.int .i64)) (by rw [List.length_map]; exact (Nat.min_self _).symm) (fun hp => ⟨rfl, (hI.kept (k0.trans hK)).src (by simpa using hp)⟩) (by simp) (by intro v hv; obtain ⟨z, _, rfl⟩ := List.mem_map.1 hv; rfl) (w.heap.size + 1 + 1) w1 (Below.refl _ _) (Nat.le_refl _) ?_; intro w2 hrow hb2; have d1 := ((b1.kept hK).kept2 hb2 (by omega)).cell 0; have f1 := ((b1.kept hK).kept2 hb2 (by omega)).frozen 0))
  have hR2 : Row w2 (w.heap.size + 1 + 1) zs := by
    refine Row.of_cells ?_ hI.1
    have := hrow.out
    simpa [splice, Cells] using this
  have k2 : Kept w w2 := Below.trans (k0.trans hK) (hb2.mono (by omega))
  have q := (((b1.kept hK).kept2 hb2 (by omega)).set1 (.slice (some ⟨w.heap.size + 1 + 1, 0, none⟩) zs.length zs.length)).cell 0
  refine bodyPost_ret (v := .agg #[.slice (some ⟨w.heap.size + 1 + 1, 0, none⟩) zs.length zs.length]) (by simp [results, Tryz.results36, go_sem, q]) rfl ⟨_, _, rfl, by omega, Nat.le_refl _, hR2.other (by simp) _, k2.set (by simp) _⟩

/-- The block at g has n cells. -/
def Sz (W : World) (g n : Nat) : Prop := ∃ cur, W.heap[g]? = some (.cells cur 3 (0, 0)) ∧ cur.size = n ∧ n ≤ maxLen
theorem Sz.lt {W : World} {g n : Nat} (h : Sz W g n) : g < W.heap.size := by
  obtain ⟨cur, e, _⟩ := h
  exact (Array.getElem?_eq_some_iff.1 e).1
theorem Sz.block {W W' : World} {g n : Nat} (h : Sz W g n) (hb : W'.heap[g]? = W.heap[g]?) : Sz W' g n := by
  obtain ⟨cur, e, hc⟩ := h
  exact ⟨cur, hb.trans e, hc⟩
theorem Sz.kept {W W' : World} {g n : Nat} (h : Sz W g n) (hk : Kept W W') : Sz W' g n := h.block (hk.block g h.lt)
theorem Sz.set {W : World} {g n : Nat} (h : Sz W g n) (b j : Nat) (v : Value) : Sz (W.setCell ⟨b, j, none⟩ v) g n := by
  by_cases e : g = b
  · subst e
    obtain ⟨cur, e, hc⟩ := h
    refine ⟨cur.setIfInBounds j v, Cells.set j v e, by simpa using hc.1, hc.2⟩
  · exact h.block (Below.heap_setCell _ _ _ _ e)
/-- Only the block at g has turned, and it has as many cells as it had; new ones came. -/
def GS (g : Nat) (w w' : World) : Prop := w.grownBy w' (some g) ∧ ∀ n, Sz w g n → Sz w' g n
theorem GS.refl (w : World) (g : Nat) : GS g w w := ⟨World.grownBy.refl _ _, fun _ h => h⟩
theorem GS.trans {g : Nat} {a b c : World} (h : GS g a b) (k : GS g b c) : GS g a c := ⟨grown_trans h.1 k.1, fun n x => k.2 n (h.2 n x)⟩
theorem GS.set {g k : Nat} {a b : World} (h : GS g a b) (v : Value) : GS g a (b.setCell ⟨g, k, none⟩ v) := ⟨grown_set h.1 v, fun n x => (h.2 n x).set _ _ _⟩
theorem GS.any {a b : World} (h : Kept a b) (g : Nat) : GS g a b := ⟨⟨h.os, h.tape, h.output, h.size, fun k hk _ => h.block k hk⟩, fun _ x => x.kept h⟩
theorem GS.setNew {g b j : Nat} {a c : World} (h : GS g a c) (hp : a.heap.size ≤ b) (v : Value) : GS g a (c.setCell ⟨b, j, none⟩ v) :=
  ⟨⟨h.1.os, h.1.tape, h.1.output, by simpa [World.setCell] using h.1.size, fun k hk hr => (Below.heap_setCell _ _ _ _ (by simp; omega)).trans (h.1.block k hk hr)⟩, fun n x => (h.2 n x).set _ _ _⟩
/-- The block of a slice has as many cells as its capacity says. -/
def FullV (W : World) (v : Value) : Prop := ∀ g n c, v = .slice (some ⟨g, 0, none⟩) n c → Sz W g c
theorem FullV.nil {W : World} : FullV W (.slice none 0 0) := fun _ _ _ e => by cases e
theorem FullV.one {W : World} {g n c : Nat} (h : Sz W g c) : FullV W (.slice (some ⟨g, 0, none⟩) n c) := fun _ _ _ e => by cases e; exact h
theorem FullV.kept {W W' : World} {v : Value} (h : FullV W v) (hk : Kept W W') : FullV W' v := fun g n c e => (h g n c e).kept hk
theorem FullV.set {W : World} {v : Value} (h : FullV W v) (b j : Nat) (u : Value) : FullV (W.setCell ⟨b, j, none⟩ u) v := fun g n c e => (h g n c e).set _ _ _
theorem Sz.of_owns {W : World} {base n g c : Nat} {xs : List Value} (h : W.ownsRow base 3 1 (.slice (some ⟨g, 0, none⟩) n c) n xs) : Sz W g c := by
  obtain ⟨_, ⟨e, _⟩ | ⟨g', cap', cur, e, _, hg, _, h2, h3, _⟩⟩ := h
  · cases e
  · cases e
    exact ⟨cur, hg, by omega, h2⟩

set_option maxHeartbeats 2000000 in
theorem l2Copy_ok (w : World) (ao : Option Addr) (cap : Nat) (zs : List Int) (hI : Ints w ao zs) (hl : zs.length ≤ 1048576) :
    Calls Tryz.prog 41 #[.agg #[.slice ao zs.length cap]] w fun e w' => ∃ g c, e = .returned (.agg #[.slice (some ⟨g, 0, none⟩) zs.length c]) ∧ w.heap.size ≤ g ∧ zs.length ≤ c ∧ Row w' g zs ∧ Kept w w' ∧ Sz w' g c := by
  obtain ⟨i0, hi, hz0, hz1, hz2⟩ := info_parts infoI
  have b1 := (Cells.new (w.alloc (.cells #[.slice ao zs.length cap] 26)) 26 #[.slice none 0 0]).alloc (.cells #[] 3)
  have k0 : Kept w (((w.alloc (.cells #[.slice ao zs.length cap] 26)).alloc (.cells #[.slice none 0 0] 26)).alloc (.cells #[] 3)) := ((Kept.alloc (Below.refl _ _) _).alloc _).alloc _
  have o0 : (((w.alloc (.cells #[.slice ao zs.length cap] 26)).alloc (.cells #[.slice none 0 0] 26)).alloc (.cells #[] 3)).ownsRow (w.heap.size + 2) 3 1 (.slice (some ⟨w.heap.size + 1 + 1, 0, none⟩) 0 0) 0 [] := by
    have := World.ownsRow_made (base := w.heap.size + 2) (e := 3) (size := 1) ((w.alloc (.cells #[.slice ao zs.length cap] 26)).alloc (.cells #[.slice none 0 0] 26)) #[] 0 (by simp) (by unfold maxLen; omega) (by simp)
    simpa using this
  simp only [World.size_alloc] at b1
  cases ao with
  | none =>
    have h0 : zs = [] := by
      rcases hI.2 with h | ⟨b, off, e, _⟩
      · exact h
      · cases e
    subst h0
    go_enter Tryz.func41, Tryz.ntmps41
    go_wp2
    refine bodyPost_ret (v := .agg #[.slice (some ⟨w.heap.size + 1 + 1, 0, none⟩) 0 0]) (by simp [results, Tryz.results41, go_sem]) rfl ⟨w.heap.size + 1 + 1, 0, rfl, by omega, by simp, ?_, ((Kept.alloc (Below.refl _ _) _).alloc _).alloc _, ⟨#[], ?_, rfl, Nat.zero_le _⟩⟩
    · refine Row.of_cells ?_ (by simp)
      have := Cells.new ((w.alloc (.cells #[.slice none 0 cap] 26)).alloc (.cells #[.slice (some ⟨w.heap.size + 1 + 1, 0, none⟩) 0 0] 26)) 3 #[]
      simpa using this
    · have := Cells.new ((w.alloc (.cells #[.slice none 0 cap] 26)).alloc (.cells #[.slice (some ⟨w.heap.size + 1 + 1, 0, none⟩) 0 0] 26)) 3 #[]
      simpa [Cells] using this
  | some ad =>
    go_enter Tryz.func41, Tryz.ntmps41
    go_wp2_with (at_builtin; refine wpList_append_own _ rfl _ _ 24 rfl (w.heap.size + 2) 3 i0 (.int .i64 0) 1 8 Tryz.underlying24 hi hz0 hz1 hz2 rfl (by decide) _ _ _ rfl o0 ad zs.length cap (zs.map (Value.int .i64)) rfl (by simp) ((hI.kept k0).srcs) (by intro v hv; obtain ⟨z, _, rfl⟩ := List.mem_map.1 hv; rfl) (by unfold maxLen; omega) (by omega) (by simp) ?_; intro v' w1 hown' hgrow hnil; have kk : Below (w.heap.size + 1 + 1) _ w1 := (Below.refl _ _).grown hgrow (by simp) (fun j ej => by have := (o0.lt j ej).1; omega); obtain ⟨g', c', rfl, hcc⟩ := own_some hown' (by intro h; have h2 : Value.slice (some ⟨w.heap.size + 1 + 1, 0, none⟩) 0 0 = Value.slice none 0 0 := (hnil.1 h).1; cases h2); have d1 := (b1.kept2 kk (by omega)).cell 0; have f1 := (b1.kept2 kk (by omega)).frozen 0)
    have hR := Row.of_owns (zs := zs) (by simpa using hown') hI.1
    have k1 : Kept w w1 := Below.trans k0 (kk.mono (by omega))
    have q := ((b1.kept2 kk (by omega)).set1 (.slice (some ⟨g', 0, none⟩) zs.length c')).cell 0
    have hg' := hR.2
    refine bodyPost_ret (v := .agg #[.slice (some ⟨g', 0, none⟩) zs.length c']) (by simp [results, Tryz.results41, go_sem, q]) rfl ⟨g', c', rfl, by omega, by omega, hR.1.other (by intro h; simp at h <;> omega) _, k1.set (by simp) _, (Sz.of_owns (by simpa using hown')).set _ _ _⟩

/-- The first free block of at least n words. -/
def freeP {L : Nat} (n : Int) (b : BkOf L) : Bool := decide (b.1.kind = 0 ∧ n ≤ (b.1.size : Int))
def ffB (zs : List Int) (n : Int) : Option (BkOf zs.length) := (blocks zs).find? (freeP n)
def ffV {L : Nat} : Option (BkOf L) → Value
  | some b => .tuple #[bkV (b.1.at' : Nat) (b.1.size : Nat) (b.1.kind : Nat), .bool true]
  | none => .tuple #[bkV 0 0 0, .bool false]
theorem ff_hit {zs : List Int} {n : Int} {pre : List (BkOf zs.length)} {x : BkOf zs.length} (hp : pre ++ [x] <+: blocks zs) (hb : ∀ b ∈ pre, freeP n b = false) (hx : freeP n x = true) : ffB zs n = some x := by
  obtain ⟨rest, e⟩ := hp
  unfold ffB
  rw [← e, List.append_assoc, List.find?_append]
  have : pre.find? (freeP n) = none := by
    rw [List.find?_eq_none]
    intro b h; rw [hb b h]; simp
  rw [this]
  simp [hx]
theorem ff_none {zs : List Int} {n : Int} (hb : ∀ b ∈ blocks zs, freeP n b = false) : ffB zs n = none := by
  unfold ffB
  rw [List.find?_eq_none]
  intro b h; rw [hb b h]; simp
set_option maxRecDepth 100000 in
set_option maxHeartbeats 2000000 in
theorem firstFree_ok (w : World) (ao : Option Addr) (cap : Nat) (zs : List Int) (n : Int) (hI : Ints w ao zs) (hL : zs.length * 8 ≤ 140737488351232) :
    Calls Tryz.prog 118 #[.slice ao zs.length cap, .int .i64 n] w fun e w' => e = .returned (ffV (ffB zs n)) ∧ Kept w w' := by
  have b1 := ((Cells.new w 3 #[.int .i64 n]).alloc (.cells (bkC 0 0 0) 111)).alloc (.cells #[.bool false] 4)
  have b2 := (Cells.new (w.alloc (.cells #[.int .i64 n] 3)) 111 (bkC 0 0 0)).alloc (.cells #[.bool false] 4)
  have b3 := Cells.new ((w.alloc (.cells #[.int .i64 n] 3)).alloc (.cells (bkC 0 0 0) 111)) 4 #[.bool false]
  have k1 : Kept w (((w.alloc (.cells #[.int .i64 n] 3)).alloc (.cells (bkC 0 0 0) 111)).alloc (.cells #[.bool false] 4)) := ((Kept.alloc (Below.refl _ _) _).alloc _).alloc _
  simp only [World.size_alloc] at b1 b2 b3
  refine (callsIn_wide (n := 3)).1 ?_
  refine callsIn_of_wp_marks Tryz.func118 rfl trivial ?_ rfl
  simp only [Tryz.ntmps118, List.size_toArray, List.length_cons, List.length_nil, Nat.reduceAdd, Nat.reduceSub, Array.replicate_succ, Array.replicate_zero, List.push_toArray, List.append_toArray, List.nil_append, List.cons_append]
  gi_wp2_with (refine ⟨trivial, ?_⟩; gi_at_call 98; refine (callsIn_wide.2 (blocksOf_ok _ _ _ _)).mono ?_; rintro e w2 ⟨rfl, rfl⟩)
  have bB := Cells.new (((w.alloc (.cells #[.int .i64 n] 3)).alloc (.cells (bkC 0 0 0) 111)).alloc (.cells #[.bool false] 4)) 24 #[.slice ao zs.length cap]
  have b1 := b1.alloc (.cells #[.slice ao zs.length cap] 24)
  have b2 := b2.alloc (.cells #[.slice ao zs.length cap] 24)
  have b3 := b3.alloc (.cells #[.slice ao zs.length cap] 24)
  have k1 := k1.alloc (.cells #[.slice ao zs.length cap] 24)
  have hsz : ((((w.alloc (.cells #[.int .i64 n] 3)).alloc (.cells (bkC 0 0 0) 111)).alloc (.cells #[.bool false] 4)).alloc (.cells #[.slice ao zs.length cap] 24)).heap.size = w.heap.size + 4 := by simp
  simp only [World.size_alloc] at bB
  obtain ⟨W0, hW0⟩ : ∃ W0, (((w.alloc (.cells #[.int .i64 n] 3)).alloc (.cells (bkC 0 0 0) 111)).alloc (.cells #[.bool false] 4)).alloc (.cells #[.slice ao zs.length cap] 24) = W0 := ⟨_, rfl⟩
  rw [hW0] at b1 b2 b3 bB k1 hsz ⊢
  clear hW0
  refine range_blocks (X := fun k => k = w.heap.size + 1 ∨ k = w.heap.size + 1 + 1) (nX := w.heap.size + 3) (zs := zs) (ao := ao) (cap := cap) (by omega) rfl (by simp) (by simp) (by decide) hL hI k1 (by intro k h; omega) (by intro k h; omega) (by intro k h; omega) (by omega) bB
    (fun pre W => (∀ b ∈ pre, freeP n b = false) ∧ ((Cells W w.heap.size 3 #[.int .i64 n] ∧ Cells W (w.heap.size + 1) 111 (bkC 0 0 0)) ∧ Cells W (w.heap.size + 1 + 1) 4 #[.bool false]) ∧ Below w.heap.size w W)
    (fun c pre W => (c = .ret ∧ ∃ pre' x, pre = pre' ++ [x] ∧ (∀ b ∈ pre', freeP n b = false) ∧ freeP n x = true ∧ Cells W (w.heap.size + 1) 111 (bkC (x.1.at' : Nat) (x.1.size : Nat) (x.1.kind : Nat)) ∧ Cells W (w.heap.size + 1 + 1) 4 #[.bool true]) ∧ Below w.heap.size w W)
    ?oi ?ox ⟨by simp, ⟨⟨b1, b2⟩, b3⟩, k1⟩ ?body ?done ?stop
  case oi => exact OwnFrom.and (fun _ _ _ _ h _ _ => h) (OwnFrom.and (OwnFrom.and (OwnFrom.and (Own.from (Cells.own _ _ _) _) (Own.from (Cells.own _ _ _) _)) (Own.from (Cells.own _ _ _) _)) (ownFrom_below (Nat.le_refl _) (by omega)))
  case ox =>
    rintro c s Y Z row ⟨h, hB⟩ hg hr
    obtain ⟨e, pre', x, h1, h2, h3, h4, h5⟩ := h
    exact ⟨⟨e, pre', x, h1, h2, h3, Own.from (Cells.own _ _ (fun _ : Unit => _)) W0.heap.size () Y Z row h4 hg hr, Own.from (Cells.own _ _ (fun _ : Unit => _)) W0.heap.size () Y Z row h5 hg hr⟩, ownFrom_below (Nat.le_refl _) (by omega) s Y Z row hB hg hr⟩
  case body =>
    rintro l pre x W Bx hBx bX ⟨hp, ⟨⟨d1, d2⟩, d3⟩, hB1⟩ hlt
    have hx := x.2
    have c0 := bX.cell 0
    have c1 := bX.cell 1
    have c2 := bX.cell 2
    have lX := bX.lt
    have e1 := d1.cell 0
    have l1 := d1.lt
    have e20 := d2.cell 0
    have e21 := d2.cell 1
    have e22 := d2.cell 2
    have f20 := d2.frozen 0
    have f21 := d2.frozen 1
    have f22 := d2.frozen 2
    have l2 := d2.lt
    have e3 := d3.cell 0
    have f3 := d3.frozen 0
    have l3 := d3.lt
    simp only [List.setIfInBounds_toArray, List.set_cons_succ, List.set_cons_zero]
    have kA : Kept W (W.alloc (.cells (bkC (x.1.at' : Nat) (x.1.size : Nat) (x.1.kind : Nat)) 111)) := Kept.alloc (Below.refl _ _) _
    rcases (show (x.1.kind = 0 ∧ n ≤ (x.1.size : Int)) ∨ (x.1.kind = 0 ∧ (x.1.size : Int) < n) ∨ ¬ x.1.kind = 0 by omega) with ⟨h, h'⟩ | ⟨h, h'⟩ | h
    · have hq' : (((x.1.kind : Nat) : Int) == 0) = true := by simp [h]
      have HZ : Hid (x.1.kind = 0) := h
      clear h
      gi_wp2_with (refine ⟨trivial, ?_⟩; gi_at_call 148; refine (CallsIn.inRound l (callsIn_wide.2 (free_ok _ _ _ _))).mono ?_; rintro e w4 ⟨rfl, rfl⟩)
      exact ⟨(((others3 _ _ _).trans (KeepsOthers.setCell _ _ _)).trans (KeepsOthers.alloc _ _)).from _, ⟨rfl, pre, x, rfl, hp, by simp [freeP, HZ.out, h'], ((d2.set3 _ _ _).other (by simp) _).alloc _, ((d3.other3 (by omega) _ _ _).set1 _).alloc _⟩, ((below3 hB1 (by omega) _ _ _).setCell (p := ⟨w.heap.size + 1 + 1, 0, none⟩) (by simp; omega) _).alloc (by have := hB1.size; simpa [World.setCell] using this) _⟩
    · have hq' : (((x.1.kind : Nat) : Int) == 0) = true := by simp [h]
      have HZ : Hid (x.1.kind = 0) := h
      clear h
      gi_wp2_with (refine ⟨trivial, ?_⟩; gi_at_call 148; refine (CallsIn.inRound l (callsIn_wide.2 (free_ok _ _ _ _))).mono ?_; rintro e w4 ⟨rfl, rfl⟩)
      exact ⟨(KeepsOthers.alloc _ _).from _, KeepX.of kA, fun b hb => by rcases List.mem_append.1 hb with hb | hb; exact hp b hb; simp at hb; subst hb; simp [freeP, HZ.out]; omega, ⟨⟨d1.alloc _, d2.alloc _⟩, d3.alloc _⟩, hB1.alloc hB1.size _⟩
    · have hq' : (((x.1.kind : Nat) : Int) == 0) = false := by simpa using h
      gi_wp2_with (refine ⟨trivial, ?_⟩; gi_at_call 148; refine (CallsIn.inRound l (callsIn_wide.2 (free_ok _ _ _ _))).mono ?_; rintro e w4 ⟨rfl, rfl⟩)
      exact ⟨(KeepsOthers.alloc _ _).from _, KeepX.of kA, fun b hb => by rcases List.mem_append.1 hb with hb | hb; exact hp b hb; simp at hb; subst hb; simp [freeP, h], ⟨⟨d1.alloc _, d2.alloc _⟩, d3.alloc _⟩, hB1.alloc hB1.size _⟩
  case done =>
    rintro D W hD ⟨hp, ⟨⟨d1, d2⟩, d3⟩, hB1⟩ hK
    have e20 := d2.cell 0
    have e21 := d2.cell 1
    have e22 := d2.cell 2
    have f20 := d2.frozen 0
    have f21 := d2.frozen 1
    have f22 := d2.frozen 2
    have e3 := d3.cell 0
    have f3 := d3.frozen 0
    gi_wp2
    have hK' := ((others3 (W := W) (B := w.heap.size + 1) (.int .i64 0) (.int .i64 0) (.int .i64 0)).trans (KeepsOthers.setCell _ ⟨w.heap.size + 1 + 1, 0, none⟩ (.bool false))).same D _ hK rfl
    refine ⟨by simp, .inl ⟨_, _, rfl, run_takeDeferred hK', ?_⟩⟩
    have q2 := ((d2.set3 (.int .i64 0) (.int .i64 0) (.int .i64 0)).other (p := ⟨w.heap.size + 1 + 1, 0, none⟩) (by simp) (.bool false)).put hK' rfl (.deferred none)
    have q3 := ((d3.other3 (B' := w.heap.size + 1) (by omega) (.int .i64 0) (.int .i64 0) (.int .i64 0)).set1 (.bool false)).put hK' rfl (.deferred none)
    refine ⟨.tuple #[bkV 0 0 0, .bool false], by simp [results, Tryz.results118, go_sem, q2.cell 0, q2.cell 1, q2.cell 2, q3.cell 0], by simp [ffV, ff_none hp], ?_⟩
    exact ((below3 hB1 (by omega) _ _ _).setCell (p := ⟨w.heap.size + 1 + 1, 0, none⟩) (by simp; omega) _).trans (belowK_b (w := w) (Nat.le_refl _) _ D _ _ (by omega) hK' rfl rfl)
  case stop =>
    rintro D c pre W hD hpre ⟨h, hB⟩ hK
    obtain ⟨rfl, pre', x, rfl, hp, hx, d2, d3⟩ := h
    gi_wp2
    refine ⟨by simp, .inl ⟨_, _, rfl, run_takeDeferred hK, ?_⟩⟩
    have q2 := d2.put hK rfl (.deferred none)
    have q3 := d3.put hK rfl (.deferred none)
    refine ⟨.tuple #[bkV (x.1.at' : Nat) (x.1.size : Nat) (x.1.kind : Nat), .bool true], by simp [results, Tryz.results118, go_sem, q2.cell 0, q2.cell 1, q2.cell 2, q3.cell 0], by simp [ffV, ff_hit hpre hp hx], ?_⟩
    exact hB.trans (belowK_b (w := w) (Nat.le_refl _) _ D _ _ (by omega) hK rfl rfl)
end Go.Proofs.YtpbafjcoomfooaaGreat
namespace Go.Proofs.YtpbafjcoomfooaaGreat
open Go.RowKit
attribute [local go_sem] Plain.and7

/-- v is a slab's words of the call's own. -/
def OwnR (W : World) (base : Nat) (v : Value) (zs : List Int) : Prop :=
  (v = .slice none 0 0 ∧ zs = []) ∨ ∃ g cap, v = .slice (some ⟨g, 0, none⟩) zs.length cap ∧ base ≤ g ∧ zs.length ≤ cap ∧ Row W g zs
/-- What Take makes of the words, of a free block b that is large enough. -/
def takeL (zs : List Int) (b : Bk) (kind n : Nat) : List Int :=
  if n + 2 ≤ b.size then layL (zs.set (b.at' + n) (8 * ((b.size : Int) - (n : Int)))) b.at' n (8 * (n : Int) + (kind : Int)) else layL zs b.at' b.size (8 * (b.size : Int) + (kind : Int))

set_option maxHeartbeats 4000000 in
set_option maxRecDepth 100000 in
theorem impl_Take_bad (w : World) (ao : Option Addr) (cap : Nat) (zs : List Int) (kind n : Int) (hI : Ints w ao zs) (hl : zs.length ≤ 1048576) (hok : slabOk zs = false) :
    Calls Tryz.prog 82 #[.agg #[.slice ao zs.length cap], .int .i64 kind, .int .i64 n] w fun e w' => e = .returned (.tuple #[.agg #[.slice none 0 0], .int .i64 0, .bool false]) ∧ Kept w w' := by
  have hL : zs.length * 8 ≤ 140737488351232 := by omega
  have b0 := (Cells.new w 26 #[.slice ao zs.length cap]).alloc (.cells #[.slice none 0 0] 26)
  have b1 := Cells.new (w.alloc (.cells #[.slice ao zs.length cap] 26)) 26 #[.slice none 0 0]
  have k0 : Kept w ((w.alloc (.cells #[.slice ao zs.length cap] 26)).alloc (.cells #[.slice none 0 0] 26)) := (Kept.alloc (Below.refl _ _) _).alloc _
  simp only [World.size_alloc] at b1
  have hS := impl_SlabOk_ok _ ao cap zs (hI.kept k0) hL
  rw [hok] at hS
  clear hok
  go_enter Tryz.func82, Tryz.ntmps82
  go_wp2_with (go_at_call 116; refine hS.mono ?_; rintro e w1 ⟨rfl, hk1⟩; have d1 := (b1.kept hk1).cell 0; have f1 := (b1.kept hk1).frozen 0)
  have q := ((b1.kept hk1).set1 (.slice none 0 0)).cell 0
  refine bodyPost_ret (v := .tuple #[.agg #[.slice none 0 0], .int .i64 0, .bool false]) (by simp [results, Tryz.results82, go_sem, q]) rfl ⟨rfl, (k0.trans hk1).set (by simp) _⟩
set_option maxHeartbeats 4000000 in
set_option maxRecDepth 100000 in
theorem impl_Take_no (w : World) (ao : Option Addr) (cap : Nat) (zs : List Int) (kind n : Int) (hI : Ints w ao zs) (hl : zs.length ≤ 1048576) (hok : slabOk zs = true) (hno : ¬ (1 ≤ kind ∧ kind ≤ 5 ∧ 2 ≤ n) ∨ ffB zs n = none) :
    Calls Tryz.prog 82 #[.agg #[.slice ao zs.length cap], .int .i64 kind, .int .i64 n] w fun e w' => ∃ v, e = .returned (.tuple #[.agg #[v], .int .i64 0, .bool false]) ∧ OwnR w' w.heap.size v zs ∧ Kept w w' := by
  have hL : zs.length * 8 ≤ 140737488351232 := by omega
  have b0 := (Cells.new w 26 #[.slice ao zs.length cap]).alloc (.cells #[.slice none 0 0] 26)
  have b1 := Cells.new (w.alloc (.cells #[.slice ao zs.length cap] 26)) 26 #[.slice none 0 0]
  have k0 : Kept w ((w.alloc (.cells #[.slice ao zs.length cap] 26)).alloc (.cells #[.slice none 0 0] 26)) := (Kept.alloc (Below.refl _ _) _).alloc _
  simp only [World.size_alloc] at b1
  have hS := impl_SlabOk_ok _ ao cap zs (hI.kept k0) hL
  rw [hok] at hS
  have HN : Hid (¬ (1 ≤ kind ∧ kind ≤ 5 ∧ 2 ≤ n) ∨ ffB zs n = none) := hno
  clear hok hno
  go_enter Tryz.func82, Tryz.ntmps82
  go_wp2_with fail
  refine hS.mono ?_
  rintro e w1 ⟨rfl, hk1⟩
  have c1 := (b0.kept hk1).cell 0
  go_wp2_with fail
  refine (copySlab_ok _ ao cap zs ((hI.kept k0).kept hk1) hl).mono ?_
  rintro e w2 ⟨g2, cp2, rfl, hg2, hcp2, hR2, hk2⟩
  have ka : Kept w2 (w2.alloc (.cells #[.slice (some ⟨g2, 0, none⟩) zs.length cp2] 26)) := Kept.alloc (Below.refl _ _) _
  have b9 := Cells.new w2 26 #[.slice (some ⟨g2, 0, none⟩) zs.length cp2]
  have k2 := ((k0.trans hk1).trans hk2).trans ka
  have b0a := (((b0.kept hk1).kept hk2).kept ka)
  have b1a := (((b1.kept hk1).kept hk2).kept ka)
  have r2 := hR2.kept ka
  have hsz1 := hk1.size
  have hgw : w.heap.size + 1 < g2 := by simp at hsz1; omega
  have d0 := b0a.cell 0
  have d1 := b1a.cell 0
  have f1 := b1a.frozen 0
  have d9 := b9.cell 0
  have l1a := b1a.lt
  have l0a := b0a.lt
  clear c1
  by_cases hA : 1 ≤ kind ∧ kind ≤ 5 ∧ 2 ≤ n
  · have HF : Hid (ffB zs n = none) := by rcases HN.out with h | h; exact absurd hA h; exact h
    obtain ⟨hA1, hA2, hA3⟩ := hA
    have hff := firstFree_ok _ ao cap zs n (hI.kept k2) hL
    rw [HF.out] at hff
    simp only [ffV] at hff
    have hq0 : (kind == 0) = false := by simp; omega
    have hn2 : decide (n < 2) = false := by simp; omega
    go_wp2_with (first | (go_at_call 117; refine (blockKind_ok _ _).mono ?_; rintro e wx ⟨rfl, rfl⟩) | (go_at_call 118; refine hff.mono ?_; rintro e w3 ⟨rfl, hk3⟩; have e9 := (b9.kept hk3).cell 0; have e1 := (b1a.kept hk3).cell 0; have g1 := (b1a.kept hk3).frozen 0; have l9 := (b9.kept hk3).lt; have l1b := (b1a.kept hk3).lt))
    have q := (((b1a.kept hk3).set1 (.slice (some ⟨g2, 0, none⟩) zs.length cp2)).alloc (.cells (bkC 0 0 0) 111)).cell 0
    refine bodyPost_ret (v := .tuple #[.agg #[.slice (some ⟨g2, 0, none⟩) zs.length cp2], .int .i64 0, .bool false]) (by simp [results, Tryz.results82, go_sem, q]) rfl ⟨_, rfl, .inr ⟨g2, cp2, rfl, by omega, hcp2, ((r2.kept hk3).other (by intro h; simp at h <;> omega) _).kept (Kept.alloc (Below.refl _ _) _)⟩, ((k2.trans hk3).set (by simp) _).alloc _⟩
  · have q := (b1a.set1 (.slice (some ⟨g2, 0, none⟩) zs.length cp2)).cell 0
    rcases (show (kind < 0 ∨ 5 < kind) ∨ (0 ≤ kind ∧ kind ≤ 5 ∧ kind = 0) ∨ (1 ≤ kind ∧ kind ≤ 5 ∧ n < 2) by omega) with h | ⟨h1, h2, h3⟩ | ⟨h1, h2, h3⟩
    · have hb : decide (0 ≤ kind ∧ kind ≤ 5) = false := by simp; omega
      go_wp2_with (go_at_call 117; refine (blockKind_ok _ _).mono ?_; rintro e wx ⟨rfl, rfl⟩)
      refine bodyPost_ret (v := .tuple #[.agg #[.slice (some ⟨g2, 0, none⟩) zs.length cp2], .int .i64 0, .bool false]) (by simp [results, Tryz.results82, go_sem, q]) rfl ⟨_, rfl, .inr ⟨g2, cp2, rfl, by omega, hcp2, r2.other (by intro h; simp at h <;> omega) _⟩, k2.set (by simp) _⟩
    · have hb : decide (0 ≤ kind ∧ kind ≤ 5) = true := by simp; omega
      have hq0 : (kind == 0) = true := by simp [h3]
      clear h3
      go_wp2_with (go_at_call 117; refine (blockKind_ok _ _).mono ?_; rintro e wx ⟨rfl, rfl⟩)
      refine bodyPost_ret (v := .tuple #[.agg #[.slice (some ⟨g2, 0, none⟩) zs.length cp2], .int .i64 0, .bool false]) (by simp [results, Tryz.results82, go_sem, q]) rfl ⟨_, rfl, .inr ⟨g2, cp2, rfl, by omega, hcp2, r2.other (by intro h; simp at h <;> omega) _⟩, k2.set (by simp) _⟩
    · have hb : decide (0 ≤ kind ∧ kind ≤ 5) = true := by simp; omega
      have hq0 : (kind == 0) = false := by simp; omega
      have hn2 : decide (n < 2) = true := by simp; omega
      go_wp2_with (go_at_call 117; refine (blockKind_ok _ _).mono ?_; rintro e wx ⟨rfl, rfl⟩)
      refine bodyPost_ret (v := .tuple #[.agg #[.slice (some ⟨g2, 0, none⟩) zs.length cp2], .int .i64 0, .bool false]) (by simp [results, Tryz.results82, go_sem, q]) rfl ⟨_, rfl, .inr ⟨g2, cp2, rfl, by omega, hcp2, r2.other (by intro h; simp at h <;> omega) _⟩, k2.set (by simp) _⟩
set_option maxHeartbeats 8000000 in
set_option maxRecDepth 100000 in
theorem impl_Take_yes (w : World) (ao : Option Addr) (cap : Nat) (zs : List Int) (kind n : Nat) (b : BkOf zs.length) (hI : Ints w ao zs) (hl : zs.length ≤ 1048576) (hok : slabOk zs = true) (h1 : 1 ≤ kind) (h5 : kind ≤ 5) (hn2 : 2 ≤ n) (hb : ffB zs n = some b) :
    Calls Tryz.prog 82 #[.agg #[.slice ao zs.length cap], .int .i64 kind, .int .i64 n] w fun e w' => ∃ v, e = .returned (.tuple #[.agg #[v], .int .i64 (b.1.at' : Nat), .bool true]) ∧ OwnR w' w.heap.size v (takeL zs b.1 kind n) ∧ Kept w w' := by
  have hL : zs.length * 8 ≤ 140737488351232 := by omega
  have b0 := (Cells.new w 26 #[.slice ao zs.length cap]).alloc (.cells #[.slice none 0 0] 26)
  have b1 := Cells.new (w.alloc (.cells #[.slice ao zs.length cap] 26)) 26 #[.slice none 0 0]
  have k0 : Kept w ((w.alloc (.cells #[.slice ao zs.length cap] 26)).alloc (.cells #[.slice none 0 0] 26)) := (Kept.alloc (Below.refl _ _) _).alloc _
  simp only [World.size_alloc] at b1
  have hS := impl_SlabOk_ok _ ao cap zs (hI.kept k0) hL
  rw [hok] at hS
  have HB : Hid (ffB zs n = some b) := hb
  have hfree : b.1.kind = 0 ∧ (n : Int) ≤ (b.1.size : Int) := by
    have := List.find?_some hb
    simpa [freeP] using this
  have hnb : n ≤ b.1.size := by omega
  have hbs := b.2
  clear hok hb hfree
  go_enter Tryz.func82, Tryz.ntmps82
  go_wp2_with fail
  refine hS.mono ?_
  rintro e w1 ⟨rfl, hk1⟩
  have c1 := (b0.kept hk1).cell 0
  go_wp2_with fail
  refine (copySlab_ok _ ao cap zs ((hI.kept k0).kept hk1) hl).mono ?_
  rintro e w2 ⟨g2, cp2, rfl, hg2, hcp2, hR2, hk2⟩
  have ka : Kept w2 (w2.alloc (.cells #[.slice (some ⟨g2, 0, none⟩) zs.length cp2] 26)) := Kept.alloc (Below.refl _ _) _
  have b9 := Cells.new w2 26 #[.slice (some ⟨g2, 0, none⟩) zs.length cp2]
  have k2 := ((k0.trans hk1).trans hk2).trans ka
  have b0a := (((b0.kept hk1).kept hk2).kept ka)
  have b1a := (((b1.kept hk1).kept hk2).kept ka)
  have r2 := hR2.kept ka
  have hsz1 := hk1.size
  have hgw : w.heap.size + 1 < g2 := by simp at hsz1; omega
  have lr2 := hR2.lt
  have d0 := b0a.cell 0
  have l0a := b0a.lt
  have hff := firstFree_ok _ ao cap zs n (hI.kept k2) hL
  rw [HB.out] at hff
  simp only [ffV] at hff
  have hq0 : ((kind : Int) == 0) = false := by simp; omega
  have hn2' : decide ((n : Int) < 2) = false := by simp; omega
  clear c1
  by_cases hleft : n + 2 ≤ b.1.size
  · go_wp2_with (first | (go_at_call 117; refine (blockKind_ok _ _).mono ?_; rintro e wx ⟨rfl, rfl⟩) | (go_at_call 118; refine hff.mono ?_; rintro e w3 ⟨rfl, hk3⟩; have e9 := (b9.kept hk3).cell 0; have e1 := (b1a.kept hk3).cell 0; have g1 := (b1a.kept hk3).frozen 0; have l9 := (b9.kept hk3).lt; have l1b := (b1a.kept hk3).lt) | fail)
    obtain ⟨W3, hW3⟩ : ∃ W3, w3.alloc (.cells (bkC (b.1.at' : Nat) (n : Nat) (kind : Nat)) 111) = W3 := ⟨_, rfl⟩
    have kb : Kept w3 (w3.alloc (.cells (bkC (b.1.at' : Nat) (n : Nat) (kind : Nat)) 111)) := Kept.alloc (Below.refl _ _) _
    have z9 := (b9.kept hk3).kept kb
    have z1 := (b1a.kept hk3).kept kb
    have z10 := Cells.new w3 111 (bkC (b.1.at' : Nat) (n : Nat) (kind : Nat))
    have r3 := (r2.kept hk3).kept kb
    have k3 := (k2.trans hk3).trans kb
    have hs3 := hk3.size
    simp only [World.size_alloc] at hs3
    simp only [bkC] at hW3 z9 z1 z10 r3 k3 kb
    rw [hW3] at z9 z1 z10 r3 k3 kb ⊢
    have lr3 := r3.lt
    have u9 := z9.cell 0
    have u100 := z10.cell 0
    have u101 := z10.cell 1
    have u102 := z10.cell 2
    have l10 := z10.lt
    have lz9 := z9.lt
    have hcg := r3.cell (j := b.1.at' + n) (by omega)
    have hfg := r3.frozen (b.1.at' + n)
    clear hW3 e9 e1 g1 l9 l1b d0
    go_cut [] from 48 to 58 (fun wx => Row wx g2 (zs.set (b.1.at' + n) (8 * ((b.1.size : Int) - (n : Int)))) ∧ W3.grownBy wx (some g2))
    case first =>
      go_region_with (first | (go_at_call 120; refine (end_ok _ _ _ _ (by omega) (by omega)).mono ?_; rintro e wx ⟨rfl, rfl⟩) | (go_at_call 119; refine (header_ok _ _ _ _ (by omega) (by omega) (by omega) (by omega)).mono ?_; rintro e wx ⟨rfl, rfl⟩))
      all_goals (
        go_wp2_with fail
        go_meet
        first
          | exact ⟨(r3.set (k := b.1.at' + n) (by omega) ⟨by omega, by omega⟩).kept (((Kept.alloc (Below.refl _ _) _).alloc _).drew), grown_kept (grown_set (World.grownBy.refl _ _) _) (((Kept.alloc (Below.refl _ _) _).alloc _).drew)⟩
          | trace_state)
    case rest =>
    obtain ⟨hR4, hG4⟩ := hcut
    have x9 := z9.grown hG4 (by intro e; simp at e; omega)
    have x1 := z1.grown hG4 (by intro e; simp at e; omega)
    have x10 := z10.grown hG4 (by intro e; simp at e; omega)
    have k4 := k3.grownRow hG4 (fun k e => by cases e; omega)
    have lx10 := x10.lt
    have lx9 := x9.lt
    have lx1 := x1.lt
    have v9 := x9.cell 0
    have v100 := x10.cell 0
    have v101 := x10.cell 1
    have v102 := x10.cell 2
    have hlay := layBlock_ok _ g2 cp2 _ b.1.at' n kind hR4 (by rw [List.length_set]; omega) (by omega) (by omega) (by rw [List.length_set]; omega) (by rw [List.length_set]; omega)
    rw [List.length_set] at hlay
    clear u9 u100 u101 u102 hcg hfg
    go_wp2_with fail
    refine hlay.mono ?_
    rintro e w5 ⟨⟨v5, rfl⟩, hR5, hG5⟩
    have k5 := k4.grownRow hG5 (fun k e => by cases e; omega)
    have y9 := (x9.grown hG5 (by intro e; simp at e; omega)).cell 0
    have yb1 := x1.grown hG5 (by intro e; simp at e; omega)
    have y1 := yb1.cell 0
    have f1 := yb1.frozen 0
    have yb10 := x10.grown hG5 (by intro e; simp at e; omega)
    have y10 := yb10.cell 0
    clear hlay
    go_wp2_with fail
    go_region
    all_goals go_wp2
    have q := (yb1.set1 (.slice (some ⟨g2, 0, none⟩) zs.length cp2)).cell 0
    have eT : takeL zs b.1 kind n = layL (zs.set (b.1.at' + n) (8 * ((b.1.size : Int) - (n : Int)))) b.1.at' n (8 * (n : Int) + (kind : Int)) := if_pos hleft
    have lT : (takeL zs b.1 kind n).length = zs.length := by rw [eT, layL_len, List.length_set]
    refine bodyPost_ret (v := .tuple #[.agg #[.slice (some ⟨g2, 0, none⟩) zs.length cp2], .int .i64 (b.1.at' : Nat), .bool true]) (by simp [results, Tryz.results82, go_sem, q]) rfl ⟨_, rfl, .inr ⟨g2, cp2, by rw [lT], by omega, by rw [lT]; exact hcp2, by rw [eT]; exact (hR5.other (by intro h; simp at h <;> omega) _).kept (Below.refl _ _).drew⟩, (k5.set (by simp) _).drew⟩
  · have hsm : ¬ (2 : Int) ≤ (b.1.size : Int) - (n : Int) := by omega
    go_wp2_with (first | (go_at_call 117; refine (blockKind_ok _ _).mono ?_; rintro e wx ⟨rfl, rfl⟩) | (go_at_call 118; refine hff.mono ?_; rintro e w3 ⟨rfl, hk3⟩; have e9 := (b9.kept hk3).cell 0; have e1 := (b1a.kept hk3).cell 0; have g1 := (b1a.kept hk3).frozen 0; have l9 := (b9.kept hk3).lt; have l1b := (b1a.kept hk3).lt) | fail)
    have kb : Kept w3 (w3.alloc (.cells (bkC (b.1.at' : Nat) (b.1.size : Nat) (kind : Nat)) 111)) := Kept.alloc (Below.refl _ _) _
    have x9 := (b9.kept hk3).kept kb
    have x1 := (b1a.kept hk3).kept kb
    have x10 := Cells.new w3 111 (bkC (b.1.at' : Nat) (b.1.size : Nat) (kind : Nat))
    have r3 := (r2.kept hk3).kept kb
    have k4 := (k2.trans hk3).trans kb
    have hs3 := hk3.size
    simp only [World.size_alloc] at hs3
    have lr3 := r3.lt
    have hlay := layBlock_ok _ g2 cp2 _ b.1.at' b.1.size kind r3 (by omega) (by omega) (by omega) (by omega) (by omega)
    clear e9 e1 g1 l9 l1b d0
    refine hlay.mono ?_
    rintro e w5 ⟨⟨v5, rfl⟩, hR5, hG5⟩
    have k5 := k4.grownRow hG5 (fun k e => by cases e; omega)
    have y9 := (x9.grown hG5 (by intro e; simp at e; omega)).cell 0
    have yb1 := x1.grown hG5 (by intro e; simp at e; omega)
    have y1 := yb1.cell 0
    have f1 := yb1.frozen 0
    have yb10 := x10.grown hG5 (by intro e; simp at e; omega)
    have y10 := yb10.cell 0
    clear hlay
    go_wp2_with fail
    go_region
    all_goals go_wp2
    have q := (yb1.set1 (.slice (some ⟨g2, 0, none⟩) zs.length cp2)).cell 0
    have eT : takeL zs b.1 kind n = layL zs b.1.at' b.1.size (8 * (b.1.size : Int) + (kind : Int)) := if_neg hleft
    have lT : (takeL zs b.1 kind n).length = zs.length := by rw [eT, layL_len]
    refine bodyPost_ret (v := .tuple #[.agg #[.slice (some ⟨g2, 0, none⟩) zs.length cp2], .int .i64 (b.1.at' : Nat), .bool true]) (by simp [results, Tryz.results82, go_sem, q]) rfl ⟨_, rfl, .inr ⟨g2, cp2, by rw [lT], by omega, by rw [lT]; exact hcp2, by rw [eT]; exact (hR5.other (by intro h; simp at h <;> omega) _).kept (Below.refl _ _).drew⟩, (k5.set (by simp) _).drew⟩
end Go.Proofs.YtpbafjcoomfooaaGreat
