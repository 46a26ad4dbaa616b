/-
  textAt.
-/
import Derived.Test.YthkhlmbhickdbaaTextJ
namespace Go.Proofs.Ythkhlmbhickdbaa
open Go.RowKit Go.Shelf Go.Maps
attribute [local go_sem] Oper.semAt_some

theorem TextMap.some_left {w : World} {b n : Nat} {zs : List Int} {p : Nat → Bool} {D : DataW Unit} (h1 : w.ownsMap Try.prog 3 (plainElem Try.prog 3) b n D) (h2 : MapIs zs D p) (hs : Maps.size D ≠ 0) : ∃ k, p k = true := by
  obtain ⟨es, rfl, _, hk⟩ := h1.entries lawI
  cases es with
  | nil => exact absurd rfl hs
  | cons e es =>
    have : Maps.has (.map (e :: es)) e.1 = true := by simp [Maps.has, WideAt.sameKey_self (hk e (by simp))]
    obtain ⟨k, hx⟩ := h2.only _ this
    exact ⟨k, by rw [← h2.has, ← hx]; exact this⟩
theorem grown_keepR {W W' : World} {b n B : Nat} {zs : List Int} {p : Nat → Bool} (h : TextMap W b n zs p) (hg : W.grownBy W' (some b)) (hb : b < B) : KeepR B b W W' :=
  ⟨hg.size, fun k o ek hc => (hg.block k (Array.getElem?_eq_some_iff.1 ek).1 (by
    intro e'
    cases e'
    obtain ⟨D, ⟨es, cl, hm, _⟩, _⟩ := h
    rw [hm] at ek
    cases ek
    rcases hc with hc | hc
    · cases hc.1
    · omega)).trans ek⟩
theorem Cells.grownB {W W' : World} {r B : Nat} {t : TypeId} {cs : Array Value} (h : Cells W r t cs) (hg : W.grownBy W' (some B)) (hne : r ≠ B) : Cells W' r t cs :=
  (hg.block r h.lt (by intro e; cases e; exact hne rfl)).trans h
theorem MapIs.none_left {zs : List Int} {p : Nat → Bool} {D : DataW Unit} (h2 : MapIs zs D p) (hm : IsMap D) (hs : Maps.size D = 0) (k : Nat) : p k = false := by
  obtain ⟨es, rfl⟩ := hm
  cases es with
  | nil => rw [← h2.has]; rfl
  | cons e es => simp [Maps.size] at hs

set_option maxHeartbeats 4000000 in
set_option maxRecDepth 100000 in
theorem textAt_ok (w : World) (ao : Option Addr) (cap : Nat) (zs : List Int) (t : ByteArray) (hI : Ints w ao zs) (hl : zs.length ≤ 1048576) (hcap : zs.length ≤ cap) (hh : heapR zs = true) :
    Calls Try.prog 25 #[.slice ao zs.length cap, .string t] w fun e w' => e = .returned (atV (findT zs t)) ∧ Kept w w' := by
  have b0 := Cells.new w 22 #[.slice ao zs.length cap]
  have k0 : Kept w (w.alloc (.cells #[.slice ao zs.length cap] 22)) := Kept.alloc (Below.refl _ _) _
  have hsz0 : (w.alloc (.cells #[.slice ao zs.length cap] 22)).heap.size = w.heap.size + 1 := by simp
  have hT := textsOf_ok _ ao cap zs (hI.kept k0) hl hh
  refine (callsIn_wide (n := 3)).1 ?_
  refine callsIn_of_wp_marks Try.func25 rfl trivial ?_ rfl
  simp only [Try.ntmps25, List.size_toArray, List.length_cons, List.length_nil, Nat.reduceAdd, Nat.reduceSub, Array.replicate_succ, Array.replicate_zero, List.push_toArray, List.append_toArray, List.nil_append, List.cons_append]
  refine wpIn_wide.2 ?_
  go_wp2_with fail
  refine hT.mono ?_
  rintro e w1 ⟨b, n, rfl, hb, hT1, hk1⟩
  have hs1 := hk1.size
  rw [hsz0] at hs1 hb
  have bW1 := b0.kept hk1
  have kW1 := k0.trans hk1
  have hb1 : b < w1.heap.size := by obtain ⟨D, h, _⟩ := hT1; exact h.lt
  have hT2 := hT1.kept (World.grownBy_alloc w1 (.cells #[.map (some b)] 74) none) (by simp)
  have hG := giveOther_ok _ b n zs _ t.size hT2
  have bT2 := Cells.new w1 74 #[.map (some b)]
  have bW2 := bW1.alloc (.cells #[.map (some b)] 74)
  have cT2 := bT2.cell 0
  have cW2 := bW2.cell 0
  clear hT hT1 hT2 b0
  go_wp2_with (first
    | (go_at_call 59; refine hG.mono ?_; rintro e w2 ⟨rfl, hT3, hg3⟩)
    | (go_at_call 60; refine (runesOf_ok _ _).mono ?_; rintro e w3 ⟨rfl, rfl⟩))
  have hs2 := hg3.size
  simp only [World.size_alloc] at hs2
  have kW2 : Kept w w2 := (kW1.alloc (.cells #[.map (some b)] 74)).grownRow hg3 (fun j e => by cases e; omega)
  have bT3 := (bT2.grownB hg3 (by omega)).alloc (.cells #[.string t] 9)
  have bW3 := (bW2.grownB hg3 (by omega)).alloc (.cells #[.string t] 9)
  have bB := Cells.new w2 9 #[.string t]
  have kW3 := kW2.alloc (.cells #[.string t] 9)
  have hT4 : TextMap (w2.alloc (.cells #[.string t] 9)) b n zs (leftT zs t []) := (hT3.kept (World.grownBy_alloc w2 (.cells #[.string t] 9) none) (by simp)).congr (fun k => by simp [leftT, likeAll])
  have hsz : (w2.alloc (.cells #[.string t] 9)).heap.size = w2.heap.size + 1 := by simp
  obtain ⟨W0, hW0⟩ : ∃ W0, w2.alloc (.cells #[.string t] 9) = W0 := ⟨_, rfl⟩
  rw [hW0] at bT3 bW3 bB kW3 hT4 hsz ⊢
  clear hW0 hG hT3 hg3 kW2 bT2 bW2 cT2 cW2 bW1 kW1 hk1 k0 hsz0
  refine (wpIn_wide (n := 3)).1 ?_
  refine wpIn_rangeFunc_ownH rfl (by omega) rfl trivial (enters_of Try.func95 (by kernel_rfl) rfl)
    (runesOf_stops (3 - 1) (by omega) w2.heap.size b (by omega) t W0 bB) KeepR.t (fun W l o o' _ h h1 h2 => KeepR.b W l o o' h h1 h2) (Below.refl _ _) (fun _ => rfl)
    (fun pre W => (TextMap W b n zs (leftT zs t pre) ∧ Cells W w1.heap.size 74 #[.map (some b)] ∧ Cells W w.heap.size 22 #[.slice ao zs.length cap]) ∧ Below w.heap.size w W)
    (fun c ys W => (c = .exit 0 ∧ ∃ pre x, ys = pre ++ [x] ∧ ∀ k, leftT zs t pre k = false) ∧ (TextMap W b n zs (fun _ => false) ∧ Cells W w1.heap.size 74 #[.map (some b)]) ∧ Below w.heap.size w W)
    (OwnFrom.and (OwnFrom.and (fun s Y Z row h hg hr => h.kept hg (fun e => by have := (hr _ e.symm).1; omega)) (OwnFrom.and (Own.from (Cells.own _ _ _) _) (Own.from (Cells.own _ _ _) _))) (ownFrom_below (Nat.le_refl _) (by omega)))
    (fun c => OwnFrom.and (fun s Y Z row h hg hr => h) (OwnFrom.and (OwnFrom.and (fun s Y Z row h hg hr => h.kept hg (fun e => by have := (hr _ e.symm).1; omega)) (Own.from (Cells.own _ _ _) _)) (ownFrom_below (Nat.le_refl _) (by omega))))
    ⟨⟨hT4, bT3, bW3⟩, kW3⟩
    (fun x a' _ => a' = { tmps := #[.slice ao zs.length cap, .string t, .pointer (some ⟨w.heap.size, 0, none⟩), undef, .int .i64 0, .bool false, .pointer (some ⟨w1.heap.size, 0, none⟩), .int .i64 (x.1.1 : Nat), .string (t.extract x.1.1 x.1.2), .slice ao zs.length cap, .map (some b), .map (some b), .string t, .int .i64 t.size, .tuple #[], .string t, .func (.func 95) #[] #[.pointer (some ⟨w2.heap.size, 0, none⟩)], .int .i64 (x.1.1 : Nat), .string (t.extract x.1.1 x.1.2), undef, undef, undef, undef, undef, undef, undef, undef, undef, undef, undef, undef], defers := [] })
    (fun x a' _ Y Z row hs _ _ => hs)
    ?assign ?body ?done ?stop
  case assign =>
    intro l pre x W K hi hK
    simp only [runeV, List.zip_toArray, List.zip_cons_cons, List.zip_nil_right, List.foldl_toArray, List.foldl_cons, List.foldl_nil, List.setIfInBounds_toArray, List.set_cons_succ, List.set_cons_zero]
    gi_wp2
    exact hK _ _ (KeepsFrom.refl _ _) (KeepR.of (Below.refl _ _)) hi rfl
  case body =>
    rintro l pre x a' W _ _ ⟨⟨⟨D, hown, hM⟩, bT5, bW5⟩, hB5⟩ rfl hlt
    have cT5 := bT5.cell 0
    have cW5 := bW5.cell 0
    have hx := x.2
    have hlen := fun ty => hown.len (t := 74) Try.underlying74 ty
    by_cases hs : Maps.size D = 0
    · have HN : Hid (∀ k, leftT zs t pre k = false) := fun k => hM.none_left hown.isMap hs k
      have HT : Hid (TextMap W b n zs (fun _ => false)) := (show TextMap W b n zs (leftT zs t pre) from ⟨D, hown, hM⟩).congr (fun k => HN.out k)
      rw [hs] at hlen
      clear hs hM hown hx hlt
      gi_wp2
      exact ⟨(KeepsOthers.refl _).from _, ⟨rfl, pre, x, rfl, HN.out⟩, ⟨HT.out, bT5⟩, hB5⟩
    · obtain ⟨k0, hk0⟩ := TextMap.some_left hown hM hs
      have hfit0 := leftT_fits hh hk0
      obtain ⟨bb, off, e, hc⟩ := hI.at (k := 0) (by omega)
      have hblt : bb < w.heap.size := World.block_lt_of_cell? _ _ (hc 0 (by omega))
      subst e
      have hex := extract_size t x.1.1 x.1.2 hx.2
      have hTm : TextMap W b n zs (leftT zs t pre) := ⟨D, hown, hM⟩
      have hU := giveUnlike_ok W b n zs (leftT zs t pre) bb off cap x.1.1 (t.extract x.1.1 x.1.2) hTm (hI.kept hB5) (by omega) hl hcap (by omega) (fun k hk => by have := leftT_fits hh hk; omega)
      have HT : Hid (TextMap W b n zs (leftT zs t pre)) := hTm
      have e0 : (((Maps.size D : Nat) : Int) == 0) = false := by simp; omega
      obtain ⟨sd, hsd⟩ : ∃ sd : Int, ((Maps.size D : Nat) : Int) = sd := ⟨_, rfl⟩
      rw [hsd] at hlen e0
      clear hs hM hown hk0 hfit0 hc hex hlt hTm hsd
      gi_wp2_with (refine ⟨trivial, ?_⟩; gi_at_call 61; refine (CallsIn.inRound l (callsIn_wide.2 hU)).mono ?_; rintro e w4 ⟨rfl, hT6, hg6⟩)
      refine ⟨KeepsFrom.of_grownBy hg6 (fun j e => by cases e; omega), grown_keepR HT.out hg6 (by omega), ⟨⟨hT6.congr (fun k => (leftT_snoc zs t pre x k).symm), bT5.grownB hg6 (by omega), bW5.grownB hg6 (by omega)⟩, hB5.grown hg6 hB5.size (fun j e => by cases e; omega)⟩⟩
  case done =>
    rintro D ys W hD hP ⟨⟨hT5, bT5, bW5⟩, hB5⟩ hK
    have cT5 := bT5.cell 0
    have hFi := first_ok W b n zs _ hT5
    go_wp2_with (go_at_call 62; refine hFi.mono ?_; rintro e w6 ⟨l, f, rfl, hL, hk6⟩)
    have hK' : w6.heap[D]? = some (.deferred (some [])) := (hk6.block D (Array.getElem?_eq_some_iff.1 hK).1).trans hK
    refine ⟨by simp, .inl ⟨_, _, rfl, run_takeDeferred hK', ?_⟩⟩
    refine ⟨.tuple #[.int .i64 l, .bool f], by simp [results, Try.results25, go_sem], by rw [least_find hh hP hL], ?_⟩
    exact (hB5.trans (hk6.mono hB5.size)).trans (belowK_b (w := w) (Nat.le_refl _) _ D _ _ (by omega) hK' rfl rfl)
  case stop =>
    rintro D c ys W hD ⟨e, he, hP⟩ ⟨⟨rfl, pre, x, rfl, hno⟩, ⟨hT5, bT5⟩, hB5⟩ hK
    have cT5 := bT5.cell 0
    have hFi := first_ok W b n zs _ hT5
    have HN : Hid (findT zs t = none) := none_find hh he hP (fun k => by rw [leftT_snoc, hno]; rfl)
    clear hno hP
    gi_wp2_with fail
    go_wp2_with (go_at_call 62; refine hFi.mono ?_; rintro e w6 ⟨l, f, rfl, hL, hk6⟩)
    have hK' : w6.heap[D]? = some (.deferred (some [])) := (hk6.block D (Array.getElem?_eq_some_iff.1 hK).1).trans hK
    refine ⟨by simp, .inl ⟨_, _, rfl, run_takeDeferred hK', ?_⟩⟩
    refine ⟨.tuple #[.int .i64 l, .bool f], by simp [results, Try.results25, go_sem], ?_, ?_⟩
    · rw [HN.out]
      rcases hL with ⟨rfl, rfl, _⟩ | ⟨_, m, _, h, _⟩
      · rfl
      · cases h
    exact (hB5.trans (hk6.mono hB5.size)).trans (belowK_b (w := w) (Nat.le_refl _) _ D _ _ (by omega) hK' rfl rfl)
end Go.Proofs.Ythkhlmbhickdbaa
