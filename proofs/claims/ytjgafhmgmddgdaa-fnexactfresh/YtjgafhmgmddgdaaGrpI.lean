/-
  slices.Insert of one number into a list of one's own: the library's contracts at this program, and what they leave of the list.
  The contract of chapter 8's withPlace: a place put ahead of the first one that is greater.
-/
import Derived.Shelf.Spec.SlicesInsertGrow
import Derived.Shelf.Spec.SlicesInsert
import Derived.Deep.RegionHeld3
import Derived.Test.YtjgafhmgmddgdaaSlabW
import Derived.Test.YtjgafhmgmddgdaaHelpM
import Derived.Test.YtjgafhmgmddgdaaGrpC
import Derived.Test.YtjgafhmgmddgdaaRchB
namespace Go.Proofs.Ytjgafhmgmddgdaa
open Go.RowKit Go.Shelf

def insRen : Go.Shelf.Ren := ⟨fun | 21 => 77 | 27 => 102 | 28 => 103 | 35 => 112 | 39 => 113 | n => n, fun | 22 => 22 | 3 => 3 | 4 => 4 | 0 => 0 | n => n, fun n => n⟩
theorem insLays : Go.Proofs.Lays2.n21 Try.prog insRen := {
  mixed := by kernel_rfl
  f21 := Try.func77.trans (congrArg some (by kernel_rfl))
  f27 := Try.func102.trans (congrArg some (by kernel_rfl))
  f28 := Try.func103.trans (congrArg some (by kernel_rfl))
  f35 := Try.func112.trans (congrArg some (by kernel_rfl))
  f39 := Try.func113.trans (congrArg some (by kernel_rfl))
  t0 := Try.underlying0
  a0 := Try.isAgg0
  z0 := Try.sizeOf0
  v0 := Try.zeroValue0
  t3 := Try.underlying3
  a3 := Try.isAgg3
  z3 := Try.sizeOf3
  v3 := Try.zeroValue3
  t4 := Try.underlying4
  a4 := Try.isAgg4
  z4 := Try.sizeOf4
  v4 := Try.zeroValue4
  t22 := Try.underlying22
  a22 := Try.isAgg22
  z22 := Try.sizeOf22
  v22 := Try.zeroValue22
  i3 := by kernel_rfl }
/-- The cells of a block behind a row of stores. -/
theorem Cells.sets {t : TypeId} {B : Nat} : ∀ (vs : List Value) (o : Nat) (W : World) (cs : Array Value), Cells W B t cs → ∃ cs', Cells (W.setCells B o vs) B t cs' ∧ cs'.size = cs.size ∧ ∀ j, cs'[j]? = if o ≤ j ∧ j < o + vs.length ∧ j < cs.size then vs[j - o]? else cs[j]?
  | [], o, W, cs, h => ⟨cs, h, rfl, fun j => by
      rw [if_neg (by simp; omega)]⟩
  | v :: r, o, W, cs, h => by
    obtain ⟨cs', h1, h2, h3⟩ := Cells.sets r (o + 1) (W.setCell ⟨B, o, none⟩ v) _ (h.set o v)
    refine ⟨cs', h1, by rw [h2]; simp, fun j => ?_⟩
    rw [h3 j]
    simp only [Array.size_setIfInBounds, List.length_cons]
    by_cases hj : j = o
    · subst hj
      rw [if_neg (by omega), Array.getElem?_setIfInBounds, if_pos rfl]
      by_cases hs : j < cs.size
      · rw [if_pos hs, if_pos ⟨by omega, by omega, hs⟩]; simp
      · rw [if_neg hs, if_neg (by omega), Array.getElem?_eq_none (by omega)]
    · have hne : (cs.setIfInBounds o v)[j]? = cs[j]? := by rw [Array.getElem?_setIfInBounds]; exact if_neg (fun e => hj e.symm)
      rw [hne]
      by_cases hc : o + 1 ≤ j ∧ j < o + 1 + r.length ∧ j < cs.size
      · rw [if_pos hc, if_pos (by omega), show j - o = (j - (o + 1)) + 1 by omega, List.getElem?_cons_succ]
      · rw [if_neg hc, if_neg (by omega)]
theorem Below.sets {n : Nat} {w : World} {B : Nat} (hB : n ≤ B) : ∀ (vs : List Value) (o : Nat) (W : World), Below n w W → Below n w (W.setCells B o vs)
  | [], _, _, h => h
  | v :: r, o, _, h => Below.sets hB r (o + 1) _ (h.setCell (p := ⟨B, o, none⟩) hB v)
theorem ints_map {l : List Int} {j : Nat} (h : j < l.length) : (l.map (Value.int .i64))[j]? = some (.int .i64 (hz l j)) := by
  rw [List.getElem?_map, List.getElem?_eq_getElem h]
  simp [hz, List.getElem?_eq_getElem h]
/-- A row that is told cell by cell. -/
theorem OwnL.mk {W : World} {base g cap : Nat} {cur : Array Value} {l : List Int} (hbd : ∀ z ∈ l, -9223372036854775808 ≤ z ∧ z ≤ 9223372036854775807) (hb : base ≤ g) (hC : Cells W g 3 cur) (hn : l.length ≤ cap) (hm : cap ≤ maxLen) (hs : cur.size = cap) (h : ∀ j, j < l.length → cur[j]? = some (.int .i64 (hz l j))) :
    OwnL W base (.slice (some ⟨g, 0, none⟩) l.length cap) l := by
  refine ⟨hbd, by simp, .inr ⟨g, cap, cur, rfl, hb, hC, hn, hm, by simpa using hs, ?_⟩⟩
  apply List.ext_getElem?
  intro j
  rw [List.getElem?_take]
  by_cases hj : j < l.length
  · rw [if_pos (by omega), ints_map hj, Array.getElem?_toList, h j hj]
  · rw [if_neg (by omega), List.getElem?_eq_none (by simp; omega)]
theorem insAt_len {l : List Int} {i : Nat} (x : Int) (hi : i ≤ l.length) : (l.take i ++ x :: l.drop i).length = l.length + 1 := by simp; omega
theorem insAt_hz {l : List Int} {i j : Nat} (x : Int) (hi : i ≤ l.length) : hz (l.take i ++ x :: l.drop i) j = if j < i then hz l j else if j = i then x else hz l (j - 1) := by
  have hl : (l.take i).length = i := by simp; omega
  unfold hz
  by_cases h1 : j < i
  · rw [if_pos h1, List.getElem?_append_left (by omega), List.getElem?_take_of_lt h1]
  · rw [if_neg h1, List.getElem?_append_right (by omega), hl]
    by_cases h2 : j = i
    · subst h2; simp
    · rw [if_neg h2, show j - i = (j - i - 1) + 1 by omega, List.getElem?_cons_succ, List.getElem?_drop, show i + (j - i - 1) = j - 1 by omega]
theorem insAt_bd {l : List Int} {i : Nat} {x : Int} (hbd : ∀ z ∈ l, -9223372036854775808 ≤ z ∧ z ≤ 9223372036854775807) (hx : -9223372036854775808 ≤ x ∧ x ≤ 9223372036854775807) : ∀ z ∈ l.take i ++ x :: l.drop i, -9223372036854775808 ≤ z ∧ z ≤ 9223372036854775807 := by
  intro z hz'
  rcases List.mem_append.1 hz' with h | h
  · exact hbd z (List.mem_of_mem_take h)
  · rcases List.mem_cons.1 h with rfl | h
    · exact hx
    · exact hbd z (List.mem_of_mem_drop h)
theorem one_at {W : World} {vb : Nat} {t : TypeId} {x : Int} (hV : Cells W vb t #[.int .i64 x]) : ∀ (j : Nat) (v : Value), [Value.int .i64 x][j]? = some v → W.cell? ⟨vb, 0 + j, none⟩ = some v := by
  intro j v hj
  cases j with
  | zero => simp at hj; subst hj; exact hV.cell 0
  | succ j => simp at hj

set_option maxHeartbeats 4000000 in
set_option maxRecDepth 100000 in
theorem insert_ok (w : World) (base vb vc i : Nat) (t : TypeId) (v : Value) (l : List Int) (x : Int) (hO : OwnL w base v l) (hl : l.length ≤ 1048576) (hbase : base ≤ w.heap.size) (hV : Cells w vb t #[.int .i64 x]) (hx : -9223372036854775808 ≤ x ∧ x ≤ 9223372036854775807) (hne : ∀ j, v.ownBlock = some j → vb ≠ j) (hi : i ≤ l.length) :
    Calls Try.prog 77 #[v, .int .i64 i, .slice (some ⟨vb, 0, none⟩) 1 vc] w fun e w' => ∃ v', e = .returned v' ∧ OwnL w' base v' (l.take i ++ x :: l.drop i) ∧ Below base w w' := by
  obtain ⟨i0, hi0, hz0, hz1, hz2⟩ := info_parts infoI
  have HBD : Hid _ := insAt_bd (i := i) hO.1 hx
  have hv1 := one_at hV
  have h1v : ∀ u ∈ [Value.int .i64 x], u.oneCell' = true := by simp [Value.oneCell']
  by_cases he : i = l.length
  · subst he
    have HT : Hid (l.take l.length ++ x :: l.drop l.length = l ++ [x]) := by simp [Hid]
    have hown := hO.2
    have hlt : ∀ j, v.ownBlock = some j → base ≤ j := fun j hj => (hO.2.lt j hj).1
    have hv2 : ∀ (j : Nat) (u : Value), [Value.int .i64 x][j]? = some u → w.cell? ((⟨vb, 0, none⟩ : Addr).add j) = some u := fun j u hj => by rw [Addr.add_lit]; exact hv1 j u hj
    obtain ⟨so, sc, rfl, _⟩ := hO.ints
    obtain ⟨n, hn⟩ : ∃ n, l.length = n := ⟨_, rfl⟩
    obtain ⟨xs, hxs⟩ : ∃ xs, l.map (Value.int .i64) = xs := ⟨_, rfl⟩
    have hcap : n ≤ sc ∧ sc ≤ 9223372036854775807 := by
      rcases hown.2 with ⟨e, h0⟩ | ⟨g, cap, cur, e, _, _, h1, h2, _⟩
      · simp only [Value.slice.injEq] at e; omega
      · simp only [Value.slice.injEq] at e; unfold maxLen at h2; omega
    rw [hn, hxs] at hown
    rw [hn] at hl hlt hne ⊢
    have HN : Hid _ := hn
    have HX : Hid _ := hxs
    clear hO hV hi hn hxs
    go_enter Try.func77, Try.ntmps77
    go_wp2_with (at_builtin; refine wpList_append_own _ rfl _ _ 22 rfl base 3 i0 (.int .i64 0) 1 8 Try.underlying22 hi0 hz0 hz1 hz2 rfl (by decide) _ _ _ rfl hown ⟨vb, 0, none⟩ 1 vc [.int .i64 x] rfl (by simp) hv2 h1v (by unfold maxLen; omega) (by omega) (by omega) ?_; intro v' w5 hown' hgrow _)
    all_goals (
      go_ret
      refine ⟨_, rfl, ?_, ?_⟩
      · have hb := HBD.out
        rw [HT.out] at hb
        rw [← HN.out, HT.out]
        refine ⟨hb, ?_⟩
        rw [← HX.out, ← HN.out] at hown'
        simpa using hown'
      · exact (Below.refl _ w).grown hgrow hbase (fun j ej => hlt j ej))
  · have hlt : i < l.length := by omega
    rcases hO.2.2 with ⟨e, h0⟩ | ⟨g, cap, cur, rfl, hb, hg, h1, h2, h3, h4⟩
    · omega
    · have hC : Cells w g 3 cur := hg
      have hcs : ∀ j, j < l.length → cur[j]? = some (.int .i64 (hz l j)) := fun j hj => by
        have := ints_map hj
        rw [← h4, List.getElem?_take, if_pos (by omega), Array.getElem?_toList] at this
        exact this
      have hsz : cur.size = cap := by omega
      have hvg : vb ≠ g := hne g rfl
      have hcs' : ∀ (j : Nat) (u : Value), (l.map (Value.int .i64))[j]? = some u → w.cell? ⟨g, 0 + j, none⟩ = some u := fun j u hj => by
        have hj' : j < l.length := by
          rcases Nat.lt_or_ge j l.length with h | h
          · exact h
          · rw [List.getElem?_eq_none (by simp; omega)] at hj; cases hj
        rw [ints_map hj'] at hj
        rw [Nat.zero_add, hC.cell j, hcs j hj', ← hj]
      have h1c : ∀ u ∈ l.map (Value.int .i64), u.oneCell' = true := by intro u hu; obtain ⟨z, _, rfl⟩ := List.mem_map.1 hu; rfl
      by_cases hroom : l.length + 1 ≤ cap
      · have hcon := Any2.slices_Insert_int_shift insLays g 0 l.length cap i vb 0 1 vc (l.map (Value.int .i64)) [.int .i64 x] w hlt (by omega) hroom (by unfold maxLen at h2; omega) hvg (by simp) rfl hcs'
          (fun j hj => by rw [Nat.zero_add, hC.cell j, Array.getElem?_eq_getElem (by omega)]; rfl) (fun j _ => hC.frozen _) hv1 h1c h1v t 3 1 cur.size
          (by simp [World.shape?, show w.heap[vb]? = _ from hV]) (by simp [World.shape?, show w.heap[g]? = _ from hC]) (by omega) (hV.frozen _) (hV.frozen _)
        refine Calls.mono hcon ?_
        rintro e w' ⟨rfl, rfl⟩
        have hCd : Cells w.drew g 3 cur := hC.kept (Below.refl _ w).drew
        obtain ⟨c1, hC1, s1, e1⟩ := Cells.sets ((l.map (Value.int .i64)).drop i) (0 + (i + 1)) w.drew cur hCd
        obtain ⟨c2, hC2, s2, e2⟩ := Cells.sets [.int .i64 x] (0 + i) _ c1 hC1
        refine ⟨_, rfl, ?_, Below.sets hb _ _ _ (Below.sets hb _ _ _ (Below.refl _ w).drew)⟩
        have hln := insAt_len x hi
        rw [← hln]
        refine OwnL.mk HBD.out hb hC2 (by omega) h2 (by omega) fun j hj => ?_
        rw [e2 j, e1 j, insAt_hz x hi]
        simp only [List.length_drop, List.length_map, List.length_singleton, s1]
        by_cases hj1 : j < i
        · rw [if_pos hj1, if_neg (by omega), if_neg (by omega), hcs j (by omega)]
        · rw [if_neg hj1]
          by_cases hj2 : j = i
          · subst hj2
            rw [if_pos rfl, if_pos (by omega)]
            simp
          · rw [if_neg hj2, if_neg (by omega), if_pos (by omega), List.getElem?_drop, show i + (j - (0 + (i + 1))) = j - 1 by omega, ints_map (by omega)]
      · have hcon := Any2.slices_Insert_int_grow insLays g 0 l.length cap i vb 0 1 vc (l.map (Value.int .i64)) [.int .i64 x] w hlt (by omega) (by omega) (by omega) (by omega) (by simp) rfl hcs' hv1 h1c h1v
        refine Calls.mono hcon ?_
        rintro e w' ⟨rfl, rfl⟩
        obtain ⟨gc, hgc⟩ : ∃ gc, grownCap w (l.length + 1) cap (insRen.t 3) = gc := ⟨_, rfl⟩
        have hg1 := grownCap_ge w (l.length + 1) cap (insRen.t 3)
        have hg2 := grownCap_le_maxLen w (l.length + 1) cap (insRen.t 3) (by unfold maxLen; omega)
        rw [hgc] at hg1 hg2 ⊢
        obtain ⟨cz, hcz⟩ : ∃ cz, ((l.map (Value.int .i64)).take i).toArray ++ Builtin.zeroCells (Value.int .i64 0).cells (l.length + 1 - i) ++ Builtin.zeroCells (Value.int .i64 0).cells (gc - (l.length + 1)) = cz := ⟨_, rfl⟩
        have hzc : ∀ n, (Builtin.zeroCells (Value.int .i64 0).cells n).size = n := fun n => by simp [Builtin.zeroCells, Value.cells]
        have hczs : cz.size = gc := by
          rw [← hcz]
          simp [hzc]
          omega
        have hczt : ∀ j, j < i → cz[j]? = some (.int .i64 (hz l j)) := fun j hj => by
          rw [← hcz, Array.append_assoc, Array.getElem?_append_left (by simp; omega)]
          simp only [List.getElem?_toArray]
          rw [List.getElem?_take_of_lt hj, ints_map (by omega)]
        rw [hcz]
        have hC0 : Cells (w.alloc (.cells cz (insRen.t 3))) w.heap.size 3 cz := Cells.new w 3 cz
        have hK0 : Below base w (w.alloc (.cells cz (insRen.t 3))) := (Below.refl _ w).alloc hbase _
        obtain ⟨c1, hC1, s1, e1⟩ := Cells.sets [.int .i64 x] i _ cz (hC0.kept (Below.refl _ _).drew)
        obtain ⟨c2, hC2, s2, e2⟩ := Cells.sets ((l.map (Value.int .i64)).drop i) (i + 1) _ c1 (hC1.kept (Below.refl _ _).drew)
        refine ⟨_, rfl, ?_, Below.sets hbase _ _ _ (Below.drew (Below.sets hbase _ _ _ hK0.drew))⟩
        have hln := insAt_len x hi
        rw [← hln]
        refine OwnL.mk HBD.out hbase hC2 (by omega) hg2 (by omega) fun j hj => ?_
        rw [e2 j, e1 j, insAt_hz x hi]
        simp only [List.length_drop, List.length_map, List.length_singleton, s1, hczs]
        by_cases hj1 : j < i
        · rw [if_pos hj1, if_neg (by omega), if_neg (by omega), hczt j hj1]
        · rw [if_neg hj1]
          by_cases hj2 : j = i
          · subst hj2
            rw [if_pos rfl, if_neg (by omega), if_pos (by omega)]
            simp
          · rw [if_neg hj2, if_pos (by omega), List.getElem?_drop, show i + (j - (i + 1)) = j - 1 by omega, ints_map (by omega)]
end Go.Proofs.Ytjgafhmgmddgdaa
namespace Go.Proofs.Ytjgafhmgmddgdaa
open Go.RowKit Go.Shelf

/-- The number of the first one that is greater, or how many there are. -/
theorem ins_first {l : List Int} {x : Int} {i : Nat} (hi : i ≤ l.length) (hlo : ∀ j, j < i → hz l j ≤ x) (hup : i < l.length → x < hz l i) (hx : x ∉ l) : l.take i ++ x :: l.drop i = insL x l := by
  unfold insL
  have h1 : l.takeWhile (fun y => decide (y < x)) = l.take i := by
    induction l generalizing i with
    | nil => simp
    | cons y l ih =>
      have hy : x ≠ y := fun e => hx (by rw [e]; simp)
      have hx' : x ∉ l := fun h => hx (List.mem_cons_of_mem _ h)
      cases i with
      | zero =>
        have := hup (by simp)
        simp only [hz, List.getElem?_cons_zero, Option.getD_some] at this
        rw [List.takeWhile_cons, if_neg (by simp; omega)]; rfl
      | succ i =>
        have h0 := hlo 0 (by omega)
        simp only [hz, List.getElem?_cons_zero, Option.getD_some] at h0
        rw [List.takeWhile_cons, if_pos (by simp; omega), List.take_succ_cons]
        congr 1
        refine ih (i := i) (by simpa using hi) (fun j hj => ?_) (fun h => ?_) hx'
        · have := hlo (j + 1) (by omega)
          simpa [hz] using this
        · have := hup (by simpa using h)
          simpa [hz] using this
  have h2 : l.dropWhile (fun y => decide (y < x)) = l.drop i := by
    have e := List.takeWhile_append_dropWhile (p := fun y => decide (y < x)) (l := l)
    rw [h1] at e
    exact List.append_cancel_left (e.trans (List.take_append_drop i l).symm)
  rw [h1, h2]
set_option maxHeartbeats 4000000 in
set_option maxRecDepth 100000 in
theorem withF_ok (w : World) (B : Nat) (x p : Int) (hc : w.cell? ⟨B, 0, none⟩ = some (.int .i64 x)) :
    Calls Try.prog 76 #[.int .i64 p, .pointer (some ⟨B, 0, none⟩)] w fun e w' => e = .returned (.bool (decide (x < p))) ∧ w = w' := by
  obtain ⟨r, hr⟩ : ∃ r, decide (x < p) = r := ⟨_, rfl⟩
  rw [hr]
  go_enter Try.func76, Try.ntmps76
  go_wp2_with fail
  go_ret
  exact ⟨rfl, rfl⟩
set_option maxHeartbeats 4000000 in
set_option maxRecDepth 100000 in
theorem intIndexFunc_ok (w : World) (ao : Option Addr) (cap B : Nat) (l : List Int) (x : Int) (hI : Ints w ao l) (hl : l.length ≤ 1048576) (hB : w.cell? ⟨B, 0, none⟩ = some (.int .i64 x)) :
    Calls Try.prog 75 #[.slice ao l.length cap, .func (.func 76) #[] #[.pointer (some ⟨B, 0, none⟩)]] w fun e w' => ∃ r : Int, e = .returned (.int .i64 r) ∧ ((r = -1 ∧ ∀ j, j < l.length → hz l j ≤ x) ∨ ∃ i : Nat, r = (i : Int) ∧ i < l.length ∧ (∀ j, j < i → hz l j ≤ x) ∧ x < hz l i) ∧ Kept w w' := by
  have hBl : B < w.heap.size := World.block_lt_of_cell? _ _ hB
  have HI : Hid _ := hI
  have HB : Hid _ := hB
  clear hI hB
  go_enter Try.func75, Try.ntmps75
  go_wp2_with fail
  go_loopw [8] (fun i wr => ∃ k : Nat, i = .int .i64 k ∧ k ≤ l.length ∧ (∀ j, j < k → hz l j ≤ x) ∧ Kept w wr) (fun i _ => l.length - (intOf i).toNat)
  case atStart => exact ⟨0, rfl, Nat.zero_le _, fun j h => absurd h (by omega), Below.refl _ _⟩
  case round =>
    obtain ⟨k, rfl, hk, hno, hK⟩ := hrel
    have HN : Hid _ := hno
    have HK1 : Hid _ := hK
    clear hno
    by_cases hlt : k < l.length
    · obtain ⟨b, off, rfl, hc⟩ := Ints.at (Ints.kept HI.out hK) (k := k) hlt
      have c0 := hc k hlt
      have hF := withF_ok wr B x (hz l k) ((hK.cell (p := ⟨B, 0, none⟩) hBl).trans HB.out)
      obtain ⟨q, hqq⟩ : ∃ q, hz l k = q := ⟨_, rfl⟩
      rw [hqq] at c0 hF
      have q1 : (k : Int) < (l.length : Int) := by omega
      have q0 : (0 : Int) ≤ (k : Int) := by omega
      have HQ : Hid _ := hqq
      clear hc hK hqq
      by_cases he : x < q
      · rw [decide_eq_true he] at hF
        have HE : Hid _ := he
        clear he
        go_wp2_with fail
        refine hF.mono ?_
        rintro e w1 ⟨rfl, rfl⟩
        go_wp2_with fail
        go_ret
        exact ⟨_, rfl, .inr ⟨k, rfl, hlt, HN.out, by rw [HQ.out]; exact HE.out⟩, HK1.out⟩
      · rw [decide_eq_false he] at hF
        have HE : Hid (q ≤ x) := by rw [Hid]; omega
        clear he
        go_wp2_with fail
        refine hF.mono ?_
        rintro e w1 ⟨rfl, rfl⟩
        go_wp2_with fail
        go_roundw
        case rel => exact ⟨k + 1, by go_num, by omega, fun j hj => by
          rcases Nat.lt_succ_iff_lt_or_eq.1 hj with h | h
          · exact HN.out j h
          · rw [h, HQ.out]; exact HE.out, HK1.out⟩
        case measure => simp [intOf]; omega
    · obtain rfl : k = l.length := by omega
      clear hK
      go_wp2
      go_ret
      exact ⟨_, rfl, .inl ⟨rfl, HN.out⟩, HK1.out⟩
set_option maxHeartbeats 8000000 in
set_option maxRecDepth 100000 in
theorem withPlace_ok (w : World) (ao : Option Addr) (cap : Nat) (l : List Int) (x : Int) (hI : Ints w ao l) (hl : l.length ≤ 1048576) (hn : ao = none → cap = 0) (hx : -9223372036854775808 ≤ x ∧ x ≤ 9223372036854775807) (hxl : x ∉ l) :
    Calls Try.prog 50 #[.slice ao l.length cap, .int .i64 x] w fun e w' => ∃ v, e = .returned v ∧ OwnL w' w.heap.size v (insL x l) ∧ Kept w w' := by
  have hmf : ∀ (fn : Fn) (first cap : Array Value) (w : World), (Instr.makeFunc fn first cap).run Try.prog w = .ok (.func fn first cap) w := fun _ _ _ _ => rfl
  have b0 := Cells.new w 3 #[.int .i64 x]
  have k0 : Kept w (w.alloc (.cells #[.int .i64 x] 3)) := Kept.alloc (Below.refl _ _) _
  have hF := intIndexFunc_ok _ ao cap w.heap.size l x (hI.kept k0) hl (b0.cell 0)
  have HI : Hid _ := hI
  go_enter Try.func50, Try.ntmps50
  go_wp2_with fail
  refine hF.mono ?_
  rintro e w1 ⟨r, rfl, hr, hk1⟩
  have hi : ∃ i : Nat, i ≤ l.length ∧ (∀ j, j < i → hz l j ≤ x) ∧ (i < l.length → x < hz l i) ∧ ((r < 0 ∧ i = l.length) ∨ r = i) := by
    rcases hr with ⟨rfl, h⟩ | ⟨i, rfl, h1, h2, h3⟩
    · exact ⟨l.length, Nat.le_refl _, h, fun h => absurd h (Nat.lt_irrefl _), .inl ⟨by omega, rfl⟩⟩
    · exact ⟨i, by omega, h2, fun _ => h3, .inr rfl⟩
  obtain ⟨i, hi1, hi2, hi3, hi4⟩ := hi
  have HE : Hid (l.take i ++ x :: l.drop i = insL x l) := ins_first hi1 hi2 hi3 hxl
  have B1 := b0.kept hk1
  have K1 := k0.trans hk1
  clear hr hi2 hi3 hF hxl
  have HG : Hid (∀ u, Kept w1 u → Calls Try.prog 60 #[.slice ao l.length cap] u fun e w' => ∃ v, e = .returned v ∧ OwnL w' u.heap.size v l ∧ Kept u w') := fun u hu => copyPlaces_ok u ao cap l (Ints.kept HI.out (K1.trans hu)) hl hn
  have HB1 : Hid (∀ u, Kept w1 u → u.cell? ⟨w.heap.size, 0, none⟩ = some (.int .i64 x)) := fun u hu => (B1.kept hu).cell 0
  have c0 := B1.cell 0
  have hsz1 := K1.size
  have HKw : Hid _ := K1
  have HEi : Hid _ := hi1
  have fin : ∀ (u : World) (v : Value), OwnL u w.heap.size v (l.take i ++ x :: l.drop i) → OwnL u w.heap.size v (insL x l) := fun u v h => by rw [HE.out] at h; exact h
  have HFin : Hid _ := fin
  have ht0 : ((i : Nat) : Int) = (i : Int) := rfl
  clear K1 B1 b0 k0 hk1 fin ht0 hI
  rcases hi4 with ⟨hr0, rfl⟩ | rfl
  · go_wp2_with fail
    have kd0 : Kept w1 w1.drew := (Below.refl _ w1).drew
    have c1 := HB1.out w1.drew kd0
    go_region_held3 (fun u => u.cell? ⟨w.heap.size, 0, none⟩ = some (.int .i64 x))
      (first
        | exact HB1.out _ (by first | assumption | exact kd0 | exact Below.drew (by assumption) | exact Kept.alloc kd0 _ | exact Kept.alloc (by assumption) _ | exact (Kept.alloc (Below.refl _ w1) _).drew)
        | go_keep)
      ((first
        | (go_at_call 60; refine (HG.out _ (by exact kd0)).mono ?_; rintro e w2 ⟨v2, rfl, hO2, hK2⟩; have kq2 : Kept w1 w2 := Kept.trans kd0 hK2; have tokA : True := trivial)
        | (go_at_call 60; refine (HG.out _ (by exact (Kept.alloc (Below.refl _ w1) _).drew)).mono ?_; rintro e w2 ⟨v2, rfl, hO2, hK2⟩; have kq2 : Kept w1 w2 := Kept.trans (Kept.alloc (Below.refl _ w1) _).drew hK2; have tokB : True := trivial)
        | (go_at_call 77; have _t := tokA; refine (insert_ok _ w1.heap.size w2.heap.size _ _ 3 v2 l x (OwnL.kept (row := none) ⟨hO2.1, ownsRow_base hO2.2 (Nat.le_refl _)⟩ (Kept.alloc (Below.refl _ w2) _).grown (fun k e => by cases e)) hl (by have := kq2.size; simp; omega) (Cells.new w2 3 _) hx (fun j hj => by have := (hO2.2.lt j hj).2; omega) hi1).mono ?_; rintro e w3 ⟨v3, rfl, hO3, hK3⟩; have kq3 : Kept w1 w3 := Below.trans kq2 (Below.trans ((Below.refl _ w2).alloc (by have := kq2.size; omega) _) hK3))
        | (go_at_call 77; have _t := tokB; refine (insert_ok w2 w1.heap.size w1.heap.size _ _ 3 v2 l x ⟨hO2.1, ownsRow_base hO2.2 (by simp)⟩ hl kq2.size (Cells.kept (Cells.kept (Cells.new w1 3 #[.int .i64 x]) (Below.refl _ _).drew) hK2) hx (fun j hj => by have := (hO2.2.lt j hj).1; simp at this; omega) hi1).mono ?_; rintro e w3 ⟨v3, rfl, hO3, hK3⟩; have kq3 : Kept w1 w3 := Below.trans kq2 hK3)))
    all_goals (go_wp2_with fail; go_ret; exact ⟨_, rfl, HFin.out _ _ ⟨hO3.1, ownsRow_base hO3.2 hsz1⟩, Below.trans HKw.out (kq3.mono hsz1)⟩)
  · have hr0 : ¬ (i : Int) < 0 := by omega
    go_wp2_with fail
    have kd0 : Kept w1 w1.drew := (Below.refl _ w1).drew
    have c1 := HB1.out w1.drew kd0
    go_region_held3 (fun u => u.cell? ⟨w.heap.size, 0, none⟩ = some (.int .i64 x))
      (first
        | exact HB1.out _ (by first | assumption | exact kd0 | exact Below.drew (by assumption) | exact Kept.alloc kd0 _ | exact Kept.alloc (by assumption) _ | exact (Kept.alloc (Below.refl _ w1) _).drew)
        | go_keep)
      ((first
        | (go_at_call 60; refine (HG.out _ (by exact kd0)).mono ?_; rintro e w2 ⟨v2, rfl, hO2, hK2⟩; have kq2 : Kept w1 w2 := Kept.trans kd0 hK2; have tokA : True := trivial)
        | (go_at_call 60; refine (HG.out _ (by exact (Kept.alloc (Below.refl _ w1) _).drew)).mono ?_; rintro e w2 ⟨v2, rfl, hO2, hK2⟩; have kq2 : Kept w1 w2 := Kept.trans (Kept.alloc (Below.refl _ w1) _).drew hK2; have tokB : True := trivial)
        | (go_at_call 77; have _t := tokA; refine (insert_ok _ w1.heap.size w2.heap.size _ _ 3 v2 l x (OwnL.kept (row := none) ⟨hO2.1, ownsRow_base hO2.2 (Nat.le_refl _)⟩ (Kept.alloc (Below.refl _ w2) _).grown (fun k e => by cases e)) hl (by have := kq2.size; simp; omega) (Cells.new w2 3 _) hx (fun j hj => by have := (hO2.2.lt j hj).2; omega) hi1).mono ?_; rintro e w3 ⟨v3, rfl, hO3, hK3⟩; have kq3 : Kept w1 w3 := Below.trans kq2 (Below.trans ((Below.refl _ w2).alloc (by have := kq2.size; omega) _) hK3))
        | (go_at_call 77; have _t := tokB; refine (insert_ok w2 w1.heap.size w1.heap.size _ _ 3 v2 l x ⟨hO2.1, ownsRow_base hO2.2 (by simp)⟩ hl kq2.size (Cells.kept (Cells.kept (Cells.new w1 3 #[.int .i64 x]) (Below.refl _ _).drew) hK2) hx (fun j hj => by have := (hO2.2.lt j hj).1; simp at this; omega) hi1).mono ?_; rintro e w3 ⟨v3, rfl, hO3, hK3⟩; have kq3 : Kept w1 w3 := Below.trans kq2 hK3)))
    all_goals (go_wp2_with fail; go_ret; exact ⟨_, rfl, HFin.out _ _ ⟨hO3.1, ownsRow_base hO3.2 hsz1⟩, Below.trans HKw.out (kq3.mono hsz1)⟩)
end Go.Proofs.Ytjgafhmgmddgdaa
