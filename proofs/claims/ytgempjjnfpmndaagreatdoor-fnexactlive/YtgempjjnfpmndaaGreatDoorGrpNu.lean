/-
  The map of numbers: the blocks that were met, each with its number (chapter 7).
  The contracts of meet and valuesAt (chapter 7's program).
  The contract of metFrom (chapter 7's program): all blocks that are reached, each with its number.
  The contract of places and of Reach (chapter 7's program).
  How many words the blocks have that a machine's roots reach (chapter 18): impl.Live, spec.Live exactly.
-/
import Derived.Maps.RangeWalk
import Derived.Deep.AppendLies
import Derived.Maps.OwnSet
import Derived.Maps.OwnOps
import Derived.Deep.LoopGhost
import Derived.Sort.OwnSorted
import Derived.Lib.OwnBridge
import Derived.Deep.CutRange
import Derived.Deep.RegionWith
import Derived.Test.YtgempjjnfpmndaaGreatDoorGrpRc
import Derived.Test.YtgempjjnfpmndaaGreatDoorAppA
import Derived.Test.YtgempjjnfpmndaaGreatDoorAppB
import Derived.Test.YtgempjjnfpmndaaGreatDoorShfA
import Derived.Test.YtgempjjnfpmndaaGreatDoorGrpMi
namespace Go.Proofs.YtgempjjnfpmndaaGreatDoor
open Go.RowKit Go.Maps

theorem lawN : Keyed Tryz.prog 3 := int_keyed Tryz.underlying3
/-- The map has just the blocks of out, each with its place there. -/
structure NumIs (D : DataW Unit) (out : List Int) : Prop where
  nodup : out.Nodup
  only : ∀ kl, Maps.has D kl = true → ∃ a : Int, kl = .int .i64 a
  has : ∀ a : Int, Maps.has D (.int .i64 a) = decide (a ∈ out)
  val : ∀ (k : Nat) (a : Int), out[k]? = some a → ∀ z, D.atKey (.int .i64 a) z = .lit (.int .i64 k)
  size : Maps.size D = out.length
theorem NumIs.empty : NumIs (.map []) [] := ⟨List.nodup_nil, fun kl h => by simp [Maps.has] at h, fun a => by simp [Maps.has], fun k a h => by simp at h, rfl⟩
theorem keyN_ne {a b : Int} (h : a ≠ b) : (Lit.int .i64 a) ≠ .int .i64 b := by
  intro e
  injection e with _ e
  exact h e
theorem sameN_key (a b : Int) : (Lit.int .i64 a).sameKey (.int .i64 b) = decide (a = b) := by
  by_cases h : a = b
  · subst h; simp [Lit.sameKey]
  · rw [sameKey_ne (keyN_ne h)]; simp [h]
theorem NumIs.put {D : DataW Unit} {out : List Int} (h : NumIs D out) (ht : Tidy D) {a : Int} (ha : a ∉ out) : NumIs (D.put (.int .i64 a) (.lit (.int .i64 out.length))) (out ++ [a]) where
  nodup := by
    rw [List.nodup_append]
    exact ⟨h.nodup, by simp, fun x hx y hy => by simp at hy; subst hy; intro e; subst e; exact ha hx⟩
  only kl hk := by
    by_cases e : kl = .int .i64 a
    · exact ⟨a, e⟩
    · rw [has_put_other e] at hk; exact h.only kl hk
  has x := by
    by_cases e : x = a
    · subst e; rw [has_put_same ht.isMap (k := .int .i64 x) trivial]; simp
    · rw [has_put_other (keyN_ne e), h.has]; simp [e]
  val k x hx z := by
    by_cases e : x = a
    · subst e
      rw [atKey_put_same ht.isMap (k := .int .i64 x) trivial]
      have hk : k = out.length := by
        rcases Nat.lt_or_ge k out.length with hlt | hge
        · rw [List.getElem?_append_left hlt] at hx
          exact absurd (List.mem_of_getElem? hx) ha
        · have := (List.getElem?_eq_some_iff.1 hx).1
          simp at this
          omega
      rw [hk]
    · rw [atKey_put_other (keyN_ne e)]
      refine h.val k x ?_ z
      rcases Nat.lt_or_ge k out.length with hlt | hge
      · rw [List.getElem?_append_left hlt] at hx; exact hx
      · rw [List.getElem?_append_right hge] at hx
        have := (List.getElem?_eq_some_iff.1 hx).1
        simp at this
        rw [this] at hx
        simp at hx
        exact absurd hx.symm e
  size := by
    rw [size_put ht, h.has, h.size]
    simp [ha]
/-- Block b is a map of the numbers of the blocks of out. -/
def NumMap (w : World) (b : Nat) (out : List Int) : Prop := ∃ (n : Nat) (D : DataW Unit), w.ownsMap Tryz.prog 3 (plainElem Tryz.prog 3) b n D ∧ NumIs D out ∧ n ≤ out.length
theorem NumMap.kept {w w' : World} {b : Nat} {out : List Int} {row : Option Nat} (h : NumMap w b out) (hg : w.grownBy w' row) (hne : some b ≠ row) : NumMap w' b out := by
  obtain ⟨n, D, h1, h2, h3⟩ := h
  exact ⟨n, D, h1.kept hg hne, h2, h3⟩
theorem NumMap.lt {w : World} {b : Nat} {out : List Int} (h : NumMap w b out) : b < w.heap.size := by
  obtain ⟨n, D, h1, h2, h3⟩ := h
  exact h1.lt
/-- The blocks that values lead to and that were not met yet, in order. -/
def newsB (out vs : List Int) : List Int := (meetL out vs).drop out.length
theorem addB_app (out : List Int) (a : Int) : ∃ r, addB out a = out ++ r := by
  unfold addB
  split
  · exact ⟨[a], rfl⟩
  · exact ⟨[], by simp⟩
theorem meetL_app : ∀ (vs out : List Int), ∃ r, meetL out vs = out ++ r
  | [], out => ⟨[], by simp [meetL]⟩
  | v :: vs, out => by
    obtain ⟨r1, h1⟩ := addB_app out (blkV v)
    obtain ⟨r2, h2⟩ := meetL_app vs (addB out (blkV v))
    refine ⟨r1 ++ r2, ?_⟩
    show meetL (addB out (blkV v)) vs = _
    rw [h2, h1, List.append_assoc]
theorem meetL_new (out vs : List Int) : meetL out vs = out ++ newsB out vs := by
  obtain ⟨r, h⟩ := meetL_app vs out
  unfold newsB
  rw [h, List.drop_left]
theorem newsB_nil (out : List Int) : newsB out [] = [] := by simp [newsB, meetL]
theorem newsB_in {out vs : List Int} {v : Int} (h : ¬ (0 ≤ blkV v ∧ blkV v ∉ meetL out vs)) : newsB out (vs ++ [v]) = newsB out vs := by
  unfold newsB
  rw [meetL_snoc, addB, if_neg h]
theorem newsB_yes {out vs : List Int} {v : Int} (h0 : 0 ≤ blkV v) (h : blkV v ∉ meetL out vs) : newsB out (vs ++ [v]) = newsB out vs ++ [blkV v] := by
  unfold newsB
  rw [meetL_snoc, addB, if_pos ⟨h0, h⟩, List.drop_append_of_le_length (meetL_len vs out)]
/-- Values that lead somewhere, if they lead. -/
def LeadsP (zs vs : List Int) : Prop := ∀ v ∈ vs, ¬ v % 8 < 4 → 1 ≤ kindAt zs (v / 8)
theorem LeadsP.leads {zs vs : List Int} (h : LeadsP zs vs) : Leads zs vs := by
  intro v hv h0
  unfold blkV at h0 ⊢
  split
  · rename_i h4; rw [if_pos h4] at h0; omega
  · rename_i h4; exact h v hv h4
theorem leadsP_roots {zs rs : List Int} (h : rootsR zs rs = true) : LeadsP zs rs := by
  intro v hv h4
  unfold rootsR leadAll at h
  simp only [Bool.and_eq_true] at h
  obtain ⟨j, hj, e⟩ := List.getElem_of_mem hv
  have h1 := allR_iff.1 h.2 j hj
  have e1 : hz rs j = v := by unfold hz; rw [List.getElem?_eq_getElem hj]; exact e
  rw [e1] at h1
  have hk := leads_kind h1 (by omega)
  rw [hk]
  unfold wantK
  repeat' split
  all_goals omega
theorem leadsP_slots {zs : List Int} {a : Int} (hh : heapR zs = true) (ha : 1 ≤ kindAt zs a) : LeadsP zs (slotV zs a) := by
  obtain ⟨n, e, _, _, _, b, hb, hbn⟩ := kind_nat ha
  have hf := slots_facts hh hb
  rw [hbn, ← e] at hf
  intro v hv h4
  obtain ⟨i, hi, ei⟩ := List.getElem_of_mem hv
  rw [slotV_len] at hi
  obtain ⟨p, hp, hpl, hok, hk⟩ := hf.2.2 i hi
  have e1 : v = hz zs p := by
    have := slotV_at hi
    rw [hp, Int.toNat_natCast] at this
    rw [← this]
    unfold hz
    rw [List.getElem?_eq_getElem (by rw [slotV_len]; exact hi)]
    exact ei.symm
  rw [e1] at h4 ⊢
  exact hk (by omega)
theorem NumMap.none {w : World} {b : Nat} {out : List Int} (h : NumMap w b out) (o : Nat) : w.cell? ⟨b, o, none⟩ = none := by
  obtain ⟨n, D, ⟨es, clock, hb, _⟩, _⟩ := h
  simp [World.cell?, hb]
theorem Ints.past {W W' : World} {so : Option Addr} {l : List Int} {b : Nat} {out : List Int} (h : Ints W so l) (hN : NumMap W b out) (hg : W.grownBy W' (some b)) : Ints W' so l := by
  refine ⟨h.1, ?_⟩
  rcases h.2 with h | ⟨b1, off, rfl, hc⟩
  · exact .inl h
  · refine .inr ⟨b1, off, rfl, fun j hj => ?_⟩
    have hcj := hc j hj
    refine (hg.cell_far ⟨b1, off + j, none⟩ (World.block_lt_of_cell? _ _ hcj) ?_).trans hcj
    intro e
    have e' : b1 = b := by simpa using e
    rw [e', hN.none] at hcj
    cases hcj
/-- Lists in order that have the same are the same. -/
theorem sorted_same {l m : List Int} (hl : l.Nodup) (hm : m.Nodup) (h : ∀ a, a ∈ l ↔ a ∈ m) : l.mergeSort (fun x y => decide (x ≤ y)) = sortL m := by
  have h1 : (l.mergeSort (fun x y => decide (x ≤ y))).Pairwise (· ≤ ·) := by
    have := List.pairwise_mergeSort (le := fun x y : Int => decide (x ≤ y)) (fun a b c h1 h2 => by simp at h1 h2 ⊢; omega) (fun a b => by simp; omega) l
    exact this.imp (fun h => by simpa using h)
  have h2 : (sortL m).Pairwise (· ≤ ·) := sortF_sorted m List.Pairwise.nil
  have hp : (l.mergeSort (fun x y => decide (x ≤ y))).Perm (sortL m) := by
    refine (List.mergeSort_perm l _).trans (((List.perm_ext_iff_of_nodup hl hm).2 h).trans ?_)
    have key : ∀ (xs out : List Int), (sortF out xs).Perm (out ++ xs) := by
      intro xs
      induction xs with
      | nil => intro out; simp [sortF]
      | cons x xs ih =>
        intro out
        show (sortF (insL x out) xs).Perm _
        refine (ih (insL x out)).trans ?_
        have e := List.takeWhile_append_dropWhile (p := fun y => decide (y < x)) (l := out)
        have p1 : (insL x out).Perm (x :: out) := by
          unfold insL
          refine List.perm_middle.trans ?_
          rw [e]
        have p2 : (insL x out ++ xs).Perm (x :: out ++ xs) := p1.append_right xs
        refine p2.trans ?_
        exact List.perm_middle.symm
    have := key m []
    simpa [sortL] using this.symm
  exact List.Perm.eq_of_pairwise (fun a b _ _ h1 h2 => by omega) h1 h2 hp
end Go.Proofs.YtgempjjnfpmndaaGreatDoor
namespace Go.Proofs.YtgempjjnfpmndaaGreatDoor
open Go.RowKit Go.Maps
attribute [local go_sem] Plain.and7

set_option maxHeartbeats 8000000 in
set_option maxRecDepth 100000 in
theorem valuesAt_ok (w : World) (ao : Option Addr) (cap : Nat) (zs : List Int) (a : Int) (hI : Ints w ao zs) (hl : zs.length ≤ 1048576) (hh : heapR zs = true) (ha : 1 ≤ kindAt zs a) :
    Calls Tryz.prog 85 #[.slice ao zs.length cap, .int .i64 a] w fun e w' => ∃ v, e = .returned v ∧ OwnL w' w.heap.size v (slotV zs a) ∧ Kept w w' := by
  obtain ⟨i0, hi, hz0, hz1, hz2⟩ := info_parts infoI
  obtain ⟨n, en, hn, hg, esl, b, hbm, hbn⟩ := kind_nat ha
  have hls := leads_slots hh ha
  have hL : zs.length * 8 ≤ 140737488351232 := by omega
  have hgl := hg.le
  have hg2 := hg.sz2
  have hgk := hg.kd5
  have HV : Hid (slotV zs a = (slL n (kd zs n) (sz zs n)).map (fun j => hz zs j.toNat)) := by rw [Hid, slotV, esl]
  rw [esl] at hls
  obtain ⟨ss, hss⟩ : ∃ ss, slL n (kd zs n) (sz zs n) = ss := ⟨_, rfl⟩
  rw [hss] at HV hls
  have hml := hls.2.1
  have HLS : Hid (∀ i, i < ss.length → ∃ p : Nat, hz ss i = p ∧ p < zs.length) := hls.2.2
  have hRB := readBlock_good w ao cap zs n hI hg hL
  have hSO := fun (u : World) (hu : Kept w u) => slotsOf_ok u ao cap zs n (sz zs n) (kd zs n) (hI.kept hu) hl hgl hg2 hgk
  rw [hss] at hSO
  have HI : Hid (Ints w ao zs) := hI
  subst en
  clear hI hls hh ha esl hss
  go_enter Tryz.func85, Tryz.ntmps85
  go_wp2_with (first
    | (go_at_call 39; refine hRB.mono ?_; rintro e w1 ⟨rfl, hk1⟩; have kb : Kept w1 (w1.alloc (.cells (bkC n (sz zs n) (kd zs n)) 74)) := Kept.alloc (Below.refl _ _) _; have hS1 := hSO _ (hk1.trans kb); have k1 := hk1.trans kb; have hw1 := k1.size)
    | (go_at_call 133; refine hS1.mono ?_; rintro e w2 ⟨v2, rfl, hO2, hk2⟩; obtain ⟨sa, sc, rfl, hIs⟩ := hO2.ints; have k2 := k1.trans hk2))
  go_loopw [7, 20] (fun v i wr => ∃ (k : Nat), i = .int .i64 k ∧ k ≤ ss.length ∧ wr.ownsRow w2.heap.size 3 1 v ((ss.take k).map (fun j => hz zs j.toNat)).length (((ss.take k).map (fun j => hz zs j.toNat)).map (Value.int .i64)) ∧ Kept w2 wr ∧ w2.heap.size ≤ wr.heap.size)
    (fun _ i _ => ss.length - (intOf i).toNat)
  case atStart => exact ⟨0, rfl, Nat.zero_le _, ⟨by simp, .inl ⟨rfl, rfl⟩⟩, Below.refl _ _, Nat.le_refl _⟩
  case round =>
    obtain ⟨k, rfl, hk, hrow, hK, hsz⟩ := hrel
    have hln : ((ss.take k).map (fun j => hz zs j.toNat)).length = k := by simp; omega
    by_cases hlt : k < ss.length
    · obtain ⟨p, hp, hpl⟩ := HLS.out k hlt
      obtain ⟨b1, o1, rfl, hc1⟩ := Ints.at (hIs.kept hK) hlt
      have c1 := hc1 k hlt
      rw [hp] at c1
      obtain ⟨b2, o2, rfl, hc2⟩ := Ints.at (Ints.kept HI.out (k2.trans hK)) hpl
      have c2 := hc2 p hpl
      have q1 : (k : Int) < (ss.length : Int) := by omega
      have q0 : (0 : Int) ≤ (k : Int) := by omega
      have q2 : (p : Int) < (zs.length : Int) := by omega
      have q3 : (0 : Int) ≤ (p : Int) := by omega
      have HT : Hid ((ss.take (k + 1)).map (fun j => hz zs j.toNat) = (ss.take k).map (fun j => hz zs j.toNat) ++ [hz zs p]) := by rw [Hid, take_hz hlt, List.map_append, hp]; simp
      obtain ⟨xs, hxs⟩ : ∃ xs, (ss.take k).map (fun j => hz zs j.toNat) = xs := ⟨_, rfl⟩
      rw [hxs] at hrow hln HT
      have HK : Hid _ := hK
      clear hc1 hc2 hp hxs hK
      go_wp2_with (first | (at_builtin; refine wpList_append_own _ rfl _ _ 26 rfl w2.heap.size 3 i0 (.int .i64 0) 1 8 Tryz.underlying26 hi hz0 hz1 hz2 rfl (by decide) _ _ _ rfl (hrow.alloc _) ⟨wr.heap.size, 0, none⟩ 1 1 [.int .i64 (hz zs p)] rfl rfl (cell_one_new _ _ _) (by simp [Value.oneCell']) (by unfold maxLen; omega) (by omega) (by simp; omega) ?_; intro v' w5 hown' hgrow _; have kk : Below w2.heap.size wr w5 := ((Below.refl _ wr).alloc hsz _).grown hgrow (by simp; omega) (fun j ej => (hrow.lt j ej).1)))
      go_roundw
      case rel => exact ⟨k + 1, by go_num, by omega, by rw [HT.out]; simpa using hown', Below.trans HK.out (kk.mono (by omega)), Nat.le_trans hsz kk.size⟩
      case measure => simp [intOf]; omega
    · obtain rfl : k = ss.length := by omega
      have HK : Hid _ := hK
      rw [List.take_length] at hrow
      clear hK
      go_wp2
      go_ret
      refine ⟨_, rfl, ?_, k2.trans HK.out⟩
      rw [HV.out]
      refine ⟨fun z hz' => ?_, ownsRow_base hrow k2.size⟩
      obtain ⟨j, hj, rfl⟩ := List.mem_map.1 hz'
      obtain ⟨i, hi', ei⟩ := List.getElem_of_mem hj
      obtain ⟨p, hp, hpl⟩ := HLS.out i hi'
      have e1 : j = p := by rw [← hp, ← ei]; unfold hz; rw [List.getElem?_eq_getElem hi']; rfl
      rw [e1, Int.toNat_natCast]
      exact HI.out.1 _ (hz_mem hpl)
theorem _root_.Go.World.ownsRow.keptOld {W W' : World} {base : Nat} {e : TypeId} {size : Nat} {v : Value} {n b : Nat} {xs : List Value} (h : W.ownsRow base e size v n xs) (hg : W.grownBy W' (some b)) (hb : b < base) : W'.ownsRow base e size v n xs := by
  refine h.kept hg ?_
  cases hv : v.ownBlock with
  | none => exact .inl rfl
  | some j =>
    refine .inr (fun e => ?_)
    have := (h.lt j hv).1
    injection e with e
    omega
theorem _root_.Go.World.ownsRow.notOld {W : World} {base : Nat} {e : TypeId} {size : Nat} {v : Value} {n b : Nat} {xs : List Value} (h : W.ownsRow base e size v n xs) (hb : b < base) : some b ≠ v.ownBlock := by
  intro hv
  have := (h.lt b hv.symm).1
  omega
theorem _root_.Go.World.grownBy.self (w : World) (row : Option Nat) : w.grownBy w row := ⟨rfl, rfl, rfl, Nat.le_refl _, fun _ _ _ => rfl⟩
set_option maxHeartbeats 8000000 in
set_option maxRecDepth 100000 in
theorem meet_ok (w : World) (b : Nat) (va : Option Addr) (vc : Nat) (zs out vs : List Int) (hl : zs.length ≤ 1048576) (hN : NumMap w b out) (hM : Met zs out) (hI : Ints w va vs) (hvl : vs.length ≤ 1048576) (hLd : LeadsP zs vs) :
    Calls Tryz.prog 84 #[.map (some b), .slice va vs.length vc] w fun e w' => ∃ v, e = .returned v ∧ OwnL w' w.heap.size v (newsB out vs) ∧ NumMap w' b (meetL out vs) ∧ w.grownBy w' (some b) := by
  obtain ⟨i0, hi, hz0, hz1, hz2⟩ := info_parts infoI
  have hbw := hN.lt
  have HN0 : Hid (NumMap w b out) := hN
  have HI : Hid (Ints w va vs) := hI
  have HLd : Hid (LeadsP zs vs) := hLd
  have HM0 : Hid (Met zs out) := hM
  have hN0 : NumMap w b (meetL out (vs.take 0)) := by simpa [meetL] using hN
  have n0 : newsB out (vs.take 0) = [] := by simp [newsB, meetL]
  clear hN hI hLd hM
  go_enter Tryz.func84, Tryz.ntmps84
  go_wp2_with fail
  go_loopw [5, 13] (fun v i wr => ∃ (k : Nat), i = .int .i64 k ∧ k ≤ vs.length ∧ wr.ownsRow w.heap.size 3 1 v (newsB out (vs.take k)).length ((newsB out (vs.take k)).map (Value.int .i64)) ∧ NumMap wr b (meetL out (vs.take k)) ∧ w.grownBy wr (some b))
    (fun _ i _ => vs.length - (intOf i).toNat)
  case atStart => exact ⟨0, rfl, Nat.zero_le _, by rw [n0]; exact ⟨by simp, .inl ⟨rfl, rfl⟩⟩, hN0, World.grownBy.self _ _⟩
  case round =>
    obtain ⟨k, rfl, hk, hrow, hN, hG⟩ := hrel
    clear hN0 n0
    have hMk : Met zs (meetL out (vs.take k)) := HM0.out.meet (fun v hv => HLd.out.leads v (List.mem_of_mem_take hv))
    have hml := hMk.len
    have hnl : (newsB out (vs.take k)).length ≤ zs.length := by
      have := congrArg List.length (meetL_new out (vs.take k))
      rw [List.length_append] at this
      omega
    have hsz := hG.size
    by_cases hlt : k < vs.length
    · have hIr := Ints.past HI.out HN0.out hG
      obtain ⟨b1, o1, rfl, hc1⟩ := Ints.at hIr hlt
      have c1 := hc1 k hlt
      have hvb := HI.out.1 _ (hz_mem hlt)
      have hvL := HLd.out _ (hz_mem hlt)
      have HTk : Hid (vs.take (k + 1) = vs.take k ++ [hz vs k]) := take_hz hlt
      obtain ⟨v, hv⟩ : ∃ v, hz vs k = v := ⟨_, rfl⟩
      rw [hv] at c1 hvb hvL HTk
      have q1 : (k : Int) < (vs.length : Int) := by omega
      have q0 : (0 : Int) ≤ (k : Int) := by omega
      have HG : Hid (w.grownBy wr (some b)) := hG
      clear hv hc1 hIr hG
      have hKd := fun (u : World) => impl_Kind_ok v u
      have hNm := fun (u : World) => impl_Num_ok v u hvb.1 hvb.2
      have hLe := fun (u : World) => leads_ok (v % 8) u (by omega)
      by_cases h4 : v % 8 < 4
      · have hd : decide (4 ≤ v % 8) = false := by simp; omega
        rw [hd] at hLe
        have HS : Hid (newsB out (vs.take k ++ [v]) = newsB out (vs.take k) ∧ meetL out (vs.take k ++ [v]) = meetL out (vs.take k)) := by
          have hb : blkV v = -1 := by simp [blkV, h4]
          have hno : ¬ (0 ≤ blkV v ∧ blkV v ∉ meetL out (vs.take k)) := fun h => by rw [hb] at h; omega
          exact ⟨newsB_in hno, by rw [meetL_snoc, addB, if_neg hno]⟩
        clear hd h4 hNm
        go_wp2_with (first | (go_at_call 124; refine (hKd _).mono ?_; rintro e wx ⟨rfl, rfl⟩) | (go_at_call 131; refine (hLe _).mono ?_; rintro e wx ⟨rfl, rfl⟩))
        go_roundw
        case rel => exact ⟨k + 1, by go_num, by omega, by rw [HTk.out, HS.out.1]; exact hrow, by rw [HTk.out, HS.out.2]; exact hN, HG.out⟩
        case measure => simp [intOf]; omega
      · have hd : decide (4 ≤ v % 8) = true := by simp; omega
        rw [hd] at hLe
        have hbv : blkV v = v / 8 := by simp [blkV, h4]
        have hk1 := hvL h4
        obtain ⟨p, hp, hpl, _⟩ := kind_nat hk1
        rw [hp] at hbv hNm
        clear hp hk1
        obtain ⟨n, D, hown, hD, hn⟩ := hN
        have hhas := hD.has ((p : Int))
        by_cases hin : (p : Int) ∈ meetL out (vs.take k)
        · have HS : Hid (newsB out (vs.take k ++ [v]) = newsB out (vs.take k) ∧ meetL out (vs.take k ++ [v]) = meetL out (vs.take k)) := by
            have hno : ¬ (0 ≤ blkV v ∧ blkV v ∉ meetL out (vs.take k)) := fun h => by rw [hbv] at h; exact h.2 hin
            exact ⟨newsB_in hno, by rw [meetL_snoc, addB, if_neg hno]⟩
          have hh : Maps.has D (.int .i64 ((p : Int))) = true := by rw [hhas]; simpa using hin
          have HN : Hid (NumMap wr b (meetL out (vs.take k))) := ⟨n, D, hown, hD, hn⟩
          clear hd h4 hbv hhas hin hD hvL
          go_wp2_with (first | (go_at_call 124; refine (hKd _).mono ?_; rintro e wx ⟨rfl, rfl⟩) | (go_at_call 131; refine (hLe _).mono ?_; rintro e wx ⟨rfl, rfl⟩) | (go_at_call 132; refine (hNm _).mono ?_; rintro e wx ⟨rfl, rfl⟩) | (at_lookup; refine wpList_lookup_own_ok_int _ rfl _ _ 70 rfl 3 3 .i64 lawN Tryz.underlying70 Tryz.underlying3 (Tryz.zeroValue3 _) b n _ rfl hown _ _ rfl (keyOf_int_mk Tryz.underlying3 (WalkArith.wf_i64 (by omega))) ?_; intro c hat hwc; clear hat; rw [hh]))
          go_roundw
          case rel => exact ⟨k + 1, by go_num, by omega, by rw [HTk.out, HS.out.1]; exact hrow, by rw [HTk.out, HS.out.2]; exact HN.out, HG.out⟩
          case measure => simp [intOf]; omega
        · have HS : Hid (newsB out (vs.take k ++ [v]) = newsB out (vs.take k) ++ [(p : Int)] ∧ meetL out (vs.take k ++ [v]) = meetL out (vs.take k) ++ [(p : Int)]) := by
            have h0 : 0 ≤ blkV v := by rw [hbv]; omega
            have hni : blkV v ∉ meetL out (vs.take k) := by rw [hbv]; exact hin
            refine ⟨by rw [newsB_yes h0 hni, hbv], by rw [meetL_snoc, addB, if_pos ⟨h0, hni⟩, hbv]⟩
          have hh : Maps.has D (.int .i64 ((p : Int))) = false := by rw [hhas]; simpa using hin
          have HP : Hid (NumIs (D.put (.int .i64 ((p : Int))) (.lit (.int .i64 (meetL out (vs.take k)).length))) (meetL out (vs.take k) ++ [(p : Int)])) := hD.put (hown.tidy lawN) hin
          have hds := hD.size
          obtain ⟨cur, hcur⟩ : ∃ cur, meetL out (vs.take k) = cur := ⟨_, rfl⟩
          obtain ⟨nw, hnw⟩ : ∃ nw, newsB out (vs.take k) = nw := ⟨_, rfl⟩
          rw [hcur] at HP HS hds hn hml
          rw [hnw] at HS hrow hnl
          have HDS : Hid (Maps.size D = cur.length) := hds
          clear hd h4 hbv hhas hin hD hvL hMk hcur hnw hds
          go_wp2_with (first | (go_at_call 124; refine (hKd _).mono ?_; rintro e wx ⟨rfl, rfl⟩) | (go_at_call 131; refine (hLe _).mono ?_; rintro e wx ⟨rfl, rfl⟩) | (go_at_call 132; refine (hNm _).mono ?_; rintro e wx ⟨rfl, rfl⟩) | (at_lookup; refine wpList_lookup_own_ok_int _ rfl _ _ 70 rfl 3 3 .i64 lawN Tryz.underlying70 Tryz.underlying3 (Tryz.zeroValue3 _) b n _ rfl hown _ _ rfl (keyOf_int_mk Tryz.underlying3 (WalkArith.wf_i64 (by omega))) ?_; intro c hat hwc; clear hat; rw [hh]) | (at_len; refine wpList_len_own _ rfl _ 70 rfl 3 3 Tryz.underlying70 _ b n _ rfl hown ?_; rw [HDS.out]) | (at_mapUpdate; refine wpList_mapUpdate_own _ rfl _ _ _ 70 rfl 3 3 lawN Tryz.underlying70 _ b n _ rfl hown (by unfold maxLen; omega) _ _ _ rfl rfl (keyOf_int_mk Tryz.underlying3 (WalkArith.wf_i64 (by omega))) _ [] (plainElem_int Tryz.underlying3 (WalkArith.wf_i64 (by omega))) ?_; intro w2 hown2 hg2; have hrow2 := hrow.keptOld hg2 hbw; have hsz2 := hg2.size) | (at_builtin; refine wpList_append_own _ rfl _ _ 26 rfl w.heap.size 3 i0 (.int .i64 0) 1 8 Tryz.underlying26 hi hz0 hz1 hz2 rfl (by decide) _ _ _ rfl (hrow2.alloc _) ⟨w2.heap.size, 0, none⟩ 1 1 [.int .i64 ((p : Int))] rfl rfl (cell_one_new _ _ _) (by simp [Value.oneCell']) (by unfold maxLen; omega) (by omega) (by simp; omega) ?_; intro v' w5 hown' hgrow _))
          have hgr5 : w.grownBy w5 (some b) := ((HG.out.andThen hg2 (fun j hj => .inr hj)).andThen (World.grownBy_alloc w2 _ none) (fun j hj => by cases hj)).andThen hgrow (fun j ej => .inl (hrow2.lt j ej).1)
          have hN5 : NumMap w5 b (cur ++ [(p : Int)]) := ⟨n + 1, _, (hown2.alloc _).kept hgrow (hrow2.notOld hbw), HP.out, by simp; omega⟩
          go_roundw
          case rel =>
            refine ⟨k + 1, by go_num, by omega, ?_, ?_, hgr5⟩
            · rw [HTk.out, HS.out.1]; simpa using hown'
            · rw [HTk.out, HS.out.2]; exact hN5
          case measure => simp [intOf]; omega
    · obtain rfl : k = vs.length := by omega
      rw [List.take_length] at hrow hN hMk
      have HN : Hid (NumMap wr b (meetL out vs)) := hN
      have HG : Hid (w.grownBy wr (some b)) := hG
      have HB : Hid _ := hMk.bd hl
      clear hN hG
      go_wp2
      go_ret
      refine ⟨_, rfl, ⟨fun z hz => HB.out z ?_, hrow⟩, HN.out, HG.out⟩
      rw [meetL_new]
      exact List.mem_append_right _ hz
end Go.Proofs.YtgempjjnfpmndaaGreatDoor
namespace Go.Proofs.YtgempjjnfpmndaaGreatDoor
open Go.RowKit Go.Maps
attribute [local go_sem] Plain.and7

theorem OwnL.lies {W : World} {base : Nat} {v : Value} {l : List Int} (h : OwnL W base v l) : Lies W v (l.map (Value.int .i64)) := by
  obtain ⟨hl, h2⟩ := h.2
  simp only [List.length_map, Nat.mul_one] at hl
  rcases h2 with ⟨rfl, h0⟩ | ⟨g, cap, cur, rfl, hb, hgg, rest⟩
  · refine .inl ⟨rfl, ?_⟩
    rw [List.eq_nil_of_length_eq_zero h0]
    rfl
  · refine .inr ⟨⟨g, 0, none⟩, cap, by rw [List.length_map], ?_⟩
    exact h.2.cells rfl
theorem ints_one (l : List Int) : ∀ u ∈ l.map (Value.int .i64), u.oneCell' = true := by
  intro u hu
  obtain ⟨z, _, rfl⟩ := List.mem_map.1 hu
  rfl
set_option maxHeartbeats 8000000 in
set_option maxRecDepth 100000 in
theorem metFrom_ok (w : World) (ao ro : Option Addr) (cap rc : Nat) (zs rs : List Int) (hI : Ints w ao zs) (hl : zs.length ≤ 1048576) (hR : Ints w ro rs) (hrl : rs.length ≤ 1048576) (hr : rootsR zs rs = true) :
    Calls Tryz.prog 36 #[.slice ao zs.length cap, .slice ro rs.length rc] w fun e w' => ∃ b, e = .returned (.map (some b)) ∧ w.heap.size ≤ b ∧ NumMap w' b (ordL zs rs) ∧ Kept w w' := by
  obtain ⟨i0, hi, hz0, hz1, hz2⟩ := info_parts infoI
  have hmm := @run_makeMap Tryz.prog
  have hh : heapR zs = true := by
    unfold rootsR at hr
    simp only [Bool.and_eq_true] at hr
    exact hr.1
  have k0 : Kept w (w.alloc (.map #[] 0)) := Kept.alloc (Below.refl _ _) _
  have m0 : NumMap (w.alloc (.map #[] 0)) w.heap.size [] := ⟨0, _, World.ownsMap_made _ _ _ _, NumIs.empty, Nat.le_refl _⟩
  have M0 : Met zs [] := ⟨List.nodup_nil, by simp⟩
  have hMe := meet_ok _ w.heap.size ro rc zs [] rs hl m0 M0 (hR.kept k0) hrl (leadsP_roots hr)
  have M1 : Met zs (meetL [] rs) := M0.meet (leads_roots hr)
  have HH : Hid _ := hh
  have HI : Hid (Ints w ao zs) := hI
  clear hr hh hR hI m0 M0
  go_enter Tryz.func36, Tryz.ntmps36
  go_wp2_with (go_at_call 84; refine hMe.mono ?_; rintro e w1 ⟨v1, rfl, hO1, hN1, hg1⟩)
  have k1 : Kept w w1 := Below.grown k0 hg1 (by simp) (fun j ej => by cases ej; exact Nat.le_refl _)
  have hs1 : w.heap.size + 1 ≤ w1.heap.size := by have := hg1.size; simp at this; omega
  have o1 : OwnAt w1 (w.heap.size + 1) 3 v1 (((meetL [] rs).drop 0).map (Value.int .i64)) := by
    have := OwnAt.of hO1.2
    have e : newsB [] rs = (meetL [] rs).drop 0 := by simp [newsB]
    rw [e] at this
    simpa using this
  clear hMe hmm k0 hO1 hg1
  go_loopg [6, 7] (zs.length + 1) (fun n v f wr => ∃ (k : Nat) (out : List Int), n + k = zs.length + 1 ∧ ordL zs rs = ordF zs n k out ∧ Met zs out ∧ k ≤ out.length ∧ OwnAt wr (w.heap.size + 1) 3 v ((out.drop k).map (Value.int .i64)) ∧ NumMap wr w.heap.size out ∧ Kept w wr ∧ w.heap.size + 1 ≤ wr.heap.size)
  case atStart => exact ⟨0, meetL [] rs, by omega, rfl, M1, Nat.zero_le _, o1, hN1, k1, hs1⟩
  case round =>
    obtain ⟨k, out, hnk, hord, hM, hk, hO, hN, hK, hsz⟩ := hrel
    clear M1 o1 hN1 k1
    have hml := hM.len
    by_cases hlt : k < out.length
    · have hda : out.drop k = hz out k :: out.drop (k + 1) := by
        rw [List.drop_eq_getElem_cons hlt]
        unfold hz
        rw [List.getElem?_eq_getElem hlt]
        rfl
      obtain ⟨a, ha⟩ : ∃ a, hz out k = a := ⟨_, rfl⟩
      have hka : 1 ≤ kindAt zs a := by rw [← ha]; exact hM.2 _ (hz_mem hlt)
      rw [ha] at hda
      have hsome : out[k]? = some a := by rw [← ha]; unfold hz; rw [List.getElem?_eq_getElem hlt]; rfl
      obtain ⟨n', rfl⟩ : ∃ n', gk = n' + 1 := ⟨gk - 1, by omega⟩
      have Hord : Hid (ordL zs rs = ordF zs n' (k + 1) (meetL out (slotV zs a))) := by rw [Hid, hord, ordF_on hsome]
      have hls := leads_slots HH.out hka
      have HM2 : Hid (Met zs (meetL out (slotV zs a))) := hM.meet hls.1
      have hsl : (slotV zs a).length ≤ zs.length := by rw [slotV_len]; exact hls.2.1
      have HD : Hid (out.drop (k + 1) ++ newsB out (slotV zs a) = (meetL out (slotV zs a)).drop (k + 1)) := by rw [Hid, meetL_new out (slotV zs a), List.drop_append_of_le_length hlt]
      rw [hda, List.map_cons] at hO
      have hlr : (out.drop (k + 1)).length ≤ 1048576 := by rw [List.length_drop]; omega
      obtain ⟨rest, hrest⟩ : ∃ rest, out.drop (k + 1) = rest := ⟨_, rfl⟩
      rw [hrest] at hO HD hlr
      rcases (id hO) with ⟨_, h⟩ | ⟨g, off, cp, cur, rfl, hbg, hgg, h1, h2, h3, ht⟩
      · cases h
      simp only [List.length_cons, List.length_map] at hO ⊢
      have hnl : (newsB out (slotV zs a)).length ≤ 1048576 := by
        have := congrArg List.length (meetL_new out (slotV zs a))
        rw [List.length_append] at this
        have := HM2.out.len
        omega
      have c0 : wr.cell? ⟨g, off, none⟩ = some (.int .i64 a) := by
        have := OwnAt.cell (xs := Value.int .i64 a :: rest.map (Value.int .i64)) (by simpa using hO) 0 (.int .i64 a) rfl
        simpa using this
      have hgw := (Array.getElem?_eq_some_iff.1 hgg).1
      have HVA : Hid _ := fun (u : World) (hu : Kept w u) => valuesAt_ok u ao cap zs a (Ints.kept HI.out hu) hl HH.out hka
      have HME : Hid _ := fun (u : World) (va : Option Addr) (vc : Nat) (hu : NumMap u w.heap.size out) (hv : Ints u va (slotV zs a)) => meet_ok u w.heap.size va vc zs out (slotV zs a) hl hu hM hv (by omega) (leadsP_slots HH.out hka)
      have HK : Hid (Kept w wr) := hK
      have HN : Hid (NumMap wr w.heap.size out) := hN
      have HO : Hid (OwnAt wr (w.heap.size + 1) 3 (.slice (some ⟨g, off, none⟩) (rest.length + 1) cp) (.int .i64 a :: rest.map (Value.int .i64))) := hO
      have HCP : Hid (rest.length + 1 ≤ cp ∧ cp ≤ maxLen) := ⟨by simpa using h1, h2⟩
      clear hda ha hka hsome hord hls hrest hK hN hO hM h1 h2 h3 ht hgg
      have z1 : (0 : Int) < (rest.length : Int) + 1 := by omega
      have hcp1 : rest.length + 1 ≤ cp := HCP.out.1
      have hcp2 : cp ≤ 9223372036854775807 := by have := HCP.out.2; unfold maxLen at this; omega
      by_cases hc1 : cp = 1
      · obtain rfl : rest = [] := List.eq_nil_of_length_eq_zero (by omega)
        subst hc1
        simp only [List.length_nil, Nat.zero_add, List.map_nil] at HO ⊢
        go_wp2_with (first | (go_at_call 85; refine (HVA.out _ HK.out).mono ?_; rintro e w2 ⟨v2, rfl, hO2, hk2⟩; obtain ⟨sa, sc, rfl, hI2⟩ := hO2.ints; have hN2 := HN.out.kept hk2.grown (by simp)) | (go_at_call 84; refine (HME.out _ sa sc hN2 hI2).mono ?_; rintro e w3 ⟨v3, rfl, hO3, hN3, hg3⟩; have HO3 : Hid (OwnL w3 w2.heap.size v3 (newsB out (slotV zs a))) := hO3; have hT := OwnAt.tail0 ((HO.out.kept hk2.grown (fun k e => by simp)).kept hg3 (fun k e e' => by injection e' with e'; have := (HO.out.lt k e).1; omega)); have hs3 : w.heap.size + 1 ≤ w3.heap.size := Nat.le_trans hsz (Nat.le_trans hk2.size hg3.size); clear hO3) | (at_builtin; refine wpList_append_at rfl _ _ 26 rfl (w.heap.size + 1) 3 i0 (.int .i64 0) 8 Tryz.underlying26 hi hz0 hz1 hz2 rfl _ _ rfl hT _ _ rfl (OwnL.lies HO3.out) (ints_one _) (by simp only [List.length_map, List.length_nil]; unfold maxLen; omega) (by simp only [List.length_map, List.length_nil]; omega) hs3 ?_; intro v' w4 hO5 hg4))
        have hrow4 : ∀ j, (Value.slice (some ⟨g, off, none⟩) 0 0).ownBlock = some j → w.heap.size + 1 ≤ j := fun j ej => (hT.lt j ej).1
        have K2 : Kept w w2 := Kept.trans HK.out hk2
        have K3 : Kept w w3 := Below.grown K2 hg3 K2.size (fun j ej => by cases ej; exact Nat.le_refl _)
        have K4 : Kept w w4 := Below.grown K3 hg4 K3.size (fun j ej => by have := hrow4 j ej; omega)
        have hN4 : NumMap w4 w.heap.size (meetL out (slotV zs a)) := hN3.kept hg4 (fun ej => by have := hrow4 w.heap.size ej.symm; omega)
        go_roundg n'
        case measure => omega
        case rel =>
          refine ⟨k + 1, meetL out (slotV zs a), by omega, Hord.out, HM2.out, ?_, ?_, hN4, K4, Nat.le_trans hs3 hg4.size⟩
          · have := meetL_len (slotV zs a) out
            omega
          · rw [← HD.out, List.nil_append]
            exact hO5
      · go_wp2_with (first | (go_at_call 85; refine (HVA.out _ HK.out).mono ?_; rintro e w2 ⟨v2, rfl, hO2, hk2⟩; obtain ⟨sa, sc, rfl, hI2⟩ := hO2.ints; have hN2 := HN.out.kept hk2.grown (by simp)) | (go_at_call 84; refine (HME.out _ sa sc hN2 hI2).mono ?_; rintro e w3 ⟨v3, rfl, hO3, hN3, hg3⟩; have HO3 : Hid (OwnL w3 w2.heap.size v3 (newsB out (slotV zs a))) := hO3; have hT : OwnAt w3 (w.heap.size + 1) 3 (.slice (some ⟨g, off + 1, none⟩) rest.length (cp - 1)) (rest.map (Value.int .i64)) := (by have hq := OwnAt.tail (xs := rest.map (Value.int .i64)) (by rw [List.length_map]; exact (HO.out.kept hk2.grown (fun k e => by simp)).kept hg3 (fun k e e' => by injection e' with e'; have := (HO.out.lt k e).1; omega)); rw [List.length_map] at hq; exact hq); have hs3 : w.heap.size + 1 ≤ w3.heap.size := Nat.le_trans hsz (Nat.le_trans hk2.size hg3.size); clear hO3) | (at_builtin; refine wpList_append_at rfl _ _ 26 rfl (w.heap.size + 1) 3 i0 (.int .i64 0) 8 Tryz.underlying26 hi hz0 hz1 hz2 rfl _ _ rfl hT _ _ rfl (OwnL.lies HO3.out) (ints_one _) (by simp only [List.length_map]; unfold maxLen; omega) (by simp only [List.length_map]; omega) hs3 ?_; intro v' w4 hO5 hg4))
        have hrow4 : ∀ j, (Value.slice (some ⟨g, off + 1, none⟩) rest.length (cp - 1)).ownBlock = some j → w.heap.size + 1 ≤ j := fun j ej => (hT.lt j ej).1
        have K2 : Kept w w2 := Kept.trans HK.out hk2
        have K3 : Kept w w3 := Below.grown K2 hg3 K2.size (fun j ej => by cases ej; exact Nat.le_refl _)
        have K4 : Kept w w4 := Below.grown K3 hg4 K3.size (fun j ej => by have := hrow4 j ej; omega)
        have hN4 : NumMap w4 w.heap.size (meetL out (slotV zs a)) := hN3.kept hg4 (fun ej => by have := hrow4 w.heap.size ej.symm; omega)
        go_roundg n'
        case measure => omega
        case rel =>
          refine ⟨k + 1, meetL out (slotV zs a), by omega, Hord.out, HM2.out, ?_, ?_, hN4, K4, Nat.le_trans hs3 hg4.size⟩
          · have := meetL_len (slotV zs a) out
            omega
          · rw [← HD.out, List.map_append]
            exact hO5
    · obtain rfl : k = out.length := by omega
      have HE : Hid (ordL zs rs = out) := by rw [Hid, hord, ordF_end (Nat.le_refl _)]
      have HN : Hid (NumMap wr w.heap.size out) := hN
      have HK : Hid (Kept w wr) := hK
      rw [List.drop_length, List.map_nil] at hO
      clear hord hN hK
      rcases hO with ⟨rfl, _⟩ | ⟨g, off, cp, cur, rfl, _⟩
      · go_wp2
        go_ret
        exact ⟨_, rfl, Nat.le_refl _, by rw [HE.out]; exact HN.out, HK.out⟩
      · simp only [List.length_nil]
        go_wp2
        go_ret
        exact ⟨_, rfl, Nat.le_refl _, by rw [HE.out]; exact HN.out, HK.out⟩
end Go.Proofs.YtgempjjnfpmndaaGreatDoor
namespace Go.Proofs.YtgempjjnfpmndaaGreatDoor
open Go.RowKit Go.Maps
open Go.Sort (Holds putRow grow putCells mapBlock onCells heap_grow_old)
attribute [local go_sem] Plain.and7

/-- The keys that were met so far. -/
def Got (out : List Int) (left : Lit → Bool) (l : List Int) : Prop := l.Nodup ∧ ∀ a, a ∈ l ↔ (a ∈ out ∧ left (.int .i64 a) = false)
theorem Got.start {D : DataW Unit} {out : List Int} (h : NumIs D out) : Got out (Maps.has D) [] := ⟨List.nodup_nil, fun a => by rw [h.has]; simp⟩
theorem Got.step {out l : List Int} {left : Lit → Bool} (h : Got out left l) {x : Int} (hx : x ∈ out) (hl : left (.int .i64 x) = true) : Got out (fun z => left z && !z.sameKey (.int .i64 x)) (l ++ [x]) := by
  refine ⟨?_, fun a => ?_⟩
  · rw [List.nodup_append]
    refine ⟨h.1, by simp, fun y hy z hz e => ?_⟩
    simp at hz
    subst hz
    subst e
    have := ((h.2 y).1 hy).2
    rw [hl] at this
    cases this
  · simp only [List.mem_append, List.mem_singleton, sameN_key, Bool.and_eq_false_iff, Bool.not_eq_false', decide_eq_true_eq]
    rw [h.2]
    constructor
    · rintro (⟨h1, h2⟩ | rfl)
      · exact ⟨h1, .inl h2⟩
      · exact ⟨hx, .inr rfl⟩
    · rintro ⟨h1, h2 | h2⟩
      · exact .inl ⟨h1, h2⟩
      · exact .inr h2
theorem Got.len {out l : List Int} {left : Lit → Bool} (h : Got out left l) (ho : out.Nodup) : l.length ≤ out.length := by
  have hp : l.Perm (out.filter fun a => !left (.int .i64 a)) := (List.perm_ext_iff_of_nodup h.1 (ho.filter _)).2 (fun a => by rw [h.2]; simp)
  rw [hp.length_eq]
  exact List.length_filter_le _ _
theorem NumIs.met {D : DataW Unit} {out : List Int} (h : NumIs D out) {x c : Int} (hat : ∀ zd, D.atKey (.int .i64 x) zd = .lit (.int .i64 c)) : x ∈ out ∧ ∃ k : Nat, c = k ∧ out[k]? = some x := by
  have hh := has_true_of_atKey hat
  rw [h.has] at hh
  have hx : x ∈ out := by simpa using hh
  obtain ⟨k, hk, e⟩ := List.getElem_of_mem hx
  have hs : out[k]? = some x := by rw [List.getElem?_eq_getElem hk, e]
  refine ⟨hx, k, ?_, hs⟩
  have := h.val k x hs (.map [])
  rw [hat] at this
  injection this with this
  injection this
theorem sorted_row {W : World} {base g cap n : Nat} {os : Array Obj} {cur : Array Value} {ss ts : List Int} (hl : ts.length = ss.length) (hbase : base ≤ g) (hb : W.heap[g]? = some (.cells cur 3 (0, 0)))
    (h1 : ss.length ≤ cap) (h2 : cap ≤ maxLen) (h3 : cur.size = cap * 1) :
    (grow (putRow (Value.int .i64) (Sort.ahead W n) g 0 ts.toArray) os).ownsRow base 3 1 (.slice (some ⟨g, 0, none⟩) ss.length cap) ss.length (ts.map (Value.int .i64)) := by
  have hg : g < W.heap.size := (Array.getElem?_eq_some_iff.1 hb).1
  refine ⟨by simp [hl], .inr ⟨g, cap, putCells (Value.int .i64) 0 ts.toArray cur, rfl, hbase, ?_, h1, h2, by simp [putCells, h3], ?_⟩⟩
  · rw [heap_grow_old _ _ (by simpa using hg)]
    simp [putRow, mapBlock, Sort.ahead, Array.getElem?_modify, hb, onCells]
  · rw [Nat.mul_one, ← hl]
    apply List.ext_getElem?
    intro j
    by_cases hj : j < ts.length
    · rw [List.getElem?_take_of_lt hj, Array.getElem?_toList]
      simp [putCells, hj, show j < cur.size by omega]
    · rw [List.getElem?_take_eq_none (by omega), List.getElem?_eq_none (by simp; omega)]
theorem sorted_grown {W : World} {g n : Nat} {os : Array Obj} (d : Array Int) : W.grownBy (grow (putRow (Value.int .i64) (Sort.ahead W n) g 0 d) os) (some g) := by
  refine ⟨rfl, rfl, rfl, by simp, fun k hk hne => ?_⟩
  rw [heap_grow_old _ _ (by simpa using hk)]
  have : g ≠ k := fun e => hne (by rw [e])
  simp [putRow, mapBlock, Sort.ahead, Array.getElem?_modify, this]
set_option maxHeartbeats 8000000 in
set_option maxRecDepth 100000 in
theorem places_ok (w : World) (b : Nat) (out : List Int) (hol : out.length ≤ 1048576) (hob : ∀ a ∈ out, -9223372036854775808 ≤ a ∧ a ≤ 9223372036854775807) (hN : NumMap w b out) :
    Calls Tryz.prog 38 #[.map (some b)] w fun e w' => ∃ v, e = .returned v ∧ OwnL w' w.heap.size v (sortL out) ∧ Kept w w' := by
  obtain ⟨i0, hi, hz0, hz1, hz2⟩ := info_parts infoI
  obtain ⟨n, D, hown, hD, hn⟩ := hN
  have hbw := hown.lt
  go_enter Tryz.func38, Tryz.ntmps38
  go_wp2_with (first
    | (at_range; refine wpList_range_own _ rfl _ 70 rfl 3 3 lawN Tryz.underlying70 _ b n _ rfl hown ?_; intro w0 hrg0 hg0 hs0)
    | go_in)
  go_frame
  go_loopw [3, 4] (fun v _ wr => ∃ (left : Lit → Bool) (cnt : Nat) (l : List Int), wr.ranges Tryz.prog 3 (plainElem Tryz.prog 3) b w.heap.size n D left cnt ∧ Got out left l ∧ wr.ownsRow (w.heap.size + 1) 3 1 v l.length (l.map (Value.int .i64)) ∧ Kept w wr ∧ w.heap.size + 1 ≤ wr.heap.size)
    (fun _ _ wr => wr.rangeLeft b w.heap.size)
  case atStart => exact ⟨_, _, [], hrg0, Got.start hD, ⟨by simp, .inl ⟨rfl, rfl⟩⟩, (Below.refl _ _).grown hg0 (Nat.le_refl _) (by simp), by omega⟩
  case round =>
    obtain ⟨left, cnt, l, hrg, hL, hrow, hK, hsz⟩ := hrel
    have hll := hL.len hD.nodup
    go_wp2_with (first
      | (at_next; refine wpList_next_ranges_ii _ rfl _ rfl 3 3 .i64 .i64 lawN Tryz.underlying3 Tryz.underlying3 b w.heap.size n _ _ _ rfl hrg ?_ ?_)
      | go_in)
    · intro _ hl0
      have hmem : ∀ a, a ∈ l ↔ a ∈ out := fun a => by rw [hL.2, hl0]; simp
      have HS : Hid (l.mergeSort (fun x y => decide (x ≤ y)) = sortL out) := sorted_same hL.1 hD.nodup hmem
      have HB : Hid (∀ z ∈ sortL out, -9223372036854775808 ≤ z ∧ z ≤ 9223372036854775807) := fun z hz => hob z (by
        have := (mem_sortF out []).1 hz
        simpa using this)
      have HK : Hid (Kept w wr) := hK
      have hll2 : l.length ≤ 1048576 := by omega
      clear hl0 hmem hK hL hD hob hn hrg hrg0
      rcases (id hrow.2) with ⟨rfl, h0⟩ | ⟨g, cap, cur, rfl, hbg, hgg, hnc, hcm, hcs, htk⟩
      · obtain rfl : l = [] := List.eq_nil_of_length_eq_zero h0
        go_wp2_with (go_at_call 87; refine (lib_slices_Sort_int_none none 0 _).mono ?_; rintro e wx ⟨rfl, rfl⟩)
        go_ret
        refine ⟨_, rfl, ⟨HB.out, ?_⟩, HK.out⟩
        rw [← HS.out, List.mergeSort_nil]
        exact ⟨by simp, .inl ⟨rfl, rfl⟩⟩
      · have hgw := (Array.getElem?_eq_some_iff.1 hgg).1
        have hH : Holds (Value.int .i64) wr g 0 l.toArray := by
          obtain ⟨g', cap', e1, _, _, _, _, _, hH⟩ := Lib.holds_of_ownsRow hrow (by simp)
          cases e1
          exact hH
        have hSrt := lib_slices_Sort_int g 0 cap l wr hH hgw (by omega)
        have HR : Hid (∀ nn os, (grow (putRow (Value.int .i64) (Sort.ahead wr nn) g 0 (l.mergeSort fun x y => decide (x ≤ y)).toArray) os).ownsRow (w.heap.size + 1) 3 1 (.slice (some ⟨g, 0, none⟩) l.length cap) l.length ((l.mergeSort fun x y => decide (x ≤ y)).map (Value.int .i64))) := fun nn os => sorted_row (by simp) hbg hgg hnc hcm hcs
        obtain ⟨ts, hts⟩ : ∃ ts, (l.mergeSort fun x y => decide (x ≤ y)) = ts := ⟨_, rfl⟩
        have HTL : Hid (ts.length = l.length) := by rw [Hid, ← hts]; simp
        rw [hts] at hSrt HR HS
        have HG : Hid (∀ nn os, wr.grownBy (grow (putRow (Value.int .i64) (Sort.ahead wr nn) g 0 ts.toArray) os) (some g)) := fun nn os => sorted_grown _
        have HBG : Hid (w.heap.size + 1 ≤ g) := hbg
        clear hH hrow hts hcs htk hgg hnc hcm
        go_wp2_with (go_at_call 87; refine hSrt.mono ?_; rintro e wx ⟨rfl, nn, os, rfl⟩)
        go_ret
        have K2 : Kept w (grow (putRow (Value.int .i64) (Sort.ahead wr nn) g 0 ts.toArray) os) := Below.grown HK.out (HG.out nn os) (HK.out).size (fun j ej => by cases ej; have := HBG.out; omega)
        refine ⟨_, rfl, ⟨HB.out, ?_⟩, K2⟩
        rw [← HS.out]
        have hr := HR.out nn os
        rw [← HTL.out] at hr ⊢
        exact ownsRow_base hr (by omega)
    · intro x c w1 cnt1 hwx hwc hlx hat hrg1 hlt hg1 hs1 hen
      have HG : Hid (Got out (fun z => left z && !z.sameKey (.int .i64 x)) (l ++ [x])) := hL.step (hD.met hat).1 hlx
      have hK1 : Kept w w1 := Kept.grownRow hK hg1 (fun j hj => by cases hj; exact Nat.le_refl _)
      have hrow1 := hrow.keptOld hg1 (Nat.lt_succ_self _)
      have hsz1 : w.heap.size + 1 ≤ w1.heap.size := Nat.le_trans hsz hg1.size
      clear hat hK hs1
      go_wp2_with (first | (at_builtin; refine wpList_append_own _ rfl _ _ 26 rfl (w.heap.size + 1) 3 i0 (.int .i64 0) 1 8 Tryz.underlying26 hi hz0 hz1 hz2 rfl (by decide) _ _ _ rfl (hrow1.alloc _) ⟨w1.heap.size, 0, none⟩ 1 1 [.int .i64 x] rfl rfl (cell_one_new _ _ _) (by simp [Value.oneCell']) (by unfold maxLen; omega) (by omega) (by simp; omega) ?_; intro v' w5 hown' hgrow _))
      have kk : Below (w.heap.size + 1) w1 w5 := ((Below.refl _ w1).alloc hsz1 _).grown hgrow (by simp; omega) (fun j ej => (hrow1.lt j ej).1)
      have hrg5 := (hrg1.kept (World.grownBy_alloc w1 (.cells #[.int .i64 x] 3) none) (by simp) (by simp)).kept hgrow (hrow1.notOld (by omega)) (hrow1.notOld (by omega))
      go_roundw
      case rel => exact ⟨_, cnt1, l ++ [x], hrg5, HG.out, by simpa using hown', Below.trans hK1 (kk.mono (by omega)), Nat.le_trans hsz1 kk.size⟩
      case measure => rw [hrg5.left_eq, hrg.left_eq]; exact hlt
end Go.Proofs.YtgempjjnfpmndaaGreatDoor
namespace Go.Proofs.YtgempjjnfpmndaaGreatDoor
open Go.RowKit
set_option linter.unusedSimpArgs false
set_option linter.unusedVariables false
/-- The sizes of the blocks at the places l. -/
def szsI (zs l : List Int) : Nat := (l.map (fun a => sz zs a.toNat)).sum
theorem szsI_perm {zs l m : List Int} (h : l.Perm m) : szsI zs l = szsI zs m := (h.map _).sum_nat
theorem szsI_succ {zs l : List Int} {k : Nat} {a : Int} (h : l[k]? = some a) : szsI zs (l.take (k + 1)) = szsI zs (l.take k) + sz zs a.toNat := by
  obtain ⟨h1, h2⟩ := List.getElem?_eq_some_iff.1 h
  rw [List.take_succ_eq_append_getElem h1]
  simp [szsI, h2]
theorem szsI_le {zs : List Int} {n : Nat} : ∀ {l : List Int}, (∀ a ∈ l, sz zs a.toNat ≤ n) → szsI zs l ≤ l.length * n
  | [], _ => by simp [szsI]
  | a :: l, h => by
    have h1 := szsI_le (l := l) (fun x hx => h x (List.mem_cons_of_mem _ hx))
    have h2 := h a (List.mem_cons_self ..)
    simp only [szsI, List.map_cons, List.sum_cons, List.length_cons] at h1 ⊢
    rw [Nat.add_mul, Nat.one_mul]
    omega
theorem sortL_perm {l : List Int} (h : l.Nodup) : (sortL l).Perm l := by
  rw [← sorted_same h h (fun _ => Iff.rfl)]
  exact List.mergeSort_perm _ _
/-- How many words are reached. -/
def liveN (m : Mch) : Nat := if machR m = true ∧ m.ph ≠ 2 then szsI m.zs (ordL m.zs (rootsM m)) else 0
theorem roots_of {m : Mch} (h : machR m = true) (hp : m.ph ≠ 2) : rootsR m.zs (rootsM m) = true := by
  unfold machR rootM at h
  simp only [Bool.and_eq_true] at h
  have := h.2.2.2.2
  rwa [if_neg hp] at this
/-- The places l are those of blocks. -/
def PlsOk (zs l : List Int) : Prop := l.length ≤ zs.length ∧ ∀ a ∈ l, ∃ n : Nat, a = n ∧ Good zs n
theorem PlsOk.of {zs l : List Int} (h : Met zs l) : PlsOk zs l := ⟨h.len, fun a ha => by
  obtain ⟨n, e, _, hg, _⟩ := kind_nat (h.2 a ha)
  exact ⟨n, e, hg⟩⟩
theorem PlsOk.sum {zs l : List Int} (h : PlsOk zs l) (hl : zs.length ≤ 1048576) : szsI zs l ≤ 1099511627776 := by
  have h1 := szsI_le (zs := zs) (n := 1048576) (l := l) (fun a ha => by
    obtain ⟨n, rfl, hg⟩ := h.2 a ha
    have := hg.le
    simp
    omega)
  have := h.1
  omega
theorem PlsOk.at' {zs l : List Int} (h : PlsOk zs l) {k : Nat} (hk : k < l.length) : ∃ n : Nat, l[k]? = some (n : Int) ∧ Good zs n := by
  obtain ⟨n, e, hg⟩ := h.2 l[k] (List.getElem_mem _)
  exact ⟨n, by rw [List.getElem?_eq_getElem hk, e], hg⟩
theorem szsI_take {zs l : List Int} (k : Nat) : szsI zs (l.take k) ≤ szsI zs l := by
  have : szsI zs l = szsI zs (l.take k) + szsI zs (l.drop k) := by
    unfold szsI
    rw [← List.sum_append, ← List.map_append, List.take_append_drop]
  omega
set_option maxHeartbeats 16000000 in
set_option maxRecDepth 100000 in
theorem spec_Live_ok (w : World) (h : MchH) (m : Mch) (hA : MchA w h m) (hL : MchLe m) (hW : MchWf h m) (hkn : h.ka ≠ none) :
    Calls Tryz.prog 7 #[.agg (mchC h m)] w fun e w' => e = .returned (.int .i64 (liveN m : Nat)) ∧ Kept w w' := by
  obtain ⟨W0, hW0⟩ : ∃ W0, w.alloc (.cells (mchC h m) 43) = W0 := ⟨_, rfl⟩
  have X : Hid (∀ u, Kept W0 u → Cells u w.heap.size 43 (mchC h m)) := fun u hu => (hW0 ▸ Cells.new w 43 (mchC h m) : Cells W0 _ _ _).kept hu
  have k0 : Kept w W0 := hW0 ▸ Kept.alloc (Below.refl _ _) _
  have HK0 : Hid (Kept w W0) := k0
  have hM := spec_MachineOk_ok W0 h m (hA.kept k0) hL hW hkn
  cases hr : machR m
  · rw [hr] at hM
    rw [show liveN m = 0 by simp [liveN, hr]]
    have a0 := (X.out _ (Below.refl _ _)).m0
    have a1 := (X.out _ (Below.refl _ _)).m1
    have a2 := (X.out _ (Below.refl _ _)).m2
    have a3 := (X.out _ (Below.refl _ _)).m3
    have a4 := (X.out _ (Below.refl _ _)).m4
    have a5 := (X.out _ (Below.refl _ _)).m5
    have a6 := (X.out _ (Below.refl _ _)).m6
    have a7 := (X.out _ (Below.refl _ _)).m7
    have a8 := (X.out _ (Below.refl _ _)).m8
    have a9 := (X.out _ (Below.refl _ _)).m9
    have a10 := (X.out _ (Below.refl _ _)).m10
    have a11 := (X.out _ (Below.refl _ _)).m11
    clear hA hL hW hkn hr k0
    go_enter Tryz.func7, Tryz.ntmps7
    go_upto_region 1 with (fail)
    try simp only [hW0]
    clear hW0
    go_wp2_with fail
    refine hM.mono ?_
    rintro e w1 ⟨rfl, k1⟩
    go_wp2_with fail
    go_ret
    exact ⟨rfl, Kept.trans HK0.out k1⟩
  rw [hr] at hM
  by_cases hp : m.ph = 2
  · rw [show liveN m = 0 by simp [liveN, hp]]
    have a0 := (X.out _ (Below.refl _ _)).m0
    have a1 := (X.out _ (Below.refl _ _)).m1
    have a2 := (X.out _ (Below.refl _ _)).m2
    have a3 := (X.out _ (Below.refl _ _)).m3
    have a4 := (X.out _ (Below.refl _ _)).m4
    have a5 := (X.out _ (Below.refl _ _)).m5
    have a6 := (X.out _ (Below.refl _ _)).m6
    have a7 := (X.out _ (Below.refl _ _)).m7
    have a8 := (X.out _ (Below.refl _ _)).m8
    have a9 := (X.out _ (Below.refl _ _)).m9
    have a10 := (X.out _ (Below.refl _ _)).m10
    have a11 := (X.out _ (Below.refl _ _)).m11
    have HPh : Hid (m.ph = 2) := hp
    clear hp hA hL hW hkn hr k0
    go_enter Tryz.func7, Tryz.ntmps7
    go_upto_region 1 with (fail)
    try simp only [hW0]
    clear hW0
    go_wp2_with fail
    refine hM.mono ?_
    rintro e w1 ⟨rfl, k1⟩
    clear a3
    have a3 := (X.out _ k1).m3
    rw [HPh.out] at a3
    go_wp2_with fail
    go_ret
    exact ⟨rfl, Kept.trans HK0.out k1⟩
  have hrr := roots_of hr hp
  have hpl := PlsOk.of (ordL_met hrr)
  rw [show liveN m = szsI m.zs (ordL m.zs (rootsM m)) by simp [liveN, hr, hp]]
  have HRo : Hid (∀ u, Kept W0 u → Calls Tryz.prog 28 #[.agg (mchC h m)] u fun e w' => ∃ v, e = .returned v ∧ OwnL w' u.heap.size v (rootsM m) ∧ Kept u w') := fun u hu => spec_Roots_ok u h m (hA.k.kept (k0.trans hu)) (hA.f.kept (k0.trans hu)) hL.k hL.f hW.f hkn
  have HOr : Hid (∀ u ro rc, Kept W0 u → Ints u ro (rootsM m) → Calls Tryz.prog 27 #[.agg #[.slice h.sa m.zs.length h.sc], .slice ro (rootsM m).length rc] u fun e w' => ∃ v, e = .returned v ∧ OwnL w' u.heap.size v (ordL m.zs (rootsM m)) ∧ Kept u w') := fun u ro rc hu hI => l7Order_ok u h.sa ro h.sc rc m.zs (rootsM m) (hA.z.kept (k0.trans hu)) hL.z hI (by have := hL.kf; simp [rootsM]; omega) hrr
  obtain ⟨L, hLL⟩ : ∃ x, ordL m.zs (rootsM m) = x := ⟨_, rfl⟩
  obtain ⟨n, hn⟩ : ∃ x, L.length = x := ⟨_, rfl⟩
  have HZ : Hid (∀ u, Kept W0 u → Ints u h.sa m.zs) := fun u hu => hA.z.kept (k0.trans hu)
  have hzl := hL.z
  rw [hLL] at HOr hpl ⊢
  have HP : Hid _ := hpl
  have hnl : n ≤ 1048576 := by have := hpl.1; omega
  have hsl := hpl.sum hzl
  have HN : Hid (L.length = n) := hn
  have HX2 : Hid (∀ u, Kept W0 u → u.cell? ⟨w.heap.size, 2, none⟩ = some (.slice h.sa m.zs.length h.sc)) := fun u hu => (X.out u hu).m2
  obtain ⟨zs, hzs⟩ : ∃ x, m.zs = x := ⟨_, rfl⟩
  rw [hzs] at HP HZ HX2 hzl hsl ⊢
  have HS : Hid (szsI zs L ≤ 1099511627776) := hsl
  clear hzs hsl
  have a0 := (X.out _ (Below.refl _ _)).m0
  have a1 := (X.out _ (Below.refl _ _)).m1
  have a2 := (X.out _ (Below.refl _ _)).m2
  have a3 := (X.out _ (Below.refl _ _)).m3
  have a4 := (X.out _ (Below.refl _ _)).m4
  have a5 := (X.out _ (Below.refl _ _)).m5
  have a6 := (X.out _ (Below.refl _ _)).m6
  have a7 := (X.out _ (Below.refl _ _)).m7
  have a8 := (X.out _ (Below.refl _ _)).m8
  have a9 := (X.out _ (Below.refl _ _)).m9
  have a10 := (X.out _ (Below.refl _ _)).m10
  have a11 := (X.out _ (Below.refl _ _)).m11
  clear hA hL hW hkn hr k0 hrr hLL hpl hn
  go_enter Tryz.func7, Tryz.ntmps7
  go_upto_region 1 with (fail)
  try simp only [hW0]
  clear hW0
  go_wp2_with fail
  refine hM.mono ?_
  rintro e w1 ⟨rfl, k1⟩
  clear hM a0 a1 a2 a3 a4 a5 a6 a7 a8 a9 a10 a11
  have a0 := (X.out _ k1).m0
  have a1 := (X.out _ k1).m1
  have a2 := (X.out _ k1).m2
  have a3 := (X.out _ k1).m3
  have a4 := (X.out _ k1).m4
  have a5 := (X.out _ k1).m5
  have a6 := (X.out _ k1).m6
  have a7 := (X.out _ k1).m7
  have a8 := (X.out _ k1).m8
  have a9 := (X.out _ k1).m9
  have a10 := (X.out _ k1).m10
  have a11 := (X.out _ k1).m11
  have qp : (m.ph == 2) = false := by simpa using hp
  go_upto_region 4 with (fail)
  have kd : Kept w1 w1.drew := (Below.refl _ w1).drew
  have hRo := HRo.out _ (k1.trans kd)
  have HW1 : Hid (∀ u, Kept w1.drew u → Kept W0 u) := fun u hu => k1.trans (kd.trans hu)
  clear a0 a1 a2 a3 a4 a5 a6 a7 a8 a9 a10 a11
  have a0 := (X.out _ (k1.trans kd)).m0
  have a1 := (X.out _ (k1.trans kd)).m1
  have a2 := (X.out _ (k1.trans kd)).m2
  have a3 := (X.out _ (k1.trans kd)).m3
  have a4 := (X.out _ (k1.trans kd)).m4
  have a5 := (X.out _ (k1.trans kd)).m5
  have a6 := (X.out _ (k1.trans kd)).m6
  have a7 := (X.out _ (k1.trans kd)).m7
  have a8 := (X.out _ (k1.trans kd)).m8
  have a9 := (X.out _ (k1.trans kd)).m9
  have a10 := (X.out _ (k1.trans kd)).m10
  have a11 := (X.out _ (k1.trans kd)).m11
  go_cut [4] from 16 to 20 (fun s wx => ∃ ao cap, s = .slice ao n cap ∧ Ints wx ao L ∧ Kept w1 wx)
  case first =>
    go_region_with (first
      | (have _t := k2; go_at_call 27; refine (HOr.out _ _ _ (HW1.out _ k2) I2).mono ?_; rintro e w3 ⟨v3, rfl, O3, k3⟩; obtain ⟨oa, oc, rfl, I3⟩ := O3.ints)
      | (go_at_call 28; refine hRo.mono ?_; rintro e w2 ⟨v2, rfl, O2, k2⟩; obtain ⟨ra, rc, rfl, I2⟩ := O2.ints; clear a0 a1 a2 a3 a4 a5 a6 a7 a8 a9 a10 a11; have a0 := (X.out _ (HW1.out _ k2)).m0; have a1 := (X.out _ (HW1.out _ k2)).m1; have a2 := (X.out _ (HW1.out _ k2)).m2; have a3 := (X.out _ (HW1.out _ k2)).m3; have a4 := (X.out _ (HW1.out _ k2)).m4; have a5 := (X.out _ (HW1.out _ k2)).m5; have a6 := (X.out _ (HW1.out _ k2)).m6; have a7 := (X.out _ (HW1.out _ k2)).m7; have a8 := (X.out _ (HW1.out _ k2)).m8; have a9 := (X.out _ (HW1.out _ k2)).m9; have a10 := (X.out _ (HW1.out _ k2)).m10; have a11 := (X.out _ (HW1.out _ k2)).m11))
    all_goals (
      go_wp2_with fail
      go_meet
      exact ⟨_, _, by rw [HN.out], I3, (kd.trans k2).trans k3⟩)
  case rest =>
  obtain ⟨ao, cap, rfl, hI, hk⟩ := hcut
  have hK := k1.trans hk
  have HI2 : Hid _ := hI
  have HK2 : Hid _ := hK
  clear hRo hI hK hk a0 a1 a2 a3 a4 a5 a6 a7 a8 a9 a10 a11
  clear HOr HRo HW1 kd k1 qp hp
  go_wp2_with fail
  go_loopw [3, 5] (fun s i wr => ∃ k : Nat, i = .int .i64 k ∧ s = .int .i64 (szsI zs (L.take k) : Nat) ∧ k ≤ n ∧ Hid (Ints wr ao L) ∧ Hid (Kept W0 wr)) (fun _ i _ => n - (intOf i).toNat)
  case atStart => exact ⟨0, rfl, rfl, Nat.zero_le _, HI2.out, HK2.out⟩
  case round =>
    obtain ⟨k, rfl, rfl, hk, HI, HK⟩ := hrel
    by_cases hlt : k < n
    · have hkl : k < L.length := by rw [HN.out]; exact hlt
      obtain ⟨p, hp1, hg⟩ := PlsOk.at' HP.out hkl
      obtain ⟨b, off, rfl, hc⟩ := HI.out.at hkl
      obtain ⟨b2, off2, hsa, hc2⟩ := (HZ.out _ HK.out).at hg.lt
      have c1 := hc k hkl
      rw [show hz L k = (p : Int) by simp [hz, hp1]] at c1
      have c2 := hc2 p hg.lt
      have c3 := HX2.out _ HK.out
      rw [hsa] at c3
      have hz1 : hz zs p / 8 = ((sz zs p : Nat) : Int) := by have := hg.2.2.1; unfold sz; omega
      obtain ⟨Z, hZ⟩ : ∃ x, hz zs p = x := ⟨_, rfl⟩
      obtain ⟨S, hS⟩ : ∃ x, szsI zs (L.take k) = x := ⟨_, rfl⟩
      obtain ⟨V, hV⟩ : ∃ x, sz zs p = x := ⟨_, rfl⟩
      have hsum : szsI zs (L.take (k + 1)) = S + V := by rw [szsI_succ hp1, hS]; simp [hV]
      have hle : S + V ≤ 1099511627776 := by have := szsI_take (zs := zs) (l := L) (k + 1); have := HS.out; omega
      have HSum : Hid _ := hsum
      have hpl := hg.lt
      rw [hZ] at c2 hz1
      rw [hV] at hz1
      rw [hS]
      have C1 : Hid (∀ u, Kept wr.drew u → Calls Tryz.prog 29 #[.int .i64 Z] u fun e w' => e = .returned (.int .i64 (V : Nat)) ∧ Kept u w') := fun u _ => (l2Size_ok Z u).mono (fun e w' ⟨h1, h2⟩ => ⟨by rw [h1, hz1], h2 ▸ Below.refl _ _⟩)
      have l1 := World.block_lt_of_cell? _ _ c1
      have l2 := World.block_lt_of_cell? _ _ c2
      have l3 := World.block_lt_of_cell? _ _ c3
      have y1 : ∀ u, Kept wr.drew u → u.cell? ⟨b, off + k, none⟩ = some (.int .i64 p) ∧ u.cell? ⟨b2, off2 + p, none⟩ = some (.int .i64 Z) ∧ u.cell? ⟨w.heap.size, 2, none⟩ = some (.slice (some ⟨b2, off2, none⟩) zs.length h.sc) := fun u hu => by
        have kk := Kept.trans (Below.refl _ wr).drew hu
        exact ⟨(kk.cell (p := ⟨b, off + k, none⟩) l1).trans c1, (kk.cell (p := ⟨b2, off2 + p, none⟩) l2).trans c2, (kk.cell (p := ⟨w.heap.size, 2, none⟩) l3).trans c3⟩
      have q0 : (0 : Int) ≤ (k : Int) := by omega
      have q1 : (k : Int) < (n : Int) := by omega
      have q2 : (0 : Int) ≤ (p : Int) := by omega
      have q3 : (p : Int) < (zs.length : Int) := by omega
      have hww : IntKind.i64.wrap ((S : Int) + (V : Int)) = ((S + V : Nat) : Int) := by rw [IntKind.wrap_i64]; omega
      rw [HN.out] at hkl
      clear hp1 hg hc hc2 c1 c2 c3 hsa hz1 hZ hS hV hsum hpl l1 l2 l3
      go_wp2_with fail
      refine wp_region_seqL (by kernel_rfl) (by kernel_rfl) ?_
      repeat (first
        | (refine SeqL.skip (by rfl) ?_; simp only [Act.put, List.setIfInBounds_toArray, List.set_cons_zero, List.set_cons_succ])
        | (refine SeqL.pure ?_ (by rfl) ?_ ?_; rotate_left; (focus (intro u hu; obtain ⟨e1, e2, e3⟩ := y1 u hu; go_simp; first | done | exact rfl)); simp only [Act.put, List.setIfInBounds_toArray, List.set_cons_zero, List.set_cons_succ])
        | (refine SeqL.call _ _ _ (by rfl) ?_ C1.out ?_; (focus (intro u; go_simp; done)); simp only [Act.put, List.setIfInBounds_toArray, List.set_cons_zero, List.set_cons_succ]))
      refine SeqL.nil ?_
      intro w2 hu2
      have k2 : Kept wr w2 := Kept.trans (Below.refl _ wr).drew hu2
      clear y1 C1 hu2
      go_wp2_with fail
      go_roundw
      case rel => exact ⟨k + 1, by go_num, by rw [HSum.out]; first | exact congrArg (Value.int .i64) hww | (simp [hww]), by omega, Ints.kept HI.out k2, Kept.trans HK.out k2⟩
      case measure => simp [intOf]; omega
    · obtain rfl : k = n := by omega
      have q1 : ¬ (k : Int) < (k : Int) := by omega
      have HE : Hid (L.take k = L) := by rw [Hid]; exact List.take_of_length_le (by rw [HN.out]; exact Nat.le_refl _)
      go_wp2_with fail
      go_ret
      exact ⟨by rw [HE.out]; rfl, Kept.trans HK0.out HK.out⟩
set_option maxHeartbeats 16000000 in
set_option maxRecDepth 100000 in
theorem impl_Live_ok (w : World) (h : MchH) (m : Mch) (hA : MchA w h m) (hL : MchLe m) (hW : MchWf h m) (hgn : h.ga = none → h.gc = 0) (hFm : Forms w) :
    Calls Tryz.prog 9 #[.agg (mchC h m)] w fun e w' => e = .returned (.int .i64 (liveN m : Nat)) ∧ Kept w w' := by
  obtain ⟨W0, hW0⟩ : ∃ W0, w.alloc (.cells (mchC h m) 43) = W0 := ⟨_, rfl⟩
  have X : Hid (∀ u, Kept W0 u → Cells u w.heap.size 43 (mchC h m)) := fun u hu => (hW0 ▸ Cells.new w 43 (mchC h m) : Cells W0 _ _ _).kept hu
  have k0 : Kept w W0 := hW0 ▸ Kept.alloc (Below.refl _ _) _
  have HK0 : Hid (Kept w W0) := k0
  have hM := impl_MachineOk_ok W0 h m (hA.kept k0) hL hW hgn (hFm.kept k0)
  cases hr : machR m
  · rw [hr] at hM
    rw [show liveN m = 0 by simp [liveN, hr]]
    have a0 := (X.out _ (Below.refl _ _)).m0
    have a1 := (X.out _ (Below.refl _ _)).m1
    have a2 := (X.out _ (Below.refl _ _)).m2
    have a3 := (X.out _ (Below.refl _ _)).m3
    have a4 := (X.out _ (Below.refl _ _)).m4
    have a5 := (X.out _ (Below.refl _ _)).m5
    have a6 := (X.out _ (Below.refl _ _)).m6
    have a7 := (X.out _ (Below.refl _ _)).m7
    have a8 := (X.out _ (Below.refl _ _)).m8
    have a9 := (X.out _ (Below.refl _ _)).m9
    have a10 := (X.out _ (Below.refl _ _)).m10
    have a11 := (X.out _ (Below.refl _ _)).m11
    clear hA hL hW hgn hFm hr k0
    go_enter Tryz.func9, Tryz.ntmps9
    go_upto_region 1 with (fail)
    try simp only [hW0]
    clear hW0
    go_wp2_with fail
    refine hM.mono ?_
    rintro e w1 ⟨rfl, k1⟩
    go_wp2_with fail
    go_ret
    exact ⟨rfl, Kept.trans HK0.out k1⟩
  rw [hr] at hM
  by_cases hp : m.ph = 2
  · rw [show liveN m = 0 by simp [liveN, hp]]
    have a0 := (X.out _ (Below.refl _ _)).m0
    have a1 := (X.out _ (Below.refl _ _)).m1
    have a2 := (X.out _ (Below.refl _ _)).m2
    have a3 := (X.out _ (Below.refl _ _)).m3
    have a4 := (X.out _ (Below.refl _ _)).m4
    have a5 := (X.out _ (Below.refl _ _)).m5
    have a6 := (X.out _ (Below.refl _ _)).m6
    have a7 := (X.out _ (Below.refl _ _)).m7
    have a8 := (X.out _ (Below.refl _ _)).m8
    have a9 := (X.out _ (Below.refl _ _)).m9
    have a10 := (X.out _ (Below.refl _ _)).m10
    have a11 := (X.out _ (Below.refl _ _)).m11
    have HPh : Hid (m.ph = 2) := hp
    clear hp hA hL hW hgn hFm hr k0
    go_enter Tryz.func9, Tryz.ntmps9
    go_upto_region 1 with (fail)
    try simp only [hW0]
    clear hW0
    go_wp2_with fail
    refine hM.mono ?_
    rintro e w1 ⟨rfl, k1⟩
    clear a3
    have a3 := (X.out _ k1).m3
    rw [HPh.out] at a3
    go_wp2_with fail
    go_ret
    exact ⟨rfl, Kept.trans HK0.out k1⟩
  have hrr := roots_of hr hp
  have hpl := PlsOk.of (ordL_met hrr)
  rw [show liveN m = szsI m.zs (ordL m.zs (rootsM m)) by simp [liveN, hr, hp]]
  have HRo : Hid (∀ u, Kept W0 u → Calls Tryz.prog 37 #[.agg (mchC h m)] u fun e w' => ∃ v, e = .returned v ∧ OwnL w' u.heap.size v (rootsM m) ∧ Kept u w') := fun u hu => impl_Roots_ok u h m (hA.k.kept (k0.trans hu)) (hA.f.kept (k0.trans hu)) hL.k hL.f hW.f
  have HOr : Hid (∀ u ro rc, Kept W0 u → Ints u ro (rootsM m) → Calls Tryz.prog 36 #[.slice h.sa m.zs.length h.sc, .slice ro (rootsM m).length rc] u fun e w' => ∃ b, e = .returned (.map (some b)) ∧ NumMap w' b (ordL m.zs (rootsM m)) ∧ Kept u w') := fun u ro rc hu hI => (metFrom_ok u h.sa ro h.sc rc m.zs (rootsM m) (hA.z.kept (k0.trans hu)) hL.z hI (by have := hL.kf; simp [rootsM]; omega) hrr).mono (fun e w' ⟨b, e1, _, e3, e4⟩ => ⟨b, e1, e3, e4⟩)
  have hmet := ordL_met hrr
  have hmb := hmet.bd hL.z
  have hml : (ordL m.zs (rootsM m)).length ≤ 1048576 := by have := hpl.1; have := hL.z; omega
  have HPl : Hid (∀ u b, NumMap u b (ordL m.zs (rootsM m)) → Calls Tryz.prog 38 #[.map (some b)] u fun e w' => ∃ v, e = .returned v ∧ OwnL w' u.heap.size v (sortL (ordL m.zs (rootsM m))) ∧ Kept u w') := fun u b h1 => places_ok u b _ hml hmb h1
  have hpm := sortL_perm hmet.1
  rw [← szsI_perm hpm]
  have hpl : PlsOk m.zs (sortL (ordL m.zs (rootsM m))) := ⟨by rw [hpm.length_eq]; exact hpl.1, fun a ha => hpl.2 a (hpm.mem_iff.1 ha)⟩
  obtain ⟨O, hOO⟩ : ∃ x, ordL m.zs (rootsM m) = x := ⟨_, rfl⟩
  rw [hOO] at HOr HPl hpl ⊢
  obtain ⟨L, hLL⟩ : ∃ x, sortL O = x := ⟨_, rfl⟩
  rw [hLL] at HPl hpl ⊢
  obtain ⟨n, hn⟩ : ∃ x, L.length = x := ⟨_, rfl⟩
  have HZ : Hid (∀ u, Kept W0 u → Ints u h.sa m.zs) := fun u hu => hA.z.kept (k0.trans hu)
  have hzl := hL.z
  have HP : Hid _ := hpl
  have hnl : n ≤ 1048576 := by have := hpl.1; omega
  have hsl := hpl.sum hzl
  have HN : Hid (L.length = n) := hn
  have HX2 : Hid (∀ u, Kept W0 u → u.cell? ⟨w.heap.size, 2, none⟩ = some (.slice h.sa m.zs.length h.sc)) := fun u hu => (X.out u hu).m2
  obtain ⟨zs, hzs⟩ : ∃ x, m.zs = x := ⟨_, rfl⟩
  rw [hzs] at HP HZ HX2 hzl hsl ⊢
  have HS : Hid (szsI zs L ≤ 1099511627776) := hsl
  clear hzs hsl
  have a0 := (X.out _ (Below.refl _ _)).m0
  have a1 := (X.out _ (Below.refl _ _)).m1
  have a2 := (X.out _ (Below.refl _ _)).m2
  have a3 := (X.out _ (Below.refl _ _)).m3
  have a4 := (X.out _ (Below.refl _ _)).m4
  have a5 := (X.out _ (Below.refl _ _)).m5
  have a6 := (X.out _ (Below.refl _ _)).m6
  have a7 := (X.out _ (Below.refl _ _)).m7
  have a8 := (X.out _ (Below.refl _ _)).m8
  have a9 := (X.out _ (Below.refl _ _)).m9
  have a10 := (X.out _ (Below.refl _ _)).m10
  have a11 := (X.out _ (Below.refl _ _)).m11
  clear hA hL hW hgn hFm hr k0 hrr hLL hpl hn hmet hmb hml hpm hOO
  go_enter Tryz.func9, Tryz.ntmps9
  go_upto_region 1 with (fail)
  try simp only [hW0]
  clear hW0
  go_wp2_with fail
  refine hM.mono ?_
  rintro e w1 ⟨rfl, k1⟩
  clear hM a0 a1 a2 a3 a4 a5 a6 a7 a8 a9 a10 a11
  have a0 := (X.out _ k1).m0
  have a1 := (X.out _ k1).m1
  have a2 := (X.out _ k1).m2
  have a3 := (X.out _ k1).m3
  have a4 := (X.out _ k1).m4
  have a5 := (X.out _ k1).m5
  have a6 := (X.out _ k1).m6
  have a7 := (X.out _ k1).m7
  have a8 := (X.out _ k1).m8
  have a9 := (X.out _ k1).m9
  have a10 := (X.out _ k1).m10
  have a11 := (X.out _ k1).m11
  have qp : (m.ph == 2) = false := by simpa using hp
  go_upto_region 4 with (fail)
  have kd : Kept w1 w1.drew := (Below.refl _ w1).drew
  have hRo := HRo.out _ (k1.trans kd)
  have HW1 : Hid (∀ u, Kept w1.drew u → Kept W0 u) := fun u hu => k1.trans (kd.trans hu)
  clear a0 a1 a2 a3 a4 a5 a6 a7 a8 a9 a10 a11
  have a0 := (X.out _ (k1.trans kd)).m0
  have a1 := (X.out _ (k1.trans kd)).m1
  have a2 := (X.out _ (k1.trans kd)).m2
  have a3 := (X.out _ (k1.trans kd)).m3
  have a4 := (X.out _ (k1.trans kd)).m4
  have a5 := (X.out _ (k1.trans kd)).m5
  have a6 := (X.out _ (k1.trans kd)).m6
  have a7 := (X.out _ (k1.trans kd)).m7
  have a8 := (X.out _ (k1.trans kd)).m8
  have a9 := (X.out _ (k1.trans kd)).m9
  have a10 := (X.out _ (k1.trans kd)).m10
  have a11 := (X.out _ (k1.trans kd)).m11
  go_cut [23, 24, 25] from 17 to 25 (fun s l z wx => ∃ ao cap, s = .slice ao n cap ∧ l = .int .i64 n ∧ z = .int .i64 0 ∧ Ints wx ao L ∧ Kept w1 wx)
  case first =>
    go_region_with (first
      | (have _t := k3; go_at_call 38; refine (HPl.out _ _ N3).mono ?_; rintro e w4 ⟨v4, rfl, O4, k4⟩; obtain ⟨oa, oc, rfl, I4⟩ := O4.ints)
      | (have _t := k2; go_at_call 36; refine (HOr.out _ _ _ (HW1.out _ k2) I2).mono ?_; rintro e w3 ⟨b3, rfl, N3, k3⟩)
      | (go_at_call 37; refine hRo.mono ?_; rintro e w2 ⟨v2, rfl, O2, k2⟩; obtain ⟨ra, rc, rfl, I2⟩ := O2.ints; clear a0 a1 a2 a3 a4 a5 a6 a7 a8 a9 a10 a11; have a0 := (X.out _ (HW1.out _ k2)).m0; have a1 := (X.out _ (HW1.out _ k2)).m1; have a2 := (X.out _ (HW1.out _ k2)).m2; have a3 := (X.out _ (HW1.out _ k2)).m3; have a4 := (X.out _ (HW1.out _ k2)).m4; have a5 := (X.out _ (HW1.out _ k2)).m5; have a6 := (X.out _ (HW1.out _ k2)).m6; have a7 := (X.out _ (HW1.out _ k2)).m7; have a8 := (X.out _ (HW1.out _ k2)).m8; have a9 := (X.out _ (HW1.out _ k2)).m9; have a10 := (X.out _ (HW1.out _ k2)).m10; have a11 := (X.out _ (HW1.out _ k2)).m11))
    all_goals (
      go_wp2_with fail
      go_meet
      exact ⟨_, _, by rw [HN.out], by rw [HN.out], rfl, I4, ((kd.trans k2).trans k3).trans k4⟩)
  case rest =>
  obtain ⟨ao, cap, rfl, rfl, rfl, hI, hk⟩ := hcut
  have hK := k1.trans hk
  have HI2 : Hid _ := hI
  have HK2 : Hid _ := hK
  clear hRo hI hK hk a0 a1 a2 a3 a4 a5 a6 a7 a8 a9 a10 a11
  clear HOr HRo HPl HW1 kd k1 qp hp
  go_wp2_with fail
  go_loopw [3, 25] (fun s i wr => ∃ k : Nat, i = .int .i64 k ∧ s = .int .i64 (szsI zs (L.take k) : Nat) ∧ k ≤ n ∧ Hid (Ints wr ao L) ∧ Hid (Kept W0 wr)) (fun _ i _ => n - (intOf i).toNat)
  case atStart => exact ⟨0, rfl, rfl, Nat.zero_le _, HI2.out, HK2.out⟩
  case round =>
    obtain ⟨k, rfl, rfl, hk, HI, HK⟩ := hrel
    by_cases hlt : k < n
    · have hkl : k < L.length := by rw [HN.out]; exact hlt
      obtain ⟨p, hp1, hg⟩ := PlsOk.at' HP.out hkl
      obtain ⟨b, off, rfl, hc⟩ := HI.out.at hkl
      obtain ⟨b2, off2, hsa, hc2⟩ := (HZ.out _ HK.out).at hg.lt
      have c1 := hc k hkl
      rw [show hz L k = (p : Int) by simp [hz, hp1]] at c1
      have c2 := hc2 p hg.lt
      have c3 := HX2.out _ HK.out
      rw [hsa] at c3
      have hz1 : hz zs p / 8 = ((sz zs p : Nat) : Int) := by have := hg.2.2.1; unfold sz; omega
      obtain ⟨Z, hZ⟩ : ∃ x, hz zs p = x := ⟨_, rfl⟩
      obtain ⟨S, hS⟩ : ∃ x, szsI zs (L.take k) = x := ⟨_, rfl⟩
      obtain ⟨V, hV⟩ : ∃ x, sz zs p = x := ⟨_, rfl⟩
      have hsum : szsI zs (L.take (k + 1)) = S + V := by rw [szsI_succ hp1, hS]; simp [hV]
      have hle : S + V ≤ 1099511627776 := by have := szsI_take (zs := zs) (l := L) (k + 1); have := HS.out; omega
      have HSum : Hid _ := hsum
      have hpl := hg.lt
      rw [hZ] at c2 hz1
      rw [hV] at hz1
      rw [hS]
      have C1 := readBlock_good wr h.sa h.sc zs p (HZ.out _ HK.out) hg (by omega)
      rw [hsa] at C1
      have l1 := World.block_lt_of_cell? _ _ c1
      have q0 : (0 : Int) ≤ (k : Int) := by omega
      have q1 : (k : Int) < (n : Int) := by omega
      have q2 : (0 : Int) ≤ (p : Int) := by omega
      have q3 : (p : Int) < (zs.length : Int) := by omega
      have hww : IntKind.i64.wrap ((S : Int) + (V : Int)) = ((S + V : Nat) : Int) := by rw [IntKind.wrap_i64]; omega
      have hw0 : -9223372036854775808 ≤ (S : Int) + (V : Int) := by omega
      have hw1 : (S : Int) + (V : Int) ≤ 9223372036854775807 := by omega
      rw [HN.out] at hkl
      rw [hV] at C1
      clear hp1 hg hc hc2 hsa hz1 hZ hS hV hsum hpl l1
      go_wp2_with (go_at_call 39; refine C1.mono ?_; rintro e w2 ⟨rfl, k2⟩)
      go_roundw
      case rel => exact ⟨k + 1, by go_num, by rw [HSum.out]; first | exact congrArg (Value.int .i64) hww | (simp [hww]), by omega, Ints.kept HI.out (k2.alloc _), Kept.trans HK.out (k2.alloc _)⟩
      case measure => simp [intOf]; omega
    · obtain rfl : k = n := by omega
      have q1 : ¬ (k : Int) < (k : Int) := by omega
      have HE : Hid (L.take k = L) := by rw [Hid]; exact List.take_of_length_le (by rw [HN.out]; exact Nat.le_refl _)
      go_wp2_with fail
      go_ret
      exact ⟨by rw [HE.out]; rfl, Kept.trans HK0.out HK.out⟩
end Go.Proofs.YtgempjjnfpmndaaGreatDoor
