/-
  The contracts of the program's fillBlock and ObjNew.
-/
import Derived.Test.YtlgaamhjpkkjmaaOwnA
import Derived.Test.YtlgaamhjpkkjmaaObjN
import Derived.Laws.CopyOwn
import Derived.Deep.RegionWith
namespace Go.Proofs.Ytlgaamhjpkkjmaa
open Go.RowKit
attribute [local go_sem] Plain.and7

theorem Row.spliced {W : World} {g : Nat} {zs vs : List Int} {cur : List Value} {o : Nat} (hb : ∀ z ∈ zs, -9223372036854775808 ≤ z ∧ z ≤ 9223372036854775807) (hv : ∀ z ∈ vs, -9223372036854775808 ≤ z ∧ z ≤ 9223372036854775807) (hl : zs.length ≤ cur.length) (hc : ∀ j, j < zs.length → cur[j]? = some (.int .i64 (hz zs j))) (hfit : o + vs.length ≤ zs.length)
    (h : W.heap[g]? = some (.cells (splice cur o (vs.map (Value.int .i64))).toArray 3 (0, 0))) : Row W g (Go.Proofs.Ytlgaamhjpkkjmaa.sets zs o vs) := by
  have hlen : (splice cur o (vs.map (Value.int .i64))).length = cur.length := length_splice _ _ _ (by simp; omega)
  refine ⟨?_, _, h, ?_, fun j hj => ?_⟩
  · intro z hz'
    obtain ⟨j, hj, e⟩ := List.getElem_of_mem hz'
    have e1 : hz (Go.Proofs.Ytlgaamhjpkkjmaa.sets zs o vs) j = z := by simp [hz, List.getElem?_eq_getElem hj, e]
    rw [sets_len] at hj
    rw [hz_sets _ _ _ _ hfit] at e1
    rw [← e1]
    split
    · rename_i hh
      have : j - o < vs.length := by omega
      unfold hz
      rw [List.getElem?_eq_getElem this]
      exact hv _ (List.getElem_mem this)
    · unfold hz
      rw [List.getElem?_eq_getElem hj]
      exact hb _ (List.getElem_mem hj)
  · rw [sets_len, List.size_toArray, hlen]; exact hl
  · rw [sets_len] at hj
    rw [hz_sets _ _ _ _ hfit]
    simp only [List.getElem?_toArray, splice]
    by_cases h1 : j < o
    · rw [if_neg (by omega), List.getElem?_append_left (by simp; omega), List.getElem?_take, if_pos h1]
      exact hc j hj
    · rw [List.getElem?_append_right (by simp; omega)]
      rw [show (cur.take o).length = o by simp; omega]
      by_cases h2 : j < o + vs.length
      · rw [if_pos ⟨by omega, h2⟩, List.getElem?_append_left (by simp; omega)]
        have : j - o < vs.length := by omega
        simp [hz, List.getElem?_eq_getElem this]
      · rw [if_neg (by omega), List.getElem?_append_right (by simp; omega), List.getElem?_drop]
        rw [show o + (vs.map (Value.int .i64)).length + (j - o - (vs.map (Value.int .i64)).length) = j by simp; omega]
        exact hc j hj
theorem wpList_copy_grown {P : Program} {w : World} {ops : Array Oper} {rest : List Oper} {o : Oper} {a : Act} {Q : Exit → Act → World → Prop} (hgd : o.guard = none) (d s : Operand) (dT sT : TypeId)
    (ho : o.op = .call { callee := .builtin .copy, args := #[d, s], argTypes := #[dT, sT] }) (elem : TypeId) (hu : P.underlying dT = some (.slice elem)) (hsz : (P.info? elem).map (·.size) = some 1)
    (g off dLen dCap : Nat) (ad : Addr) (sLen sCap : Nat) (hd : a.eval d = .slice (some ⟨g, off, none⟩) dLen dCap) (hs : a.eval s = .slice (some ad) sLen sCap)
    (cur : Array Value) (t : TypeId) (hg : w.heap[g]? = some (.cells cur t (0, 0))) (cs : List Value) (hn : cs.length = Nat.min sLen dLen)
    (hsrc : ∀ j v, cs[j]? = some v → w.cell? (ad.add j) = some v) (hfit : off + cs.length ≤ cur.size) (h1 : ∀ v ∈ cs, v.oneCell' = true)
    (h : ∀ w', Hid (w'.heap[g]? = some (.cells (splice cur.toList off cs).toArray t (0, 0))) → w.grownBy w' (some g) → wpList P ops Q rest (a.put o.dst (goInt cs.length)) w') : wpList P ops Q (o :: rest) a w :=
  wpList_copy_own hgd d s dT sT ho elem hu hsz g off dLen dCap ad sLen sCap hd hs cur t hg cs hn hsrc hfit h1 (h _ (setRow_heap w g _ _ t _ hg) ⟨rfl, rfl, rfl, by simp [World.setRow], fun k _ hk => setRow_other w g k _ (fun e => hk (by rw [e]))⟩)
set_option maxHeartbeats 4000000 in
set_option maxRecDepth 100000 in
theorem fillBlock_ok (w : World) (g c : Nat) (ys : List Int) (a : Nat) (so : Option Addr) (sc : Nat) (vs : List Int) (hR : Row w g ys) (hS : Ints w so vs) (hpos : 0 < vs.length) (hfit : a + 1 + vs.length ≤ ys.length) (hc : ys.length ≤ c) (hl : ys.length ≤ 1048576) :
    Calls Try.prog 48 #[.slice (some ⟨g, 0, none⟩) ys.length c, .int .i64 (a : Int), .slice so vs.length sc] w fun e w' => (∃ v, e = .returned v) ∧ Row w' g (sets ys (a + 1) vs) ∧ w.grownBy w' (some g) := by
  obtain ⟨i0, hi, hz0, hz1, hz2⟩ := info_parts infoI
  have hsz : (Try.prog.info? 3).map (·.size) = some 1 := by rw [hi]; simp [hz1]
  obtain ⟨hb, cur, hg, hcl, hcc⟩ := hR
  have hg' : w.heap[g]? = some (.cells cur.toList.toArray 3 (0, 0)) := by simpa using hg
  have hsrc := hS.src hpos
  have t1 : ((a : Int) + 1).toNat = a + 1 := by omega
  have p1 : (a : Int) + 1 ≤ (ys.length : Int) := by omega
  obtain ⟨ad, rfl, hsr⟩ := hsrc
  go_enter Try.func48, Try.ntmps48
  go_wp2_with (refine wpList_copy_grown rfl (.tmp 9) (.tmp 10) 22 22 rfl 3 Try.underlying22 hsz g (a + 1) (ys.length - (a + 1)) (c - (a + 1)) ad vs.length sc rfl rfl cur 3 hg (vs.map (Value.int .i64)) (by rw [List.length_map]; exact (Nat.min_eq_left (by omega)).symm) hsr (by simp; omega) (by intro v hv; obtain ⟨z, _, rfl⟩ := List.mem_map.1 hv; rfl) ?_; intro w2 hrow hgr)
  go_end0
  refine ⟨⟨_, rfl⟩, ?_, hgr⟩
  exact Row.spliced hb hS.1 (by simpa using hcl) (fun j hj => by simpa using hcc j hj) (by omega) hrow.out
theorem new_is {zs : List Int} {p : Int} : (protoR p && rootsR zs [p]) = (heapR zs && valR zs 5 p) := by
  rw [val5, roots1]
  unfold protoR
  by_cases h4 : p % 8 = 5
  · have h1 : ¬ p = 1 := by omega
    rw [leads_any (v := p) (by omega) 5 0]
    simp [h4, h1]
  · by_cases h1 : p = 1
    · subst h1
      have : leadsR zs 1 5 = true := by simp [leadsR, vOk_is1]
      simp [this]
    · simp [h4, h1]
theorem hz_taken {zs : List Int} {b : BkOf zs.length} {k j : Nat} (h3 : 3 ≤ b.1.size) (h1 : 1 ≤ j) (h2 : j < 3) : hz (takeL zs b.1 k 3) (b.1.at' + j) = 0 := by
  have hle := b.2.2.1
  unfold takeL
  split
  · rw [hz_layL (by simp; omega) (by omega), if_neg (by omega), if_pos (by omega)]
  · rw [hz_layL (by omega) (by omega), if_neg (by omega), if_pos (by omega)]
theorem set_same {zs : List Int} {j : Nat} (hj : j < zs.length) (h : hz zs j = 0) : zs.set j 0 = zs := by
  apply List.ext_getElem (by simp)
  intro i h1 h2
  rw [List.getElem_set]
  split
  · rename_i e
    subst e
    have : zs[j]?.getD 0 = 0 := h
    rw [List.getElem?_eq_getElem hj] at this
    simpa using this.symm
  · rfl
theorem new_sets {zs : List Int} {b : BkOf zs.length} {p : Int} (h3 : 3 ≤ b.1.size) : sets (takeL zs b.1 2 3) (b.1.at' + 1) [p, 0] = (takeL zs b.1 2 3).set (b.1.at' + 1) p := by
  have hle := b.2.2.1
  have hl := takeL_length zs b.1 2 3
  show ((takeL zs b.1 2 3).set (b.1.at' + 1) p).set (b.1.at' + 1 + 1) 0 = _
  refine set_same (by simp; omega) ?_
  rw [hz_set (by omega), if_neg (by omega)]
  have := hz_taken (zs := zs) (b := b) (k := 2) (j := 2) h3 (by omega) (by omega)
  exact this
set_option maxHeartbeats 8000000 in
set_option maxRecDepth 100000 in
theorem impl_ObjNew_ok (w : World) (ao : Option Addr) (cap : Nat) (zs : List Int) (p : Int) (hI : Ints w ao zs) (hl : zs.length ≤ 1048576) (hp : -9223372036854775808 ≤ p ∧ p ≤ 9223372036854775807) :
    Calls Try.prog 15 #[.agg #[.slice ao zs.length cap], .int .i64 p] w fun e w' => ∃ v, e = .returned (.tuple #[.agg #[v], .int .i64 (objNewC zs p).2.1, .bool (objNewC zs p).2.2]) ∧ OwnR w' w.heap.size v (objNewC zs p).1 ∧ Kept w w' := by
  have b0 := (Cells.new w 27 #[.slice ao zs.length cap]).alloc (.cells #[.slice none 0 0] 27)
  have b1 := Cells.new (w.alloc (.cells #[.slice ao zs.length cap] 27)) 27 #[.slice none 0 0]
  have k0 : Kept w ((w.alloc (.cells #[.slice ao zs.length cap] 27)).alloc (.cells #[.slice none 0 0] 27)) := (Kept.alloc (Below.refl _ _) _).alloc _
  simp only [World.size_alloc] at b1
  have hLo := heapLayout_ok _ ao cap zs (hI.kept k0) hl
  cases hh : heapR zs with
  | false =>
    have HC : Hid (objNewC zs p = ([], 0, false)) := by simp [Hid, objNewC, new_is, zeroL, hh]
    have hLo' := hLo.mono (R' := fun e w' => e = .returned (.tuple #[.slice none 0 0, .bool false]) ∧ Kept ((w.alloc (.cells #[.slice ao zs.length cap] 27)).alloc (.cells #[.slice none 0 0] 27)) w') (fun e w' h => ⟨h.1 hh, h.2.2⟩)
    clear hh hI hLo
    go_enter Try.func15, Try.ntmps15
    go_wp2_with (go_at_call 36; refine hLo'.mono ?_; rintro e w1 ⟨rfl, hk1⟩; have x1 := b1.kept hk1; have d1 := x1.cell 0; have f1 := x1.frozen 0)
    have q := (x1.set1 (.slice none 0 0)).cell 0
    refine bodyPost_ret (v := .tuple #[.agg #[.slice none 0 0], .int .i64 0, .bool false]) (by simp [results, Try.results15, go_sem, q]) rfl ⟨_, by rw [HC.out], by rw [HC.out]; exact .inl ⟨rfl, rfl⟩, (k0.trans hk1).set (by simp) _⟩
  | true =>
    have hLo' := hLo.mono (R' := fun e w' => ∃ lo lc, e = .returned (.tuple #[.slice lo zs.length lc, .bool true]) ∧ Ints w' lo (lyt zs) ∧ Kept ((w.alloc (.cells #[.slice ao zs.length cap] 27)).alloc (.cells #[.slice none 0 0] 27)) w') (fun e w' h => by obtain ⟨lo, lc, h1, h2⟩ := h.2.1 hh; exact ⟨lo, lc, h1, h2, h.2.2⟩)
    have HV : Hid _ := fun (u : World) (lo : Option Addr) (lc : Nat) (hu : Ints u lo (lyt zs)) => valueOk_ok u lo lc zs 5 p hu hp.1 hp.2
    have HCp : Hid _ := fun (u : World) (hu : Kept w u) => copySlab_ok u ao cap zs (hI.kept hu) hl
    clear hLo
    cases hv5 : valR zs 5 p with
    | false =>
      have HC : Hid (objNewC zs p = (zs, 0, false)) := by simp [Hid, objNewC, new_is, zeroL, hh, hv5]
      rw [hv5] at HV
      clear hI hh hv5
      go_enter Try.func15, Try.ntmps15
      go_wp2_with (first | (go_at_call 36; refine hLo'.mono ?_; rintro e w1 ⟨lo, lc, rfl, hLy, hk1⟩; have x0 := (b0.kept hk1).cell 0; have HLy : Hid _ := hLy; clear hLy) | (go_at_call 37; refine (HV.out _ lo lc HLy.out).mono ?_; rintro e wx ⟨rfl, rfl⟩) | (go_at_call 46; refine (HCp.out _ (k0.trans hk1)).mono ?_; rintro e w2 ⟨g2, c2, rfl, hg2, hc2, hR2, hk2⟩; have x1 := (b1.kept hk1).kept hk2; have d1 := x1.cell 0; have f1 := x1.frozen 0; have l1 := x1.lt))
      have hs1 := hk1.size
      simp only [World.size_alloc] at hs1
      have q := (x1.set1 (.slice (some ⟨g2, 0, none⟩) zs.length c2)).cell 0
      refine bodyPost_ret (v := .tuple #[.agg #[.slice (some ⟨g2, 0, none⟩) zs.length c2], .int .i64 0, .bool false]) (by simp [results, Try.results15, go_sem, q]) rfl ⟨_, by rw [HC.out], by rw [HC.out]; exact .inr ⟨g2, c2, rfl, by omega, hc2, hR2.other (by intro h; simp at h <;> omega) _⟩, ((k0.trans hk1).trans hk2).set (by simp) _⟩
    | true =>
      have hok := heapR_slab hh
      have e0 : objNewC zs p = objC zs p := by simp [objNewC, new_is, hh, hv5]
      rw [hv5] at HV
      cases hff : ffB zs 3 with
      | none =>
        have HC : Hid (objNewC zs p = (zs, 0, false)) := by rw [Hid, e0]; simp [objC, hff]
        have HT : Hid _ := fun (u : World) (hu : Kept w u) => impl_Take_no u ao cap zs 2 3 (hI.kept hu) hl hok (.inr hff)
        clear hI hh hv5 hff e0 hok HCp
        go_enter Try.func15, Try.ntmps15
        go_wp2_with (first | (go_at_call 36; refine hLo'.mono ?_; rintro e w1 ⟨lo, lc, rfl, hLy, hk1⟩; have x0 := (b0.kept hk1).cell 0; have HLy : Hid _ := hLy; clear hLy) | (go_at_call 37; refine (HV.out _ lo lc HLy.out).mono ?_; rintro e wx ⟨rfl, rfl⟩))
        refine (HT.out _ (k0.trans hk1)).mono ?_
        rintro e w2 ⟨v2, rfl, o2, hk2⟩
        obtain ⟨la2, lc2, rfl, _⟩ := o2.ints
        have x1 := (b1.kept hk1).kept hk2
        have ka : Kept w2 (w2.alloc (.cells #[.slice la2 zs.length lc2] 27)) := Kept.alloc (Below.refl _ _) _
        have y1 := x1.kept ka
        have d1 := y1.cell 0
        have f1 := y1.frozen 0
        have dx := x1.cell 0
        have fx := x1.frozen 0
        have l1 := x1.lt
        have hs1 := hk1.size
        simp only [World.size_alloc] at hs1
        go_wp2_with fail
        have q := ((x1.set1 (.slice la2 zs.length lc2)).alloc (.cells #[.slice la2 zs.length lc2] 27)).cell 0
        refine bodyPost_ret (v := .tuple #[.agg #[.slice la2 zs.length lc2], .int .i64 0, .bool false]) (by simp [results, Try.results15, go_sem, q]) rfl ⟨_, by rw [HC.out], ?_, Kept.alloc (((k0.trans hk1).trans hk2).set (by simp) _) _⟩
        rw [HC.out]
        rcases o2 with ⟨h1, h2⟩ | ⟨g3, c3, h1, h2, h3, h4⟩
        · exact .inl ⟨h1, h2⟩
        · exact .inr ⟨g3, c3, h1, by omega, h3, (h4.other (p := ⟨w.heap.size + 1, 0, none⟩) (by intro h; simp at h <;> omega) _).kept (Kept.alloc (Below.refl _ _) _)⟩
      | some b =>
        have hfr : freeP 3 b = true := List.find?_some hff
        have hble := b.2.2.1
        have hbs : 3 ≤ b.1.size := by simp [freeP] at hfr; omega
        have hlen : zs.length ≤ 2000 := (slabOk_iff.1 hok).1
        have hT := fun (u : World) (hu : Kept w u) => impl_Take_yes u ao cap zs 2 3 b (hI.kept hu) hl hok (by omega) (by omega) (by omega) hff
        have hns := new_sets (p := p) hbs
        have e1 : objNewC zs p = ((takeL zs b.1 2 3).set (b.1.at' + 1) p, 8 * ((b.1.at' : Nat) : Int) + 5, true) := by rw [e0]; simp [objC, hff]
        have hyl := takeL_length zs b.1 2 3
        obtain ⟨a, ha⟩ : ∃ a : Nat, b.1.at' = a := ⟨_, rfl⟩
        obtain ⟨ys, hys⟩ : ∃ ys, takeL zs b.1 2 3 = ys := ⟨_, rfl⟩
        rw [hys, ha] at hT hns e1
        rw [hys] at hyl
        rw [ha] at hble
        have HC : Hid (objNewC zs p = (ys.set (a + 1) p, 8 * (a : Int) + 5, true)) := e1
        have HT : Hid _ := hT
        have HS : Hid _ := hns
        have ha2 : a < 2000 := by omega
        have hfit : a + 1 + 2 ≤ ys.length := by omega
        have hyb : ys.length ≤ 1048576 := by omega
        clear hI hh hv5 hff e0 e1 hok HCp hfr hbs hT hns ha hys hble hyl
        go_enter Try.func15, Try.ntmps15
        go_wp2_with (first | (go_at_call 36; refine hLo'.mono ?_; rintro e w1 ⟨lo, lc, rfl, hLy, hk1⟩; have x0 := (b0.kept hk1).cell 0; have HLy : Hid _ := hLy; clear hLy) | (go_at_call 37; refine (HV.out _ lo lc HLy.out).mono ?_; rintro e wx ⟨rfl, rfl⟩))
        refine (HT.out _ (k0.trans hk1)).mono ?_
        rintro e w3 ⟨v3, rfl, o3, hk3⟩
        rcases o3 with ⟨h1, h2⟩ | ⟨g3, c3, rfl, hg3, hc3, hR3⟩
        · rw [h2] at hfit; simp at hfit
        have hs1 := hk1.size
        simp only [World.size_alloc] at hs1
        have kA : Kept w3 (w3.alloc (.cells #[.slice (some ⟨g3, 0, none⟩) ys.length c3] 27)) := Kept.alloc (Below.refl _ _) _
        have kB : Kept w3 ((w3.alloc (.cells #[.slice (some ⟨g3, 0, none⟩) ys.length c3] 27)).alloc (.cells #[.int .i64 p, .int .i64 0] 3)) := kA.alloc _
        have lg3 := hR3.lt
        have bO := Cells.new w3 27 #[.slice (some ⟨g3, 0, none⟩) ys.length c3]
        have bO2 := bO.alloc (.cells #[.int .i64 p, .int .i64 0] 3)
        have y1 := ((b1.kept hk1).kept hk3).kept kB
        have hl3 := ((b1.kept hk1).kept hk3).lt
        have cO := bO.cell 0
        have hsv := lits_ints (w3.alloc (.cells #[.slice (some ⟨g3, 0, none⟩) ys.length c3] 27)) [p, 0] #[.int .i64 p, .int .i64 0] rfl (by simp only [List.mem_cons, List.not_mem_nil, or_false]; rintro z (rfl | rfl); exact hp; omega)
        have hFt := fillBlock_ok _ g3 c3 ys a _ 2 [p, 0] (hR3.kept kB) hsv (by simp) (by simpa using hfit) hc3 hyb
        rw [HS.out] at hFt
        simp only [World.size_alloc, List.length_cons, List.length_nil, Nat.zero_add, Nat.reduceAdd] at hFt
        have HLS : Hid ((ys.set (a + 1) p).length = ys.length) := by simp [Hid]
        clear x0
        go_wp2_with fail
        refine hFt.mono ?_
        rintro e w4 ⟨⟨_, rfl⟩, hR4, hg4⟩
        have o4 := bO2.grown hg4 (by intro e; simp at e; omega)
        have y4 := y1.grown hg4 (by intro e; simp at e; omega)
        have cO4 := o4.cell 0
        have c4 := y4.cell 0
        have f4 := y4.frozen 0
        go_wp2_with fail
        go_region_with (go_at_call 49; refine (impl_RefOf_ok _ _ _).mono ?_; rintro e wx ⟨rfl, rfl⟩)
        all_goals go_wp2_with fail
        all_goals (
          have q := ((y4.set1 (.slice (some ⟨g3, 0, none⟩) ys.length c3)).kept (Below.refl _ _).drew).cell 0
          refine bodyPost_ret (v := .tuple #[.agg #[.slice (some ⟨g3, 0, none⟩) ys.length c3], .int .i64 (vRef 5 (a : Int)), .bool true]) (by simp [results, Try.results15, go_sem, q]) rfl ⟨_, by rw [HC.out, vRef_yes (by omega)], by rw [HC.out]; exact .inr ⟨g3, c3, by rw [HLS.out], by omega, by rw [HLS.out]; exact hc3, (hR4.other (p := ⟨w.heap.size + 1, 0, none⟩) (by intro h; simp at h <;> omega) _).kept (Below.refl _ _).drew⟩, ?_⟩
          exact Kept.trans (((((k0.trans hk1).trans hk3).trans kB).grownRow hg4 (fun k e => by cases e; omega)).set (p := ⟨w.heap.size + 1, 0, none⟩) (by simp) _) (Below.refl _ _).drew)
theorem ObjNew_both (zs : List Int) (p : Int) (hl : zs.length ≤ 1048576) (hp : -9223372036854775808 ≤ p ∧ p ≤ 9223372036854775807) : ∃ (rs : List Int) (at' : Int) (ok : Bool), rs.length ≤ 1048576 ∧
    (∀ (w : World) (ao : Option Addr) (cap : Nat), Ints w ao zs → Calls Try.prog 15 #[.agg #[.slice ao zs.length cap], .int .i64 p] w fun e w' => ∃ v, e = .returned (.tuple #[.agg #[v], .int .i64 at', .bool ok]) ∧ OwnR w' w.heap.size v rs ∧ Kept w w') ∧
    (∀ (w : World) (ao : Option Addr) (cap : Nat), Ints w ao zs → Calls Try.prog 14 #[.agg #[.slice ao zs.length cap], .int .i64 p] w fun e w' => ∃ v, e = .returned (.tuple #[.agg #[v], .int .i64 at', .bool ok]) ∧ OwnR w' w.heap.size v rs ∧ Kept w w') :=
  ⟨(objNewC zs p).1, (objNewC zs p).2.1, (objNewC zs p).2.2, by have := objNewC_len zs p; omega, fun w ao cap hI => impl_ObjNew_ok w ao cap zs p hI hl hp, fun w ao cap hI => (spec_ObjNew_ok w ao cap zs p hI hl hp).mono (fun _ _ ⟨v, h1, h2, h3, _⟩ => ⟨v, h1, h2, h3⟩)⟩
end Go.Proofs.Ytlgaamhjpkkjmaa
