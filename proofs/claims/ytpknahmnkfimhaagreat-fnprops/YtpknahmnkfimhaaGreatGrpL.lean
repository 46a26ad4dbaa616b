/-
  The contracts of the program's fillBlock and ObjNew.
  Facts on lists: what PropSet asks, in the program and in its model; the new cell behind all others.
  What is taken of a right heap and filled leaves a right heap (facts on lists).
  Facts on lists: a right heap in which a word of a block is written so that the block is right stays right; so does one in which an object is laid.
  The contracts of ProtoSet, the program's and the model's.
-/
import Derived.Laws.CopyOwn
import Derived.Deep.RegionWith
import Derived.Test.YtpknahmnkfimhaaGreatGrpJ
import Derived.Test.YtpknahmnkfimhaaGreatGrpE
import Derived.Test.YtpknahmnkfimhaaGreatSlabX
namespace Go.Proofs.YtpknahmnkfimhaaGreat
open Go.RowKit
attribute [local go_sem] Plain.and7

theorem Row.spliced {W : World} {g : Nat} {zs vs : List Int} {cur : List Value} {o : Nat} (hb : ∀ z ∈ zs, -9223372036854775808 ≤ z ∧ z ≤ 9223372036854775807) (hv : ∀ z ∈ vs, -9223372036854775808 ≤ z ∧ z ≤ 9223372036854775807) (hl : zs.length ≤ cur.length) (hc : ∀ j, j < zs.length → cur[j]? = some (.int .i64 (hz zs j))) (hfit : o + vs.length ≤ zs.length)
    (h : W.heap[g]? = some (.cells (splice cur o (vs.map (Value.int .i64))).toArray 3 (0, 0))) : Row W g (Go.Proofs.YtpknahmnkfimhaaGreat.sets zs o vs) := by
  have hlen : (splice cur o (vs.map (Value.int .i64))).length = cur.length := length_splice _ _ _ (by simp; omega)
  refine ⟨?_, _, h, ?_, fun j hj => ?_⟩
  · intro z hz'
    obtain ⟨j, hj, e⟩ := List.getElem_of_mem hz'
    have e1 : hz (Go.Proofs.YtpknahmnkfimhaaGreat.sets zs o vs) j = z := by simp [hz, List.getElem?_eq_getElem hj, e]
    rw [sets_len] at hj
    rw [hz_sets _ _ _ _ hfit] at e1
    rw [← e1]
    split
    · rename_i hh
      have : j - o < vs.length := by omega
      unfold hz
      rw [List.getElem?_eq_getElem this]
      exact hv _ (List.getElem_mem this)
    · unfold hz
      rw [List.getElem?_eq_getElem hj]
      exact hb _ (List.getElem_mem hj)
  · rw [sets_len, List.size_toArray, hlen]; exact hl
  · rw [sets_len] at hj
    rw [hz_sets _ _ _ _ hfit]
    simp only [List.getElem?_toArray, splice]
    by_cases h1 : j < o
    · rw [if_neg (by omega), List.getElem?_append_left (by simp; omega), List.getElem?_take, if_pos h1]
      exact hc j hj
    · rw [List.getElem?_append_right (by simp; omega)]
      rw [show (cur.take o).length = o by simp; omega]
      by_cases h2 : j < o + vs.length
      · rw [if_pos ⟨by omega, h2⟩, List.getElem?_append_left (by simp; omega)]
        have : j - o < vs.length := by omega
        simp [hz, List.getElem?_eq_getElem this]
      · rw [if_neg (by omega), List.getElem?_append_right (by simp; omega), List.getElem?_drop]
        rw [show o + (vs.map (Value.int .i64)).length + (j - o - (vs.map (Value.int .i64)).length) = j by simp; omega]
        exact hc j hj
theorem wpList_copy_grown {P : Program} {w : World} {ops : Array Oper} {rest : List Oper} {o : Oper} {a : Act} {Q : Exit → Act → World → Prop} (hgd : o.guard = none) (d s : Operand) (dT sT : TypeId)
    (ho : o.op = .call { callee := .builtin .copy, args := #[d, s], argTypes := #[dT, sT] }) (elem : TypeId) (hu : P.underlying dT = some (.slice elem)) (hsz : (P.info? elem).map (·.size) = some 1)
    (g off dLen dCap : Nat) (ad : Addr) (sLen sCap : Nat) (hd : a.eval d = .slice (some ⟨g, off, none⟩) dLen dCap) (hs : a.eval s = .slice (some ad) sLen sCap)
    (cur : Array Value) (t : TypeId) (hg : w.heap[g]? = some (.cells cur t (0, 0))) (cs : List Value) (hn : cs.length = Nat.min sLen dLen)
    (hsrc : ∀ j v, cs[j]? = some v → w.cell? (ad.add j) = some v) (hfit : off + cs.length ≤ cur.size) (h1 : ∀ v ∈ cs, v.oneCell' = true)
    (h : ∀ w', Hid (w'.heap[g]? = some (.cells (splice cur.toList off cs).toArray t (0, 0))) → w.grownBy w' (some g) → wpList P ops Q rest (a.put o.dst (goInt cs.length)) w') : wpList P ops Q (o :: rest) a w :=
  wpList_copy_own hgd d s dT sT ho elem hu hsz g off dLen dCap ad sLen sCap hd hs cur t hg cs hn hsrc hfit h1 (h _ (setRow_heap w g _ _ t _ hg) ⟨rfl, rfl, rfl, by simp [World.setRow], fun k _ hk => setRow_other w g k _ (fun e => hk (by rw [e]))⟩)
set_option maxHeartbeats 4000000 in
set_option maxRecDepth 100000 in
theorem fillBlock_ok (w : World) (g c : Nat) (ys : List Int) (a : Nat) (so : Option Addr) (sc : Nat) (vs : List Int) (hR : Row w g ys) (hS : Ints w so vs) (hpos : 0 < vs.length) (hfit : a + 1 + vs.length ≤ ys.length) (hc : ys.length ≤ c) (hl : ys.length ≤ 1048576) :
    Calls Tryz.prog 34 #[.slice (some ⟨g, 0, none⟩) ys.length c, .int .i64 (a : Int), .slice so vs.length sc] w fun e w' => (∃ v, e = .returned v) ∧ Row w' g (sets ys (a + 1) vs) ∧ w.grownBy w' (some g) := by
  obtain ⟨i0, hi, hz0, hz1, hz2⟩ := info_parts infoI
  have hsz : (Tryz.prog.info? 3).map (·.size) = some 1 := by rw [hi]; simp [hz1]
  obtain ⟨hb, cur, hg, hcl, hcc⟩ := hR
  have hg' : w.heap[g]? = some (.cells cur.toList.toArray 3 (0, 0)) := by simpa using hg
  have hsrc := hS.src hpos
  have t1 : ((a : Int) + 1).toNat = a + 1 := by omega
  have p1 : (a : Int) + 1 ≤ (ys.length : Int) := by omega
  obtain ⟨ad, rfl, hsr⟩ := hsrc
  go_enter Tryz.func34, Tryz.ntmps34
  go_wp2_with (refine wpList_copy_grown rfl (.tmp 9) (.tmp 10) 24 24 rfl 3 Tryz.underlying24 hsz g (a + 1) (ys.length - (a + 1)) (c - (a + 1)) ad vs.length sc rfl rfl cur 3 hg (vs.map (Value.int .i64)) (by rw [List.length_map]; exact (Nat.min_eq_left (by omega)).symm) hsr (by simp; omega) (by intro v hv; obtain ⟨z, _, rfl⟩ := List.mem_map.1 hv; rfl) ?_; intro w2 hrow hgr)
  go_end0
  refine ⟨⟨_, rfl⟩, ?_, hgr⟩
  exact Row.spliced hb hS.1 (by simpa using hcl) (fun j hj => by simpa using hcc j hj) (by omega) hrow.out
theorem new_is {zs : List Int} {p : Int} : (protoR p && rootsR zs [p]) = (heapR zs && valR zs 5 p) := by
  rw [val5, roots1]
  unfold protoR
  by_cases h4 : p % 8 = 5
  · have h1 : ¬ p = 1 := by omega
    rw [leads_any (v := p) (by omega) 5 0]
    simp [h4, h1]
  · by_cases h1 : p = 1
    · subst h1
      have : leadsR zs 1 5 = true := by simp [leadsR, vOk_is1]
      simp [this]
    · simp [h4, h1]
theorem hz_taken {zs : List Int} {b : BkOf zs.length} {k j : Nat} (h3 : 3 ≤ b.1.size) (h1 : 1 ≤ j) (h2 : j < 3) : hz (takeL zs b.1 k 3) (b.1.at' + j) = 0 := by
  have hle := b.2.2.1
  unfold takeL
  split
  · rw [hz_layL (by simp; omega) (by omega), if_neg (by omega), if_pos (by omega)]
  · rw [hz_layL (by omega) (by omega), if_neg (by omega), if_pos (by omega)]
theorem set_same {zs : List Int} {j : Nat} (hj : j < zs.length) (h : hz zs j = 0) : zs.set j 0 = zs := by
  apply List.ext_getElem (by simp)
  intro i h1 h2
  rw [List.getElem_set]
  split
  · rename_i e
    subst e
    have : zs[j]?.getD 0 = 0 := h
    rw [List.getElem?_eq_getElem hj] at this
    simpa using this.symm
  · rfl
theorem new_sets {zs : List Int} {b : BkOf zs.length} {p : Int} (h3 : 3 ≤ b.1.size) : sets (takeL zs b.1 2 3) (b.1.at' + 1) [p, 0] = (takeL zs b.1 2 3).set (b.1.at' + 1) p := by
  have hle := b.2.2.1
  have hl := takeL_length zs b.1 2 3
  show ((takeL zs b.1 2 3).set (b.1.at' + 1) p).set (b.1.at' + 1 + 1) 0 = _
  refine set_same (by simp; omega) ?_
  rw [hz_set (by omega), if_neg (by omega)]
  have := hz_taken (zs := zs) (b := b) (k := 2) (j := 2) h3 (by omega) (by omega)
  exact this
set_option maxHeartbeats 8000000 in
set_option maxRecDepth 100000 in
theorem impl_ObjNew_ok (w : World) (ao : Option Addr) (cap : Nat) (zs : List Int) (p : Int) (hI : Ints w ao zs) (hl : zs.length ≤ 1048576) (hp : -9223372036854775808 ≤ p ∧ p ≤ 9223372036854775807) :
    Calls Tryz.prog 22 #[.agg #[.slice ao zs.length cap], .int .i64 p] w fun e w' => ∃ v, e = .returned (.tuple #[.agg #[v], .int .i64 (objNewC zs p).2.1, .bool (objNewC zs p).2.2]) ∧ OwnR w' w.heap.size v (objNewC zs p).1 ∧ Kept w w' := by
  have b0 := (Cells.new w 26 #[.slice ao zs.length cap]).alloc (.cells #[.slice none 0 0] 26)
  have b1 := Cells.new (w.alloc (.cells #[.slice ao zs.length cap] 26)) 26 #[.slice none 0 0]
  have k0 : Kept w ((w.alloc (.cells #[.slice ao zs.length cap] 26)).alloc (.cells #[.slice none 0 0] 26)) := (Kept.alloc (Below.refl _ _) _).alloc _
  simp only [World.size_alloc] at b1
  have hLo := heapLayout_ok _ ao cap zs (hI.kept k0) hl
  cases hh : heapR zs with
  | false =>
    have HC : Hid (objNewC zs p = ([], 0, false)) := by simp [Hid, objNewC, new_is, zeroL, hh]
    have hLo' := hLo.mono (R' := fun e w' => e = .returned (.tuple #[.slice none 0 0, .bool false]) ∧ Kept ((w.alloc (.cells #[.slice ao zs.length cap] 26)).alloc (.cells #[.slice none 0 0] 26)) w') (fun e w' h => ⟨h.1 hh, h.2.2⟩)
    clear hh hI hLo
    go_enter Tryz.func22, Tryz.ntmps22
    go_wp2_with (go_at_call 26; refine hLo'.mono ?_; rintro e w1 ⟨rfl, hk1⟩; have x1 := b1.kept hk1; have d1 := x1.cell 0; have f1 := x1.frozen 0)
    have q := (x1.set1 (.slice none 0 0)).cell 0
    refine bodyPost_ret (v := .tuple #[.agg #[.slice none 0 0], .int .i64 0, .bool false]) (by simp [results, Tryz.results22, go_sem, q]) rfl ⟨_, by rw [HC.out], by rw [HC.out]; exact .inl ⟨rfl, rfl⟩, (k0.trans hk1).set (by simp) _⟩
  | true =>
    have hLo' := hLo.mono (R' := fun e w' => ∃ lo lc, e = .returned (.tuple #[.slice lo zs.length lc, .bool true]) ∧ Ints w' lo (lyt zs) ∧ Kept ((w.alloc (.cells #[.slice ao zs.length cap] 26)).alloc (.cells #[.slice none 0 0] 26)) w') (fun e w' h => by obtain ⟨lo, lc, h1, h2⟩ := h.2.1 hh; exact ⟨lo, lc, h1, h2, h.2.2⟩)
    have HV : Hid _ := fun (u : World) (lo : Option Addr) (lc : Nat) (hu : Ints u lo (lyt zs)) => valueOk_ok u lo lc zs 5 p hu hp.1 hp.2
    have HCp : Hid _ := fun (u : World) (hu : Kept w u) => copySlab_ok u ao cap zs (hI.kept hu) hl
    clear hLo
    cases hv5 : valR zs 5 p with
    | false =>
      have HC : Hid (objNewC zs p = (zs, 0, false)) := by simp [Hid, objNewC, new_is, zeroL, hh, hv5]
      rw [hv5] at HV
      clear hI hh hv5
      go_enter Tryz.func22, Tryz.ntmps22
      go_wp2_with (first | (go_at_call 26; refine hLo'.mono ?_; rintro e w1 ⟨lo, lc, rfl, hLy, hk1⟩; have x0 := (b0.kept hk1).cell 0; have HLy : Hid _ := hLy; clear hLy) | (go_at_call 28; refine (HV.out _ lo lc HLy.out).mono ?_; rintro e wx ⟨rfl, rfl⟩) | (go_at_call 29; refine (HCp.out _ (k0.trans hk1)).mono ?_; rintro e w2 ⟨g2, c2, rfl, hg2, hc2, hR2, hk2⟩; have x1 := (b1.kept hk1).kept hk2; have d1 := x1.cell 0; have f1 := x1.frozen 0; have l1 := x1.lt))
      have hs1 := hk1.size
      simp only [World.size_alloc] at hs1
      have q := (x1.set1 (.slice (some ⟨g2, 0, none⟩) zs.length c2)).cell 0
      refine bodyPost_ret (v := .tuple #[.agg #[.slice (some ⟨g2, 0, none⟩) zs.length c2], .int .i64 0, .bool false]) (by simp [results, Tryz.results22, go_sem, q]) rfl ⟨_, by rw [HC.out], by rw [HC.out]; exact .inr ⟨g2, c2, rfl, by omega, hc2, hR2.other (by intro h; simp at h <;> omega) _⟩, ((k0.trans hk1).trans hk2).set (by simp) _⟩
    | true =>
      have hok := heapR_slab hh
      have e0 : objNewC zs p = objC zs p := by simp [objNewC, new_is, hh, hv5]
      rw [hv5] at HV
      cases hff : ffB zs 3 with
      | none =>
        have HC : Hid (objNewC zs p = (zs, 0, false)) := by rw [Hid, e0]; simp [objC, hff]
        have HT : Hid _ := fun (u : World) (hu : Kept w u) => impl_Take_no u ao cap zs 2 3 (hI.kept hu) hl hok (.inr hff)
        clear hI hh hv5 hff e0 hok HCp
        go_enter Tryz.func22, Tryz.ntmps22
        go_wp2_with (first | (go_at_call 26; refine hLo'.mono ?_; rintro e w1 ⟨lo, lc, rfl, hLy, hk1⟩; have x0 := (b0.kept hk1).cell 0; have HLy : Hid _ := hLy; clear hLy) | (go_at_call 28; refine (HV.out _ lo lc HLy.out).mono ?_; rintro e wx ⟨rfl, rfl⟩))
        refine (HT.out _ (k0.trans hk1)).mono ?_
        rintro e w2 ⟨v2, rfl, o2, hk2⟩
        obtain ⟨la2, lc2, rfl, _⟩ := o2.ints
        have x1 := (b1.kept hk1).kept hk2
        have ka : Kept w2 (w2.alloc (.cells #[.slice la2 zs.length lc2] 26)) := Kept.alloc (Below.refl _ _) _
        have y1 := x1.kept ka
        have d1 := y1.cell 0
        have f1 := y1.frozen 0
        have dx := x1.cell 0
        have fx := x1.frozen 0
        have l1 := x1.lt
        have hs1 := hk1.size
        simp only [World.size_alloc] at hs1
        go_wp2_with fail
        have q := ((x1.set1 (.slice la2 zs.length lc2)).alloc (.cells #[.slice la2 zs.length lc2] 26)).cell 0
        refine bodyPost_ret (v := .tuple #[.agg #[.slice la2 zs.length lc2], .int .i64 0, .bool false]) (by simp [results, Tryz.results22, go_sem, q]) rfl ⟨_, by rw [HC.out], ?_, Kept.alloc (((k0.trans hk1).trans hk2).set (by simp) _) _⟩
        rw [HC.out]
        rcases o2 with ⟨h1, h2⟩ | ⟨g3, c3, h1, h2, h3, h4⟩
        · exact .inl ⟨h1, h2⟩
        · exact .inr ⟨g3, c3, h1, by omega, h3, (h4.other (p := ⟨w.heap.size + 1, 0, none⟩) (by intro h; simp at h <;> omega) _).kept (Kept.alloc (Below.refl _ _) _)⟩
      | some b =>
        have hfr : freeP 3 b = true := List.find?_some hff
        have hble := b.2.2.1
        have hbs : 3 ≤ b.1.size := by simp [freeP] at hfr; omega
        have hlen : zs.length ≤ 2000 := (slabOk_iff.1 hok).1
        have hT := fun (u : World) (hu : Kept w u) => impl_Take_yes u ao cap zs 2 3 b (hI.kept hu) hl hok (by omega) (by omega) (by omega) hff
        have hns := new_sets (p := p) hbs
        have e1 : objNewC zs p = ((takeL zs b.1 2 3).set (b.1.at' + 1) p, 8 * ((b.1.at' : Nat) : Int) + 5, true) := by rw [e0]; simp [objC, hff]
        have hyl := takeL_length zs b.1 2 3
        obtain ⟨a, ha⟩ : ∃ a : Nat, b.1.at' = a := ⟨_, rfl⟩
        obtain ⟨ys, hys⟩ : ∃ ys, takeL zs b.1 2 3 = ys := ⟨_, rfl⟩
        rw [hys, ha] at hT hns e1
        rw [hys] at hyl
        rw [ha] at hble
        have HC : Hid (objNewC zs p = (ys.set (a + 1) p, 8 * (a : Int) + 5, true)) := e1
        have HT : Hid _ := hT
        have HS : Hid _ := hns
        have ha2 : a < 2000 := by omega
        have hfit : a + 1 + 2 ≤ ys.length := by omega
        have hyb : ys.length ≤ 1048576 := by omega
        clear hI hh hv5 hff e0 e1 hok HCp hfr hbs hT hns ha hys hble hyl
        go_enter Tryz.func22, Tryz.ntmps22
        go_wp2_with (first | (go_at_call 26; refine hLo'.mono ?_; rintro e w1 ⟨lo, lc, rfl, hLy, hk1⟩; have x0 := (b0.kept hk1).cell 0; have HLy : Hid _ := hLy; clear hLy) | (go_at_call 28; refine (HV.out _ lo lc HLy.out).mono ?_; rintro e wx ⟨rfl, rfl⟩))
        refine (HT.out _ (k0.trans hk1)).mono ?_
        rintro e w3 ⟨v3, rfl, o3, hk3⟩
        rcases o3 with ⟨h1, h2⟩ | ⟨g3, c3, rfl, hg3, hc3, hR3⟩
        · rw [h2] at hfit; simp at hfit
        have hs1 := hk1.size
        simp only [World.size_alloc] at hs1
        have kA : Kept w3 (w3.alloc (.cells #[.slice (some ⟨g3, 0, none⟩) ys.length c3] 26)) := Kept.alloc (Below.refl _ _) _
        have kB : Kept w3 ((w3.alloc (.cells #[.slice (some ⟨g3, 0, none⟩) ys.length c3] 26)).alloc (.cells #[.int .i64 p, .int .i64 0] 3)) := kA.alloc _
        have lg3 := hR3.lt
        have bO := Cells.new w3 26 #[.slice (some ⟨g3, 0, none⟩) ys.length c3]
        have bO2 := bO.alloc (.cells #[.int .i64 p, .int .i64 0] 3)
        have y1 := ((b1.kept hk1).kept hk3).kept kB
        have hl3 := ((b1.kept hk1).kept hk3).lt
        have cO := bO.cell 0
        have hsv := lits_ints (w3.alloc (.cells #[.slice (some ⟨g3, 0, none⟩) ys.length c3] 26)) [p, 0] #[.int .i64 p, .int .i64 0] rfl (by simp only [List.mem_cons, List.not_mem_nil, or_false]; rintro z (rfl | rfl); exact hp; omega)
        have hFt := fillBlock_ok _ g3 c3 ys a _ 2 [p, 0] (hR3.kept kB) hsv (by simp) (by simpa using hfit) hc3 hyb
        rw [HS.out] at hFt
        simp only [World.size_alloc, List.length_cons, List.length_nil, Nat.zero_add, Nat.reduceAdd] at hFt
        have HLS : Hid ((ys.set (a + 1) p).length = ys.length) := by simp [Hid]
        clear x0
        go_wp2_with fail
        refine hFt.mono ?_
        rintro e w4 ⟨⟨_, rfl⟩, hR4, hg4⟩
        have o4 := bO2.grown hg4 (by intro e; simp at e; omega)
        have y4 := y1.grown hg4 (by intro e; simp at e; omega)
        have cO4 := o4.cell 0
        have c4 := y4.cell 0
        have f4 := y4.frozen 0
        go_wp2_with fail
        go_region_with (go_at_call 35; refine (impl_RefOf_ok _ _ _).mono ?_; rintro e wx ⟨rfl, rfl⟩)
        all_goals go_wp2_with fail
        all_goals (
          have q := ((y4.set1 (.slice (some ⟨g3, 0, none⟩) ys.length c3)).kept (Below.refl _ _).drew).cell 0
          refine bodyPost_ret (v := .tuple #[.agg #[.slice (some ⟨g3, 0, none⟩) ys.length c3], .int .i64 (vRef 5 (a : Int)), .bool true]) (by simp [results, Tryz.results22, go_sem, q]) rfl ⟨_, by rw [HC.out, vRef_yes (by omega)], by rw [HC.out]; exact .inr ⟨g3, c3, by rw [HLS.out], by omega, by rw [HLS.out]; exact hc3, (hR4.other (p := ⟨w.heap.size + 1, 0, none⟩) (by intro h; simp at h <;> omega) _).kept (Below.refl _ _).drew⟩, ?_⟩
          exact Kept.trans (((((k0.trans hk1).trans hk3).trans kB).grownRow hg4 (fun k e => by cases e; omega)).set (p := ⟨w.heap.size + 1, 0, none⟩) (by simp) _) (Below.refl _ _).drew)
theorem ObjNew_both (zs : List Int) (p : Int) (hl : zs.length ≤ 1048576) (hp : -9223372036854775808 ≤ p ∧ p ≤ 9223372036854775807) : ∃ (rs : List Int) (at' : Int) (ok : Bool), rs.length ≤ 1048576 ∧
    (∀ (w : World) (ao : Option Addr) (cap : Nat), Ints w ao zs → Calls Tryz.prog 22 #[.agg #[.slice ao zs.length cap], .int .i64 p] w fun e w' => ∃ v, e = .returned (.tuple #[.agg #[v], .int .i64 at', .bool ok]) ∧ OwnR w' w.heap.size v rs ∧ Kept w w') ∧
    (∀ (w : World) (ao : Option Addr) (cap : Nat), Ints w ao zs → Calls Tryz.prog 23 #[.agg #[.slice ao zs.length cap], .int .i64 p] w fun e w' => ∃ v, e = .returned (.tuple #[.agg #[v], .int .i64 at', .bool ok]) ∧ OwnR w' w.heap.size v rs ∧ Kept w w') :=
  ⟨(objNewC zs p).1, (objNewC zs p).2.1, (objNewC zs p).2.2, by have := objNewC_len zs p; omega, fun w ao cap hI => impl_ObjNew_ok w ao cap zs p hI hl hp, fun w ao cap hI => (spec_ObjNew_ok w ao cap zs p hI hl hp).mono (fun _ _ ⟨v, h1, h2, h3, _⟩ => ⟨v, h1, h2, h3⟩)⟩
end Go.Proofs.YtpknahmnkfimhaaGreat
namespace Go.Proofs.YtpknahmnkfimhaaGreat
open Go.RowKit

def propR (zs : List Int) (obj name v : Int) : Bool := heapR zs && isOb zs obj && valR zs 7 name && valR zs 10 v
theorem roots3 {zs : List Int} {a b c : Int} : rootsR zs [a, b, c] = (heapR zs && ((leadsR zs a 5 && leadsR zs b 5) && leadsR zs c 5)) := by
  unfold rootsR leadAll
  rw [show [a, b, c].length = 3 from rfl, allR_succ, allR_succ, allR_succ, allR_zero]
  simp [hz]
theorem prop_is {zs : List Int} {obj name v : Int} : (decide (name % 8 = 4) && decide (v % 8 ≠ 7) && isR zs [obj, name, v] 5) = propR zs obj name v := by
  unfold propR isR isOb
  rw [val7, val10, roots3, show hz [obj, name, v] 0 = obj from rfl]
  unfold plainR
  by_cases h5 : obj % 8 = 5
  · by_cases h4 : name % 8 = 4
    · by_cases h7 : v % 8 = 7
      · simp [h7]
      · rw [leads_any (v := obj) (by omega) 5 0, leads_any (v := name) (by omega) 5 0, leads_any (v := v) h7 5 0]
        simp [h5, h4, h7, Bool.and_assoc]
    · simp [h4]
  · simp [h5]
theorem propC_no {zs : List Int} {obj name v : Int} (h : propR zs obj name v = false) : propC zs obj name v = (zeroL zs, false) := by
  unfold propC
  rw [prop_is, h]
  simp
theorem propC_round {zs : List Int} {obj name v : Int} (h : roundR zs obj = true) : propC zs obj name v = (zeroL zs, false) := by
  unfold propC
  rw [h]
  simp
theorem propC_yes {zs : List Int} {obj name v : Int} (h : propR zs obj name v = true) (hr : roundR zs obj = false) : propC zs obj name v = ((setC zs obj name v).1, (setC zs obj name v).2.2) := by
  unfold propC
  rw [prop_is, h, hr]
  simp
theorem setC_there {zs : List Int} {obj name v v' : Int} {ps : List Nat} {q : Nat} (hA : All zs (hz zs (plc obj + 2)) ps v') (hn : namedP zs name ps = some q) : setC zs obj name v = (zs.set (q + 2) v, -1, true) := by
  unfold setC
  rw [hA.cell (name := name), hn]
  simp
theorem setC_full {zs : List Int} {obj name v v' : Int} {ps : List Nat} (hA : All zs (hz zs (plc obj + 2)) ps v') (hn : namedP zs name ps = none) (hf : ffB zs 4 = none) : setC zs obj name v = (zs, -1, false) := by
  unfold setC
  rw [hA.cell (name := name), hn, hf]
  simp
/-- Where the link behind all cells lies. -/
def tailP (a : Nat) (ps : List Nat) : Nat := match ps.getLast? with | some p => p + 3 | none => a + 2
theorem setC_new {zs : List Int} {obj name v : Int} {ps : List Nat} {a : Nat} {b : BkOf zs.length} (hA : All zs (hz zs (plc obj + 2)) ps 0) (hn : namedP zs name ps = none) (hf : ffB zs 4 = some b) (ha : obj / 8 = a) :
    setC zs obj name v = ((((takeL zs b.1 3 4).set (b.1.at' + 1) name).set (b.1.at' + 2) v).set (tailP a ps) (8 * ((b.1.at' : Nat) : Int) + 7), ((b.1.at' : Nat) : Int), true) := by
  unfold setC
  have e1 : (cellF zs name zs.length (hz zs (plc obj + 2)) (-1)).1 = -1 := by rw [hA.cell (name := name), hn]
  have e2 := hA.last hn
  have e3 : linkAt obj (lastP ps (-1)) = tailP a ps := by
    unfold linkAt lastP tailP
    cases ps.getLast? with
    | none => simp [plc_is ha]
    | some p =>
      show (if ((p : Nat) : Int) < 0 then _ else ((p : Nat) : Int).toNat + 3) = p + 3
      rw [if_neg (by omega), Int.toNat_natCast]
  rw [e1, e2, hf, if_neg (show ¬ (0 : Int) ≤ -1 by omega), e3]
theorem hz_taken4 {zs : List Int} {b : BkOf zs.length} {k j : Nat} (h4 : 4 ≤ b.1.size) (h1 : 1 ≤ j) (h2 : j < 4) : hz (takeL zs b.1 k 4) (b.1.at' + j) = 0 := by
  have hle := b.2.2.1
  unfold takeL
  split
  · rw [hz_layL (by simp; omega) (by omega), if_neg (by omega), if_pos (by omega)]
  · rw [hz_layL (by omega) (by omega), if_neg (by omega), if_pos (by omega)]
theorem cell_sets {zs : List Int} {b : BkOf zs.length} {n v : Int} (h4 : 4 ≤ b.1.size) : sets (takeL zs b.1 3 4) (b.1.at' + 1) [n, v, 0] = ((takeL zs b.1 3 4).set (b.1.at' + 1) n).set (b.1.at' + 2) v := by
  have hle := b.2.2.1
  have hl := takeL_length zs b.1 3 4
  show (((takeL zs b.1 3 4).set (b.1.at' + 1) n).set (b.1.at' + 1 + 1) v).set (b.1.at' + 1 + 1 + 1) 0 = _
  refine set_same (by simp; omega) ?_
  rw [hz_set (by simp; omega), if_neg (by omega), hz_set (by omega), if_neg (by omega)]
  exact hz_taken4 (zs := zs) (b := b) (k := 3) (j := 3) h4 (by omega) (by omega)
theorem tailP_lt {zs : List Int} {a : Nat} {v v' : Int} {ps : List Nat} (hA : All zs v ps v') (ha : a + 3 ≤ zs.length) : tailP a ps < zs.length := by
  unfold tailP
  cases h : ps.getLast? with
  | none => show a + 2 < _; omega
  | some p =>
    have := hA.le p (List.mem_of_getLast? h)
    show p + 3 < _
    omega
theorem namedP_le {zs : List Int} {name v v' : Int} {ps : List Nat} {q : Nat} (hA : All zs v ps v') (hn : namedP zs name ps = some q) : q + 4 ≤ zs.length := hA.le q (List.mem_of_find?_eq_some hn)
end Go.Proofs.YtpknahmnkfimhaaGreat
namespace Go.Proofs.YtpknahmnkfimhaaGreat
open Go.RowKit

theorem goal_pos1 (r k : Int) : 1 ≤ goalR r k := by
  unfold goalR
  repeat' split
  all_goals omega
/-- Blocks that are not free stay, of their kind. -/
def Stays (zs zs' : List Int) : Prop := ∀ a : Int, 1 ≤ kindAt zs a → kindAt zs' a = kindAt zs a
theorem valR_mono {zs zs' : List Int} (h : Stays zs zs') {r v : Int} (hv : valR zs r v = true) : valR zs' r v = true := by
  unfold valR at hv ⊢
  simp only [Bool.and_eq_true, Bool.or_eq_true, Bool.not_eq_true', decide_eq_true_eq, decide_eq_false_iff_not] at hv ⊢
  refine ⟨hv.1, ?_⟩
  rcases hv.2 with h4 | h4
  · exact .inl h4
  · right
    rw [h _ (by rw [h4]; exact goal_pos1 _ _), h4]
theorem wordR_mono {zs zs' : List Int} (h : Stays zs zs') {r v : Int} (hv : wordR zs r v = true) : wordR zs' r v = true := by
  unfold wordR at hv ⊢
  repeat' split
  all_goals (repeat' split at hv)
  all_goals first | exact hv | exact valR_mono h hv | (exfalso; omega) | contradiction
theorem blkR_mono {zs zs' : List Int} (h : Stays zs zs') {a s q : Nat} (hw : ∀ j, a < j → j < a + s → hz zs' j = hz zs j) (hs : 2 ≤ s) (hb : blkR zs a s q = true) : blkR zs' a s q = true := by
  unfold blkR at hb ⊢
  rw [Bool.and_eq_true, wordsR_iff] at hb ⊢
  rw [hw (a + 1) (by omega) (by omega)]
  exact ⟨hb.1, fun i h1 h2 => by rw [hw (a + i) (by omega) (by omega)]; exact wordR_mono h (hb.2 i h1 h2)⟩
theorem heapR_iff {zs : List Int} : heapR zs = true ↔ slabOk zs = true ∧ ∀ x ∈ raw (blocks zs), blkR zs x.at' x.size x.kind = true := by
  unfold heapR allB
  rw [Bool.and_eq_true, List.all_eq_true]
  refine and_congr_right fun _ => ⟨fun h x hx => ?_, fun h b hb => h b.1 (List.mem_map.2 ⟨b, hb, rfl⟩)⟩
  obtain ⟨b, hb, rfl⟩ := List.mem_map.1 hx
  exact h b hb
theorem kind_raw {zs : List Int} {a : Int} (h : 1 ≤ kindAt zs a) : ∃ x ∈ raw (blocks zs), ((x.at' : Nat) : Int) = a ∧ ((x.kind : Nat) : Int) = kindAt zs a := by
  unfold kindAt at h ⊢
  cases hb : atB zs a with
  | none => rw [hb] at h; simp at h
  | some b =>
    obtain ⟨_, e, _, _, _, hm⟩ := atB_some hb
    exact ⟨b.1, List.mem_map.2 ⟨b, hm, rfl⟩, e, rfl⟩
/-- A free block of a right heap turns into a block that is right, and maybe a free one behind it. -/
theorem take_heap {zs zs' : List Int} {b : Bk} {s' kind : Nat} (hh : heapR zs = true) (hb : b ∈ raw (blocks zs)) (hfree : b.kind = 0) (hl : zs'.length = zs.length) (h2 : 2 ≤ s') (hs : s' = b.size ∨ s' + 2 ≤ b.size) (h5 : kind ≤ 5)
    (e1 : hz zs' b.at' = 8 * (s' : Int) + (kind : Int)) (e2 : s' + 2 ≤ b.size → hz zs' (b.at' + s') = 8 * ((b.size : Int) - (s' : Int))) (e3 : ∀ j, j < b.at' ∨ b.at' + b.size ≤ j → hz zs' j = hz zs j) (hnew : Stays zs zs' → blkR zs' b.at' s' kind = true) :
    heapR zs' = true ∧ Stays zs zs' ∧ ⟨b.at', s', kind⟩ ∈ raw (blocks zs') ∧ (∀ x ∈ raw (blocks zs'), x.at' = b.at' ∨ x.kind = 0 ∨ (x ∈ raw (blocks zs) ∧ (x.at' + x.size ≤ b.at' ∨ b.at' + b.size ≤ x.at'))) := by
  obtain ⟨hok, hall0⟩ := heapR_iff.1 hh
  have hw := Seg.whole hok
  have hlen := (slabOk_iff.1 hok).1
  obtain ⟨p, r, e⟩ := List.append_of_mem hb
  rw [e] at hw
  obtain ⟨m, h1, hm⟩ := hw.split
  obtain ⟨eb, hg, hr⟩ := hm.head
  have ea : m = b.at' := by rw [eb]
  have es : sz zs m = b.size := by rw [eb]
  rw [es, ea] at hr
  rw [ea] at h1
  have hle := hg.le
  rw [es, ea] at hle
  have h1' : Seg zs' 0 p b.at' := h1.same hl (fun j _ hj => e3 j (.inl hj))
  have hr' : Seg zs' (b.at' + b.size) r zs'.length := by rw [hl]; exact hr.same hl (fun j hj _ => e3 j (.inr hj))
  have main : ∀ mid : List Bk, Seg zs' b.at' (⟨b.at', s', kind⟩ :: mid) (b.at' + b.size) → (∀ x ∈ mid, x.kind = 0) → heapR zs' = true ∧ Stays zs zs' ∧ ⟨b.at', s', kind⟩ ∈ raw (blocks zs') ∧ (∀ x ∈ raw (blocks zs'), x.at' = b.at' ∨ x.kind = 0 ∨ (x ∈ raw (blocks zs) ∧ (x.at' + x.size ≤ b.at' ∨ b.at' + b.size ≤ x.at'))) := by
    intro mid hmid hmf
    have hall := h1'.app (hmid.app hr')
    obtain ⟨ok', eb'⟩ := hall.slab (by omega)
    have hst : Stays zs zs' := by
      intro a ha
      obtain ⟨x, hx, hxa, hxk⟩ := kind_raw ha
      have hx' : x ∈ raw (blocks zs') := by
        rw [eb']
        rw [e] at hx
        rcases List.mem_append.1 hx with hx | hx
        · simp [hx]
        · rcases List.mem_cons.1 hx with rfl | hx
          · rw [hfree] at hxk; omega
          · simp [hx]
      have := (Seg.foundM ok' hx').1
      rw [← hxa, this, hxk, hxa]
    refine ⟨heapR_iff.2 ⟨ok', fun x hx => ?_⟩, hst, by rw [eb']; simp, fun x hx => ?_⟩
    rotate_left
    · rw [eb'] at hx
      rcases List.mem_append.1 hx with hx | hx
      · have hbd := h1.bd x hx
        exact .inr (.inr ⟨by rw [e]; simp [hx], .inl (by omega)⟩)
      · rcases List.mem_append.1 hx with hx | hx
        · rcases List.mem_cons.1 hx with rfl | hx
          · exact .inl rfl
          · exact .inr (.inl (hmf x hx))
        · have hbd := hr.bd x hx
          exact .inr (.inr ⟨by rw [e]; simp [hx], .inr (by omega)⟩)
    rw [eb'] at hx
    rcases List.mem_append.1 hx with hx | hx
    · have hbd := h1.bd x hx
      exact blkR_mono hst (fun j hj1 hj2 => e3 j (.inl (by omega))) hbd.2.2.1 (hall0 x (by rw [e]; simp [hx]))
    · rcases List.mem_append.1 hx with hx | hx
      · rcases List.mem_cons.1 hx with rfl | hx
        · exact hnew hst
        · rw [hmf x hx]; exact blk_free _ _ _
      · have hbd := hr.bd x hx
        exact blkR_mono hst (fun j hj1 hj2 => e3 j (.inr (by omega))) hbd.2.2.1 (hall0 x (by rw [e]; simp [hx]))
  rcases hs with rfl | hs
  · exact main [] (Seg.one (by omega) h2 h5 e1) (by simp)
  · have hm' : Seg zs' b.at' [⟨b.at', s', kind⟩] (b.at' + s') := Seg.one (by omega) h2 h5 e1
    have hm2 : Seg zs' (b.at' + s') [⟨b.at' + s', b.size - s', 0⟩] (b.at' + s' + (b.size - s')) := Seg.one (by omega) (by omega) (by omega) (by rw [e2 hs]; omega)
    rw [show b.at' + s' + (b.size - s') = b.at' + b.size by omega] at hm2
    exact main [⟨b.at' + s', b.size - s', 0⟩] (hm'.app hm2) (by simp)
end Go.Proofs.YtpknahmnkfimhaaGreat
namespace Go.Proofs.YtpknahmnkfimhaaGreat
open Go.RowKit

theorem set_heap {zs zs' : List Int} {b : Bk} (hh : heapR zs = true) (hb : b ∈ raw (blocks zs)) (hl : zs'.length = zs.length) (e1 : hz zs' b.at' = hz zs b.at') (e3 : ∀ j, j < b.at' ∨ b.at' + b.size ≤ j → hz zs' j = hz zs j) (hnew : Stays zs zs' → blkR zs' b.at' b.size b.kind = true) :
    heapR zs' = true ∧ Stays zs zs' := by
  obtain ⟨hok, hall0⟩ := heapR_iff.1 hh
  have hw := Seg.whole hok
  have hlen := (slabOk_iff.1 hok).1
  obtain ⟨p, r, e⟩ := List.append_of_mem hb
  rw [e] at hw
  obtain ⟨m, h1, hm⟩ := hw.split
  obtain ⟨eb, hg, hr⟩ := hm.head
  have ea : m = b.at' := by rw [eb]
  have es : sz zs m = b.size := by rw [eb]
  have ek : kd zs m = b.kind := by rw [eb]
  have hle := hg.le
  have hI := hg.szI
  have hK := kdI zs m
  have h5 := hg.kd5
  have h2 := hg.sz2
  rw [es, ea] at hr
  rw [ea] at h1
  rw [es, ea] at hle hI
  rw [ek, ea] at hK
  rw [es] at h2
  rw [ek] at h5
  have h1' : Seg zs' 0 p b.at' := h1.same hl (fun j _ hj => e3 j (.inl hj))
  have hr' : Seg zs' (b.at' + b.size) r zs'.length := by rw [hl]; exact hr.same hl (fun j hj _ => e3 j (.inr hj))
  have hmid : Seg zs' b.at' [⟨b.at', b.size, b.kind⟩] (b.at' + b.size) := Seg.one (by omega) h2 h5 (by rw [e1]; omega)
  obtain ⟨ok', eb'⟩ := (h1'.app (hmid.app hr')).slab (by omega)
  have eall : raw (blocks zs') = raw (blocks zs) := by rw [eb', e]; rfl
  have hst : Stays zs zs' := by
    intro a ha
    obtain ⟨x, hx, hxa, hxk⟩ := kind_raw ha
    have := (Seg.foundM ok' (by rw [eall]; exact hx)).1
    rw [← hxa, this, hxk, hxa]
  refine ⟨heapR_iff.2 ⟨ok', fun x hx => ?_⟩, hst⟩
  have hx0 : x ∈ raw (blocks zs) := by rw [← eall]; exact hx
  rw [e] at hx0
  rcases List.mem_append.1 hx0 with hx1 | hx1
  · have hbd := h1.bd x hx1
    exact blkR_mono hst (fun j hj1 hj2 => e3 j (.inl (by omega))) hbd.2.2.1 (hall0 x (by rw [e]; simp [hx1]))
  · rcases List.mem_cons.1 hx1 with rfl | hx1
    · exact hnew hst
    · have hbd := hr.bd x hx1
      exact blkR_mono hst (fun j hj1 hj2 => e3 j (.inr (by omega))) hbd.2.2.1 (hall0 x (by rw [e]; simp [hx1]))
theorem new_heap {zs : List Int} {p : Int} {b : BkOf zs.length} (hh : heapR zs = true) (hp : valR zs 5 p = true) (hff : ffB zs 3 = some b) :
    heapR ((takeL zs b.1 2 3).set (b.1.at' + 1) p) = true ∧ Stays zs ((takeL zs b.1 2 3).set (b.1.at' + 1) p) ∧ kindAt ((takeL zs b.1 2 3).set (b.1.at' + 1) p) (b.1.at' : Nat) = 2 ∧ hz ((takeL zs b.1 2 3).set (b.1.at' + 1) p) (b.1.at' + 2) = 0 := by
  have hfr : b.1.kind = 0 ∧ (3 : Int) ≤ (b.1.size : Int) := by
    have := List.find?_some hff
    simpa [freeP] using this
  have hm : b.1 ∈ raw (blocks zs) := List.mem_map.2 ⟨b, List.mem_of_find?_eq_some hff, rfl⟩
  have hbs := b.2
  have hlT := takeL_length zs b.1 2 3
  obtain ⟨rs, hrs⟩ : ∃ rs, (takeL zs b.1 2 3).set (b.1.at' + 1) p = rs := ⟨_, rfl⟩
  have hz' : ∀ j, hz rs j = if j = b.1.at' + 1 then p else hz (takeL zs b.1 2 3) j := fun j => by rw [← hrs, hz_set (by omega)]
  have hlR : rs.length = zs.length := by rw [← hrs, List.length_set, hlT]
  have obj : ∀ s' : Nat, 3 ≤ s' → s' ≤ 4 → hz rs (b.1.at' + 1) = p → hz rs (b.1.at' + 2) = 0 → (s' = 4 → hz rs (b.1.at' + 3) = 0) → Stays zs rs → blkR rs b.1.at' s' 2 = true := by
    intro s' h3 h4 w1 w2 w3 hst
    rw [blk_obj]
    unfold objR
    have hv := valR_mono hst hp
    rw [val5] at hv
    rw [w1, w2]
    simp only [Bool.and_eq_true, decide_eq_true_eq, zeroR_iff]
    refine ⟨⟨⟨⟨h3, h4⟩, by simpa using hv⟩, by simp [nextR]⟩, fun i hi => ?_⟩
    obtain rfl : i = 0 := by omega
    exact w3 (by omega)
  have key : ∃ s' : Nat, (s' = b.1.size ∨ s' + 2 ≤ b.1.size) ∧ 2 ≤ s' ∧ hz rs b.1.at' = 8 * (s' : Int) + ((2 : Nat) : Int) ∧ (s' + 2 ≤ b.1.size → hz rs (b.1.at' + s') = 8 * ((b.1.size : Int) - (s' : Int))) ∧ (∀ j, j < b.1.at' ∨ b.1.at' + b.1.size ≤ j → hz rs j = hz zs j) ∧ (Stays zs rs → blkR rs b.1.at' s' 2 = true) ∧ hz rs (b.1.at' + 2) = 0 := by
    by_cases hs : 3 + 2 ≤ b.1.size
    · have eT : takeL zs b.1 2 3 = layL (zs.set (b.1.at' + 3) (8 * ((b.1.size : Int) - ((3 : Nat) : Int)))) b.1.at' 3 (8 * ((3 : Nat) : Int) + ((2 : Nat) : Int)) := if_pos hs
      have hzT : ∀ j, hz (takeL zs b.1 2 3) j = if j = b.1.at' then 8 * ((3 : Nat) : Int) + ((2 : Nat) : Int) else if b.1.at' < j ∧ j < b.1.at' + 3 then 0 else if j = b.1.at' + 3 then 8 * ((b.1.size : Int) - ((3 : Nat) : Int)) else hz zs j := fun j => by
        rw [eT, hz_layL (by simp; omega) (by omega), hz_set (by omega)]
      have w2 : hz rs (b.1.at' + 2) = 0 := by rw [hz', if_neg (by omega), hzT, if_neg (by omega), if_pos (by omega)]
      refine ⟨3, .inr hs, by omega, ?_, fun _ => ?_, fun j hj => ?_, obj 3 (by omega) (by omega) (by rw [hz', if_pos rfl]) w2 (by omega), w2⟩
      · rw [hz', if_neg (by omega), hzT, if_pos rfl]
      · rw [hz', if_neg (by omega), hzT, if_neg (by omega), if_neg (by omega), if_pos rfl]
      · rw [hz', if_neg (by omega), hzT, if_neg (by omega), if_neg (by omega), if_neg (by omega)]
    · have eT : takeL zs b.1 2 3 = layL zs b.1.at' b.1.size (8 * (b.1.size : Int) + ((2 : Nat) : Int)) := if_neg hs
      have hzT : ∀ j, hz (takeL zs b.1 2 3) j = if j = b.1.at' then 8 * (b.1.size : Int) + ((2 : Nat) : Int) else if b.1.at' < j ∧ j < b.1.at' + b.1.size then 0 else hz zs j := fun j => by
        rw [eT, hz_layL (by omega) (by omega)]
      have w2 : hz rs (b.1.at' + 2) = 0 := by rw [hz', if_neg (by omega), hzT, if_neg (by omega), if_pos (by omega)]
      refine ⟨b.1.size, .inl rfl, by omega, ?_, fun h => by omega, fun j hj => ?_, obj b.1.size (by omega) (by omega) (by rw [hz', if_pos rfl]) w2 (fun h => by rw [hz', if_neg (by omega), hzT, if_neg (by omega), if_pos (by omega)]), w2⟩
      · rw [hz', if_neg (by omega), hzT, if_pos rfl]
      · rw [hz', if_neg (by omega), hzT, if_neg (by omega), if_neg (by omega)]
  rw [hrs]
  obtain ⟨s', k1, k2, k3, k4, k5, k6, k7⟩ := key
  obtain ⟨hR, hst, hin, _⟩ := take_heap (zs' := rs) hh hm hfr.1 hlR k2 k1 (kind := 2) (by omega) k3 k4 k5 k6
  exact ⟨hR, hst, (Seg.foundM (heapR_slab hR) hin).1, k7⟩
/-- A prototype that is set leaves a right heap. -/
theorem proto_heap {zs : List Int} {obj p : Int} {a : Nat} (hh : heapR zs = true) (ho : isOb zs obj = true) (ha : obj / 8 = a) (hp : valR zs 5 p = true) : heapR (zs.set (a + 1) p) = true := by
  obtain ⟨h5, hv⟩ := isOb_facts ho
  have hk := leads_kind hv (by omega)
  rw [h5, ha] at hk
  have hk2 : kindAt zs (a : Int) = 2 := by rw [hk]; simp [wantK]
  obtain ⟨x, hx, hxa, hxk⟩ := kind_raw (zs := zs) (a := (a : Int)) (by rw [hk2]; omega)
  have hxa' : x.at' = a := by omega
  have hxk' : x.kind = 2 := by rw [hk2] at hxk; omega
  have hb := (heapR_iff.1 hh).2 x hx
  obtain ⟨y, hy, hyx⟩ := List.mem_map.1 hx
  have hy2 := y.2
  rw [hyx] at hy2
  rw [hxk', blk_obj] at hb
  unfold objR at hb
  simp only [Bool.and_eq_true, decide_eq_true_eq, zeroR_iff] at hb
  have hz' : ∀ j, hz (zs.set (a + 1) p) j = if j = a + 1 then p else hz zs j := fun j => hz_set (by omega)
  refine (set_heap hh hx (by simp) (by rw [hz', if_neg (by omega)]) (fun j hj => by rw [hz', if_neg (by omega)]) (fun hst => ?_)).1
  rw [hxk', blk_obj]
  unfold objR
  have hvp := valR_mono hst hp
  rw [val5] at hvp
  simp only [Bool.and_eq_true, decide_eq_true_eq, zeroR_iff]
  rw [hz' (x.at' + 1), if_pos (by omega), hz' (x.at' + 2), if_neg (by omega)]
  refine ⟨⟨⟨hb.1.1.1, by simpa using hvp⟩, ?_⟩, fun i hi => by rw [hz', if_neg (by omega)]; exact hb.2 i hi⟩
  have h3 := hb.1.2
  unfold nextR at h3 ⊢
  simp only [Bool.or_eq_true, Bool.and_eq_true, decide_eq_true_eq] at h3 ⊢
  rcases h3 with h3 | ⟨h3, h4⟩
  · exact .inl h3
  · refine .inr ⟨h3, ?_⟩
    have h6 := valR_mono (r := 6) hst (v := hz zs (x.at' + 2)) (by rw [val6]; simp [nextR, h3, h4])
    rw [val6] at h6
    unfold nextR at h6
    simp only [Bool.or_eq_true, Bool.and_eq_true, decide_eq_true_eq] at h6
    rcases h6 with h6 | h6
    · omega
    · exact h6.2
end Go.Proofs.YtpknahmnkfimhaaGreat
namespace Go.Proofs.YtpknahmnkfimhaaGreat
open Go.RowKit
attribute [local go_sem] Plain.and7

def proSetR (zs : List Int) (obj proto : Int) : Bool := heapR zs && isOb zs obj && valR zs 5 proto
def proSetC (zs : List Int) (obj proto : Int) : List Int × Bool := if proSetR zs obj proto = true then (zs.set (plc obj + 1) proto, true) else (zeroL zs, false)
theorem proSetC_len (zs : List Int) (obj proto : Int) : (proSetC zs obj proto).1.length = zs.length ∨ (proSetC zs obj proto).1.length = 0 := by
  unfold proSetC
  split
  · simp
  · exact zeroL_len zs
theorem proSet_is {zs : List Int} {obj proto : Int} : proSetR zs obj proto = (protoR proto && isR zs [obj, proto] 5) := by
  unfold proSetR isR isOb protoR
  rw [val5, roots2, show hz [obj, proto] 0 = obj from rfl]
  by_cases h5 : obj % 8 = 5
  · by_cases h4 : proto % 8 = 5
    · have h1 : ¬ proto = 1 := by omega
      rw [leads_any (v := obj) (by omega) 5 0, leads_any (v := proto) (by omega) 5 0]
      simp [h5, h4, h1, Bool.and_assoc]
    · by_cases h1 : proto = 1
      · subst h1
        rw [leads_any (v := obj) (by omega) 5 0]
        have : leadsR zs 1 5 = true := by simp [leadsR, vOk_is1]
        simp [h5, this]
      · simp [h4, h1]
  · simp [h5]
set_option maxHeartbeats 8000000 in
set_option maxRecDepth 100000 in
theorem impl_ProtoSet_ok (w : World) (ao : Option Addr) (cap : Nat) (zs : List Int) (obj proto : Int) (hI : Ints w ao zs) (hl : zs.length ≤ 1048576) (ho : -9223372036854775808 ≤ obj ∧ obj ≤ 9223372036854775807) (hp : -9223372036854775808 ≤ proto ∧ proto ≤ 9223372036854775807) :
    Calls Tryz.prog 17 #[.agg #[.slice ao zs.length cap], .int .i64 obj, .int .i64 proto] w fun e w' => ∃ v, e = .returned (.tuple #[.agg #[v], .bool (proSetC zs obj proto).2]) ∧ OwnR w' w.heap.size v (proSetC zs obj proto).1 ∧ Kept w w' := by
  have b0 := (Cells.new w 26 #[.slice ao zs.length cap]).alloc (.cells #[.slice none 0 0] 26)
  have b1 := Cells.new (w.alloc (.cells #[.slice ao zs.length cap] 26)) 26 #[.slice none 0 0]
  have k0 : Kept w ((w.alloc (.cells #[.slice ao zs.length cap] 26)).alloc (.cells #[.slice none 0 0] 26)) := (Kept.alloc (Below.refl _ _) _).alloc _
  simp only [World.size_alloc] at b1
  have hLo := heapLayout_ok _ ao cap zs (hI.kept k0) hl
  cases hh : heapR zs with
  | false =>
    have HC : Hid (proSetC zs obj proto = ([], false)) := by simp [Hid, proSetC, proSetR, zeroL, hh]
    have hLo' := hLo.mono (R' := fun e w' => e = .returned (.tuple #[.slice none 0 0, .bool false]) ∧ Kept ((w.alloc (.cells #[.slice ao zs.length cap] 26)).alloc (.cells #[.slice none 0 0] 26)) w') (fun e w' h => ⟨h.1 hh, h.2.2⟩)
    clear hh hI hLo
    go_enter Tryz.func17, Tryz.ntmps17
    go_wp2_with (go_at_call 26; refine hLo'.mono ?_; rintro e w1 ⟨rfl, hk1⟩; have x1 := b1.kept hk1; have d1 := x1.cell 0; have f1 := x1.frozen 0)
    have q := (x1.set1 (.slice none 0 0)).cell 0
    refine bodyPost_ret (v := .tuple #[.agg #[.slice none 0 0], .bool false]) (by simp [results, Tryz.results17, go_sem, q]) rfl ⟨_, by rw [HC.out], by rw [HC.out]; exact .inl ⟨rfl, rfl⟩, (k0.trans hk1).set (by simp) _⟩
  | true =>
    have hLo' := hLo.mono (R' := fun e w' => ∃ lo lc, e = .returned (.tuple #[.slice lo zs.length lc, .bool true]) ∧ Ints w' lo (lyt zs) ∧ Kept ((w.alloc (.cells #[.slice ao zs.length cap] 26)).alloc (.cells #[.slice none 0 0] 26)) w') (fun e w' h => by obtain ⟨lo, lc, h1, h2⟩ := h.2.1 hh; exact ⟨lo, lc, h1, h2, h.2.2⟩)
    have HOb : Hid _ := fun (u : World) (lo : Option Addr) (lc : Nat) (hu : Ints u lo (lyt zs)) => isObject_ok u lo lc zs obj hu ho.1 ho.2
    have HV : Hid _ := fun (u : World) (lo : Option Addr) (lc : Nat) (hu : Ints u lo (lyt zs)) => valueOk_ok u lo lc zs 5 proto hu hp.1 hp.2
    have HCp : Hid _ := fun (u : World) (hu : Kept w u) => copySlab_ok u ao cap zs (hI.kept hu) hl
    have hez : zeroL zs = zs := by simp [zeroL, hh]
    clear hLo
    cases hob : isOb zs obj with
    | false =>
      have HC : Hid (proSetC zs obj proto = (zs, false)) := by simp [Hid, proSetC, proSetR, hez, hob]
      rw [hob] at HOb
      clear hob hI hh HV
      go_enter Tryz.func17, Tryz.ntmps17
      go_wp2_with (first | (go_at_call 26; refine hLo'.mono ?_; rintro e w1 ⟨lo, lc, rfl, hLy, hk1⟩; have x0 := (b0.kept hk1).cell 0; have HLy : Hid _ := hLy; clear hLy) | (go_at_call 29; refine (HCp.out _ (k0.trans hk1)).mono ?_; rintro e w2 ⟨g2, c2, rfl, hg2, hc2, hR2, hk2⟩; have x1 := (b1.kept hk1).kept hk2; have ka : Kept w2 (w2.alloc (.cells #[.slice (some ⟨g2, 0, none⟩) zs.length c2] 26)) := Kept.alloc (Below.refl _ _) _; have y1 := x1.kept ka; have d1 := y1.cell 0; have f1 := y1.frozen 0; have l1 := x1.lt) | (go_at_call 27; refine (HOb.out _ lo lc ((Ints.kept HLy.out hk2).kept ka)).mono ?_; rintro e wx ⟨rfl, rfl⟩))
      have hs1 := hk1.size
      simp only [World.size_alloc] at hs1
      have q := ((x1.set1 (.slice (some ⟨g2, 0, none⟩) zs.length c2)).alloc (.cells #[.slice (some ⟨g2, 0, none⟩) zs.length c2] 26)).cell 0
      refine bodyPost_ret (v := .tuple #[.agg #[.slice (some ⟨g2, 0, none⟩) zs.length c2], .bool false]) (by simp [results, Tryz.results17, go_sem, q]) rfl ⟨_, by rw [HC.out], by rw [HC.out]; exact .inr ⟨g2, c2, rfl, by omega, hc2, (hR2.other (p := ⟨w.heap.size + 1, 0, none⟩) (by intro h; simp at h <;> omega) _).kept (Kept.alloc (Below.refl _ _) _)⟩, Kept.alloc (((k0.trans hk1).trans hk2).set (by simp) _) _⟩
    | true =>
      rw [hob] at HOb
      cases hv5 : valR zs 5 proto with
      | false =>
        have HC : Hid (proSetC zs obj proto = (zs, false)) := by simp [Hid, proSetC, proSetR, hez, hv5]
        rw [hv5] at HV
        clear hob hI hh hv5
        go_enter Tryz.func17, Tryz.ntmps17
        go_wp2_with (first | (go_at_call 26; refine hLo'.mono ?_; rintro e w1 ⟨lo, lc, rfl, hLy, hk1⟩; have x0 := (b0.kept hk1).cell 0; have HLy : Hid _ := hLy; clear hLy) | (go_at_call 29; refine (HCp.out _ (k0.trans hk1)).mono ?_; rintro e w2 ⟨g2, c2, rfl, hg2, hc2, hR2, hk2⟩; have x1 := (b1.kept hk1).kept hk2; have ka : Kept w2 (w2.alloc (.cells #[.slice (some ⟨g2, 0, none⟩) zs.length c2] 26)) := Kept.alloc (Below.refl _ _) _; have y1 := x1.kept ka; have d1 := y1.cell 0; have f1 := y1.frozen 0; have l1 := x1.lt) | (go_at_call 27; refine (HOb.out _ lo lc ((Ints.kept HLy.out hk2).kept ka)).mono ?_; rintro e wx ⟨rfl, rfl⟩) | (go_at_call 28; refine (HV.out _ lo lc ((Ints.kept HLy.out hk2).kept ka)).mono ?_; rintro e wx ⟨rfl, rfl⟩))
        have hs1 := hk1.size
        simp only [World.size_alloc] at hs1
        have q := ((x1.set1 (.slice (some ⟨g2, 0, none⟩) zs.length c2)).alloc (.cells #[.slice (some ⟨g2, 0, none⟩) zs.length c2] 26)).cell 0
        refine bodyPost_ret (v := .tuple #[.agg #[.slice (some ⟨g2, 0, none⟩) zs.length c2], .bool false]) (by simp [results, Tryz.results17, go_sem, q]) rfl ⟨_, by rw [HC.out], by rw [HC.out]; exact .inr ⟨g2, c2, rfl, by omega, hc2, (hR2.other (p := ⟨w.heap.size + 1, 0, none⟩) (by intro h; simp at h <;> omega) _).kept (Kept.alloc (Below.refl _ _) _)⟩, Kept.alloc (((k0.trans hk1).trans hk2).set (by simp) _) _⟩
      | true =>
        obtain ⟨h5, hv⟩ := isOb_facts hob
        obtain ⟨a, s, ha, hle, hs, _, _, hnx⟩ := obj_facts hh h5 hv
        have HC : Hid (proSetC zs obj proto = (zs.set (a + 1) proto, true)) := by simp [Hid, proSetC, proSetR, hh, hob, hv5, plc_is ha]
        rw [hv5] at HV
        have hNm := fun (u : World) => impl_Num_ok obj u ho.1 ho.2
        rw [ha] at hNm
        have p1 : (a : Int) + 1 < (zs.length : Int) := by omega
        have t1 : ((a : Int) + 1).toNat = a + 1 := by omega
        have wr1 : IntKind.i64.wrap ((a : Int) + 1) = (a : Int) + 1 := by rw [IntWalk.i64_left, IntWalk.wrap64_in _ (by omega)]
        clear hob hI hh hv5 h5 hv ha hnx
        go_enter Tryz.func17, Tryz.ntmps17
        go_wp2_with (first | (go_at_call 26; refine hLo'.mono ?_; rintro e w1 ⟨lo, lc, rfl, hLy, hk1⟩; have x0 := (b0.kept hk1).cell 0; have HLy : Hid _ := hLy; clear hLy) | (go_at_call 29; refine (HCp.out _ (k0.trans hk1)).mono ?_; rintro e w2 ⟨g2, c2, rfl, hg2, hc2, hR2, hk2⟩; have x1 := (b1.kept hk1).kept hk2; have ka : Kept w2 (w2.alloc (.cells #[.slice (some ⟨g2, 0, none⟩) zs.length c2] 26)) := Kept.alloc (Below.refl _ _) _) | (go_at_call 27; refine (HOb.out _ lo lc ((Ints.kept HLy.out hk2).kept ka)).mono ?_; rintro e wx ⟨rfl, rfl⟩) | (go_at_call 28; refine (HV.out _ lo lc ((Ints.kept HLy.out hk2).kept ka)).mono ?_; rintro e wx ⟨rfl, rfl⟩))
        have hs1 := hk1.size
        have hs2 := hk2.size
        simp only [World.size_alloc] at hs1
        have lg := hR2.lt
        have xz := Cells.new w2 26 #[.slice (some ⟨g2, 0, none⟩) zs.length c2]
        obtain ⟨W3, hW3⟩ : ∃ W3, w2.alloc (.cells #[.slice (some ⟨g2, 0, none⟩) zs.length c2] 26) = W3 := ⟨_, rfl⟩
        rw [hW3] at ka xz
        simp only [hW3]
        have kd : Kept w2 W3.drew := ka.drew
        have xd := xz.kept (Below.refl _ W3).drew
        have yd := x1.kept kd
        have Rd := hR2.kept kd
        have KK : Kept w W3 := ((k0.trans hk1).trans hk2).trans ka
        have y3 := x1.kept ka
        have R3 := hR2.kept ka
        obtain ⟨BZ, hBZ⟩ : ∃ BZ, w2.heap.size = BZ := ⟨_, rfl⟩
        have lx := x1.lt
        rw [hBZ] at xd xz lg lx hs2
        simp only [hBZ]
        clear hBZ hW3 ka kd hR2 x1 x0 b0 b1 k0 hLo' hk1 hk2 HCp HV HOb
        have cz := xd.cell 0
        have cg := Rd.cell (j := a + 1) (by omega)
        have fg := Rd.frozen (a + 1)
        go_region_with (go_at_call 24; refine (hNm _).mono ?_; rintro e wx ⟨rfl, rfl⟩)
        all_goals (
          have R4 := (R3.set (k := a + 1) (v := proto) (by omega) hp).kept (Below.refl _ _).drew
          have x4 := (xz.other (p := ⟨g2, a + 1, none⟩) (by simp; omega) (.int .i64 proto)).kept (Below.refl _ _).drew
          have y4 := (y3.other (p := ⟨g2, a + 1, none⟩) (by simp; omega) (.int .i64 proto)).kept (Below.refl _ _).drew
          have K4 := (KK.set (p := ⟨g2, a + 1, none⟩) (by simp; omega) (.int .i64 proto)).drew
          obtain ⟨W5, hW5⟩ : ∃ W5, (W3.setCell ⟨g2, a + 1, none⟩ (.int .i64 proto)).drew = W5 := ⟨_, rfl⟩
          rw [hW5] at R4 x4 y4 K4
          simp only [hW5]
          clear hW5
          have q4 := x4.cell 0
          have e4 := y4.cell 0
          have f4 := y4.frozen 0
          clear cz cg fg Rd xd yd KK xz y3 R3
          go_wp2_with fail
          have q := (y4.set1 (.slice (some ⟨g2, 0, none⟩) zs.length c2)).cell 0
          refine bodyPost_ret (v := .tuple #[.agg #[.slice (some ⟨g2, 0, none⟩) zs.length c2], .bool true]) (by simp [results, Tryz.results17, go_sem, q]) rfl ⟨_, by rw [HC.out], by rw [HC.out]; exact .inr ⟨g2, c2, by simp, by omega, by simpa using hc2, R4.other (by intro h; simp at h <;> omega) _⟩, Kept.set K4 (by simp) _⟩)
set_option maxHeartbeats 8000000 in
set_option maxRecDepth 100000 in
theorem spec_ProtoSet_ok (w : World) (ao : Option Addr) (cap : Nat) (zs : List Int) (obj proto : Int) (hI : Ints w ao zs) (hl : zs.length ≤ 1048576) (ho : -9223372036854775808 ≤ obj ∧ obj ≤ 9223372036854775807) (hp : -9223372036854775808 ≤ proto ∧ proto ≤ 9223372036854775807) :
    Calls Tryz.prog 18 #[.agg #[.slice ao zs.length cap], .int .i64 obj, .int .i64 proto] w fun e w' => ∃ v, e = .returned (.tuple #[.agg #[v], .bool (proSetC zs obj proto).2]) ∧ OwnR w' w.heap.size v (proSetC zs obj proto).1 ∧ Kept w w' := by
  have b0 := (Cells.new w 26 #[.slice ao zs.length cap]).alloc (.cells #[.slice none 0 0] 26)
  have b1 := Cells.new (w.alloc (.cells #[.slice ao zs.length cap] 26)) 26 #[.slice none 0 0]
  have k0 : Kept w ((w.alloc (.cells #[.slice ao zs.length cap] 26)).alloc (.cells #[.slice none 0 0] 26)) := (Kept.alloc (Below.refl _ _) _).alloc _
  simp only [World.size_alloc] at b1
  have hP := fun (u : World) => l5ProtoOk_ok proto u
  have HZ : Hid _ := fun (u : World) (hu : Kept w u) => l5Zero_ok u ao cap zs (hI.kept hu) hl
  have c0 := b0.cell 0
  cases hpr : protoR proto with
  | false =>
    have HC : Hid (proSetC zs obj proto = (zeroL zs, false)) := by simp [Hid, proSetC, proSet_is, hpr]
    rw [hpr] at hP
    clear hpr hI
    go_enter Tryz.func18, Tryz.ntmps18
    go_wp2_with (first | (go_at_call 52; refine (hP _).mono ?_; rintro e wx ⟨rfl, rfl⟩) | (go_at_call 40; refine (HZ.out _ k0).mono ?_; rintro e w2 ⟨v2, rfl, o2, hk2, fv2⟩; obtain ⟨la2, lc2, rfl, _⟩ := o2.ints; have x1 := b1.kept hk2; have d1 := x1.cell 0; have f1 := x1.frozen 0; have l1 := x1.lt))
    have q := (x1.set1 (.slice la2 (zeroL zs).length lc2)).cell 0
    refine bodyPost_ret (v := .tuple #[.agg #[.slice la2 (zeroL zs).length lc2], .bool false]) (by simp [results, Tryz.results18, go_sem, q]) rfl ?_
    rw [HC.out]
    refine ⟨_, rfl, ?_, (k0.trans hk2).set (by simp) _⟩
    rcases o2 with ⟨h1, h2⟩ | ⟨g3, c3, h1, h2, h3, h4⟩
    · exact .inl ⟨h1, h2⟩
    · simp only [World.size_alloc] at h2
      exact .inr ⟨g3, c3, h1, by omega, h3, h4.other (by intro h; simp at h <;> omega) _⟩
  | true =>
    rw [hpr] at hP
    have hR := l5Is_at _ ao cap zs [obj, proto] 2 5 #[.int .i64 obj, .int .i64 proto] rfl rfl (by simp only [List.mem_cons, List.not_mem_nil, or_false]; rintro z (rfl | rfl); exact ho; exact hp) (by omega) (by omega) (hI.kept k0) hl
    simp only [World.size_alloc] at hR
    cases hr : isR zs [obj, proto] 5 with
    | false =>
      have HC : Hid (proSetC zs obj proto = (zeroL zs, false)) := by simp [Hid, proSetC, proSet_is, hr]
      rw [hr] at hR
      clear hpr hr hI
      go_enter Tryz.func18, Tryz.ntmps18
      go_wp2_with (first | (go_at_call 52; refine (hP _).mono ?_; rintro e wx ⟨rfl, rfl⟩) | (go_at_call 38; refine hR.mono ?_; rintro e w1 ⟨rfl, hk1⟩; have d0 := (b0.kept hk1).cell 0) | (go_at_call 40; refine (HZ.out _ (k0.trans hk1)).mono ?_; rintro e w2 ⟨v2, rfl, o2, hk2, fv2⟩; obtain ⟨la2, lc2, rfl, _⟩ := o2.ints; have x1 := (b1.kept hk1).kept hk2; have d1 := x1.cell 0; have f1 := x1.frozen 0; have l1 := x1.lt))
      have hs1 := hk1.size
      simp only [World.size_alloc] at hs1
      have q := (x1.set1 (.slice la2 (zeroL zs).length lc2)).cell 0
      refine bodyPost_ret (v := .tuple #[.agg #[.slice la2 (zeroL zs).length lc2], .bool false]) (by simp [results, Tryz.results18, go_sem, q]) rfl ?_
      rw [HC.out]
      refine ⟨_, rfl, ?_, ((k0.trans hk1).trans hk2).set (by simp) _⟩
      rcases o2 with ⟨h1, h2⟩ | ⟨g3, c3, h1, h2, h3, h4⟩
      · exact .inl ⟨h1, h2⟩
      · exact .inr ⟨g3, c3, h1, by omega, h3, h4.other (by intro h; simp at h <;> omega) _⟩
    | true =>
      rw [hr] at hR
      have hps : proSetR zs obj proto = true := by rw [proSet_is, hpr, hr]; rfl
      obtain ⟨hh, h5, hle5⟩ := isR_facts hr
      have hv := hle5 0 (by simp)
      have h5' : obj % 8 = 5 := h5
      obtain ⟨a, s, ha, hle, hs, _, _, hnx⟩ := obj_facts hh h5' hv
      have HC : Hid (proSetC zs obj proto = (zs.set (a + 1) proto, true)) := by simp [Hid, proSetC, hps, plc_is ha]
      have HCp : Hid _ := fun (u : World) (hu : Kept w u) => l2Copy_ok u ao cap zs (hI.kept hu) hl
      have hNm := fun (u : World) => spec_Num_ok obj u
      rw [ha] at hNm
      have p1 : (a : Int) + 1 < (zs.length : Int) := by omega
      have t1 : ((a : Int) + 1).toNat = a + 1 := by omega
      have wr1 : IntKind.i64.wrap ((a : Int) + 1) = (a : Int) + 1 := by rw [IntWalk.i64_left, IntWalk.wrap64_in _ (by omega)]
      clear hpr hr hI hh hle5 hv h5 h5' ha hnx hps HZ
      go_enter Tryz.func18, Tryz.ntmps18
      go_wp2_with (first | (go_at_call 52; refine (hP _).mono ?_; rintro e wx ⟨rfl, rfl⟩) | (go_at_call 38; refine hR.mono ?_; rintro e w1 ⟨rfl, hk1⟩; have d0 := (b0.kept hk1).cell 0) | (go_at_call 42; refine (HCp.out _ (k0.trans hk1)).mono ?_; rintro e w2 ⟨g2, c2, rfl, hg2, hc2, hR2, hk2, _⟩; have x1 := (b1.kept hk1).kept hk2; have ka : Kept w2 (w2.alloc (.cells #[.slice (some ⟨g2, 0, none⟩) zs.length c2] 26)) := Kept.alloc (Below.refl _ _) _))
      have hs1 := hk1.size
      have hs2 := hk2.size
      simp only [World.size_alloc] at hs1
      have lg := hR2.lt
      have xz := Cells.new w2 26 #[.slice (some ⟨g2, 0, none⟩) zs.length c2]
      obtain ⟨W3, hW3⟩ : ∃ W3, w2.alloc (.cells #[.slice (some ⟨g2, 0, none⟩) zs.length c2] 26) = W3 := ⟨_, rfl⟩
      rw [hW3] at ka xz
      simp only [hW3]
      have kd : Kept w2 W3.drew := ka.drew
      have xd := xz.kept (Below.refl _ W3).drew
      have yd := x1.kept kd
      have Rd := hR2.kept kd
      have KK : Kept w W3 := ((k0.trans hk1).trans hk2).trans ka
      have y3 := x1.kept ka
      have R3 := hR2.kept ka
      obtain ⟨BZ, hBZ⟩ : ∃ BZ, w2.heap.size = BZ := ⟨_, rfl⟩
      have lx := x1.lt
      rw [hBZ] at xd xz lg lx hs2
      simp only [hBZ]
      clear hBZ hW3 ka kd hR2 x1 b0 b1 k0 hk1 hk2 HCp c0 d0 hR hP
      have cz := xd.cell 0
      have cg := Rd.cell (j := a + 1) (by omega)
      have fg := Rd.frozen (a + 1)
      go_region_with (go_at_call 44; refine (hNm _).mono ?_; rintro e wx ⟨rfl, rfl⟩)
      all_goals (
        have R4 := (R3.set (k := a + 1) (v := proto) (by omega) hp).kept (Below.refl _ _).drew
        have x4 := (xz.other (p := ⟨g2, a + 1, none⟩) (by simp; omega) (.int .i64 proto)).kept (Below.refl _ _).drew
        have y4 := (y3.other (p := ⟨g2, a + 1, none⟩) (by simp; omega) (.int .i64 proto)).kept (Below.refl _ _).drew
        have K4 := (KK.set (p := ⟨g2, a + 1, none⟩) (by simp; omega) (.int .i64 proto)).drew
        obtain ⟨W5, hW5⟩ : ∃ W5, (W3.setCell ⟨g2, a + 1, none⟩ (.int .i64 proto)).drew = W5 := ⟨_, rfl⟩
        rw [hW5] at R4 x4 y4 K4
        simp only [hW5]
        clear hW5
        have q4 := x4.cell 0
        have e4 := y4.cell 0
        have f4 := y4.frozen 0
        clear cz cg fg Rd xd yd KK xz y3 R3
        go_wp2_with fail
        have q := (y4.set1 (.slice (some ⟨g2, 0, none⟩) zs.length c2)).cell 0
        refine bodyPost_ret (v := .tuple #[.agg #[.slice (some ⟨g2, 0, none⟩) zs.length c2], .bool true]) (by simp [results, Tryz.results18, go_sem, q]) rfl ⟨_, by rw [HC.out], by rw [HC.out]; exact .inr ⟨g2, c2, by simp, by omega, by simpa using hc2, R4.other (by intro h; simp at h <;> omega) _⟩, Kept.set K4 (by simp) _⟩)
theorem ProtoSet_both (zs : List Int) (obj proto : Int) (hl : zs.length ≤ 1048576) (ho : -9223372036854775808 ≤ obj ∧ obj ≤ 9223372036854775807) (hp : -9223372036854775808 ≤ proto ∧ proto ≤ 9223372036854775807) : ∃ (rs : List Int) (ok : Bool), rs.length ≤ 1048576 ∧
    (∀ (w : World) (ao : Option Addr) (cap : Nat), Ints w ao zs → Calls Tryz.prog 17 #[.agg #[.slice ao zs.length cap], .int .i64 obj, .int .i64 proto] w fun e w' => ∃ v, e = .returned (.tuple #[.agg #[v], .bool ok]) ∧ OwnR w' w.heap.size v rs ∧ Kept w w') ∧
    (∀ (w : World) (ao : Option Addr) (cap : Nat), Ints w ao zs → Calls Tryz.prog 18 #[.agg #[.slice ao zs.length cap], .int .i64 obj, .int .i64 proto] w fun e w' => ∃ v, e = .returned (.tuple #[.agg #[v], .bool ok]) ∧ OwnR w' w.heap.size v rs ∧ Kept w w') :=
  ⟨(proSetC zs obj proto).1, (proSetC zs obj proto).2, by have := proSetC_len zs obj proto; omega, fun w ao cap hI => impl_ProtoSet_ok w ao cap zs obj proto hI hl ho hp, fun w ao cap hI => spec_ProtoSet_ok w ao cap zs obj proto hI hl ho hp⟩
end Go.Proofs.YtpknahmnkfimhaaGreat
