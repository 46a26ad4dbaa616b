/-
  The contract of the program's ObjNew as it stands at 54ec384 (by takeFilled), and that it answers as its model.
  Facts on lists: what PropSet asks, in the program and in its model; the new cell behind all others.
  What is taken of a right heap and filled leaves a right heap (facts on lists).
  Facts on lists: a right heap in which a word of a block is written so that the block is right stays right; so does one in which an object is laid.
  The contracts of ProtoSet, the program's and the model's.
  The contracts of the program's tail and PropSet.
-/
import Derived.Deep.RegionWith
import Derived.Deep.CutRange
import Derived.Test.YtpbafjcoomfooaaGreatGrpTu
import Derived.Test.YtpbafjcoomfooaaGreatGrpE
import Derived.Test.YtpbafjcoomfooaaGreatGrpV
import Derived.Test.YtpbafjcoomfooaaGreatSlabX
namespace Go.Proofs.YtpbafjcoomfooaaGreat
open Go.RowKit
attribute [local go_sem] Plain.and7

theorem new_is {zs : List Int} {p : Int} : (protoR p && rootsR zs [p]) = (heapR zs && valR zs 5 p) := by
  rw [val5, roots1]
  unfold protoR
  by_cases h4 : p % 8 = 5
  · have h1 : ¬ p = 1 := by omega
    rw [leads_any (v := p) (by omega) 5 0]
    simp [h4, h1]
  · by_cases h1 : p = 1
    · subst h1
      have : leadsR zs 1 5 = true := by simp [leadsR, vOk_is1]
      simp [this]
    · simp [h4, h1]
theorem hz_taken {zs : List Int} {b : BkOf zs.length} {k j : Nat} (h3 : 3 ≤ b.1.size) (h1 : 1 ≤ j) (h2 : j < 3) : hz (takeL zs b.1 k 3) (b.1.at' + j) = 0 := by
  have hle := b.2.2.1
  unfold takeL
  split
  · rw [hz_layL (by simp; omega) (by omega), if_neg (by omega), if_pos (by omega)]
  · rw [hz_layL (by omega) (by omega), if_neg (by omega), if_pos (by omega)]
theorem set_same {zs : List Int} {j : Nat} (hj : j < zs.length) (h : hz zs j = 0) : zs.set j 0 = zs := by
  apply List.ext_getElem (by simp)
  intro i h1 h2
  rw [List.getElem_set]
  split
  · rename_i e
    subst e
    have : zs[j]?.getD 0 = 0 := h
    rw [List.getElem?_eq_getElem hj] at this
    simpa using this.symm
  · rfl
theorem new_sets {zs : List Int} {b : BkOf zs.length} {p : Int} (h3 : 3 ≤ b.1.size) : sets (takeL zs b.1 2 3) (b.1.at' + 1) [p, 0] = (takeL zs b.1 2 3).set (b.1.at' + 1) p := by
  have hle := b.2.2.1
  have hl := takeL_length zs b.1 2 3
  show ((takeL zs b.1 2 3).set (b.1.at' + 1) p).set (b.1.at' + 1 + 1) 0 = _
  refine set_same (by simp; omega) ?_
  rw [hz_set (by omega), if_neg (by omega)]
  have := hz_taken (zs := zs) (b := b) (k := 2) (j := 2) h3 (by omega) (by omega)
  exact this
set_option maxHeartbeats 8000000 in
set_option maxRecDepth 100000 in
theorem impl_ObjNew_ok (w : World) (ao : Option Addr) (cap : Nat) (zs : List Int) (p : Int) (hI : Ints w ao zs) (hl : zs.length ≤ 1048576) (hp : -9223372036854775808 ≤ p ∧ p ≤ 9223372036854775807) :
    Calls Tryz.prog 32 #[.agg #[.slice ao zs.length cap], .int .i64 p] w fun e w' => ∃ v, e = .returned (.tuple #[.agg #[v], .int .i64 (objNewC zs p).2.1, .bool (objNewC zs p).2.2]) ∧ OwnR w' w.heap.size v (objNewC zs p).1 ∧ Kept w w' := by
  have b0 := (Cells.new w 26 #[.slice ao zs.length cap]).alloc (.cells #[.slice none 0 0] 26)
  have b1 := Cells.new (w.alloc (.cells #[.slice ao zs.length cap] 26)) 26 #[.slice none 0 0]
  have k0 : Kept w ((w.alloc (.cells #[.slice ao zs.length cap] 26)).alloc (.cells #[.slice none 0 0] 26)) := (Kept.alloc (Below.refl _ _) _).alloc _
  simp only [World.size_alloc] at b1
  have hLo := heapLayout_ok _ ao cap zs (hI.kept k0) hl
  cases hh : heapR zs with
  | false =>
    have HC : Hid (objNewC zs p = ([], 0, false)) := by simp [Hid, objNewC, new_is, zeroL, hh]
    have hLo' := hLo.mono (R' := fun e w' => e = .returned (.tuple #[.slice none 0 0, .bool false]) ∧ Kept ((w.alloc (.cells #[.slice ao zs.length cap] 26)).alloc (.cells #[.slice none 0 0] 26)) w') (fun e w' h => ⟨h.1 hh, h.2.2⟩)
    clear hh hI hLo
    go_enter Tryz.func32, Tryz.ntmps32
    go_wp2_with (go_at_call 47; refine hLo'.mono ?_; rintro e w1 ⟨rfl, hk1⟩; have x1 := b1.kept hk1; have d1 := x1.cell 0; have f1 := x1.frozen 0)
    have q := (x1.set1 (.slice none 0 0)).cell 0
    refine bodyPost_ret (v := .tuple #[.agg #[.slice none 0 0], .int .i64 0, .bool false]) (by simp [results, Tryz.results32, go_sem, q]) rfl ⟨_, by rw [HC.out], by rw [HC.out]; exact .inl ⟨rfl, rfl⟩, (k0.trans hk1).set (by simp) _⟩
  | true =>
    have hLo' := hLo.mono (R' := fun e w' => ∃ lo lc, e = .returned (.tuple #[.slice lo zs.length lc, .bool true]) ∧ Ints w' lo (lyt zs) ∧ Kept ((w.alloc (.cells #[.slice ao zs.length cap] 26)).alloc (.cells #[.slice none 0 0] 26)) w') (fun e w' h => by obtain ⟨lo, lc, h1, h2⟩ := h.2.1 hh; exact ⟨lo, lc, h1, h2, h.2.2⟩)
    have HV : Hid _ := fun (u : World) (lo : Option Addr) (lc : Nat) (hu : Ints u lo (lyt zs)) => valueOk_ok u lo lc zs 5 p hu hp.1 hp.2
    have HCp : Hid _ := fun (u : World) (hu : Kept w u) => copySlab_ok u ao cap zs (hI.kept hu) hl
    clear hLo
    cases hv5 : valR zs 5 p with
    | false =>
      have HC : Hid (objNewC zs p = (zs, 0, false)) := by simp [Hid, objNewC, new_is, zeroL, hh, hv5]
      rw [hv5] at HV
      clear hI hh hv5
      go_enter Tryz.func32, Tryz.ntmps32
      go_wp2_with (first | (go_at_call 47; refine hLo'.mono ?_; rintro e w1 ⟨lo, lc, rfl, hLy, hk1⟩; have x0 := (b0.kept hk1).cell 0; have HLy : Hid _ := hLy; clear hLy) | (go_at_call 48; refine (HV.out _ lo lc HLy.out).mono ?_; rintro e wx ⟨rfl, rfl⟩) | (go_at_call 36; refine (HCp.out _ (k0.trans hk1)).mono ?_; rintro e w2 ⟨g2, c2, rfl, hg2, hc2, hR2, hk2⟩; have x1 := (b1.kept hk1).kept hk2; have d1 := x1.cell 0; have f1 := x1.frozen 0; have l1 := x1.lt))
      have hs1 := hk1.size
      simp only [World.size_alloc] at hs1
      have q := (x1.set1 (.slice (some ⟨g2, 0, none⟩) zs.length c2)).cell 0
      refine bodyPost_ret (v := .tuple #[.agg #[.slice (some ⟨g2, 0, none⟩) zs.length c2], .int .i64 0, .bool false]) (by simp [results, Tryz.results32, go_sem, q]) rfl ⟨_, by rw [HC.out], by rw [HC.out]; exact .inr ⟨g2, c2, rfl, by omega, hc2, hR2.other (by intro h; simp at h <;> omega) _⟩, ((k0.trans hk1).trans hk2).set (by simp) _⟩
    | true =>
      have hok := heapR_slab hh
      have e0 : objNewC zs p = objC zs p := by simp [objNewC, new_is, hh, hv5]
      rw [hv5] at HV
      cases hff : ffB zs 3 with
      | none =>
        have HC : Hid (objNewC zs p = (zs, 0, false)) := by rw [Hid, e0]; simp [objC, hff]
        have HT : Hid _ := fun (u : World) (hu : Kept w u) (so : Option Addr) (sl sc : Nat) => takeFilled_no u ao so cap sl sc zs 2 3 (hI.kept hu) hl hok (.inr hff)
        clear hI hh hv5 hff e0 hok HCp
        go_enter Tryz.func32, Tryz.ntmps32
        go_wp2_with (first | (go_at_call 47; refine hLo'.mono ?_; rintro e w1 ⟨lo, lc, rfl, hLy, hk1⟩; have x0 := (b0.kept hk1).cell 0; have HLy : Hid _ := hLy; clear hLy) | (go_at_call 48; refine (HV.out _ lo lc HLy.out).mono ?_; rintro e wx ⟨rfl, rfl⟩))
        refine (HT.out _ ((k0.trans hk1).alloc _) _ _ _).mono ?_
        rintro e w2 ⟨v2, rfl, o2, hk2⟩
        obtain ⟨la2, lc2, rfl, _⟩ := o2.ints
        have kL : Kept w1 (w1.alloc (.cells #[.int .i64 p, .int .i64 0] 3)) := Kept.alloc (Below.refl _ _) _
        have x1 := ((b1.kept hk1).kept kL).kept hk2
        have ka : Kept w2 (w2.alloc (.cells #[.slice la2 zs.length lc2] 26)) := Kept.alloc (Below.refl _ _) _
        have y1 := x1.kept ka
        have d1 := y1.cell 0
        have f1 := y1.frozen 0
        have dx := x1.cell 0
        have fx := x1.frozen 0
        have l1 := x1.lt
        have hs1 := hk1.size
        simp only [World.size_alloc] at hs1
        go_wp2_with fail
        have q := ((x1.set1 (.slice la2 zs.length lc2)).alloc (.cells #[.slice la2 zs.length lc2] 26)).cell 0
        refine bodyPost_ret (v := .tuple #[.agg #[.slice la2 zs.length lc2], .int .i64 0, .bool false]) (by simp [results, Tryz.results32, go_sem, q]) rfl ⟨_, by rw [HC.out], ?_, Kept.alloc ((((k0.trans hk1).trans kL).trans hk2).set (by simp) _) _⟩
        rw [HC.out]
        rcases o2 with ⟨h1, h2⟩ | ⟨g3, c3, h1, h2, h3, h4⟩
        · exact .inl ⟨h1, h2⟩
        · simp only [World.size_alloc] at h2
          exact .inr ⟨g3, c3, h1, by omega, h3, (h4.other (p := ⟨w.heap.size + 1, 0, none⟩) (by intro h; simp at h <;> omega) _).kept (Kept.alloc (Below.refl _ _) _)⟩
      | some b =>
        have hfr : freeP 3 b = true := List.find?_some hff
        have hble := b.2.2.1
        have hbs : 3 ≤ b.1.size := by simp [freeP] at hfr; omega
        have hlen : zs.length ≤ 2000 := (slabOk_iff.1 hok).1
        have hns := new_sets (p := p) hbs
        have hT := fun (u : World) (so : Option Addr) (sc : Nat) (hu : Kept w u) (hS : Ints u so [p, 0]) => takeFilled_yes u ao so cap sc zs [p, 0] 2 3 b (hI.kept hu) hS (by simp) (by simp) hl hok (by omega) (by omega) (by omega) hff
        rw [hns] at hT
        simp only [List.length_cons, List.length_nil, Nat.zero_add, Nat.reduceAdd] at hT
        have e1 : objNewC zs p = ((takeL zs b.1 2 3).set (b.1.at' + 1) p, 8 * ((b.1.at' : Nat) : Int) + 5, true) := by rw [e0]; simp [objC, hff]
        have hyl := takeL_length zs b.1 2 3
        obtain ⟨a, ha⟩ : ∃ a : Nat, b.1.at' = a := ⟨_, rfl⟩
        obtain ⟨ys, hys⟩ : ∃ ys, (takeL zs b.1 2 3).set (a + 1) p = ys := ⟨_, rfl⟩
        have hyl : ys.length = zs.length := by rw [← hys, List.length_set]; exact hyl
        rw [ha] at hT e1 hble
        rw [hys] at hT e1
        have HC : Hid (objNewC zs p = (ys, 8 * (a : Int) + 5, true)) := e1
        have HT : Hid _ := hT
        have ha2 : a < 2000 := by omega
        have hpos : 0 < ys.length := by omega
        clear hI hh hv5 hff e0 e1 hok HCp hfr hbs hT hns ha hys hble hyl
        go_enter Tryz.func32, Tryz.ntmps32
        go_wp2_with (first | (go_at_call 47; refine hLo'.mono ?_; rintro e w1 ⟨lo, lc, rfl, hLy, hk1⟩; have x0 := (b0.kept hk1).cell 0; have HLy : Hid _ := hLy; clear hLy) | (go_at_call 48; refine (HV.out _ lo lc HLy.out).mono ?_; rintro e wx ⟨rfl, rfl⟩))
        have hsv := lits_ints w1 [p, 0] #[.int .i64 p, .int .i64 0] rfl (by simp only [List.mem_cons, List.not_mem_nil, or_false]; rintro z (rfl | rfl); exact hp; omega)
        refine (HT.out _ _ _ ((k0.trans hk1).alloc _) hsv).mono ?_
        rintro e w3 ⟨v3, rfl, o3, hk3⟩
        rcases o3 with ⟨h1, h2⟩ | ⟨g3, c3, rfl, hg3, hc3, hR3⟩
        · rw [h2] at hpos; simp at hpos
        have hs1 := hk1.size
        simp only [World.size_alloc] at hs1 hg3
        have kL : Kept w1 (w1.alloc (.cells #[.int .i64 p, .int .i64 0] 3)) := Kept.alloc (Below.refl _ _) _
        have x1 := ((b1.kept hk1).kept kL).kept hk3
        have ka : Kept w3 (w3.alloc (.cells #[.slice (some ⟨g3, 0, none⟩) ys.length c3] 26)) := Kept.alloc (Below.refl _ _) _
        have y1 := x1.kept ka
        have d1 := y1.cell 0
        have f1 := y1.frozen 0
        have dx := x1.cell 0
        have fx := x1.frozen 0
        have l1 := x1.lt
        clear x0
        go_wp2_with fail
        go_region_with (go_at_call 37; refine (impl_RefOf_ok _ _ _).mono ?_; rintro e wx ⟨rfl, rfl⟩)
        all_goals go_wp2_with fail
        all_goals (
          have q := (((x1.set1 (.slice (some ⟨g3, 0, none⟩) ys.length c3)).alloc (.cells #[.slice (some ⟨g3, 0, none⟩) ys.length c3] 26)).kept (Below.refl _ _).drew).cell 0
          refine bodyPost_ret (v := .tuple #[.agg #[.slice (some ⟨g3, 0, none⟩) ys.length c3], .int .i64 (vRef 5 (a : Int)), .bool true]) (by simp [results, Tryz.results32, go_sem, q]) rfl ⟨_, by rw [HC.out, vRef_yes (by omega)], by rw [HC.out]; exact .inr ⟨g3, c3, rfl, by omega, hc3, ((hR3.other (p := ⟨w.heap.size + 1, 0, none⟩) (by intro h; simp at h <;> omega) _).kept (Kept.alloc (Below.refl _ _) _)).kept (Below.refl _ _).drew⟩, ?_⟩
          exact Kept.trans (Kept.alloc ((((k0.trans hk1).trans kL).trans hk3).set (p := ⟨w.heap.size + 1, 0, none⟩) (by simp) _) _) (Below.refl _ _).drew)
theorem ObjNew_both (zs : List Int) (p : Int) (hl : zs.length ≤ 1048576) (hp : -9223372036854775808 ≤ p ∧ p ≤ 9223372036854775807) : ∃ (rs : List Int) (at' : Int) (ok : Bool), rs.length ≤ 1048576 ∧
    (∀ (w : World) (ao : Option Addr) (cap : Nat), Ints w ao zs → Calls Tryz.prog 32 #[.agg #[.slice ao zs.length cap], .int .i64 p] w fun e w' => ∃ v, e = .returned (.tuple #[.agg #[v], .int .i64 at', .bool ok]) ∧ OwnR w' w.heap.size v rs ∧ Kept w w') ∧
    (∀ (w : World) (ao : Option Addr) (cap : Nat), Ints w ao zs → Calls Tryz.prog 33 #[.agg #[.slice ao zs.length cap], .int .i64 p] w fun e w' => ∃ v, e = .returned (.tuple #[.agg #[v], .int .i64 at', .bool ok]) ∧ OwnR w' w.heap.size v rs ∧ Kept w w') :=
  ⟨(objNewC zs p).1, (objNewC zs p).2.1, (objNewC zs p).2.2, by have := objNewC_len zs p; omega, fun w ao cap hI => impl_ObjNew_ok w ao cap zs p hI hl hp, fun w ao cap hI => (spec_ObjNew_ok w ao cap zs p hI hl hp).mono (fun _ _ ⟨v, h1, h2, h3, _⟩ => ⟨v, h1, h2, h3⟩)⟩
end Go.Proofs.YtpbafjcoomfooaaGreat
namespace Go.Proofs.YtpbafjcoomfooaaGreat
open Go.RowKit

def propR (zs : List Int) (obj name v : Int) : Bool := heapR zs && isOb zs obj && valR zs 7 name && valR zs 10 v
theorem roots3 {zs : List Int} {a b c : Int} : rootsR zs [a, b, c] = (heapR zs && ((leadsR zs a 5 && leadsR zs b 5) && leadsR zs c 5)) := by
  unfold rootsR leadAll
  rw [show [a, b, c].length = 3 from rfl, allR_succ, allR_succ, allR_succ, allR_zero]
  simp [hz]
theorem prop_is {zs : List Int} {obj name v : Int} : (decide (name % 8 = 4) && decide (v % 8 ≠ 7) && isR zs [obj, name, v] 5) = propR zs obj name v := by
  unfold propR isR isOb
  rw [val7, val10, roots3, show hz [obj, name, v] 0 = obj from rfl]
  unfold plainR
  by_cases h5 : obj % 8 = 5
  · by_cases h4 : name % 8 = 4
    · by_cases h7 : v % 8 = 7
      · simp [h7]
      · rw [leads_any (v := obj) (by omega) 5 0, leads_any (v := name) (by omega) 5 0, leads_any (v := v) h7 5 0]
        simp [h5, h4, h7, Bool.and_assoc]
    · simp [h4]
  · simp [h5]
theorem propC_no {zs : List Int} {obj name v : Int} (h : propR zs obj name v = false) : propC zs obj name v = (zeroL zs, false) := by
  unfold propC
  rw [prop_is, h]
  simp
theorem propC_round {zs : List Int} {obj name v : Int} (h : roundR zs obj = true) : propC zs obj name v = (zeroL zs, false) := by
  unfold propC
  rw [h]
  simp
theorem propC_yes {zs : List Int} {obj name v : Int} (h : propR zs obj name v = true) (hr : roundR zs obj = false) : propC zs obj name v = ((setC zs obj name v).1, (setC zs obj name v).2.2) := by
  unfold propC
  rw [prop_is, h, hr]
  simp
theorem setC_there {zs : List Int} {obj name v v' : Int} {ps : List Nat} {q : Nat} (hA : All zs (hz zs (plc obj + 2)) ps v') (hn : namedP zs name ps = some q) : setC zs obj name v = (zs.set (q + 2) v, -1, true) := by
  unfold setC
  rw [hA.cell (name := name), hn]
  simp
theorem setC_full {zs : List Int} {obj name v v' : Int} {ps : List Nat} (hA : All zs (hz zs (plc obj + 2)) ps v') (hn : namedP zs name ps = none) (hf : ffB zs 4 = none) : setC zs obj name v = (zs, -1, false) := by
  unfold setC
  rw [hA.cell (name := name), hn, hf]
  simp
/-- Where the link behind all cells lies. -/
def tailP (a : Nat) (ps : List Nat) : Nat := match ps.getLast? with | some p => p + 3 | none => a + 2
theorem setC_new {zs : List Int} {obj name v : Int} {ps : List Nat} {a : Nat} {b : BkOf zs.length} (hA : All zs (hz zs (plc obj + 2)) ps 0) (hn : namedP zs name ps = none) (hf : ffB zs 4 = some b) (ha : obj / 8 = a) :
    setC zs obj name v = ((((takeL zs b.1 3 4).set (b.1.at' + 1) name).set (b.1.at' + 2) v).set (tailP a ps) (8 * ((b.1.at' : Nat) : Int) + 7), ((b.1.at' : Nat) : Int), true) := by
  unfold setC
  have e1 : (cellF zs name zs.length (hz zs (plc obj + 2)) (-1)).1 = -1 := by rw [hA.cell (name := name), hn]
  have e2 := hA.last hn
  have e3 : linkAt obj (lastP ps (-1)) = tailP a ps := by
    unfold linkAt lastP tailP
    cases ps.getLast? with
    | none => simp [plc_is ha]
    | some p =>
      show (if ((p : Nat) : Int) < 0 then _ else ((p : Nat) : Int).toNat + 3) = p + 3
      rw [if_neg (by omega), Int.toNat_natCast]
  rw [e1, e2, hf, if_neg (show ¬ (0 : Int) ≤ -1 by omega), e3]
theorem hz_taken4 {zs : List Int} {b : BkOf zs.length} {k j : Nat} (h4 : 4 ≤ b.1.size) (h1 : 1 ≤ j) (h2 : j < 4) : hz (takeL zs b.1 k 4) (b.1.at' + j) = 0 := by
  have hle := b.2.2.1
  unfold takeL
  split
  · rw [hz_layL (by simp; omega) (by omega), if_neg (by omega), if_pos (by omega)]
  · rw [hz_layL (by omega) (by omega), if_neg (by omega), if_pos (by omega)]
theorem cell_sets {zs : List Int} {b : BkOf zs.length} {n v : Int} (h4 : 4 ≤ b.1.size) : sets (takeL zs b.1 3 4) (b.1.at' + 1) [n, v, 0] = ((takeL zs b.1 3 4).set (b.1.at' + 1) n).set (b.1.at' + 2) v := by
  have hle := b.2.2.1
  have hl := takeL_length zs b.1 3 4
  show (((takeL zs b.1 3 4).set (b.1.at' + 1) n).set (b.1.at' + 1 + 1) v).set (b.1.at' + 1 + 1 + 1) 0 = _
  refine set_same (by simp; omega) ?_
  rw [hz_set (by simp; omega), if_neg (by omega), hz_set (by omega), if_neg (by omega)]
  exact hz_taken4 (zs := zs) (b := b) (k := 3) (j := 3) h4 (by omega) (by omega)
theorem tailP_lt {zs : List Int} {a : Nat} {v v' : Int} {ps : List Nat} (hA : All zs v ps v') (ha : a + 3 ≤ zs.length) : tailP a ps < zs.length := by
  unfold tailP
  cases h : ps.getLast? with
  | none => show a + 2 < _; omega
  | some p =>
    have := hA.le p (List.mem_of_getLast? h)
    show p + 3 < _
    omega
theorem namedP_le {zs : List Int} {name v v' : Int} {ps : List Nat} {q : Nat} (hA : All zs v ps v') (hn : namedP zs name ps = some q) : q + 4 ≤ zs.length := hA.le q (List.mem_of_find?_eq_some hn)
end Go.Proofs.YtpbafjcoomfooaaGreat
namespace Go.Proofs.YtpbafjcoomfooaaGreat
open Go.RowKit

theorem goal_pos1 (r k : Int) : 1 ≤ goalR r k := by
  unfold goalR
  repeat' split
  all_goals omega
/-- Blocks that are not free stay, of their kind. -/
def Stays (zs zs' : List Int) : Prop := ∀ a : Int, 1 ≤ kindAt zs a → kindAt zs' a = kindAt zs a
theorem valR_mono {zs zs' : List Int} (h : Stays zs zs') {r v : Int} (hv : valR zs r v = true) : valR zs' r v = true := by
  unfold valR at hv ⊢
  simp only [Bool.and_eq_true, Bool.or_eq_true, Bool.not_eq_true', decide_eq_true_eq, decide_eq_false_iff_not] at hv ⊢
  refine ⟨hv.1, ?_⟩
  rcases hv.2 with h4 | h4
  · exact .inl h4
  · right
    rw [h _ (by rw [h4]; exact goal_pos1 _ _), h4]
theorem wordR_mono {zs zs' : List Int} (h : Stays zs zs') {r v : Int} (hv : wordR zs r v = true) : wordR zs' r v = true := by
  unfold wordR at hv ⊢
  repeat' split
  all_goals (repeat' split at hv)
  all_goals first | exact hv | exact valR_mono h hv | (exfalso; omega) | contradiction
theorem blkR_mono {zs zs' : List Int} (h : Stays zs zs') {a s q : Nat} (hw : ∀ j, a < j → j < a + s → hz zs' j = hz zs j) (hs : 2 ≤ s) (hb : blkR zs a s q = true) : blkR zs' a s q = true := by
  unfold blkR at hb ⊢
  rw [Bool.and_eq_true, wordsR_iff] at hb ⊢
  rw [hw (a + 1) (by omega) (by omega)]
  exact ⟨hb.1, fun i h1 h2 => by rw [hw (a + i) (by omega) (by omega)]; exact wordR_mono h (hb.2 i h1 h2)⟩
theorem heapR_iff {zs : List Int} : heapR zs = true ↔ slabOk zs = true ∧ ∀ x ∈ raw (blocks zs), blkR zs x.at' x.size x.kind = true := by
  unfold heapR allB
  rw [Bool.and_eq_true, List.all_eq_true]
  refine and_congr_right fun _ => ⟨fun h x hx => ?_, fun h b hb => h b.1 (List.mem_map.2 ⟨b, hb, rfl⟩)⟩
  obtain ⟨b, hb, rfl⟩ := List.mem_map.1 hx
  exact h b hb
theorem kind_raw {zs : List Int} {a : Int} (h : 1 ≤ kindAt zs a) : ∃ x ∈ raw (blocks zs), ((x.at' : Nat) : Int) = a ∧ ((x.kind : Nat) : Int) = kindAt zs a := by
  unfold kindAt at h ⊢
  cases hb : atB zs a with
  | none => rw [hb] at h; simp at h
  | some b =>
    obtain ⟨_, e, _, _, _, hm⟩ := atB_some hb
    exact ⟨b.1, List.mem_map.2 ⟨b, hm, rfl⟩, e, rfl⟩
/-- A free block of a right heap turns into a block that is right, and maybe a free one behind it. -/
theorem take_heap {zs zs' : List Int} {b : Bk} {s' kind : Nat} (hh : heapR zs = true) (hb : b ∈ raw (blocks zs)) (hfree : b.kind = 0) (hl : zs'.length = zs.length) (h2 : 2 ≤ s') (hs : s' = b.size ∨ s' + 2 ≤ b.size) (h5 : kind ≤ 5)
    (e1 : hz zs' b.at' = 8 * (s' : Int) + (kind : Int)) (e2 : s' + 2 ≤ b.size → hz zs' (b.at' + s') = 8 * ((b.size : Int) - (s' : Int))) (e3 : ∀ j, j < b.at' ∨ b.at' + b.size ≤ j → hz zs' j = hz zs j) (hnew : Stays zs zs' → blkR zs' b.at' s' kind = true) :
    heapR zs' = true ∧ Stays zs zs' ∧ ⟨b.at', s', kind⟩ ∈ raw (blocks zs') ∧ (∀ x ∈ raw (blocks zs'), x.at' = b.at' ∨ x.kind = 0 ∨ (x ∈ raw (blocks zs) ∧ (x.at' + x.size ≤ b.at' ∨ b.at' + b.size ≤ x.at'))) := by
  obtain ⟨hok, hall0⟩ := heapR_iff.1 hh
  have hw := Seg.whole hok
  have hlen := (slabOk_iff.1 hok).1
  obtain ⟨p, r, e⟩ := List.append_of_mem hb
  rw [e] at hw
  obtain ⟨m, h1, hm⟩ := hw.split
  obtain ⟨eb, hg, hr⟩ := hm.head
  have ea : m = b.at' := by rw [eb]
  have es : sz zs m = b.size := by rw [eb]
  rw [es, ea] at hr
  rw [ea] at h1
  have hle := hg.le
  rw [es, ea] at hle
  have h1' : Seg zs' 0 p b.at' := h1.same hl (fun j _ hj => e3 j (.inl hj))
  have hr' : Seg zs' (b.at' + b.size) r zs'.length := by rw [hl]; exact hr.same hl (fun j hj _ => e3 j (.inr hj))
  have main : ∀ mid : List Bk, Seg zs' b.at' (⟨b.at', s', kind⟩ :: mid) (b.at' + b.size) → (∀ x ∈ mid, x.kind = 0) → heapR zs' = true ∧ Stays zs zs' ∧ ⟨b.at', s', kind⟩ ∈ raw (blocks zs') ∧ (∀ x ∈ raw (blocks zs'), x.at' = b.at' ∨ x.kind = 0 ∨ (x ∈ raw (blocks zs) ∧ (x.at' + x.size ≤ b.at' ∨ b.at' + b.size ≤ x.at'))) := by
    intro mid hmid hmf
    have hall := h1'.app (hmid.app hr')
    obtain ⟨ok', eb'⟩ := hall.slab (by omega)
    have hst : Stays zs zs' := by
      intro a ha
      obtain ⟨x, hx, hxa, hxk⟩ := kind_raw ha
      have hx' : x ∈ raw (blocks zs') := by
        rw [eb']
        rw [e] at hx
        rcases List.mem_append.1 hx with hx | hx
        · simp [hx]
        · rcases List.mem_cons.1 hx with rfl | hx
          · rw [hfree] at hxk; omega
          · simp [hx]
      have := (Seg.foundM ok' hx').1
      rw [← hxa, this, hxk, hxa]
    refine ⟨heapR_iff.2 ⟨ok', fun x hx => ?_⟩, hst, by rw [eb']; simp, fun x hx => ?_⟩
    rotate_left
    · rw [eb'] at hx
      rcases List.mem_append.1 hx with hx | hx
      · have hbd := h1.bd x hx
        exact .inr (.inr ⟨by rw [e]; simp [hx], .inl (by omega)⟩)
      · rcases List.mem_append.1 hx with hx | hx
        · rcases List.mem_cons.1 hx with rfl | hx
          · exact .inl rfl
          · exact .inr (.inl (hmf x hx))
        · have hbd := hr.bd x hx
          exact .inr (.inr ⟨by rw [e]; simp [hx], .inr (by omega)⟩)
    rw [eb'] at hx
    rcases List.mem_append.1 hx with hx | hx
    · have hbd := h1.bd x hx
      exact blkR_mono hst (fun j hj1 hj2 => e3 j (.inl (by omega))) hbd.2.2.1 (hall0 x (by rw [e]; simp [hx]))
    · rcases List.mem_append.1 hx with hx | hx
      · rcases List.mem_cons.1 hx with rfl | hx
        · exact hnew hst
        · rw [hmf x hx]; exact blk_free _ _ _
      · have hbd := hr.bd x hx
        exact blkR_mono hst (fun j hj1 hj2 => e3 j (.inr (by omega))) hbd.2.2.1 (hall0 x (by rw [e]; simp [hx]))
  rcases hs with rfl | hs
  · exact main [] (Seg.one (by omega) h2 h5 e1) (by simp)
  · have hm' : Seg zs' b.at' [⟨b.at', s', kind⟩] (b.at' + s') := Seg.one (by omega) h2 h5 e1
    have hm2 : Seg zs' (b.at' + s') [⟨b.at' + s', b.size - s', 0⟩] (b.at' + s' + (b.size - s')) := Seg.one (by omega) (by omega) (by omega) (by rw [e2 hs]; omega)
    rw [show b.at' + s' + (b.size - s') = b.at' + b.size by omega] at hm2
    exact main [⟨b.at' + s', b.size - s', 0⟩] (hm'.app hm2) (by simp)
end Go.Proofs.YtpbafjcoomfooaaGreat
namespace Go.Proofs.YtpbafjcoomfooaaGreat
open Go.RowKit

theorem set_heap {zs zs' : List Int} {b : Bk} (hh : heapR zs = true) (hb : b ∈ raw (blocks zs)) (hl : zs'.length = zs.length) (e1 : hz zs' b.at' = hz zs b.at') (e3 : ∀ j, j < b.at' ∨ b.at' + b.size ≤ j → hz zs' j = hz zs j) (hnew : Stays zs zs' → blkR zs' b.at' b.size b.kind = true) :
    heapR zs' = true ∧ Stays zs zs' := by
  obtain ⟨hok, hall0⟩ := heapR_iff.1 hh
  have hw := Seg.whole hok
  have hlen := (slabOk_iff.1 hok).1
  obtain ⟨p, r, e⟩ := List.append_of_mem hb
  rw [e] at hw
  obtain ⟨m, h1, hm⟩ := hw.split
  obtain ⟨eb, hg, hr⟩ := hm.head
  have ea : m = b.at' := by rw [eb]
  have es : sz zs m = b.size := by rw [eb]
  have ek : kd zs m = b.kind := by rw [eb]
  have hle := hg.le
  have hI := hg.szI
  have hK := kdI zs m
  have h5 := hg.kd5
  have h2 := hg.sz2
  rw [es, ea] at hr
  rw [ea] at h1
  rw [es, ea] at hle hI
  rw [ek, ea] at hK
  rw [es] at h2
  rw [ek] at h5
  have h1' : Seg zs' 0 p b.at' := h1.same hl (fun j _ hj => e3 j (.inl hj))
  have hr' : Seg zs' (b.at' + b.size) r zs'.length := by rw [hl]; exact hr.same hl (fun j hj _ => e3 j (.inr hj))
  have hmid : Seg zs' b.at' [⟨b.at', b.size, b.kind⟩] (b.at' + b.size) := Seg.one (by omega) h2 h5 (by rw [e1]; omega)
  obtain ⟨ok', eb'⟩ := (h1'.app (hmid.app hr')).slab (by omega)
  have eall : raw (blocks zs') = raw (blocks zs) := by rw [eb', e]; rfl
  have hst : Stays zs zs' := by
    intro a ha
    obtain ⟨x, hx, hxa, hxk⟩ := kind_raw ha
    have := (Seg.foundM ok' (by rw [eall]; exact hx)).1
    rw [← hxa, this, hxk, hxa]
  refine ⟨heapR_iff.2 ⟨ok', fun x hx => ?_⟩, hst⟩
  have hx0 : x ∈ raw (blocks zs) := by rw [← eall]; exact hx
  rw [e] at hx0
  rcases List.mem_append.1 hx0 with hx1 | hx1
  · have hbd := h1.bd x hx1
    exact blkR_mono hst (fun j hj1 hj2 => e3 j (.inl (by omega))) hbd.2.2.1 (hall0 x (by rw [e]; simp [hx1]))
  · rcases List.mem_cons.1 hx1 with rfl | hx1
    · exact hnew hst
    · have hbd := hr.bd x hx1
      exact blkR_mono hst (fun j hj1 hj2 => e3 j (.inr (by omega))) hbd.2.2.1 (hall0 x (by rw [e]; simp [hx1]))
theorem new_heap {zs : List Int} {p : Int} {b : BkOf zs.length} (hh : heapR zs = true) (hp : valR zs 5 p = true) (hff : ffB zs 3 = some b) :
    heapR ((takeL zs b.1 2 3).set (b.1.at' + 1) p) = true ∧ Stays zs ((takeL zs b.1 2 3).set (b.1.at' + 1) p) ∧ kindAt ((takeL zs b.1 2 3).set (b.1.at' + 1) p) (b.1.at' : Nat) = 2 ∧ hz ((takeL zs b.1 2 3).set (b.1.at' + 1) p) (b.1.at' + 2) = 0 := by
  have hfr : b.1.kind = 0 ∧ (3 : Int) ≤ (b.1.size : Int) := by
    have := List.find?_some hff
    simpa [freeP] using this
  have hm : b.1 ∈ raw (blocks zs) := List.mem_map.2 ⟨b, List.mem_of_find?_eq_some hff, rfl⟩
  have hbs := b.2
  have hlT := takeL_length zs b.1 2 3
  obtain ⟨rs, hrs⟩ : ∃ rs, (takeL zs b.1 2 3).set (b.1.at' + 1) p = rs := ⟨_, rfl⟩
  have hz' : ∀ j, hz rs j = if j = b.1.at' + 1 then p else hz (takeL zs b.1 2 3) j := fun j => by rw [← hrs, hz_set (by omega)]
  have hlR : rs.length = zs.length := by rw [← hrs, List.length_set, hlT]
  have obj : ∀ s' : Nat, 3 ≤ s' → s' ≤ 4 → hz rs (b.1.at' + 1) = p → hz rs (b.1.at' + 2) = 0 → (s' = 4 → hz rs (b.1.at' + 3) = 0) → Stays zs rs → blkR rs b.1.at' s' 2 = true := by
    intro s' h3 h4 w1 w2 w3 hst
    rw [blk_obj]
    unfold objR
    have hv := valR_mono hst hp
    rw [val5] at hv
    rw [w1, w2]
    simp only [Bool.and_eq_true, decide_eq_true_eq, zeroR_iff]
    refine ⟨⟨⟨⟨h3, h4⟩, by simpa using hv⟩, by simp [nextR]⟩, fun i hi => ?_⟩
    obtain rfl : i = 0 := by omega
    exact w3 (by omega)
  have key : ∃ s' : Nat, (s' = b.1.size ∨ s' + 2 ≤ b.1.size) ∧ 2 ≤ s' ∧ hz rs b.1.at' = 8 * (s' : Int) + ((2 : Nat) : Int) ∧ (s' + 2 ≤ b.1.size → hz rs (b.1.at' + s') = 8 * ((b.1.size : Int) - (s' : Int))) ∧ (∀ j, j < b.1.at' ∨ b.1.at' + b.1.size ≤ j → hz rs j = hz zs j) ∧ (Stays zs rs → blkR rs b.1.at' s' 2 = true) ∧ hz rs (b.1.at' + 2) = 0 := by
    by_cases hs : 3 + 2 ≤ b.1.size
    · have eT : takeL zs b.1 2 3 = layL (zs.set (b.1.at' + 3) (8 * ((b.1.size : Int) - ((3 : Nat) : Int)))) b.1.at' 3 (8 * ((3 : Nat) : Int) + ((2 : Nat) : Int)) := if_pos hs
      have hzT : ∀ j, hz (takeL zs b.1 2 3) j = if j = b.1.at' then 8 * ((3 : Nat) : Int) + ((2 : Nat) : Int) else if b.1.at' < j ∧ j < b.1.at' + 3 then 0 else if j = b.1.at' + 3 then 8 * ((b.1.size : Int) - ((3 : Nat) : Int)) else hz zs j := fun j => by
        rw [eT, hz_layL (by simp; omega) (by omega), hz_set (by omega)]
      have w2 : hz rs (b.1.at' + 2) = 0 := by rw [hz', if_neg (by omega), hzT, if_neg (by omega), if_pos (by omega)]
      refine ⟨3, .inr hs, by omega, ?_, fun _ => ?_, fun j hj => ?_, obj 3 (by omega) (by omega) (by rw [hz', if_pos rfl]) w2 (by omega), w2⟩
      · rw [hz', if_neg (by omega), hzT, if_pos rfl]
      · rw [hz', if_neg (by omega), hzT, if_neg (by omega), if_neg (by omega), if_pos rfl]
      · rw [hz', if_neg (by omega), hzT, if_neg (by omega), if_neg (by omega), if_neg (by omega)]
    · have eT : takeL zs b.1 2 3 = layL zs b.1.at' b.1.size (8 * (b.1.size : Int) + ((2 : Nat) : Int)) := if_neg hs
      have hzT : ∀ j, hz (takeL zs b.1 2 3) j = if j = b.1.at' then 8 * (b.1.size : Int) + ((2 : Nat) : Int) else if b.1.at' < j ∧ j < b.1.at' + b.1.size then 0 else hz zs j := fun j => by
        rw [eT, hz_layL (by omega) (by omega)]
      have w2 : hz rs (b.1.at' + 2) = 0 := by rw [hz', if_neg (by omega), hzT, if_neg (by omega), if_pos (by omega)]
      refine ⟨b.1.size, .inl rfl, by omega, ?_, fun h => by omega, fun j hj => ?_, obj b.1.size (by omega) (by omega) (by rw [hz', if_pos rfl]) w2 (fun h => by rw [hz', if_neg (by omega), hzT, if_neg (by omega), if_pos (by omega)]), w2⟩
      · rw [hz', if_neg (by omega), hzT, if_pos rfl]
      · rw [hz', if_neg (by omega), hzT, if_neg (by omega), if_neg (by omega)]
  rw [hrs]
  obtain ⟨s', k1, k2, k3, k4, k5, k6, k7⟩ := key
  obtain ⟨hR, hst, hin, _⟩ := take_heap (zs' := rs) hh hm hfr.1 hlR k2 k1 (kind := 2) (by omega) k3 k4 k5 k6
  exact ⟨hR, hst, (Seg.foundM (heapR_slab hR) hin).1, k7⟩
/-- A prototype that is set leaves a right heap. -/
theorem proto_heap {zs : List Int} {obj p : Int} {a : Nat} (hh : heapR zs = true) (ho : isOb zs obj = true) (ha : obj / 8 = a) (hp : valR zs 5 p = true) : heapR (zs.set (a + 1) p) = true := by
  obtain ⟨h5, hv⟩ := isOb_facts ho
  have hk := leads_kind hv (by omega)
  rw [h5, ha] at hk
  have hk2 : kindAt zs (a : Int) = 2 := by rw [hk]; simp [wantK]
  obtain ⟨x, hx, hxa, hxk⟩ := kind_raw (zs := zs) (a := (a : Int)) (by rw [hk2]; omega)
  have hxa' : x.at' = a := by omega
  have hxk' : x.kind = 2 := by rw [hk2] at hxk; omega
  have hb := (heapR_iff.1 hh).2 x hx
  obtain ⟨y, hy, hyx⟩ := List.mem_map.1 hx
  have hy2 := y.2
  rw [hyx] at hy2
  rw [hxk', blk_obj] at hb
  unfold objR at hb
  simp only [Bool.and_eq_true, decide_eq_true_eq, zeroR_iff] at hb
  have hz' : ∀ j, hz (zs.set (a + 1) p) j = if j = a + 1 then p else hz zs j := fun j => hz_set (by omega)
  refine (set_heap hh hx (by simp) (by rw [hz', if_neg (by omega)]) (fun j hj => by rw [hz', if_neg (by omega)]) (fun hst => ?_)).1
  rw [hxk', blk_obj]
  unfold objR
  have hvp := valR_mono hst hp
  rw [val5] at hvp
  simp only [Bool.and_eq_true, decide_eq_true_eq, zeroR_iff]
  rw [hz' (x.at' + 1), if_pos (by omega), hz' (x.at' + 2), if_neg (by omega)]
  refine ⟨⟨⟨hb.1.1.1, by simpa using hvp⟩, ?_⟩, fun i hi => by rw [hz', if_neg (by omega)]; exact hb.2 i hi⟩
  have h3 := hb.1.2
  unfold nextR at h3 ⊢
  simp only [Bool.or_eq_true, Bool.and_eq_true, decide_eq_true_eq] at h3 ⊢
  rcases h3 with h3 | ⟨h3, h4⟩
  · exact .inl h3
  · refine .inr ⟨h3, ?_⟩
    have h6 := valR_mono (r := 6) hst (v := hz zs (x.at' + 2)) (by rw [val6]; simp [nextR, h3, h4])
    rw [val6] at h6
    unfold nextR at h6
    simp only [Bool.or_eq_true, Bool.and_eq_true, decide_eq_true_eq] at h6
    rcases h6 with h6 | h6
    · omega
    · exact h6.2
end Go.Proofs.YtpbafjcoomfooaaGreat
namespace Go.Proofs.YtpbafjcoomfooaaGreat
open Go.RowKit
attribute [local go_sem] Plain.and7

def proSetR (zs : List Int) (obj proto : Int) : Bool := heapR zs && isOb zs obj && valR zs 5 proto
def proSetC (zs : List Int) (obj proto : Int) : List Int × Bool := if proSetR zs obj proto = true then (zs.set (plc obj + 1) proto, true) else (zeroL zs, false)
theorem proSetC_len (zs : List Int) (obj proto : Int) : (proSetC zs obj proto).1.length = zs.length ∨ (proSetC zs obj proto).1.length = 0 := by
  unfold proSetC
  split
  · simp
  · exact zeroL_len zs
theorem proSet_is {zs : List Int} {obj proto : Int} : proSetR zs obj proto = (protoR proto && isR zs [obj, proto] 5) := by
  unfold proSetR isR isOb protoR
  rw [val5, roots2, show hz [obj, proto] 0 = obj from rfl]
  by_cases h5 : obj % 8 = 5
  · by_cases h4 : proto % 8 = 5
    · have h1 : ¬ proto = 1 := by omega
      rw [leads_any (v := obj) (by omega) 5 0, leads_any (v := proto) (by omega) 5 0]
      simp [h5, h4, h1, Bool.and_assoc]
    · by_cases h1 : proto = 1
      · subst h1
        rw [leads_any (v := obj) (by omega) 5 0]
        have : leadsR zs 1 5 = true := by simp [leadsR, vOk_is1]
        simp [h5, this]
      · simp [h4, h1]
  · simp [h5]
set_option maxHeartbeats 8000000 in
set_option maxRecDepth 100000 in
theorem impl_ProtoSet_ok (w : World) (ao : Option Addr) (cap : Nat) (zs : List Int) (obj proto : Int) (hI : Ints w ao zs) (hl : zs.length ≤ 1048576) (ho : -9223372036854775808 ≤ obj ∧ obj ≤ 9223372036854775807) (hp : -9223372036854775808 ≤ proto ∧ proto ≤ 9223372036854775807) :
    Calls Tryz.prog 27 #[.agg #[.slice ao zs.length cap], .int .i64 obj, .int .i64 proto] w fun e w' => ∃ v, e = .returned (.tuple #[.agg #[v], .bool (proSetC zs obj proto).2]) ∧ OwnR w' w.heap.size v (proSetC zs obj proto).1 ∧ Kept w w' := by
  have b0 := (Cells.new w 26 #[.slice ao zs.length cap]).alloc (.cells #[.slice none 0 0] 26)
  have b1 := Cells.new (w.alloc (.cells #[.slice ao zs.length cap] 26)) 26 #[.slice none 0 0]
  have k0 : Kept w ((w.alloc (.cells #[.slice ao zs.length cap] 26)).alloc (.cells #[.slice none 0 0] 26)) := (Kept.alloc (Below.refl _ _) _).alloc _
  simp only [World.size_alloc] at b1
  have hLo := heapLayout_ok _ ao cap zs (hI.kept k0) hl
  cases hh : heapR zs with
  | false =>
    have HC : Hid (proSetC zs obj proto = ([], false)) := by simp [Hid, proSetC, proSetR, zeroL, hh]
    have hLo' := hLo.mono (R' := fun e w' => e = .returned (.tuple #[.slice none 0 0, .bool false]) ∧ Kept ((w.alloc (.cells #[.slice ao zs.length cap] 26)).alloc (.cells #[.slice none 0 0] 26)) w') (fun e w' h => ⟨h.1 hh, h.2.2⟩)
    clear hh hI hLo
    go_enter Tryz.func27, Tryz.ntmps27
    go_wp2_with (go_at_call 47; refine hLo'.mono ?_; rintro e w1 ⟨rfl, hk1⟩; have x1 := b1.kept hk1; have d1 := x1.cell 0; have f1 := x1.frozen 0)
    have q := (x1.set1 (.slice none 0 0)).cell 0
    refine bodyPost_ret (v := .tuple #[.agg #[.slice none 0 0], .bool false]) (by simp [results, Tryz.results27, go_sem, q]) rfl ⟨_, by rw [HC.out], by rw [HC.out]; exact .inl ⟨rfl, rfl⟩, (k0.trans hk1).set (by simp) _⟩
  | true =>
    have hLo' := hLo.mono (R' := fun e w' => ∃ lo lc, e = .returned (.tuple #[.slice lo zs.length lc, .bool true]) ∧ Ints w' lo (lyt zs) ∧ Kept ((w.alloc (.cells #[.slice ao zs.length cap] 26)).alloc (.cells #[.slice none 0 0] 26)) w') (fun e w' h => by obtain ⟨lo, lc, h1, h2⟩ := h.2.1 hh; exact ⟨lo, lc, h1, h2, h.2.2⟩)
    have HOb : Hid _ := fun (u : World) (lo : Option Addr) (lc : Nat) (hu : Ints u lo (lyt zs)) => isObject_ok u lo lc zs obj hu ho.1 ho.2
    have HV : Hid _ := fun (u : World) (lo : Option Addr) (lc : Nat) (hu : Ints u lo (lyt zs)) => valueOk_ok u lo lc zs 5 proto hu hp.1 hp.2
    have HCp : Hid _ := fun (u : World) (hu : Kept w u) => copySlab_ok u ao cap zs (hI.kept hu) hl
    have hez : zeroL zs = zs := by simp [zeroL, hh]
    clear hLo
    cases hob : isOb zs obj with
    | false =>
      have HC : Hid (proSetC zs obj proto = (zs, false)) := by simp [Hid, proSetC, proSetR, hez, hob]
      rw [hob] at HOb
      clear hob hI hh HV
      go_enter Tryz.func27, Tryz.ntmps27
      go_wp2_with (first | (go_at_call 47; refine hLo'.mono ?_; rintro e w1 ⟨lo, lc, rfl, hLy, hk1⟩; have x0 := (b0.kept hk1).cell 0; have HLy : Hid _ := hLy; clear hLy) | (go_at_call 36; refine (HCp.out _ (k0.trans hk1)).mono ?_; rintro e w2 ⟨g2, c2, rfl, hg2, hc2, hR2, hk2⟩; have x1 := (b1.kept hk1).kept hk2; have ka : Kept w2 (w2.alloc (.cells #[.slice (some ⟨g2, 0, none⟩) zs.length c2] 26)) := Kept.alloc (Below.refl _ _) _; have y1 := x1.kept ka; have d1 := y1.cell 0; have f1 := y1.frozen 0; have l1 := x1.lt) | (go_at_call 55; refine (HOb.out _ lo lc ((Ints.kept HLy.out hk2).kept ka)).mono ?_; rintro e wx ⟨rfl, rfl⟩))
      have hs1 := hk1.size
      simp only [World.size_alloc] at hs1
      have q := ((x1.set1 (.slice (some ⟨g2, 0, none⟩) zs.length c2)).alloc (.cells #[.slice (some ⟨g2, 0, none⟩) zs.length c2] 26)).cell 0
      refine bodyPost_ret (v := .tuple #[.agg #[.slice (some ⟨g2, 0, none⟩) zs.length c2], .bool false]) (by simp [results, Tryz.results27, go_sem, q]) rfl ⟨_, by rw [HC.out], by rw [HC.out]; exact .inr ⟨g2, c2, rfl, by omega, hc2, (hR2.other (p := ⟨w.heap.size + 1, 0, none⟩) (by intro h; simp at h <;> omega) _).kept (Kept.alloc (Below.refl _ _) _)⟩, Kept.alloc (((k0.trans hk1).trans hk2).set (by simp) _) _⟩
    | true =>
      rw [hob] at HOb
      cases hv5 : valR zs 5 proto with
      | false =>
        have HC : Hid (proSetC zs obj proto = (zs, false)) := by simp [Hid, proSetC, proSetR, hez, hv5]
        rw [hv5] at HV
        clear hob hI hh hv5
        go_enter Tryz.func27, Tryz.ntmps27
        go_wp2_with (first | (go_at_call 47; refine hLo'.mono ?_; rintro e w1 ⟨lo, lc, rfl, hLy, hk1⟩; have x0 := (b0.kept hk1).cell 0; have HLy : Hid _ := hLy; clear hLy) | (go_at_call 36; refine (HCp.out _ (k0.trans hk1)).mono ?_; rintro e w2 ⟨g2, c2, rfl, hg2, hc2, hR2, hk2⟩; have x1 := (b1.kept hk1).kept hk2; have ka : Kept w2 (w2.alloc (.cells #[.slice (some ⟨g2, 0, none⟩) zs.length c2] 26)) := Kept.alloc (Below.refl _ _) _; have y1 := x1.kept ka; have d1 := y1.cell 0; have f1 := y1.frozen 0; have l1 := x1.lt) | (go_at_call 55; refine (HOb.out _ lo lc ((Ints.kept HLy.out hk2).kept ka)).mono ?_; rintro e wx ⟨rfl, rfl⟩) | (go_at_call 48; refine (HV.out _ lo lc ((Ints.kept HLy.out hk2).kept ka)).mono ?_; rintro e wx ⟨rfl, rfl⟩))
        have hs1 := hk1.size
        simp only [World.size_alloc] at hs1
        have q := ((x1.set1 (.slice (some ⟨g2, 0, none⟩) zs.length c2)).alloc (.cells #[.slice (some ⟨g2, 0, none⟩) zs.length c2] 26)).cell 0
        refine bodyPost_ret (v := .tuple #[.agg #[.slice (some ⟨g2, 0, none⟩) zs.length c2], .bool false]) (by simp [results, Tryz.results27, go_sem, q]) rfl ⟨_, by rw [HC.out], by rw [HC.out]; exact .inr ⟨g2, c2, rfl, by omega, hc2, (hR2.other (p := ⟨w.heap.size + 1, 0, none⟩) (by intro h; simp at h <;> omega) _).kept (Kept.alloc (Below.refl _ _) _)⟩, Kept.alloc (((k0.trans hk1).trans hk2).set (by simp) _) _⟩
      | true =>
        obtain ⟨h5, hv⟩ := isOb_facts hob
        obtain ⟨a, s, ha, hle, hs, _, _, hnx⟩ := obj_facts hh h5 hv
        have HC : Hid (proSetC zs obj proto = (zs.set (a + 1) proto, true)) := by simp [Hid, proSetC, proSetR, hh, hob, hv5, plc_is ha]
        rw [hv5] at HV
        have hNm := fun (u : World) => impl_Num_ok obj u ho.1 ho.2
        rw [ha] at hNm
        have p1 : (a : Int) + 1 < (zs.length : Int) := by omega
        have t1 : ((a : Int) + 1).toNat = a + 1 := by omega
        have wr1 : IntKind.i64.wrap ((a : Int) + 1) = (a : Int) + 1 := by rw [IntWalk.i64_left, IntWalk.wrap64_in _ (by omega)]
        clear hob hI hh hv5 h5 hv ha hnx
        go_enter Tryz.func27, Tryz.ntmps27
        go_wp2_with (first | (go_at_call 47; refine hLo'.mono ?_; rintro e w1 ⟨lo, lc, rfl, hLy, hk1⟩; have x0 := (b0.kept hk1).cell 0; have HLy : Hid _ := hLy; clear hLy) | (go_at_call 36; refine (HCp.out _ (k0.trans hk1)).mono ?_; rintro e w2 ⟨g2, c2, rfl, hg2, hc2, hR2, hk2⟩; have x1 := (b1.kept hk1).kept hk2; have ka : Kept w2 (w2.alloc (.cells #[.slice (some ⟨g2, 0, none⟩) zs.length c2] 26)) := Kept.alloc (Below.refl _ _) _) | (go_at_call 55; refine (HOb.out _ lo lc ((Ints.kept HLy.out hk2).kept ka)).mono ?_; rintro e wx ⟨rfl, rfl⟩) | (go_at_call 48; refine (HV.out _ lo lc ((Ints.kept HLy.out hk2).kept ka)).mono ?_; rintro e wx ⟨rfl, rfl⟩))
        have hs1 := hk1.size
        have hs2 := hk2.size
        simp only [World.size_alloc] at hs1
        have lg := hR2.lt
        have xz := Cells.new w2 26 #[.slice (some ⟨g2, 0, none⟩) zs.length c2]
        obtain ⟨W3, hW3⟩ : ∃ W3, w2.alloc (.cells #[.slice (some ⟨g2, 0, none⟩) zs.length c2] 26) = W3 := ⟨_, rfl⟩
        rw [hW3] at ka xz
        simp only [hW3]
        have kd : Kept w2 W3.drew := ka.drew
        have xd := xz.kept (Below.refl _ W3).drew
        have yd := x1.kept kd
        have Rd := hR2.kept kd
        have KK : Kept w W3 := ((k0.trans hk1).trans hk2).trans ka
        have y3 := x1.kept ka
        have R3 := hR2.kept ka
        obtain ⟨BZ, hBZ⟩ : ∃ BZ, w2.heap.size = BZ := ⟨_, rfl⟩
        have lx := x1.lt
        rw [hBZ] at xd xz lg lx hs2
        simp only [hBZ]
        clear hBZ hW3 ka kd hR2 x1 x0 b0 b1 k0 hLo' hk1 hk2 HCp HV HOb
        have cz := xd.cell 0
        have cg := Rd.cell (j := a + 1) (by omega)
        have fg := Rd.frozen (a + 1)
        go_region_with (go_at_call 34; refine (hNm _).mono ?_; rintro e wx ⟨rfl, rfl⟩)
        all_goals (
          have R4 := (R3.set (k := a + 1) (v := proto) (by omega) hp).kept (Below.refl _ _).drew
          have x4 := (xz.other (p := ⟨g2, a + 1, none⟩) (by simp; omega) (.int .i64 proto)).kept (Below.refl _ _).drew
          have y4 := (y3.other (p := ⟨g2, a + 1, none⟩) (by simp; omega) (.int .i64 proto)).kept (Below.refl _ _).drew
          have K4 := (KK.set (p := ⟨g2, a + 1, none⟩) (by simp; omega) (.int .i64 proto)).drew
          obtain ⟨W5, hW5⟩ : ∃ W5, (W3.setCell ⟨g2, a + 1, none⟩ (.int .i64 proto)).drew = W5 := ⟨_, rfl⟩
          rw [hW5] at R4 x4 y4 K4
          simp only [hW5]
          clear hW5
          have q4 := x4.cell 0
          have e4 := y4.cell 0
          have f4 := y4.frozen 0
          clear cz cg fg Rd xd yd KK xz y3 R3
          go_wp2_with fail
          have q := (y4.set1 (.slice (some ⟨g2, 0, none⟩) zs.length c2)).cell 0
          refine bodyPost_ret (v := .tuple #[.agg #[.slice (some ⟨g2, 0, none⟩) zs.length c2], .bool true]) (by simp [results, Tryz.results27, go_sem, q]) rfl ⟨_, by rw [HC.out], by rw [HC.out]; exact .inr ⟨g2, c2, by simp, by omega, by simpa using hc2, R4.other (by intro h; simp at h <;> omega) _⟩, Kept.set K4 (by simp) _⟩)
set_option maxHeartbeats 8000000 in
set_option maxRecDepth 100000 in
theorem spec_ProtoSet_ok (w : World) (ao : Option Addr) (cap : Nat) (zs : List Int) (obj proto : Int) (hI : Ints w ao zs) (hl : zs.length ≤ 1048576) (ho : -9223372036854775808 ≤ obj ∧ obj ≤ 9223372036854775807) (hp : -9223372036854775808 ≤ proto ∧ proto ≤ 9223372036854775807) :
    Calls Tryz.prog 28 #[.agg #[.slice ao zs.length cap], .int .i64 obj, .int .i64 proto] w fun e w' => ∃ v, e = .returned (.tuple #[.agg #[v], .bool (proSetC zs obj proto).2]) ∧ OwnR w' w.heap.size v (proSetC zs obj proto).1 ∧ Kept w w' := by
  have b0 := (Cells.new w 26 #[.slice ao zs.length cap]).alloc (.cells #[.slice none 0 0] 26)
  have b1 := Cells.new (w.alloc (.cells #[.slice ao zs.length cap] 26)) 26 #[.slice none 0 0]
  have k0 : Kept w ((w.alloc (.cells #[.slice ao zs.length cap] 26)).alloc (.cells #[.slice none 0 0] 26)) := (Kept.alloc (Below.refl _ _) _).alloc _
  simp only [World.size_alloc] at b1
  have hP := fun (u : World) => l5ProtoOk_ok proto u
  have HZ : Hid _ := fun (u : World) (hu : Kept w u) => l5Zero_ok u ao cap zs (hI.kept hu) hl
  have c0 := b0.cell 0
  cases hpr : protoR proto with
  | false =>
    have HC : Hid (proSetC zs obj proto = (zeroL zs, false)) := by simp [Hid, proSetC, proSet_is, hpr]
    rw [hpr] at hP
    clear hpr hI
    go_enter Tryz.func28, Tryz.ntmps28
    go_wp2_with (first | (go_at_call 68; refine (hP _).mono ?_; rintro e wx ⟨rfl, rfl⟩) | (go_at_call 63; refine (HZ.out _ k0).mono ?_; rintro e w2 ⟨v2, rfl, o2, hk2, fv2⟩; obtain ⟨la2, lc2, rfl, _⟩ := o2.ints; have x1 := b1.kept hk2; have d1 := x1.cell 0; have f1 := x1.frozen 0; have l1 := x1.lt))
    have q := (x1.set1 (.slice la2 (zeroL zs).length lc2)).cell 0
    refine bodyPost_ret (v := .tuple #[.agg #[.slice la2 (zeroL zs).length lc2], .bool false]) (by simp [results, Tryz.results28, go_sem, q]) rfl ?_
    rw [HC.out]
    refine ⟨_, rfl, ?_, (k0.trans hk2).set (by simp) _⟩
    rcases o2 with ⟨h1, h2⟩ | ⟨g3, c3, h1, h2, h3, h4⟩
    · exact .inl ⟨h1, h2⟩
    · simp only [World.size_alloc] at h2
      exact .inr ⟨g3, c3, h1, by omega, h3, h4.other (by intro h; simp at h <;> omega) _⟩
  | true =>
    rw [hpr] at hP
    have hR := l5Is_at _ ao cap zs [obj, proto] 2 5 #[.int .i64 obj, .int .i64 proto] rfl rfl (by simp only [List.mem_cons, List.not_mem_nil, or_false]; rintro z (rfl | rfl); exact ho; exact hp) (by omega) (by omega) (hI.kept k0) hl
    simp only [World.size_alloc] at hR
    cases hr : isR zs [obj, proto] 5 with
    | false =>
      have HC : Hid (proSetC zs obj proto = (zeroL zs, false)) := by simp [Hid, proSetC, proSet_is, hr]
      rw [hr] at hR
      clear hpr hr hI
      go_enter Tryz.func28, Tryz.ntmps28
      go_wp2_with (first | (go_at_call 68; refine (hP _).mono ?_; rintro e wx ⟨rfl, rfl⟩) | (go_at_call 61; refine hR.mono ?_; rintro e w1 ⟨rfl, hk1⟩; have d0 := (b0.kept hk1).cell 0) | (go_at_call 63; refine (HZ.out _ (k0.trans hk1)).mono ?_; rintro e w2 ⟨v2, rfl, o2, hk2, fv2⟩; obtain ⟨la2, lc2, rfl, _⟩ := o2.ints; have x1 := (b1.kept hk1).kept hk2; have d1 := x1.cell 0; have f1 := x1.frozen 0; have l1 := x1.lt))
      have hs1 := hk1.size
      simp only [World.size_alloc] at hs1
      have q := (x1.set1 (.slice la2 (zeroL zs).length lc2)).cell 0
      refine bodyPost_ret (v := .tuple #[.agg #[.slice la2 (zeroL zs).length lc2], .bool false]) (by simp [results, Tryz.results28, go_sem, q]) rfl ?_
      rw [HC.out]
      refine ⟨_, rfl, ?_, ((k0.trans hk1).trans hk2).set (by simp) _⟩
      rcases o2 with ⟨h1, h2⟩ | ⟨g3, c3, h1, h2, h3, h4⟩
      · exact .inl ⟨h1, h2⟩
      · exact .inr ⟨g3, c3, h1, by omega, h3, h4.other (by intro h; simp at h <;> omega) _⟩
    | true =>
      rw [hr] at hR
      have hps : proSetR zs obj proto = true := by rw [proSet_is, hpr, hr]; rfl
      obtain ⟨hh, h5, hle5⟩ := isR_facts hr
      have hv := hle5 0 (by simp)
      have h5' : obj % 8 = 5 := h5
      obtain ⟨a, s, ha, hle, hs, _, _, hnx⟩ := obj_facts hh h5' hv
      have HC : Hid (proSetC zs obj proto = (zs.set (a + 1) proto, true)) := by simp [Hid, proSetC, hps, plc_is ha]
      have HCp : Hid _ := fun (u : World) (hu : Kept w u) => l2Copy_ok u ao cap zs (hI.kept hu) hl
      have hNm := fun (u : World) => spec_Num_ok obj u
      rw [ha] at hNm
      have p1 : (a : Int) + 1 < (zs.length : Int) := by omega
      have t1 : ((a : Int) + 1).toNat = a + 1 := by omega
      have wr1 : IntKind.i64.wrap ((a : Int) + 1) = (a : Int) + 1 := by rw [IntWalk.i64_left, IntWalk.wrap64_in _ (by omega)]
      clear hpr hr hI hh hle5 hv h5 h5' ha hnx hps HZ
      go_enter Tryz.func28, Tryz.ntmps28
      go_wp2_with (first | (go_at_call 68; refine (hP _).mono ?_; rintro e wx ⟨rfl, rfl⟩) | (go_at_call 61; refine hR.mono ?_; rintro e w1 ⟨rfl, hk1⟩; have d0 := (b0.kept hk1).cell 0) | (go_at_call 41; refine (HCp.out _ (k0.trans hk1)).mono ?_; rintro e w2 ⟨g2, c2, rfl, hg2, hc2, hR2, hk2, _⟩; have x1 := (b1.kept hk1).kept hk2; have ka : Kept w2 (w2.alloc (.cells #[.slice (some ⟨g2, 0, none⟩) zs.length c2] 26)) := Kept.alloc (Below.refl _ _) _))
      have hs1 := hk1.size
      have hs2 := hk2.size
      simp only [World.size_alloc] at hs1
      have lg := hR2.lt
      have xz := Cells.new w2 26 #[.slice (some ⟨g2, 0, none⟩) zs.length c2]
      obtain ⟨W3, hW3⟩ : ∃ W3, w2.alloc (.cells #[.slice (some ⟨g2, 0, none⟩) zs.length c2] 26) = W3 := ⟨_, rfl⟩
      rw [hW3] at ka xz
      simp only [hW3]
      have kd : Kept w2 W3.drew := ka.drew
      have xd := xz.kept (Below.refl _ W3).drew
      have yd := x1.kept kd
      have Rd := hR2.kept kd
      have KK : Kept w W3 := ((k0.trans hk1).trans hk2).trans ka
      have y3 := x1.kept ka
      have R3 := hR2.kept ka
      obtain ⟨BZ, hBZ⟩ : ∃ BZ, w2.heap.size = BZ := ⟨_, rfl⟩
      have lx := x1.lt
      rw [hBZ] at xd xz lg lx hs2
      simp only [hBZ]
      clear hBZ hW3 ka kd hR2 x1 b0 b1 k0 hk1 hk2 HCp c0 d0 hR hP
      have cz := xd.cell 0
      have cg := Rd.cell (j := a + 1) (by omega)
      have fg := Rd.frozen (a + 1)
      go_region_with (go_at_call 53; refine (hNm _).mono ?_; rintro e wx ⟨rfl, rfl⟩)
      all_goals (
        have R4 := (R3.set (k := a + 1) (v := proto) (by omega) hp).kept (Below.refl _ _).drew
        have x4 := (xz.other (p := ⟨g2, a + 1, none⟩) (by simp; omega) (.int .i64 proto)).kept (Below.refl _ _).drew
        have y4 := (y3.other (p := ⟨g2, a + 1, none⟩) (by simp; omega) (.int .i64 proto)).kept (Below.refl _ _).drew
        have K4 := (KK.set (p := ⟨g2, a + 1, none⟩) (by simp; omega) (.int .i64 proto)).drew
        obtain ⟨W5, hW5⟩ : ∃ W5, (W3.setCell ⟨g2, a + 1, none⟩ (.int .i64 proto)).drew = W5 := ⟨_, rfl⟩
        rw [hW5] at R4 x4 y4 K4
        simp only [hW5]
        clear hW5
        have q4 := x4.cell 0
        have e4 := y4.cell 0
        have f4 := y4.frozen 0
        clear cz cg fg Rd xd yd KK xz y3 R3
        go_wp2_with fail
        have q := (y4.set1 (.slice (some ⟨g2, 0, none⟩) zs.length c2)).cell 0
        refine bodyPost_ret (v := .tuple #[.agg #[.slice (some ⟨g2, 0, none⟩) zs.length c2], .bool true]) (by simp [results, Tryz.results28, go_sem, q]) rfl ⟨_, by rw [HC.out], by rw [HC.out]; exact .inr ⟨g2, c2, by simp, by omega, by simpa using hc2, R4.other (by intro h; simp at h <;> omega) _⟩, Kept.set K4 (by simp) _⟩)
theorem ProtoSet_both (zs : List Int) (obj proto : Int) (hl : zs.length ≤ 1048576) (ho : -9223372036854775808 ≤ obj ∧ obj ≤ 9223372036854775807) (hp : -9223372036854775808 ≤ proto ∧ proto ≤ 9223372036854775807) : ∃ (rs : List Int) (ok : Bool), rs.length ≤ 1048576 ∧
    (∀ (w : World) (ao : Option Addr) (cap : Nat), Ints w ao zs → Calls Tryz.prog 27 #[.agg #[.slice ao zs.length cap], .int .i64 obj, .int .i64 proto] w fun e w' => ∃ v, e = .returned (.tuple #[.agg #[v], .bool ok]) ∧ OwnR w' w.heap.size v rs ∧ Kept w w') ∧
    (∀ (w : World) (ao : Option Addr) (cap : Nat), Ints w ao zs → Calls Tryz.prog 28 #[.agg #[.slice ao zs.length cap], .int .i64 obj, .int .i64 proto] w fun e w' => ∃ v, e = .returned (.tuple #[.agg #[v], .bool ok]) ∧ OwnR w' w.heap.size v rs ∧ Kept w w') :=
  ⟨(proSetC zs obj proto).1, (proSetC zs obj proto).2, by have := proSetC_len zs obj proto; omega, fun w ao cap hI => impl_ProtoSet_ok w ao cap zs obj proto hI hl ho hp, fun w ao cap hI => spec_ProtoSet_ok w ao cap zs obj proto hI hl ho hp⟩
end Go.Proofs.YtpbafjcoomfooaaGreat
namespace Go.Proofs.YtpbafjcoomfooaaGreat
open Go.RowKit
attribute [local go_sem] Plain.and7

set_option maxHeartbeats 8000000 in
set_option maxRecDepth 100000 in
theorem tail_ok (w : World) (ca : Option Addr) (cc : Nat) (zs : List Int) (ps : List Nat) (a : Nat) (p : Int) (hR : CelsAt w ca zs ps) (hl : zs.length ≤ 1048576) (hpl : ps.length ≤ 1048576) (ha : a ≤ 1048576) (hle : ∀ q ∈ ps, q + 4 ≤ zs.length) :
    Calls Tryz.prog 60 #[.agg #[.int .i64 (a : Int), .int .i64 p, .slice ca ps.length cc]] w fun e w' => e = .returned (.int .i64 ((tailP a ps : Nat) : Int)) ∧ Kept w w' := by
  have b0 := Cells.new w 71 #[.int .i64 (a : Int), .int .i64 p, .slice ca ps.length cc]
  have k0 : Kept w (w.alloc (.cells #[.int .i64 (a : Int), .int .i64 p, .slice ca ps.length cc] 71)) := Kept.alloc (Below.refl _ _) _
  have c0 := b0.cell 0
  have c2 := b0.cell 2
  by_cases h0 : ps.length = 0
  · have hp : ps = [] := List.length_eq_zero_iff.1 h0
    have HT : Hid (tailP a ps = a + 2) := by simp [Hid, tailP, hp]
    have wr : IntKind.i64.wrap ((a : Int) + 2) = (a : Int) + 2 := by rw [IntWalk.i64_left, IntWalk.wrap64_in _ (by omega)]
    rw [h0] at c0 c2 k0 ⊢
    clear hR hp hle b0
    go_enter Tryz.func60, Tryz.ntmps60
    go_wp2_with fail
    go_ret
    exact ⟨by rw [HT.out]; simp, k0⟩
  · obtain ⟨q, hq⟩ : ∃ q, ps[ps.length - 1]? = some q := ⟨_, List.getElem?_eq_getElem (by omega)⟩
    have HT : Hid (tailP a ps = q + 3) := by rw [Hid, tailP, List.getLast?_eq_getElem?, hq]
    have hq4 := hle q (List.mem_of_getElem? hq)
    obtain ⟨b, off, rfl, hc⟩ := hR _ q hq
    have hb : b < w.heap.size := World.block_lt_of_cell? _ _ (hc 0 (by omega))
    have d0 := (k0.cell (p := ⟨b, off + (ps.length - 1) * 4 + 0, none⟩) hb).trans (hc 0 (by omega))
    simp only [Nat.add_zero] at d0
    have e1 : IntKind.i64.wrap ((ps.length : Int) - 1) = (ps.length : Int) - 1 := by rw [IntWalk.i64_left, IntWalk.wrap64_in _ (by omega)]
    have e2 : ((ps.length : Int) - 1).toNat = ps.length - 1 := by omega
    have p1 : (ps.length : Int) - 1 < (ps.length : Int) := by omega
    have p3 : (0 : Int) ≤ (ps.length : Int) - 1 := by omega
    have wr : IntKind.i64.wrap ((q : Int) + 3) = (q : Int) + 3 := by rw [IntWalk.i64_left, IntWalk.wrap64_in _ (by omega)]
    clear hc hR hle hq b0
    go_enter Tryz.func60, Tryz.ntmps60
    go_wp2_with fail
    go_ret
    exact ⟨by rw [HT.out]; simp, k0⟩
set_option maxHeartbeats 16000000 in
set_option maxRecDepth 100000 in
theorem impl_PropSet_ok (w : World) (ao : Option Addr) (cap : Nat) (zs : List Int) (obj name v : Int) (hI : Ints w ao zs) (hl : zs.length ≤ 1048576) (ho : -9223372036854775808 ≤ obj ∧ obj ≤ 9223372036854775807) (hn : -9223372036854775808 ≤ name ∧ name ≤ 9223372036854775807) (hv : -9223372036854775808 ≤ v ∧ v ≤ 9223372036854775807) :
    Calls Tryz.prog 19 #[.agg #[.slice ao zs.length cap], .int .i64 obj, .int .i64 name, .int .i64 v] w fun e w' => ∃ u, e = .returned (.tuple #[.agg #[u], .bool (propC zs obj name v).2]) ∧ OwnR w' w.heap.size u (propC zs obj name v).1 ∧ Kept w w' := by
  have b0 := (Cells.new w 26 #[.slice ao zs.length cap]).alloc (.cells #[.slice none 0 0] 26)
  have b1 := Cells.new (w.alloc (.cells #[.slice ao zs.length cap] 26)) 26 #[.slice none 0 0]
  have k0 : Kept w ((w.alloc (.cells #[.slice ao zs.length cap] 26)).alloc (.cells #[.slice none 0 0] 26)) := (Kept.alloc (Below.refl _ _) _).alloc _
  simp only [World.size_alloc] at b1
  have hLo := heapLayout_ok _ ao cap zs (hI.kept k0) hl
  cases hh : heapR zs with
  | false =>
    have HC : Hid (propC zs obj name v = ([], false)) := by rw [Hid, propC_no (by simp [propR, hh])]; simp [zeroL, hh]
    have hLo' := hLo.mono (R' := fun e w' => e = .returned (.tuple #[.slice none 0 0, .bool false]) ∧ Kept ((w.alloc (.cells #[.slice ao zs.length cap] 26)).alloc (.cells #[.slice none 0 0] 26)) w') (fun e w' h => ⟨h.1 hh, h.2.2⟩)
    clear hh hI hLo
    go_enter Tryz.func19, Tryz.ntmps19
    go_wp2_with (go_at_call 47; refine hLo'.mono ?_; rintro e w1 ⟨rfl, hk1⟩; have x1 := b1.kept hk1; have d1 := x1.cell 0; have f1 := x1.frozen 0)
    have q := (x1.set1 (.slice none 0 0)).cell 0
    refine bodyPost_ret (v := .tuple #[.agg #[.slice none 0 0], .bool false]) (by simp [results, Tryz.results19, go_sem, q]) rfl ⟨_, by rw [HC.out], by rw [HC.out]; exact .inl ⟨rfl, rfl⟩, (k0.trans hk1).set (by simp) _⟩
  | true =>
    have hLo' := hLo.mono (R' := fun e w' => ∃ lo lc, e = .returned (.tuple #[.slice lo zs.length lc, .bool true]) ∧ Ints w' lo (lyt zs) ∧ Kept ((w.alloc (.cells #[.slice ao zs.length cap] 26)).alloc (.cells #[.slice none 0 0] 26)) w') (fun e w' h => by obtain ⟨lo, lc, h1, h2⟩ := h.2.1 hh; exact ⟨lo, lc, h1, h2, h.2.2⟩)
    have HOb : Hid _ := fun (u : World) (lo : Option Addr) (lc : Nat) (hu : Ints u lo (lyt zs)) => isObject_ok u lo lc zs obj hu ho.1 ho.2
    have HV7 : Hid _ := fun (u : World) (lo : Option Addr) (lc : Nat) (hu : Ints u lo (lyt zs)) => valueOk_ok u lo lc zs 7 name hu hn.1 hn.2
    have HV10 : Hid _ := fun (u : World) (lo : Option Addr) (lc : Nat) (hu : Ints u lo (lyt zs)) => valueOk_ok u lo lc zs 10 v hu hv.1 hv.2
    have HCp : Hid _ := fun (u : World) (hu : Kept w u) => copySlab_ok u ao cap zs (hI.kept hu) hl
    have hez : zeroL zs = zs := by simp [zeroL, hh]
    clear hLo
    have HNo : Hid (propR zs obj name v = false → propC zs obj name v = (zs, false)) := fun h => by rw [propC_no h, hez]
    have HRo : Hid (roundR zs obj = true → propC zs obj name v = (zs, false)) := fun h => by rw [propC_round h, hez]
    clear hez
    cases hob : isOb zs obj with
    | false =>
      rw [hob] at HOb
      have HC : Hid (propC zs obj name v = (zs, false)) := HNo.out (by simp [propR, hob])
      have HOB : Hid _ := hob
      clear hob hI hh HV7 HV10 HRo
      go_enter Tryz.func19, Tryz.ntmps19
      go_wp2_with (first | (go_at_call 47; refine hLo'.mono ?_; rintro e w1 ⟨lo, lc, rfl, hLy, hk1⟩; have x0 := (b0.kept hk1).cell 0; have HLy : Hid _ := hLy; clear hLy) | (go_at_call 55; refine (HOb.out _ lo lc HLy.out).mono ?_; rintro e wx ⟨rfl, rfl⟩) | (go_at_call 36; refine (HCp.out _ (k0.trans hk1)).mono ?_; rintro e w2 ⟨g2, c2, rfl, hg2, hc2, hR2, hk2⟩; have x1 := (b1.kept hk1).kept hk2; have d1 := x1.cell 0; have f1 := x1.frozen 0; have l1 := x1.lt))
      have hs1 := hk1.size
      simp only [World.size_alloc] at hs1
      have q := (x1.set1 (.slice (some ⟨g2, 0, none⟩) zs.length c2)).cell 0
      refine bodyPost_ret (v := .tuple #[.agg #[.slice (some ⟨g2, 0, none⟩) zs.length c2], .bool false]) (by simp [results, Tryz.results19, go_sem, q]) rfl ⟨_, by rw [HC.out], by rw [HC.out]; exact .inr ⟨g2, c2, rfl, by omega, hc2, hR2.other (by intro h; simp at h <;> omega) _⟩, ((k0.trans hk1).trans hk2).set (by simp) _⟩
    | true =>
      rw [hob] at HOb
      cases hv7 : valR zs 7 name with
      | false =>
        rw [hv7] at HV7
        have HC : Hid (propC zs obj name v = (zs, false)) := HNo.out (by simp [propR, hv7])
        clear hob hI hh hv7 HV10 HRo
        go_enter Tryz.func19, Tryz.ntmps19
        go_wp2_with (first | (go_at_call 47; refine hLo'.mono ?_; rintro e w1 ⟨lo, lc, rfl, hLy, hk1⟩; have x0 := (b0.kept hk1).cell 0; have HLy : Hid _ := hLy; clear hLy) | (go_at_call 55; refine (HOb.out _ lo lc HLy.out).mono ?_; rintro e wx ⟨rfl, rfl⟩))
        refine (HV7.out _ lo lc HLy.out).mono ?_
        rintro e wx ⟨rfl, rfl⟩
        go_wp2_with (first | (go_at_call 36; refine (HCp.out _ (k0.trans hk1)).mono ?_; rintro e w2 ⟨g2, c2, rfl, hg2, hc2, hR2, hk2⟩; have x1 := (b1.kept hk1).kept hk2; have d1 := x1.cell 0; have f1 := x1.frozen 0; have l1 := x1.lt))
        have hs1 := hk1.size
        simp only [World.size_alloc] at hs1
        have q := (x1.set1 (.slice (some ⟨g2, 0, none⟩) zs.length c2)).cell 0
        refine bodyPost_ret (v := .tuple #[.agg #[.slice (some ⟨g2, 0, none⟩) zs.length c2], .bool false]) (by simp [results, Tryz.results19, go_sem, q]) rfl ⟨_, by rw [HC.out], by rw [HC.out]; exact .inr ⟨g2, c2, rfl, by omega, hc2, hR2.other (by intro h; simp at h <;> omega) _⟩, ((k0.trans hk1).trans hk2).set (by simp) _⟩
      | true =>
        rw [hv7] at HV7
        cases hv10 : valR zs 10 v with
        | false =>
          rw [hv10] at HV10
          have HC : Hid (propC zs obj name v = (zs, false)) := HNo.out (by simp [propR, hv10])
          clear hob hI hh hv7 hv10 HRo
          go_enter Tryz.func19, Tryz.ntmps19
          go_wp2_with (first | (go_at_call 47; refine hLo'.mono ?_; rintro e w1 ⟨lo, lc, rfl, hLy, hk1⟩; have x0 := (b0.kept hk1).cell 0; have HLy : Hid _ := hLy; clear hLy) | (go_at_call 55; refine (HOb.out _ lo lc HLy.out).mono ?_; rintro e wx ⟨rfl, rfl⟩))
          refine (HV7.out _ lo lc HLy.out).mono ?_
          rintro e wx ⟨rfl, rfl⟩
          go_wp2_with fail
          refine (HV10.out _ lo lc HLy.out).mono ?_
          rintro e wx ⟨rfl, rfl⟩
          go_wp2_with (first | (go_at_call 36; refine (HCp.out _ (k0.trans hk1)).mono ?_; rintro e w2 ⟨g2, c2, rfl, hg2, hc2, hR2, hk2⟩; have x1 := (b1.kept hk1).kept hk2; have d1 := x1.cell 0; have f1 := x1.frozen 0; have l1 := x1.lt))
          have hs1 := hk1.size
          simp only [World.size_alloc] at hs1
          have q := (x1.set1 (.slice (some ⟨g2, 0, none⟩) zs.length c2)).cell 0
          refine bodyPost_ret (v := .tuple #[.agg #[.slice (some ⟨g2, 0, none⟩) zs.length c2], .bool false]) (by simp [results, Tryz.results19, go_sem, q]) rfl ⟨_, by rw [HC.out], by rw [HC.out]; exact .inr ⟨g2, c2, rfl, by omega, hc2, hR2.other (by intro h; simp at h <;> omega) _⟩, ((k0.trans hk1).trans hk2).set (by simp) _⟩
        | true =>
          rw [hv10] at HV10
          have hpr : propR zs obj name v = true := by simp [propR, hh, hob, hv7, hv10]
          have hok := heapR_slab hh
          have hlen := (slabOk_iff.1 hok).1
          obtain ⟨h5, hle5⟩ := isOb_facts hob
          obtain ⟨a, s, ha, hle, hs, _, _, hnx⟩ := obj_facts hh h5 hle5
          have HP : Hid (plc obj = a) := plc_is ha
          have HA : Hid (obj / 8 = (a : Int)) := ha
          have hNm := fun (u : World) => impl_Num_ok obj u ho.1 ho.2
          rw [ha] at hNm
          have HI : Hid _ := hI
          have HOA : Hid _ := fun (u : World) (hu : Kept w u) => objectAt_ok u ao cap zs a (hI.kept hu) hl hh (by omega) hnx
          have HYes : Hid (roundR zs obj = false → propC zs obj name v = ((setC zs obj name v).1, (setC zs obj name v).2.2)) := fun h => propC_yes hpr h
          have ha3 : a + 3 ≤ zs.length := by omega
          have HOK : Hid _ := hok
          clear hob hh hv7 hv10 hI h5 hle5 ha hnx hpr hok HNo
          go_enter Tryz.func19, Tryz.ntmps19
          go_wp2_with (first | (go_at_call 47; refine hLo'.mono ?_; rintro e w1 ⟨lo, lc, rfl, hLy, hk1⟩; have x0 := (b0.kept hk1).cell 0; have HLy : Hid _ := hLy; clear hLy) | (go_at_call 55; refine (HOb.out _ lo lc HLy.out).mono ?_; rintro e wx ⟨rfl, rfl⟩))
          refine (HV7.out _ lo lc HLy.out).mono ?_
          rintro e wx ⟨rfl, rfl⟩
          go_wp2_with fail
          refine (HV10.out _ lo lc HLy.out).mono ?_
          rintro e wx ⟨rfl, rfl⟩
          go_wp2_with fail
          have x1 := b0.kept hk1
          have y1 := b1.kept hk1
          have xd := x1.kept (Below.refl _ w1).drew
          have cd := xd.cell 0
          have K1 : Kept w w1.drew := (k0.trans hk1).drew
          clear hLo' HOb HV7 HV10 x0 HLy
          go_cut [12] from 44 to 48 (fun s7 wx => ∃ B ca cc ps v', s7 = .pointer (some ⟨B, 0, none⟩) ∧ w1.heap.size ≤ B ∧ Cells wx B 71 #[.int .i64 (a : Int), .int .i64 (hz zs (a + 1)), .slice ca ps.length cc] ∧ CelsAt wx ca zs ps ∧ All zs (hz zs (a + 2)) ps v' ∧ Kept w1 wx)
          case first =>
            have kz : Kept w1 (w1.alloc (.cells #[.int .i64 0, .int .i64 0, .slice none 0 0] 71)).drew := (Kept.alloc (Below.refl _ _) _).drew
            have cdz := (x1.kept kz).cell 0
            have xz : Cells (w1.alloc (.cells #[.int .i64 0, .int .i64 0, .slice none 0 0] 71)).drew w1.heap.size 71 #[.int .i64 0, .int .i64 0, .slice none 0 0] := (Cells.new w1 71 #[.int .i64 0, .int .i64 0, .slice none 0 0]).kept (Below.refl _ _).drew
            have K1z : Kept w (w1.alloc (.cells #[.int .i64 0, .int .i64 0, .slice none 0 0] 71)).drew := (k0.trans hk1).trans kz
            go_region_with (first | (go_at_call 34; refine (hNm _).mono ?_; rintro e wx ⟨rfl, rfl⟩) | (go_at_call 56; refine (HOA.out _ (by first | exact K1 | exact K1z)).mono ?_; rintro e w2 ⟨cs, ps, v', rfl, hO, hAl, hk2⟩; obtain ⟨ca, cc, rfl, hcc, hAt⟩ := hO.at; first | (have xz2 := xz.kept hk2; have d0 := xz2.cell 0; have d1 := xz2.cell 1; have d2 := xz2.cell 2; have f0 := xz2.frozen 0; have f1 := xz2.frozen 1; have f2 := xz2.frozen 2; clear cd cdz) | (have xy := Cells.new w2 71 #[.int .i64 0, .int .i64 0, .slice none 0 0]; have d0 := xy.cell 0; have d1 := xy.cell 1; have d2 := xy.cell 2; have f0 := xy.frozen 0; have f1 := xy.frozen 1; have f2 := xy.frozen 2; clear cd cdz)))
            all_goals (
              go_wp2_with fail
              go_meet
              first
              | exact ⟨w2.heap.size, ca, cc, ps, v', rfl, by have := hk2.size; simpa using this, Cells.new w2 _ _, hAt.kept (Kept.alloc (Below.refl _ _) _), hAl, Kept.alloc (Kept.trans (Below.refl _ w1).drew hk2) _⟩
              | exact ⟨w1.heap.size, ca, cc, ps, v', rfl, Nat.le_refl _, xz2.set3 _ _ _, OwnC.cels (ownsRow_setCell_below (ownsRow_setCell_below (ownsRow_setCell_below hO (by simp) _) (by simp) _) (by simp) _), hAl, (((kz.trans hk2).set (by simp) _).set (by simp) _).set (by simp) _⟩)
          case rest =>
          obtain ⟨B, ca, cc, ps, v', rfl, hB, xB, hAt, hAl, kc0⟩ := hcut
          have hKc := (k0.trans hk1).trans kc0
          have xc := x1.kept kc0
          have yc := y1.kept kc0
          have hrd := hAl.round
          have HRd : Hid (roundR zs obj = decide (v' ≠ 0)) := by rw [Hid, roundR, HP.out]; exact hrd
          have hpl := hAl.len
          have cB := xB.cell 2
          have hRo := round_ok wc ca cc zs ps _ v' hAt (by omega) hAl
          have hs1 := hk1.size
          simp only [World.size_alloc] at hs1
          have hsc := kc0.size
          clear hrd x1 y1 xd cd K1 kc0
          by_cases h0 : v' = 0
          · subst h0
            have hdz : decide ((0 : Int) ≠ 0) = false := by decide
            rw [hdz] at hRo HRd
            have HS : Hid _ := HYes.out HRd.out
            have HAl : Hid (All zs (hz zs (plc obj + 2)) ps 0) := by rw [Hid, HP.out]; exact hAl
            have HLE : Hid _ := hAl.le
            go_wp2_with fail
            refine hRo.mono ?_
            rintro e w3 ⟨rfl, hk3⟩
            have xB3 := xB.kept hk3
            have cB3 := xB3.cell 2
            have hAt3 := hAt.kept hk3
            have hNa := named_ok w3 ca cc zs ps name hAt3 (by omega)
            have K3 := hKc.trans hk3
            have x3 := xc.kept hk3
            have y3 := yc.kept hk3
            have hs3 := hk3.size
            clear hRo hdz cB HRd xB hAt hk3 xc yc hKc hAl
            cases hna : namedP zs name ps with
            | some q =>
              rw [namedV_some hna] at hNa
              have hq4 := namedP_le HAl.out hna
              have HC : Hid (propC zs obj name v = (zs.set (q + 2) v, true)) := by rw [Hid, HS.out, setC_there HAl.out hna]
              clear hna
              go_wp2_with fail
              refine hNa.mono ?_
              rintro e w4 ⟨rfl, hk4⟩
              have xC := Cells.new w4 75 (celC zs q)
              have kC : Kept w4 (w4.alloc (.cells (celC zs q) 75)) := Kept.alloc (Below.refl _ _) _
              have K5 := (K3.trans hk4).trans kC
              have x5 := (x3.kept hk4).kept kC
              have y5 := (y3.kept hk4).kept kC
              have cx5 := x5.cell 0
              have hs4 := hk4.size
              have hCp := HCp.out _ K5
              clear hNa cB3 xB3 hAt3 x3 y3 HOA HCp
              go_wp2_with fail
              refine hCp.mono ?_
              rintro e w6 ⟨g2, c2, rfl, hg2, hc2, hR2, hk6⟩
              have xC6 := xC.kept hk6
              have y6 := y5.kept hk6
              have hs6 := hk6.size
              have lg := hR2.lt
              have xz := Cells.new w6 26 #[.slice (some ⟨g2, 0, none⟩) zs.length c2]
              have ka : Kept w6 (w6.alloc (.cells #[.slice (some ⟨g2, 0, none⟩) zs.length c2] 26)) := Kept.alloc (Below.refl _ _) _
              have xC7 := xC6.kept ka
              have R7 := hR2.kept ka
              have cz := xz.cell 0
              have cC : (w6.alloc (.cells #[.slice (some ⟨g2, 0, none⟩) zs.length c2] 26)).cell? ⟨w4.heap.size, 0, none⟩ = some (.int .i64 (q : Int)) := xC7.cell 0
              have cg := R7.cell (j := q + 2) (by omega)
              have fg := R7.frozen (q + 2)
              have wr : IntKind.i64.wrap ((q : Int) + 2) = (q : Int) + 2 := by rw [IntWalk.i64_left, IntWalk.wrap64_in _ (by omega)]
              have t2 : ((q : Int) + 2).toNat = q + 2 := by omega
              have p2 : (q : Int) + 2 < (zs.length : Int) := by omega
              have p0 : (0 : Int) ≤ (q : Int) + 2 := by omega
              simp only [World.size_alloc] at hs6 hg2
              have kn : Kept (w6.setCell ⟨g2, q + 2, none⟩ (.int .i64 v)) ((w6.setCell ⟨g2, q + 2, none⟩ (.int .i64 v)).alloc (.cells #[.slice (some ⟨g2, 0, none⟩) zs.length c2] 26)) := Kept.alloc (Below.refl _ _) _
              have R8 := (hR2.set (k := q + 2) (v := v) (by omega) hv).kept kn
              have z8 := Cells.new (w6.setCell ⟨g2, q + 2, none⟩ (.int .i64 v)) 26 #[.slice (some ⟨g2, 0, none⟩) zs.length c2]
              have y8 := (y6.other (p := ⟨g2, q + 2, none⟩) (by simp; omega) (.int .i64 v)).kept kn
              have K8 := ((K5.trans hk6).set (p := ⟨g2, q + 2, none⟩) (by simp; omega) (.int .i64 v)).trans kn
              simp only [World.size_setCell] at z8
              have cz8 := z8.cell 0
              have cy8 := y8.cell 0
              have fy8 := y8.frozen 0
              clear hCp cx5 x5 y5 xC xC6 y6 hR2 xC7
              go_wp2_with fail
              have q := (y8.set1 (.slice (some ⟨g2, 0, none⟩) zs.length c2)).cell 0
              refine bodyPost_ret (v := .tuple #[.agg #[.slice (some ⟨g2, 0, none⟩) zs.length c2], .bool true]) (by simp [results, Tryz.results19, go_sem, q]) rfl ⟨_, by rw [HC.out], by rw [HC.out]; exact .inr ⟨g2, c2, by simp, by omega, by simpa using hc2, R8.other (by intro h; simp at h <;> omega) _⟩, Kept.set K8 (by simp) _⟩
            | none =>
              rw [namedV_none hna] at hNa
              have cx4 := fun (u : World) (hu : Kept w3 u) => (x3.kept hu).cell 0
              cases hff : ffB zs 4 with
              | none =>
                have HC : Hid (propC zs obj name v = (zs, false)) := by rw [Hid, HS.out, setC_full HAl.out hna hff]
                have HT : Hid _ := fun (u : World) (hu : Kept w u) (so : Option Addr) (sl sc : Nat) => takeFilled_no u ao so cap sl sc zs 3 4 (Ints.kept HI.out hu) hl HOK.out (.inr hff)
                clear hna hff HCp HOA
                go_wp2_with fail
                refine hNa.mono ?_
                rintro e w4 ⟨rfl, hk4⟩
                have kC : Kept w4 (w4.alloc (.cells #[.int .i64 0, .int .i64 0, .int .i64 0, .int .i64 0] 75)) := Kept.alloc (Below.refl _ _) _
                have kL : Kept (w4.alloc (.cells #[.int .i64 0, .int .i64 0, .int .i64 0, .int .i64 0] 75)) ((w4.alloc (.cells #[.int .i64 0, .int .i64 0, .int .i64 0, .int .i64 0] 75)).alloc (.cells #[.int .i64 name, .int .i64 v, .int .i64 0] 3)) := Kept.alloc (Below.refl _ _) _
                have K5 := ((K3.trans hk4).trans kC).trans kL
                have x5 := (x3.kept hk4).kept kC
                have y5 := ((y3.kept hk4).kept kC).kept kL
                have cx5 := x5.cell 0
                have hs4 := hk4.size
                have hT := fun so sl sc => HT.out _ K5 so sl sc
                clear hNa cB3 xB3 hAt3 x3 y3 HT cx4
                go_wp2_with fail
                refine (hT _ _ _).mono ?_
                rintro e w6 ⟨v6, rfl, o6, hk6⟩
                obtain ⟨la6, lc6, rfl, _⟩ := o6.ints
                have y6 := y5.kept hk6
                have hs6 := hk6.size
                have xz := Cells.new w6 26 #[.slice la6 zs.length lc6]
                have ka : Kept w6 (w6.alloc (.cells #[.slice la6 zs.length lc6] 26)) := Kept.alloc (Below.refl _ _) _
                have y7 := y6.kept ka
                have cz := xz.cell 0
                have cy := y7.cell 0
                have fy := y7.frozen 0
                have K7 := (K5.trans hk6).trans ka
                have O7 := o6.kept ka
                simp only [World.size_alloc] at hs6
                clear hT cx5 x5 y5 y6
                go_wp2_with fail
                have q := (y7.set1 (.slice la6 zs.length lc6)).cell 0
                refine bodyPost_ret (v := .tuple #[.agg #[.slice la6 zs.length lc6], .bool false]) (by simp [results, Tryz.results19, go_sem, q]) rfl ⟨_, by rw [HC.out], ?_, Kept.set K7 (by simp) _⟩
                rw [HC.out]
                rcases O7 with ⟨h1, h2⟩ | ⟨g3, c3, h1, h2, h3, h4⟩
                · exact .inl ⟨h1, h2⟩
                · simp only [World.size_alloc] at h2
                  exact .inr ⟨g3, c3, h1, by omega, h3, h4.other (p := ⟨w.heap.size + 1, 0, none⟩) (by intro h; simp at h <;> omega) _⟩
              | some b =>
                have hfr : freeP 4 b = true := List.find?_some hff
                have hble := b.2.2.1
                have hbs : 4 ≤ b.1.size := by simp [freeP] at hfr; omega
                have hT := fun (u : World) (so : Option Addr) (sc : Nat) (hu : Kept w u) (hS : Ints u so [name, v, 0]) => takeFilled_yes u ao so cap sc zs [name, v, 0] 3 4 b (Ints.kept HI.out hu) hS (by simp) (by simp) hl HOK.out (by omega) (by omega) (by omega) hff
                rw [cell_sets (n := name) (v := v) hbs] at hT
                simp only [List.length_cons, List.length_nil, Nat.zero_add, Nat.reduceAdd] at hT
                have e1 : propC zs obj name v = ((((takeL zs b.1 3 4).set (b.1.at' + 1) name).set (b.1.at' + 2) v).set (tailP a ps) (8 * ((b.1.at' : Nat) : Int) + 7), true) := by rw [HS.out, setC_new HAl.out hna hff HA.out]
                have hyl := takeL_length zs b.1 3 4
                have htl : tailP a ps < zs.length := tailP_lt HAl.out ha3
                have HTl := fun (u : World) (hu : Kept w3 u) => tail_ok u ca cc zs ps a (hz zs (a + 1)) (hAt3.kept hu) hl (by omega) (by omega) HLE.out
                obtain ⟨T, hT0⟩ : ∃ T : Nat, tailP a ps = T := ⟨_, rfl⟩
                obtain ⟨at', ha'⟩ : ∃ at' : Nat, b.1.at' = at' := ⟨_, rfl⟩
                obtain ⟨ys, hys⟩ : ∃ ys, ((takeL zs b.1 3 4).set (at' + 1) name).set (at' + 2) v = ys := ⟨_, rfl⟩
                rw [ha'] at hT e1
                rw [hys] at hT e1
                rw [hT0] at e1 HTl htl
                have hyl : ys.length = zs.length := by rw [← hys, List.length_set, List.length_set]; exact hyl
                rw [ha'] at hble
                have HTl' : Hid _ := HTl
                have HC : Hid (propC zs obj name v = (ys.set T (8 * (at' : Int) + 7), true)) := e1
                have HT : Hid _ := hT
                have ha2 : at' < 2000 := by omega
                have hfit : 0 < ys.length := by omega
                have hyb : ys.length ≤ 1048576 := by omega
                have hTy : T < ys.length := by omega
                have HYZ : Hid (ys.length = zs.length) := hyl
                clear hna hff HCp HOA e1 hT hfr hbs hble hys ha' hT0 hyl HTl hAt3 HS HYes HRo htl
                go_wp2_with fail
                refine hNa.mono ?_
                rintro e w4 ⟨rfl, hk4⟩
                have kC : Kept w4 (w4.alloc (.cells #[.int .i64 0, .int .i64 0, .int .i64 0, .int .i64 0] 75)) := Kept.alloc (Below.refl _ _) _
                have kL : Kept (w4.alloc (.cells #[.int .i64 0, .int .i64 0, .int .i64 0, .int .i64 0] 75)) ((w4.alloc (.cells #[.int .i64 0, .int .i64 0, .int .i64 0, .int .i64 0] 75)).alloc (.cells #[.int .i64 name, .int .i64 v, .int .i64 0] 3)) := Kept.alloc (Below.refl _ _) _
                have K5 := ((K3.trans hk4).trans kC).trans kL
                have k35 : Kept w3 _ := (hk4.trans kC).trans kL
                have x5 := (x3.kept hk4).kept kC
                have y5 := ((y3.kept hk4).kept kC).kept kL
                have B5 := ((xB3.kept hk4).kept kC).kept kL
                have cx5 := x5.cell 0
                have hs4 := hk4.size
                have hsv := lits_ints (w4.alloc (.cells #[.int .i64 0, .int .i64 0, .int .i64 0, .int .i64 0] 75)) [name, v, 0] #[.int .i64 name, .int .i64 v, .int .i64 0] rfl (by simp only [List.mem_cons, List.not_mem_nil, or_false]; rintro z (rfl | rfl | rfl); exact hn; exact hv; omega)
                have hs1 : (w4.alloc (.cells #[.int .i64 0, .int .i64 0, .int .i64 0, .int .i64 0] 75)).heap.size = w4.heap.size + 1 := World.size_alloc _ _
                have hT := HT.out _ _ 3 K5 hsv
                rw [hs1] at hT
                have lB := xB3.lt
                clear hNa cB3 xB3 x3 y3 HT cx4
                go_wp2_with fail
                refine hT.mono ?_
                rintro e w6 ⟨v6, rfl, o6, hk6⟩
                rcases o6 with ⟨h1, h2⟩ | ⟨g3, c3, rfl, hg3, hc3, hR3⟩
                · rw [h2] at hfit; simp at hfit
                have y6 := y5.kept hk6
                have B6 := B5.kept hk6
                have hs6 := hk6.size
                simp only [World.size_alloc] at hs6 hg3
                have lg3 := hR3.lt
                have xz := Cells.new w6 26 #[.slice (some ⟨g3, 0, none⟩) ys.length c3]
                have ka : Kept w6 (w6.alloc (.cells #[.slice (some ⟨g3, 0, none⟩) ys.length c3] 26)) := Kept.alloc (Below.refl _ _) _
                have y7 := y6.kept ka
                have B7 := B6.kept ka
                have cz := xz.cell 0
                have K7 := (K5.trans hk6).trans ka
                have k37 := (k35.trans hk6).trans ka
                have R7 := hR3.kept ka
                clear hT hs1 cx5 x5 y5 y6 B5 B6 hsv
                go_wp2_with fail
                have kd : Kept (w6.alloc (.cells #[.slice (some ⟨g3, 0, none⟩) ys.length c3] 26)) (w6.alloc (.cells #[.slice (some ⟨g3, 0, none⟩) ys.length c3] 26)).drew := (Below.refl _ (w6.alloc (.cells #[.slice (some ⟨g3, 0, none⟩) ys.length c3] 26))).drew
                have zd := xz.kept kd
                have Bd := B7.kept kd
                have cz := zd.cell 0
                have cb0 := Bd.cell 0
                have cb1 := Bd.cell 1
                have cb2 := Bd.cell 2
                have hTl := HTl'.out _ (k37.trans kd)
                have Rd := R7.kept kd
                have lT : T < ys.length := hTy
                have pT : (T : Int) < (ys.length : Int) := by omega
                have p0 : (0 : Int) ≤ (T : Int) := by omega
                have tT : ((T : Int)).toNat = T := by omega
                go_region_with (first | (go_at_call 60; refine hTl.mono ?_; rintro e w9 ⟨rfl, hk9⟩; have R9 := Rd.kept hk9; have z9 := zd.kept hk9; have cz9 := z9.cell 0; have cg9 := R9.cell (j := T) lT; have fg9 := R9.frozen T) | (go_at_call 37; refine (impl_RefOf_ok _ _ _).mono ?_; rintro e wx ⟨rfl, rfl⟩))
                all_goals (
                  have y9 := (y7.kept kd).kept hk9
                  have R10 := R9.set (k := T) (v := vRef 7 (at' : Int)) lT (by rw [vRef_yes (by omega)]; omega)
                  have z10 := z9.other (p := ⟨g3, T, none⟩) (by simp; omega) (.int .i64 (vRef 7 (at' : Int)))
                  have y10 := y9.other (p := ⟨g3, T, none⟩) (by simp; omega) (.int .i64 (vRef 7 (at' : Int)))
                  have K10 := ((K7.trans kd).trans hk9).set (p := ⟨g3, T, none⟩) (by simp; omega) (.int .i64 (vRef 7 (at' : Int)))
                  have q10 := z10.cell 0
                  have e10 := y10.cell 0
                  have f10 := y10.frozen 0
                  have HLT : Hid ((ys.set T (vRef 7 (at' : Int))).length = ys.length) := by simp [Hid]
                  clear cz cb0 cb1 cb2 cz9 cg9 fg9
                  go_wp2_with fail
                  have q := (y10.set1 (.slice (some ⟨g3, 0, none⟩) ys.length c3)).cell 0
                  refine bodyPost_ret (v := .tuple #[.agg #[.slice (some ⟨g3, 0, none⟩) ys.length c3], .bool true]) (by simp [results, Tryz.results19, go_sem, q]) rfl ⟨_, by rw [HC.out], ?_, Kept.set K10 (by simp) _⟩
                  rw [HC.out, ← vRef_yes (k := 7) (a := (at' : Int)) (by omega)]
                  exact .inr ⟨g3, c3, by rw [HLT.out], by omega, by rw [HLT.out]; exact hc3, R10.other (p := ⟨w.heap.size + 1, 0, none⟩) (by intro h; simp at h <;> omega) _⟩)
          · have hdz : decide (v' ≠ 0) = true := by simpa using h0
            rw [hdz] at hRo HRd
            have HC : Hid _ := HRo.out HRd.out
            go_wp2_with fail
            refine hRo.mono ?_
            rintro e w3 ⟨rfl, hk3⟩
            have K3 := hKc.trans hk3
            have cx3 := (xc.kept hk3).cell 0
            have y3 := yc.kept hk3
            have hs3 := hk3.size
            have hCp := HCp.out _ K3
            clear hRo cB HCp HOA
            go_wp2_with fail
            refine hCp.mono ?_
            rintro e w4 ⟨g2, c2, rfl, hg2, hc2, hR2, hk4⟩
            have y4 := y3.kept hk4
            have cy4 := y4.cell 0
            have fy4 := y4.frozen 0
            clear hCp cx3
            go_wp2_with fail
            have q := (y4.set1 (.slice (some ⟨g2, 0, none⟩) zs.length c2)).cell 0
            refine bodyPost_ret (v := .tuple #[.agg #[.slice (some ⟨g2, 0, none⟩) zs.length c2], .bool false]) (by simp [results, Tryz.results19, go_sem, q]) rfl ⟨_, by rw [HC.out], by rw [HC.out]; exact .inr ⟨g2, c2, rfl, by omega, hc2, hR2.other (by intro h; simp at h <;> omega) _⟩, Kept.set (K3.trans hk4) (by simp) _⟩
theorem PropSet_both (zs : List Int) (obj name v : Int) (hl : zs.length ≤ 1048576) (ho : -9223372036854775808 ≤ obj ∧ obj ≤ 9223372036854775807) (hn : -9223372036854775808 ≤ name ∧ name ≤ 9223372036854775807) (hv : -9223372036854775808 ≤ v ∧ v ≤ 9223372036854775807) : ∃ (rs : List Int) (ok : Bool), rs.length ≤ 1048576 ∧
    (∀ (w : World) (ao : Option Addr) (cap : Nat), Ints w ao zs → Calls Tryz.prog 19 #[.agg #[.slice ao zs.length cap], .int .i64 obj, .int .i64 name, .int .i64 v] w fun e w' => ∃ u, e = .returned (.tuple #[.agg #[u], .bool ok]) ∧ OwnR w' w.heap.size u rs ∧ Kept w w') ∧
    (∀ (w : World) (ao : Option Addr) (cap : Nat), Ints w ao zs → Calls Tryz.prog 20 #[.agg #[.slice ao zs.length cap], .int .i64 obj, .int .i64 name, .int .i64 v] w fun e w' => ∃ u, e = .returned (.tuple #[.agg #[u], .bool ok]) ∧ OwnR w' w.heap.size u rs ∧ Kept w w') :=
  ⟨(propC zs obj name v).1, (propC zs obj name v).2, by have := propC_len zs obj name v; omega, fun w ao cap hI => impl_PropSet_ok w ao cap zs obj name v hI hl ho hn hv, fun w ao cap hI => (spec_PropSet_ok w ao cap zs obj name v hI hl ho hn hv).mono (fun _ _ ⟨u, h1, h2, h3, _⟩ => ⟨u, h1, h2, h3⟩)⟩
end Go.Proofs.YtpbafjcoomfooaaGreat
