/-
  Facts on lists: all that blocks lead to is among those that are reached (chapter 7).
  Facts on lists: marking that starts with some values ends with all that can be reached (chapter 8).
  The contract of impl.Start (chapter 8).
-/
import Derived.Test.YtchkijeaaealmaaGreatGrpNu
import Derived.Test.YtchkijeaaealmaaGreatGrpSm
import Derived.Test.YtchkijeaaealmaaGreatGrpRc
import Derived.Test.YtchkijeaaealmaaGreatGrpSd
namespace Go.Proofs.YtchkijeaaealmaaGreat
open Go.RowKit

theorem meet_mem {out : List Int} {x : Int} (h : x ∈ out) (vs : List Int) : x ∈ meetL out vs := by
  rw [meetL_new]
  exact List.mem_append_left _ h
theorem addB_self {out : List Int} {a : Int} (h : 0 ≤ a) : a ∈ addB out a := by
  unfold addB
  split
  · simp
  · rename_i hc
    by_cases hm : a ∈ out
    · exact hm
    · exact absurd ⟨h, hm⟩ hc
theorem meet_lead {v : Int} (h4 : ¬ v % 8 < 4) (h0 : 0 ≤ v / 8) : ∀ (vs out : List Int), v ∈ vs → v / 8 ∈ meetL out vs
  | [], _, h => by simp at h
  | u :: vs, out, h => by
    rcases List.mem_cons.1 h with rfl | h
    · have hb : blkV v = v / 8 := by simp [blkV, h4]
      have : v / 8 ∈ addB out (blkV v) := by rw [hb]; exact addB_self h0
      exact meet_mem this vs
    · exact meet_lead h4 h0 vs (addB out (blkV u)) h
/-- What a block leads to is there. -/
def Shut (zs out : List Int) (a : Int) : Prop := ∀ v ∈ slotV zs a, ¬ v % 8 < 4 → v / 8 ∈ out
theorem Shut.meet {zs out : List Int} {a : Int} (h : Shut zs out a) (vs : List Int) : Shut zs (meetL out vs) a := fun v hv h4 => meet_mem (h v hv h4) vs
theorem ordF_shut {zs : List Int} (hh : heapR zs = true) : ∀ (n k : Nat) {out : List Int}, Met zs out → zs.length + 1 ≤ n + k → (∀ j a, j < k → out[j]? = some a → Shut zs out a) →
    (∀ x ∈ out, x ∈ ordF zs n k out) ∧ ∀ a ∈ ordF zs n k out, Shut zs (ordF zs n k out) a
  | 0, k, out, hM, hk, hs => by
    have hl := hM.len
    rw [show ordF zs 0 k out = out from rfl]
    refine ⟨fun x hx => hx, fun a ha => ?_⟩
    obtain ⟨j, hj, e⟩ := List.getElem_of_mem ha
    exact hs j a (by omega) (by rw [List.getElem?_eq_getElem hj, e])
  | n + 1, k, out, hM, hk, hs => by
    cases hc : out[k]? with
    | none =>
      have hge : out.length ≤ k := by
        rcases Nat.lt_or_ge k out.length with h | h
        · rw [List.getElem?_eq_getElem h] at hc; cases hc
        · exact h
      rw [ordF_end hge]
      refine ⟨fun x hx => hx, fun a ha => ?_⟩
      obtain ⟨j, hj, e⟩ := List.getElem_of_mem ha
      exact hs j a (by omega) (by rw [List.getElem?_eq_getElem hj, e])
    | some a =>
      rw [ordF_on hc]
      have hka := hM.2 a (List.mem_of_getElem? hc)
      have hkl := (List.getElem?_eq_some_iff.1 hc).1
      have hLd := leadsP_slots hh hka
      have ih := ordF_shut hh n (k + 1) (out := meetL out (slotV zs a)) (hM.meet hLd.leads) (by omega) (fun j x hj hx => by
        have hjl : j < out.length := by omega
        rw [meetL_new, List.getElem?_append_left hjl] at hx
        rcases Nat.lt_or_ge j k with h | h
        · exact (hs j x h hx).meet _
        · obtain rfl : j = k := by omega
          rw [hc] at hx
          cases hx
          intro v hv h4
          obtain ⟨m, e, _⟩ := kind_nat (hLd v hv h4)
          exact meet_lead h4 (by omega) _ _ hv)
      exact ⟨fun x hx => ih.1 x (meet_mem hx _), ih.2⟩
theorem ordL_shut {zs rs : List Int} (h : rootsR zs rs = true) : (∀ v ∈ rs, ¬ v % 8 < 4 → v / 8 ∈ ordL zs rs) ∧ ∀ a ∈ ordL zs rs, Shut zs (ordL zs rs) a := by
  have hh : heapR zs = true := by
    unfold rootsR at h
    simp only [Bool.and_eq_true] at h
    exact h.1
  have hM : Met zs (meetL [] rs) := Met.meet ⟨List.nodup_nil, by simp⟩ (leads_roots h)
  have key := ordF_shut hh (zs.length + 1) 0 hM (by omega) (fun j a hj => by omega)
  refine ⟨fun v hv h4 => key.1 _ ?_, key.2⟩
  obtain ⟨m, e, _⟩ := kind_nat (leadsP_roots h v hv h4)
  exact meet_lead h4 (by omega) _ _ hv
end Go.Proofs.YtchkijeaaealmaaGreat
namespace Go.Proofs.YtchkijeaaealmaaGreat
open Go.RowKit

/-- Blocks that lead to such as are among them alone. -/
def ClosedP (zs : List Int) (C : List Int) : Prop := ∀ a ∈ C, ∀ v ∈ slotV zs a, 0 ≤ blkV v → blkV v ∈ C
theorem meetL_in {C : List Int} : ∀ {vs out : List Int}, (∀ x ∈ out, x ∈ C) → (∀ v ∈ vs, 0 ≤ blkV v → blkV v ∈ C) → ∀ x ∈ meetL out vs, x ∈ C
  | [], _, h, _ => h
  | v :: vs, out, h, hv => by
    refine meetL_in (vs := vs) (out := addB out (blkV v)) (fun x hx => ?_) (fun u hu => hv u (List.mem_cons_of_mem _ hu))
    unfold addB at hx
    split at hx
    · rename_i hc
      rcases List.mem_append.1 hx with h' | h'
      · exact h x h'
      · simp at h'; subst h'; exact hv v (by simp) hc.1
    · exact h x hx
theorem ordF_in {zs C : List Int} (hC : ClosedP zs C) : ∀ (n k : Nat) (out : List Int), (∀ x ∈ out, x ∈ C) → ∀ x ∈ ordF zs n k out, x ∈ C
  | 0, _, _, h => h
  | n + 1, k, out, h => by
    unfold ordF
    cases ha : out[k]? with
    | none => exact h
    | some a =>
      have hm : a ∈ out := List.mem_of_getElem? ha
      exact ordF_in hC n (k + 1) _ (meetL_in h (fun v hv h0 => hC a (h a hm) v hv h0))
theorem shadesL_in {bs C : List Int} : ∀ {vs gs : List Int}, (∀ x ∈ gs, x ∈ C) → (∀ v ∈ vs, 0 ≤ blkV v → blkV v ∈ C) → ∀ x ∈ shadesL bs gs vs, x ∈ C
  | [], _, h, _ => h
  | v :: vs, gs, h, hv => by
    refine shadesL_in (vs := vs) (gs := shadeL 1 gs bs v) (fun x hx => ?_) (fun u hu => hv u (List.mem_cons_of_mem _ hu))
    unfold shadeL at hx
    split at hx
    · rename_i hc
      rcases List.mem_append.1 hx with h' | h'
      · exact h x h'
      · simp at h'; subst h'; exact hv v (by simp) hc.2.1
    · exact h x hx
theorem stepL_in {zs C : List Int} (hC : ClosedP zs C) : ∀ (k : Nat) (gs bs : List Int), (∀ x ∈ gs, x ∈ C) → (∀ x ∈ bs, x ∈ C) → (∀ x ∈ (stepL zs k gs bs).1, x ∈ C) ∧ ∀ x ∈ (stepL zs k gs bs).2, x ∈ C
  | 0, _, _, h1, h2 => ⟨h1, h2⟩
  | _ + 1, [], _, h1, h2 => ⟨h1, h2⟩
  | k + 1, a :: g, bs, h1, h2 => by
    have ha := h1 a (by simp)
    refine stepL_in hC k _ _ (shadesL_in (fun x hx => h1 x (List.mem_cons_of_mem _ hx)) (hC a ha)) (fun x hx => ?_)
    rcases mem_insL.1 hx with rfl | h'
    · exact ha
    · exact h2 x h'
theorem stepL_has {zs : List Int} {x : Int} : ∀ (k : Nat) (gs bs : List Int), x ∈ gs ∨ x ∈ bs → x ∈ (stepL zs k gs bs).1 ∨ x ∈ (stepL zs k gs bs).2
  | 0, _, _, h => h
  | _ + 1, [], _, h => h
  | k + 1, a :: g, bs, h => by
    refine stepL_has k _ _ ?_
    rcases h with h | h
    · rcases List.mem_cons.1 h with h' | h'
      · exact .inr (mem_insL.2 (.inl h'))
      · exact .inl (shadesL_sub h')
    · exact .inr (mem_insL.2 (.inr h))
theorem sortF_asc : ∀ (l out : List Int), out.Pairwise (· < ·) → l.Nodup → (∀ x ∈ l, x ∉ out) → (sortF out l).Pairwise (· < ·)
  | [], _, h, _, _ => h
  | x :: l, out, h, hn, hx => by
    have hc := List.nodup_cons.1 hn
    refine sortF_asc l (insL x out) (insL_asc h (hx x (by simp))) hc.2 (fun y hy hm => ?_)
    rcases mem_insL.1 hm with rfl | h'
    · exact hc.1 hy
    · exact hx y (List.mem_cons_of_mem _ hy) h'
theorem closed_shut {zs C : List Int} (h : ∀ a ∈ C, Shut zs C a) : ClosedP zs C := by
  intro a ha v hv h0
  unfold blkV at h0 ⊢
  by_cases h4 : v % 8 < 4
  · rw [if_pos h4] at h0; omega
  · rw [if_neg h4]
    exact h a ha v hv h4
/-- What FnStarted asks. -/
theorem started_end {zs rs : List Int} (h : rootsR zs rs = true) : stepL zs 2000 (meetL [] rs) [] = ([], reachL zs rs) ∧ triR zs 1 (meetL [] rs) [] 0 = true ∧ ∀ x ∈ meetL [] rs, x ∈ reachL zs rs := by
  have hh : heapR zs = true := by
    have h' := h
    unfold rootsR at h'
    rw [Bool.and_eq_true] at h'
    exact h'.1
  have hz := (slabOk_iff.1 (heapR_slab hh)).1
  have hM : Met zs (meetL [] rs) := Met.meet ⟨List.nodup_nil, by simp⟩ (leads_roots h)
  have h2 : Two zs (meetL [] rs) [] := ⟨hM, ⟨List.nodup_nil, by simp⟩, by simp⟩
  have hT : TriP zs (meetL [] rs) [] := fun b hb => by cases hb
  obtain ⟨_, hmk⟩ := mark_of hh h2 List.Pairwise.nil
  have htri := tri_of hmk hT
  have he := stepL_end hh 2000 _ _ h2 (by simp; omega)
  obtain ⟨k1, k2, k3⟩ := stepL_keeps hh 2000 _ _ h2 List.Pairwise.nil hT
  obtain ⟨s1, s2⟩ := ordL_shut h
  have hC := closed_shut s2
  have hin : ∀ x ∈ meetL [] rs, x ∈ ordL zs rs := meetL_in (by simp) (fun v hv h0 => by
    unfold blkV at h0 ⊢
    by_cases h4 : v % 8 < 4
    · rw [if_pos h4] at h0; omega
    · rw [if_neg h4]; exact s1 v hv h4)
  have er : reachL zs rs = sortL (ordL zs rs) := if_pos h
  have hmem : ∀ x, x ∈ sortL (ordL zs rs) ↔ x ∈ ordL zs rs := fun x => by
    unfold sortL
    rw [mem_sortF]
    simp
  rw [er]
  refine ⟨Prod.ext he ?_, htri, fun x hx => (hmem x).2 (hin x hx)⟩
  refine asc_same k2 (sortF_asc _ _ List.Pairwise.nil (ordL_met h).1 (by simp)) fun x => ?_
  rw [hmem]
  constructor
  · exact (stepL_in hC 2000 _ _ hin (by simp)).2 x
  · intro hx
    rw [he] at k3
    have hcl : ClosedP zs (stepL zs 2000 (meetL [] rs) []).2 := fun a ha v hv h0 => by
      rcases k3 a ha v hv h0 with h' | h'
      · cases h'
      · exact h'
    refine ordF_in hcl _ _ _ (fun y hy => ?_) x hx
    rcases stepL_has (zs := zs) 2000 _ [] (.inl hy) with h' | h'
    · rw [he] at h'; cases h'
    · exact h'
end Go.Proofs.YtchkijeaaealmaaGreat
namespace Go.Proofs.YtchkijeaaealmaaGreat
open Go.RowKit

theorem leadsW_roots {zs rs : List Int} (h : rootsR zs rs = true) : LeadsW zs rs := by
  intro v hv
  unfold rootsR leadAll at h
  simp only [Bool.and_eq_true] at h
  obtain ⟨j, hj, e⟩ := List.getElem_of_mem hv
  have h1 := allR_iff.1 h.2 j hj
  have e1 : hz rs j = v := by unfold hz; rw [List.getElem?_eq_getElem hj]; exact e
  rw [e1, ← val11] at h1
  exact valR_lead h1
theorem shd_meet (rs : List Int) : shdL [] [] rs = meetL [] rs := by
  unfold shdL meetL
  congr 1
  funext g v
  exact shade_add g v
set_option maxHeartbeats 16000000 in
set_option maxRecDepth 100000 in
theorem impl_Start_ok (w : World) (ao ro : Option Addr) (cap rc : Nat) (zs rs : List Int) (hI : Ints w ao zs) (hl : zs.length ≤ 1048576) (hR : Ints w ro rs) (hrl : rs.length ≤ 1048576) :
    Calls Tryz.prog 16 #[.agg #[.slice ao zs.length cap], .slice ro rs.length rc] w fun e w' => ∃ m, e = .returned m ∧ MkO w' w.heap.size m (startC zs rs).1 (startC zs rs).2 [] 0 ∧ Kept w w' := by
  have b0 := (Cells.new w 26 #[.slice ao zs.length cap]).alloc (.cells #[.int .i64 0, .slice none 0 0, .slice none 0 0, .int .i64 0] 28)
  have b1 := Cells.new (w.alloc (.cells #[.slice ao zs.length cap] 26)) 28 #[.int .i64 0, .slice none 0 0, .slice none 0 0, .int .i64 0]
  have k0 : Kept w ((w.alloc (.cells #[.slice ao zs.length cap] 26)).alloc (.cells #[.int .i64 0, .slice none 0 0, .slice none 0 0, .int .i64 0] 28)) := (Kept.alloc (Below.refl _ _) _).alloc _
  simp only [World.size_alloc] at b1
  have hRo := impl_RootsOk_ok _ ao ro cap rc zs rs (hI.kept k0) hl (hR.kept k0) hrl
  have c0 := b0.cell 0
  have nilO : ∀ (W : World) (B : Nat), OwnL W B (.slice none 0 0) [] := fun W B => ⟨by simp, World.ownsRow_nil _ _ _ _⟩
  cases hr : rootsR zs rs with
  | false =>
    have HC : Hid (startC zs rs = (0, [])) := by simp [Hid, startC, hr]
    rw [hr] at hRo
    clear hr hI hR
    go_enter Tryz.func16, Tryz.ntmps16
    go_wp2_with (go_at_call 47; refine hRo.mono ?_; rintro e w1 ⟨rfl, hk1⟩; have z1 := b1.kept hk1; have d0 := z1.cell 0; have d1 := z1.cell 1; have d2 := z1.cell 2; have d3 := z1.cell 3; have f0 := z1.frozen 0; have f1 := z1.frozen 1; have f2 := z1.frozen 2; have f3 := z1.frozen 3; have q := z1.four (.int .i64 0) (.slice none 0 0) (.slice none 0 0) (.int .i64 0); have q0 := q.cell 0; have q1 := q.cell 1; have q2 := q.cell 2; have q3 := q.cell 3)
    refine bodyPost_ret (v := .agg #[.int .i64 0, .slice none 0 0, .slice none 0 0, .int .i64 0]) (by simp [results, Tryz.results16, go_sem, q0, q1, q2, q3]) rfl ⟨_, rfl, ?_, ?_⟩
    · rw [HC.out]
      exact ⟨_, _, rfl, nilO _ _, nilO _ _, fun j hj => by simp [Value.ownBlock] at hj⟩
    · exact ((((k0.trans hk1).set (by simp) _).set (by simp) _).set (by simp) _).set (by simp) _
  | true =>
    have HC : Hid (startC zs rs = (1, meetL [] rs)) := by simp [Hid, startC, hr]
    rw [hr] at hRo
    have HLW : Hid _ := leadsW_roots hr
    have hh : heapR zs = true := by unfold rootsR at hr; rw [Bool.and_eq_true] at hr; exact hr.1
    have hok := heapR_slab hh
    have HOk : Hid _ := hok
    have HR : Hid _ := hR
    have HI : Hid _ := hI
    clear hr hR hI hh hok
    go_enter Tryz.func16, Tryz.ntmps16
    go_wp2_with (go_at_call 47; refine hRo.mono ?_; rintro e w1 ⟨rfl, hk1⟩; have y1 := b0.kept hk1; have d0 := y1.cell 0)
    have K1 := k0.trans hk1
    have hMk := markingOf_ok w1 ao none none cap 0 0 zs [] [] 0 0 (Ints.kept HI.out K1) hl ⟨by simp, .inl rfl⟩ ⟨by simp, .inl rfl⟩ (by simp) (by simp) (fun _ => rfl)
    have HZ1 : Hid (∀ u, Kept w1 u → Cells u (w.heap.size + 1) 28 #[.int .i64 0, .slice none 0 0, .slice none 0 0, .int .i64 0]) := fun u hu => b1.kept (hk1.trans hu)
    refine hMk.mono ?_
    rintro e w2 ⟨v2, rfl, hv2, hk2⟩
    obtain ⟨lo, go, ln, lc, gc, base, rfl, _, hyes, hb1, hb2, hOg⟩ := hv2.is
    obtain ⟨rfl, hly, hlb⟩ := hyes HOk.out
    have hcz := Cells.new w2 55 Tryz.zeroCells55
    go_wp2_with (refine wpList_store_row (by rfl) 55 _ _ (by rfl) w2.heap.size _ (by rfl) (by rfl) _ _ hcz (by rw [mkC_size, colL_len]; exact infoMks) (by rw [mkC_size, colL_len]; exact zeroMk) mkC_one ?_)
    rw [World.setRow_alloc_new]
    obtain ⟨mc, hmc⟩ : ∃ mc, mkC (.slice ao zs.length cap) (.slice lo zs.length lc) (colL [] []) (.slice go 0 gc) = mc := ⟨_, rfl⟩
    have kS : Kept w2 (w2.alloc (.cells mc 55)) := Kept.alloc (Below.refl _ _) _
    have cS := Cells.new w2 55 mc
    have K2 : Kept w w2 := K1.trans hk2
    have s1 := K1.size
    have hs12 := hk2.size
    have ltI : zs ≠ [] → ∀ a, ao = some a → a.block < w.heap.size := fun hn a e => Ints.lt HI.out hn e
    have ltR : rs ≠ [] → ∀ a, ro = some a → a.block < w.heap.size := fun hn a e => Ints.lt HR.out hn e
    have hOlt : ∀ j, (Value.slice go 0 gc).ownBlock = some j → base ≤ j ∧ j < w2.heap.size := fun j hj => hOg.2.lt j hj
    obtain ⟨WS, hWS⟩ : ∃ WS, w2.alloc (.cells mc 55) = WS := ⟨_, rfl⟩
    rw [hWS] at kS cS
    have hS : MkgS WS w2.heap.size base ao lo cap lc zs [] [] (.slice go 0 gc) := ⟨by rw [hmc]; exact cS, OwnL.kept (row := none) hOg kS.grown (fun k e => by cases e), hly.kept kS, Ints.kept HI.out (K2.trans kS), hlb, fun hn a e => by have := ltI hn a e; omega, hb2, fun j hj => by have := (hOlt j hj).2; omega⟩
    have hSh := shade_ok WS w2.heap.size base ao lo ro cap lc rc zs [] [] rs _ hS HOk.out ⟨List.nodup_nil, by simp⟩ (Ints.kept HR.out (K2.trans kS)) hrl (fun hn a e => ⟨by have := ltR hn a e; omega, fun e' => by have := ltR hn a e; have := (hOlt _ e').1; omega⟩) HLW.out
    rw [hmc, hWS]
    rw [shd_meet] at hSh
    have HS : Hid (w.heap.size + 2 ≤ w1.heap.size) := by have := hk1.size; simp at this; exact this
    have HK : Hid _ := K2.trans kS
    have HkS : Hid _ := hk2.trans kS
    have HOlt : Hid _ := hOlt
    clear hmc hWS hS cS kS hk1 hk2 K1 K2 b0 b1 k0 c0 hRo hMk d0 y1 hv2 hOg hly hlb hcz ltI ltR hOlt
    refine hSh.mono ?_
    rintro e w4 ⟨rfl, gv4, hS4, hB4, hg4⟩
    obtain ⟨so4, sc4, rfl, _⟩ := hS4.g.ints
    have hs := HS.out
    have hsW := Below.size HkS.out
    have z4 : Cells w4 (w.heap.size + 1) 28 _ := (hB4.block (w.heap.size + 1) (by omega) (by omega) (fun e' => by have := (HOlt.out _ e').1; omega)).trans (HZ1.out _ HkS.out)
    have cg := hS4.c.cell 2002
    rw [mkC_g (by rw [colL_len])] at cg
    have d0 := z4.cell 0
    have d1 := z4.cell 1
    have d2 := z4.cell 2
    have d3 := z4.cell 3
    have f0 := z4.frozen 0
    have f1 := z4.frozen 1
    have f2 := z4.frozen 2
    have f3 := z4.frozen 3
    have K4 : Kept w w4 := Below.trans HK.out ((hB4.below (base := w.heap.size) (by omega) (fun j hj => by have := (HOlt.out _ hj).1; omega) (by omega)))
    have M4 : MkO w4 (w.heap.size + 2) (.agg #[.int .i64 1, .slice so4 (meetL [] rs).length sc4, .slice none 0 0, .int .i64 0]) 1 (meetL [] rs) [] 0 := ⟨_, _, rfl, ⟨hS4.g.1, ownsRow_base hS4.g.2 (by omega)⟩, nilO _ _, fun j _ e => by simp [Value.ownBlock] at e⟩
    have q := z4.four (.int .i64 1) (.slice so4 (meetL [] rs).length sc4) (.slice none 0 0) (.int .i64 0)
    have q0 := q.cell 0
    have q1 := q.cell 1
    have q2 := q.cell 2
    have q3 := q.cell 3
    have HM4 : Hid _ := M4
    have HK4 : Hid _ := K4
    clear M4 K4 hS4 hB4 hg4 hSh
    go_wp2_with fail
    refine bodyPost_ret (v := .agg #[.int .i64 1, .slice so4 (meetL [] rs).length sc4, .slice none 0 0, .int .i64 0]) (by simp [results, Tryz.results16, go_sem, q0, q1, q2, q3]) rfl ⟨_, rfl, ?_, ?_⟩
    · rw [HC.out]
      exact MkO.base (((((MkO.far (p := ⟨w.heap.size + 1, 0, none⟩) HM4.out (by simp)).far (p := ⟨w.heap.size + 1, 1, none⟩) (by simp)).far (p := ⟨w.heap.size + 1, 2, none⟩) (by simp)).far (p := ⟨w.heap.size + 1, 3, none⟩) (by simp))) (by omega)
    · exact (((Kept.set HK4.out (p := ⟨w.heap.size + 1, 0, none⟩) (by simp) _).set (p := ⟨w.heap.size + 1, 1, none⟩) (by simp) _).set (p := ⟨w.heap.size + 1, 2, none⟩) (by simp) _).set (p := ⟨w.heap.size + 1, 3, none⟩) (by simp) _
end Go.Proofs.YtchkijeaaealmaaGreat
