/-
  Facts on lists for the law FnProps: what PropSet leaves of a right heap; what it set is there, and all names stay.
  Facts on lists for the law FnProps: what PropSet leaves, told in one.
  Facts on lists for the law FnProtos: what an object has itself is what is looked up; what ProtoSet and ObjNew leave.
  For the law FnProps: sameTexts, and what the law wants of PropSet, told in one.
-/
import Derived.Test.YtpbafjcoomfooaaGreatGrpY
import Derived.Test.YtpbafjcoomfooaaGreatGrpZ
import Derived.Test.YtpbafjcoomfooaaGreatGrpX
namespace Go.Proofs.YtpbafjcoomfooaaGreat
open Go.RowKit

/-- Two blocks are the same one, or lie apart. -/
theorem Seg.apart {zs : List Int} {k e : Nat} {l : List Bk} (h : Seg zs k l e) : ∀ x ∈ l, ∀ y ∈ l, x.at' = y.at' ∨ x.at' + x.size ≤ y.at' ∨ y.at' + y.size ≤ x.at' := by
  induction h with
  | nil => simp
  | cons hg hs ih =>
    have hb := hs.bd
    intro x hx y hy
    rcases List.mem_cons.1 hx with rfl | hx <;> rcases List.mem_cons.1 hy with rfl | hy
    · exact .inl rfl
    · exact .inr (.inl (hb y hy).1)
    · exact .inr (.inr (hb x hx).1)
    · exact ih x hx y hy
theorem kind_at {zs : List Int} {a k : Nat} (hh : heapR zs = true) (h1 : 1 ≤ k) (hk : kindAt zs (a : Int) = k) : ∃ x ∈ raw (blocks zs), x.at' = a ∧ x.kind = k ∧ blkR zs a x.size k = true ∧ a + x.size ≤ zs.length := by
  obtain ⟨x, hx, hxa, hxk⟩ := kind_raw (zs := zs) (a := (a : Int)) (by rw [hk]; omega)
  have hxa' : x.at' = a := by omega
  have hxk' : x.kind = k := by rw [hk] at hxk; omega
  have hb := (heapR_iff.1 hh).2 x hx
  obtain ⟨y, hy, hyx⟩ := List.mem_map.1 hx
  have hy2 := y.2
  rw [hyx] at hy2
  rw [hxk', hxa'] at hb
  exact ⟨x, hx, hxa', hxk', hb, by have := hy2.2.1; omega⟩
theorem apart {zs : List Int} {x y : Bk} (hh : heapR zs = true) (hx : x ∈ raw (blocks zs)) (hy : y ∈ raw (blocks zs)) : x.at' = y.at' ∨ x.at' + x.size ≤ y.at' ∨ y.at' + y.size ≤ x.at' := (Seg.whole (heapR_slab hh)).apart x hx y hy
theorem nextR_mono {zs zs' : List Int} (h : Stays zs zs') {v : Int} (hv : nextR zs v 3 = true) : nextR zs' v 3 = true := by
  have := valR_mono (r := 6) h (v := v) (by rw [val6]; exact hv)
  rw [val6] at this
  exact this
theorem name_mono {zs zs' : List Int} (h : Stays zs zs') {v : Int} (hv : v % 8 = 4 ∧ leadsR zs v 0 = true) : leadsR zs' v 0 = true := by
  have := valR_mono (r := 7) h (v := v) (by rw [val7]; simp [hv.1, hv.2])
  rw [val7] at this
  simp only [Bool.and_eq_true] at this
  exact this.2
theorem plainR_mono {zs zs' : List Int} (h : Stays zs zs') {v : Int} (hv : plainR zs v = true) : plainR zs' v = true := by
  have := valR_mono (r := 10) h (v := v) (by rw [val10]; exact hv)
  rw [val10] at this
  exact this
/-- A cell's value that is set leaves a right heap. -/
theorem val_heap {zs : List Int} {q : Nat} {v : Int} (hh : heapR zs = true) (hk : kindAt zs (q : Int) = 3) (hv : plainR zs v = true) : heapR (zs.set (q + 2) v) = true ∧ Stays zs (zs.set (q + 2) v) := by
  obtain ⟨x, hx, hxa, hxk, hb, hle⟩ := kind_at (k := 3) hh (by omega) (by omega)
  rw [blk_cell] at hb
  unfold cellR at hb
  simp only [Bool.and_eq_true, decide_eq_true_eq, zeroR_iff] at hb
  obtain ⟨⟨⟨⟨⟨b1, b2⟩, b3⟩, b4⟩, b5⟩, b6⟩ := hb
  have hz' : ∀ j, hz (zs.set (q + 2) v) j = if j = q + 2 then v else hz zs j := fun j => hz_set (by omega)
  refine set_heap hh hx (by simp) (by rw [hz', if_neg (by omega)]) (fun j hj => by rw [hz', if_neg (by omega)]) (fun hst => ?_)
  rw [hxk, hxa, blk_cell]
  unfold cellR
  simp only [Bool.and_eq_true, decide_eq_true_eq, zeroR_iff]
  rw [hz' (q + 1), if_neg (by omega), hz' (q + 2), if_pos rfl, hz' (q + 3), if_neg (by omega)]
  exact ⟨⟨⟨⟨⟨b1, b2⟩, name_mono hst ⟨b2, b3⟩⟩, plainR_mono hst hv⟩, nextR_mono hst b5⟩, fun i hi => by rw [hz', if_neg (by omega)]; exact b6 i hi⟩
theorem link_heap {zs : List Int} {q : Nat} {u : Int} (hh : heapR zs = true) (hk : kindAt zs (q : Int) = 3) (hu : nextR zs u 3 = true) : heapR (zs.set (q + 3) u) = true ∧ Stays zs (zs.set (q + 3) u) := by
  obtain ⟨x, hx, hxa, hxk, hb, hle⟩ := kind_at (k := 3) hh (by omega) (by omega)
  rw [blk_cell] at hb
  unfold cellR at hb
  simp only [Bool.and_eq_true, decide_eq_true_eq, zeroR_iff] at hb
  obtain ⟨⟨⟨⟨⟨b1, b2⟩, b3⟩, b4⟩, b5⟩, b6⟩ := hb
  have hz' : ∀ j, hz (zs.set (q + 3) u) j = if j = q + 3 then u else hz zs j := fun j => hz_set (by omega)
  refine set_heap hh hx (by simp) (by rw [hz', if_neg (by omega)]) (fun j hj => by rw [hz', if_neg (by omega)]) (fun hst => ?_)
  rw [hxk, hxa, blk_cell]
  unfold cellR
  simp only [Bool.and_eq_true, decide_eq_true_eq, zeroR_iff]
  rw [hz' (q + 1), if_neg (by omega), hz' (q + 2), if_neg (by omega), hz' (q + 3), if_pos rfl]
  exact ⟨⟨⟨⟨⟨b1, b2⟩, name_mono hst ⟨b2, b3⟩⟩, plainR_mono hst b4⟩, nextR_mono hst hu⟩, fun i hi => by rw [hz', if_neg (by omega)]; exact b6 i hi⟩
theorem first_heap {zs : List Int} {a : Nat} {u : Int} (hh : heapR zs = true) (hk : kindAt zs (a : Int) = 2) (hu : nextR zs u 3 = true) : heapR (zs.set (a + 2) u) = true ∧ Stays zs (zs.set (a + 2) u) := by
  obtain ⟨x, hx, hxa, hxk, hb, hle⟩ := kind_at (k := 2) hh (by omega) (by omega)
  rw [blk_obj] at hb
  unfold objR at hb
  simp only [Bool.and_eq_true, decide_eq_true_eq, zeroR_iff] at hb
  obtain ⟨⟨⟨b1, b2⟩, b3⟩, b4⟩ := hb
  have hz' : ∀ j, hz (zs.set (a + 2) u) j = if j = a + 2 then u else hz zs j := fun j => hz_set (by omega)
  refine set_heap hh hx (by simp) (by rw [hz', if_neg (by omega)]) (fun j hj => by rw [hz', if_neg (by omega)]) (fun hst => ?_)
  rw [hxk, hxa, blk_obj]
  unfold objR
  have h5 := valR_mono (r := 5) hst (v := hz zs (a + 1)) (by rw [val5]; exact b2)
  rw [val5] at h5
  simp only [Bool.and_eq_true, decide_eq_true_eq, zeroR_iff]
  rw [hz' (a + 1), if_neg (by omega), hz' (a + 2), if_pos rfl]
  exact ⟨⟨⟨b1, h5⟩, nextR_mono hst hu⟩, fun i hi => by rw [hz', if_neg (by omega)]; exact b4 i hi⟩
/-- A new cell leaves a right heap. -/
theorem cell_heap {zs : List Int} {n v : Int} {b : BkOf zs.length} (hh : heapR zs = true) (hn : valR zs 7 n = true) (hv : valR zs 10 v = true) (hff : ffB zs 4 = some b) :
    ∃ hs, hs = ((takeL zs b.1 3 4).set (b.1.at' + 1) n).set (b.1.at' + 2) v ∧ hs.length = zs.length ∧ heapR hs = true ∧ Stays zs hs ∧ kindAt hs (b.1.at' : Nat) = 3 ∧ hz hs (b.1.at' + 1) = n ∧ hz hs (b.1.at' + 2) = v ∧ hz hs (b.1.at' + 3) = 0 ∧ (∀ j, j < b.1.at' ∨ b.1.at' + b.1.size ≤ j → hz hs j = hz zs j) ∧ b.1 ∈ raw (blocks zs) ∧ b.1.kind = 0 ∧ 4 ≤ b.1.size := by
  have hfr : b.1.kind = 0 ∧ (4 : Int) ≤ (b.1.size : Int) := by
    have := List.find?_some hff
    simpa [freeP] using this
  have hm : b.1 ∈ raw (blocks zs) := List.mem_map.2 ⟨b, List.mem_of_find?_eq_some hff, rfl⟩
  have hbs := b.2
  have hlT := takeL_length zs b.1 3 4
  obtain ⟨rs, hrs⟩ : ∃ rs, ((takeL zs b.1 3 4).set (b.1.at' + 1) n).set (b.1.at' + 2) v = rs := ⟨_, rfl⟩
  have hz' : ∀ j, hz rs j = if j = b.1.at' + 2 then v else if j = b.1.at' + 1 then n else hz (takeL zs b.1 3 4) j := fun j => by rw [← hrs, hz_set (by simp; omega), hz_set (by omega)]
  have hlR : rs.length = zs.length := by rw [← hrs, List.length_set, List.length_set, hlT]
  have cel : ∀ s' : Nat, 4 ≤ s' → s' ≤ 5 → hz rs (b.1.at' + 3) = 0 → (s' = 5 → hz rs (b.1.at' + 4) = 0) → Stays zs rs → blkR rs b.1.at' s' 3 = true := by
    intro s' h3 h4 w3 w4 hst
    rw [blk_cell]
    unfold cellR
    have hn' := valR_mono hst hn
    have hv' := valR_mono hst hv
    rw [val7] at hn'
    rw [val10] at hv'
    simp only [Bool.and_eq_true, decide_eq_true_eq, zeroR_iff] at hn' ⊢
    rw [hz' (b.1.at' + 1), if_neg (by omega), if_pos rfl, hz' (b.1.at' + 2), if_pos rfl, w3]
    refine ⟨⟨⟨⟨⟨⟨h3, h4⟩, hn'.1⟩, hn'.2⟩, hv'⟩, by simp [nextR]⟩, fun i hi => ?_⟩
    obtain rfl : i = 0 := by omega
    exact w4 (by omega)
  have key : ∃ s' : Nat, (s' = b.1.size ∨ s' + 2 ≤ b.1.size) ∧ 2 ≤ s' ∧ hz rs b.1.at' = 8 * (s' : Int) + ((3 : Nat) : Int) ∧ (s' + 2 ≤ b.1.size → hz rs (b.1.at' + s') = 8 * ((b.1.size : Int) - (s' : Int))) ∧ (∀ j, j < b.1.at' ∨ b.1.at' + b.1.size ≤ j → hz rs j = hz zs j) ∧ (Stays zs rs → blkR rs b.1.at' s' 3 = true) ∧ hz rs (b.1.at' + 3) = 0 := by
    by_cases hs : 4 + 2 ≤ b.1.size
    · have eT : takeL zs b.1 3 4 = layL (zs.set (b.1.at' + 4) (8 * ((b.1.size : Int) - ((4 : Nat) : Int)))) b.1.at' 4 (8 * ((4 : Nat) : Int) + ((3 : Nat) : Int)) := if_pos hs
      have hzT : ∀ j, hz (takeL zs b.1 3 4) j = if j = b.1.at' then 8 * ((4 : Nat) : Int) + ((3 : Nat) : Int) else if b.1.at' < j ∧ j < b.1.at' + 4 then 0 else if j = b.1.at' + 4 then 8 * ((b.1.size : Int) - ((4 : Nat) : Int)) else hz zs j := fun j => by
        rw [eT, hz_layL (by simp; omega) (by omega), hz_set (by omega)]
      have w3 : hz rs (b.1.at' + 3) = 0 := by rw [hz', if_neg (by omega), if_neg (by omega), hzT, if_neg (by omega), if_pos (by omega)]
      refine ⟨4, .inr hs, by omega, ?_, fun _ => ?_, fun j hj => ?_, cel 4 (by omega) (by omega) w3 (by omega), w3⟩
      · rw [hz', if_neg (by omega), if_neg (by omega), hzT, if_pos rfl]
      · rw [hz', if_neg (by omega), if_neg (by omega), hzT, if_neg (by omega), if_neg (by omega), if_pos rfl]
      · rw [hz', if_neg (by omega), if_neg (by omega), hzT, if_neg (by omega), if_neg (by omega), if_neg (by omega)]
    · have eT : takeL zs b.1 3 4 = layL zs b.1.at' b.1.size (8 * (b.1.size : Int) + ((3 : Nat) : Int)) := if_neg hs
      have hzT : ∀ j, hz (takeL zs b.1 3 4) j = if j = b.1.at' then 8 * (b.1.size : Int) + ((3 : Nat) : Int) else if b.1.at' < j ∧ j < b.1.at' + b.1.size then 0 else hz zs j := fun j => by
        rw [eT, hz_layL (by omega) (by omega)]
      have w3 : hz rs (b.1.at' + 3) = 0 := by rw [hz', if_neg (by omega), if_neg (by omega), hzT, if_neg (by omega), if_pos (by omega)]
      refine ⟨b.1.size, .inl rfl, by omega, ?_, fun h => by omega, fun j hj => ?_, cel b.1.size (by omega) (by omega) w3 (fun h => by rw [hz', if_neg (by omega), if_neg (by omega), hzT, if_neg (by omega), if_pos (by omega)]), w3⟩
      · rw [hz', if_neg (by omega), if_neg (by omega), hzT, if_pos rfl]
      · rw [hz', if_neg (by omega), if_neg (by omega), hzT, if_neg (by omega), if_neg (by omega)]
  obtain ⟨s', k1, k2, k3, k4, k5, k6, k7⟩ := key
  obtain ⟨hR, hst, hin, _⟩ := take_heap (zs' := rs) hh hm hfr.1 hlR k2 k1 (kind := 3) (by omega) k3 k4 k5 k6
  exact ⟨rs, hrs.symm, hlR, hR, hst, (Seg.foundM (heapR_slab hR) hin).1, by rw [hz', if_neg (by omega), if_pos rfl], by rw [hz', if_pos rfl], k7, k5, hm, hfr.1, by omega⟩
theorem Path.app {zs : List Int} {v' : Int} {l2 : List Nat} : ∀ {l1 : List Nat} {v : Int}, Path zs v (l1 ++ l2) v' → ∃ u, Path zs v l1 u ∧ Path zs u l2 v'
  | [], v, h => ⟨v, rfl, h⟩
  | p :: ps, v, h => by
    obtain ⟨u, h1, h2⟩ := Path.app (l1 := ps) h.2.2
    exact ⟨u, ⟨h.1, h.2.1, h1⟩, h2⟩
theorem Path.nodup {zs : List Int} : ∀ {ps : List Nat} {v : Int}, Path zs v ps 0 → ps.Nodup
  | [], _, _ => List.nodup_nil
  | p :: ps, v, h => by
    refine List.nodup_cons.2 ⟨fun hm => ?_, Path.nodup h.2.2⟩
    obtain ⟨l1, l2, e⟩ := List.append_of_mem hm
    have h2 := h.2.2
    rw [e] at h2
    obtain ⟨u, _, h3⟩ := Path.app h2
    have := Path.det h2 h3.2.2
    have := congrArg List.length this
    simp at this
    omega
theorem Path.kinds {zs : List Int} {v v' : Int} {ps : List Nat} (hh : heapR zs = true) (h : Path zs v ps v') (hv : nextR zs v 3 = true) : ∀ p ∈ ps, kindAt zs (p : Int) = 3 := by
  intro p hp
  obtain ⟨u, h0, hn, e⟩ := h.cells hh hv p hp
  obtain ⟨n, s, e2, h7, _⟩ := next_facts hh hn h0
  unfold nextR at hn
  simp only [Bool.or_eq_true, Bool.and_eq_true, decide_eq_true_eq, h0, false_or] at hn
  have hk := leads_kind hn.2 (by omega)
  rw [h7] at hk
  have e3 : p = n := e.symm.trans (plc_is e2)
  rw [e3, ← e2, hk]
  simp [wantK]
theorem All.of {zs : List Int} {v : Int} {ps : List Nat} (hh : heapR zs = true) (h : Path zs v ps 0) (hv : nextR zs v 3 = true) : All zs v ps 0 := by
  refine ⟨h, h.nodup, fun p hp => ?_, .inl rfl⟩
  obtain ⟨u, h0, hn, e⟩ := h.cells hh hv p hp
  obtain ⟨n, s, e2, _, h3, h4, _⟩ := next_facts hh hn h0
  have e3 : p = n := e.symm.trans (plc_is e2)
  omega
theorem Path.over {zs rs : List Int} {v' : Int} : ∀ {ps : List Nat} {v : Int}, Path zs v ps v' → (∀ p ∈ ps, hz rs (p + 3) = hz zs (p + 3)) → Path rs v ps v'
  | [], _, h, _ => h
  | p :: ps, v, h, he => ⟨h.1, h.2.1, by rw [he p (by simp)]; exact Path.over h.2.2 (fun q hq => he q (List.mem_cons_of_mem _ hq))⟩
theorem Path.grow {zs rs : List Int} {c L : Nat} (hc : hz rs (c + 3) = 0) (hL : hz rs (L + 3) = 8 * (c : Int) + 7) : ∀ {ps : List Nat} {v : Int}, Path zs v ps 0 → ps.Nodup → ps.getLast? = some L → (∀ p ∈ ps, p ≠ L → hz rs (p + 3) = hz zs (p + 3)) → Path rs v (ps ++ [c]) 0
  | [], _, _, _, h, _ => by simp at h
  | [p], v, h, _, hl, _ => by
    have e : p = L := by simpa using hl
    subst e
    refine ⟨h.1, h.2.1, ?_⟩
    rw [hL]
    exact ⟨by omega, plc_is (by omega), hc.symm⟩
  | p :: q :: ps, v, h, hd, hl, he => by
    have hl2 : (q :: ps).getLast? = some L := by rw [List.getLast?_cons_cons] at hl; exact hl
    have hne : p ≠ L := fun e => by
      have := List.mem_of_getLast? hl2
      rw [← e] at this
      exact (List.nodup_cons.1 hd).1 this
    refine ⟨h.1, h.2.1, ?_⟩
    rw [he p (by simp) hne]
    exact Path.grow hc hL h.2.2 (List.nodup_cons.1 hd).2 hl2 (fun x hx hx2 => he x (List.mem_cons_of_mem _ hx) hx2)
theorem namedP_same {zs rs : List Int} {name : Int} {ps : List Nat} (h : ∀ p ∈ ps, hz rs (p + 1) = hz zs (p + 1)) : namedP rs name ps = namedP zs name ps := by
  unfold namedP
  induction ps with
  | nil => rfl
  | cons p ps ih =>
    rw [List.find?_cons, List.find?_cons, h p (by simp), ih (fun q hq => h q (List.mem_cons_of_mem _ hq))]
theorem isOb_mono {zs zs' : List Int} (h : Stays zs zs') {v : Int} (hv : isOb zs v = true) : isOb zs' v = true := by
  obtain ⟨h5, h6⟩ := isOb_facts hv
  unfold isOb at hv
  simp only [Bool.and_eq_true, decide_eq_true_eq] at hv
  have := valR_mono (r := 5) h (v := v) (by rw [val5]; simp [hv.1, hv.2])
  rw [val5] at this
  have h1 : ¬ v = 1 := by omega
  simpa [h1, isOb] using this
theorem txtP_same {zs rs : List Int} {v : Int} (hh : heapR zs = true) (h4 : v % 8 = 4) (hl : leadsR zs v 0 = true) (he : ∀ x ∈ raw (blocks zs), x.kind = 1 → ∀ j, x.at' ≤ j → j < x.at' + x.size → hz rs j = hz zs j) : txtP rs v = txtP zs v := by
  obtain ⟨b, _, e, hk, hm⟩ := leads_text h4 hl
  obtain ⟨m, hm1, hm2, _⟩ := text_facts hh hm hk
  have hx : b.1 ∈ raw (blocks zs) := List.mem_map.2 ⟨b, hm, rfl⟩
  have hb := b.2
  have ep : plc v = b.1.at' := plc_is e
  unfold txtP textL bytesL
  rw [ep]
  have e1 : hz rs (b.1.at' + 1) = hz zs (b.1.at' + 1) := he b.1 hx hk _ (by omega) (by omega)
  rw [e1]
  congr 1
  apply List.map_congr_left
  intro i hi
  have hi' := List.mem_range.1 hi
  exact he b.1 hx hk _ (by omega) (by omega)
end Go.Proofs.YtpbafjcoomfooaaGreat
namespace Go.Proofs.YtpbafjcoomfooaaGreat
open Go.RowKit

theorem kind_ne {zs : List Int} {x y : Bk} (hh : heapR zs = true) (hx : x ∈ raw (blocks zs)) (hy : y ∈ raw (blocks zs)) (h : x.kind ≠ y.kind) : x.at' + x.size ≤ y.at' ∨ y.at' + y.size ≤ x.at' := by
  rcases apart hh hx hy with e | e
  · exfalso
    have h1 := (Seg.foundM (heapR_slab hh) hx).1
    have h2 := (Seg.foundM (heapR_slab hh) hy).1
    rw [e] at h1
    omega
  · exact e
structure PropF (zs rs : List Int) (obj name v : Int) (ps qs : List Nat) : Prop where
  heap : heapR rs = true
  stays : Stays zs rs
  len : rs.length = zs.length
  path : Path rs (hz rs (plc obj + 2)) qs 0
  named : ∃ q, namedP rs name qs = some q ∧ hz rs (q + 2) = v
  more : qs = ps ∨ ∃ c, qs = ps ++ [c]
  names : ∀ p ∈ ps, hz rs (p + 1) = hz zs (p + 1)
  texts : ∀ x ∈ raw (blocks zs), x.kind = 1 → ∀ j, x.at' ≤ j → j < x.at' + x.size → hz rs j = hz zs j
theorem cell_size {zs : List Int} {a s : Nat} (h : blkR zs a s 3 = true) : 4 ≤ s := by
  rw [blk_cell] at h
  unfold cellR at h
  simp only [Bool.and_eq_true, decide_eq_true_eq] at h
  omega
theorem obj_size {zs : List Int} {a s : Nat} (h : blkR zs a s 2 = true) : 3 ≤ s := by
  rw [blk_obj] at h
  unfold objR at h
  simp only [Bool.and_eq_true, decide_eq_true_eq] at h
  omega
theorem isOb_kind {zs : List Int} {obj : Int} {a : Nat} (h : isOb zs obj = true) (ha : obj / 8 = a) : kindAt zs (a : Int) = 2 := by
  obtain ⟨h5, hv⟩ := isOb_facts h
  have hk := leads_kind hv (by omega)
  rw [h5, ha] at hk
  rw [hk]
  simp [wantK]
theorem there_facts {zs : List Int} {obj name v : Int} {ps : List Nat} {a q : Nat} (hh : heapR zs = true) (ho : isOb zs obj = true) (ha : obj / 8 = a) (hv : plainR zs v = true) (hn : nextR zs (hz zs (a + 2)) 3 = true) (hp : Path zs (hz zs (a + 2)) ps 0) (hq : namedP zs name ps = some q) :
    PropF zs (zs.set (q + 2) v) obj name v ps ps := by
  have hqm : q ∈ ps := List.mem_of_find?_eq_some hq
  have hkq := hp.kinds hh hn q hqm
  obtain ⟨h1, h2⟩ := val_heap hh hkq hv
  obtain ⟨x, hx, hxa, hxk, hb, hle⟩ := kind_at (k := 3) hh (by omega) (by exact hkq)
  have hx4 := cell_size hb
  have hka := isOb_kind ho ha
  have hz' : ∀ j, hz (zs.set (q + 2) v) j = if j = q + 2 then v else hz zs j := fun j => hz_set (by omega)
  have hne : a ≠ q := fun e => by rw [e] at hka; rw [hka] at hkq; omega
  have hps : ∀ p ∈ ps, p + 3 ≠ q + 2 ∧ p + 1 ≠ q + 2 := by
    intro p hpm
    obtain ⟨y, hy, hya, _, hyb, _⟩ := kind_at (k := 3) hh (by omega) (by exact hp.kinds hh hn p hpm)
    have hy4 := cell_size hyb
    have := apart hh hx hy
    omega
  have e0 : hz (zs.set (q + 2) v) (a + 2) = hz zs (a + 2) := by rw [hz', if_neg (by omega)]
  refine ⟨h1, h2, by simp, ?_, ⟨q, ?_, by rw [hz', if_pos rfl]⟩, .inl rfl, fun p hpm => by rw [hz', if_neg (hps p hpm).2], fun y hy hyk j hj1 hj2 => ?_⟩
  · rw [plc_is ha, e0]
    exact hp.over (fun p hpm => by rw [hz', if_neg (hps p hpm).1])
  · rw [namedP_same (zs := zs) (fun p hpm => by rw [hz', if_neg (hps p hpm).2])]
    exact hq
  · have := kind_ne hh hx hy (by omega)
    rw [hz', if_neg (by omega)]
theorem new_facts {zs : List Int} {obj name v : Int} {ps : List Nat} {a : Nat} {b : BkOf zs.length} (hh : heapR zs = true) (ho : isOb zs obj = true) (ha : obj / 8 = a) (hnm : valR zs 7 name = true) (hv : valR zs 10 v = true) (hn : nextR zs (hz zs (a + 2)) 3 = true) (hp : Path zs (hz zs (a + 2)) ps 0) (hq : namedP zs name ps = none) (hff : ffB zs 4 = some b) :
    PropF zs ((((takeL zs b.1 3 4).set (b.1.at' + 1) name).set (b.1.at' + 2) v).set (tailP a ps) (8 * ((b.1.at' : Nat) : Int) + 7)) obj name v ps (ps ++ [b.1.at']) := by
  obtain ⟨hs, ehs, hlen, hR, hst, hk3, w1, w2, w3, hout, hbm, hbk, hb4⟩ := cell_heap hh hnm hv hff
  rw [← ehs]
  clear ehs
  obtain ⟨c, hc⟩ : ∃ c : Nat, b.1.at' = c := ⟨_, rfl⟩
  have hble := b.2.2.1
  have hz2000 := (slabOk_iff.1 (heapR_slab hh)).1
  obtain ⟨s, hs'⟩ : ∃ s : Nat, b.1.size = s := ⟨_, rfl⟩
  have hbapart : ∀ x ∈ raw (blocks zs), x.kind ≠ 0 → x.at' + x.size ≤ c ∨ c + s ≤ x.at' := fun x hx hxk => by
    have := kind_ne hh hx hbm (by omega)
    omega
  rw [hc] at hk3 w1 w2 w3 hout hble ⊢
  rw [hs'] at hout hb4 hble
  have hu : nextR hs (8 * (c : Int) + 7) 3 = true := by
    rw [← val6]
    unfold valR
    have e7 : (8 * (c : Int) + 7) % 8 = 7 := by omega
    have e8 : (8 * (c : Int) + 7) / 8 = c := by omega
    rw [e7, e8, hk3]
    have : vOk (8 * (c : Int) + 7) = true := by unfold vOk; simp; omega
    rw [this]
    decide
  have hka := isOb_kind ho ha
  obtain ⟨xa, hxa, hxaa, hxak, hxab, hxal⟩ := kind_at (k := 2) hh (by omega) (by exact hka)
  have ha3 := obj_size hxab
  have hapc := hbapart xa hxa (by omega)
  have hcell : ∀ p ∈ ps, ∃ y ∈ raw (blocks zs), y.at' = p ∧ y.kind = 3 ∧ 4 ≤ y.size ∧ p + y.size ≤ zs.length ∧ (p + y.size ≤ c ∨ c + s ≤ p) := by
    intro p hpm
    obtain ⟨y, hy, hya, hyk, hyb, hyl⟩ := kind_at (k := 3) hh (by omega) (by exact hp.kinds hh hn p hpm)
    have := hbapart y hy (by omega)
    exact ⟨y, hy, hya, hyk, cell_size hyb, hyl, by omega⟩
  have hnamed : ∀ rs : List Int, (∀ p ∈ ps, hz rs (p + 1) = hz zs (p + 1)) → hz rs (c + 1) = name → namedP rs name (ps ++ [c]) = some c := by
    intro rs h1 h2
    have h3 := namedP_same (rs := rs) (name := name) h1
    rw [hq] at h3
    unfold namedP at h3 ⊢
    rw [List.find?_append, h3]
    simp [h2]
  cases hL : ps.getLast? with
  | none =>
    have hp0 : ps = [] := List.getLast?_eq_none_iff.1 hL
    subst hp0
    have eT : tailP a [] = a + 2 := rfl
    rw [eT]
    have hka2 : kindAt hs (a : Int) = 2 := by rw [hst _ (by rw [hka]; omega), hka]
    obtain ⟨g1, g2⟩ := first_heap hR hka2 hu
    have hz' : ∀ j, hz (hs.set (a + 2) (8 * (c : Int) + 7)) j = if j = a + 2 then 8 * (c : Int) + 7 else hz hs j := fun j => hz_set (by omega)
    refine ⟨g1, fun x hx => (g2 x (by rw [hst x hx]; exact hx)).trans (hst x hx), by simp [hlen], ?_, ⟨c, hnamed _ (by simp) (by rw [hz', if_neg (by omega)]; exact w1), by rw [hz', if_neg (by omega)]; exact w2⟩, .inr ⟨c, rfl⟩, by simp, fun x hx hxk j hj1 hj2 => ?_⟩
    · rw [plc_is ha, hz', if_pos rfl]
      refine ⟨by omega, plc_is (by omega), ?_⟩
      show 0 = _
      rw [hz', if_neg (by omega), w3]
    · have h1 := hbapart x hx (by omega)
      have h2 := kind_ne hh hx hxa (by omega)
      rw [hz', if_neg (by omega), hout j (by omega)]
  | some L =>
    have eT : tailP a ps = L + 3 := by unfold tailP; rw [hL]
    rw [eT]
    have hLm : L ∈ ps := List.mem_of_getLast? hL
    obtain ⟨xl, hxl, hxla, hxlk, hl4, hll, hlc⟩ := hcell L hLm
    have hkl := hp.kinds hh hn L hLm
    have hkl2 : kindAt hs (L : Int) = 3 := by rw [hst _ (by rw [hkl]; omega), hkl]
    obtain ⟨g1, g2⟩ := link_heap hR hkl2 hu
    have hz' : ∀ j, hz (hs.set (L + 3) (8 * (c : Int) + 7)) j = if j = L + 3 then 8 * (c : Int) + 7 else hz hs j := fun j => hz_set (by omega)
    have hal := kind_ne hh hxa hxl (by omega)
    have hpl : ∀ p ∈ ps, p = L ∨ p + 4 ≤ L ∨ L + 4 ≤ p := by
      intro p hpm
      obtain ⟨y, hy, hya, _, hy4, _, _⟩ := hcell p hpm
      have := apart hh hy hxl
      omega
    have hnm' : ∀ p ∈ ps, hz (hs.set (L + 3) (8 * (c : Int) + 7)) (p + 1) = hz zs (p + 1) := by
      intro p hpm
      have h1 := hpl p hpm
      obtain ⟨y, _, hya, _, hy4, _, hyc⟩ := hcell p hpm
      rw [hz', if_neg (by omega), hout (p + 1) (by omega)]
    refine ⟨g1, fun x hx => (g2 x (by rw [hst x hx]; exact hx)).trans (hst x hx), by simp [hlen], ?_, ⟨c, hnamed _ hnm' (by rw [hz', if_neg (by omega)]; exact w1), by rw [hz', if_neg (by omega)]; exact w2⟩, .inr ⟨c, rfl⟩, hnm', fun x hx hxk j hj1 hj2 => ?_⟩
    · rw [plc_is ha, hz', if_neg (by omega), hout (a + 2) (by omega)]
      refine Path.grow (L := L) (by rw [hz', if_neg (by omega), w3]) (by rw [hz', if_pos rfl]) hp hp.nodup hL (fun p hpm hne => ?_)
      have h1 := hpl p hpm
      obtain ⟨y, _, hya, _, hy4, _, hyc⟩ := hcell p hpm
      rw [hz', if_neg (by omega), hout (p + 3) (by omega)]
    · have h1 := hbapart x hx (by omega)
      have h2 := kind_ne hh hx hxl (by omega)
      rw [hz', if_neg (by omega), hout j (by omega)]
/-- What PropSet leaves, where it says true. -/
theorem prop_facts {zs rs : List Int} {obj name v : Int} (h : propC zs obj name v = (rs, true)) :
    ∃ ps qs : List Nat, heapR zs = true ∧ namesR zs obj = true ∧ Path zs (hz zs (plc obj + 2)) ps 0 ∧ namesR rs obj = true ∧ PropF zs rs obj name v ps qs ∧ ownV rs obj name = .tuple #[.int .i64 v, .bool true] ∧ txtsP rs ps = txtsP zs ps := by
  cases hpr : propR zs obj name v with
  | false => rw [propC_no hpr] at h; simp at h
  | true =>
    cases hrd : roundR zs obj with
    | true => rw [propC_round hrd] at h; simp at h
    | false =>
      rw [propC_yes hpr hrd] at h
      unfold propR at hpr
      simp only [Bool.and_eq_true] at hpr
      obtain ⟨⟨⟨hh, ho⟩, hnm⟩, hv⟩ := hpr
      obtain ⟨h5, hle5⟩ := isOb_facts ho
      obtain ⟨a, s, ha, _, _, _, _, hn⟩ := obj_facts hh h5 hle5
      have hp : ∃ ps : List Nat, Path zs (hz zs (a + 2)) ps 0 := by
        unfold roundR at hrd
        rw [plc_is ha] at hrd
        have : chase zs zs.length (hz zs (a + 2)) = 0 := by simpa using hrd
        obtain ⟨ps, _, h2⟩ := chase_path _ _ this
        exact ⟨ps, h2⟩
      obtain ⟨ps, hp⟩ := hp
      have hA : All zs (hz zs (plc obj + 2)) ps 0 := by rw [plc_is ha]; exact All.of hh hp hn
      have key : ∃ qs, PropF zs rs obj name v ps qs := by
        cases hq : namedP zs name ps with
        | some q =>
          rw [setC_there hA hq] at h
          obtain ⟨rfl, _⟩ := Prod.mk.inj h
          exact ⟨ps, there_facts hh ho ha (by rw [val10] at hv; exact hv) hn hp hq⟩
        | none =>
          cases hff : ffB zs 4 with
          | none => rw [setC_full hA hq hff] at h; simp at h
          | some b =>
            rw [setC_new hA hq hff ha] at h
            obtain ⟨rfl, _⟩ := Prod.mk.inj h
            exact ⟨_, new_facts hh ho ha hnm hv hn hp hq hff⟩
      obtain ⟨qs, F⟩ := key
      have ho2 := isOb_mono F.stays ho
      obtain ⟨k5, k6⟩ := isOb_facts ho2
      obtain ⟨a2, s2, ha2, _, _, _, _, hn2⟩ := obj_facts F.heap k5 k6
      have hA2 : All rs (hz rs (plc obj + 2)) qs 0 := All.of F.heap F.path (by rw [plc_is ha2]; exact hn2)
      have hrd2 : roundR rs obj = false := by
        have := hA2.round
        unfold roundR
        rw [this]
        simp
      have hask : askR rs obj name = true := by simp [askR, F.heap, ho2, valR_mono F.stays hnm]
      obtain ⟨q, hq1, hq2⟩ := F.named
      refine ⟨ps, qs, hh, by simp [namesR, hh, ho, hrd], by rw [plc_is ha]; exact hp, by simp [namesR, F.heap, ho2, hrd2], F, ?_, ?_⟩
      · rw [own_get hA2 hask, getV_some hq1, hq2]
      · unfold txtsP
        apply List.map_congr_left
        intro p hpm
        rw [F.names p hpm]
        obtain ⟨u, h0, hnu, e⟩ := hp.cells hh hn p hpm
        obtain ⟨x, _, hxa, _, hxb, _⟩ := kind_at (k := 3) hh (by omega) (by exact hp.kinds hh hn p hpm)
        rw [blk_cell] at hxb
        unfold cellR at hxb
        simp only [Bool.and_eq_true, decide_eq_true_eq] at hxb
        exact txtP_same hh hxb.1.1.1.1.2 hxb.1.1.1.2 F.texts
end Go.Proofs.YtpbafjcoomfooaaGreat
namespace Go.Proofs.YtpbafjcoomfooaaGreat
open Go.RowKit

theorem own_look {zs : List Int} {o n x : Int} (h : ownV zs o n = .tuple #[.int .i64 x, .bool true]) : lookV zs o n = .tuple #[.int .i64 x, .bool true] := by
  unfold ownV at h
  split at h
  · rename_i hk
    split at h
    · rename_i h0
      unfold lookV
      rw [if_pos hk]
      obtain ⟨hh, hob, _⟩ := ask_facts hk
      obtain ⟨h5, hv⟩ := isOb_facts hob
      obtain ⟨a, s, ha, hle, hs, _⟩ := obj_facts hh h5 hv
      obtain ⟨m, hm⟩ : ∃ m, zs.length = m + 1 := ⟨zs.length - 1, by omega⟩
      have hhas : hasO zs n o = some (hz zs ((cellF zs n zs.length (hz zs (plc o + 2)) (-1)).1.toNat + 2)) := by unfold hasO; rw [if_pos h0]
      have := lookF_hit m h5 hhas
      rw [← hm] at this
      rw [this]
      exact h
    · simp at h
  · simp at h
theorem own_see {zs : List Int} {o n x z : Int} {see : Bool} (h1 : ownV zs o n = .tuple #[.int .i64 z, .bool true]) (h2 : lookV zs o n = .tuple #[.int .i64 x, .bool see]) : see = true ∧ z = x := by
  have := own_look h1
  rw [h2] at this
  simp at this
  exact ⟨this.2, this.1.symm⟩
theorem objNew_facts {zs rs : List Int} {p r : Int} (h : objNewC zs p = (rs, r, true)) : heapR rs = true ∧ (-9223372036854775808 ≤ r ∧ r ≤ 9223372036854775807) ∧ hz rs (plc r + 2) = 0 := by
  unfold objNewC at h
  rw [new_is] at h
  split at h
  · rename_i hk
    simp only [Bool.and_eq_true] at hk
    unfold objC at h
    split at h
    · simp at h
    · rename_i b hff
      obtain ⟨h1, h2, h3, h4⟩ := new_heap hk.1 hk.2 hff
      have hb := b.2.2.1
      have hlen := (slabOk_iff.1 (heapR_slab hk.1)).1
      obtain ⟨rfl, h6⟩ := Prod.mk.inj h
      obtain ⟨rfl, _⟩ := Prod.mk.inj h6
      refine ⟨h1, by omega, ?_⟩
      rw [plc_is (v := 8 * ((b.1.at' : Nat) : Int) + 5) (n := b.1.at') (by omega)]
      exact h4
  · simp at h
theorem proSet_facts {zs rs : List Int} {x y : Int} (h : proSetC zs x y = (rs, true)) : heapR rs = true ∧ rs.length ≤ 2000 ∧ ∃ a : Nat, x / 8 = a ∧ a + 1 < rs.length ∧ hz rs (a + 1) = y := by
  unfold proSetC at h
  split at h
  · rename_i hk
    unfold proSetR at hk
    simp only [Bool.and_eq_true] at hk
    obtain ⟨h5, hv⟩ := isOb_facts hk.1.2
    obtain ⟨a, s, ha, hle, hs, _⟩ := obj_facts hk.1.1 h5 hv
    have hlen := (slabOk_iff.1 (heapR_slab hk.1.1)).1
    have := proto_heap hk.1.1 hk.1.2 ha hk.2
    rw [plc_is ha] at h
    obtain ⟨rfl, _⟩ := Prod.mk.inj h
    refine ⟨this, by simp; omega, a, ha, by simp; omega, ?_⟩
    rw [hz_set (by omega), if_pos rfl]
  · simp at h
theorem Path.nil {zs : List Int} {ps : List Nat} {v' : Int} (h : Path zs 0 ps v') : ps = [] := by
  cases ps with
  | nil => rfl
  | cons p ps => exact absurd rfl h.1
end Go.Proofs.YtpbafjcoomfooaaGreat
namespace Go.Proofs.YtpbafjcoomfooaaGreat
open Go.RowKit

set_option maxHeartbeats 4000000 in
set_option maxRecDepth 100000 in
theorem sameTexts_ok (w : World) (ao bo : Option Addr) (ca cb : Nat) (ts : List ByteArray) (hA : StrA w ao ts) (hB : StrA w bo ts) (hl : ts.length ≤ 1048576) :
    Calls Tryz.prog 21 #[.slice ao ts.length ca, .slice bo ts.length cb] w fun e w' => e = .returned (.bool true) ∧ Kept w w' := by
  have HA : Hid _ := hA
  have HB : Hid _ := hB
  clear hA hB
  go_enter Tryz.func21, Tryz.ntmps21
  go_wp2_with fail
  go_loopw [5] (fun i wr => ∃ k : Nat, i = .int .i64 k ∧ k ≤ ts.length ∧ Kept w wr) (fun i _ => ts.length - (intOf i).toNat)
  case atStart => exact ⟨0, rfl, Nat.zero_le _, Below.refl _ _⟩
  case round =>
    obtain ⟨k, rfl, hk, hK⟩ := hrel
    have HK : Hid _ := hK
    by_cases hlt : k < ts.length
    · obtain ⟨t, ht⟩ : ∃ t, ts[k]? = some t := ⟨_, List.getElem?_eq_getElem hlt⟩
      obtain ⟨b, off, rfl, hc⟩ := (StrA.kept HA.out hK) k t ht
      obtain ⟨b', off', rfl, hc'⟩ := (StrA.kept HB.out hK) k t ht
      have q1 : (k : Int) < (ts.length : Int) := by omega
      have q0 : (0 : Int) ≤ (k : Int) := by omega
      have n6 : (t != t) = false := by simp [bne, beq_toListBytes]
      clear ht hK
      go_wp2_with fail
      go_region
      all_goals (
        go_wp2_with fail
        go_roundw
        case rel => exact ⟨k + 1, by go_num, by omega, Below.drew HK.out⟩
        case measure => simp [intOf]; omega)
    · obtain rfl : k = ts.length := by omega
      clear hK
      go_wp2
      go_ret
      exact ⟨rfl, HK.out⟩
theorem OwnS.capd {W : World} {base : Nat} {v : Value} {ts : List ByteArray} (h : OwnS W base v ts) : ∃ ao cap, v = .slice ao ts.length cap ∧ ts.length ≤ cap ∧ cap ≤ maxLen ∧ StrA W ao ts := by
  obtain ⟨ao, cap, e, hA⟩ := h.at
  rcases h.2 with ⟨e2, hn⟩ | ⟨g, cap2, cur, e2, _, _, h1, h2, _⟩
  · rw [e] at e2
    obtain ⟨h1, _, h3⟩ := Value.slice.inj e2
    exact ⟨ao, cap, e, by omega, by rw [h3]; unfold maxLen; omega, hA⟩
  · rw [e] at e2
    obtain ⟨_, _, h5⟩ := Value.slice.inj e2
    exact ⟨_, cap, e, by omega, by omega, hA⟩
theorem prop_not {zs rs : List Int} {obj name v : Int} (h : propC zs obj name v = (rs, false)) : rs = [] ∨ rs = zs := by
  have hz0 : zeroL zs = [] ∨ zeroL zs = zs := by
    unfold zeroL
    split <;> simp
  cases hpr : propR zs obj name v with
  | false => rw [propC_no hpr] at h; obtain ⟨rfl, _⟩ := Prod.mk.inj h; exact hz0
  | true =>
    cases hrd : roundR zs obj with
    | true => rw [propC_round hrd] at h; obtain ⟨rfl, _⟩ := Prod.mk.inj h; exact hz0
    | false =>
      rw [propC_yes hpr hrd] at h
      obtain ⟨h1, h2⟩ := Prod.mk.inj h
      rw [← h1]
      unfold setC at h2 ⊢
      split
      · rename_i hc
        rw [if_pos hc] at h2
        simp at h2
      · rename_i hc
        rw [if_neg hc] at h2
        split
        · exact .inr rfl
        · rename_i b hb
          rw [hb] at h2
          simp at h2
theorem impl_Names_path (zs : List Int) (obj : Int) (ps : List Nat) (hl : zs.length ≤ 1048576) (ho : -9223372036854775808 ≤ obj ∧ obj ≤ 9223372036854775807) (hn : namesR zs obj = true) (hp : Path zs (hz zs (plc obj + 2)) ps 0) (w : World) (ao : Option Addr) (cap : Nat) (hI : Ints w ao zs) :
    Calls Tryz.prog 22 #[.agg #[.slice ao zs.length cap], .int .i64 obj] w fun e w' => ∃ v, e = .returned v ∧ OwnS w' w.heap.size v (txtsP zs ps) ∧ ps.length ≤ 1048576 ∧ Kept w w' := by
  refine (impl_Names_ok w ao cap zs obj hI hl ho).mono ?_
  rintro e w' ⟨v, qs, rfl, hO, hqs, hq, hk⟩
  rcases hqs with ⟨h, _⟩ | ⟨_, h⟩
  · rw [hn] at h; cases h
  · rw [hp.det h]; exact ⟨v, rfl, hO, hq, hk⟩
theorem prop_law {zs rs : List Int} {obj name v : Int} (hl : zs.length ≤ 1048576) (ho : -9223372036854775808 ≤ obj ∧ obj ≤ 9223372036854775807) (h : propC zs obj name v = (rs, true)) :
    ∃ ts us : List ByteArray, heapR rs = true ∧ ownV rs obj name = .tuple #[.int .i64 v, .bool true] ∧ lookV rs obj name = .tuple #[.int .i64 v, .bool true] ∧ (us.length = ts.length ∨ us.length = ts.length + 1) ∧ (∀ (j : Nat) (t : ByteArray), ts[j]? = some t → us[j]? = some t) ∧
    (∀ (w : World) (ao : Option Addr) (cap : Nat), Ints w ao zs → Calls Tryz.prog 22 #[.agg #[.slice ao zs.length cap], .int .i64 obj] w fun e w' => ∃ v, e = .returned v ∧ OwnS w' w.heap.size v ts ∧ ts.length ≤ 1048576 ∧ Kept w w') ∧
    (∀ (w : World) (ao : Option Addr) (cap : Nat), Ints w ao rs → Calls Tryz.prog 22 #[.agg #[.slice ao rs.length cap], .int .i64 obj] w fun e w' => ∃ v, e = .returned v ∧ OwnS w' w.heap.size v us ∧ Kept w w') := by
  obtain ⟨ps, qs, hh, hn, hp, hn2, F, how, htx⟩ := prop_facts h
  have hlr : rs.length ≤ 1048576 := by rw [F.len]; exact hl
  refine ⟨txtsP zs ps, txtsP rs qs, F.heap, how, own_look how, ?_, ?_, fun w ao cap hI => ?_, fun w ao cap hI => ?_⟩
  · rcases F.more with e | ⟨c, e⟩ <;> rw [e] <;> simp [txtsP_len]
  · intro j t ht
    rw [← htx] at ht
    rcases F.more with e | ⟨c, e⟩
    · rw [e]; exact ht
    · rw [e]
      have hj : j < (txtsP rs ps).length := (List.getElem?_eq_some_iff.1 ht).1
      unfold txtsP at ht hj ⊢
      rw [List.map_append, List.getElem?_append_left hj]
      exact ht
  · exact (impl_Names_path zs obj ps hl ho hn hp w ao cap hI).mono (fun e w' ⟨v, h1, h2, h3, h4⟩ => ⟨v, h1, h2, by rw [txtsP_len]; exact h3, h4⟩)
  · exact (impl_Names_path rs obj qs hlr ho hn2 F.path w ao cap hI).mono (fun e w' ⟨v, h1, h2, _, h4⟩ => ⟨v, h1, h2, h4⟩)
end Go.Proofs.YtpbafjcoomfooaaGreat
