/-
  The law's helpers within and sameMarker, where they tell yes.
  Helpers of the laws on markers: a marker that was made, seen as two slices; the field of a marker; how long its lists are behind MarkStep.
  Facts on lists: marking comes to an end, step by step as at once, and what is black leads to what was met (chapter 8).
-/
import Derived.Deep.RegionWith
import Derived.Test.YtchkijeaaealmaaGreatZSamI
import Derived.Test.YtchkijeaaealmaaGreatGrpSt
import Derived.Test.YtchkijeaaealmaaGreatGrpKe
namespace Go.Proofs.YtchkijeaaealmaaGreat
open Go.RowKit

set_option maxHeartbeats 2000000 in
theorem within_yes (w : World) (ao : Option Addr) (cap : Nat) (l : List Int) (x : Int) (hI : Ints w ao l) (hl : l.length ≤ 1048576) (hx : x ∈ l) :
    Calls Tryz.prog 19 #[.slice ao l.length cap, .int .i64 x] w fun e w' => e = .returned (.bool true) ∧ w = w' := by
  have HI : Hid _ := hI
  have HX : Hid _ := hx
  clear hI hx
  go_enter Tryz.func19, Tryz.ntmps19
  go_wp2_with fail
  go_loopw [5] (fun i wr => ∃ k : Nat, i = .int .i64 k ∧ k ≤ l.length ∧ Hid (∀ j, j < k → hz l j ≠ x) ∧ wr = w) (fun i _ => l.length - (intOf i).toNat)
  case atStart => exact ⟨0, rfl, Nat.zero_le _, fun j hj => by omega, rfl⟩
  case round =>
    obtain ⟨k, rfl, hk, HN, rfl⟩ := hrel
    by_cases hlt : k < l.length
    · obtain ⟨b, off, rfl, hc⟩ := Ints.at HI.out hlt
      have ck := hc k hlt
      obtain ⟨y, hy⟩ : ∃ y, hz l k = y := ⟨_, rfl⟩
      rw [hy] at ck
      clear hc
      by_cases hxy : y = x
      · subst hxy
        go_wp2_with fail
        go_ret
        exact ⟨rfl, rfl⟩
      · have hb : (y == x) = false := by simp [hxy]
        go_wp2_with fail
        go_roundw
        case rel => exact ⟨k + 1, by go_num, by omega, fun j hj => by
          by_cases h : j = k
          · subst h; rw [hy]; exact hxy
          · exact HN.out j (by omega), by first | trivial | rfl⟩
        case measure => simp [intOf]; omega
    · exfalso
      obtain ⟨i, hi, e⟩ := List.getElem_of_mem HX.out
      exact HN.out i (by omega) (by rw [← e]; simp [hz, List.getElem?_eq_getElem hi])
set_option maxHeartbeats 4000000 in
theorem sameMarker_yes (w : World) (ga ba ga' ba' : Option Addr) (gc bc gc' bc' : Nat) (ph at' : Int) (gs bs : List Int) (hG : Ints w ga gs) (hG' : Ints w ga' gs) (hB : Ints w ba bs) (hB' : Ints w ba' bs) (hgl : gs.length ≤ 1048576) (hbl : bs.length ≤ 1048576) :
    Calls Tryz.prog 8 #[.agg #[.int .i64 ph, .slice ga gs.length gc, .slice ba bs.length bc, .int .i64 at'], .agg #[.int .i64 ph, .slice ga' gs.length gc', .slice ba' bs.length bc', .int .i64 at']] w fun e w' => e = .returned (.bool true) ∧ Kept w w' := by
  have b0 := (Cells.new w 28 #[.int .i64 ph, .slice ga gs.length gc, .slice ba bs.length bc, .int .i64 at']).alloc (.cells #[.int .i64 ph, .slice ga' gs.length gc', .slice ba' bs.length bc', .int .i64 at'] 28)
  have b1 := Cells.new (w.alloc (.cells #[.int .i64 ph, .slice ga gs.length gc, .slice ba bs.length bc, .int .i64 at'] 28)) 28 #[.int .i64 ph, .slice ga' gs.length gc', .slice ba' bs.length bc', .int .i64 at']
  have k0 : Kept w ((w.alloc (.cells #[.int .i64 ph, .slice ga gs.length gc, .slice ba bs.length bc, .int .i64 at'] 28)).alloc (.cells #[.int .i64 ph, .slice ga' gs.length gc', .slice ba' bs.length bc', .int .i64 at'] 28)) := (Kept.alloc (Below.refl _ _) _).alloc _
  simp only [World.size_alloc] at b1
  have HG : Hid _ := hG
  have HG' : Hid _ := hG'
  have HB : Hid _ := hB
  have HB' : Hid _ := hB'
  have c0 := b0.cell 0
  have c1 := b0.cell 1
  have c2 := b0.cell 2
  have c3 := b0.cell 3
  have e0 := b1.cell 0
  have e1 := b1.cell 1
  have e2 := b1.cell 2
  have e3 := b1.cell 3
  clear hG hG' hB hB'
  go_enter Tryz.func8, Tryz.ntmps8
  go_wp2_with fail
  refine (sameInts_ok _ _ _ _ _ gs (Ints.kept HG.out k0) (Ints.kept HG'.out k0) hgl).mono ?_
  rintro e w1 ⟨rfl, k1⟩
  have c2 := (b0.kept k1).cell 2
  have e2 := (b1.kept k1).cell 2
  clear c0 c1 c3 e0 e1 e3
  go_wp2_with fail
  refine (sameInts_ok _ _ _ _ _ bs (Ints.kept HB.out (k0.trans k1)) (Ints.kept HB'.out (k0.trans k1)) hbl).mono ?_
  rintro e w2 ⟨rfl, k2⟩
  go_wp2_with fail
  go_ret
  exact ⟨rfl, (k0.trans k1).trans k2⟩
end Go.Proofs.YtchkijeaaealmaaGreat
namespace Go.Proofs.YtchkijeaaealmaaGreat
open Go.RowKit

theorem slice_none {W : World} {base n c : Nat} {l : List Int} (h : OwnL W base (.slice none n c) l) : c = 0 := by
  rcases h.cases with ⟨e, _⟩ | ⟨g, cap, e, _⟩
  · cases e; rfl
  · cases e
theorem mkO_two {W : World} {base : Nat} {ph at' : Int} {gs bs : List Int} {m : Value} (h : MkO W base m ph gs bs at') : ∃ ga ba gc bc, m = .agg #[.int .i64 ph, .slice ga gs.length gc, .slice ba bs.length bc, .int .i64 at'] ∧ OwnL W base (.slice ga gs.length gc) gs ∧ OwnL W base (.slice ba bs.length bc) bs ∧ (∀ j, (Value.slice ga gs.length gc).ownBlock = some j → (Value.slice ba bs.length bc).ownBlock ≠ some j) ∧ (ga = none → gc = 0) ∧ (ba = none → bc = 0) := by
  obtain ⟨gv, bv, rfl, h1, h2, h3⟩ := h
  obtain ⟨ga, gc, rfl, _⟩ := h1.ints
  obtain ⟨ba, bc, rfl, _⟩ := h2.ints
  exact ⟨ga, ba, gc, bc, rfl, h1, h2, h3, fun e => by subst e; exact slice_none h1, fun e => by subst e; exact slice_none h2⟩
theorem OwnG.none_cap {W : World} {base n c : Nat} {l : List Int} (h : OwnG W base (.slice none n c) l) : c = 0 := by
  rcases h.2 with ⟨e, _⟩ | ⟨g, off, cp, cur, e, _⟩
  · cases e; rfl
  · cases e
theorem OwnG.cap_le {W : World} {base n c : Nat} {ao : Option Addr} {l : List Int} (h : OwnG W base (.slice ao n c) l) : l.length ≤ c := by
  rcases h.2 with ⟨e, h'⟩ | ⟨g, off, cp, cur, e, _, _, h1, _⟩
  · cases e; simp at h'; subst h'; exact Nat.le_refl _
  · cases e; simpa using h1
theorem OwnL.cap_le {W : World} {base n c : Nat} {ao : Option Addr} {l : List Int} (h : OwnL W base (.slice ao n c) l) : l.length ≤ c := (OwnG.of h).cap_le
theorem mkG_two {W : World} {base : Nat} {ph at' : Int} {gs bs : List Int} {m : Value} (h : MkG W base m ph gs bs at') : ∃ ga ba gc bc, m = .agg #[.int .i64 ph, .slice ga gs.length gc, .slice ba bs.length bc, .int .i64 at'] ∧ Ints W ga gs ∧ Ints W ba bs ∧ (ga = none → gc = 0) ∧ (ba = none → bc = 0) ∧ gs.length ≤ gc ∧ bs.length ≤ bc := by
  obtain ⟨gv, bv, rfl, h1, h2, h3⟩ := h
  obtain ⟨ga, gc, rfl, i1⟩ := h1.ints
  obtain ⟨ba, bc, rfl, i2⟩ := h2.ints
  exact ⟨ga, ba, gc, bc, rfl, i1, i2, fun e => by subst e; exact h1.none_cap, fun e => by subst e; exact slice_none h2, h1.cap_le, h2.cap_le⟩
theorem field_black (p g b a : Value) (w : World) : Sem.run Tryz.prog (Instr.field 28 (.agg #[p, g, b, a]) 2) w = .ok b w := by kernel_rfl
theorem stepL_twoS {zs : List Int} (hh : heapR zs = true) : ∀ (k : Nat) (gs bs : List Int), Two zs gs bs → Two zs (stepL zs k gs bs).1 (stepL zs k gs bs).2
  | 0, _, _, h => h
  | _ + 1, [], _, h => h
  | k + 1, a :: _, _, h => stepL_twoS hh k _ _ (h.ink.shades (leads_slots hh (h.g.2 a (by simp))).1)
theorem stepC_len {zs gs bs : List Int} {ph at' n : Int} {L : Nat} (hz : zs.length ≤ L) (hg : gs.length ≤ L) (hb : bs.length ≤ L) : (stepC zs ph gs bs at' n).2.1.length ≤ L ∧ (stepC zs ph gs bs at' n).2.2.length ≤ L := by
  unfold stepC
  split
  · rename_i h
    obtain ⟨h1, rfl⟩ := h
    have h2 := stepL_twoS (mark_one h1).1 n.toNat gs bs (markR_two h1)
    have := h2.g.len
    have := h2.b.len
    exact ⟨by simp only; omega, by simp only; omega⟩
  · exact ⟨hg, hb⟩
theorem stepC_ph {zs gs bs : List Int} {ph at' n : Int} (h : -9 ≤ ph ∧ ph ≤ 9) : -9 ≤ (stepC zs ph gs bs at' n).1 ∧ (stepC zs ph gs bs at' n).1 ≤ 9 := by
  unfold stepC stepPh
  split
  · simp only
    split <;> omega
  · exact h
end Go.Proofs.YtchkijeaaealmaaGreat
namespace Go.Proofs.YtchkijeaaealmaaGreat

theorem stepL_add (zs : List Int) : ∀ (j k : Nat) (gs bs : List Int), stepL zs (j + k) gs bs = stepL zs k (stepL zs j gs bs).1 (stepL zs j gs bs).2
  | 0, k, gs, bs => by rw [Nat.zero_add]; rfl
  | j + 1, k, [], bs => by rw [stepL_nil, stepL_nil]; exact (stepL_nil zs bs k).symm
  | j + 1, k, a :: g, bs => by
    rw [show j + 1 + k = (j + k) + 1 by omega]
    exact stepL_add zs j k _ _
theorem Two.both {zs gs bs : List Int} (h : Two zs gs bs) : gs.length + bs.length ≤ zs.length := by
  have hM : Met zs (gs ++ bs) := by
    refine ⟨List.nodup_append.2 ⟨h.g.1, h.b.1, fun a ha b hb e => h.n a ha (by rw [e]; exact hb)⟩, fun a ha => ?_⟩
    rcases List.mem_append.1 ha with h' | h'
    · exact h.g.2 a h'
    · exact h.b.2 a h'
  have := hM.len
  rwa [List.length_append] at this
theorem Two.step {zs g bs : List Int} {a : Int} (hh : heapR zs = true) (h : Two zs (a :: g) bs) : Two zs (shadesL (insL a bs) g (slotV zs a)) (insL a bs) := h.ink.shades (leads_slots hh (h.g.2 a (by simp))).1
/-- Marking ends. -/
theorem stepL_end {zs : List Int} (hh : heapR zs = true) : ∀ (k : Nat) (gs bs : List Int), Two zs gs bs → zs.length ≤ k + bs.length → (stepL zs k gs bs).1 = []
  | 0, gs, bs, h, hk => by
    have := h.both
    show gs = []
    exact List.eq_nil_of_length_eq_zero (by omega)
  | _ + 1, [], _, _, _ => rfl
  | k + 1, a :: g, bs, h, hk => stepL_end hh k _ _ (h.step hh) (by rw [insL_len]; omega)
/-- What is black leads to what was met. -/
def TriP (zs gs bs : List Int) : Prop := ∀ b ∈ bs, ∀ v ∈ slotV zs b, 0 ≤ blkV v → blkV v ∈ gs ∨ blkV v ∈ bs
theorem shadeL_sub {gs bs : List Int} {v x : Int} (h : x ∈ gs) : x ∈ shadeL 1 gs bs v := by
  unfold shadeL
  split
  · exact List.mem_append_left _ h
  · exact h
theorem shadesL_sub {bs : List Int} {x : Int} : ∀ {vs gs : List Int}, x ∈ gs → x ∈ shadesL bs gs vs
  | [], _, h => h
  | v :: vs, _, h => shadesL_sub (vs := vs) (shadeL_sub (bs := bs) (v := v) h)
theorem shadesL_has {bs : List Int} : ∀ {vs gs : List Int}, ∀ v ∈ vs, 0 ≤ blkV v → blkV v ∈ shadesL bs gs vs ∨ blkV v ∈ bs
  | [], _, _, h, _ => by cases h
  | u :: vs, gs, v, h, h0 => by
    rcases List.mem_cons.1 h with rfl | h'
    · by_cases hb : blkV v ∈ bs
      · exact .inr hb
      · refine .inl (shadesL_sub (vs := vs) (gs := shadeL 1 gs bs v) ?_)
        unfold shadeL
        split
        · simp
        · rename_i hc
          by_cases hg : blkV v ∈ gs
          · exact hg
          · exact absurd ⟨rfl, h0, hg, hb⟩ hc
    · exact shadesL_has (vs := vs) (gs := shadeL 1 gs bs u) v h' h0
theorem TriP.step {zs g bs : List Int} {a : Int} (h : TriP zs (a :: g) bs) : TriP zs (shadesL (insL a bs) g (slotV zs a)) (insL a bs) := by
  intro b hb v hv h0
  rcases mem_insL.1 hb with rfl | hb'
  · exact shadesL_has v hv h0
  · rcases h b hb' v hv h0 with h' | h'
    · rcases List.mem_cons.1 h' with h'' | h''
      · exact .inr (mem_insL.2 (.inl h''))
      · exact .inl (shadesL_sub h'')
    · exact .inr (mem_insL.2 (.inr h'))
theorem stepL_keeps {zs : List Int} (hh : heapR zs = true) : ∀ (k : Nat) (gs bs : List Int), Two zs gs bs → bs.Pairwise (· < ·) → TriP zs gs bs → Two zs (stepL zs k gs bs).1 (stepL zs k gs bs).2 ∧ (stepL zs k gs bs).2.Pairwise (· < ·) ∧ TriP zs (stepL zs k gs bs).1 (stepL zs k gs bs).2
  | 0, _, _, h1, h2, h3 => ⟨h1, h2, h3⟩
  | _ + 1, [], _, h1, h2, h3 => ⟨h1, h2, h3⟩
  | k + 1, a :: g, bs, h1, h2, h3 => stepL_keeps hh k _ _ (h1.step hh) (insL_asc h2 (h1.n a (by simp))) h3.step
theorem mark_of {zs gs bs : List Int} (hh : heapR zs = true) (h2 : Two zs gs bs) (ha : bs.Pairwise (· < ·)) : blackR gs bs = true ∧ markR zs 1 gs bs 0 = true := by
  have hb : blackR gs bs = true := by
    refine allR_iff.2 fun i hi => ?_
    unfold blackB
    have h1 : hz bs i ∉ gs := fun h => h2.n _ h (hz_mem hi)
    have h3 : i = 0 ∨ hz bs (i - 1) ≤ hz bs i := by
      by_cases h0 : i = 0
      · exact .inl h0
      · have := List.pairwise_iff_getElem.1 ha (i - 1) i (by omega) hi (by omega)
        refine .inr ?_
        rw [hz_get hi, hz_get (show i - 1 < bs.length by omega)]
        omega
    rcases h3 with h3 | h3
    · subst h3; simp [h1]
    · simp [h1, h3]
  refine ⟨hb, ?_⟩
  unfold markR
  simp [heapR_slab hh, places_iff.2 h2.g, places_iff.2 h2.b, hb, hh]
theorem tri_of {zs gs bs : List Int} (hm : markR zs 1 gs bs 0 = true) (ht : TriP zs gs bs) : triR zs 1 gs bs 0 = true := by
  unfold triR
  rw [hm, Bool.true_and, Bool.or_eq_true]
  refine .inr (List.all_eq_true.2 fun b hb => List.all_eq_true.2 fun v hv => ?_)
  unfold metV
  by_cases h0 : blkV v < 0
  · simp [h0]
  · rcases ht b hb v hv (by omega) with h | h <;> simp [h]
theorem triP_of {zs gs bs : List Int} {at' : Int} (h : triR zs 1 gs bs at' = true) : TriP zs gs bs := by
  unfold triR at h
  simp only [Bool.and_eq_true, Bool.or_eq_true] at h
  have h1 : bs.all (triB zs gs bs) = true := by simpa using h.2
  intro b hb v hv h0
  have h2 := List.all_eq_true.1 (List.all_eq_true.1 h1 b hb) v hv
  unfold metV at h2
  simp only [Bool.or_eq_true, decide_eq_true_eq] at h2
  rcases h2 with (h2 | h2) | h2
  · omega
  · exact .inl h2
  · exact .inr h2
theorem swept_of {zs bs : List Int} (hh : heapR zs = true) (h2 : Two zs [] bs) (ha : bs.Pairwise (· < ·)) (ht : TriP zs [] bs) : markR zs 2 [] bs 0 = true := by
  have hok := heapR_slab hh
  have hb := (mark_of hh h2 ha).1
  have hat : (decide ((0 : Int) = (zs.length : Int)) || isAt zs 0) = true := by
    by_cases h0 : zs.length = 0
    · simp [h0]
    · have := At.is_yes (At.zero zs) hok (by omega)
      rw [Bool.or_eq_true]
      exact .inr this
  have hp : passR zs bs 0 = true := by
    refine List.all_eq_true.2 fun b _ => ?_
    unfold passB
    have : decide ((0 : Int) ≤ (b.1.at' : Int)) = true := by simp
    rw [this]
    rfl
  have hr := heap_right hh h2.b
  have hd : bs.all (holdR zs bs) = true := by
    refine List.all_eq_true.2 fun b hb => ?_
    unfold holdR
    rw [Bool.and_eq_true]
    refine ⟨List.all_eq_true.1 hr b hb, List.all_eq_true.2 fun v hv => ?_⟩
    unfold amongV
    by_cases h0 : blkV v < 0
    · simp [h0]
    · rcases ht b hb v hv (by omega) with h | h
      · cases h
      · simp [h]
  unfold markR sweptR
  rw [hok, places_iff.2 h2.g, places_iff.2 h2.b, hb, hat, hp, hd, if_neg (by decide), if_neg (by decide)]
  simp
/-- What FnMarks asks: so many steps, then all the rest, come to the same as all at once; the end is a marker that sweeps, and right. -/
theorem marks_end {zs gs bs : List Int} (k : Nat) (h : triR zs 1 gs bs 0 = true) : ∃ all : List Int,
    stepC zs 1 gs bs 0 2000 = (2, [], all) ∧ markR zs 2 [] all 0 = true ∧
    ((stepL zs k gs bs).1 = [] → (stepL zs k gs bs).2 = all) ∧
    ((stepL zs k gs bs).1 ≠ [] → triR zs 1 (stepL zs k gs bs).1 (stepL zs k gs bs).2 0 = true ∧ stepC zs 1 (stepL zs k gs bs).1 (stepL zs k gs bs).2 0 2000 = (2, [], all)) := by
  have hm : markR zs 1 gs bs 0 = true := by
    have h' := h
    unfold triR at h'
    rw [Bool.and_eq_true] at h'
    exact h'.1
  obtain ⟨hh, _, ha⟩ := mark_one hm
  have h2 := markR_two hm
  have hz := (slabOk_iff.1 (heapR_slab hh)).1
  have run : ∀ (g b : List Int), markR zs 1 g b 0 = true → ∃ all, stepL zs 2000 g b = ([], all) ∧ stepC zs 1 g b 0 2000 = (2, [], all) := fun g b hm' => by
    have he := stepL_end hh 2000 g b (markR_two hm') (by omega)
    have e1 : stepL zs 2000 g b = ([], (stepL zs 2000 g b).2) := Prod.ext he rfl
    refine ⟨_, e1, ?_⟩
    have e2 : stepC zs 1 g b 0 2000 = (stepPh (stepL zs 2000 g b).1, stepL zs 2000 g b) := if_pos ⟨hm', rfl⟩
    rw [e2, e1]
    rfl
  obtain ⟨all, e, ec⟩ := run gs bs hm
  obtain ⟨k1, k2, k3⟩ := stepL_keeps hh 2000 gs bs h2 ha (triP_of h)
  rw [e] at k1 k2 k3
  obtain ⟨j1, j2, j3⟩ := stepL_keeps hh k gs bs h2 ha (triP_of h)
  have add1 : stepL zs (k + 2000) gs bs = ([], all) := by rw [Nat.add_comm, stepL_add, e]; exact stepL_nil _ _ _
  rw [stepL_add] at add1
  refine ⟨all, ec, swept_of hh k1 k2 k3, fun h0 => ?_, fun _ => ?_⟩
  · rw [h0, stepL_nil] at add1
    exact congrArg Prod.snd add1
  · have mk := (mark_of hh j1 j2).2
    refine ⟨tri_of mk j3, ?_⟩
    obtain ⟨all', e', ec'⟩ := run _ _ mk
    rw [add1] at e'
    have : all = all' := congrArg Prod.snd e'
    rw [ec', this]
end Go.Proofs.YtchkijeaaealmaaGreat
