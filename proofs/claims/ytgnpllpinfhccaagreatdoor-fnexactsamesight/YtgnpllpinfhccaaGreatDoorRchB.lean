/-
  The contracts of chapter 7's models l7Sort and Reach.
-/
import Derived.Test.YtgnpllpinfhccaaGreatDoorRchA
import Derived.BigQuiet
namespace Go.Proofs.YtgnpllpinfhccaaGreatDoor
open Go.RowKit
attribute [local go_sem] Plain.and7

/-- x ahead of all that is not less. -/
def insL (x : Int) (out : List Int) : List Int := out.takeWhile (fun y => decide (y < x)) ++ x :: out.dropWhile (fun y => decide (y < x))
def sortF (out l : List Int) : List Int := l.foldl (fun o x => insL x o) out
def sortL (l : List Int) : List Int := sortF [] l
theorem sortF_snoc (out l : List Int) (x : Int) : sortF out (l ++ [x]) = insL x (sortF out l) := by simp [sortF]
theorem insL_len (x : Int) (out : List Int) : (insL x out).length = out.length + 1 := by
  unfold insL
  have := congrArg List.length (List.takeWhile_append_dropWhile (p := fun y => decide (y < x)) (l := out))
  simp only [List.length_append, List.length_cons] at this ⊢
  omega
theorem mem_insL {x y : Int} {out : List Int} : y ∈ insL x out ↔ y = x ∨ y ∈ out := by
  have e := List.takeWhile_append_dropWhile (p := fun y => decide (y < x)) (l := out)
  unfold insL
  rw [List.mem_append, List.mem_cons]
  constructor
  · rintro (h | h | h)
    · right; rw [← e]; exact List.mem_append_left _ h
    · exact .inl h
    · right; rw [← e]; exact List.mem_append_right _ h
  · rintro (h | h)
    · exact .inr (.inl h)
    · rw [← e] at h
      rcases List.mem_append.1 h with h | h
      · exact .inl h
      · exact .inr (.inr h)
theorem insL_at {x : Int} {out : List Int} {k : Nat} (hk : k ≤ out.length) (h1 : ∀ j, j < k → hz out j < x) (h2 : k < out.length → x ≤ hz out k) : insL x out = out.take k ++ x :: out.drop k := by
  have e1 : out.takeWhile (fun y => decide (y < x)) = out.take k := by
    induction out generalizing k with
    | nil => simp
    | cons y out ih =>
      cases k with
      | zero =>
        have := h2 (by simp)
        have h3 : ¬ y < x := by have h4 : x ≤ y := by simpa [hz] using this
                                omega
        simp [h3]
      | succ k =>
        have h3 : y < x := by have := h1 0 (by omega); simpa [hz] using this
        rw [List.takeWhile_cons, if_pos (by simpa using h3), List.take_succ_cons, ih (by simpa using hk) (fun j hj => by have := h1 (j + 1) (by omega); simpa [hz] using this) (fun hlt => by have := h2 (by simpa using hlt); simpa [hz] using this)]
  have e2 : out.dropWhile (fun y => decide (y < x)) = out.drop k := by
    have h := List.takeWhile_append_dropWhile (p := fun y => decide (y < x)) (l := out)
    rw [e1] at h
    exact List.append_cancel_left (h.trans (List.take_append_drop k out).symm)
  unfold insL
  rw [e1, e2]
theorem sortF_len : ∀ (l out : List Int), (sortF out l).length = out.length + l.length
  | [], out => by simp [sortF]
  | x :: l, out => by
    have := sortF_len l (insL x out)
    rw [insL_len] at this
    show (sortF (insL x out) l).length = _
    rw [this, List.length_cons]
    omega
theorem mem_sortF {y : Int} : ∀ (l out : List Int), y ∈ sortF out l ↔ y ∈ out ∨ y ∈ l
  | [], out => by simp [sortF]
  | x :: l, out => by
    show y ∈ sortF (insL x out) l ↔ _
    rw [mem_sortF l, mem_insL, List.mem_cons]
    constructor
    · rintro ((h | h) | h)
      · exact .inr (.inl h)
      · exact .inl h
      · exact .inr (.inr h)
    · rintro (h | h | h)
      · exact .inl (.inr h)
      · exact .inl (.inl h)
      · exact .inr h
theorem insL_sorted {x : Int} {out : List Int} (h : out.Pairwise (· ≤ ·)) : (insL x out).Pairwise (· ≤ ·) := by
  induction out with
  | nil => simp [insL]
  | cons y out ih =>
    have h' := List.pairwise_cons.1 h
    by_cases hy : y < x
    · have e : insL x (y :: out) = y :: insL x out := by simp [insL, hy]
      rw [e]
      refine List.pairwise_cons.2 ⟨fun z hz' => ?_, ih h'.2⟩
      rcases mem_insL.1 hz' with rfl | hz'
      · omega
      · exact h'.1 z hz'
    · have e : insL x (y :: out) = x :: y :: out := by simp [insL, hy]
      rw [e]
      refine List.pairwise_cons.2 ⟨fun z hz' => ?_, h⟩
      rcases List.mem_cons.1 hz' with rfl | hz'
      · omega
      · have := h'.1 z hz'; omega
theorem sortF_sorted : ∀ (l : List Int) {out : List Int}, out.Pairwise (· ≤ ·) → (sortF out l).Pairwise (· ≤ ·)
  | [], _, h => h
  | _ :: l, _, h => sortF_sorted l (insL_sorted h)
theorem ints_news {W : World} {b o : Nat} {l : List Int} (hc : ∀ j, j < l.length → W.cell? ⟨b, o + j, none⟩ = some (.int .i64 (hz l j))) : ∀ (j : Nat) (u : Value), (l.map (Value.int .i64))[j]? = some u → W.cell? ((⟨b, o, none⟩ : Addr).add j) = some u := by
  intro j u hu
  rw [List.getElem?_map] at hu
  cases hj : l[j]? with
  | none => rw [hj] at hu; simp at hu
  | some z =>
    rw [hj] at hu
    have hlt := (List.getElem?_eq_some_iff.1 hj).1
    have e : hz l j = z := by unfold hz; rw [hj]; rfl
    have h1 := hc j hlt
    rw [e] at h1
    rw [show (⟨b, o, none⟩ : Addr).add j = ⟨b, o + j, none⟩ by unfold Addr.add; split <;> simp_all]
    simp at hu
    rw [← hu]
    exact h1
theorem drop_none {W : World} {ad : Addr} {a : Nat} {out : List Int} (h : out.length ≤ a) : ∀ (j : Nat) (u : Value), ((out.drop a).map (Value.int .i64))[j]? = some u → W.cell? (ad.add j) = some u := by
  intro j u hu
  rw [List.drop_eq_nil_of_le h] at hu
  simp at hu
theorem drop_news {W : World} {g a : Nat} {out : List Int} (hr : Row W g out) : ∀ (j : Nat) (u : Value), ((out.drop a).map (Value.int .i64))[j]? = some u → W.cell? ((⟨g, a, none⟩ : Addr).add j) = some u := ints_news (fun j hj => by
  rw [List.length_drop] at hj
  have := hr.cell (j := a + j) (by omega)
  rw [show hz (out.drop a) j = hz out (a + j) by unfold hz; rw [List.getElem?_drop]]
  simpa using this)
set_option maxHeartbeats 16000000 in
set_option maxRecDepth 100000 in
theorem l7Sort_ok (w : World) (ao : Option Addr) (cap : Nat) (l : List Int) (hI : Ints w ao l) (hl : l.length ≤ 1048576) :
    Calls Tryz.prog 43 #[.slice ao l.length cap] w fun e w' => ∃ v, e = .returned v ∧ OwnL w' w.heap.size v (sortL l) ∧ Kept w w' := by
  obtain ⟨i0, hi, hz0, hz1, hz2⟩ := info_parts infoI
  have HI : Hid _ := hI
  have k0 : Kept w (w.alloc (.cells #[] 3)) := Kept.alloc (Below.refl _ _) _
  have o0 : OwnL (w.alloc (.cells #[] 3)) w.heap.size (.slice (some ⟨w.heap.size, 0, none⟩) 0 0) [] := by
    refine ⟨by simp, ?_⟩
    have := World.ownsRow_made (base := w.heap.size) (e := 3) (size := 1) w #[] 0 (by simp) (by unfold maxLen; omega) (by simp)
    simpa using this
  clear hI
  go_enter Tryz.func43, Tryz.ntmps43
  go_wp2_with fail
  go_loopw [3, 4] (fun v i wr => ∃ (k g c : Nat), i = .int .i64 k ∧ k ≤ l.length ∧ v = .slice (some ⟨g, 0, none⟩) (sortF [] (l.take k)).length c ∧ OwnL wr w.heap.size v (sortF [] (l.take k)) ∧ Kept w wr)
    (fun _ i _ => l.length - (intOf i).toNat)
  case atStart => exact ⟨0, w.heap.size, 0, rfl, Nat.zero_le _, by simp [sortF], by simpa [sortF] using o0, k0⟩
  case round =>
    obtain ⟨k, g, c, rfl, hk, rfl, hO, hK⟩ := hrel
    clear k0 o0
    have hsl := sortF_len (l.take k) []
    rw [List.length_take, Nat.min_eq_left hk, List.length_nil, Nat.zero_add] at hsl
    by_cases hlt : k < l.length
    · have HT : Hid (sortF [] (l.take (k + 1)) = insL (hz l k) (sortF [] (l.take k))) := by rw [Hid, take_hz hlt, sortF_snoc]
      obtain ⟨out, hout⟩ : ∃ out, sortF [] (l.take k) = out := ⟨_, rfl⟩
      rw [hout] at HT hsl hO
      simp only [hout]
      have hol : out.length ≤ 1048576 := by omega
      have Hsl : Hid _ := hsl
      clear hsl
      obtain ⟨b1, o1, e1, hc1⟩ := Ints.at (Ints.kept HI.out hK) hlt
      have c1 := hc1 k hlt
      have HO : Hid _ := hO
      have HK : Hid _ := hK
      obtain ⟨x, hx⟩ : ∃ x, hz l k = x := ⟨_, rfl⟩
      rw [hx] at HT c1
      have hxb : -9223372036854775808 ≤ x ∧ x ≤ 9223372036854775807 := by rw [← hx]; exact HI.out.1 _ (hz_mem hlt)
      have q1 : (k : Int) < (l.length : Int) := by omega
      have q0 : (0 : Int) ≤ (k : Int) := by omega
      have c0 : w.cell? ⟨b1, o1 + k, none⟩ = some (.int .i64 x) := by
        obtain ⟨b3, o3, e3, hc3⟩ := Ints.at HI.out hlt
        rw [e1] at e3
        cases e3
        rw [← hx]
        exact hc3 k hlt
      have Hb1 : Hid (b1 < w.heap.size) := World.block_lt_of_cell? _ _ c0
      subst e1
      clear hc1 hout hx hK
      go_wp2_with fail
      go_loopw [5] (fun i wr2 => ∃ at' : Nat, i = .int .i64 at' ∧ at' ≤ out.length ∧ (∀ j, j < at' → hz out j < x) ∧ Kept wr wr2) (fun i _ => out.length - (intOf i).toNat)
      case atStart => exact ⟨0, rfl, Nat.zero_le _, fun j hj => by omega, Below.refl _ _⟩
      case round =>
        obtain ⟨a, rfl, ha, hlow, hK2⟩ := hrel
        by_cases hla : a < out.length
        · have O2 := OwnL.kept (row := none) HO.out (Kept.grown hK2) (fun k e => by cases e)
          obtain ⟨ga, gc, eg, hI2⟩ := O2.ints
          cases eg
          obtain ⟨b2, o2, e2, hc2⟩ := hI2.at hla
          cases e2
          have c2 := hc2 a hla
          have l2 : g < wr.heap.size := World.block_lt_of_cell? _ _ c2
          have l0 : b1 < _ := World.block_lt_of_cell? _ _ c1
          have l1 : b1 < wr.heap.size := Nat.lt_of_lt_of_le l0 hK2.size
          have c1' := (hK2.cell (p := ⟨b1, o1 + k, none⟩) (World.block_lt_of_cell? _ _ c1)).trans c1
          have kd7 : ∀ u, Kept wr.drew u → Kept wr u := fun u hu => Kept.trans (Below.refl _ wr).drew hu
          have y1 : ∀ u, Kept wr.drew u → u.cell? ⟨g, 0 + a, none⟩ = some (.int .i64 (hz out a)) := fun u hu => ((kd7 u hu).cell (p := ⟨g, 0 + a, none⟩) l2).trans c2
          have y2 : ∀ u, Kept wr.drew u → u.cell? ⟨b1, o1 + k, none⟩ = some (.int .i64 x) := fun u hu => ((kd7 u hu).cell (p := ⟨b1, o1 + k, none⟩) l1).trans c1'
          simp only [Nat.zero_add] at y1
          have r1 : (a : Int) < (out.length : Int) := by omega
          have r0 : (0 : Int) ≤ (a : Int) := by omega
          have HK2 : Hid _ := hK2
          have Hlow : Hid _ := hlow
          clear hc2 hI2 O2 c2 hK2 hlow
          by_cases hx : hz out a < x
          · have hd : decide (hz out a < x) = true := by simpa using hx
            have HX : Hid _ := hx
            clear hx
            go_wp2_with fail
            refine wp_region_seqL (by kernel_rfl) (by kernel_rfl) ?_
            repeat (first
              | (refine SeqL.skip (by rfl) ?_; simp only [Act.put, List.setIfInBounds_toArray, List.set_cons_zero, List.set_cons_succ])
              | (refine SeqL.pure ?_ (by rfl) ?_ ?_; rotate_left; (focus (intro u hu; have y1' := y1 u hu; have y2' := y2 u hu; go_simp; first | done | exact rfl)); simp only [Act.put, List.setIfInBounds_toArray, List.set_cons_zero, List.set_cons_succ])
            )
            refine SeqL.nil ?_
            intro w5 hu5
            have K5 := Kept.trans HK2.out (kd7 w5 hu5)
            clear y1 y2 kd7
            go_wp2_with fail
            go_roundw
            case rel =>
              refine ⟨a + 1, by go_num, by omega, fun j hj => ?_, K5⟩
              rcases Nat.lt_or_ge j a with h | h
              · exact Hlow.out j h
              · have : j = a := by omega
                subst this
                exact HX.out
            case measure => simp [intOf]; omega
          · have hd : decide (hz out a < x) = false := by simpa using hx
            have Hstop : Hid (a < out.length → x ≤ hz out a) := fun _ => by omega
            go_wp2_with fail
            refine wp_region_seqL (by kernel_rfl) (by kernel_rfl) ?_
            repeat (first
              | (refine SeqL.skip (by rfl) ?_; simp only [Act.put, List.setIfInBounds_toArray, List.set_cons_zero, List.set_cons_succ])
              | (refine SeqL.pure ?_ (by rfl) ?_ ?_; rotate_left; (focus (intro u hu; have y1' := y1 u hu; have y2' := y2 u hu; go_simp; first | done | exact rfl)); simp only [Act.put, List.setIfInBounds_toArray, List.set_cons_zero, List.set_cons_succ])
            )
            refine SeqL.nil ?_
            intro w5 hu5
            have K5 := Kept.trans HK2.out (kd7 w5 hu5)
            have hlow := Hlow.out
            clear y1 y2 kd7 hd r1 hx
            have eIns := insL_at (x := x) (out := out) ha hlow Hstop.out
            have HT2 : Hid (sortF [] (l.take (k + 1)) = out.take a ++ x :: out.drop a) := by rw [Hid, HT.out, eIns]
            have O5 := OwnL.kept (row := none) HO.out (Kept.grown K5) (fun k e => by cases e)
            obtain ⟨hrow5, hcc, hcm⟩ : Row w5 g out ∧ out.length ≤ c ∧ c ≤ maxLen := by
              rcases O5.cases with ⟨e, _⟩ | ⟨g', c', e, _, h1, h2, h3⟩
              · cases e
              · cases e
                exact ⟨h3, h1, h2⟩
            have lg5 := hrow5.lt
            have K5w := Kept.trans HK.out K5
            have hs5 := K5w.size
            have kE : Kept w5 (w5.alloc (.cells #[] 3)) := Kept.alloc (Below.refl _ _) _
            have oE : (w5.alloc (.cells #[] 3)).ownsRow w5.heap.size 3 1 (.slice (some ⟨w5.heap.size, 0, none⟩) 0 0) 0 [] := by
              have := World.ownsRow_made (base := w5.heap.size) (e := 3) (size := 1) w5 #[] 0 (by simp) (by unfold maxLen; omega) (by simp)
              simpa using this
            have hrE := hrow5.kept kE
            have news1 : ∀ (j : Nat) (u : Value), ((out.take a).map (Value.int .i64))[j]? = some u → (w5.alloc (.cells #[] 3)).cell? ((⟨g, 0, none⟩ : Addr).add j) = some u := ints_news (fun j hj => by
              have hj' : j < out.length := by rw [List.length_take] at hj; omega
              have := hrE.cell (j := j) hj'
              rw [show hz (out.take a) j = hz out j by unfold hz; rw [List.getElem?_take_of_lt (by rw [List.length_take] at hj; omega)]]
              simpa using this)
            have lta : (out.take a).length = a := by rw [List.length_take]; omega
            have ltd : (out.drop a).length = out.length - a := List.length_drop
            have g0 : (0 : Int) ≤ (a : Int) := by omega
            have g1 : (a : Int) ≤ (out.length : Int) := by omega
            have g2 : (a : Int) ≤ (c : Int) := by omega
            have g3 : ((a : Int)).toNat = a := by omega
            have g4 : a ≤ c := by omega
            have g5 : a ≤ out.length := ha
            have Hlta : Hid _ := lta
            have Hltd : Hid _ := ltd
            have HR5 : Hid _ := hrow5
            clear lta ltd eIns hlow O5
            have l5 : b1 < w.heap.size := Hb1.out
            have c5 := (K5w.cell (p := ⟨b1, o1 + k, none⟩) l5).trans c0
            go_wp2_with (first | (at_builtin; refine wpList_append_own _ rfl _ _ 24 rfl w5.heap.size 3 i0 (.int .i64 0) 1 8 Tryz.underlying24 hi hz0 hz1 hz2 rfl (by decide) _ _ _ rfl oE ⟨g, 0, none⟩ a c ((out.take a).map (Value.int .i64)) rfl (by rw [List.length_map, Hlta.out, Nat.mul_one]) news1 (by intro u hu; obtain ⟨z, _, rfl⟩ := List.mem_map.1 hu; rfl) (by unfold maxLen; omega) (by omega) (by simp) ?_; intro v6 w6 own6 grow6 _; have kk6 : Kept w5 w6 := Below.grown kE grow6 (by simp) (fun j ej => by have h3 : (Value.slice (some ⟨w5.heap.size, 0, none⟩) 0 0).ownBlock = some j := ej; simp [Value.ownBlock] at h3; omega); have c6 := (kk6.cell (p := ⟨b1, o1 + k, none⟩) (by simp; omega)).trans c5; have kF : Kept w6 (w6.alloc (.cells #[.int .i64 x] 3)) := Kept.alloc (Below.refl _ _) _; have hs6 := kk6.size; simp only [Nat.zero_add, List.nil_append] at own6) | (at_builtin; refine wpList_append_own _ rfl _ _ 24 rfl w5.heap.size 3 i0 (.int .i64 0) 1 8 Tryz.underlying24 hi hz0 hz1 hz2 rfl (by decide) _ _ _ rfl (own6.alloc _) ⟨w6.heap.size, 0, none⟩ 1 1 [.int .i64 x] rfl rfl (cell_one_new _ _ _) (by simp [Value.oneCell']) (by unfold maxLen; omega) (by omega) (by simp; omega) ?_; intro v7 w7 own7 grow7 _; have kk7 : Kept w5 w7 := Below.grown (kk6.trans kF) grow7 (by simp; omega) (fun j ej => (own6.lt j ej).1); have hs7 := kk7.size; have hr7 := Row.kept HR5.out kk7; have news3 := drop_news (a := a) hr7) | (at_builtin; refine wpList_append_own _ rfl _ _ 24 rfl w5.heap.size 3 i0 (.int .i64 0) 1 8 Tryz.underlying24 hi hz0 hz1 hz2 rfl (by decide) _ _ _ rfl own7 ⟨g, a, none⟩ (out.length - a) (c - a) ((out.drop a).map (Value.int .i64)) rfl (by rw [List.length_map, Hltd.out, Nat.mul_one]) news3 (by intro u hu; obtain ⟨z, _, rfl⟩ := List.mem_map.1 hu; rfl) (by unfold maxLen; omega) (by omega) (by omega) ?_; intro v8 w8 own8 grow8 _; have kk8 : Kept w5 w8 := Below.grown kk7 grow8 (by omega) (fun j ej => (own7.lt j ej).1)))
            go_roundw
            case rel =>
              have e8 : (sortF [] (l.take (k + 1))).length = a + 1 + (out.length - a) := by rw [HT2.out, List.length_append, List.length_cons, Hlta.out, Hltd.out]; omega
              obtain ⟨g8, c8, ev8, _, _⟩ := own8.form (by omega)
              refine ⟨k + 1, g8, c8, by go_num, by omega, by rw [e8]; exact ev8, ⟨fun z hz' => ?_, ?_⟩, K5w.trans kk8⟩
              · rw [HT2.out] at hz'
                rcases List.mem_append.1 hz' with h | h
                · exact HO.out.1 z (List.mem_of_mem_take h)
                · rcases List.mem_cons.1 h with rfl | h
                  · exact hxb
                  · exact HO.out.1 z (List.mem_of_mem_drop h)
              · rw [e8, HT2.out, List.map_append, List.map_cons]
                have := ownsRow_base own8 hs5
                rw [List.append_assoc] at this
                exact this
            case measure => simp [intOf]; omega
        · have Hstop : Hid (a < out.length → x ≤ hz out a) := fun h => absurd h hla
          have r1 : decide ((a : Int) < (out.length : Int)) = false := by simp; omega
          have HK2 : Hid _ := hK2
          have Hlow : Hid _ := hlow
          clear hK2 hlow
          go_wp2_with fail
          refine wp_region_seqL (by kernel_rfl) (by kernel_rfl) ?_
          repeat (first
            | (refine SeqL.skip (by rfl) ?_; simp only [Act.put, List.setIfInBounds_toArray, List.set_cons_zero, List.set_cons_succ])
            | (refine SeqL.pure ?_ (by rfl) ?_ ?_; rotate_left; (focus (intro u hu; go_simp; first | done | exact rfl)); simp only [Act.put, List.setIfInBounds_toArray, List.set_cons_zero, List.set_cons_succ])
          )
          refine SeqL.nil ?_
          intro w5 hu5
          have K5 := Kept.trans HK2.out (Kept.trans (Below.refl _ wr).drew hu5)
          have hlow := Hlow.out
          have Hla : Hid (out.length ≤ a) := by simpa [Hid] using hla
          clear r1 hla
          have eIns := insL_at (x := x) (out := out) ha hlow Hstop.out
          have HT2 : Hid (sortF [] (l.take (k + 1)) = out.take a ++ x :: out.drop a) := by rw [Hid, HT.out, eIns]
          have O5 := OwnL.kept (row := none) HO.out (Kept.grown K5) (fun k e => by cases e)
          obtain ⟨hrow5, hcc, hcm⟩ : Row w5 g out ∧ out.length ≤ c ∧ c ≤ maxLen := by
            rcases O5.cases with ⟨e, _⟩ | ⟨g', c', e, _, h1, h2, h3⟩
            · cases e
            · cases e
              exact ⟨h3, h1, h2⟩
          have lg5 := hrow5.lt
          have K5w := Kept.trans HK.out K5
          have hs5 := K5w.size
          have kE : Kept w5 (w5.alloc (.cells #[] 3)) := Kept.alloc (Below.refl _ _) _
          have oE : (w5.alloc (.cells #[] 3)).ownsRow w5.heap.size 3 1 (.slice (some ⟨w5.heap.size, 0, none⟩) 0 0) 0 [] := by
            have := World.ownsRow_made (base := w5.heap.size) (e := 3) (size := 1) w5 #[] 0 (by simp) (by unfold maxLen; omega) (by simp)
            simpa using this
          have hrE := hrow5.kept kE
          have news1 : ∀ (j : Nat) (u : Value), ((out.take a).map (Value.int .i64))[j]? = some u → (w5.alloc (.cells #[] 3)).cell? ((⟨g, 0, none⟩ : Addr).add j) = some u := ints_news (fun j hj => by
            have hj' : j < out.length := by rw [List.length_take] at hj; omega
            have := hrE.cell (j := j) hj'
            rw [show hz (out.take a) j = hz out j by unfold hz; rw [List.getElem?_take_of_lt (by rw [List.length_take] at hj; omega)]]
            simpa using this)
          have lta : (out.take a).length = a := by rw [List.length_take]; omega
          have ltd : (out.drop a).length = out.length - a := List.length_drop
          have g0 : (0 : Int) ≤ (a : Int) := by omega
          have g1 : (a : Int) ≤ (out.length : Int) := by omega
          have g2 : (a : Int) ≤ (c : Int) := by omega
          have g3 : ((a : Int)).toNat = a := by omega
          have g4 : a ≤ c := by omega
          have g5 : a ≤ out.length := ha
          have Hlta : Hid _ := lta
          have Hltd : Hid _ := ltd
          have HR5 : Hid _ := hrow5
          clear lta ltd eIns hlow O5
          have l5 : b1 < w.heap.size := Hb1.out
          have c5 := (K5w.cell (p := ⟨b1, o1 + k, none⟩) l5).trans c0
          rcases Nat.lt_or_ge a c with hca | hca
          · go_wp2_with (first | (at_builtin; refine wpList_append_own _ rfl _ _ 24 rfl w5.heap.size 3 i0 (.int .i64 0) 1 8 Tryz.underlying24 hi hz0 hz1 hz2 rfl (by decide) _ _ _ rfl oE ⟨g, 0, none⟩ a _ ((out.take a).map (Value.int .i64)) rfl (by rw [List.length_map, Hlta.out, Nat.mul_one]) news1 (by intro u hu; obtain ⟨z, _, rfl⟩ := List.mem_map.1 hu; rfl) (by unfold maxLen; omega) (by omega) (by simp) ?_; intro v6 w6 own6 grow6 _; have kk6 : Kept w5 w6 := Below.grown kE grow6 (by simp) (fun j ej => by have h3 : (Value.slice (some ⟨w5.heap.size, 0, none⟩) 0 0).ownBlock = some j := ej; simp [Value.ownBlock] at h3; omega); have c6 := (kk6.cell (p := ⟨b1, o1 + k, none⟩) (by simp; omega)).trans c5; have kF : Kept w6 (w6.alloc (.cells #[.int .i64 x] 3)) := Kept.alloc (Below.refl _ _) _; have hs6 := kk6.size; simp only [Nat.zero_add, List.nil_append] at own6) | (at_builtin; refine wpList_append_own _ rfl _ _ 24 rfl w5.heap.size 3 i0 (.int .i64 0) 1 8 Tryz.underlying24 hi hz0 hz1 hz2 rfl (by decide) _ _ _ rfl (own6.alloc _) ⟨w6.heap.size, 0, none⟩ 1 1 [.int .i64 x] rfl rfl (cell_one_new _ _ _) (by simp [Value.oneCell']) (by unfold maxLen; omega) (by omega) (by simp; omega) ?_; intro v7 w7 own7 grow7 _; have kk7 : Kept w5 w7 := Below.grown (kk6.trans kF) grow7 (by simp; omega) (fun j ej => (own6.lt j ej).1); have hs7 := kk7.size; have hr7 := Row.kept HR5.out kk7; have news3 := drop_news (a := a) hr7) | (at_builtin; refine wpList_append_own _ rfl _ _ 24 rfl w5.heap.size 3 i0 (.int .i64 0) 1 8 Tryz.underlying24 hi hz0 hz1 hz2 rfl (by decide) _ _ _ rfl own7 ⟨g, a, none⟩ (out.length - a) (c - a) ((out.drop a).map (Value.int .i64)) rfl (by rw [List.length_map, Hltd.out, Nat.mul_one]) news3 (by intro u hu; obtain ⟨z, _, rfl⟩ := List.mem_map.1 hu; rfl) (by unfold maxLen; omega) (by omega) (by omega) ?_; intro v8 w8 own8 grow8 _; have kk8 : Kept w5 w8 := Below.grown kk7 grow8 (by omega) (fun j ej => (own7.lt j ej).1)))
            go_roundw
            case rel =>
              have e8 : (sortF [] (l.take (k + 1))).length = a + 1 + (out.length - a) := by rw [HT2.out, List.length_append, List.length_cons, Hlta.out, Hltd.out]; omega
              obtain ⟨g8, c8, ev8, _, _⟩ := own8.form (by omega)
              refine ⟨k + 1, g8, c8, by go_num, by omega, by rw [e8]; exact ev8, ⟨fun z hz' => ?_, ?_⟩, K5w.trans kk8⟩
              · rw [HT2.out] at hz'
                rcases List.mem_append.1 hz' with h | h
                · exact HO.out.1 z (List.mem_of_mem_take h)
                · rcases List.mem_cons.1 h with rfl | h
                  · exact hxb
                  · exact HO.out.1 z (List.mem_of_mem_drop h)
              · rw [e8, HT2.out, List.map_append, List.map_cons]
                have := ownsRow_base own8 hs5
                rw [List.append_assoc] at this
                exact this
            case measure => simp [intOf]; omega
          · obtain rfl : a = c := by have := Hla.out; omega
            go_wp2_with (first | (at_builtin; refine wpList_append_own _ rfl _ _ 24 rfl w5.heap.size 3 i0 (.int .i64 0) 1 8 Tryz.underlying24 hi hz0 hz1 hz2 rfl (by decide) _ _ _ rfl oE ⟨g, 0, none⟩ a _ ((out.take a).map (Value.int .i64)) rfl (by rw [List.length_map, Hlta.out, Nat.mul_one]) news1 (by intro u hu; obtain ⟨z, _, rfl⟩ := List.mem_map.1 hu; rfl) (by unfold maxLen; omega) (by omega) (by simp) ?_; intro v6 w6 own6 grow6 _; have kk6 : Kept w5 w6 := Below.grown kE grow6 (by simp) (fun j ej => by have h3 : (Value.slice (some ⟨w5.heap.size, 0, none⟩) 0 0).ownBlock = some j := ej; simp [Value.ownBlock] at h3; omega); have c6 := (kk6.cell (p := ⟨b1, o1 + k, none⟩) (by simp; omega)).trans c5; have kF : Kept w6 (w6.alloc (.cells #[.int .i64 x] 3)) := Kept.alloc (Below.refl _ _) _; have hs6 := kk6.size; simp only [Nat.zero_add, List.nil_append] at own6) | (at_builtin; refine wpList_append_own _ rfl _ _ 24 rfl w5.heap.size 3 i0 (.int .i64 0) 1 8 Tryz.underlying24 hi hz0 hz1 hz2 rfl (by decide) _ _ _ rfl (own6.alloc _) ⟨w6.heap.size, 0, none⟩ 1 1 [.int .i64 x] rfl rfl (cell_one_new _ _ _) (by simp [Value.oneCell']) (by unfold maxLen; omega) (by omega) (by simp; omega) ?_; intro v7 w7 own7 grow7 _; have kk7 : Kept w5 w7 := Below.grown (kk6.trans kF) grow7 (by simp; omega) (fun j ej => (own6.lt j ej).1); have hs7 := kk7.size; have hr7 := Row.kept HR5.out kk7; have news3 := drop_news (a := a) hr7) | (at_builtin; refine wpList_append_own _ rfl _ _ 24 rfl w5.heap.size 3 i0 (.int .i64 0) 1 8 Tryz.underlying24 hi hz0 hz1 hz2 rfl (by decide) _ _ _ rfl own7 ⟨g, 0, none⟩ _ _ ((out.drop a).map (Value.int .i64)) rfl (by first | (rw [List.length_map, Hltd.out, Nat.mul_one]; done) | (rw [List.length_map, Hltd.out]; have := Hla.out; omega)) (drop_none Hla.out) (by intro u hu; obtain ⟨z, _, rfl⟩ := List.mem_map.1 hu; rfl) (by unfold maxLen; omega) (by omega) (by omega) ?_; intro v8 w8 own8 grow8 _; have kk8 : Kept w5 w8 := Below.grown kk7 grow8 (by omega) (fun j ej => (own7.lt j ej).1)))
            have hz8 : out.length - a = 0 := by have := Hla.out; omega
            replace own8 : w8.ownsRow w5.heap.size 3 1 v8 (a + 1 + (out.length - a)) (List.map (Value.int .i64) (List.take a out) ++ [Value.int .i64 x] ++ List.map (Value.int .i64) (List.drop a out)) := by rw [hz8]; exact own8
            clear hz8
            go_roundw
            case rel =>
              have e8 : (sortF [] (l.take (k + 1))).length = a + 1 + (out.length - a) := by rw [HT2.out, List.length_append, List.length_cons, Hlta.out, Hltd.out]; omega
              obtain ⟨g8, c8, ev8, _, _⟩ := own8.form (by omega)
              refine ⟨k + 1, g8, c8, by go_num, by omega, by rw [e8]; exact ev8, ⟨fun z hz' => ?_, ?_⟩, K5w.trans kk8⟩
              · rw [HT2.out] at hz'
                rcases List.mem_append.1 hz' with h | h
                · exact HO.out.1 z (List.mem_of_mem_take h)
                · rcases List.mem_cons.1 h with rfl | h
                  · exact hxb
                  · exact HO.out.1 z (List.mem_of_mem_drop h)
              · rw [e8, HT2.out, List.map_append, List.map_cons]
                have := ownsRow_base own8 hs5
                rw [List.append_assoc] at this
                exact this
            case measure => simp [intOf]; omega
    · obtain rfl : k = l.length := by omega
      have HO : Hid _ := hO
      have HK : Hid _ := hK
      clear hO hK hsl
      go_wp2_with fail
      go_ret
      refine ⟨.slice (some ⟨g, 0, none⟩) (sortF [] (l.take l.length)).length c, rfl, ?_, HK.out⟩
      have h := HO.out
      unfold sortL
      rw [List.take_length] at h ⊢
      exact h
end Go.Proofs.YtgnpllpinfhccaaGreatDoor
