/-
  The contract of chapter 8's model l8Insert.
-/
import Derived.Test.YtjgafhmgmddgdaaMrkA
namespace Go.Proofs.Ytjgafhmgmddgdaa
open Go.RowKit
attribute [local go_sem] Plain.and7

theorem one_new2 (wr : World) (x : Int) : ∀ (j : Nat) (u : Value), [Value.int .i64 x][j]? = some u → ((wr.alloc (.cells #[] 3)).alloc (.cells #[.int .i64 x] 3)).cell? ((⟨wr.heap.size + 1, 0, none⟩ : Addr).add j) = some u := by
  have := cell_one_new (wr.alloc (.cells #[] 3)) (.int .i64 x) 3
  rw [World.size_alloc] at this
  exact this
set_option maxHeartbeats 16000000 in
set_option maxRecDepth 100000 in
theorem l8Insert_ok (w : World) (v : Value) (base : Nat) (l : List Int) (x : Int) (hO : OwnL w base v l) (hl : l.length ≤ 1048576) (hxb : -9223372036854775808 ≤ x ∧ x ≤ 9223372036854775807) :
    Calls Try.prog 47 #[v, .int .i64 x] w fun e w' => ∃ v', e = .returned v' ∧ OwnL w' w.heap.size v' (insL x l) ∧ Kept w w' := by
  obtain ⟨i0, hi, hz0, hz1, hz2⟩ := info_parts infoI
  have HB : Hid _ := hO.1
  rcases hO.cases with ⟨rfl, rfl⟩ | ⟨g, c, rfl, hb, hcc, hcm, hrow⟩
  · go_enter Try.func47, Try.ntmps47
    go_wp2_with fail
    go_loopw [5] (fun i wr => i = .int .i64 0 ∧ Kept w wr) (fun _ _ => 0)
    case atStart => exact ⟨rfl, Below.refl _ _⟩
    case round =>
      obtain ⟨rfl, hK⟩ := hrel
      have HK : Hid _ := hK
      have hs5 := hK.size
      have kE : Kept wr (wr.alloc (.cells #[] 3)) := Kept.alloc (Below.refl _ _) _
      have oE : (wr.alloc (.cells #[] 3)).ownsRow wr.heap.size 3 1 (.slice (some ⟨wr.heap.size, 0, none⟩) 0 0) 0 [] := by
        have := World.ownsRow_made (base := wr.heap.size) (e := 3) (size := 1) wr #[] 0 (by simp) (by unfold maxLen; omega) (by simp)
        simpa using this
      have kF : Kept (wr.alloc (.cells #[] 3)) ((wr.alloc (.cells #[] 3)).alloc (.cells #[.int .i64 x] 3)) := Kept.alloc (Below.refl _ _) _
      clear hK hO
      go_wp2_with (first | (at_builtin; refine wpList_append_own_none rfl _ _ 22 rfl wr.heap.size 3 i0 1 Try.underlying22 hi _ _ _ rfl oE rfl ?_) | (at_builtin; refine wpList_append_own _ rfl _ _ 22 rfl wr.heap.size 3 i0 (.int .i64 0) 1 8 Try.underlying22 hi hz0 hz1 hz2 rfl (by decide) _ _ _ rfl (oE.alloc _) ⟨wr.heap.size + 1, 0, none⟩ 1 1 [.int .i64 x] rfl rfl (one_new2 wr x) (by simp [Value.oneCell']) (by unfold maxLen; omega) (by omega) (by simp; omega) ?_; intro v7 w7 own7 grow7 _; have kk7 : Kept wr w7 := Below.grown (kE.trans kF) grow7 (by simp; omega) (fun j ej => (oE.lt j ej).1)) | (at_builtin; refine wpList_append_own_none rfl _ _ 22 rfl wr.heap.size 3 i0 1 Try.underlying22 hi _ _ _ rfl own7 rfl ?_))
      go_ret
      refine ⟨v7, rfl, ⟨fun z hz' => ?_, ?_⟩, Kept.trans HK.out kk7⟩
      · simp [insL] at hz'
        subst hz'
        exact hxb
      · have := ownsRow_base own7 hs5
        simpa [insL] using this
  · have HRw : Hid _ := hrow
    have lg := hrow.lt
    clear hrow hO
    go_enter Try.func47, Try.ntmps47
    go_wp2_with fail
    go_loopw [5] (fun i wr => ∃ a : Nat, i = .int .i64 a ∧ a ≤ l.length ∧ (∀ j, j < a → hz l j < x) ∧ Kept w wr) (fun i _ => l.length - (intOf i).toNat)
    case atStart => exact ⟨0, rfl, Nat.zero_le _, fun j hj => by omega, Below.refl _ _⟩
    case round =>
      obtain ⟨a, rfl, ha, hlow, hK2⟩ := hrel
      have HK2 : Hid _ := hK2
      have Hlow : Hid _ := hlow
      by_cases hla : a < l.length
      · have c2 := (Row.kept HRw.out hK2).cell (j := a) hla
        have r1 : (a : Int) < (l.length : Int) := by omega
        have r0 : (0 : Int) ≤ (a : Int) := by omega
        clear hK2 hlow
        by_cases hx : hz l a < x
        · have hd : decide (hz l a < x) = true := by simpa using hx
          have HX : Hid _ := hx
          clear hx
          go_wp2_with fail
          go_roundw
          case rel =>
            refine ⟨a + 1, by go_num, by omega, fun j hj => ?_, HK2.out⟩
            rcases Nat.lt_or_ge j a with h | h
            · exact Hlow.out j h
            · have : j = a := by omega
              subst this
              exact HX.out
          case measure => simp [intOf]; omega
        · have hd : decide (hz l a < x) = false := by simpa using hx
          have Hstop : Hid (a < l.length → x ≤ hz l a) := fun _ => by omega
          clear hx
          have HT2 : Hid (insL x l = l.take a ++ x :: l.drop a) := insL_at (x := x) (out := l) ha Hlow.out Hstop.out
          have hrow5 := Row.kept HRw.out HK2.out
          have hs5 := Below.size HK2.out
          have kE : Kept wr (wr.alloc (.cells #[] 3)) := Kept.alloc (Below.refl _ _) _
          have oE : (wr.alloc (.cells #[] 3)).ownsRow wr.heap.size 3 1 (.slice (some ⟨wr.heap.size, 0, none⟩) 0 0) 0 [] := by
            have := World.ownsRow_made (base := wr.heap.size) (e := 3) (size := 1) wr #[] 0 (by simp) (by unfold maxLen; omega) (by simp)
            simpa using this
          have hrE := hrow5.kept kE
          have news1 : ∀ (j : Nat) (u : Value), ((l.take a).map (Value.int .i64))[j]? = some u → (wr.alloc (.cells #[] 3)).cell? ((⟨g, 0, none⟩ : Addr).add j) = some u := ints_news (fun j hj => by
            have hj' : j < l.length := by rw [List.length_take] at hj; omega
            have := hrE.cell (j := j) hj'
            rw [show hz (l.take a) j = hz l j by unfold hz; rw [List.getElem?_take_of_lt (by rw [List.length_take] at hj; omega)]]
            simpa using this)
          have Hlta : Hid ((l.take a).length = a) := by rw [Hid, List.length_take]; omega
          have Hltd : Hid ((l.drop a).length = l.length - a) := List.length_drop
          have g0 : (0 : Int) ≤ (a : Int) := by omega
          have g1 : (a : Int) ≤ (l.length : Int) := by omega
          have g2 : (a : Int) ≤ (c : Int) := by omega
          have g3 : ((a : Int)).toNat = a := by omega
          have g4 : a ≤ c := by omega
          have g5 : a ≤ l.length := ha
          have HR5 : Hid _ := hrow5
          clear hrow5 hrE
          go_wp2_with (first | (at_builtin; refine wpList_append_own _ rfl _ _ 22 rfl wr.heap.size 3 i0 (.int .i64 0) 1 8 Try.underlying22 hi hz0 hz1 hz2 rfl (by decide) _ _ _ rfl oE ⟨g, 0, none⟩ a _ ((l.take a).map (Value.int .i64)) rfl (by rw [List.length_map, Hlta.out, Nat.mul_one]) news1 (by intro u hu; obtain ⟨z, _, rfl⟩ := List.mem_map.1 hu; rfl) (by unfold maxLen; omega) (by omega) (by simp) ?_; intro v6 w6 own6 grow6 _; have kk6 : Kept wr w6 := Below.grown kE grow6 (by simp) (fun j ej => by have h3 : (Value.slice (some ⟨wr.heap.size, 0, none⟩) 0 0).ownBlock = some j := ej; simp [Value.ownBlock] at h3; omega); have kF : Kept w6 (w6.alloc (.cells #[.int .i64 x] 3)) := Kept.alloc (Below.refl _ _) _; have hs6 := kk6.size; simp only [Nat.zero_add, List.nil_append] at own6) | (at_builtin; refine wpList_append_own _ rfl _ _ 22 rfl wr.heap.size 3 i0 (.int .i64 0) 1 8 Try.underlying22 hi hz0 hz1 hz2 rfl (by decide) _ _ _ rfl (own6.alloc _) ⟨w6.heap.size, 0, none⟩ 1 1 [.int .i64 x] rfl rfl (cell_one_new _ _ _) (by simp [Value.oneCell']) (by unfold maxLen; omega) (by omega) (by simp; omega) ?_; intro v7 w7 own7 grow7 _; have kk7 : Kept wr w7 := Below.grown (kk6.trans kF) grow7 (by simp; omega) (fun j ej => (own6.lt j ej).1); have hs7 := kk7.size; have hr7 := Row.kept HR5.out kk7; have news3 := drop_news (a := a) hr7) | (at_builtin; refine wpList_append_own _ rfl _ _ 22 rfl wr.heap.size 3 i0 (.int .i64 0) 1 8 Try.underlying22 hi hz0 hz1 hz2 rfl (by decide) _ _ _ rfl own7 ⟨g, a, none⟩ (l.length - a) (c - a) ((l.drop a).map (Value.int .i64)) rfl (by rw [List.length_map, Hltd.out, Nat.mul_one]) news3 (by intro u hu; obtain ⟨z, _, rfl⟩ := List.mem_map.1 hu; rfl) (by unfold maxLen; omega) (by omega) (by omega) ?_; intro v8 w8 own8 grow8 _; have kk8 : Kept wr w8 := Below.grown kk7 grow8 (by omega) (fun j ej => (own7.lt j ej).1)))
          go_ret
          have e8 : (insL x l).length = a + 1 + (l.length - a) := by rw [HT2.out, List.length_append, List.length_cons, Hlta.out, Hltd.out]; omega
          refine ⟨_, rfl, ⟨fun z hz' => ?_, ?_⟩, Kept.trans HK2.out kk8⟩
          · rw [HT2.out] at hz'
            rcases List.mem_append.1 hz' with h | h
            · exact HB.out z (List.mem_of_mem_take h)
            · rcases List.mem_cons.1 h with rfl | h
              · exact hxb
              · exact HB.out z (List.mem_of_mem_drop h)
          · rw [e8, HT2.out, List.map_append, List.map_cons]
            have := ownsRow_base own8 hs5
            rw [List.append_assoc] at this
            exact this
      · have Hstop : Hid (a < l.length → x ≤ hz l a) := fun h => absurd h hla
        have Hla : Hid (l.length ≤ a) := by simpa [Hid] using hla
        have Hda : Hid (decide ((a : Int) < (l.length : Int)) = false) := by simp [Hid]; omega
        clear hK2 hlow
        have HT2 : Hid (insL x l = l.take a ++ x :: l.drop a) := insL_at (x := x) (out := l) ha Hlow.out Hstop.out
        have hrow5 := Row.kept HRw.out HK2.out
        have hs5 := Below.size HK2.out
        have kE : Kept wr (wr.alloc (.cells #[] 3)) := Kept.alloc (Below.refl _ _) _
        have oE : (wr.alloc (.cells #[] 3)).ownsRow wr.heap.size 3 1 (.slice (some ⟨wr.heap.size, 0, none⟩) 0 0) 0 [] := by
          have := World.ownsRow_made (base := wr.heap.size) (e := 3) (size := 1) wr #[] 0 (by simp) (by unfold maxLen; omega) (by simp)
          simpa using this
        have hrE := hrow5.kept kE
        have news1 : ∀ (j : Nat) (u : Value), ((l.take a).map (Value.int .i64))[j]? = some u → (wr.alloc (.cells #[] 3)).cell? ((⟨g, 0, none⟩ : Addr).add j) = some u := ints_news (fun j hj => by
          have hj' : j < l.length := by rw [List.length_take] at hj; omega
          have := hrE.cell (j := j) hj'
          rw [show hz (l.take a) j = hz l j by unfold hz; rw [List.getElem?_take_of_lt (by rw [List.length_take] at hj; omega)]]
          simpa using this)
        have Hlta : Hid ((l.take a).length = a) := by rw [Hid, List.length_take]; omega
        have Hltd : Hid ((l.drop a).length = l.length - a) := List.length_drop
        have g0 : (0 : Int) ≤ (a : Int) := by omega
        have g1 : (a : Int) ≤ (l.length : Int) := by omega
        have g2 : (a : Int) ≤ (c : Int) := by omega
        have g3 : ((a : Int)).toNat = a := by omega
        have g4 : a ≤ c := by omega
        have g5 : a ≤ l.length := ha
        have HR5 : Hid _ := hrow5
        clear hrow5 hrE
        rcases Nat.lt_or_ge a c with hca | hca
        · go_wp2_with (first | (at_builtin; refine wpList_append_own _ rfl _ _ 22 rfl wr.heap.size 3 i0 (.int .i64 0) 1 8 Try.underlying22 hi hz0 hz1 hz2 rfl (by decide) _ _ _ rfl oE ⟨g, 0, none⟩ a _ ((l.take a).map (Value.int .i64)) rfl (by rw [List.length_map, Hlta.out, Nat.mul_one]) news1 (by intro u hu; obtain ⟨z, _, rfl⟩ := List.mem_map.1 hu; rfl) (by unfold maxLen; omega) (by omega) (by simp) ?_; intro v6 w6 own6 grow6 _; have kk6 : Kept wr w6 := Below.grown kE grow6 (by simp) (fun j ej => by have h3 : (Value.slice (some ⟨wr.heap.size, 0, none⟩) 0 0).ownBlock = some j := ej; simp [Value.ownBlock] at h3; omega); have kF : Kept w6 (w6.alloc (.cells #[.int .i64 x] 3)) := Kept.alloc (Below.refl _ _) _; have hs6 := kk6.size; simp only [Nat.zero_add, List.nil_append] at own6) | (at_builtin; refine wpList_append_own _ rfl _ _ 22 rfl wr.heap.size 3 i0 (.int .i64 0) 1 8 Try.underlying22 hi hz0 hz1 hz2 rfl (by decide) _ _ _ rfl (own6.alloc _) ⟨w6.heap.size, 0, none⟩ 1 1 [.int .i64 x] rfl rfl (cell_one_new _ _ _) (by simp [Value.oneCell']) (by unfold maxLen; omega) (by omega) (by simp; omega) ?_; intro v7 w7 own7 grow7 _; have kk7 : Kept wr w7 := Below.grown (kk6.trans kF) grow7 (by simp; omega) (fun j ej => (own6.lt j ej).1); have hs7 := kk7.size; have hr7 := Row.kept HR5.out kk7; have news3 := drop_news (a := a) hr7) | (at_builtin; refine wpList_append_own _ rfl _ _ 22 rfl wr.heap.size 3 i0 (.int .i64 0) 1 8 Try.underlying22 hi hz0 hz1 hz2 rfl (by decide) _ _ _ rfl own7 ⟨g, a, none⟩ (l.length - a) (c - a) ((l.drop a).map (Value.int .i64)) rfl (by rw [List.length_map, Hltd.out, Nat.mul_one]) news3 (by intro u hu; obtain ⟨z, _, rfl⟩ := List.mem_map.1 hu; rfl) (by unfold maxLen; omega) (by omega) (by omega) ?_; intro v8 w8 own8 grow8 _; have kk8 : Kept wr w8 := Below.grown kk7 grow8 (by omega) (fun j ej => (own7.lt j ej).1)))
          go_ret
          have e8 : (insL x l).length = a + 1 + (l.length - a) := by rw [HT2.out, List.length_append, List.length_cons, Hlta.out, Hltd.out]; omega
          refine ⟨_, rfl, ⟨fun z hz' => ?_, ?_⟩, Kept.trans HK2.out kk8⟩
          · rw [HT2.out] at hz'
            rcases List.mem_append.1 hz' with h | h
            · exact HB.out z (List.mem_of_mem_take h)
            · rcases List.mem_cons.1 h with rfl | h
              · exact hxb
              · exact HB.out z (List.mem_of_mem_drop h)
          · rw [e8, HT2.out, List.map_append, List.map_cons]
            have := ownsRow_base own8 hs5
            rw [List.append_assoc] at this
            exact this
        · obtain rfl : a = c := by have := Hla.out; omega
          go_wp2_with (first | (at_builtin; refine wpList_append_own _ rfl _ _ 22 rfl wr.heap.size 3 i0 (.int .i64 0) 1 8 Try.underlying22 hi hz0 hz1 hz2 rfl (by decide) _ _ _ rfl oE ⟨g, 0, none⟩ a _ ((l.take a).map (Value.int .i64)) rfl (by rw [List.length_map, Hlta.out, Nat.mul_one]) news1 (by intro u hu; obtain ⟨z, _, rfl⟩ := List.mem_map.1 hu; rfl) (by unfold maxLen; omega) (by omega) (by simp) ?_; intro v6 w6 own6 grow6 _; have kk6 : Kept wr w6 := Below.grown kE grow6 (by simp) (fun j ej => by have h3 : (Value.slice (some ⟨wr.heap.size, 0, none⟩) 0 0).ownBlock = some j := ej; simp [Value.ownBlock] at h3; omega); have kF : Kept w6 (w6.alloc (.cells #[.int .i64 x] 3)) := Kept.alloc (Below.refl _ _) _; have hs6 := kk6.size; simp only [Nat.zero_add, List.nil_append] at own6) | (at_builtin; refine wpList_append_own _ rfl _ _ 22 rfl wr.heap.size 3 i0 (.int .i64 0) 1 8 Try.underlying22 hi hz0 hz1 hz2 rfl (by decide) _ _ _ rfl (own6.alloc _) ⟨w6.heap.size, 0, none⟩ 1 1 [.int .i64 x] rfl rfl (cell_one_new _ _ _) (by simp [Value.oneCell']) (by unfold maxLen; omega) (by omega) (by simp; omega) ?_; intro v7 w7 own7 grow7 _; have kk7 : Kept wr w7 := Below.grown (kk6.trans kF) grow7 (by simp; omega) (fun j ej => (own6.lt j ej).1); have hs7 := kk7.size; have hr7 := Row.kept HR5.out kk7; have news3 := drop_news (a := a) hr7) | (at_builtin; refine wpList_append_own _ rfl _ _ 22 rfl wr.heap.size 3 i0 (.int .i64 0) 1 8 Try.underlying22 hi hz0 hz1 hz2 rfl (by decide) _ _ _ rfl own7 ⟨g, 0, none⟩ _ _ ((l.drop a).map (Value.int .i64)) rfl (by first | (rw [List.length_map, Hltd.out, Nat.mul_one]; done) | (rw [List.length_map, Hltd.out]; have := Hla.out; omega)) (drop_none Hla.out) (by intro u hu; obtain ⟨z, _, rfl⟩ := List.mem_map.1 hu; rfl) (by unfold maxLen; omega) (by omega) (by omega) ?_; intro v8 w8 own8 grow8 _; have kk8 : Kept wr w8 := Below.grown kk7 grow8 (by omega) (fun j ej => (own7.lt j ej).1)))
          have hz8 : l.length - a = 0 := by have := Hla.out; omega
          replace own8 : w8.ownsRow wr.heap.size 3 1 v8 (a + 1 + (l.length - a)) (List.map (Value.int .i64) (List.take a l) ++ [Value.int .i64 x] ++ List.map (Value.int .i64) (List.drop a l)) := by rw [hz8]; exact own8
          clear hz8
          go_ret
          have e8 : (insL x l).length = a + 1 + (l.length - a) := by rw [HT2.out, List.length_append, List.length_cons, Hlta.out, Hltd.out]; omega
          refine ⟨_, rfl, ⟨fun z hz' => ?_, ?_⟩, Kept.trans HK2.out kk8⟩
          · rw [HT2.out] at hz'
            rcases List.mem_append.1 hz' with h | h
            · exact HB.out z (List.mem_of_mem_take h)
            · rcases List.mem_cons.1 h with rfl | h
              · exact hxb
              · exact HB.out z (List.mem_of_mem_drop h)
          · rw [e8, HT2.out, List.map_append, List.map_cons]
            have := ownsRow_base own8 hs5
            rw [List.append_assoc] at this
            exact this
end Go.Proofs.Ytjgafhmgmddgdaa
