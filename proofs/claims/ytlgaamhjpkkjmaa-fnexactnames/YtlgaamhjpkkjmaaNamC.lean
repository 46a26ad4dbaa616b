/-
  The contracts of what the laws do with rows of texts: eqStringS, markText, markStringS, heldStringS.
-/
import Derived.Test.YtlgaamhjpkkjmaaNamP
import Derived.Test.YtlgaamhjpkkjmaaHelpM
namespace Go.Proofs.Ytlgaamhjpkkjmaa
open Go.RowKit

/-- The texts ts lie at ao. -/
def StrA (W : World) (ao : Option Addr) (ts : List ByteArray) : Prop := ∀ j t, ts[j]? = some t → ∃ b off, ao = some ⟨b, off, none⟩ ∧ W.cell? ⟨b, off + j, none⟩ = some (.string t)
theorem StrA.kept {W W' : World} {ao : Option Addr} {ts : List ByteArray} (h : StrA W ao ts) (hk : Kept W W') : StrA W' ao ts := by
  intro j t ht
  obtain ⟨b, off, e, hc⟩ := h j t ht
  exact ⟨b, off, e, (hk.cell (p := ⟨b, off + j, none⟩) (World.block_lt_of_cell? _ _ hc)).trans hc⟩
theorem OwnS.at {W : World} {base : Nat} {v : Value} {ts : List ByteArray} (h : OwnS W base v ts) : ∃ ao cap, v = .slice ao ts.length cap ∧ StrA W ao ts := by
  have h' := h
  rcases h.2 with ⟨rfl, hn⟩ | ⟨g, cap, cur, rfl, hb, hg, h1, _⟩
  · exact ⟨none, 0, by rw [hn], fun j t ht => by rw [List.length_eq_zero_iff.1 hn] at ht; simp at ht⟩
  · refine ⟨_, cap, rfl, fun j t ht => ⟨g, 0, rfl, ?_⟩⟩
    have h3 := World.ownsRow.cells h' (g := g) rfl j (.string t) (by rw [List.getElem?_map, ht]; rfl)
    rw [show (⟨g, 0, none⟩ : Addr).add j = ⟨g, 0 + j, none⟩ by unfold Addr.add; split <;> simp_all] at h3
    exact h3

set_option maxHeartbeats 4000000 in
set_option maxRecDepth 100000 in
theorem eqStringS_ok (w : World) (ao bo : Option Addr) (ca cb : Nat) (ts : List ByteArray) (hA : StrA w ao ts) (hB : StrA w bo ts) (hl : ts.length ≤ 1048576) :
    Calls Try.prog 26 #[.slice ao ts.length ca, .slice bo ts.length cb] w fun e w' => e = .returned (.bool true) ∧ Kept w w' := by
  have HA : Hid _ := hA
  have HB : Hid _ := hB
  clear hA hB
  go_enter Try.func26, Try.ntmps26
  go_wp2_with fail
  go_loopw [5] (fun i wr => ∃ k : Nat, i = .int .i64 k ∧ k ≤ ts.length ∧ Kept w wr) (fun i _ => ts.length - (intOf i).toNat)
  case atStart => exact ⟨0, rfl, Nat.zero_le _, Below.refl _ _⟩
  case round =>
    obtain ⟨k, rfl, hk, hK⟩ := hrel
    have HK : Hid _ := hK
    by_cases hlt : k < ts.length
    · obtain ⟨t, ht⟩ : ∃ t, ts[k]? = some t := ⟨_, List.getElem?_eq_getElem hlt⟩
      obtain ⟨b, off, rfl, hc⟩ := (StrA.kept HA.out hK) k t ht
      obtain ⟨b', off', rfl, hc'⟩ := (StrA.kept HB.out hK) k t ht
      have q1 : (k : Int) < (ts.length : Int) := by omega
      have q0 : (0 : Int) ≤ (k : Int) := by omega
      have n6 : (t != t) = false := by simp [bne, beq_toListBytes]
      clear ht hK
      go_wp2_with fail
      go_region
      all_goals (
        go_wp2_with fail
        go_roundw
        case rel => exact ⟨k + 1, by go_num, by omega, Below.drew HK.out⟩
        case measure => simp [intOf]; omega)
    · obtain rfl : k = ts.length := by omega
      clear hK
      go_wp2
      go_ret
      exact ⟨rfl, HK.out⟩
theorem conv_one (W : World) (x : Int) : (convert 79 9 (.slice (some ⟨W.heap.size, 0, none⟩) 1 1)).run Try.prog (W.alloc (.cells #[.int .u8 x] 5)) = .ok (.string (strOfNums [x])) (W.alloc (.cells #[.int .u8 x] 5)) := conv_row (cap := 1) (xs := [x]) (Cells.new W 5 #[.int .u8 x])
theorem str_one (x : Int) : (strOfNums [x]).size = 1 := rfl
def digF : Nat → Nat → ByteArray → ByteArray
  | 0, _, out => out
  | f + 1, n, out => if n = 0 then out else digF f (n / 10) (strOfNums [48 + (n : Int) % 10] ++ out)
def mkT (k : Nat) : ByteArray := (⟨#[109]⟩ : ByteArray) ++ digF k k ⟨#[]⟩
set_option maxHeartbeats 4000000 in
set_option maxRecDepth 100000 in
theorem markText_ok (w : World) (k : Nat) (h1 : 1 ≤ k) (h2 : k ≤ 1048577) :
    Calls Try.prog 62 #[.int .i64 (k : Int)] w fun e w' => e = .returned (.string (mkT k)) ∧ Kept w w' := by
  have hp : ¬ (k : Int) ≤ 0 := by omega
  go_enter Try.func62, Try.ntmps62
  go_wp2_with fail
  go_loopw [0, 3] (fun i o wr => ∃ (n f : Nat) (out : ByteArray), i = .int .i64 n ∧ o = .string out ∧ n ≤ f ∧ out.size + n ≤ k ∧ digF f n out = digF k k ⟨#[]⟩ ∧ Kept w wr) (fun i _ _ => (intOf i).toNat)
  case atStart => exact ⟨k, k, _, rfl, rfl, Nat.le_refl _, by show 0 + k ≤ k; omega, rfl, Below.refl _ _⟩
  case round =>
    obtain ⟨n, f, out, rfl, rfl, hnf, hnk, hd, hK⟩ := hrel
    have HD : Hid _ := hd
    have HK : Hid _ := hK
    clear hd
    by_cases h0 : n = 0
    · subst h0
      have e0 : digF f 0 out = out := by cases f <;> simp [digF]
      have HE : Hid (out = digF k k ⟨#[]⟩) := e0.symm.trans HD.out
      have hno : ¬ 9223372036854775807 < 1 + out.size := by omega
      have hno2 : ¬ 9223372036854775807 < (⟨#[109]⟩ : ByteArray).size + out.size := hno
      clear hK e0
      go_wp2_with fail
      go_ret
      exact ⟨by rw [mkT, ← HE.out]; rfl, HK.out⟩
    · have hpos : (0 : Int) < (n : Int) := by omega
      have u8 := IntWalk.u8_in (48 + (n : Int) % 10) (by omega)
      have hcv := conv_one wr (48 + (n : Int) % 10)
      have hq : (n : Int).tdiv 10 = ((n / 10 : Nat) : Int) := by rw [Int.tdiv_eq_ediv_of_nonneg (by omega)]; omega
      have hr : (n : Int).tmod 10 = (n : Int) % 10 := by rw [Int.tmod_eq_emod_of_nonneg (by omega)]
      have kA : Kept wr (wr.alloc (.cells #[.int .u8 (48 + (n : Int) % 10)] 5)) := Kept.alloc (Below.refl _ _) _
      have hno : ¬ 9223372036854775807 < (strOfNums [48 + (n : Int) % 10]).size + out.size := by rw [str_one]; omega
      obtain ⟨f', rfl⟩ : ∃ f', f = f' + 1 := ⟨f - 1, by omega⟩
      have HD2 : Hid (digF f' (n / 10) (strOfNums [48 + (n : Int) % 10] ++ out) = digF k k ⟨#[]⟩) := by
        have := HD.out
        rw [digF, if_neg h0] at this
        exact this
      clear hK HD
      go_wp2_with fail
      go_roundw
      case rel => exact ⟨n / 10, f', _, by rw [show ((n / 10 : Nat) : Int) = (n : Int) / 10 by omega], rfl, by omega, by rw [ByteArray.size_append, str_one]; omega, HD2.out, Kept.trans HK.out kA⟩
      case measure => simp [intOf]; omega
def marksS (n : Nat) : List ByteArray := (List.range n).map (fun i => mkT (i + 1))
theorem marksS_len (n : Nat) : (marksS n).length = n := by simp [marksS]
theorem marksS_at {n j : Nat} (h : j < n) : (marksS n)[j]? = some (mkT (j + 1)) := by simp [marksS, h]
def mixS (ts : List ByteArray) (k : Nat) : List ByteArray := marksS k ++ ts.drop k
theorem mixS_len {ts : List ByteArray} {k : Nat} (h : k ≤ ts.length) : (mixS ts k).length = ts.length := by simp [mixS, marksS_len]; omega
theorem mixS_zero (ts : List ByteArray) : mixS ts 0 = ts := by simp [mixS, marksS]
theorem mixS_all (ts : List ByteArray) : mixS ts ts.length = marksS ts.length := by simp [mixS]
theorem mixS_succ {ts : List ByteArray} {k : Nat} (h : k < ts.length) : (mixS ts k).set k (mkT (k + 1)) = mixS ts (k + 1) := by
  apply List.ext_getElem?
  intro j
  rw [List.getElem?_set, mixS_len (by omega)]
  unfold mixS
  by_cases e : k = j
  · subst e
    rw [if_pos rfl, if_pos h, List.getElem?_append_left (by rw [marksS_len]; omega), marksS_at (by omega)]
  · rw [if_neg e]
    by_cases h2 : j < k
    · rw [List.getElem?_append_left (by rw [marksS_len]; omega), List.getElem?_append_left (by rw [marksS_len]; omega), marksS_at h2, marksS_at (by omega)]
    · rw [List.getElem?_append_right (by rw [marksS_len]; omega), List.getElem?_append_right (by rw [marksS_len]; omega), marksS_len, marksS_len, List.getElem?_drop, List.getElem?_drop]
      rw [show k + (j - k) = j by omega, show k + 1 + (j - (k + 1)) = j by omega]
/-- The texts ts stand at the head of the block g. -/
def RowS (W : World) (g : Nat) (ts : List ByteArray) : Prop := ∃ cur : Array Value, W.heap[g]? = some (.cells cur 9 (0, 0)) ∧ ts.length ≤ cur.size ∧ ∀ (j : Nat) (t : ByteArray), ts[j]? = some t → cur[j]? = some (Value.string t)
theorem RowS.lt {W : World} {g : Nat} {ts : List ByteArray} (h : RowS W g ts) : g < W.heap.size := by
  obtain ⟨_, h, _⟩ := h
  exact (Array.getElem?_eq_some_iff.1 h).1
theorem RowS.kept {W W' : World} {g : Nat} {ts : List ByteArray} (h : RowS W g ts) (hk : Kept W W') : RowS W' g ts := by
  have hlt := h.lt
  obtain ⟨cur, h1, h2⟩ := h
  exact ⟨cur, (hk.block g hlt).trans h1, h2⟩
theorem RowS.strA {W : World} {g : Nat} {ts : List ByteArray} (h : RowS W g ts) : StrA W (some ⟨g, 0, none⟩) ts := by
  obtain ⟨cur, h1, _, h3⟩ := h
  exact fun j t ht => ⟨g, 0, rfl, by simp [World.cell?, h1, h3 j t ht]⟩
theorem RowS.there {W : World} {g j : Nat} {ts : List ByteArray} (h : RowS W g ts) (hj : j < ts.length) : (∃ t, W.cell? ⟨g, j, none⟩ = some (.string t)) ∧ W.frozen? ⟨g, j, none⟩ = false := by
  obtain ⟨cur, h1, _, h3⟩ := h
  refine ⟨⟨ts[j], ?_⟩, ?_⟩
  · have := h3 j ts[j] (List.getElem?_eq_getElem hj)
    simp [World.cell?, h1, this]
  · simp [World.frozen?, h1]
theorem RowS.set {W : World} {g k : Nat} {ts : List ByteArray} (h : RowS W g ts) (hk : k < ts.length) (t : ByteArray) : RowS (W.setCell ⟨g, k, none⟩ (.string t)) g (ts.set k t) := by
  obtain ⟨cur, h1, h2, h3⟩ := h
  refine ⟨cur.setIfInBounds k (.string t), Cells.set k (.string t) h1, by simpa using h2, fun j u hu => ?_⟩
  rw [List.getElem?_set] at hu
  rw [Array.getElem?_setIfInBounds]
  by_cases e : k = j
  · subst e
    rw [if_pos rfl, if_pos hk] at hu
    cases hu
    rw [if_pos rfl, if_pos (by omega)]
  · rw [if_neg e] at hu ⊢
    exact h3 j u hu
set_option maxHeartbeats 4000000 in
set_option maxRecDepth 100000 in
theorem markRowS_ok (w : World) (g cap : Nat) (ts : List ByteArray) (hR : RowS w g ts) (hl : ts.length ≤ 1048576) :
    Calls Try.prog 27 #[.slice (some ⟨g, 0, none⟩) ts.length cap, .int .i64 1] w fun e w' => e = .returned (.int .i64 ((ts.length : Int) + 1)) ∧ RowS w' g (marksS ts.length) ∧ w.grownBy w' (some g) := by
  go_enter Try.func27, Try.ntmps27
  go_wp2_with fail
  go_loopw [1, 5] (fun m i wr => ∃ k : Nat, i = .int .i64 k ∧ m = .int .i64 ((k : Int) + 1) ∧ k ≤ ts.length ∧ RowS wr g (mixS ts k) ∧ w.grownBy wr (some g)) (fun _ i _ => ts.length - (intOf i).toNat)
  case atStart => exact ⟨0, rfl, rfl, Nat.zero_le _, by rw [mixS_zero]; exact hR, World.grownBy.refl _ _⟩
  case round =>
    obtain ⟨k, rfl, rfl, hk, hrow, hG⟩ := hrel
    have HG : Hid _ := hG
    have HRw : Hid _ := hrow
    clear hG hrow
    by_cases hlt : k < ts.length
    · have q1 : (k : Int) < (ts.length : Int) := by omega
      have q0 : (0 : Int) ≤ (k : Int) := by omega
      have hM : ∀ u, Calls Try.prog 62 #[.int .i64 ((k : Int) + 1)] u fun e w' => e = .returned (.string (mkT (k + 1))) ∧ Kept u w' := fun u => markText_ok u (k + 1) (by omega) (by omega)
      have HM : Hid _ := hM
      clear hM
      go_wp2_with (go_at_call 62; refine (HM.out _).mono ?_; rintro e w1 ⟨rfl, hk1⟩; have R1 := RowS.kept HRw.out hk1; obtain ⟨⟨t1, c1⟩, f1⟩ := R1.there (j := k) (by rw [mixS_len (by omega)]; exact hlt))
      go_roundw
      case rel => exact ⟨k + 1, by go_num, by go_num, by omega, by rw [← mixS_succ hlt]; exact R1.set (by rw [mixS_len (by omega)]; exact hlt) _, grown_set (grown_kept HG.out hk1) _⟩
      case measure => simp [intOf]; omega
    · obtain rfl : k = ts.length := by omega
      go_wp2
      go_ret
      exact ⟨rfl, by rw [← mixS_all]; exact HRw.out, HG.out⟩
theorem markNilS_ok (w : World) (ao : Option Addr) (cap : Nat) :
    Calls Try.prog 27 #[.slice ao 0 cap, .int .i64 1] w fun e w' => e = .returned (.int .i64 1) ∧ w = w' := by
  go_enter Try.func27, Try.ntmps27
  go_wp2_with fail
  go_loopw [1, 5] (fun m i wr => i = .int .i64 0 ∧ m = .int .i64 1 ∧ w = wr) (fun _ _ _ => 0)
  case atStart => exact ⟨rfl, rfl, rfl⟩
  case round =>
    obtain ⟨rfl, rfl, rfl⟩ := hrel
    go_wp2
    go_ret
    exact ⟨rfl, rfl⟩
theorem markStringS_ok (w : World) (base : Nat) (v : Value) (ts : List ByteArray) (hO : OwnS w base v ts) (hl : ts.length ≤ 1048576) :
    Calls Try.prog 27 #[v, .int .i64 1] w fun e w' => e = .returned (.int .i64 ((ts.length : Int) + 1)) ∧ (∃ ao cap, v = .slice ao ts.length cap ∧ StrA w' ao (marksS ts.length)) ∧ w.grownBy w' v.ownBlock := by
  have h' := hO
  rcases hO.2 with ⟨rfl, hn⟩ | ⟨g, cap, cur, rfl, hb, hg, h1, _, h3, h4⟩
  · rw [hn]
    refine (markNilS_ok w none 0).mono ?_
    rintro e w' ⟨rfl, rfl⟩
    exact ⟨rfl, ⟨none, 0, rfl, fun j t ht => by simp [marksS] at ht⟩, World.grownBy.refl _ _⟩
  · have hR : RowS w g ts := ⟨cur, hg, by omega, fun j t ht => by
      obtain ⟨hj, e⟩ := List.getElem?_eq_some_iff.1 ht
      have e2 : (cur.toList.take (ts.length * 1))[j]? = some (.string t) := by rw [h4, List.getElem?_map, ht]; rfl
      rw [List.getElem?_take, if_pos (by omega)] at e2
      simpa using e2⟩
    refine (markRowS_ok w g cap ts hR hl).mono ?_
    rintro e w' ⟨rfl, hR', hG⟩
    exact ⟨rfl, ⟨_, cap, rfl, hR'.strA⟩, hG⟩
set_option maxHeartbeats 4000000 in
set_option maxRecDepth 100000 in
theorem heldStringS_ok (w : World) (ao : Option Addr) (cap n : Nat) (hA : StrA w ao (marksS n)) (hl : n ≤ 1048576) :
    Calls Try.prog 28 #[.slice ao n cap, .int .i64 1] w fun e w' => e = .returned (.int .i64 ((n : Int) + 1)) ∧ Kept w w' := by
  have HA : Hid _ := hA
  clear hA
  go_enter Try.func28, Try.ntmps28
  go_wp2_with fail
  go_loopw [1, 5] (fun m i wr => ∃ k : Nat, i = .int .i64 k ∧ m = .int .i64 ((k : Int) + 1) ∧ k ≤ n ∧ Kept w wr) (fun _ i _ => n - (intOf i).toNat)
  case atStart => exact ⟨0, rfl, rfl, Nat.zero_le _, Below.refl _ _⟩
  case round =>
    obtain ⟨k, rfl, rfl, hk, hK⟩ := hrel
    have HK : Hid _ := hK
    by_cases hlt : k < n
    · obtain ⟨b, off, rfl, hc⟩ := (StrA.kept HA.out hK) k _ (marksS_at hlt)
      have q1 : (k : Int) < (n : Int) := by omega
      have q0 : (0 : Int) ≤ (k : Int) := by omega
      obtain ⟨T, hT⟩ : ∃ T, mkT (k + 1) = T := ⟨_, rfl⟩
      rw [hT] at hc
      have C1 : Hid (∀ u, Kept wr.drew u → Calls Try.prog 62 #[.int .i64 ((k : Int) + 1)] u fun e w' => e = .returned (.string T) ∧ Kept u w') := fun u _ => by rw [← hT]; exact markText_ok u (k + 1) (by omega) (by omega)
      have hbl := World.block_lt_of_cell? _ _ hc
      have y0 : ∀ u, Kept wr.drew u → u.cell? ⟨b, off + k, none⟩ = some (.string T) := fun u hu => ((Kept.trans (Below.refl _ wr).drew hu).cell (p := ⟨b, off + k, none⟩) hbl).trans hc
      clear hT hK hc
      go_wp2_with fail
      refine wp_region_seqL (by kernel_rfl) (by kernel_rfl) ?_
      repeat (first
        | (refine SeqL.skip (by rfl) ?_; simp only [Act.put, List.setIfInBounds_toArray, List.set_cons_zero, List.set_cons_succ])
        | (refine SeqL.pure ?_ (by rfl) ?_ ?_; rotate_left; (focus (intro u hu; have y0' := y0 u hu; go_simp; first | done | exact rfl)); simp only [Act.put, List.setIfInBounds_toArray, List.set_cons_zero, List.set_cons_succ])
        | (refine SeqL.call _ _ _ (by rfl) ?_ C1.out ?_; (focus (intro u; go_simp; done)); simp only [Act.put, List.setIfInBounds_toArray, List.set_cons_zero, List.set_cons_succ]))
      refine SeqL.nil ?_
      intro w2 hu2
      have k2 := Kept.trans HK.out (Kept.trans (Below.refl _ wr).drew hu2)
      clear y0 C1 hu2
      go_wp2_with fail
      go_roundw
      case rel => exact ⟨k + 1, by go_num, by go_num, by omega, k2⟩
      case measure => simp [intOf]; omega
    · obtain rfl : k = n := by omega
      clear hK
      go_wp2
      go_ret
      exact ⟨rfl, HK.out⟩
end Go.Proofs.Ytlgaamhjpkkjmaa
