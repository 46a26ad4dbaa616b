/-
  The contract of the laws' helper eqNode: two nodes that are one tree are the same.
  The contracts of the laws' helpers on nodes: szNode.
-/
import Derived.Test.YtlinbkgeahgkjaaGreatDoorNodP
import Derived.Test.YtlinbkgeahgkjaaGreatDoorSeq
namespace Go.Proofs.YtlinbkgeahgkjaaGreatDoor
open Go.RowKit
attribute [local go_sem] Plain.and7

def EqOk (t : Nd) : Prop := ∀ (w : World) (ba bb : Nat) (va vb : Value), NdV w ba t va → NdV w bb t vb →
    Calls Tryz.prog 9 #[va, vb] w fun e w' => e = .returned (.bool true) ∧ Kept w w'
set_option maxHeartbeats 8000000 in
set_option maxRecDepth 100000 in
theorem eqNodeS_of (ks : List Nd) (hS : ∀ x ∈ ks, EqOk x) (w : World) (ba bb : Nat) (ao bo : Option Addr) (ca cb : Nat) (hml : ks.length ≤ maxLen) (hA : ks = [] ∨ ∃ b off, ao = some ⟨b, off, none⟩ ∧ ba ≤ b ∧ NdsV w ba b off ks) (hB : ks = [] ∨ ∃ b off, bo = some ⟨b, off, none⟩ ∧ bb ≤ b ∧ NdsV w bb b off ks) :
    Calls Tryz.prog 8 #[.slice ao ks.length ca, .slice bo ks.length cb] w fun e w' => e = .returned (.bool true) ∧ Kept w w' := by
  have HS : Hid (∀ x ∈ ks, EqOk x) := hS
  have HA : Hid (ks = [] ∨ ∃ b off, ao = some ⟨b, off, none⟩ ∧ ba ≤ b ∧ NdsV w ba b off ks) := hA
  have HB : Hid (ks = [] ∨ ∃ b off, bo = some ⟨b, off, none⟩ ∧ bb ≤ b ∧ NdsV w bb b off ks) := hB
  have hml' : ks.length ≤ 9223372036854775807 := by unfold maxLen at hml; omega
  clear hS hA hB hml
  go_enter Tryz.func8, Tryz.ntmps8
  go_wp2_with fail
  go_loopw [5] (fun iv wr => ∃ (k : Nat), iv = .int .i64 k ∧ k ≤ ks.length ∧ Hid (Kept w wr)) (fun i _ => ks.length - (intOf i).toNat)
  case atStart => exact ⟨0, rfl, Nat.zero_le _, Below.refl _ _⟩
  case round =>
    obtain ⟨k, rfl, hk, hK⟩ := hrel
    by_cases hlt : k < ks.length
    · obtain ⟨x, hx⟩ : ∃ x, ks[k]? = some x := ⟨ks[k], List.getElem?_eq_getElem hlt⟩
      have q1 : (k : Int) < (ks.length : Int) := by omega
      have q2 : (k : Int) + 1 ≤ 9223372036854775807 := by omega
      obtain ⟨b, off, rfl, hbb, hn⟩ : ∃ b off, ao = some ⟨b, off, none⟩ ∧ ba ≤ b ∧ NdsV w ba b off ks := by
        rcases HA.out with h | h
        · rw [h] at hlt; simp at hlt
        · exact h
      obtain ⟨b', off', rfl, hbb', hn'⟩ : ∃ b off, bo = some ⟨b, off, none⟩ ∧ bb ≤ b ∧ NdsV w bb b off ks := by
        rcases HB.out with h | h
        · rw [h] at hlt; simp at hlt
        · exact h
      have kd : Kept wr wr.drew := (Below.refl _ wr).drew
      obtain ⟨d0, d1, d2, d3, g0, g1, g2, g3, hv⟩ := (NdsV.turn (Turn.kept (hK.out.trans kd)) _ _ _ hbb hn).at hx
      obtain ⟨f0, f1, f2, f3, m0, m1, m2, m3, hv'⟩ := (NdsV.turn (Turn.kept (hK.out.trans kd)) _ _ _ hbb' hn').at hx
      have HX : Hid (∀ u, Kept wr.drew u → (u.cell? ⟨b, off + k * 4, none⟩ = some d0 ∧ u.cell? ⟨b, off + k * 4 + 1, none⟩ = some d1 ∧ u.cell? ⟨b, off + k * 4 + 2, none⟩ = some d2 ∧ u.cell? ⟨b, off + k * 4 + 3, none⟩ = some d3) ∧ u.cell? ⟨b', off' + k * 4, none⟩ = some f0 ∧ u.cell? ⟨b', off' + k * 4 + 1, none⟩ = some f1 ∧ u.cell? ⟨b', off' + k * 4 + 2, none⟩ = some f2 ∧ u.cell? ⟨b', off' + k * 4 + 3, none⟩ = some f3) := fun u hu => ⟨⟨kept_cell hu g0, kept_cell hu g1, kept_cell hu g2, kept_cell hu g3⟩, kept_cell hu m0, kept_cell hu m1, kept_cell hu m2, kept_cell hu m3⟩
      have HC : Hid (∀ u, Kept wr.drew u → Calls Tryz.prog 9 #[.agg #[d0, d1, d2, d3], .agg #[f0, f1, f2, f3]] u fun e w' => e = .returned (.bool true) ∧ Kept u w') := fun u hu => HS.out x (List.mem_of_getElem? hx) u ba bb _ _ (hv.kept hu) (hv'.kept hu)
      clear hv hn hv' hn' g0 g1 g2 g3 m0 m1 m2 m3
      go_wp2_with fail
      refine wp_region_seqL (by kernel_rfl) (by kernel_rfl) ?_
      repeat (first
        | (refine SeqL.pure ?_ (by rfl) ?_ ?_; rotate_left; (focus (intro u hu; obtain ⟨⟨y0, y1, y2, y3⟩, y4, y5, y6, y7⟩ := HX.out u hu; go_simp; first | done | exact rfl)); simp only [Act.put, List.setIfInBounds_toArray, List.set_cons_zero, List.set_cons_succ])
        | (refine SeqL.call _ _ _ (by rfl) ?_ HC.out ?_; (focus (intro u; go_simp; done)); simp only [Act.put, List.setIfInBounds_toArray, List.set_cons_zero, List.set_cons_succ]))
      refine SeqL.nil ?_
      intro u hu
      have hK' := hK.out.trans (Kept.trans kd hu)
      clear HX HC
      go_wp2_with fail
      go_roundw
      case rel => exact ⟨k + 1, by go_num, by omega, hK'⟩
      case measure => simp [intOf]; omega
    · have q1 : ¬ (k : Int) < (ks.length : Int) := by omega
      go_wp2_with fail
      go_ret
      exact ⟨rfl, hK.out⟩
set_option maxHeartbeats 8000000 in
set_option maxRecDepth 100000 in
theorem eqNode_ok : ∀ (m : Nat) (t : Nd), t.size ≤ m → EqOk t := by
  intro m
  induction m with
  | zero =>
    intro t ht
    cases t with
    | mk op s n ks => simp [Nd.size] at ht
  | succ m ih =>
    intro t ht w ba bb va vb hva hvb
    cases t with
    | mk op s n ks =>
    rw [NdV] at hva hvb
    obtain ⟨ao, ca, rfl, ⟨hsl, hml⟩, hA⟩ := hva
    obtain ⟨bo, cb, rfl, _, hB⟩ := hvb
    simp only [Nd.size] at ht
    have k0 : Kept w ((w.alloc (.cells #[.int .i64 op, .string s, .int .i64 n, .slice ao ks.length ca] 29)).alloc (.cells #[.int .i64 op, .string s, .int .i64 n, .slice bo ks.length cb] 29)) := (Kept.alloc (Below.refl _ _) _).alloc _
    have hC := eqNodeS_of ks (fun x hx => by
      obtain ⟨k, hk⟩ := List.mem_iff_getElem?.1 hx
      exact ih x (by have := size_mem hk; omega)) _ ba bb ao bo ca cb hml (by
        rcases hA with h | ⟨b, off, e, hb, h⟩
        · exact .inl h
        · exact .inr ⟨b, off, e, hb, NdsV.turn (Turn.kept k0) _ _ _ hb h⟩) (by
        rcases hB with h | ⟨b, off, e, hb, h⟩
        · exact .inl h
        · exact .inr ⟨b, off, e, hb, NdsV.turn (Turn.kept k0) _ _ _ hb h⟩)
    clear ih hA hB
    go_enter Tryz.func9, Tryz.ntmps9
    go_wp2_with (go_at_call 8; refine hC.mono ?_; rintro e wx ⟨rfl, hkx⟩)
    go_ret
    exact ⟨rfl, k0.trans hkx⟩
end Go.Proofs.YtlinbkgeahgkjaaGreatDoor
namespace Go.Proofs.YtlinbkgeahgkjaaGreatDoor
open Go.RowKit
attribute [local go_sem] Plain.and7

/-- What is left of l when n was counted. -/
def leftN (l : Int) (n : Nat) : Int := if (n : Int) ≤ l then l - n else -1
def SzOk (t : Nd) : Prop := ∀ (w : World) (base : Nat) (v : Value) (l : Int), NdV w base t v → 0 ≤ l → l ≤ 1048576 → t.size ≤ t.size →
    Calls Tryz.prog 4 #[v, .int .i64 l] w fun e w' => e = .returned (.int .i64 (leftN l t.bulk)) ∧ Kept w w'
set_option maxHeartbeats 8000000 in
set_option maxRecDepth 100000 in
theorem szNodeS_of (ks : List Nd) (hS : ∀ x ∈ ks, SzOk x) (w : World) (base : Nat) (ao : Option Addr) (cap : Nat) (l : Int) (hml : ks.length ≤ maxLen) (hks : ks = [] ∨ ∃ b off, ao = some ⟨b, off, none⟩ ∧ base ≤ b ∧ NdsV w base b off ks) (h0 : 0 ≤ l) (h1 : l ≤ 1048576) :
    Calls Tryz.prog 13 #[.slice ao ks.length cap, .int .i64 l] w fun e w' => e = .returned (.int .i64 (leftN l (ks.length + bulksN ks))) ∧ Kept w w' := by
  have HS : Hid (∀ x ∈ ks, SzOk x) := hS
  have HKS : Hid (ks = [] ∨ ∃ b off, ao = some ⟨b, off, none⟩ ∧ base ≤ b ∧ NdsV w base b off ks) := hks
  have hml' : ks.length ≤ 9223372036854775807 := by unfold maxLen at hml; omega
  clear hS hks hml
  by_cases hneg : l - (ks.length : Int) < 0
  · have HL : Hid (leftN l (ks.length + bulksN ks) = -1) := by rw [Hid, leftN, if_neg (by omega)]
    go_enter Tryz.func13, Tryz.ntmps13
    go_wp2_with fail
    go_ret
    exact ⟨by rw [HL.out]; rfl, Below.refl _ _⟩
  · go_enter Tryz.func13, Tryz.ntmps13
    go_wp2_with fail
    go_loopw [1, 5] (fun lv iv wr => ∃ (k : Nat), iv = .int .i64 k ∧ k ≤ ks.length ∧ ∃ r, lv = .int .i64 r ∧ Hid (r = l - (ks.length : Int) - ((bulksN (ks.take k) : Nat) : Int) ∧ (ks.length : Int) + ((bulksN (ks.take k) : Nat) : Int) ≤ l) ∧ Hid (Kept w wr)) (fun _ i _ => ks.length - (intOf i).toNat)
    case atStart => exact ⟨0, rfl, Nat.zero_le _, _, rfl, ⟨by simp [bulksN], by simp [bulksN]; omega⟩, Below.refl _ _⟩
    case round =>
      obtain ⟨k, rfl, hk, r0, rfl, hre, hK⟩ := hrel
      obtain ⟨hr00, hle⟩ := hre.out
      by_cases hlt : k < ks.length
      · obtain ⟨x, hx⟩ : ∃ x, ks[k]? = some x := ⟨ks[k], List.getElem?_eq_getElem hlt⟩
        have q1 : (k : Int) < (ks.length : Int) := by omega
        have q2 : (k : Int) + 1 ≤ 9223372036854775807 := by omega
        have q3 : (-9223372036854775808 : Int) ≤ l - (ks.length : Int) := by omega
        have hst := bulks_take hx
        have hsl := bulks_le (ks := ks) (k + 1)
        have HLe : Hid (0 ≤ l - (ks.length : Int) - ((bulksN (ks.take k) : Nat) : Int) ∧ l - (ks.length : Int) - ((bulksN (ks.take k) : Nat) : Int) ≤ 1048576) := ⟨by omega, by omega⟩
        obtain ⟨b, off, rfl, hbb, hn⟩ : ∃ b off, ao = some ⟨b, off, none⟩ ∧ base ≤ b ∧ NdsV w base b off ks := by
          rcases HKS.out with h | h
          · rw [h] at hlt; simp at hlt
          · exact h
        obtain ⟨d0, d1, d2, d3, g0, g1, g2, g3, hv⟩ := (NdsV.turn (Turn.kept hK.out) _ _ _ hbb hn).at hx
        have hC := HS.out x (List.mem_of_getElem? hx) wr base _ r0 hv (by omega) (by omega) (Nat.le_refl _)
        clear hv hn
        by_cases hf : ((x.bulk : Nat) : Int) ≤ r0
        · rw [show leftN r0 x.bulk = r0 - ((x.bulk : Nat) : Int) from if_pos hf] at hC
          obtain ⟨r, hr⟩ : ∃ r, r0 - ((x.bulk : Nat) : Int) = r := ⟨_, rfl⟩
          have HN : Hid (r = l - (ks.length : Int) - ((bulksN (ks.take (k + 1)) : Nat) : Int) ∧ (ks.length : Int) + ((bulksN (ks.take (k + 1)) : Nat) : Int) ≤ l) := ⟨by omega, by omega⟩
          rw [hr] at hC
          have hd : decide (r < 0) = false := decide_eq_false (by omega)
          have HB : Hid (base ≤ b) := hbb
          clear hr hst hsl hf hle hr00 HLe hre HS HKS hneg q3 h0 h1 hml' hbb hx
          go_wp2_with (go_at_call 4; refine hC.mono ?_; rintro e wx ⟨rfl, hkx⟩)
          exact ⟨⟨k + 1, by go_num, by omega, r, rfl, HN.out, hK.out.trans hkx⟩, by simp [intOf]; omega⟩
        · rw [show leftN r0 x.bulk = -1 from if_neg hf] at hC
          have HL : Hid (leftN l (ks.length + bulksN ks) = -1) := by rw [Hid, leftN, if_neg (by omega)]
          clear hf hst hsl hle hr00 HLe
          go_wp2_with (go_at_call 4; refine hC.mono ?_; rintro e wx ⟨rfl, hkx⟩)
          go_ret
          exact ⟨by rw [HL.out]; rfl, hK.out.trans hkx⟩
      · have q1 : ¬ (k : Int) < (ks.length : Int) := by omega
        have HL : Hid (leftN l (ks.length + bulksN ks) = r0) := by
          have e : k = ks.length := by omega
          rw [e, List.take_length] at hle hr00
          rw [Hid]
          rw [leftN, if_pos (by omega)]
          omega
        clear hr00 hle
        go_wp2_with fail
        go_ret
        exact ⟨by rw [HL.out]; rfl, hK.out⟩
set_option maxHeartbeats 8000000 in
set_option maxRecDepth 100000 in
theorem szNode_ok : ∀ (m : Nat) (t : Nd), t.size ≤ m → SzOk t := by
  intro m
  induction m with
  | zero =>
    intro t ht
    cases t with
    | mk op s n ks => simp [Nd.size] at ht
  | succ m ih =>
    intro t ht w base v l hv h0 h1 _
    cases t with
    | mk op s n ks =>
    rw [NdV] at hv
    obtain ⟨ao, cap, rfl, ⟨hsl, hml⟩, hks⟩ := hv
    simp only [Nd.size] at ht
    have hsl' : s.size ≤ 9223372036854775807 := by unfold maxLen at hsl; omega
    have b0 := Cells.new w 24 #[.int .i64 op, .string s, .int .i64 n, .slice ao ks.length cap]
    have k0 : Kept w (w.alloc (.cells #[.int .i64 op, .string s, .int .i64 n, .slice ao ks.length cap] 24)) := Kept.alloc (Below.refl _ _) _
    have hks1 : ks = [] ∨ ∃ b off, ao = some ⟨b, off, none⟩ ∧ base ≤ b ∧ NdsV (w.alloc (.cells #[.int .i64 op, .string s, .int .i64 n, .slice ao ks.length cap] 24)) base b off ks := by
      rcases hks with h | ⟨b, off, e, hb, h⟩
      · exact .inl h
      · exact .inr ⟨b, off, e, hb, NdsV.turn (Turn.kept k0) _ _ _ hb h⟩
    by_cases hneg : l - (s.size : Int) < 0
    · have HL : Hid (leftN l (Nd.mk op s n ks).bulk = -1) := by rw [Hid, leftN, if_neg (by simp only [Nd.bulk]; omega)]
      clear hks hks1 ih
      go_enter Tryz.func4, Tryz.ntmps4
      go_wp2_with fail
      go_ret
      exact ⟨by rw [HL.out]; rfl, k0⟩
    · have hC := szNodeS_of ks (fun x hx => by
        obtain ⟨k, hk⟩ := List.mem_iff_getElem?.1 hx
        exact ih x (by have := size_mem hk; omega)) _ base ao cap (l - (s.size : Int)) hml hks1 (by omega) (by omega)
      have c1 := b0.cell 1
      have c3 := b0.cell 3
      clear ih hks hks1
      by_cases hf : ((ks.length + bulksN ks : Nat) : Int) ≤ l - (s.size : Int)
      · have HL : Hid (leftN l (Nd.mk op s n ks).bulk = l - (s.size : Int) - ((ks.length + bulksN ks : Nat) : Int)) := by
          rw [Hid, leftN, if_pos (by simp only [Nd.bulk]; omega)]
          simp only [Nd.bulk]
          omega
        rw [show leftN (l - (s.size : Int)) (ks.length + bulksN ks) = l - (s.size : Int) - ((ks.length + bulksN ks : Nat) : Int) from if_pos hf] at hC
        rw [HL.out]
        obtain ⟨r, hr⟩ : ∃ r, l - (s.size : Int) - ((ks.length + bulksN ks : Nat) : Int) = r := ⟨_, rfl⟩
        have hr0 : 0 ≤ r := by omega
        rw [hr] at hC ⊢
        clear hr hf HL
        go_enter Tryz.func4, Tryz.ntmps4
        go_wp2_with (go_at_call 13; refine hC.mono ?_; rintro e wx ⟨rfl, hkx⟩)
        go_ret
        exact ⟨rfl, k0.trans hkx⟩
      · have HL : Hid (leftN l (Nd.mk op s n ks).bulk = -1) := by rw [Hid, leftN, if_neg (by simp only [Nd.bulk]; omega)]
        rw [show leftN (l - (s.size : Int)) (ks.length + bulksN ks) = -1 from if_neg hf] at hC
        rw [HL.out]
        clear hf HL
        go_enter Tryz.func4, Tryz.ntmps4
        go_wp2_with (go_at_call 13; refine hC.mono ?_; rintro e wx ⟨rfl, hkx⟩)
        go_ret
        exact ⟨rfl, k0.trans hkx⟩
end Go.Proofs.YtlinbkgeahgkjaaGreatDoor
