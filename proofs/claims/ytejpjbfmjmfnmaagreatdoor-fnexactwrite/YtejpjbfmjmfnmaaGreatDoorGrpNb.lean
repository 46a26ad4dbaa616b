/-
  The contracts of the laws' helpers on nodes: szNode.
  The contract of the laws' helper eqNode: two nodes that are one tree are the same.
  The contract of the laws' helper toNode: the same tree, in memory of its own.
-/
import Derived.OwnWalk
import Derived.Test.YtejpjbfmjmfnmaaGreatDoorNodP
import Derived.Test.YtejpjbfmjmfnmaaGreatDoorSeq
namespace Go.Proofs.YtejpjbfmjmfnmaaGreatDoor
open Go.RowKit
attribute [local go_sem] Plain.and7

/-- What is left of l when n was counted. -/
def leftN (l : Int) (n : Nat) : Int := if (n : Int) ≤ l then l - n else -1
def SzOk (t : Nd) : Prop := ∀ (w : World) (base : Nat) (v : Value) (l : Int), NdV w base t v → 0 ≤ l → l ≤ 1048576 → t.size ≤ t.size →
    Calls Tryz.prog 5 #[v, .int .i64 l] w fun e w' => e = .returned (.int .i64 (leftN l t.bulk)) ∧ Kept w w'
set_option maxHeartbeats 8000000 in
set_option maxRecDepth 100000 in
theorem szNodeS_of (ks : List Nd) (hS : ∀ x ∈ ks, SzOk x) (w : World) (base : Nat) (ao : Option Addr) (cap : Nat) (l : Int) (hml : ks.length ≤ maxLen) (hks : ks = [] ∨ ∃ b off, ao = some ⟨b, off, none⟩ ∧ base ≤ b ∧ NdsV w base b off ks) (h0 : 0 ≤ l) (h1 : l ≤ 1048576) :
    Calls Tryz.prog 16 #[.slice ao ks.length cap, .int .i64 l] w fun e w' => e = .returned (.int .i64 (leftN l (ks.length + bulksN ks))) ∧ Kept w w' := by
  have HS : Hid (∀ x ∈ ks, SzOk x) := hS
  have HKS : Hid (ks = [] ∨ ∃ b off, ao = some ⟨b, off, none⟩ ∧ base ≤ b ∧ NdsV w base b off ks) := hks
  have hml' : ks.length ≤ 9223372036854775807 := by unfold maxLen at hml; omega
  clear hS hks hml
  by_cases hneg : l - (ks.length : Int) < 0
  · have HL : Hid (leftN l (ks.length + bulksN ks) = -1) := by rw [Hid, leftN, if_neg (by omega)]
    go_enter Tryz.func16, Tryz.ntmps16
    go_wp2_with fail
    go_ret
    exact ⟨by rw [HL.out]; rfl, Below.refl _ _⟩
  · go_enter Tryz.func16, Tryz.ntmps16
    go_wp2_with fail
    go_loopw [1, 5] (fun lv iv wr => ∃ (k : Nat), iv = .int .i64 k ∧ k ≤ ks.length ∧ ∃ r, lv = .int .i64 r ∧ Hid (r = l - (ks.length : Int) - ((bulksN (ks.take k) : Nat) : Int) ∧ (ks.length : Int) + ((bulksN (ks.take k) : Nat) : Int) ≤ l) ∧ Hid (Kept w wr)) (fun _ i _ => ks.length - (intOf i).toNat)
    case atStart => exact ⟨0, rfl, Nat.zero_le _, _, rfl, ⟨by simp [bulksN], by simp [bulksN]; omega⟩, Below.refl _ _⟩
    case round =>
      obtain ⟨k, rfl, hk, r0, rfl, hre, hK⟩ := hrel
      obtain ⟨hr00, hle⟩ := hre.out
      by_cases hlt : k < ks.length
      · obtain ⟨x, hx⟩ : ∃ x, ks[k]? = some x := ⟨ks[k], List.getElem?_eq_getElem hlt⟩
        have q1 : (k : Int) < (ks.length : Int) := by omega
        have q2 : (k : Int) + 1 ≤ 9223372036854775807 := by omega
        have q3 : (-9223372036854775808 : Int) ≤ l - (ks.length : Int) := by omega
        have hst := bulks_take hx
        have hsl := bulks_le (ks := ks) (k + 1)
        have HLe : Hid (0 ≤ l - (ks.length : Int) - ((bulksN (ks.take k) : Nat) : Int) ∧ l - (ks.length : Int) - ((bulksN (ks.take k) : Nat) : Int) ≤ 1048576) := ⟨by omega, by omega⟩
        obtain ⟨b, off, rfl, hbb, hn⟩ : ∃ b off, ao = some ⟨b, off, none⟩ ∧ base ≤ b ∧ NdsV w base b off ks := by
          rcases HKS.out with h | h
          · rw [h] at hlt; simp at hlt
          · exact h
        obtain ⟨d0, d1, d2, d3, g0, g1, g2, g3, hv⟩ := (NdsV.turn (Turn.kept hK.out) _ _ _ hbb hn).at hx
        have hC := HS.out x (List.mem_of_getElem? hx) wr base _ r0 hv (by omega) (by omega) (Nat.le_refl _)
        clear hv hn
        by_cases hf : ((x.bulk : Nat) : Int) ≤ r0
        · rw [show leftN r0 x.bulk = r0 - ((x.bulk : Nat) : Int) from if_pos hf] at hC
          obtain ⟨r, hr⟩ : ∃ r, r0 - ((x.bulk : Nat) : Int) = r := ⟨_, rfl⟩
          have HN : Hid (r = l - (ks.length : Int) - ((bulksN (ks.take (k + 1)) : Nat) : Int) ∧ (ks.length : Int) + ((bulksN (ks.take (k + 1)) : Nat) : Int) ≤ l) := ⟨by omega, by omega⟩
          rw [hr] at hC
          have hd : decide (r < 0) = false := decide_eq_false (by omega)
          have HB : Hid (base ≤ b) := hbb
          clear hr hst hsl hf hle hr00 HLe hre HS HKS hneg q3 h0 h1 hml' hbb hx
          go_wp2_with (go_at_call 5; refine hC.mono ?_; rintro e wx ⟨rfl, hkx⟩)
          exact ⟨⟨k + 1, by go_num, by omega, r, rfl, HN.out, hK.out.trans hkx⟩, by simp [intOf]; omega⟩
        · rw [show leftN r0 x.bulk = -1 from if_neg hf] at hC
          have HL : Hid (leftN l (ks.length + bulksN ks) = -1) := by rw [Hid, leftN, if_neg (by omega)]
          clear hf hst hsl hle hr00 HLe
          go_wp2_with (go_at_call 5; refine hC.mono ?_; rintro e wx ⟨rfl, hkx⟩)
          go_ret
          exact ⟨by rw [HL.out]; rfl, hK.out.trans hkx⟩
      · have q1 : ¬ (k : Int) < (ks.length : Int) := by omega
        have HL : Hid (leftN l (ks.length + bulksN ks) = r0) := by
          have e : k = ks.length := by omega
          rw [e, List.take_length] at hle hr00
          rw [Hid]
          rw [leftN, if_pos (by omega)]
          omega
        clear hr00 hle
        go_wp2_with fail
        go_ret
        exact ⟨by rw [HL.out]; rfl, hK.out⟩
set_option maxHeartbeats 8000000 in
set_option maxRecDepth 100000 in
theorem szNode_ok : ∀ (m : Nat) (t : Nd), t.size ≤ m → SzOk t := by
  intro m
  induction m with
  | zero =>
    intro t ht
    cases t with
    | mk op s n ks => simp [Nd.size] at ht
  | succ m ih =>
    intro t ht w base v l hv h0 h1 _
    cases t with
    | mk op s n ks =>
    rw [NdV] at hv
    obtain ⟨ao, cap, rfl, ⟨hsl, hml⟩, hks⟩ := hv
    simp only [Nd.size] at ht
    have hsl' : s.size ≤ 9223372036854775807 := by unfold maxLen at hsl; omega
    have b0 := Cells.new w 24 #[.int .i64 op, .string s, .int .i64 n, .slice ao ks.length cap]
    have k0 : Kept w (w.alloc (.cells #[.int .i64 op, .string s, .int .i64 n, .slice ao ks.length cap] 24)) := Kept.alloc (Below.refl _ _) _
    have hks1 : ks = [] ∨ ∃ b off, ao = some ⟨b, off, none⟩ ∧ base ≤ b ∧ NdsV (w.alloc (.cells #[.int .i64 op, .string s, .int .i64 n, .slice ao ks.length cap] 24)) base b off ks := by
      rcases hks with h | ⟨b, off, e, hb, h⟩
      · exact .inl h
      · exact .inr ⟨b, off, e, hb, NdsV.turn (Turn.kept k0) _ _ _ hb h⟩
    by_cases hneg : l - (s.size : Int) < 0
    · have HL : Hid (leftN l (Nd.mk op s n ks).bulk = -1) := by rw [Hid, leftN, if_neg (by simp only [Nd.bulk]; omega)]
      clear hks hks1 ih
      go_enter Tryz.func5, Tryz.ntmps5
      go_wp2_with fail
      go_ret
      exact ⟨by rw [HL.out]; rfl, k0⟩
    · have hC := szNodeS_of ks (fun x hx => by
        obtain ⟨k, hk⟩ := List.mem_iff_getElem?.1 hx
        exact ih x (by have := size_mem hk; omega)) _ base ao cap (l - (s.size : Int)) hml hks1 (by omega) (by omega)
      have c1 := b0.cell 1
      have c3 := b0.cell 3
      clear ih hks hks1
      by_cases hf : ((ks.length + bulksN ks : Nat) : Int) ≤ l - (s.size : Int)
      · have HL : Hid (leftN l (Nd.mk op s n ks).bulk = l - (s.size : Int) - ((ks.length + bulksN ks : Nat) : Int)) := by
          rw [Hid, leftN, if_pos (by simp only [Nd.bulk]; omega)]
          simp only [Nd.bulk]
          omega
        rw [show leftN (l - (s.size : Int)) (ks.length + bulksN ks) = l - (s.size : Int) - ((ks.length + bulksN ks : Nat) : Int) from if_pos hf] at hC
        rw [HL.out]
        obtain ⟨r, hr⟩ : ∃ r, l - (s.size : Int) - ((ks.length + bulksN ks : Nat) : Int) = r := ⟨_, rfl⟩
        have hr0 : 0 ≤ r := by omega
        rw [hr] at hC ⊢
        clear hr hf HL
        go_enter Tryz.func5, Tryz.ntmps5
        go_wp2_with (go_at_call 16; refine hC.mono ?_; rintro e wx ⟨rfl, hkx⟩)
        go_ret
        exact ⟨rfl, k0.trans hkx⟩
      · have HL : Hid (leftN l (Nd.mk op s n ks).bulk = -1) := by rw [Hid, leftN, if_neg (by simp only [Nd.bulk]; omega)]
        rw [show leftN (l - (s.size : Int)) (ks.length + bulksN ks) = -1 from if_neg hf] at hC
        rw [HL.out]
        clear hf HL
        go_enter Tryz.func5, Tryz.ntmps5
        go_wp2_with (go_at_call 16; refine hC.mono ?_; rintro e wx ⟨rfl, hkx⟩)
        go_ret
        exact ⟨rfl, k0.trans hkx⟩
end Go.Proofs.YtejpjbfmjmfnmaaGreatDoor
namespace Go.Proofs.YtejpjbfmjmfnmaaGreatDoor
open Go.RowKit
attribute [local go_sem] Plain.and7

def EqOk (t : Nd) : Prop := ∀ (w : World) (ba bb : Nat) (va vb : Value), NdV w ba t va → NdV w bb t vb →
    Calls Tryz.prog 9 #[va, vb] w fun e w' => e = .returned (.bool true) ∧ Kept w w'
set_option maxHeartbeats 8000000 in
set_option maxRecDepth 100000 in
theorem eqNodeS_of (ks : List Nd) (hS : ∀ x ∈ ks, EqOk x) (w : World) (ba bb : Nat) (ao bo : Option Addr) (ca cb : Nat) (hml : ks.length ≤ maxLen) (hA : ks = [] ∨ ∃ b off, ao = some ⟨b, off, none⟩ ∧ ba ≤ b ∧ NdsV w ba b off ks) (hB : ks = [] ∨ ∃ b off, bo = some ⟨b, off, none⟩ ∧ bb ≤ b ∧ NdsV w bb b off ks) :
    Calls Tryz.prog 12 #[.slice ao ks.length ca, .slice bo ks.length cb] w fun e w' => e = .returned (.bool true) ∧ Kept w w' := by
  have HS : Hid (∀ x ∈ ks, EqOk x) := hS
  have HA : Hid (ks = [] ∨ ∃ b off, ao = some ⟨b, off, none⟩ ∧ ba ≤ b ∧ NdsV w ba b off ks) := hA
  have HB : Hid (ks = [] ∨ ∃ b off, bo = some ⟨b, off, none⟩ ∧ bb ≤ b ∧ NdsV w bb b off ks) := hB
  have hml' : ks.length ≤ 9223372036854775807 := by unfold maxLen at hml; omega
  clear hS hA hB hml
  go_enter Tryz.func12, Tryz.ntmps12
  go_wp2_with fail
  go_loopw [5] (fun iv wr => ∃ (k : Nat), iv = .int .i64 k ∧ k ≤ ks.length ∧ Hid (Kept w wr)) (fun i _ => ks.length - (intOf i).toNat)
  case atStart => exact ⟨0, rfl, Nat.zero_le _, Below.refl _ _⟩
  case round =>
    obtain ⟨k, rfl, hk, hK⟩ := hrel
    by_cases hlt : k < ks.length
    · obtain ⟨x, hx⟩ : ∃ x, ks[k]? = some x := ⟨ks[k], List.getElem?_eq_getElem hlt⟩
      have q1 : (k : Int) < (ks.length : Int) := by omega
      have q2 : (k : Int) + 1 ≤ 9223372036854775807 := by omega
      obtain ⟨b, off, rfl, hbb, hn⟩ : ∃ b off, ao = some ⟨b, off, none⟩ ∧ ba ≤ b ∧ NdsV w ba b off ks := by
        rcases HA.out with h | h
        · rw [h] at hlt; simp at hlt
        · exact h
      obtain ⟨b', off', rfl, hbb', hn'⟩ : ∃ b off, bo = some ⟨b, off, none⟩ ∧ bb ≤ b ∧ NdsV w bb b off ks := by
        rcases HB.out with h | h
        · rw [h] at hlt; simp at hlt
        · exact h
      have kd : Kept wr wr.drew := (Below.refl _ wr).drew
      obtain ⟨d0, d1, d2, d3, g0, g1, g2, g3, hv⟩ := (NdsV.turn (Turn.kept (hK.out.trans kd)) _ _ _ hbb hn).at hx
      obtain ⟨f0, f1, f2, f3, m0, m1, m2, m3, hv'⟩ := (NdsV.turn (Turn.kept (hK.out.trans kd)) _ _ _ hbb' hn').at hx
      have HX : Hid (∀ u, Kept wr.drew u → (u.cell? ⟨b, off + k * 4, none⟩ = some d0 ∧ u.cell? ⟨b, off + k * 4 + 1, none⟩ = some d1 ∧ u.cell? ⟨b, off + k * 4 + 2, none⟩ = some d2 ∧ u.cell? ⟨b, off + k * 4 + 3, none⟩ = some d3) ∧ u.cell? ⟨b', off' + k * 4, none⟩ = some f0 ∧ u.cell? ⟨b', off' + k * 4 + 1, none⟩ = some f1 ∧ u.cell? ⟨b', off' + k * 4 + 2, none⟩ = some f2 ∧ u.cell? ⟨b', off' + k * 4 + 3, none⟩ = some f3) := fun u hu => ⟨⟨kept_cell hu g0, kept_cell hu g1, kept_cell hu g2, kept_cell hu g3⟩, kept_cell hu m0, kept_cell hu m1, kept_cell hu m2, kept_cell hu m3⟩
      have HC : Hid (∀ u, Kept wr.drew u → Calls Tryz.prog 9 #[.agg #[d0, d1, d2, d3], .agg #[f0, f1, f2, f3]] u fun e w' => e = .returned (.bool true) ∧ Kept u w') := fun u hu => HS.out x (List.mem_of_getElem? hx) u ba bb _ _ (hv.kept hu) (hv'.kept hu)
      clear hv hn hv' hn' g0 g1 g2 g3 m0 m1 m2 m3
      go_wp2_with fail
      refine wp_region_seqL (by kernel_rfl) (by kernel_rfl) ?_
      repeat (first
        | (refine SeqL.pure ?_ (by rfl) ?_ ?_; rotate_left; (focus (intro u hu; obtain ⟨⟨y0, y1, y2, y3⟩, y4, y5, y6, y7⟩ := HX.out u hu; go_simp; first | done | exact rfl)); simp only [Act.put, List.setIfInBounds_toArray, List.set_cons_zero, List.set_cons_succ])
        | (refine SeqL.call _ _ _ (by rfl) ?_ HC.out ?_; (focus (intro u; go_simp; done)); simp only [Act.put, List.setIfInBounds_toArray, List.set_cons_zero, List.set_cons_succ]))
      refine SeqL.nil ?_
      intro u hu
      have hK' := hK.out.trans (Kept.trans kd hu)
      clear HX HC
      go_wp2_with fail
      go_roundw
      case rel => exact ⟨k + 1, by go_num, by omega, hK'⟩
      case measure => simp [intOf]; omega
    · have q1 : ¬ (k : Int) < (ks.length : Int) := by omega
      go_wp2_with fail
      go_ret
      exact ⟨rfl, hK.out⟩
set_option maxHeartbeats 8000000 in
set_option maxRecDepth 100000 in
theorem eqNode_ok : ∀ (m : Nat) (t : Nd), t.size ≤ m → EqOk t := by
  intro m
  induction m with
  | zero =>
    intro t ht
    cases t with
    | mk op s n ks => simp [Nd.size] at ht
  | succ m ih =>
    intro t ht w ba bb va vb hva hvb
    cases t with
    | mk op s n ks =>
    rw [NdV] at hva hvb
    obtain ⟨ao, ca, rfl, ⟨hsl, hml⟩, hA⟩ := hva
    obtain ⟨bo, cb, rfl, _, hB⟩ := hvb
    simp only [Nd.size] at ht
    have k0 : Kept w ((w.alloc (.cells #[.int .i64 op, .string s, .int .i64 n, .slice ao ks.length ca] 29)).alloc (.cells #[.int .i64 op, .string s, .int .i64 n, .slice bo ks.length cb] 29)) := (Kept.alloc (Below.refl _ _) _).alloc _
    have hC := eqNodeS_of ks (fun x hx => by
      obtain ⟨k, hk⟩ := List.mem_iff_getElem?.1 hx
      exact ih x (by have := size_mem hk; omega)) _ ba bb ao bo ca cb hml (by
        rcases hA with h | ⟨b, off, e, hb, h⟩
        · exact .inl h
        · exact .inr ⟨b, off, e, hb, NdsV.turn (Turn.kept k0) _ _ _ hb h⟩) (by
        rcases hB with h | ⟨b, off, e, hb, h⟩
        · exact .inl h
        · exact .inr ⟨b, off, e, hb, NdsV.turn (Turn.kept k0) _ _ _ hb h⟩)
    clear ih hA hB
    go_enter Tryz.func9, Tryz.ntmps9
    go_wp2_with (go_at_call 12; refine hC.mono ?_; rintro e wx ⟨rfl, hkx⟩)
    go_ret
    exact ⟨rfl, k0.trans hkx⟩
end Go.Proofs.YtejpjbfmjmfnmaaGreatDoor
namespace Go.Proofs.YtejpjbfmjmfnmaaGreatDoor
open Go.RowKit
attribute [local go_sem] Plain.and7

theorem infoNd : (Tryz.prog.info? 29).map (fun i => (i.zero, i.size, i.bytes)) = some (some (.agg #[.int .i64 0, .string ⟨#[]⟩, .int .i64 0, .slice none 0 0]), 4, 56) := by kernel_rfl
def ToOk (t : Nd) : Prop := ∀ (w : World) (base : Nat) (v : Value), NdV w base t v → t.bulk ≤ 1048576 →
    Calls Tryz.prog 7 #[v] w fun e w' => ∃ v', e = .returned v' ∧ NdV w' w.heap.size t v' ∧ Kept w w'
theorem Kept.set4 {w W : World} (k : Kept w W) {g i : Nat} (hg : w.heap.size ≤ g) (a b c d : Value) : Kept w ((((W.setCell ⟨g, i, none⟩ a).setCell ⟨g, i + 1, none⟩ b).setCell ⟨g, i + 2, none⟩ c).setCell ⟨g, i + 3, none⟩ d) := (((k.set hg a).set hg b).set hg c).set hg d
theorem Cells.at4 {W : World} {B i : Nat} {t : TypeId} {cs : Array Value} (h : Cells W B t cs) (hi : i < cs.size) : W.cell? ⟨B, i, none⟩ = some cs[i] := by
  have hh : W.heap[B]? = some _ := h
  simp [World.cell?, hh, hi]
/-- The cells of a row whose first k nodes are told. -/
def RowN (W : World) (g : Nat) (ks : List Nd) (k : Nat) : Prop := ∃ cs, Cells W g 29 cs ∧ cs.size = ks.length * 4 ∧ ∀ j t, j < k → ks[j]? = some t → ∃ c0 c1 c2 c3, cs[j * 4]? = some c0 ∧ cs[j * 4 + 1]? = some c1 ∧ cs[j * 4 + 2]? = some c2 ∧ cs[j * 4 + 3]? = some c3 ∧ NdV W (g + 1) t (.agg #[c0, c1, c2, c3])
theorem RowN.on {W W' : World} {g : Nat} {ks : List Nd} {k : Nat} (h : RowN W g ks k) (hk : Kept W W') : RowN W' g ks k := by
  obtain ⟨cs, h1, h2, h3⟩ := h
  refine ⟨cs, h1.kept hk, h2, fun j t hj ht => ?_⟩
  obtain ⟨c0, c1, c2, c3, e0, e1, e2, e3, hv⟩ := h3 j t hj ht
  exact ⟨c0, c1, c2, c3, e0, e1, e2, e3, hv.kept hk⟩
theorem RowN.next {W : World} {g : Nat} {ks : List Nd} {k : Nat} {x : Nd} {d0 d1 d2 d3 : Value} (h : RowN W g ks k) (hx : ks[k]? = some x) (hv : NdV W (g + 1) x (.agg #[d0, d1, d2, d3])) :
    RowN ((((W.setCell ⟨g, k * 4, none⟩ d0).setCell ⟨g, k * 4 + 1, none⟩ d1).setCell ⟨g, k * 4 + 2, none⟩ d2).setCell ⟨g, k * 4 + 3, none⟩ d3) g ks (k + 1) := by
  obtain ⟨cs, h1, h2, h3⟩ := h
  have hlt : k < ks.length := (List.getElem?_eq_some_iff.1 hx).1
  have low : ∀ {t : Nd} {v : Value}, NdV W (g + 1) t v → NdV ((((W.setCell ⟨g, k * 4, none⟩ d0).setCell ⟨g, k * 4 + 1, none⟩ d1).setCell ⟨g, k * 4 + 2, none⟩ d2).setCell ⟨g, k * 4 + 3, none⟩ d3) (g + 1) t v := fun h => (((h.low (by omega)).low (by omega)).low (by omega)).low (by omega)
  refine ⟨_, (((h1.set (k * 4) d0).set (k * 4 + 1) d1).set (k * 4 + 2) d2).set (k * 4 + 3) d3, by simp [h2], fun j t hj ht => ?_⟩
  by_cases hjk : j = k
  · subst hjk
    rw [hx] at ht
    injection ht with ht
    subst ht
    refine ⟨d0, d1, d2, d3, ?_, ?_, ?_, ?_, low hv⟩ <;> simp [Array.getElem?_setIfInBounds, h2] <;> omega
  · obtain ⟨c0, c1, c2, c3, e0, e1, e2, e3, hv2⟩ := h3 j t (by omega) ht
    refine ⟨c0, c1, c2, c3, ?_, ?_, ?_, ?_, low hv2⟩
    · rw [Array.getElem?_setIfInBounds_ne (by omega), Array.getElem?_setIfInBounds_ne (by omega), Array.getElem?_setIfInBounds_ne (by omega), Array.getElem?_setIfInBounds_ne (by omega)]; exact e0
    · rw [Array.getElem?_setIfInBounds_ne (by omega), Array.getElem?_setIfInBounds_ne (by omega), Array.getElem?_setIfInBounds_ne (by omega), Array.getElem?_setIfInBounds_ne (by omega)]; exact e1
    · rw [Array.getElem?_setIfInBounds_ne (by omega), Array.getElem?_setIfInBounds_ne (by omega), Array.getElem?_setIfInBounds_ne (by omega), Array.getElem?_setIfInBounds_ne (by omega)]; exact e2
    · rw [Array.getElem?_setIfInBounds_ne (by omega), Array.getElem?_setIfInBounds_ne (by omega), Array.getElem?_setIfInBounds_ne (by omega), Array.getElem?_setIfInBounds_ne (by omega)]; exact e3
theorem RowN.done {W : World} {g base : Nat} {ks : List Nd} (h : RowN W g ks ks.length) (hb : base ≤ g) : NdsV W base g 0 ks := by
  obtain ⟨cs, h1, h2, h3⟩ := h
  refine NdsV.of (fun _ => ⟨cs, _, h1⟩) (fun k t e => ?_)
  obtain ⟨c0, c1, c2, c3, e0, e1, e2, e3, hv⟩ := h3 k t (List.getElem?_eq_some_iff.1 e).1 e
  have cell : ∀ i c, cs[i]? = some c → W.cell? ⟨g, i, none⟩ = some c := fun i c hc => by
    have hh : W.heap[g]? = some _ := h1
    simp [World.cell?, hh, hc]
  simp only [Nat.zero_add]
  exact ⟨c0, c1, c2, c3, cell _ _ e0, cell _ _ e1, cell _ _ e2, cell _ _ e3, NdV.mono (by omega) _ _ hv⟩
set_option maxHeartbeats 8000000 in
set_option maxRecDepth 100000 in
theorem toNodeS_of (ks : List Nd) (hS : ∀ x ∈ ks, ToOk x) (w : World) (base : Nat) (ao : Option Addr) (cap : Nat) (hbk : ks.length + bulksN ks ≤ 1048576) (hks : ks = [] ∨ ∃ b off, ao = some ⟨b, off, none⟩ ∧ base ≤ b ∧ NdsV w base b off ks) :
    Calls Tryz.prog 19 #[.slice ao ks.length cap] w fun e w' => e = .returned (.slice (some ⟨w.heap.size, 0, none⟩) ks.length ks.length) ∧ NdsV w' w.heap.size w.heap.size 0 ks ∧ Kept w w' := by
  obtain ⟨i0, hi, hz0, hz1, hz2⟩ := info_parts infoNd
  have HS : Hid (∀ x ∈ ks, ToOk x) := hS
  have HKS : Hid (ks = [] ∨ ∃ b off, ao = some ⟨b, off, none⟩ ∧ base ≤ b ∧ NdsV w base b off ks) := hks
  clear hS hks
  go_enter Tryz.func19, Tryz.ntmps19
  go_wp2_with (at_make; refine wpList_make_full _ rfl _ _ 27 rfl w.heap.size 29 i0 (.agg #[.int .i64 0, .string ⟨#[]⟩, .int .i64 0, .slice none 0 0]) 4 Tryz.underlying27 hi hz0 hz1 .i64 .i64 _ _ ks.length rfl rfl rfl rfl (by rw [hz2]; omega) (by unfold maxLen; omega) (Nat.le_refl _) ?_; intro w1 hown hgrow)
  have hR : RowN w1 w.heap.size ks 0 := by
    obtain ⟨_, ⟨e, _⟩ | ⟨g', cap', cur, e, hb, hg, h1, h2, h3, h4⟩⟩ := hown
    · cases e
    · simp at e
      obtain ⟨rfl, rfl⟩ := e
      exact ⟨cur, hg, h3, fun j t hj => by omega⟩
  have hK : Kept w w1 := (Below.refl _ w).grown hgrow (Nat.le_refl _) (by simp)
  have HR0 : Hid _ := hR
  have HK0 : Hid (Kept w w1) := hK
  clear hown hgrow hR hK
  go_loopw [4] (fun iv wr => ∃ (k : Nat), iv = .int .i64 k ∧ k ≤ ks.length ∧ Hid (RowN wr w.heap.size ks k) ∧ Hid (Kept w wr)) (fun i _ => ks.length - (intOf i).toNat)
  case atStart => exact ⟨0, rfl, Nat.zero_le _, HR0.out, HK0.out⟩
  case round =>
    obtain ⟨k, rfl, hk, hR, hK⟩ := hrel
    clear HR0 HK0
    by_cases hlt : k < ks.length
    · obtain ⟨x, hx⟩ : ∃ x, ks[k]? = some x := ⟨ks[k], List.getElem?_eq_getElem hlt⟩
      have q1 : (k : Int) < (ks.length : Int) := by omega
      have hst := bulks_take hx
      have hsl := bulks_le (ks := ks) (k + 1)
      obtain ⟨b, off, rfl, hbb, hn⟩ : ∃ b off, ao = some ⟨b, off, none⟩ ∧ base ≤ b ∧ NdsV w base b off ks := by
        rcases HKS.out with h | h
        · rw [h] at hlt; simp at hlt
        · exact h
      obtain ⟨d0, d1, d2, d3, g0, g1, g2, g3, hv⟩ := (NdsV.turn (Turn.kept hK.out) _ _ _ hbb hn).at hx
      have hC := HS.out x (List.mem_of_getElem? hx) wr base _ hv (by omega)
      have HX : Hid (ks[k]? = some x) := hx
      clear hv hn hst hsl hx
      go_wp2_with (go_at_call 7; refine hC.mono ?_; rintro e wx ⟨vx, rfl, hvx, hkx⟩; obtain ⟨f0, f1, f2, fo, fl, fc, rfl⟩ := hvx.four; obtain ⟨cs, hcs, hcz, _⟩ := id (hR.out.on hkx); have z0 := hcs.at4 (i := k * 4) (by omega); have z1 := hcs.at4 (i := k * 4 + 1) (by omega); have z2 := hcs.at4 (i := k * 4 + 2) (by omega); have z3 := hcs.at4 (i := k * 4 + 3) (by omega); have y0 := hcs.frozen (k * 4); have y1 := hcs.frozen (k * 4 + 1); have y2 := hcs.frozen (k * 4 + 2); have y3 := hcs.frozen (k * 4 + 3))
      have hN := RowN.next (hR.out.on hkx) HX.out (NdV.mono (by have := hR.out; obtain ⟨_, hh, _⟩ := this; exact hh.lt) _ _ hvx)
      go_roundw
      case rel => exact ⟨k + 1, by go_num, by omega, hN, (hK.out.trans hkx).set4 (by simp) _ _ _ _⟩
      case measure => simp [intOf]; omega
    · have q1 : ¬ (k : Int) < (ks.length : Int) := by omega
      have HR : Hid (NdsV wr w.heap.size w.heap.size 0 ks) := RowN.done (by have := hR.out; rwa [show k = ks.length by omega] at this) (Nat.le_refl _)
      go_wp2_with fail
      go_ret
      exact ⟨rfl, HR.out, hK.out⟩
set_option maxHeartbeats 8000000 in
set_option maxRecDepth 100000 in
theorem toNode_ok : ∀ (m : Nat) (t : Nd), t.size ≤ m → ToOk t := by
  intro m
  induction m with
  | zero =>
    intro t ht
    cases t with
    | mk op s n ks => simp [Nd.size] at ht
  | succ m ih =>
    intro t ht w base v hv hbk
    cases t with
    | mk op s n ks =>
    rw [NdV] at hv
    obtain ⟨ao, cap, rfl, hml, hks⟩ := hv
    simp only [Nd.size] at ht
    simp only [Nd.bulk] at hbk
    have HC : Hid (∀ u, Kept w u → Calls Tryz.prog 19 #[.slice ao ks.length cap] u fun e w' => e = .returned (.slice (some ⟨u.heap.size, 0, none⟩) ks.length ks.length) ∧ NdsV w' u.heap.size u.heap.size 0 ks ∧ Kept u w') := fun u hu => toNodeS_of ks (fun x hx => by
      obtain ⟨k, hk⟩ := List.mem_iff_getElem?.1 hx
      exact ih x (by have := size_mem hk; omega)) u base ao cap (by omega) (by
        rcases hks with h | ⟨b, off, e, hb, h⟩
        · exact .inl h
        · exact .inr ⟨b, off, e, hb, NdsV.turn (Turn.kept hu) _ _ _ hb h⟩)
    have HML : Hid (s.size ≤ maxLen ∧ ks.length ≤ maxLen) := hml
    clear ih hks hml
    go_enter Tryz.func7, Tryz.ntmps7
    have k3 : Kept w (((w.alloc (.cells #[.int .i64 op, .string s, .int .i64 n, .slice ao ks.length cap] 24)).alloc (.cells #[.int .i64 0, .string ⟨#[]⟩, .int .i64 0, .slice none 0 0] 29)).alloc (.cells #[.int .i64 op, .string s, .int .i64 n, .slice none 0 0] 29)) := ((Kept.alloc (Below.refl _ _) _).alloc _).alloc _
    have y1 := (Cells.new (w.alloc (.cells #[.int .i64 op, .string s, .int .i64 n, .slice ao ks.length cap] 24)) 29 #[.int .i64 0, .string ⟨#[]⟩, .int .i64 0, .slice none 0 0]).alloc (.cells #[.int .i64 op, .string s, .int .i64 n, .slice none 0 0] 29)
    have y2 := Cells.new ((w.alloc (.cells #[.int .i64 op, .string s, .int .i64 n, .slice ao ks.length cap] 24)).alloc (.cells #[.int .i64 0, .string ⟨#[]⟩, .int .i64 0, .slice none 0 0] 29)) 29 #[.int .i64 op, .string s, .int .i64 n, .slice none 0 0]
    have hs3 : (((w.alloc (.cells #[.int .i64 op, .string s, .int .i64 n, .slice ao ks.length cap] 24)).alloc (.cells #[.int .i64 0, .string ⟨#[]⟩, .int .i64 0, .slice none 0 0] 29)).alloc (.cells #[.int .i64 op, .string s, .int .i64 n, .slice none 0 0] 29)).heap.size = w.heap.size + 3 := by simp
    simp only [World.size_alloc] at y1 y2
    have hC := HC.out _ k3
    rw [hs3] at hC
    go_wp2_with fail
    refine hC.mono ?_
    rintro e w1 ⟨rfl, hN, hk1⟩
    have x1 := y1.kept hk1
    have x2 := y2.kept hk1
    have c0 := x2.cell 0; have c1 := x2.cell 1; have c2 := x2.cell 2; have c3 := x2.cell 3; have f0 := x2.frozen 0; have f1 := x2.frozen 1; have f2 := x2.frozen 2; have f3 := x2.frozen 3; have l2 := x2.lt
    have d0 := x1.cell 0; have d1 := x1.cell 1; have d2 := x1.cell 2; have d3 := x1.cell 3; have g0 := x1.frozen 0; have g1 := x1.frozen 1; have g2 := x1.frozen 2; have g3 := x1.frozen 3; have l1 := x1.lt
    have HN : Hid _ := hN
    clear hC HC y1 y2 hN
    go_wp2_with fail
    have z := ((((x1.other (p := ⟨w.heap.size + 1 + 1, 3, none⟩) (by simp) (.slice (some ⟨w.heap.size + 3, 0, none⟩) ks.length ks.length)).set 0 (.int .i64 op)).set 1 (.string s)).set 2 (.int .i64 n)).set 3 (.slice (some ⟨w.heap.size + 3, 0, none⟩) ks.length ks.length)
    have z0 := z.cell 0
    have z1 := z.cell 1
    have z2 := z.cell 2
    have z3 := z.cell 3
    refine bodyPost_ret (v := .agg #[.int .i64 op, .string s, .int .i64 n, .slice (some ⟨w.heap.size + 3, 0, none⟩) ks.length ks.length]) (by simp [results, Tryz.results7, go_sem, z0, z1, z2, z3]) rfl ⟨_, rfl, ?_, (((((k3.trans hk1).set (by simp; omega) _).set (by simp) _).set (by simp) _).set (by simp) _).set (by simp) _⟩
    rw [NdV]
    refine ⟨_, _, rfl, HML.out, .inr ⟨_, _, rfl, by omega, NdsV.mono (base := w.heap.size + 3) (by omega) _ _ _ (NdsV.turn (((((Turn.low (by omega)).trans (Turn.low (by omega))).trans (Turn.low (by omega))).trans (Turn.low (by omega))).trans (Turn.low (by omega))) _ _ _ (Nat.le_refl _) HN.out)⟩⟩
end Go.Proofs.YtejpjbfmjmfnmaaGreatDoor
