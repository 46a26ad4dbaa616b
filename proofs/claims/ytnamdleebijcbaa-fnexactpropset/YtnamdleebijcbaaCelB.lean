/-
  The contracts of the program's functions on the cells of an object: the first one with a name, all of them, whether they go in a circle; an object.
-/
import Derived.Test.YtnamdleebijcbaaCelA
namespace Go.Proofs.Ytnamdleebijcbaa
open Go.RowKit
attribute [local go_sem] Plain.and7

theorem namedP_at {zs : List Int} {name : Int} {ps : List Nat} {k q : Nat} (hno : ∀ j q', j < k → ps[j]? = some q' → ¬ hz zs (q' + 1) = name) (hq : ps[k]? = some q) (hn : hz zs (q + 1) = name) : namedP zs name ps = some q := by
  obtain ⟨hk, e⟩ := List.getElem?_eq_some_iff.1 hq
  refine List.find?_eq_some_iff_getElem.2 ⟨by simpa using hn, k, hk, e, fun j hj => ?_⟩
  have := hno j _ hj (List.getElem?_eq_getElem (by omega))
  simpa using this
theorem namedP_none {zs : List Int} {name : Int} {ps : List Nat} (hno : ∀ j q', j < ps.length → ps[j]? = some q' → ¬ hz zs (q' + 1) = name) : namedP zs name ps = none := by
  refine List.find?_eq_none.2 fun q hq => ?_
  obtain ⟨j, hj, e⟩ := List.getElem_of_mem hq
  have := hno j q hj (by rw [List.getElem?_eq_getElem hj, e])
  simpa using this

set_option maxHeartbeats 4000000 in
set_option maxRecDepth 100000 in
theorem namedF_ok (w : World) (B : Nat) (name : Int) (zs : List Int) (p : Nat) (hc : w.cell? ⟨B, 0, none⟩ = some (.int .i64 name)) :
    Calls Try.prog 53 #[celG zs p, .pointer (some ⟨B, 0, none⟩)] w fun e w' => e = .returned (.bool (decide (hz zs (p + 1) = name))) ∧ Kept w w' := by
  have hB : B < w.heap.size := World.block_lt_of_cell? _ _ hc
  have k0 : Kept w (w.alloc (.cells (celC zs p) 54)) := Kept.alloc (Below.refl _ _) _
  have hd : (hz zs (p + 1) == name) = decide (hz zs (p + 1) = name) := by
    by_cases h : hz zs (p + 1) = name <;> simp [h]
  obtain ⟨r, hr⟩ : ∃ r, decide (hz zs (p + 1) = name) = r := ⟨_, rfl⟩
  rw [hr] at hd ⊢
  clear hr
  have hc' := (k0.cell (p := ⟨B, 0, none⟩) hB).trans hc
  go_enter Try.func53, Try.ntmps53
  go_wp2_with fail
  go_ret
  exact ⟨rfl, k0⟩
theorem Cells.put4 {W : World} {B : Nat} {t : TypeId} {x0 x1 x2 x3 : Value} (h : Cells W B t #[x0, x1, x2, x3]) (a b c d : Value) :
    (W.setCell ⟨B, 0, none⟩ a).cell? ⟨B, 0, none⟩ = some a ∧ ((W.setCell ⟨B, 0, none⟩ a).setCell ⟨B, 1, none⟩ b).cell? ⟨B, 1, none⟩ = some b ∧ (((W.setCell ⟨B, 0, none⟩ a).setCell ⟨B, 1, none⟩ b).setCell ⟨B, 2, none⟩ c).cell? ⟨B, 2, none⟩ = some c ∧ ((((W.setCell ⟨B, 0, none⟩ a).setCell ⟨B, 1, none⟩ b).setCell ⟨B, 2, none⟩ c).setCell ⟨B, 3, none⟩ d).cell? ⟨B, 3, none⟩ = some d := by
  have h0 := h.set 0 a
  have h1 := h0.set 1 b
  have h2 := h1.set 2 c
  have h3 := h2.set 3 d
  exact ⟨by rw [h0.cell 0]; rfl, by rw [h1.cell 1]; rfl, by rw [h2.cell 2]; rfl, by rw [h3.cell 3]; rfl⟩
/-- What named answers. -/
def namedV (zs : List Int) (name : Int) (ps : List Nat) : Value := match namedP zs name ps with
  | some q => .tuple #[celG zs q, .bool true]
  | none => .tuple #[.agg #[.int .i64 0, .int .i64 0, .int .i64 0, .int .i64 0], .bool false]
theorem namedV_some {zs : List Int} {name : Int} {ps : List Nat} {q : Nat} (h : namedP zs name ps = some q) : namedV zs name ps = .tuple #[celG zs q, .bool true] := by rw [namedV, h]
theorem namedV_none {zs : List Int} {name : Int} {ps : List Nat} (h : namedP zs name ps = none) : namedV zs name ps = .tuple #[.agg #[.int .i64 0, .int .i64 0, .int .i64 0, .int .i64 0], .bool false] := by rw [namedV, h]
def getV (zs : List Int) (name : Int) (ps : List Nat) : Value := match namedP zs name ps with
  | some q => .tuple #[.int .i64 (hz zs (q + 2)), .bool true]
  | none => .tuple #[.int .i64 0, .bool false]
theorem getV_some {zs : List Int} {name : Int} {ps : List Nat} {q : Nat} (h : namedP zs name ps = some q) : getV zs name ps = .tuple #[.int .i64 (hz zs (q + 2)), .bool true] := by rw [getV, h]
theorem getV_none {zs : List Int} {name : Int} {ps : List Nat} (h : namedP zs name ps = none) : getV zs name ps = .tuple #[.int .i64 0, .bool false] := by rw [getV, h]
set_option maxHeartbeats 4000000 in
set_option maxRecDepth 100000 in
theorem cellIndexFunc_ok (w : World) (ao : Option Addr) (cap : Nat) (zs : List Int) (ps : List Nat) (B : Nat) (name : Int) (hR : CelsAt w ao zs ps) (hl : ps.length ≤ 1048576) (hN : w.cell? ⟨B, 0, none⟩ = some (.int .i64 name)) :
    Calls Try.prog 52 #[.slice ao ps.length cap, .func (.func 53) #[] #[.pointer (some ⟨B, 0, none⟩)]] w fun e w' => ∃ r : Int, e = .returned (.int .i64 r) ∧ ((namedP zs name ps = none ∧ r = -1) ∨ ∃ i q : Nat, namedP zs name ps = some q ∧ r = (i : Int) ∧ ps[i]? = some q) ∧ Kept w w' := by
  have hB : B < w.heap.size := World.block_lt_of_cell? _ _ hN
  have HR : Hid _ := hR
  have HN : Hid _ := hN
  clear hR hN
  go_enter Try.func52, Try.ntmps52
  go_wp2_with fail
  go_loopw [8] (fun i wr => ∃ k : Nat, i = .int .i64 k ∧ k ≤ ps.length ∧ (∀ j q, j < k → ps[j]? = some q → ¬ hz zs (q + 1) = name) ∧ Kept w wr) (fun i _ => ps.length - (intOf i).toNat)
  case atStart => exact ⟨0, rfl, Nat.zero_le _, fun j q h => absurd h (by omega), Below.refl _ _⟩
  case round =>
    obtain ⟨k, rfl, hk, hno, hK⟩ := hrel
    have HO : Hid _ := hno
    have HK1 : Hid _ := hK
    clear hno
    by_cases hlt : k < ps.length
    · obtain ⟨q, hq⟩ : ∃ q, ps[k]? = some q := ⟨_, List.getElem?_eq_getElem hlt⟩
      obtain ⟨b, off, rfl, hc⟩ := HR.out k q hq
      have hbl : b < w.heap.size := World.block_lt_of_cell? _ _ (hc 0 (by omega))
      have hcr : ∀ r, r < 4 → wr.cell? ⟨b, off + k * 4 + r, none⟩ = (celC zs q)[r]? := fun r hr => (hK.cell (p := ⟨b, off + k * 4 + r, none⟩) hbl).trans (hc r hr)
      have c0 := hcr 0 (by omega)
      have c1 := hcr 1 (by omega)
      have c2 := hcr 2 (by omega)
      have c3 := hcr 3 (by omega)
      simp only [Nat.add_zero] at c0
      have hF := namedF_ok wr B name zs q ((hK.cell (p := ⟨B, 0, none⟩) hB).trans HN.out)
      have q1 : (k : Int) < (ps.length : Int) := by omega
      have HQ : Hid _ := hq
      clear hc hcr hK hq
      by_cases he : hz zs (q + 1) = name
      · rw [decide_eq_true he] at hF
        have HE : Hid _ := he
        clear he
        go_wp2_with fail
        refine hF.mono ?_
        rintro e w1 ⟨rfl, hk1⟩
        go_wp2_with fail
        go_ret
        exact ⟨_, rfl, .inr ⟨k, q, namedP_at HO.out HQ.out HE.out, rfl, HQ.out⟩, Kept.trans HK1.out hk1⟩
      · rw [decide_eq_false he] at hF
        have HE : Hid _ := he
        clear he
        go_wp2_with fail
        refine hF.mono ?_
        rintro e w1 ⟨rfl, hk1⟩
        go_wp2_with fail
        go_roundw
        case rel => exact ⟨k + 1, by go_num, by omega, fun j q' hj hq' => by
          rcases Nat.lt_succ_iff_lt_or_eq.1 hj with h | h
          · exact HO.out j q' h hq'
          · rw [h, HQ.out] at hq'; cases hq'; exact HE.out, Kept.trans HK1.out hk1⟩
        case measure => simp [intOf]; omega
    · obtain rfl : k = ps.length := by omega
      clear hK
      go_wp2
      go_ret
      exact ⟨_, rfl, .inl ⟨namedP_none HO.out, rfl⟩, HK1.out⟩
set_option maxHeartbeats 4000000 in
set_option maxRecDepth 100000 in
theorem named_ok (w : World) (ao : Option Addr) (cap : Nat) (zs : List Int) (ps : List Nat) (name : Int) (hR : CelsAt w ao zs ps) (hl : ps.length ≤ 1048576) :
    Calls Try.prog 26 #[.slice ao ps.length cap, .int .i64 name] w fun e w' => e = .returned (namedV zs name ps) ∧ Kept w w' := by
  have k0 : Kept w (w.alloc (.cells #[.int .i64 name] 3)) := Kept.alloc (Below.refl _ _) _
  have k1 : Kept w ((w.alloc (.cells #[.int .i64 name] 3)).alloc (.cells #[.int .i64 0, .int .i64 0, .int .i64 0, .int .i64 0] 54)) := k0.alloc _
  have b0 := Cells.new w 3 #[.int .i64 name]
  have b1 := Cells.new (w.alloc (.cells #[.int .i64 name] 3)) 54 #[.int .i64 0, .int .i64 0, .int .i64 0, .int .i64 0]
  have b0' := b0.alloc (.cells #[.int .i64 0, .int .i64 0, .int .i64 0, .int .i64 0] 54)
  have hI := cellIndexFunc_ok _ ao cap zs ps w.heap.size name (hR.kept k1) hl (b0'.cell 0)
  have HR : Hid _ := hR
  clear hR b0
  go_enter Try.func26, Try.ntmps26
  go_wp2_with fail
  refine hI.mono ?_
  rintro e w1 ⟨r, rfl, hr, hk1⟩
  have x1 := b1.kept hk1
  simp only [World.size_alloc] at x1
  have c0 := x1.cell 0
  have c1 := x1.cell 1
  have c2 := x1.cell 2
  have c3 := x1.cell 3
  have f0 := x1.frozen 0
  have f1 := x1.frozen 1
  have f2 := x1.frozen 2
  have f3 := x1.frozen 3
  have K1 := k1.trans hk1
  have hsz := K1.size
  clear hI b1 b0'
  rcases hr with ⟨hn, rfl⟩ | ⟨i, q, hn, rfl, hq⟩
  · have HN : Hid _ := namedV_none hn
    obtain ⟨s0, s1, s2, s3⟩ := x1.put4 (.int .i64 0) (.int .i64 0) (.int .i64 0) (.int .i64 0)
    clear hn
    go_wp2_with fail
    refine bodyPost_ret (v := .tuple #[.agg #[.int .i64 0, .int .i64 0, .int .i64 0, .int .i64 0], .bool false]) (by simp [results, Try.results26, go_sem, s0, s1, s2, s3]) rfl ⟨by rw [HN.out], ?_⟩
    repeat first | exact K1 | refine Kept.set ?_ (by simp) _
  · have HN : Hid _ := namedV_some hn
    obtain ⟨s0, s1, s2, s3⟩ := x1.put4 (.int .i64 (q : Int)) (.int .i64 (hz zs (q + 1))) (.int .i64 (hz zs (q + 2))) (.int .i64 (hz zs (q + 3)))
    have hi : i < ps.length := (List.getElem?_eq_some_iff.1 hq).1
    obtain ⟨b, off, rfl, hc⟩ := (CelsAt.kept HR.out K1) i q hq
    have d0 := hc 0 (by omega)
    have d1 := hc 1 (by omega)
    have d2 := hc 2 (by omega)
    have d3 := hc 3 (by omega)
    simp only [Nat.add_zero] at d0
    have q1 : (i : Int) < (ps.length : Int) := by omega
    have hn0 : ¬ ((i : Int) < 0) := by omega
    clear hn hq hc
    go_wp2_with fail
    refine bodyPost_ret (v := .tuple #[celG zs q, .bool true]) (by simp [results, Try.results26, go_sem, s0, s1, s2, s3]) rfl ⟨by rw [HN.out], ?_⟩
    repeat first | exact K1 | refine Kept.set ?_ (by simp) _
set_option maxHeartbeats 4000000 in
set_option maxRecDepth 100000 in
theorem round_ok (w : World) (ao : Option Addr) (cap : Nat) (zs : List Int) (ps : List Nat) (v v' : Int) (hR : CelsAt w ao zs ps) (hl : ps.length ≤ 1048576) (hA : All zs v ps v') :
    Calls Try.prog 25 #[.slice ao ps.length cap] w fun e w' => e = .returned (.bool (decide (v' ≠ 0))) ∧ Kept w w' := by
  by_cases h0 : ps.length = 0
  · have hp : ps = [] := List.length_eq_zero_iff.1 h0
    have hv : v' = 0 := by
      rcases hA.over with h | h
      · exact h
      · rw [hp] at h; simp at h
    have HV : Hid (decide (v' ≠ 0) = false) := by simp [Hid, hv]
    rw [h0]
    clear hA hR hv hp
    go_enter Try.func25, Try.ntmps25
    go_wp2_with fail
    go_ret
    exact ⟨by rw [HV.out]; rfl, Below.refl _ _⟩
  · obtain ⟨q, hq⟩ : ∃ q, ps[ps.length - 1]? = some q := ⟨_, List.getElem?_eq_getElem (by omega)⟩
    have hv := hA.path.last (p := q) (by rw [List.getLast?_eq_getElem?]; exact hq)
    obtain ⟨b, off, rfl, hc⟩ := hR _ q hq
    have c3 := hc 3 (by omega)
    have c3' : w.cell? ⟨b, off + (ps.length - 1) * 4 + 3, none⟩ = some (.int .i64 v') := by rw [c3, ← hv]; rfl
    have e1 : IntKind.i64.wrap ((ps.length : Int) - 1) = (ps.length : Int) - 1 := by rw [IntWalk.i64_left, IntWalk.wrap64_in _ (by omega)]
    have e2 : ((ps.length : Int) - 1).toNat = ps.length - 1 := by omega
    have p1 : (ps.length : Int) - 1 < (ps.length : Int) := by omega
    have p2 : (0 : Int) < (ps.length : Int) := by omega
    have p3 : (0 : Int) ≤ (ps.length : Int) - 1 := by omega
    have hd : (v' != 0) = decide (v' ≠ 0) := by
      by_cases h : v' = 0 <;> simp [h]
    obtain ⟨r, hr⟩ : ∃ r, decide (v' ≠ 0) = r := ⟨_, rfl⟩
    rw [hr] at hd ⊢
    clear hr hc c3 hv hq hA hR
    go_enter Try.func25, Try.ntmps25
    go_wp2_with fail
    go_ret
    exact ⟨rfl, Below.refl _ _⟩
end Go.Proofs.Ytnamdleebijcbaa
