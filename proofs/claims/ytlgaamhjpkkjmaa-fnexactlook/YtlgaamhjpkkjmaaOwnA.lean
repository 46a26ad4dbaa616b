/-
  What chapter 5 asks of its values, in the program and in its models; Own of both.
-/
import Derived.Test.YtlgaamhjpkkjmaaCelC
namespace Go.Proofs.Ytlgaamhjpkkjmaa
open Go.RowKit
attribute [local go_sem] Plain.and7 Instr.field asAgg

theorem leads_any {zs : List Int} {v : Int} (h : v % 8 ≠ 7) (i j : Int) : leadsR zs v i = leadsR zs v j := by
  rcases kinds8 v with h | h | h | h | h | h | h | h
  all_goals first | (exfalso; omega) | simp [leadsR, wantK, h]
/-- An object of the heap. -/
def isOb (zs : List Int) (v : Int) : Bool := decide (v % 8 = 5) && leadsR zs v 0
def askR (zs : List Int) (obj name : Int) : Bool := heapR zs && isOb zs obj && valR zs 7 name
theorem roots2 {zs : List Int} {a b : Int} : rootsR zs [a, b] = (heapR zs && (leadsR zs a 5 && leadsR zs b 5)) := by
  unfold rootsR leadAll
  rw [show [a, b].length = 2 from rfl, allR_succ, allR_succ, allR_zero]
  simp [hz]
theorem roots1 {zs : List Int} {a : Int} : rootsR zs [a] = (heapR zs && leadsR zs a 5) := by
  unfold rootsR leadAll
  rw [show [a].length = 1 from rfl, allR_succ, allR_zero]
  simp [hz]
theorem ask_is {zs : List Int} {obj name : Int} : askR zs obj name = (decide (name % 8 = 4) && isR zs [obj, name] 5) := by
  unfold askR isR isOb
  rw [val7, roots2, show hz [obj, name] 0 = obj from rfl]
  by_cases h5 : obj % 8 = 5
  · by_cases h4 : name % 8 = 4
    · rw [leads_any (v := obj) (by omega) 5 0, leads_any (v := name) (by omega) 5 0]
      simp [h5, h4, Bool.and_assoc]
    · simp [h4]
  · simp [h5]
theorem isOb_facts {zs : List Int} {v : Int} (h : isOb zs v = true) : v % 8 = 5 ∧ leadsR zs v 5 = true := by
  unfold isOb at h
  simp only [Bool.and_eq_true, decide_eq_true_eq] at h
  exact ⟨h.1, by rw [leads_any (by omega) 5 0]; exact h.2⟩
theorem ask_facts {zs : List Int} {obj name : Int} (h : askR zs obj name = true) : heapR zs = true ∧ isOb zs obj = true ∧ valR zs 7 name = true := by
  unfold askR at h
  simp only [Bool.and_eq_true] at h
  exact ⟨h.1.1, h.1.2, h.2⟩
/-- What Own answers. -/
def ownV (zs : List Int) (obj name : Int) : Value :=
  if askR zs obj name = true then (if 0 ≤ (cellF zs name zs.length (hz zs (plc obj + 2)) (-1)).1 then .tuple #[.int .i64 (hz zs ((cellF zs name zs.length (hz zs (plc obj + 2)) (-1)).1.toNat + 2)), .bool true] else .tuple #[.int .i64 0, .bool false]) else .tuple #[.int .i64 0, .bool false]
theorem ownV_tuple (zs : List Int) (obj name : Int) : ∃ x b, ownV zs obj name = .tuple #[.int .i64 x, .bool b] := by
  unfold ownV
  split
  · split <;> exact ⟨_, _, rfl⟩
  · exact ⟨_, _, rfl⟩
theorem own_get {zs : List Int} {obj name v' : Int} {ps : List Nat} (h : All zs (hz zs (plc obj + 2)) ps v') (hk : askR zs obj name = true) : ownV zs obj name = getV zs name ps := by
  unfold ownV
  rw [if_pos hk, h.cell (name := name)]
  cases hn : namedP zs name ps with
  | none => rw [getV_none hn]; simp
  | some q => rw [getV_some hn]; simp

set_option maxHeartbeats 4000000 in
set_option maxRecDepth 100000 in
theorem isObject_ok (w : World) (lo : Option Addr) (lc : Nat) (zs : List Int) (v : Int) (hI : Ints w lo (lyt zs)) (h0 : -9223372036854775808 ≤ v) (h1 : v ≤ 9223372036854775807) :
    Calls Try.prog 57 #[.slice lo zs.length lc, .int .i64 v] w fun e w' => e = .returned (.bool (isOb zs v)) ∧ w = w' := by
  have hV := valueOk_ok w lo lc zs 5 v hI h0 h1
  clear hI
  by_cases h5 : v % 8 = 5
  · have e1 : isOb zs v = valR zs 5 v := by
      unfold isOb
      rw [val5]
      have : ¬ v = 1 := by omega
      simp [this]
    rw [e1]
    obtain ⟨r, hr⟩ : ∃ r, valR zs 5 v = r := ⟨_, rfl⟩
    rw [hr] at hV ⊢
    have hd : (v % 8 == 5) = true := by simpa using h5
    clear hr e1
    go_enter Try.func57, Try.ntmps57
    go_wp2_with (first | (go_at_call 91; refine (impl_Kind_ok _ _).mono ?_; rintro e wx ⟨rfl, rfl⟩) | (go_at_call 37; refine hV.mono ?_; rintro e wx ⟨rfl, rfl⟩))
    go_ret
    exact ⟨rfl, rfl⟩
  · have HE : Hid (isOb zs v = false) := by simp [Hid, isOb, h5]
    have hd : (v % 8 == 5) = false := by simpa using h5
    clear hV
    go_enter Try.func57, Try.ntmps57
    go_wp2_with (first | (go_at_call 91; refine (impl_Kind_ok _ _).mono ?_; rintro e wx ⟨rfl, rfl⟩))
    go_ret
    exact ⟨by rw [HE.out]; rfl, rfl⟩
set_option maxHeartbeats 4000000 in
set_option maxRecDepth 100000 in
theorem canAsk_ok (w : World) (ao : Option Addr) (cap : Nat) (zs : List Int) (obj name : Int) (hI : Ints w ao zs) (hl : zs.length ≤ 1048576) (ho : -9223372036854775808 ≤ obj ∧ obj ≤ 9223372036854775807) (hn : -9223372036854775808 ≤ name ∧ name ≤ 9223372036854775807) :
    Calls Try.prog 54 #[.agg #[.slice ao zs.length cap], .int .i64 obj, .int .i64 name] w fun e w' => e = .returned (.bool (askR zs obj name)) ∧ Kept w w' := by
  have k0 : Kept w (w.alloc (.cells #[.slice ao zs.length cap] 27)) := Kept.alloc (Below.refl _ _) _
  have hLo := heapLayout_ok _ ao cap zs (hI.kept k0) hl
  cases hh : heapR zs with
  | false =>
    have HR : Hid (askR zs obj name = false) := by simp [Hid, askR, hh]
    have hLo' := hLo.mono (R' := fun e w' => e = .returned (.tuple #[.slice none 0 0, .bool false]) ∧ Kept (w.alloc (.cells #[.slice ao zs.length cap] 27)) w') (fun e w' h => ⟨h.1 hh, h.2.2⟩)
    clear hh hI hLo
    go_enter Try.func54, Try.ntmps54
    go_wp2_with (go_at_call 36; refine hLo'.mono ?_; rintro e w1 ⟨rfl, hk1⟩)
    go_ret
    exact ⟨by rw [HR.out]; rfl, k0.trans hk1⟩
  | true =>
    have hLo' := hLo.mono (R' := fun e w' => ∃ lo lc, e = .returned (.tuple #[.slice lo zs.length lc, .bool true]) ∧ Ints w' lo (lyt zs) ∧ Kept (w.alloc (.cells #[.slice ao zs.length cap] 27)) w') (fun e w' h => by obtain ⟨lo, lc, h1, h2⟩ := h.2.1 hh; exact ⟨lo, lc, h1, h2, h.2.2⟩)
    have e1 : askR zs obj name = (isOb zs obj && valR zs 7 name) := by simp [askR, hh]
    rw [e1]
    have hOb := fun (u : World) (lo : Option Addr) (lc : Nat) (hu : Ints u lo (lyt zs)) => isObject_ok u lo lc zs obj hu ho.1 ho.2
    have hV := fun (u : World) (lo : Option Addr) (lc : Nat) (hu : Ints u lo (lyt zs)) => valueOk_ok u lo lc zs 7 name hu hn.1 hn.2
    obtain ⟨q, hq⟩ : ∃ q, valR zs 7 name = q := ⟨_, rfl⟩
    rw [hq] at hV ⊢
    clear hLo hI hh e1 hq
    cases hob : isOb zs obj with
    | false =>
      rw [hob] at hOb
      clear hV hob
      go_enter Try.func54, Try.ntmps54
      go_wp2_with (first | (go_at_call 36; refine hLo'.mono ?_; rintro e w1 ⟨lo, lc, rfl, hLy, hk1⟩; have hO1 := hOb w1 lo lc hLy; clear hLy) | (go_at_call 57; refine hO1.mono ?_; rintro e wx ⟨rfl, rfl⟩))
      go_ret
      exact ⟨rfl, k0.trans hk1⟩
    | true =>
      rw [hob] at hOb
      clear hob
      go_enter Try.func54, Try.ntmps54
      go_wp2_with (first | (go_at_call 36; refine hLo'.mono ?_; rintro e w1 ⟨lo, lc, rfl, hLy, hk1⟩; have hO1 := hOb w1 lo lc hLy; have hV1 := hV w1 lo lc hLy; clear hLy) | (go_at_call 57; refine hO1.mono ?_; rintro e wx ⟨rfl, rfl⟩) | (go_at_call 37; refine hV1.mono ?_; rintro e wx ⟨rfl, rfl⟩))
      go_ret
      exact ⟨rfl, k0.trans hk1⟩
set_option maxHeartbeats 8000000 in
set_option maxRecDepth 100000 in
theorem impl_Own_ok (w : World) (ao : Option Addr) (cap : Nat) (zs : List Int) (obj name : Int) (hI : Ints w ao zs) (hl : zs.length ≤ 1048576) (ho : -9223372036854775808 ≤ obj ∧ obj ≤ 9223372036854775807) (hn : -9223372036854775808 ≤ name ∧ name ≤ 9223372036854775807) :
    Calls Try.prog 19 #[.agg #[.slice ao zs.length cap], .int .i64 obj, .int .i64 name] w fun e w' => e = .returned (ownV zs obj name) ∧ Kept w w' := by
  have b0 := Cells.new w 27 #[.slice ao zs.length cap]
  have k0 : Kept w (w.alloc (.cells #[.slice ao zs.length cap] 27)) := Kept.alloc (Below.refl _ _) _
  have hA := canAsk_ok _ ao cap zs obj name (hI.kept k0) hl ho hn
  cases hk : askR zs obj name with
  | false =>
    have HR : Hid (ownV zs obj name = .tuple #[.int .i64 0, .bool false]) := by simp [Hid, ownV, hk]
    rw [hk] at hA
    clear hI hk
    go_enter Try.func19, Try.ntmps19
    go_wp2_with (go_at_call 54; refine hA.mono ?_; rintro e w1 ⟨rfl, hk1⟩)
    refine bodyPost_ret (v := .tuple #[.int .i64 0, .bool false]) (by simp [results, Try.results19, go_sem]) rfl ⟨by rw [HR.out], k0.trans hk1⟩
  | true =>
    rw [hk] at hA
    obtain ⟨hh, hob, _⟩ := ask_facts hk
    obtain ⟨h5, hv⟩ := isOb_facts hob
    obtain ⟨a, s, ha, hle, hs, _, _, hnx⟩ := obj_facts hh h5 hv
    have HG : Hid (∀ v' ps, All zs (hz zs (a + 2)) ps v' → ownV zs obj name = getV zs name ps) := fun v' ps h => own_get (by rw [plc_is ha]; exact h) hk
    have hNm := fun (u : World) => impl_Num_ok obj u ho.1 ho.2
    rw [ha] at hNm
    have HOA : Hid _ := fun (u : World) (hu : Kept w u) => objectAt_ok u ao cap zs a (hI.kept hu) hl hh (by omega) hnx
    clear hI hk hob h5 hv ha hnx hh
    go_enter Try.func19, Try.ntmps19
    go_wp2_with (go_at_call 54; refine hA.mono ?_; rintro e w1 ⟨rfl, hk1⟩)
    have x1 := b0.kept hk1
    have xd := x1.kept (Below.refl _ w1).drew
    have cd := xd.cell 0
    have K1 : Kept w w1.drew := (k0.trans hk1).drew
    clear hA
    go_region_with (first | (go_at_call 39; refine (hNm _).mono ?_; rintro e wx ⟨rfl, rfl⟩) | (go_at_call 55; refine (HOA.out _ K1).mono ?_; rintro e w2 ⟨cs, ps, v', rfl, hO, hAl, hk2⟩; obtain ⟨ca, cc, rfl, hcc, hAt⟩ := hO.at; have hps := hAl.len; have cd2 := (xd.kept hk2).cell 0; have HGE := HG.out v' ps hAl) | (go_at_call 56; refine (get_ok _ ca cc zs ps name hAt (by omega)).mono ?_; rintro e w3 ⟨rfl, hk3⟩; rw [← HGE]; obtain ⟨vx, vb, hvv⟩ := ownV_tuple zs obj name; rw [hvv]))
    all_goals (
      go_wp2_with fail
      refine bodyPost_ret (v := .tuple #[.int .i64 vx, .bool vb]) (by simp [results, Try.results19, go_sem]) rfl ⟨by rw [hvv], (K1.trans hk2).trans hk3⟩)
end Go.Proofs.Ytlgaamhjpkkjmaa
