/-
  What chapter 5 asks of its values, in the program and in its models; Own of both.
-/
import Derived.Test.YtnamdleebijcbaaCelC
namespace Go.Proofs.Ytnamdleebijcbaa
open Go.RowKit
attribute [local go_sem] Plain.and7 Instr.field asAgg

theorem leads_any {zs : List Int} {v : Int} (h : v % 8 ≠ 7) (i j : Int) : leadsR zs v i = leadsR zs v j := by
  rcases kinds8 v with h | h | h | h | h | h | h | h
  all_goals first | (exfalso; omega) | simp [leadsR, wantK, h]
/-- An object of the heap. -/
def isOb (zs : List Int) (v : Int) : Bool := decide (v % 8 = 5) && leadsR zs v 0
def askR (zs : List Int) (obj name : Int) : Bool := heapR zs && isOb zs obj && valR zs 7 name
theorem roots2 {zs : List Int} {a b : Int} : rootsR zs [a, b] = (heapR zs && (leadsR zs a 5 && leadsR zs b 5)) := by
  unfold rootsR leadAll
  rw [show [a, b].length = 2 from rfl, allR_succ, allR_succ, allR_zero]
  simp [hz]
theorem roots1 {zs : List Int} {a : Int} : rootsR zs [a] = (heapR zs && leadsR zs a 5) := by
  unfold rootsR leadAll
  rw [show [a].length = 1 from rfl, allR_succ, allR_zero]
  simp [hz]
theorem ask_is {zs : List Int} {obj name : Int} : askR zs obj name = (decide (name % 8 = 4) && isR zs [obj, name] 5) := by
  unfold askR isR isOb
  rw [val7, roots2, show hz [obj, name] 0 = obj from rfl]
  by_cases h5 : obj % 8 = 5
  · by_cases h4 : name % 8 = 4
    · rw [leads_any (v := obj) (by omega) 5 0, leads_any (v := name) (by omega) 5 0]
      simp [h5, h4, Bool.and_assoc]
    · simp [h4]
  · simp [h5]
theorem isOb_facts {zs : List Int} {v : Int} (h : isOb zs v = true) : v % 8 = 5 ∧ leadsR zs v 5 = true := by
  unfold isOb at h
  simp only [Bool.and_eq_true, decide_eq_true_eq] at h
  exact ⟨h.1, by rw [leads_any (by omega) 5 0]; exact h.2⟩
theorem ask_facts {zs : List Int} {obj name : Int} (h : askR zs obj name = true) : heapR zs = true ∧ isOb zs obj = true ∧ valR zs 7 name = true := by
  unfold askR at h
  simp only [Bool.and_eq_true] at h
  exact ⟨h.1.1, h.1.2, h.2⟩
/-- What Own answers. -/
def ownV (zs : List Int) (obj name : Int) : Value :=
  if askR zs obj name = true then (if 0 ≤ (cellF zs name zs.length (hz zs (plc obj + 2)) (-1)).1 then .tuple #[.int .i64 (hz zs ((cellF zs name zs.length (hz zs (plc obj + 2)) (-1)).1.toNat + 2)), .bool true] else .tuple #[.int .i64 0, .bool false]) else .tuple #[.int .i64 0, .bool false]
theorem ownV_tuple (zs : List Int) (obj name : Int) : ∃ x b, ownV zs obj name = .tuple #[.int .i64 x, .bool b] := by
  unfold ownV
  split
  · split <;> exact ⟨_, _, rfl⟩
  · exact ⟨_, _, rfl⟩
theorem own_get {zs : List Int} {obj name v' : Int} {ps : List Nat} (h : All zs (hz zs (plc obj + 2)) ps v') (hk : askR zs obj name = true) : ownV zs obj name = getV zs name ps := by
  unfold ownV
  rw [if_pos hk, h.cell (name := name)]
  cases hn : namedP zs name ps with
  | none => rw [getV_none hn]; simp
  | some q => rw [getV_some hn]; simp

set_option maxHeartbeats 4000000 in
set_option maxRecDepth 100000 in
theorem isObject_ok (w : World) (lo : Option Addr) (lc : Nat) (zs : List Int) (v : Int) (hI : Ints w lo (lyt zs)) (h0 : -9223372036854775808 ≤ v) (h1 : v ≤ 9223372036854775807) :
    Calls Try.prog 20 #[.slice lo zs.length lc, .int .i64 v] w fun e w' => e = .returned (.bool (isOb zs v)) ∧ w = w' := by
  have hV := valueOk_ok w lo lc zs 5 v hI h0 h1
  clear hI
  by_cases h5 : v % 8 = 5
  · have e1 : isOb zs v = valR zs 5 v := by
      unfold isOb
      rw [val5]
      have : ¬ v = 1 := by omega
      simp [this]
    rw [e1]
    obtain ⟨r, hr⟩ : ∃ r, valR zs 5 v = r := ⟨_, rfl⟩
    rw [hr] at hV ⊢
    have hd : (v % 8 == 5) = true := by simpa using h5
    clear hr e1
    go_enter Try.func20, Try.ntmps20
    go_wp2_with (first | (go_at_call 43; refine (impl_Kind_ok _ _).mono ?_; rintro e wx ⟨rfl, rfl⟩) | (go_at_call 21; refine hV.mono ?_; rintro e wx ⟨rfl, rfl⟩))
    go_ret
    exact ⟨rfl, rfl⟩
  · have HE : Hid (isOb zs v = false) := by simp [Hid, isOb, h5]
    have hd : (v % 8 == 5) = false := by simpa using h5
    clear hV
    go_enter Try.func20, Try.ntmps20
    go_wp2_with (first | (go_at_call 43; refine (impl_Kind_ok _ _).mono ?_; rintro e wx ⟨rfl, rfl⟩))
    go_ret
    exact ⟨by rw [HE.out]; rfl, rfl⟩
end Go.Proofs.Ytnamdleebijcbaa
