/-
  Facts on lists: what PropSet asks, in the program and in its model; the new cell behind all others.
-/
import Derived.Test.YtnamdleebijcbaaNewA
import Derived.Test.YtnamdleebijcbaaObjP
namespace Go.Proofs.Ytnamdleebijcbaa
open Go.RowKit

def propR (zs : List Int) (obj name v : Int) : Bool := heapR zs && isOb zs obj && valR zs 7 name && valR zs 10 v
theorem roots3 {zs : List Int} {a b c : Int} : rootsR zs [a, b, c] = (heapR zs && ((leadsR zs a 5 && leadsR zs b 5) && leadsR zs c 5)) := by
  unfold rootsR leadAll
  rw [show [a, b, c].length = 3 from rfl, allR_succ, allR_succ, allR_succ, allR_zero]
  simp [hz]
theorem prop_is {zs : List Int} {obj name v : Int} : (decide (name % 8 = 4) && decide (v % 8 ≠ 7) && isR zs [obj, name, v] 5) = propR zs obj name v := by
  unfold propR isR isOb
  rw [val7, val10, roots3, show hz [obj, name, v] 0 = obj from rfl]
  unfold plainR
  by_cases h5 : obj % 8 = 5
  · by_cases h4 : name % 8 = 4
    · by_cases h7 : v % 8 = 7
      · simp [h7]
      · rw [leads_any (v := obj) (by omega) 5 0, leads_any (v := name) (by omega) 5 0, leads_any (v := v) h7 5 0]
        simp [h5, h4, h7, Bool.and_assoc]
    · simp [h4]
  · simp [h5]
theorem propC_no {zs : List Int} {obj name v : Int} (h : propR zs obj name v = false) : propC zs obj name v = (zeroL zs, false) := by
  unfold propC
  rw [prop_is, h]
  simp
theorem propC_round {zs : List Int} {obj name v : Int} (h : roundR zs obj = true) : propC zs obj name v = (zeroL zs, false) := by
  unfold propC
  rw [h]
  simp
theorem propC_yes {zs : List Int} {obj name v : Int} (h : propR zs obj name v = true) (hr : roundR zs obj = false) : propC zs obj name v = ((setC zs obj name v).1, (setC zs obj name v).2.2) := by
  unfold propC
  rw [prop_is, h, hr]
  simp
theorem setC_there {zs : List Int} {obj name v v' : Int} {ps : List Nat} {q : Nat} (hA : All zs (hz zs (plc obj + 2)) ps v') (hn : namedP zs name ps = some q) : setC zs obj name v = (zs.set (q + 2) v, -1, true) := by
  unfold setC
  rw [hA.cell (name := name), hn]
  simp
theorem setC_full {zs : List Int} {obj name v v' : Int} {ps : List Nat} (hA : All zs (hz zs (plc obj + 2)) ps v') (hn : namedP zs name ps = none) (hf : ffB zs 4 = none) : setC zs obj name v = (zs, -1, false) := by
  unfold setC
  rw [hA.cell (name := name), hn, hf]
  simp
/-- Where the link behind all cells lies. -/
def tailP (a : Nat) (ps : List Nat) : Nat := match ps.getLast? with | some p => p + 3 | none => a + 2
theorem setC_new {zs : List Int} {obj name v : Int} {ps : List Nat} {a : Nat} {b : BkOf zs.length} (hA : All zs (hz zs (plc obj + 2)) ps 0) (hn : namedP zs name ps = none) (hf : ffB zs 4 = some b) (ha : obj / 8 = a) :
    setC zs obj name v = ((((takeL zs b.1 3 4).set (b.1.at' + 1) name).set (b.1.at' + 2) v).set (tailP a ps) (8 * ((b.1.at' : Nat) : Int) + 7), ((b.1.at' : Nat) : Int), true) := by
  unfold setC
  have e1 : (cellF zs name zs.length (hz zs (plc obj + 2)) (-1)).1 = -1 := by rw [hA.cell (name := name), hn]
  have e2 := hA.last hn
  have e3 : linkAt obj (lastP ps (-1)) = tailP a ps := by
    unfold linkAt lastP tailP
    cases ps.getLast? with
    | none => simp [plc_is ha]
    | some p =>
      show (if ((p : Nat) : Int) < 0 then _ else ((p : Nat) : Int).toNat + 3) = p + 3
      rw [if_neg (by omega), Int.toNat_natCast]
  rw [e1, e2, hf, if_neg (show ¬ (0 : Int) ≤ -1 by omega), e3]
theorem hz_taken4 {zs : List Int} {b : BkOf zs.length} {k j : Nat} (h4 : 4 ≤ b.1.size) (h1 : 1 ≤ j) (h2 : j < 4) : hz (takeL zs b.1 k 4) (b.1.at' + j) = 0 := by
  have hle := b.2.2.1
  unfold takeL
  split
  · rw [hz_layL (by simp; omega) (by omega), if_neg (by omega), if_pos (by omega)]
  · rw [hz_layL (by omega) (by omega), if_neg (by omega), if_pos (by omega)]
theorem cell_sets {zs : List Int} {b : BkOf zs.length} {n v : Int} (h4 : 4 ≤ b.1.size) : sets (takeL zs b.1 3 4) (b.1.at' + 1) [n, v, 0] = ((takeL zs b.1 3 4).set (b.1.at' + 1) n).set (b.1.at' + 2) v := by
  have hle := b.2.2.1
  have hl := takeL_length zs b.1 3 4
  show (((takeL zs b.1 3 4).set (b.1.at' + 1) n).set (b.1.at' + 1 + 1) v).set (b.1.at' + 1 + 1 + 1) 0 = _
  refine set_same (by simp; omega) ?_
  rw [hz_set (by simp; omega), if_neg (by omega), hz_set (by omega), if_neg (by omega)]
  exact hz_taken4 (zs := zs) (b := b) (k := 3) (j := 3) h4 (by omega) (by omega)
theorem tailP_lt {zs : List Int} {a : Nat} {v v' : Int} {ps : List Nat} (hA : All zs v ps v') (ha : a + 3 ≤ zs.length) : tailP a ps < zs.length := by
  unfold tailP
  cases h : ps.getLast? with
  | none => show a + 2 < _; omega
  | some p =>
    have := hA.le p (List.mem_of_getLast? h)
    show p + 3 < _
    omega
theorem namedP_le {zs : List Int} {name v v' : Int} {ps : List Nat} {q : Nat} (hA : All zs v ps v') (hn : namedP zs name ps = some q) : q + 4 ≤ zs.length := hA.le q (List.mem_of_find?_eq_some hn)
end Go.Proofs.Ytnamdleebijcbaa
