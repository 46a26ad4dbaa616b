/-
  Roots of one value and of two; the contract of the program's fillBlock.
-/
import Derived.Test.YtoemneijeepphaaObjF
import Derived.Test.YtoemneijeepphaaSlabQ
import Derived.Laws.CopyOwn
import Derived.Deep.RegionWith
namespace Go.Proofs.Ytoemneijeepphaa
open Go.RowKit
attribute [local go_sem] Plain.and7

theorem leads_any {zs : List Int} {v : Int} (h : v % 8 ≠ 7) (i j : Int) : leadsR zs v i = leadsR zs v j := by
  rcases kinds8 v with h | h | h | h | h | h | h | h
  all_goals first | (exfalso; omega) | simp [leadsR, wantK, h]
theorem roots2 {zs : List Int} {a b : Int} : rootsR zs [a, b] = (heapR zs && (leadsR zs a 5 && leadsR zs b 5)) := by
  unfold rootsR leadAll
  rw [show [a, b].length = 2 from rfl, allR_succ, allR_succ, allR_zero]
  simp [hz]
theorem roots1 {zs : List Int} {a : Int} : rootsR zs [a] = (heapR zs && leadsR zs a 5) := by
  unfold rootsR leadAll
  rw [show [a].length = 1 from rfl, allR_succ, allR_zero]
  simp [hz]
theorem Row.spliced {W : World} {g : Nat} {zs vs : List Int} {cur : List Value} {o : Nat} (hb : ∀ z ∈ zs, -9223372036854775808 ≤ z ∧ z ≤ 9223372036854775807) (hv : ∀ z ∈ vs, -9223372036854775808 ≤ z ∧ z ≤ 9223372036854775807) (hl : zs.length ≤ cur.length) (hc : ∀ j, j < zs.length → cur[j]? = some (.int .i64 (hz zs j))) (hfit : o + vs.length ≤ zs.length)
    (h : W.heap[g]? = some (.cells (splice cur o (vs.map (Value.int .i64))).toArray 3 (0, 0))) : Row W g (Go.Proofs.Ytoemneijeepphaa.sets zs o vs) := by
  have hlen : (splice cur o (vs.map (Value.int .i64))).length = cur.length := length_splice _ _ _ (by simp; omega)
  refine ⟨?_, _, h, ?_, fun j hj => ?_⟩
  · intro z hz'
    obtain ⟨j, hj, e⟩ := List.getElem_of_mem hz'
    have e1 : hz (Go.Proofs.Ytoemneijeepphaa.sets zs o vs) j = z := by simp [hz, List.getElem?_eq_getElem hj, e]
    rw [sets_len] at hj
    rw [hz_sets _ _ _ _ hfit] at e1
    rw [← e1]
    split
    · rename_i hh
      have : j - o < vs.length := by omega
      unfold hz
      rw [List.getElem?_eq_getElem this]
      exact hv _ (List.getElem_mem this)
    · unfold hz
      rw [List.getElem?_eq_getElem hj]
      exact hb _ (List.getElem_mem hj)
  · rw [sets_len, List.size_toArray, hlen]; exact hl
  · rw [sets_len] at hj
    rw [hz_sets _ _ _ _ hfit]
    simp only [List.getElem?_toArray, splice]
    by_cases h1 : j < o
    · rw [if_neg (by omega), List.getElem?_append_left (by simp; omega), List.getElem?_take, if_pos h1]
      exact hc j hj
    · rw [List.getElem?_append_right (by simp; omega)]
      rw [show (cur.take o).length = o by simp; omega]
      by_cases h2 : j < o + vs.length
      · rw [if_pos ⟨by omega, h2⟩, List.getElem?_append_left (by simp; omega)]
        have : j - o < vs.length := by omega
        simp [hz, List.getElem?_eq_getElem this]
      · rw [if_neg (by omega), List.getElem?_append_right (by simp; omega), List.getElem?_drop]
        rw [show o + (vs.map (Value.int .i64)).length + (j - o - (vs.map (Value.int .i64)).length) = j by simp; omega]
        exact hc j hj
theorem wpList_copy_grown {P : Program} {w : World} {ops : Array Oper} {rest : List Oper} {o : Oper} {a : Act} {Q : Exit → Act → World → Prop} (hgd : o.guard = none) (d s : Operand) (dT sT : TypeId)
    (ho : o.op = .call { callee := .builtin .copy, args := #[d, s], argTypes := #[dT, sT] }) (elem : TypeId) (hu : P.underlying dT = some (.slice elem)) (hsz : (P.info? elem).map (·.size) = some 1)
    (g off dLen dCap : Nat) (ad : Addr) (sLen sCap : Nat) (hd : a.eval d = .slice (some ⟨g, off, none⟩) dLen dCap) (hs : a.eval s = .slice (some ad) sLen sCap)
    (cur : Array Value) (t : TypeId) (hg : w.heap[g]? = some (.cells cur t (0, 0))) (cs : List Value) (hn : cs.length = Nat.min sLen dLen)
    (hsrc : ∀ j v, cs[j]? = some v → w.cell? (ad.add j) = some v) (hfit : off + cs.length ≤ cur.size) (h1 : ∀ v ∈ cs, v.oneCell' = true)
    (h : ∀ w', Hid (w'.heap[g]? = some (.cells (splice cur.toList off cs).toArray t (0, 0))) → w.grownBy w' (some g) → wpList P ops Q rest (a.put o.dst (goInt cs.length)) w') : wpList P ops Q (o :: rest) a w :=
  wpList_copy_own hgd d s dT sT ho elem hu hsz g off dLen dCap ad sLen sCap hd hs cur t hg cs hn hsrc hfit h1 (h _ (setRow_heap w g _ _ t _ hg) ⟨rfl, rfl, rfl, by simp [World.setRow], fun k _ hk => setRow_other w g k _ (fun e => hk (by rw [e]))⟩)
set_option maxHeartbeats 4000000 in
set_option maxRecDepth 100000 in
theorem fillBlock_ok (w : World) (g c : Nat) (ys : List Int) (a : Nat) (so : Option Addr) (sc : Nat) (vs : List Int) (hR : Row w g ys) (hS : Ints w so vs) (hpos : 0 < vs.length) (hfit : a + 1 + vs.length ≤ ys.length) (hc : ys.length ≤ c) (hl : ys.length ≤ 1048576) :
    Calls Try.prog 29 #[.slice (some ⟨g, 0, none⟩) ys.length c, .int .i64 (a : Int), .slice so vs.length sc] w fun e w' => (∃ v, e = .returned v) ∧ Row w' g (sets ys (a + 1) vs) ∧ w.grownBy w' (some g) := by
  obtain ⟨i0, hi, hz0, hz1, hz2⟩ := info_parts infoI
  have hsz : (Try.prog.info? 3).map (·.size) = some 1 := by rw [hi]; simp [hz1]
  obtain ⟨hb, cur, hg, hcl, hcc⟩ := hR
  have hg' : w.heap[g]? = some (.cells cur.toList.toArray 3 (0, 0)) := by simpa using hg
  have hsrc := hS.src hpos
  have t1 : ((a : Int) + 1).toNat = a + 1 := by omega
  have p1 : (a : Int) + 1 ≤ (ys.length : Int) := by omega
  obtain ⟨ad, rfl, hsr⟩ := hsrc
  go_enter Try.func29, Try.ntmps29
  go_wp2_with (refine wpList_copy_grown rfl (.tmp 9) (.tmp 10) 22 22 rfl 3 Try.underlying22 hsz g (a + 1) (ys.length - (a + 1)) (c - (a + 1)) ad vs.length sc rfl rfl cur 3 hg (vs.map (Value.int .i64)) (by rw [List.length_map]; exact (Nat.min_eq_left (by omega)).symm) hsr (by simp; omega) (by intro v hv; obtain ⟨z, _, rfl⟩ := List.mem_map.1 hv; rfl) ?_; intro w2 hrow hgr)
  go_end0
  refine ⟨⟨_, rfl⟩, ?_, hgr⟩
  exact Row.spliced hb hS.1 (by simpa using hcl) (fun j hj => by simpa using hcc j hj) (by omega) hrow.out
end Go.Proofs.Ytoemneijeepphaa
