/-
  Rows of texts, and what Names tells (facts on lists).
-/
import Derived.Test.YtlgaamhjpkkjmaaOwnA
import Derived.Test.YtlgaamhjpkkjmaaTextB
import Derived.Deep.RegionWith
import Derived.Deep.CutRange
import Derived.Deep.RegionHeld3
import Derived.Deep.AppendLies
namespace Go.Proofs.Ytlgaamhjpkkjmaa
open Go.RowKit
attribute [local go_sem] Plain.and7 Instr.field asAgg

theorem infoS : (Try.prog.info? 9).map (fun i => (i.zero, i.size, i.bytes)) = some (some (.string ⟨#[]⟩), 1, 16) := by kernel_rfl
/-- The text that a value names. -/
def txtP (zs : List Int) (v : Int) : ByteArray := strOfNums (textL zs (plc v))
def txtsP (zs : List Int) (ps : List Nat) : List ByteArray := ps.map (fun p => txtP zs (hz zs (p + 1)))
theorem txtsP_snoc (zs : List Int) (ps : List Nat) (p : Nat) : (txtsP zs (ps ++ [p])).map Value.string = (txtsP zs ps).map Value.string ++ [.string (txtP zs (hz zs (p + 1)))] := by simp [txtsP]
theorem txtsP_len (zs : List Int) (ps : List Nat) : (txtsP zs ps).length = ps.length := by simp [txtsP]
def OwnS (W : World) (base : Nat) (v : Value) (ts : List ByteArray) : Prop := W.ownsRow base 9 1 v ts.length (ts.map Value.string)
theorem OwnS.kept {W W' : World} {base : Nat} {v : Value} {ts : List ByteArray} (h : OwnS W base v ts) (hk : Kept W W') : OwnS W' base v ts := World.ownsRow.kept h hk.grown (by cases e : v.ownBlock <;> simp)
theorem OwnS.block {W : World} {base : Nat} {v : Value} {ts : List ByteArray} (h : OwnS W base v ts) : ∀ j, v.ownBlock = some j → base ≤ j ∧ j < W.heap.size := by
  intro j hj
  rcases h.2 with ⟨rfl, _⟩ | ⟨g, cap, cur, rfl, hb, hg, _⟩
  · simp [Value.ownBlock] at hj
  · simp [Value.ownBlock] at hj
    subst hj
    exact ⟨hb, (Array.getElem?_eq_some_iff.1 hg).1⟩
theorem OwnS.shape {W : World} {base : Nat} {v : Value} {ts : List ByteArray} (h : OwnS W base v ts) : ∃ ao cap, v = .slice ao ts.length cap := by
  rcases h.2 with ⟨rfl, hn⟩ | ⟨g, cap, cur, rfl, _⟩
  · exact ⟨none, 0, by rw [hn]⟩
  · exact ⟨_, cap, rfl⟩
theorem OwnS.base {W : World} {a b : Nat} {v : Value} {ts : List ByteArray} (h : OwnS W b v ts) (hab : a ≤ b) : OwnS W a v ts := ownsRow_base h hab
theorem Path.det {zs : List Int} : ∀ {ps qs : List Nat} {v : Int}, Path zs v ps 0 → Path zs v qs 0 → ps = qs
  | [], [], _, _, _ => rfl
  | [], _ :: _, v, h, k => absurd (show (0 : Int) = v from h).symm k.1
  | _ :: _, [], v, h, k => absurd (show (0 : Int) = v from k).symm h.1
  | p :: ps, q :: qs, v, h, k => by
    have e : p = q := h.2.1.symm.trans k.2.1
    subst e
    rw [Path.det h.2.2 k.2.2]
theorem chase_path {zs : List Int} : ∀ (n : Nat) (v : Int), chase zs n v = 0 → ∃ ps : List Nat, ps.length ≤ n ∧ Path zs v ps 0
  | 0, v, h => ⟨[], by simp, (show v = 0 from h).symm⟩
  | n + 1, v, h => by
    by_cases h0 : v = 0
    · exact ⟨[], by simp, h0.symm⟩
    · simp only [chase, if_neg h0] at h
      obtain ⟨ps, h1, h2⟩ := chase_path n _ h
      exact ⟨plc v :: ps, by simpa using h1, h0, rfl, h2⟩
theorem OwnC.cels {W : World} {base cc : Nat} {ca : Option Addr} {zs : List Int} {ps : List Nat} (h : OwnC W base (.slice ca ps.length cc) zs ps) : CelsAt W ca zs ps := by
  obtain ⟨_, _, e, _, h'⟩ := h.at
  cases e
  exact h'
theorem Path.cells {zs : List Int} {v' : Int} (hh : heapR zs = true) : ∀ {ps : List Nat} {v : Int}, Path zs v ps v' → nextR zs v 3 = true → ∀ p ∈ ps, ∃ u, u ≠ 0 ∧ nextR zs u 3 = true ∧ plc u = p
  | [], _, _, _, p, hp => by simp at hp
  | q :: qs, v, h, hv, p, hp => by
    rcases List.mem_cons.1 hp with rfl | hp
    · exact ⟨v, h.1, hv, h.2.1⟩
    · obtain ⟨n, s, e, _, _, _, hn⟩ := next_facts hh hv h.1
      have e2 : q = n := h.2.1.symm.trans (plc_is e)
      subst e2
      exact Path.cells hh h.2.2 hn p hp
/-- What Names tells: the texts, where there is an object whose cells go in no circle. -/
def namesR (zs : List Int) (obj : Int) : Bool := heapR zs && isOb zs obj && !roundR zs obj
/-- A cell's name leads to a text. -/
theorem cell_name {zs : List Int} {v : Int} (hh : heapR zs = true) (hv : nextR zs v 3 = true) (h0 : v ≠ 0) : ∃ (p m t : Nat), plc v = p ∧ v / 8 = (p : Int) ∧ p + 4 ≤ zs.length ∧ nextR zs (hz zs (p + 3)) 3 = true ∧ hz zs (p + 1) / 8 = (m : Int) ∧ -9223372036854775808 ≤ hz zs (p + 1) ∧ hz zs (p + 1) ≤ 9223372036854775807 ∧ m + t + 2 ≤ zs.length ∧ hz zs (m + 1) = (t : Int) ∧ (∀ i, i < t → 0 ≤ hz zs (m + 2 + i) ∧ hz zs (m + 2 + i) ≤ 255) ∧ txtP zs (hz zs (p + 1)) = strOfNums (bytesL zs (m + 2) t) := by
  unfold nextR at hv
  simp only [Bool.and_eq_true, Bool.or_eq_true, decide_eq_true_eq, h0, false_or] at hv
  have hk := leads_kind hv.2 (by omega)
  rw [hv.1] at hk
  obtain ⟨n, s, e, h1, h2, _, _, h4⟩ := kind_block (k := 3) hh (by rw [hk]; simp [wantK])
  rw [blk_cell] at h4
  unfold cellR at h4
  simp only [Bool.and_eq_true, decide_eq_true_eq] at h4
  obtain ⟨b, hb, eb, hkb, hm⟩ := leads_text h4.1.1.1.1.2 h4.1.1.1.2
  obtain ⟨t, ht, hts, hby⟩ := text_facts hh hm hkb
  have hble := b.2.2.1
  have hlen := (slabOk_iff.1 (heapR_slab hh)).1
  refine ⟨n, b.1.at', t, plc_is e, e, by omega, h4.1.2, eb, by omega, by omega, by omega, ht, hby, ?_⟩
  unfold txtP textL
  rw [plc_is eb, ht]
  simp

end Go.Proofs.Ytlgaamhjpkkjmaa
