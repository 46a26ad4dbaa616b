/-
  What the variable outNames holds when the call begins.
-/
import Derived.Test.YthmabhglmgnamaaDoorRows
import Derived.Test.YthmabhglmgnamaaDoorOutA
import Derived.LaidLaws
import Derived.LaidHandle
import Derived.Lib.LaidTab
namespace Go.Proofs.YthmabhglmgnamaaDoor
open Go.RowKit

theorem outsTy : (Tryd.prog.globalNamed "loop.example/g00242/impl.outNames").bind (fun g => (Tryd.prog.globals[g]?).map (·.type)) = some 68 := by kernel_rfl
theorem outsG : Tryd.prog.globalNamed "loop.example/g00242/impl.outNames" = some 0 := by kernel_rfl
theorem outsC1 : Tryd.prog.cellsOf 9 = 1 := by kernel_rfl
theorem outsC6 : Tryd.prog.cellsOf 68 = 6 := by kernel_rfl
def outD (e : ByteArray) : DataW Unit := .lit (.string e.data.toList)
theorem outsD : (Rows.laid_loop_example_g00242_impl_outNames : DataW Unit) = .agg (outTab.map outD) := by kernel_rfl
theorem bytesO_inj {s t : ByteArray} (h : s.data.toList = t.data.toList) : s = t := by
  cases s; cases t
  simp only [ByteArray.mk.injEq]
  exact Array.toList_inj.1 h
set_option maxRecDepth 100000 in
theorem cells_of_outs {enc : TypeId × Value → Unit} {w : World} {base : Nat} {sp : Nat → Bool} {held : Bool} {fuel : Nat} {cs : List Value} {p : List MemPlace}
    (h : DataW.trod enc Tryd.prog w base sp held fuel 68 cs = some (.agg (outTab.map outD), p)) (k : Nat) (e : ByteArray) (he : outTab[k]? = some e) :
    cs[k]? = some (.string e) := by
  have hk : k < 6 := by rw [← outTab_len]; exact (List.getElem?_eq_some_iff.1 he).1
  cases fuel with
  | zero => simp [DataW.trod] at h
  | succ fuel =>
    simp only [DataW.trod, Tryd.underlying68, outsC1, outsC6] at h
    split at h
    · rename_i hl
      obtain ⟨xs, hm, hx⟩ := Option.map_eq_some_iff.1 h
      have hxs : xs.map (·.1) = outTab.map outD := by
        have := congrArg Prod.fst hx
        simpa using this
      obtain ⟨b, hb, hf⟩ := Go.Lib.mapM_at hm k k (by simp [hk])
      have hb1 : b.1 = outD e := by
        have := congrArg (·[k]?) hxs
        simp only [List.getElem?_map, hb, he, Option.map_some, Option.some.injEq] at this
        exact this
      obtain ⟨s, e0, d0, _⟩ := DataW.trod_string Tryd.underlying9 hf
      subst d0
      simp only [outD, DataW.lit.injEq, Lit.string.injEq] at hb1
      have g0 := congrArg (·[0]?) e0
      simp [List.getElem?_drop] at g0
      rw [g0, bytesO_inj hb1]
    · cases h
/-- From what is listed of the variable to its cells. -/
theorem outs_of {W : World} {g t : Nat} {cs : Array Value} {fuel : Nat} {enc : TypeId × Value → Unit} {base : Nat} {sp : Nat → Bool} {held : Bool} {p : List MemPlace}
    (hg : Tryd.prog.globalNamed "loop.example/g00242/impl.outNames" = some g) (ht : (Tryd.prog.globals[g]?).map (·.type) = some t) (hv : W.var? Tryd.prog "loop.example/g00242/impl.outNames" = some cs)
    (hd : DataW.trod enc Tryd.prog W base sp held fuel t cs.toList = some (Rows.laid_loop_example_g00242_impl_outNames, p)) : Outs W := by
  have e : t = 68 := by
    have := outsTy
    rw [hg] at this
    exact Option.some.inj (ht.symm.trans this)
  subst e
  rw [outsD] at hd
  intro k x hx
  have h0 := cells_of_outs hd k x hx
  rw [World.var?_cell outsG hv]; simpa using h0
/-- The cells of a table that is written out. -/
def flatO : DataW Unit → List Value
  | .agg l => l.map (fun | .lit (.int k z) => Value.int k z | .lit (.string s) => Value.string ⟨s.toArray⟩ | _ => undef)
  | _ => []
def layO (d : DataW Unit) : Obj → Obj
  | .cells _ t fz => .cells (flatO d).toArray t fz
  | o => o
end Go.Proofs.YthmabhglmgnamaaDoor
