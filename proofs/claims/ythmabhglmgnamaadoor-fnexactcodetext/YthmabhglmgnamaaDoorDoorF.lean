/-
  What the variable opForms holds when the call begins.
-/
import Derived.Test.YthmabhglmgnamaaDoorRows
import Derived.Test.YthmabhglmgnamaaDoorFmsP
import Derived.LaidLaws
import Derived.LaidHandle
import Derived.Lib.LaidTab
namespace Go.Proofs.YthmabhglmgnamaaDoor
open Go.RowKit

theorem laid : laidOutB Tryd.prog = true := by kernel_rfl
theorem formsT : (Tryd.prog.globalNamed "loop.example/g00242/impl.opForms").bind (fun g => (Tryd.prog.globals[g]?).map (·.type)) = some 98 := by kernel_rfl
theorem formsG : Tryd.prog.globalNamed "loop.example/g00242/impl.opForms" = some 1 := by kernel_rfl
theorem formsC3 : Tryd.prog.cellsOf 84 = 3 := by kernel_rfl
theorem formsC78 : Tryd.prog.cellsOf 98 = 78 := by kernel_rfl
theorem formsCs : Tryd.prog.cellsOf 9 = 1 := by kernel_rfl
theorem formsCo : Tryd.prog.cellsOf 82 = 1 := by kernel_rfl
def formD (e : ByteArray × Int × Int) : DataW Unit := .agg [.lit (.string e.1.data.toList), .lit (.int .i64 e.2.1), .lit (.int .i64 e.2.2)]
theorem formsD : (Rows.laid_loop_example_g00242_impl_opForms : DataW Unit) = .agg (opTab.map formD) := by kernel_rfl
theorem bytes_inj {s t : ByteArray} (h : s.data.toList = t.data.toList) : s = t := by
  cases s; cases t
  simp only [ByteArray.mk.injEq]
  exact Array.toList_inj.1 h
set_option maxRecDepth 100000 in
theorem cells_of_forms {enc : TypeId × Value → Unit} {w : World} {base : Nat} {sp : Nat → Bool} {held : Bool} {fuel : Nat} {cs : List Value} {p : List MemPlace}
    (h : DataW.trod enc Tryd.prog w base sp held fuel 98 cs = some (.agg (opTab.map formD), p)) (k : Nat) (e : ByteArray × Int × Int) (he : opTab[k]? = some e) :
    cs[k * 3]? = some (.string e.1) ∧ cs[k * 3 + 1]? = some (.int .i64 e.2.1) ∧ cs[k * 3 + 2]? = some (.int .i64 e.2.2) := by
  have hk : k < 26 := by rw [← opTab_len]; exact (List.getElem?_eq_some_iff.1 he).1
  cases fuel with
  | zero => simp [DataW.trod] at h
  | succ fuel =>
    simp only [DataW.trod, Tryd.underlying98, formsC3, formsC78] at h
    split at h
    · rename_i hl
      obtain ⟨xs, hm, hx⟩ := Option.map_eq_some_iff.1 h
      have hxs : xs.map (·.1) = opTab.map formD := by
        have := congrArg Prod.fst hx
        simpa using this
      obtain ⟨b, hb, hf⟩ := Go.Lib.mapM_at hm k k (by simp [hk])
      have hb1 : b.1 = formD e := by
        have := congrArg (·[k]?) hxs
        simp only [List.getElem?_map, hb, he, Option.map_some, Option.some.injEq] at this
        exact this
      obtain ⟨ys, n, _, rfl, hl2, hlen, hff⟩ := DataW.trod_struct Tryd.underlying84 hf
      obtain ⟨y0, y1, y2, rfl⟩ : ∃ y0 y1 y2, ys = [y0, y1, y2] := by
        match ys, hlen with
        | [y0, y1, y2], _ => exact ⟨y0, y1, y2, rfl⟩
      obtain ⟨s, e0, d0, _⟩ := DataW.trod_string Tryd.underlying9 (hff 0 _ rfl)
      obtain ⟨a, e1, d1, _⟩ := DataW.trod_int Tryd.underlying82 (hff 1 _ rfl)
      obtain ⟨c, e2, d2, _⟩ := DataW.trod_int Tryd.underlying82 (hff 2 _ rfl)
      subst d0 d1 d2
      simp only [List.map_cons, List.map_nil, formD, DataW.agg.injEq, List.cons.injEq, DataW.lit.injEq, Lit.string.injEq, Lit.int.injEq, true_and, and_true] at hb1
      obtain ⟨f0, f1, f2⟩ := hb1
      have g0 := congrArg (·[0]?) e0
      have g1 := congrArg (·[0]?) e1
      have g2 := congrArg (·[0]?) e2
      simp [formsCs, formsCo, List.getElem?_drop] at g0 g1 g2
      refine ⟨?_, ?_, ?_⟩
      · rw [g0, bytes_inj f0]
      · rw [g1, f1]
      · rw [g2, f2]
    · cases h
/-- From what is listed of the variable to its cells. -/
theorem forms_of {W : World} {g t : Nat} {cs : Array Value} {fuel : Nat} {enc : TypeId × Value → Unit} {base : Nat} {sp : Nat → Bool} {held : Bool} {p : List MemPlace}
    (hg : Tryd.prog.globalNamed "loop.example/g00242/impl.opForms" = some g) (ht : (Tryd.prog.globals[g]?).map (·.type) = some t) (hv : W.var? Tryd.prog "loop.example/g00242/impl.opForms" = some cs)
    (hd : DataW.trod enc Tryd.prog W base sp held fuel t cs.toList = some (Rows.laid_loop_example_g00242_impl_opForms, p)) : Forms W := by
  have e : t = 98 := by
    have := formsT
    rw [hg] at this
    exact Option.some.inj (ht.symm.trans this)
  subst e
  rw [formsD] at hd
  intro k x hx
  obtain ⟨h0, h1, h2⟩ := cells_of_forms hd k x hx
  refine ⟨?_, ?_, ?_⟩
  · rw [World.var?_cell formsG hv]; simpa using h0
  · rw [World.var?_cell formsG hv]; simpa using h1
  · rw [World.var?_cell formsG hv]; simpa using h2
/-- The cells of a table that is written out. -/
def flatD : DataW Unit → List Value
  | .agg l => l.flatMap (fun | .lit (.int k z) => [Value.int k z] | .agg m => m.map (fun | .lit (.int k z) => Value.int k z | .lit (.string s) => Value.string ⟨s.toArray⟩ | _ => undef) | _ => [undef])
  | _ => []
def layF (d : DataW Unit) : Obj → Obj
  | .cells _ t fz => .cells (flatD d).toArray t fz
  | o => o
end Go.Proofs.YthmabhglmgnamaaDoor
