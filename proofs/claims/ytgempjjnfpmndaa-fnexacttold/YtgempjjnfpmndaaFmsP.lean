/-
  The forms of ops (chapter 15): the table, impl.formOf; what a step's text is.
-/
import Derived.Test.YtgempjjnfpmndaaDigA
namespace Go.Proofs.Ytgempjjnfpmndaa
open Go.RowKit

/-- Each op's name, and what its A and B are. -/
def opTab : List (ByteArray × Int × Int) := [(⟨#[]⟩, 0, 0), (⟨#[105, 110, 116]⟩, 1, 0), (⟨#[116, 101, 120, 116]⟩, 2, 0), (⟨#[117, 110, 100, 101, 102]⟩, 0, 0), (⟨#[110, 117, 108, 108]⟩, 0, 0), (⟨#[116, 114, 117, 101]⟩, 0, 0), (⟨#[102, 97, 108, 115, 101]⟩, 0, 0), (⟨#[108, 111, 97, 100]⟩, 3, 4), (⟨#[115, 116, 111, 114, 101]⟩, 3, 4), (⟨#[103, 101, 116]⟩, 2, 0), (⟨#[112, 117, 116]⟩, 2, 0), (⟨#[111, 98, 106]⟩, 0, 0), (⟨#[99, 97, 108, 108]⟩, 5, 0), (⟨#[114, 101, 116, 117, 114, 110]⟩, 0, 0), (⟨#[97, 100, 100]⟩, 0, 0), (⟨#[115, 117, 98]⟩, 0, 0), (⟨#[109, 117, 108]⟩, 0, 0), (⟨#[108, 101, 115, 115]⟩, 0, 0), (⟨#[115, 97, 109, 101]⟩, 0, 0), (⟨#[110, 111, 116]⟩, 0, 0), (⟨#[106, 117, 109, 112]⟩, 6, 0), (⟨#[101, 108, 115, 101]⟩, 6, 0), (⟨#[112, 114, 105, 110, 116]⟩, 0, 0), (⟨#[112, 111, 112]⟩, 0, 0), (⟨#[102, 117, 110]⟩, 7, 0), (⟨#[102, 105, 101, 108, 100]⟩, 2, 0)]
theorem opTab_len : opTab.length = 26 := by decide
def formR (op : Int) : ByteArray × Int × Int := if op < 0 then (⟨#[]⟩, 0, 0) else opTab.getD op.toNat (⟨#[]⟩, 0, 0)
theorem formR_at {k : Nat} {e : ByteArray × Int × Int} (h : opTab[k]? = some e) : formR (k : Int) = e := by
  rw [formR, if_neg (by omega), List.getD_eq_getElem?_getD, show (k : Int).toNat = k from rfl, h]
  rfl
theorem formR_no {op : Int} (h : op < 0 ∨ 26 ≤ op) : formR op = (⟨#[]⟩, 0, 0) := by
  rw [formR]
  by_cases h0 : op < 0
  · rw [if_pos h0]
  · rw [if_neg h0, List.getD_eq_getElem?_getD, List.getElem?_eq_none (by rw [opTab_len]; omega)]
    rfl
def formV (e : ByteArray × Int × Int) : Value := .agg #[.string e.1, .int .i64 e.2.1, .int .i64 e.2.2]
end Go.Proofs.Ytgempjjnfpmndaa
