/-
  The forms of ops (chapter 15): the table, impl.formOf; what a step's text is.
-/
import Derived.Test.YthmabhglmgnamaaDoorDigA
namespace Go.Proofs.YthmabhglmgnamaaDoor
open Go.RowKit

/-- Each op's name, and what its A and B are. -/
def opTab : List (ByteArray × Int × Int) := [(⟨#[]⟩, 0, 0), (⟨#[105, 110, 116]⟩, 1, 0), (⟨#[116, 101, 120, 116]⟩, 2, 0), (⟨#[117, 110, 100, 101, 102]⟩, 0, 0), (⟨#[110, 117, 108, 108]⟩, 0, 0), (⟨#[116, 114, 117, 101]⟩, 0, 0), (⟨#[102, 97, 108, 115, 101]⟩, 0, 0), (⟨#[108, 111, 97, 100]⟩, 3, 4), (⟨#[115, 116, 111, 114, 101]⟩, 3, 4), (⟨#[103, 101, 116]⟩, 2, 0), (⟨#[112, 117, 116]⟩, 2, 0), (⟨#[111, 98, 106]⟩, 0, 0), (⟨#[99, 97, 108, 108]⟩, 5, 0), (⟨#[114, 101, 116, 117, 114, 110]⟩, 0, 0), (⟨#[97, 100, 100]⟩, 0, 0), (⟨#[115, 117, 98]⟩, 0, 0), (⟨#[109, 117, 108]⟩, 0, 0), (⟨#[108, 101, 115, 115]⟩, 0, 0), (⟨#[115, 97, 109, 101]⟩, 0, 0), (⟨#[110, 111, 116]⟩, 0, 0), (⟨#[106, 117, 109, 112]⟩, 6, 0), (⟨#[101, 108, 115, 101]⟩, 6, 0), (⟨#[112, 114, 105, 110, 116]⟩, 0, 0), (⟨#[112, 111, 112]⟩, 0, 0), (⟨#[102, 117, 110]⟩, 7, 0), (⟨#[102, 105, 101, 108, 100]⟩, 2, 0)]
theorem opTab_len : opTab.length = 26 := by decide
/-- The table lies in the variable opForms. -/
def Forms (w : World) : Prop := ∀ (k : Nat) (e : ByteArray × Int × Int), opTab[k]? = some e → w.cell? ⟨1, k * 3, none⟩ = some (.string e.1) ∧ w.cell? ⟨1, k * 3 + 1, none⟩ = some (.int .i64 e.2.1) ∧ w.cell? ⟨1, k * 3 + 2, none⟩ = some (.int .i64 e.2.2)
theorem Forms.kept {w w' : World} (h : Forms w) (hk : Kept w w') : Forms w' := by
  intro k e he
  obtain ⟨h0, h1, h2⟩ := h k e he
  exact ⟨(hk.cell (World.block_lt_of_cell? _ _ h0)).trans h0, (hk.cell (World.block_lt_of_cell? _ _ h1)).trans h1, (hk.cell (World.block_lt_of_cell? _ _ h2)).trans h2⟩
def formR (op : Int) : ByteArray × Int × Int := if op < 0 then (⟨#[]⟩, 0, 0) else opTab.getD op.toNat (⟨#[]⟩, 0, 0)
theorem formR_at {k : Nat} {e : ByteArray × Int × Int} (h : opTab[k]? = some e) : formR (k : Int) = e := by
  rw [formR, if_neg (by omega), List.getD_eq_getElem?_getD, show (k : Int).toNat = k from rfl, h]
  rfl
theorem formR_no {op : Int} (h : op < 0 ∨ 26 ≤ op) : formR op = (⟨#[]⟩, 0, 0) := by
  rw [formR]
  by_cases h0 : op < 0
  · rw [if_pos h0]
  · rw [if_neg h0, List.getD_eq_getElem?_getD, List.getElem?_eq_none (by rw [opTab_len]; omega)]
    rfl
def formV (e : ByteArray × Int × Int) : Value := .agg #[.string e.1, .int .i64 e.2.1, .int .i64 e.2.2]
set_option maxHeartbeats 4000000 in
set_option maxRecDepth 100000 in
theorem formOf_ok (w : World) (op : Int) (hF : Forms w) :
    Calls Tryd.prog 48 #[.int .i64 op] w fun e w' => e = .returned (formV (formR op)) ∧ Kept w w' := by
  have k0 : Kept w (w.alloc (.cells #[.string ⟨#[]⟩, .int .i64 0, .int .i64 0] 84)) := Kept.alloc (Below.refl _ _) _
  by_cases h0 : op < 0
  · have HR : Hid (formR op = (⟨#[]⟩, 0, 0)) := formR_no (.inl h0)
    go_enter Tryd.func48, Tryd.ntmps48
    go_wp2_with fail
    refine bodyPost_ret (v := .agg #[.string ⟨#[]⟩, .int .i64 0, .int .i64 0]) (by simp [results, Tryd.results48, go_sem]) rfl ⟨by rw [HR.out]; rfl, ?_⟩
    exact k0
  · by_cases h1 : op < 26
    · obtain ⟨k, rfl⟩ : ∃ k : Nat, op = k := ⟨op.toNat, by omega⟩
      obtain ⟨e, he⟩ : ∃ e, opTab[k]? = some e := ⟨_, List.getElem?_eq_getElem (by rw [opTab_len]; omega)⟩
      have HR : Hid (formR (k : Int) = e) := formR_at he
      obtain ⟨f0, f1, f2⟩ := (hF.kept k0) k e he
      obtain ⟨n, a, b⟩ := e
      have hl : (k : Int) < 26 := h1
      have hn : ¬ (k : Int) ≥ 26 := by omega
      have b0 := Cells.new w 84 #[.string ⟨#[]⟩, .int .i64 0, .int .i64 0]
      have lt0 : 1 < w.heap.size := World.block_lt_of_cell? _ _ (hF k (n, a, b) he).1
      clear hF he h0 h1
      go_enter Tryd.func48, Tryd.ntmps48
      go_wp2_with fail
      refine bodyPost_ret (v := .agg #[.string n, .int .i64 a, .int .i64 b]) (by simp [results, Tryd.results48, go_sem]) rfl ⟨by rw [HR.out]; rfl, ?_⟩
      exact Kept.alloc (Below.refl _ _) _
    · have HR : Hid (formR op = (⟨#[]⟩, 0, 0)) := formR_no (.inr (by omega))
      have hn : op ≥ 26 := by omega
      have hn' : (26 : Int) ≤ op := hn
      go_enter Tryd.func48, Tryd.ntmps48
      go_wp2_with fail
      refine bodyPost_ret (v := .agg #[.string ⟨#[]⟩, .int .i64 0, .int .i64 0]) (by simp [results, Tryd.results48, go_sem]) rfl ⟨by rw [HR.out]; rfl, ?_⟩
      exact k0
end Go.Proofs.YthmabhglmgnamaaDoor
