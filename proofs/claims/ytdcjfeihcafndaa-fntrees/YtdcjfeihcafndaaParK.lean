/-
  Chapter 12's models, weakly told: all of them, by how many tokens are left; spec.Parse.
-/
import Derived.Test.YtdcjfeihcafndaaParJ
import Derived.Test.YtdcjfeihcafndaaNodA
namespace Go.Proofs.Ytdcjfeihcafndaa
open Go.RowKit
set_option linter.unusedSimpArgs false
attribute [local go_sem] Plain.and7

theorem all_ok (c g cap : Nat) (ts : List Tok) (hts : TsOk ts) : ∀ m, POk 35 1 c g cap ts m ∧ POk 52 1 c g cap ts m ∧ POk 49 1 c g cap ts m ∧ POk 28 2 c g cap ts m := by
  intro m
  induction m with
  | zero =>
    have no : ∀ F k, POk F k c g cap ts 0 := fun F k w p bad h hm => by have := h.lt; omega
    exact ⟨no _ _, no _ _, no _ _, no _ _⟩
  | succ m ih =>
    obtain ⟨hE, hU, hB, hS⟩ := ih
    have hF := l12Function_ok c g cap ts hts m hB
    have hO := l12Object_ok c g cap ts hts m hE
    have hA := l12Atom_ok c g cap ts hts m hE hO hF
    have hU' := l12Unary_ok c g cap ts hts m hU hE hA
    have hE' := l12Expr_ok c g cap ts hts _ (l12Sum_ok c g cap ts hts _ (l12Product_ok c g cap ts hts _ hU'))
    have hS' := l12Stmt_ok c g cap ts hts m hE' (l12Cond_ok c g cap ts hts m hE hB) (l12Ends_ok c g cap ts hts m hE)
    exact ⟨hE', hU', l12Block_ok c g cap ts hts _ hS', hS'⟩
end Go.Proofs.Ytdcjfeihcafndaa
