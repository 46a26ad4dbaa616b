/-
  All functions within a node: pure.
  Functions within a node, as they are gone through: pure. Each name once: pure.
-/
import Derived.Test.YtlinbkgeahgkjaaGreatDoorNodP
import Derived.Test.YtlinbkgeahgkjaaGreatDoorGrpWi
namespace Go.Proofs.YtlinbkgeahgkjaaGreatDoor
open Go.RowKit

mutual
/-- All functions within a node, itself too, in order. -/
def funL : Nd → List Nd
  | .mk op s n ks => (if op = 27 then [.mk op s n ks] else []) ++ funsL ks
def funsL : List Nd → List Nd
  | [] => []
  | k :: ks => funL k ++ funsL ks
end
theorem funsL_app (a b : List Nd) : funsL (a ++ b) = funsL a ++ funsL b := by
  induction a with
  | nil => rfl
  | cons x a ih => simp only [List.cons_append, funsL, ih, List.append_assoc]
end Go.Proofs.YtlinbkgeahgkjaaGreatDoor
namespace Go.Proofs.YtlinbkgeahgkjaaGreatDoor
open Go.RowKit

/-- The functions among nodes that were gone through, each with those within it. -/
def flF : List Nd → List Nd
  | [] => []
  | .mk op s n ks :: r => (if op = 27 then .mk op s n ks :: funsL ks else []) ++ flF r
theorem flF_app (a b : List Nd) : flF (a ++ b) = flF a ++ flF b := by
  induction a with
  | nil => rfl
  | cons x a ih => obtain ⟨op, s, n, ks⟩ := x; simp only [List.cons_append, flF, ih, List.append_assoc]
mutual
theorem wi_fun : ∀ t : Nd, flF (wiK t) = funL t
  | .mk op s n ks => by
    have h := wis_fun ks
    simp only [wiK, flF, funL]
    by_cases h27 : op = 27
    · simp [h27, flF]
    · simp [h27, h]
theorem wis_fun : ∀ ks : List Nd, flF (wisK ks) = funsL ks
  | [] => by simp [wisK, flF, funsL]
  | k :: ks => by
    have h1 := wi_fun k
    have h2 := wis_fun ks
    simp only [wisK, flF_app, funsL, h1, h2]
end
mutual
theorem fun_len : ∀ t : Nd, (funL t).length ≤ t.size
  | .mk op s n ks => by
    have := funs_len ks
    simp only [funL, Nd.size, List.length_append]
    split <;> simp <;> omega
theorem funs_len : ∀ ks : List Nd, (funsL ks).length ≤ sizesN ks
  | [] => Nat.le_refl 0
  | k :: ks => by
    have := fun_len k
    have := funs_len ks
    simp only [funsL, sizesN, List.length_append]
    omega
end
theorem flF_len {pre : List Nd} {ks : List Nd} (h : pre <+: wisK ks) : (flF pre).length ≤ sizesN ks := by
  obtain ⟨r, e⟩ := h
  have h1 := wis_fun ks
  rw [← e, flF_app] at h1
  have h2 := funs_len ks
  rw [← h1, List.length_append] at h2
  omega
open Classical in
/-- One name more, if it was not met. -/
noncomputable def onceS (seen : List ByteArray) (s : ByteArray) : List ByteArray := if s ∈ seen then seen else seen ++ [s]
noncomputable def onceT (ts : List ByteArray) : List ByteArray := ts.foldl onceS []
theorem onceT_nil : onceT [] = [] := rfl
theorem onceT_snoc (ts : List ByteArray) (s : ByteArray) : onceT (ts ++ [s]) = onceS (onceT ts) s := by simp [onceT, List.foldl_append]
theorem onceT_take {ts : List ByteArray} {k : Nat} {s : ByteArray} (h : ts[k]? = some s) : onceT (ts.take (k + 1)) = onceS (onceT (ts.take k)) s := by
  rw [List.take_add_one, h]
  exact onceT_snoc _ _
theorem onceS_len (seen : List ByteArray) (s : ByteArray) : (onceS seen s).length ≤ seen.length + 1 := by unfold onceS; split <;> simp
theorem onceT_len (ts : List ByteArray) : (onceT ts).length ≤ ts.length := by
  suffices h : ∀ (ts seen : List ByteArray), (ts.foldl onceS seen).length ≤ seen.length + ts.length by simpa [onceT] using h ts []
  intro ts
  induction ts with
  | nil => intro seen; simp
  | cons s ts ih =>
    intro seen
    have h1 := ih (onceS seen s)
    have h2 := onceS_len seen s
    simp only [List.foldl_cons, List.length_cons]
    omega
end Go.Proofs.YtlinbkgeahgkjaaGreatDoor
