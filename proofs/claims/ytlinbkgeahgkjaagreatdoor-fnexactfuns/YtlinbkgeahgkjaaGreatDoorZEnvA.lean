/-
  What the library's variables hold, and that this stays.
-/
import Derived.Lib.AtoiErrMem
import Derived.Lib.LaidTab
import Derived.Test.YtlinbkgeahgkjaaGreatDoorShfC
import Derived.Test.YtlinbkgeahgkjaaGreatDoorZRdA
namespace Go.Proofs.YtlinbkgeahgkjaaGreatDoor
open Go.RowKit

structure EnvA (w : World) : Prop where
  mx : ∃ m, w.cell? ⟨0, 0, none⟩ = some (.int .i64 m)
  asc : Lib.TabIs Tryz.prog w "strings.asciiSpace" .u8 Lib.asciiSpaceTab
  pow : Lib.TabIs Tryz.prog w "internal/strconv.uint64pow10" .u64 Lib.pow10Tab
  esy : ∃ tp p, w.var? Tryz.prog "strconv.ErrSyntax" = some #[.iface tp p]
  era : ∃ tp p, w.var? Tryz.prog "strconv.ErrRange" = some #[.iface tp p]
theorem var_kept {w w' : World} {name : String} {cs : Array Value} (h : w.var? Tryz.prog name = some cs) (hk : Kept w w') : w'.var? Tryz.prog name = some cs := by
  unfold World.var? at h ⊢
  cases hg : Tryz.prog.globalNamed name with
  | none => rw [hg] at h; simp at h
  | some g =>
    rw [hg] at h
    simp only [Option.bind_some] at h ⊢
    cases hb : w.heap[g]? with
    | none => rw [hb] at h; simp at h
    | some o =>
      rw [hk.block g (Array.getElem?_eq_some_iff.1 hb).1, hb]
      rw [hb] at h
      exact h
theorem EnvA.kept {w w' : World} (h : EnvA w) (hk : Kept w w') : EnvA w' := by
  obtain ⟨⟨m, hm⟩, h2, h3, ⟨t1, p1, h4⟩, ⟨t2, p2, h5⟩⟩ := h
  exact ⟨⟨m, (hk.cell (World.block_lt_of_cell? _ _ hm)).trans hm⟩, var_kept h2 hk, var_kept h3 hk, ⟨t1, p1, var_kept h4 hk⟩, ⟨t2, p2, var_kept h5 hk⟩⟩
theorem kept_grow (w : World) (k : Nat) (os : Array Obj) : Kept w (Sort.grow (w.drewN k) os) := by
  have e : w.heap.size = (w.drewN k).heap.size := rfl
  exact ⟨rfl, rfl, rfl, by simp [Sort.grow, World.drewN], fun i hi => Sort.heap_grow_old _ _ (by rw [← e]; exact hi)⟩
theorem atoi_in {l : List UInt8} {v : Int} (h : Lib.atoiAll l = .ok v) : -9223372036854775808 ≤ v ∧ v ≤ 9223372036854775807 := by
  unfold Lib.atoiAll at h
  cases l with
  | nil => cases h
  | cons c r =>
    simp only at h
    split at h
    · cases h
    · cases h
    · rename_i u _
      split at h
      · cases h
      · split at h
        · cases h
        · injection h with h
          split at h <;> omega
theorem Itoa_any (n : Int) (hn : -9223372036854775808 ≤ n ∧ n ≤ 9223372036854775807) (w : World) (hE : EnvA w) : Calls Tryz.prog 95 #[.int .i64 n] w fun e w' => ∃ s, e = .returned (.string s) ∧ Kept w w' := by
  refine (lib_strconv_Itoa n hn.1 hn.2 w hE.pow).mono ?_
  rintro e w' ⟨rfl, k, os, rfl⟩
  exact ⟨_, rfl, kept_grow _ _ _⟩
theorem Atoi_any (s : ByteArray) (hs : s.size ≤ 1048576) (w : World) (hE : EnvA w) : Calls Tryz.prog 126 #[.string s] w fun e w' => ∃ n er, e = .returned (.tuple #[.int .i64 n, er]) ∧ ((er = .nilIface ∧ -9223372036854775808 ≤ n ∧ n ≤ 9223372036854775807) ∨ ∃ tp p, er = .iface tp (.pointer p)) ∧ Kept w w' := by
  cases h : Lib.atoiAll s.data.toList with
  | ok v =>
    refine (lib_strconv_Atoi_ok s (by omega) v h w).mono ?_
    rintro e w' ⟨rfl, rfl | ⟨t, rfl⟩⟩
    · exact ⟨_, _, rfl, .inl ⟨rfl, atoi_in h⟩, Below.refl _ _⟩
    · exact ⟨_, _, rfl, .inl ⟨rfl, atoi_in h⟩, Lib.bytesWorld_below _ _ _⟩
  | «syntax» =>
    obtain ⟨tp, p, hv⟩ := hE.esy
    refine (lib_strconv_Atoi_syntax_var s (by omega) h tp p w hv).mono ?_
    rintro e w' ⟨N, rfl, _, _, hk⟩
    exact ⟨_, _, rfl, .inr ⟨_, _, rfl⟩, hk⟩
  | range =>
    obtain ⟨tp, p, hv⟩ := hE.era
    refine (lib_strconv_Atoi_range_var s (by omega) h tp p w hv).mono ?_
    rintro e w' ⟨N, rfl, _, _, hk⟩
    exact ⟨_, _, rfl, .inr ⟨_, _, rfl⟩, hk⟩
end Go.Proofs.YtlinbkgeahgkjaaGreatDoor
