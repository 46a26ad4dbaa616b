/-
  Facts on lists: the cells of an object, one behind the other, each once.
  The contracts of the program's small functions on cells: cellAt, whether one is among others, the first one with a name.
  The contracts of the program's functions on the cells of an object: the first one with a name, all of them, whether they go in a circle; an object.
  The contracts of the program's cellsFrom and objectAt: all cells of an object, each once.
  What chapter 5 asks of its values, in the program and in its models; Own of both.
-/
import Derived.Deep.RegionWith
import Derived.Test.YtpbafjcoomfooaaGreatGrpE
import Derived.Test.YtpbafjcoomfooaaGreatHelpL
import Derived.Test.YtpbafjcoomfooaaGreatGrpTu
namespace Go.Proofs.YtpbafjcoomfooaaGreat
open Go.RowKit

/-- From the link v on the cells ps lie one behind the other, up to the link v'. -/
def Path (zs : List Int) : Int → List Nat → Int → Prop
  | v, [], v' => v' = v
  | v, p :: ps, v' => v ≠ 0 ∧ plc v = p ∧ Path zs (hz zs (p + 3)) ps v'
theorem Path.snoc {zs : List Int} {v' : Int} (h0 : v' ≠ 0) : ∀ {ps : List Nat} {v : Int}, Path zs v ps v' → Path zs v (ps ++ [plc v']) (hz zs (plc v' + 3))
  | [], v, h => by
    have e : v' = v := h
    subst e
    exact ⟨h0, rfl, rfl⟩
  | p :: ps, v, h => ⟨h.1, h.2.1, Path.snoc h0 h.2.2⟩
theorem Path.chase {zs : List Int} {v' : Int} (n : Nat) : ∀ {ps : List Nat} {v : Int}, Path zs v ps v' → Go.Proofs.YtpbafjcoomfooaaGreat.chase zs (ps.length + n) v = Go.Proofs.YtpbafjcoomfooaaGreat.chase zs n v'
  | [], v, h => by
    have e : v' = v := h
    subst e
    simp
  | p :: ps, v, h => by
    have e : (p :: ps).length + n = (ps.length + n) + 1 := by simp; omega
    rw [e]
    simp only [Go.Proofs.YtpbafjcoomfooaaGreat.chase, if_neg h.1, h.2.1]
    exact Path.chase n h.2.2
/-- The last one, or what was there. -/
def lastP (ps : List Nat) (last : Int) : Int := match ps.getLast? with | some p => ((p : Nat) : Int) | none => last
theorem lastP_cons (p : Nat) (ps : List Nat) (last : Int) : lastP (p :: ps) last = lastP ps ((p : Nat) : Int) := by
  unfold lastP
  cases ps with
  | nil => rfl
  | cons q qs => simp [List.getLast?_cons]
def namedP (zs : List Int) (name : Int) (ps : List Nat) : Option Nat := ps.find? (fun p => decide (hz zs (p + 1) = name))
theorem Path.miss {zs : List Int} {name v' : Int} (n : Nat) : ∀ {ps : List Nat} {v last : Int}, Path zs v ps v' → namedP zs name ps = none → cellF zs name (ps.length + n) v last = cellF zs name n v' (lastP ps last)
  | [], v, last, h, _ => by
    have e : v' = v := h
    subst e
    simp [lastP]
  | p :: ps, v, last, h, hn => by
    have e : (p :: ps).length + n = (ps.length + n) + 1 := by simp; omega
    unfold namedP at hn
    rw [List.find?_cons] at hn
    split at hn
    · cases hn
    · rename_i hd
      have hd' : ¬ hz zs (p + 1) = name := by simpa using hd
      rw [e, lastP_cons]
      simp only [cellF, if_neg h.1, h.2.1, if_neg hd']
      exact Path.miss n h.2.2 hn
theorem Path.hit {zs : List Int} {name v' : Int} {q : Nat} (n : Nat) : ∀ {ps : List Nat} {v last : Int}, Path zs v ps v' → namedP zs name ps = some q → (cellF zs name (ps.length + n) v last).1 = ((q : Nat) : Int)
  | [], v, last, h, hn => by simp [namedP] at hn
  | p :: ps, v, last, h, hn => by
    have e : (p :: ps).length + n = (ps.length + n) + 1 := by simp; omega
    unfold namedP at hn
    rw [List.find?_cons] at hn
    rw [e]
    split at hn
    · rename_i hd
      have hd' : hz zs (p + 1) = name := by simpa using hd
      cases hn
      simp only [cellF, if_neg h.1, h.2.1, if_pos hd']
    · rename_i hd
      have hd' : ¬ hz zs (p + 1) = name := by simpa using hd
      simp only [cellF, if_neg h.1, h.2.1, if_neg hd']
      exact Path.hit n h.2.2 hn
theorem Path.next {zs : List Int} {v' : Int} {q : Nat} : ∀ {ps : List Nat} {v : Int}, Path zs v ps v' → q ∈ ps → hz zs (q + 3) = v' ∨ (hz zs (q + 3) ≠ 0 ∧ plc (hz zs (q + 3)) ∈ ps)
  | [], v, h, hq => by simp at hq
  | [p], v, h, hq => by
    have e : q = p := by simpa using hq
    subst e
    exact .inl h.2.2.symm
  | p :: r :: ps, v, h, hq => by
    rcases List.mem_cons.1 hq with rfl | hq
    · exact .inr ⟨h.2.2.1, by rw [h.2.2.2.1]; simp⟩
    · rcases Path.next h.2.2 hq with h1 | ⟨h1, h2⟩
      · exact .inl h1
      · exact .inr ⟨h1, List.mem_cons_of_mem _ h2⟩
theorem Path.circle {zs : List Int} {v v' : Int} {ps : List Nat} (h : Path zs v ps v') (h0 : v' ≠ 0) (hm : plc v' ∈ ps) : ∀ (n : Nat) (u : Int), u ≠ 0 → plc u ∈ ps → Go.Proofs.YtpbafjcoomfooaaGreat.chase zs n u ≠ 0
  | 0, u, hu, _ => hu
  | n + 1, u, hu, hp => by
    simp only [Go.Proofs.YtpbafjcoomfooaaGreat.chase, if_neg hu]
    rcases h.next hp with e | ⟨e1, e2⟩
    · rw [e]; exact Path.circle h h0 hm n v' h0 hm
    · exact Path.circle h h0 hm n _ e1 e2
theorem Path.none {zs : List Int} {name v v' : Int} {ps : List Nat} (h : Path zs v ps v') (h0 : v' ≠ 0) (hm : plc v' ∈ ps) (hn : namedP zs name ps = none) : ∀ (n : Nat) (u last : Int), u ≠ 0 → plc u ∈ ps → (cellF zs name n u last).1 = -1
  | 0, u, last, hu, _ => rfl
  | n + 1, u, last, hu, hp => by
    have hd : ¬ hz zs (plc u + 1) = name := by
      have := List.find?_eq_none.1 hn _ hp
      simpa using this
    simp only [cellF, if_neg hu, if_neg hd]
    rcases h.next hp with e | ⟨e1, e2⟩
    · rw [e]; exact Path.none h h0 hm hn n v' _ h0 hm
    · exact Path.none h h0 hm hn n _ _ e1 e2
/-- All cells from a link on, each once. -/
structure All (zs : List Int) (v : Int) (ps : List Nat) (v' : Int) : Prop where
  path : Path zs v ps v'
  once : ps.Nodup
  le : ∀ p ∈ ps, p + 4 ≤ zs.length
  over : v' = 0 ∨ plc v' ∈ ps
theorem All.len {zs : List Int} {v v' : Int} {ps : List Nat} (h : All zs v ps v') : ps.length ≤ zs.length := nodup_le _ _ h.once (fun p hp => by have := h.le p hp; omega)
theorem All.cell {zs : List Int} {v v' name : Int} {ps : List Nat} (h : All zs v ps v') : (cellF zs name zs.length v (-1)).1 = match namedP zs name ps with | some p => ((p : Nat) : Int) | none => -1 := by
  have hl := h.len
  obtain ⟨n, hn⟩ : ∃ n, zs.length = ps.length + n := ⟨zs.length - ps.length, by omega⟩
  rw [hn]
  cases e : namedP zs name ps with
  | some p => exact h.path.hit n e
  | none =>
    rw [h.path.miss n e]
    by_cases h0 : v' = 0
    · subst h0; rw [cellF_zero]
    · exact h.path.none h0 (h.over.resolve_left h0) e n v' _ h0 (h.over.resolve_left h0)
theorem All.last {zs : List Int} {v name : Int} {ps : List Nat} (h : All zs v ps 0) (hn : namedP zs name ps = none) : (cellF zs name zs.length v (-1)).2 = lastP ps (-1) := by
  have hl := h.len
  obtain ⟨n, e⟩ : ∃ n, zs.length = ps.length + n := ⟨zs.length - ps.length, by omega⟩
  rw [e, h.path.miss n hn, cellF_zero]
theorem All.round {zs : List Int} {v v' : Int} {ps : List Nat} (h : All zs v ps v') : decide (Go.Proofs.YtpbafjcoomfooaaGreat.chase zs zs.length v ≠ 0) = decide (v' ≠ 0) := by
  have hl := h.len
  obtain ⟨n, e⟩ : ∃ n, zs.length = ps.length + n := ⟨zs.length - ps.length, by omega⟩
  rw [e, h.path.chase n]
  by_cases h0 : v' = 0
  · subst h0; rw [chase_zero]
  · have := h.path.circle h0 (h.over.resolve_left h0) n v' h0 (h.over.resolve_left h0)
    simp [h0, this]
/-- The link behind the last cell. -/
theorem Path.last {zs : List Int} {v v' : Int} {ps : List Nat} {p : Nat} (h : Path zs v ps v') (hp : ps.getLast? = some p) : hz zs (p + 3) = v' := by
  induction ps generalizing v with
  | nil => simp at hp
  | cons q qs ih =>
    cases qs with
    | nil =>
      have e : q = p := by simpa using hp
      subst e
      exact h.2.2.symm
    | cons r rs => exact ih h.2.2 (by rw [List.getLast?_cons_cons] at hp; exact hp)
end Go.Proofs.YtpbafjcoomfooaaGreat
namespace Go.Proofs.YtpbafjcoomfooaaGreat
open Go.RowKit
attribute [local go_sem] Plain.and7

/-- A cell as the program has it. -/
abbrev celC (zs : List Int) (p : Nat) : Array Value := #[.int .i64 (p : Int), .int .i64 (hz zs (p + 1)), .int .i64 (hz zs (p + 2)), .int .i64 (hz zs (p + 3))]
abbrev celG (zs : List Int) (p : Nat) : Value := .agg (celC zs p)
def celL (zs : List Int) (ps : List Nat) : List Value := ps.flatMap (fun p => (celC zs p).toList)
theorem celL_len (zs : List Int) (ps : List Nat) : (celL zs ps).length = ps.length * 4 := by
  induction ps with
  | nil => rfl
  | cons p ps ih =>
    have : celL zs (p :: ps) = (celC zs p).toList ++ celL zs ps := rfl
    rw [this, List.length_append, ih]
    simp
    omega
theorem celL_snoc (zs : List Int) (ps : List Nat) (p : Nat) : celL zs (ps ++ [p]) = celL zs ps ++ (celC zs p).toList := by simp [celL]
theorem celL_at (zs : List Int) : ∀ (ps : List Nat) (i p r : Nat), ps[i]? = some p → r < 4 → (celL zs ps)[i * 4 + r]? = (celC zs p)[r]?
  | [], i, p, r, h, _ => by simp at h
  | q :: ps, 0, p, r, h, hr => by
    have e : q = p := by simpa using h
    subst e
    have : celL zs (q :: ps) = (celC zs q).toList ++ celL zs ps := rfl
    rw [this, List.getElem?_append_left (by simp; omega)]
    simp
  | q :: ps, i + 1, p, r, h, hr => by
    have : celL zs (q :: ps) = (celC zs q).toList ++ celL zs ps := rfl
    rw [this, List.getElem?_append_right (by simp; omega)]
    rw [show (i + 1) * 4 + r - (celC zs q).toList.length = i * 4 + r by simp; omega]
    exact celL_at zs ps i p r (by simpa using h) hr
/-- The cells ps lie one behind the other at ao. -/
def CelsAt (W : World) (ao : Option Addr) (zs : List Int) (ps : List Nat) : Prop :=
  ∀ i p, ps[i]? = some p → ∃ b off, ao = some ⟨b, off, none⟩ ∧ ∀ r, r < 4 → W.cell? ⟨b, off + i * 4 + r, none⟩ = (celC zs p)[r]?
theorem CelsAt.kept {W W' : World} {ao : Option Addr} {zs : List Int} {ps : List Nat} (h : CelsAt W ao zs ps) (hk : Kept W W') : CelsAt W' ao zs ps := by
  intro i p hp
  obtain ⟨b, off, e, hc⟩ := h i p hp
  refine ⟨b, off, e, fun r hr => ?_⟩
  have h1 := hc r hr
  rw [← h1]
  refine hk.cell (p := ⟨b, off + i * 4 + r, none⟩) ?_
  obtain ⟨v, hv⟩ : ∃ v, (celC zs p)[r]? = some v := ⟨_, Array.getElem?_eq_getElem (by simpa using hr)⟩
  rw [hv] at h1
  exact World.block_lt_of_cell? _ _ h1
def OwnC (W : World) (base : Nat) (v : Value) (zs : List Int) (ps : List Nat) : Prop := W.ownsRow base 75 4 v ps.length (celL zs ps)
theorem OwnC.at {W : World} {base : Nat} {v : Value} {zs : List Int} {ps : List Nat} (h : OwnC W base v zs ps) : ∃ ao cap, v = .slice ao ps.length cap ∧ ps.length ≤ cap ∧ CelsAt W ao zs ps := by
  have h' := h
  rcases h.2 with ⟨rfl, hn⟩ | ⟨g, cap, cur, rfl, hb, hg, h1, _⟩
  · exact ⟨none, 0, by rw [hn], by omega, fun i p hp => by rw [List.length_eq_zero_iff.1 hn] at hp; simp at hp⟩
  · refine ⟨_, cap, rfl, h1, fun i p hp => ⟨g, 0, rfl, fun r hr => ?_⟩⟩
    have e := celL_at zs ps i p r hp hr
    obtain ⟨u, hu⟩ : ∃ u, (celC zs p)[r]? = some u := ⟨_, Array.getElem?_eq_getElem (by simpa using hr)⟩
    rw [hu] at e ⊢
    have h3 := h'.cells (g := g) rfl _ u e
    rw [show (⟨g, 0, none⟩ : Addr).add (i * 4 + r) = ⟨g, 0 + i * 4 + r, none⟩ by unfold Addr.add; split <;> simp_all] at h3
    exact h3
theorem infoC : (Tryz.prog.info? 75).map (fun i => (i.zero, i.size, i.bytes)) = some (some (.agg #[.int .i64 0, .int .i64 0, .int .i64 0, .int .i64 0]), 4, 32) := by kernel_rfl

set_option maxHeartbeats 4000000 in
set_option maxRecDepth 100000 in
theorem cellAt_ok (w : World) (ao : Option Addr) (cap : Nat) (zs : List Int) (a : Nat) (hI : Ints w ao zs) (hl : zs.length ≤ 1048576) (ha : a + 4 ≤ zs.length) :
    Calls Tryz.prog 144 #[.slice ao zs.length cap, .int .i64 (a : Int)] w fun e w' => e = .returned (celG zs a) ∧ Kept w w' := by
  obtain ⟨bb, off, rfl, hc⟩ := hI.at (k := 0) (by omega)
  have c1 := hc (a + 1) (by omega)
  have c2 := hc (a + 2) (by omega)
  have c3 := hc (a + 3) (by omega)
  have hbl : bb < w.heap.size := World.block_lt_of_cell? _ _ c1
  have p1 : (a : Int) + 1 < (zs.length : Int) := by omega
  have p2 : (a : Int) + 2 < (zs.length : Int) := by omega
  have p3 : (a : Int) + 3 < (zs.length : Int) := by omega
  have t1 : ((a : Int) + 1).toNat = a + 1 := by omega
  have t2 : ((a : Int) + 2).toNat = a + 2 := by omega
  have t3 : ((a : Int) + 3).toNat = a + 3 := by omega
  have w1 : IntKind.i64.wrap ((a : Int) + 1) = (a : Int) + 1 := by rw [IntWalk.i64_left, IntWalk.wrap64_in _ (by omega)]
  have w2 : IntKind.i64.wrap ((a : Int) + 2) = (a : Int) + 2 := by rw [IntWalk.i64_left, IntWalk.wrap64_in _ (by omega)]
  have w3 : IntKind.i64.wrap ((a : Int) + 3) = (a : Int) + 3 := by rw [IntWalk.i64_left, IntWalk.wrap64_in _ (by omega)]
  clear hc hI
  go_enter Tryz.func144, Tryz.ntmps144
  go_wp2_with fail
  go_region
  all_goals (
    go_wp2_with fail
    refine bodyPost_ret (v := celG zs a) (by simp [results, Tryz.results144, go_sem]) rfl ⟨rfl, ?_⟩
    repeat first | exact Below.refl _ _ | refine Kept.alloc ?_ _ | refine Kept.set ?_ (by simp) _ | refine Below.drew ?_)
set_option maxHeartbeats 4000000 in
set_option maxRecDepth 100000 in
theorem cellIndex_ok (w : World) (ao : Option Addr) (cap : Nat) (zs : List Int) (ps : List Nat) (p : Nat) (hR : CelsAt w ao zs ps) (hl : ps.length ≤ 1048576) :
    Calls Tryz.prog 156 #[.slice ao ps.length cap, celG zs p] w fun e w' => ∃ r : Int, e = .returned (.int .i64 r) ∧ (0 ≤ r ↔ p ∈ ps) ∧ Kept w w' := by
  have b0 := Cells.new w 75 (celC zs p)
  have k0 : Kept w (w.alloc (.cells (celC zs p) 75)) := Kept.alloc (Below.refl _ _) _
  obtain ⟨W, hW⟩ : ∃ W, w.alloc (.cells (celC zs p) 75) = W := ⟨_, rfl⟩
  go_enter Tryz.func156, Tryz.ntmps156
  go_wp2_with fail
  simp only [hW] at b0 k0 ⊢
  clear hW
  have HR : Hid _ := hR.kept k0
  have HB : Hid _ := b0
  have HK : Hid _ := k0
  clear hR b0 k0
  go_loopw [8] (fun i wr => ∃ k : Nat, i = .int .i64 k ∧ k ≤ ps.length ∧ (∀ j q, j < k → ps[j]? = some q → q ≠ p) ∧ Kept W wr) (fun i _ => ps.length - (intOf i).toNat)
  case atStart => exact ⟨0, rfl, Nat.zero_le _, fun j q h => absurd h (by omega), Below.refl _ _⟩
  case round =>
    obtain ⟨k, rfl, hk, hno, hK⟩ := hrel
    have HN : Hid _ := hno
    have HK1 : Hid _ := hK
    clear hno
    by_cases hlt : k < ps.length
    · obtain ⟨q, hq⟩ : ∃ q, ps[k]? = some q := ⟨_, List.getElem?_eq_getElem hlt⟩
      obtain ⟨b, off, rfl, hc⟩ := HR.out k q hq
      have hbl : b < W.heap.size := World.block_lt_of_cell? _ _ (hc 0 (by omega))
      have hcr : ∀ r, r < 4 → wr.cell? ⟨b, off + k * 4 + r, none⟩ = (celC zs q)[r]? := fun r hr => (hK.cell (p := ⟨b, off + k * 4 + r, none⟩) hbl).trans (hc r hr)
      have c0 := hcr 0 (by omega)
      have c1 := hcr 1 (by omega)
      have c2 := hcr 2 (by omega)
      have c3 := hcr 3 (by omega)
      have bb := Cells.kept HB.out hK
      have d0 := bb.cell 0
      have d1 := bb.cell 1
      have d2 := bb.cell 2
      have d3 := bb.cell 3
      simp only [Nat.add_zero] at c0
      have q1 : (k : Int) < (ps.length : Int) := by omega
      clear hc hcr bb hK
      by_cases he : q = p
      · subst he
        have HM : Hid (q ∈ ps) := List.mem_of_getElem? hq
        clear hq
        go_wp2_with fail
        go_region
        all_goals (
          go_wp2_with fail
          go_ret
          exact ⟨_, rfl, ⟨fun _ => HM.out, fun _ => by omega⟩, Kept.trans HK.out (Kept.trans HK1.out (Below.refl _ wr).drew)⟩)
      · have e1 : ((p : Int) == (q : Int)) = false := by simp; omega
        have HQ : Hid _ := hq
        clear hq
        go_wp2_with fail
        go_region
        all_goals (
          go_wp2_with fail
          go_roundw
          case rel => exact ⟨k + 1, by go_num, by omega, fun j q' hj hq' => by
            rcases Nat.lt_succ_iff_lt_or_eq.1 hj with h | h
            · exact HN.out j q' h hq'
            · rw [h, HQ.out] at hq'; cases hq'; exact he, Kept.trans HK1.out (Below.refl _ wr).drew⟩
          case measure => simp [intOf]; omega)
    · obtain rfl : k = ps.length := by omega
      clear hK
      go_wp2
      go_ret
      refine ⟨_, rfl, ⟨fun h => absurd h (by omega), fun h => ?_⟩, Kept.trans HK.out HK1.out⟩
      obtain ⟨j, hj, e⟩ := List.getElem_of_mem h
      exact absurd e (HN.out j _ hj (List.getElem?_eq_getElem hj))
set_option maxHeartbeats 4000000 in
set_option maxRecDepth 100000 in
theorem cellContains_ok (w : World) (ao : Option Addr) (cap : Nat) (zs : List Int) (ps : List Nat) (p : Nat) (hR : CelsAt w ao zs ps) (hl : ps.length ≤ 1048576) :
    Calls Tryz.prog 145 #[.slice ao ps.length cap, celG zs p] w fun e w' => e = .returned (.bool (decide (p ∈ ps))) ∧ Kept w w' := by
  have k0 : Kept w (w.alloc (.cells (celC zs p) 75)) := Kept.alloc (Below.refl _ _) _
  have hC := cellIndex_ok _ ao cap zs ps p (hR.kept k0) hl
  go_enter Tryz.func145, Tryz.ntmps145
  go_wp2_with fail
  refine hC.mono ?_
  rintro e w1 ⟨r, rfl, hr, hk1⟩
  have hd : decide (0 ≤ r) = decide (p ∈ ps) := by simp [hr]
  clear hr hC
  go_wp2_with fail
  go_ret
  exact ⟨rfl, k0.trans hk1⟩
end Go.Proofs.YtpbafjcoomfooaaGreat
namespace Go.Proofs.YtpbafjcoomfooaaGreat
open Go.RowKit
attribute [local go_sem] Plain.and7

theorem namedP_at {zs : List Int} {name : Int} {ps : List Nat} {k q : Nat} (hno : ∀ j q', j < k → ps[j]? = some q' → ¬ hz zs (q' + 1) = name) (hq : ps[k]? = some q) (hn : hz zs (q + 1) = name) : namedP zs name ps = some q := by
  obtain ⟨hk, e⟩ := List.getElem?_eq_some_iff.1 hq
  refine List.find?_eq_some_iff_getElem.2 ⟨by simpa using hn, k, hk, e, fun j hj => ?_⟩
  have := hno j _ hj (List.getElem?_eq_getElem (by omega))
  simpa using this
theorem namedP_none {zs : List Int} {name : Int} {ps : List Nat} (hno : ∀ j q', j < ps.length → ps[j]? = some q' → ¬ hz zs (q' + 1) = name) : namedP zs name ps = none := by
  refine List.find?_eq_none.2 fun q hq => ?_
  obtain ⟨j, hj, e⟩ := List.getElem_of_mem hq
  have := hno j q hj (by rw [List.getElem?_eq_getElem hj, e])
  simpa using this

set_option maxHeartbeats 4000000 in
set_option maxRecDepth 100000 in
theorem namedF_ok (w : World) (B : Nat) (name : Int) (zs : List Int) (p : Nat) (hc : w.cell? ⟨B, 0, none⟩ = some (.int .i64 name)) :
    Calls Tryz.prog 110 #[celG zs p, .pointer (some ⟨B, 0, none⟩)] w fun e w' => e = .returned (.bool (decide (hz zs (p + 1) = name))) ∧ Kept w w' := by
  have hB : B < w.heap.size := World.block_lt_of_cell? _ _ hc
  have k0 : Kept w (w.alloc (.cells (celC zs p) 75)) := Kept.alloc (Below.refl _ _) _
  have hd : (hz zs (p + 1) == name) = decide (hz zs (p + 1) = name) := by
    by_cases h : hz zs (p + 1) = name <;> simp [h]
  obtain ⟨r, hr⟩ : ∃ r, decide (hz zs (p + 1) = name) = r := ⟨_, rfl⟩
  rw [hr] at hd ⊢
  clear hr
  have hc' := (k0.cell (p := ⟨B, 0, none⟩) hB).trans hc
  go_enter Tryz.func110, Tryz.ntmps110
  go_wp2_with fail
  go_ret
  exact ⟨rfl, k0⟩
theorem Cells.put4 {W : World} {B : Nat} {t : TypeId} {x0 x1 x2 x3 : Value} (h : Cells W B t #[x0, x1, x2, x3]) (a b c d : Value) :
    (W.setCell ⟨B, 0, none⟩ a).cell? ⟨B, 0, none⟩ = some a ∧ ((W.setCell ⟨B, 0, none⟩ a).setCell ⟨B, 1, none⟩ b).cell? ⟨B, 1, none⟩ = some b ∧ (((W.setCell ⟨B, 0, none⟩ a).setCell ⟨B, 1, none⟩ b).setCell ⟨B, 2, none⟩ c).cell? ⟨B, 2, none⟩ = some c ∧ ((((W.setCell ⟨B, 0, none⟩ a).setCell ⟨B, 1, none⟩ b).setCell ⟨B, 2, none⟩ c).setCell ⟨B, 3, none⟩ d).cell? ⟨B, 3, none⟩ = some d := by
  have h0 := h.set 0 a
  have h1 := h0.set 1 b
  have h2 := h1.set 2 c
  have h3 := h2.set 3 d
  exact ⟨by rw [h0.cell 0]; rfl, by rw [h1.cell 1]; rfl, by rw [h2.cell 2]; rfl, by rw [h3.cell 3]; rfl⟩
/-- What named answers. -/
def namedV (zs : List Int) (name : Int) (ps : List Nat) : Value := match namedP zs name ps with
  | some q => .tuple #[celG zs q, .bool true]
  | none => .tuple #[.agg #[.int .i64 0, .int .i64 0, .int .i64 0, .int .i64 0], .bool false]
theorem namedV_some {zs : List Int} {name : Int} {ps : List Nat} {q : Nat} (h : namedP zs name ps = some q) : namedV zs name ps = .tuple #[celG zs q, .bool true] := by rw [namedV, h]
theorem namedV_none {zs : List Int} {name : Int} {ps : List Nat} (h : namedP zs name ps = none) : namedV zs name ps = .tuple #[.agg #[.int .i64 0, .int .i64 0, .int .i64 0, .int .i64 0], .bool false] := by rw [namedV, h]
def getV (zs : List Int) (name : Int) (ps : List Nat) : Value := match namedP zs name ps with
  | some q => .tuple #[.int .i64 (hz zs (q + 2)), .bool true]
  | none => .tuple #[.int .i64 0, .bool false]
theorem getV_some {zs : List Int} {name : Int} {ps : List Nat} {q : Nat} (h : namedP zs name ps = some q) : getV zs name ps = .tuple #[.int .i64 (hz zs (q + 2)), .bool true] := by rw [getV, h]
theorem getV_none {zs : List Int} {name : Int} {ps : List Nat} (h : namedP zs name ps = none) : getV zs name ps = .tuple #[.int .i64 0, .bool false] := by rw [getV, h]
set_option maxHeartbeats 4000000 in
set_option maxRecDepth 100000 in
theorem cellIndexFunc_ok (w : World) (ao : Option Addr) (cap : Nat) (zs : List Int) (ps : List Nat) (B : Nat) (name : Int) (hR : CelsAt w ao zs ps) (hl : ps.length ≤ 1048576) (hN : w.cell? ⟨B, 0, none⟩ = some (.int .i64 name)) :
    Calls Tryz.prog 109 #[.slice ao ps.length cap, .func (.func 110) #[] #[.pointer (some ⟨B, 0, none⟩)]] w fun e w' => ∃ r : Int, e = .returned (.int .i64 r) ∧ ((namedP zs name ps = none ∧ r = -1) ∨ ∃ i q : Nat, namedP zs name ps = some q ∧ r = (i : Int) ∧ ps[i]? = some q) ∧ Kept w w' := by
  have hB : B < w.heap.size := World.block_lt_of_cell? _ _ hN
  have HR : Hid _ := hR
  have HN : Hid _ := hN
  clear hR hN
  go_enter Tryz.func109, Tryz.ntmps109
  go_wp2_with fail
  go_loopw [8] (fun i wr => ∃ k : Nat, i = .int .i64 k ∧ k ≤ ps.length ∧ (∀ j q, j < k → ps[j]? = some q → ¬ hz zs (q + 1) = name) ∧ Kept w wr) (fun i _ => ps.length - (intOf i).toNat)
  case atStart => exact ⟨0, rfl, Nat.zero_le _, fun j q h => absurd h (by omega), Below.refl _ _⟩
  case round =>
    obtain ⟨k, rfl, hk, hno, hK⟩ := hrel
    have HO : Hid _ := hno
    have HK1 : Hid _ := hK
    clear hno
    by_cases hlt : k < ps.length
    · obtain ⟨q, hq⟩ : ∃ q, ps[k]? = some q := ⟨_, List.getElem?_eq_getElem hlt⟩
      obtain ⟨b, off, rfl, hc⟩ := HR.out k q hq
      have hbl : b < w.heap.size := World.block_lt_of_cell? _ _ (hc 0 (by omega))
      have hcr : ∀ r, r < 4 → wr.cell? ⟨b, off + k * 4 + r, none⟩ = (celC zs q)[r]? := fun r hr => (hK.cell (p := ⟨b, off + k * 4 + r, none⟩) hbl).trans (hc r hr)
      have c0 := hcr 0 (by omega)
      have c1 := hcr 1 (by omega)
      have c2 := hcr 2 (by omega)
      have c3 := hcr 3 (by omega)
      simp only [Nat.add_zero] at c0
      have hF := namedF_ok wr B name zs q ((hK.cell (p := ⟨B, 0, none⟩) hB).trans HN.out)
      have q1 : (k : Int) < (ps.length : Int) := by omega
      have HQ : Hid _ := hq
      clear hc hcr hK hq
      by_cases he : hz zs (q + 1) = name
      · rw [decide_eq_true he] at hF
        have HE : Hid _ := he
        clear he
        go_wp2_with fail
        refine hF.mono ?_
        rintro e w1 ⟨rfl, hk1⟩
        go_wp2_with fail
        go_ret
        exact ⟨_, rfl, .inr ⟨k, q, namedP_at HO.out HQ.out HE.out, rfl, HQ.out⟩, Kept.trans HK1.out hk1⟩
      · rw [decide_eq_false he] at hF
        have HE : Hid _ := he
        clear he
        go_wp2_with fail
        refine hF.mono ?_
        rintro e w1 ⟨rfl, hk1⟩
        go_wp2_with fail
        go_roundw
        case rel => exact ⟨k + 1, by go_num, by omega, fun j q' hj hq' => by
          rcases Nat.lt_succ_iff_lt_or_eq.1 hj with h | h
          · exact HO.out j q' h hq'
          · rw [h, HQ.out] at hq'; cases hq'; exact HE.out, Kept.trans HK1.out hk1⟩
        case measure => simp [intOf]; omega
    · obtain rfl : k = ps.length := by omega
      clear hK
      go_wp2
      go_ret
      exact ⟨_, rfl, .inl ⟨namedP_none HO.out, rfl⟩, HK1.out⟩
set_option maxHeartbeats 4000000 in
set_option maxRecDepth 100000 in
theorem named_ok (w : World) (ao : Option Addr) (cap : Nat) (zs : List Int) (ps : List Nat) (name : Int) (hR : CelsAt w ao zs ps) (hl : ps.length ≤ 1048576) :
    Calls Tryz.prog 58 #[.slice ao ps.length cap, .int .i64 name] w fun e w' => e = .returned (namedV zs name ps) ∧ Kept w w' := by
  have k0 : Kept w (w.alloc (.cells #[.int .i64 name] 3)) := Kept.alloc (Below.refl _ _) _
  have k1 : Kept w ((w.alloc (.cells #[.int .i64 name] 3)).alloc (.cells #[.int .i64 0, .int .i64 0, .int .i64 0, .int .i64 0] 75)) := k0.alloc _
  have b0 := Cells.new w 3 #[.int .i64 name]
  have b1 := Cells.new (w.alloc (.cells #[.int .i64 name] 3)) 75 #[.int .i64 0, .int .i64 0, .int .i64 0, .int .i64 0]
  have b0' := b0.alloc (.cells #[.int .i64 0, .int .i64 0, .int .i64 0, .int .i64 0] 75)
  have hI := cellIndexFunc_ok _ ao cap zs ps w.heap.size name (hR.kept k1) hl (b0'.cell 0)
  have HR : Hid _ := hR
  clear hR b0
  go_enter Tryz.func58, Tryz.ntmps58
  go_wp2_with fail
  refine hI.mono ?_
  rintro e w1 ⟨r, rfl, hr, hk1⟩
  have x1 := b1.kept hk1
  simp only [World.size_alloc] at x1
  have c0 := x1.cell 0
  have c1 := x1.cell 1
  have c2 := x1.cell 2
  have c3 := x1.cell 3
  have f0 := x1.frozen 0
  have f1 := x1.frozen 1
  have f2 := x1.frozen 2
  have f3 := x1.frozen 3
  have K1 := k1.trans hk1
  have hsz := K1.size
  clear hI b1 b0'
  rcases hr with ⟨hn, rfl⟩ | ⟨i, q, hn, rfl, hq⟩
  · have HN : Hid _ := namedV_none hn
    obtain ⟨s0, s1, s2, s3⟩ := x1.put4 (.int .i64 0) (.int .i64 0) (.int .i64 0) (.int .i64 0)
    clear hn
    go_wp2_with fail
    refine bodyPost_ret (v := .tuple #[.agg #[.int .i64 0, .int .i64 0, .int .i64 0, .int .i64 0], .bool false]) (by simp [results, Tryz.results58, go_sem, s0, s1, s2, s3]) rfl ⟨by rw [HN.out], ?_⟩
    repeat first | exact K1 | refine Kept.set ?_ (by simp) _
  · have HN : Hid _ := namedV_some hn
    obtain ⟨s0, s1, s2, s3⟩ := x1.put4 (.int .i64 (q : Int)) (.int .i64 (hz zs (q + 1))) (.int .i64 (hz zs (q + 2))) (.int .i64 (hz zs (q + 3)))
    have hi : i < ps.length := (List.getElem?_eq_some_iff.1 hq).1
    obtain ⟨b, off, rfl, hc⟩ := (CelsAt.kept HR.out K1) i q hq
    have d0 := hc 0 (by omega)
    have d1 := hc 1 (by omega)
    have d2 := hc 2 (by omega)
    have d3 := hc 3 (by omega)
    simp only [Nat.add_zero] at d0
    have q1 : (i : Int) < (ps.length : Int) := by omega
    have hn0 : ¬ ((i : Int) < 0) := by omega
    clear hn hq hc
    go_wp2_with fail
    refine bodyPost_ret (v := .tuple #[celG zs q, .bool true]) (by simp [results, Tryz.results58, go_sem, s0, s1, s2, s3]) rfl ⟨by rw [HN.out], ?_⟩
    repeat first | exact K1 | refine Kept.set ?_ (by simp) _
set_option maxHeartbeats 4000000 in
set_option maxRecDepth 100000 in
theorem get_ok (w : World) (ao : Option Addr) (cap : Nat) (zs : List Int) (ps : List Nat) (name : Int) (hR : CelsAt w ao zs ps) (hl : ps.length ≤ 1048576) :
    Calls Tryz.prog 66 #[.slice ao ps.length cap, .int .i64 name] w fun e w' => e = .returned (getV zs name ps) ∧ Kept w w' := by
  have hC := named_ok w ao cap zs ps name hR hl
  clear hR
  cases hn : namedP zs name ps with
  | none =>
    have HG : Hid _ := getV_none hn
    rw [namedV_none hn] at hC
    clear hn
    go_enter Tryz.func66, Tryz.ntmps66
    go_wp2_with fail
    refine hC.mono ?_
    rintro e w1 ⟨rfl, hk1⟩
    go_wp2_with fail
    refine bodyPost_ret (v := .tuple #[.int .i64 0, .bool false]) (by simp [results, Tryz.results66, go_sem]) rfl ⟨by rw [HG.out], Kept.alloc hk1 _⟩
  | some q =>
    have HG : Hid _ := getV_some hn
    rw [namedV_some hn] at hC
    clear hn
    go_enter Tryz.func66, Tryz.ntmps66
    go_wp2_with fail
    refine hC.mono ?_
    rintro e w1 ⟨rfl, hk1⟩
    go_wp2_with fail
    refine bodyPost_ret (v := .tuple #[.int .i64 (hz zs (q + 2)), .bool true]) (by simp [results, Tryz.results66, go_sem]) rfl ⟨by rw [HG.out], Kept.alloc hk1 _⟩
set_option maxHeartbeats 4000000 in
set_option maxRecDepth 100000 in
theorem round_ok (w : World) (ao : Option Addr) (cap : Nat) (zs : List Int) (ps : List Nat) (v v' : Int) (hR : CelsAt w ao zs ps) (hl : ps.length ≤ 1048576) (hA : All zs v ps v') :
    Calls Tryz.prog 57 #[.slice ao ps.length cap] w fun e w' => e = .returned (.bool (decide (v' ≠ 0))) ∧ Kept w w' := by
  by_cases h0 : ps.length = 0
  · have hp : ps = [] := List.length_eq_zero_iff.1 h0
    have hv : v' = 0 := by
      rcases hA.over with h | h
      · exact h
      · rw [hp] at h; simp at h
    have HV : Hid (decide (v' ≠ 0) = false) := by simp [Hid, hv]
    rw [h0]
    clear hA hR hv hp
    go_enter Tryz.func57, Tryz.ntmps57
    go_wp2_with fail
    go_ret
    exact ⟨by rw [HV.out]; rfl, Below.refl _ _⟩
  · obtain ⟨q, hq⟩ : ∃ q, ps[ps.length - 1]? = some q := ⟨_, List.getElem?_eq_getElem (by omega)⟩
    have hv := hA.path.last (p := q) (by rw [List.getLast?_eq_getElem?]; exact hq)
    obtain ⟨b, off, rfl, hc⟩ := hR _ q hq
    have c3 := hc 3 (by omega)
    have c3' : w.cell? ⟨b, off + (ps.length - 1) * 4 + 3, none⟩ = some (.int .i64 v') := by rw [c3, ← hv]; rfl
    have e1 : IntKind.i64.wrap ((ps.length : Int) - 1) = (ps.length : Int) - 1 := by rw [IntWalk.i64_left, IntWalk.wrap64_in _ (by omega)]
    have e2 : ((ps.length : Int) - 1).toNat = ps.length - 1 := by omega
    have p1 : (ps.length : Int) - 1 < (ps.length : Int) := by omega
    have p2 : (0 : Int) < (ps.length : Int) := by omega
    have p3 : (0 : Int) ≤ (ps.length : Int) - 1 := by omega
    have hd : (v' != 0) = decide (v' ≠ 0) := by
      by_cases h : v' = 0 <;> simp [h]
    obtain ⟨r, hr⟩ : ∃ r, decide (v' ≠ 0) = r := ⟨_, rfl⟩
    rw [hr] at hd ⊢
    clear hr hc c3 hv hq hA hR
    go_enter Tryz.func57, Tryz.ntmps57
    go_wp2_with fail
    go_ret
    exact ⟨rfl, Below.refl _ _⟩
end Go.Proofs.YtpbafjcoomfooaaGreat
namespace Go.Proofs.YtpbafjcoomfooaaGreat
open Go.RowKit
attribute [local go_sem] Plain.and7

def lenV : Value → Nat
  | .slice _ n _ => n
  | _ => 0
theorem OwnC.base {W : World} {a b : Nat} {v : Value} {zs : List Int} {ps : List Nat} (h : OwnC W b v zs ps) (hab : a ≤ b) : OwnC W a v zs ps := ownsRow_base h hab
theorem OwnC.kept {W W' : World} {base : Nat} {v : Value} {zs : List Int} {ps : List Nat} (h : OwnC W base v zs ps) (hk : Kept W W') : OwnC W' base v zs ps := World.ownsRow.kept h hk.grown (by cases e : v.ownBlock <;> simp)
theorem OwnC.cels {W : World} {base cc : Nat} {ca : Option Addr} {zs : List Int} {ps : List Nat} (h : OwnC W base (.slice ca ps.length cc) zs ps) : CelsAt W ca zs ps := by
  obtain ⟨_, _, e, _, h'⟩ := h.at
  cases e
  exact h'
theorem OwnC.block {W : World} {base : Nat} {v : Value} {zs : List Int} {ps : List Nat} (h : OwnC W base v zs ps) : ∀ j, v.ownBlock = some j → base ≤ j ∧ j < W.heap.size := by
  intro j hj
  rcases h.2 with ⟨rfl, _⟩ | ⟨g, cap, cur, rfl, hb, hg, _⟩
  · simp [Value.ownBlock] at hj
  · simp [Value.ownBlock] at hj
    subst hj
    exact ⟨hb, (Array.getElem?_eq_some_iff.1 hg).1⟩
theorem Cells.put3 {W : World} {B : Nat} {t : TypeId} {x0 x1 x2 : Value} (h : Cells W B t #[x0, x1, x2]) (a b c : Value) :
    (W.setCell ⟨B, 0, none⟩ a).cell? ⟨B, 0, none⟩ = some a ∧ ((W.setCell ⟨B, 0, none⟩ a).setCell ⟨B, 1, none⟩ b).cell? ⟨B, 1, none⟩ = some b ∧ (((W.setCell ⟨B, 0, none⟩ a).setCell ⟨B, 1, none⟩ b).setCell ⟨B, 2, none⟩ c).cell? ⟨B, 2, none⟩ = some c := by
  have h0 := h.set 0 a
  have h1 := h0.set 1 b
  have h2 := h1.set 2 c
  exact ⟨by rw [h0.cell 0]; rfl, by rw [h1.cell 1]; rfl, by rw [h2.cell 2]; rfl⟩
theorem new4_cells (w : World) (t : TypeId) (a b c d : Value) : ∀ j u, [a, b, c, d][j]? = some u → (w.alloc (.cells #[a, b, c, d] t)).cell? ((⟨w.heap.size, 0, none⟩ : Addr).add j) = some u := by
  intro j u h
  have hc := (Cells.new w t #[a, b, c, d]).cell j
  rw [show (⟨w.heap.size, 0, none⟩ : Addr).add j = ⟨w.heap.size, j, none⟩ by unfold Addr.add; split <;> simp_all]
  rw [hc]
  simpa using h

set_option maxHeartbeats 8000000 in
set_option maxRecDepth 100000 in
theorem cellsFrom_ok (w : World) (ao : Option Addr) (cap : Nat) (zs : List Int) (v : Int) (hI : Ints w ao zs) (hl : zs.length ≤ 1048576) (hh : heapR zs = true) (hv : nextR zs v 3 = true) :
    Calls Tryz.prog 108 #[.slice ao zs.length cap, .int .i64 v] w fun e w' => ∃ cs ps v', e = .returned cs ∧ OwnC w' w.heap.size cs zs ps ∧ All zs v ps v' ∧ Kept w w' := by
  obtain ⟨i0, hi, hz0, hz1, hz2⟩ := info_parts infoC
  have HH : Hid _ := hh
  have HI : Hid _ := hI
  clear hh hI
  go_enter Tryz.func108, Tryz.ntmps108
  go_wp2_with fail
  go_loopw [5, 6] (fun cs lk wr => ∃ (ps : List Nat) (v' : Int), lk = .int .i64 v' ∧ OwnC wr w.heap.size cs zs ps ∧ Path zs v ps v' ∧ ps.Nodup ∧ (∀ p ∈ ps, p + 4 ≤ zs.length) ∧ nextR zs v' 3 = true ∧ Kept w wr) (fun cs _ _ => zs.length + 1 - lenV cs)
  case atStart => exact ⟨[], v, rfl, World.ownsRow_nil _ _ _ _, rfl, List.nodup_nil, by simp, hv, Below.refl _ _⟩
  case round =>
    obtain ⟨ps, v', rfl, hO, hP, hD, hle, hn, hK⟩ := hrel
    have HP : Hid _ := hP
    have HD : Hid _ := hD
    have HL : Hid _ := hle
    have HK : Hid _ := hK
    have hlen : ps.length ≤ zs.length := nodup_le _ _ hD (fun p hp => by have := hle p hp; omega)
    clear hP hD hle
    obtain ⟨ca, cc, rfl, hcc, hAt⟩ := hO.at
    by_cases h0 : v' = 0
    · subst h0
      have HO : Hid _ := hO
      clear hn hAt hO hK
      go_wp2_with fail
      go_ret
      exact ⟨_, ps, 0, rfl, HO.out, ⟨HP.out, HD.out, HL.out, .inl rfl⟩, HK.out⟩
    · obtain ⟨a, s, ha, h7, has, hs4, hn'⟩ := next_facts HH.out hn h0
      have hne : (v' != 0) = true := by simpa using h0
      have hvb : v' = 8 * (a : Int) + 7 := by omega
      have hNm := impl_Num_ok v' wr (by omega) (by omega)
      rw [ha] at hNm
      have hCA := fun (u : World) (hu : Kept wr u) => cellAt_ok u ao cap zs a (Ints.kept HI.out (Kept.trans HK.out hu)) hl (by omega)
      have HN' : Hid _ := hn'
      have HV : Hid (plc v' = a) := plc_is ha
      have H0 : Hid _ := h0
      have hs0 := hK.size
      have hOB : ∀ j, (Value.slice ca ps.length cc).ownBlock = some j → w.heap.size ≤ j ∧ j < wr.heap.size := hO.block
      clear hn hn' h7 ha h0 hvb
      by_cases hm : a ∈ ps
      · have hCo := fun (u : World) (hu : Kept wr u) => cellContains_ok u ca cc zs ps a (hAt.kept hu) (by omega)
        rw [decide_eq_true hm] at hCo
        have HM : Hid _ := hm
        have HO : Hid _ := hO
        clear hm hO hAt hK
        go_wp2_with (first | (go_at_call 34; refine hNm.mono ?_; rintro e wx ⟨rfl, rfl⟩) | (go_at_call 144; refine (hCA _ (Below.refl _ _)).mono ?_; rintro e w1 ⟨rfl, hk1⟩) | (go_at_call 145; refine (hCo _ (Kept.alloc hk1 _)).mono ?_; rintro e w2 ⟨rfl, hk2⟩))
        go_ret
        have kx := (Kept.alloc hk1 (.cells (celC zs a) 75)).trans hk2
        exact ⟨_, ps, v', rfl, OwnC.kept HO.out kx, ⟨HP.out, HD.out, HL.out, .inr (by rw [HV.out]; exact HM.out)⟩, Kept.trans HK.out kx⟩
      · have hCo := fun (u : World) (hu : Kept wr u) => cellContains_ok u ca cc zs ps a (hAt.kept hu) (by omega)
        rw [decide_eq_false hm] at hCo
        have HM : Hid _ := hm
        have hsn := celL_snoc zs ps a
        clear hm hAt
        go_wp2_with (first | (go_at_call 34; refine hNm.mono ?_; rintro e wx ⟨rfl, rfl⟩) | (go_at_call 144; refine (hCA _ (Below.refl _ _)).mono ?_; rintro e w1 ⟨rfl, hk1⟩; have xb := Cells.new w1 75 (celC zs a); have hs1 := hk1.size) | (go_at_call 145; refine (hCo _ (Kept.alloc hk1 _)).mono ?_; rintro e w2 ⟨rfl, hk2⟩; have kx := (Kept.alloc hk1 (.cells (celC zs a) 75)).trans hk2; have xb2 := xb.kept hk2; have d0 := xb2.cell 0; have d1 := xb2.cell 1; have d2 := xb2.cell 2; have d3 := xb2.cell 3; have hs2 := hk2.size; have O2 := hO.kept kx; have hb2 := xb2.lt) | (at_builtin; refine wpList_append_own _ rfl _ _ 69 rfl w.heap.size 75 i0 (.agg #[.int .i64 0, .int .i64 0, .int .i64 0, .int .i64 0]) 4 32 Tryz.underlying69 hi hz0 hz1 hz2 rfl (by decide) _ _ _ rfl (World.ownsRow.alloc O2 _) ⟨w2.heap.size, 0, none⟩ 1 1 [.int .i64 (a : Int), .int .i64 (hz zs (a + 1)), .int .i64 (hz zs (a + 2)), .int .i64 (hz zs (a + 3))] rfl rfl (new4_cells _ _ _ _ _ _) (by simp [Value.oneCell']) (by unfold maxLen; omega) (by omega) (by simp at hs1 hs2 ⊢; omega) ?_; intro cs' w3 hown' hgrow _; have kb : ∀ k, k < w2.heap.size → wr.heap.size ≤ k → w3.heap[k]? = w2.heap[k]? := fun k h1 h2 => (hgrow.block k (by simp; omega) (by intro e; have := (hOB k e.symm).2; omega)).trans (Below.heap_alloc _ _ _ h1); have x3 : Cells w3 w1.heap.size 75 (celC zs a) := (kb _ hb2 (by omega)).trans xb2; have y3 := x3.cell 3))
        go_roundw
        case rel =>
          have hK3 : Kept w w3 := Below.grown (Kept.alloc (Kept.trans HK.out kx) _) hgrow (by simp at hs1 hs2 ⊢; omega) (fun k e => (hOB k e).1)
          have e4 : OwnC w3 w.heap.size cs' zs (ps ++ [a]) := by
            unfold OwnC
            rw [celL_snoc, List.length_append]
            exact hown'
          have hsp := HP.out.snoc H0.out
          rw [HV.out] at hsp
          exact ⟨ps ++ [a], hz zs (a + 3), rfl, e4, hsp, by rw [List.nodup_append]; exact ⟨HD.out, by simp, fun x hx y hy => by simp at hy; subst hy; intro e; subst e; exact HM.out hx⟩, fun p hp => by rcases List.mem_append.1 hp with h | h; exact HL.out p h; simp at h; subst h; omega, HN'.out, hK3⟩
        case measure =>
          have e5 : lenV cs' = ps.length + 1 := by
            rcases hown'.2 with ⟨_, h⟩ | ⟨g, cp, cur, rfl, _⟩
            · omega
            · rfl
          rw [e5]
          simp only [lenV]
          omega
set_option maxHeartbeats 8000000 in
set_option maxRecDepth 100000 in
theorem objectAt_ok (w : World) (ao : Option Addr) (cap : Nat) (zs : List Int) (a : Nat) (hI : Ints w ao zs) (hl : zs.length ≤ 1048576) (hh : heapR zs = true) (ha : a + 3 ≤ zs.length) (hv : nextR zs (hz zs (a + 2)) 3 = true) :
    Calls Tryz.prog 56 #[.slice ao zs.length cap, .int .i64 (a : Int)] w fun e w' => ∃ cs ps v', e = .returned (.agg #[.int .i64 (a : Int), .int .i64 (hz zs (a + 1)), cs]) ∧ OwnC w' w.heap.size cs zs ps ∧ All zs (hz zs (a + 2)) ps v' ∧ Kept w w' := by
  have hCF := fun (u : World) (hu : Kept w u) => cellsFrom_ok u ao cap zs (hz zs (a + 2)) (hI.kept hu) hl hh hv
  obtain ⟨bb, off, rfl, hc⟩ := hI.at (k := 0) (by omega)
  have c1 := hc (a + 1) (by omega)
  have c2 := hc (a + 2) (by omega)
  have hbl : bb < w.heap.size := World.block_lt_of_cell? _ _ c1
  have p1 : (a : Int) + 1 < (zs.length : Int) := by omega
  have p2 : (a : Int) + 2 < (zs.length : Int) := by omega
  have t1 : ((a : Int) + 1).toNat = a + 1 := by omega
  have t2 : ((a : Int) + 2).toNat = a + 2 := by omega
  have w1' : IntKind.i64.wrap ((a : Int) + 1) = (a : Int) + 1 := by rw [IntWalk.i64_left, IntWalk.wrap64_in _ (by omega)]
  have w2' : IntKind.i64.wrap ((a : Int) + 2) = (a : Int) + 2 := by rw [IntWalk.i64_left, IntWalk.wrap64_in _ (by omega)]
  have b0 := Cells.new w 71 #[.int .i64 0, .int .i64 0, .slice none 0 0]
  have k0 : Kept w (w.alloc (.cells #[.int .i64 0, .int .i64 0, .slice none 0 0] 71)) := Kept.alloc (Below.refl _ _) _
  have k0d : Kept w (w.alloc (.cells #[.int .i64 0, .int .i64 0, .slice none 0 0] 71)).drew := k0.drew
  have b0d := b0.kept (Below.refl _ _).drew
  have c1d := (k0d.cell (p := ⟨bb, off + (a + 1), none⟩) hbl).trans c1
  have c2d := (k0d.cell (p := ⟨bb, off + (a + 2), none⟩) hbl).trans c2
  have hC := hCF _ k0d
  clear hc hI hCF
  go_enter Tryz.func56, Tryz.ntmps56
  go_wp2_with fail
  go_region_with (go_at_call 108; refine hC.mono ?_; rintro e w1 ⟨cs, ps, v', rfl, hO, hA, hk1⟩; obtain ⟨ca, cc, rfl, hcc, hAt⟩ := hO.at; have x1 := b0d.kept hk1; have d0 := x1.cell 0; have d1 := x1.cell 1; have d2 := x1.cell 2; have f0 := x1.frozen 0; have f1 := x1.frozen 1; have f2 := x1.frozen 2; have e1 := ((k0d.trans hk1).cell (p := ⟨bb, off + (a + 1), none⟩) hbl).trans c1; have e2 := ((k0d.trans hk1).cell (p := ⟨bb, off + (a + 2), none⟩) hbl).trans c2; obtain ⟨s0, s1, s2⟩ := x1.put3 (.int .i64 (a : Int)) (.int .i64 (hz zs (a + 1))) (.slice ca ps.length cc))
  all_goals (
    go_wp2_with fail
    have hK : Kept w w1 := k0d.trans hk1
    refine bodyPost_ret (v := .agg #[.int .i64 (a : Int), .int .i64 (hz zs (a + 1)), .slice ca ps.length cc]) (by simp [results, Tryz.results56, go_sem, s0, s1, s2]) rfl ⟨_, ps, v', rfl, ?_, hA, ?_⟩
    · refine OwnC.base (b := w.heap.size + 1) ?_ (by omega)
      have hO' : OwnC w1 (w.heap.size + 1) (.slice ca ps.length cc) zs ps := by simpa using hO
      repeat first | exact hO' | refine ownsRow_setCell_below ?_ (by simp) _
    · repeat first | exact hK | refine Kept.set ?_ (by simp) _)
end Go.Proofs.YtpbafjcoomfooaaGreat
namespace Go.Proofs.YtpbafjcoomfooaaGreat
open Go.RowKit
attribute [local go_sem] Plain.and7 Instr.field asAgg

/-- An object of the heap. -/
def isOb (zs : List Int) (v : Int) : Bool := decide (v % 8 = 5) && leadsR zs v 0
def askR (zs : List Int) (obj name : Int) : Bool := heapR zs && isOb zs obj && valR zs 7 name
theorem ask_is {zs : List Int} {obj name : Int} : askR zs obj name = (decide (name % 8 = 4) && isR zs [obj, name] 5) := by
  unfold askR isR isOb
  rw [val7, roots2, show hz [obj, name] 0 = obj from rfl]
  by_cases h5 : obj % 8 = 5
  · by_cases h4 : name % 8 = 4
    · rw [leads_any (v := obj) (by omega) 5 0, leads_any (v := name) (by omega) 5 0]
      simp [h5, h4, Bool.and_assoc]
    · simp [h4]
  · simp [h5]
theorem isOb_facts {zs : List Int} {v : Int} (h : isOb zs v = true) : v % 8 = 5 ∧ leadsR zs v 5 = true := by
  unfold isOb at h
  simp only [Bool.and_eq_true, decide_eq_true_eq] at h
  exact ⟨h.1, by rw [leads_any (by omega) 5 0]; exact h.2⟩
theorem ask_facts {zs : List Int} {obj name : Int} (h : askR zs obj name = true) : heapR zs = true ∧ isOb zs obj = true ∧ valR zs 7 name = true := by
  unfold askR at h
  simp only [Bool.and_eq_true] at h
  exact ⟨h.1.1, h.1.2, h.2⟩
/-- What Own answers. -/
def ownV (zs : List Int) (obj name : Int) : Value :=
  if askR zs obj name = true then (if 0 ≤ (cellF zs name zs.length (hz zs (plc obj + 2)) (-1)).1 then .tuple #[.int .i64 (hz zs ((cellF zs name zs.length (hz zs (plc obj + 2)) (-1)).1.toNat + 2)), .bool true] else .tuple #[.int .i64 0, .bool false]) else .tuple #[.int .i64 0, .bool false]
theorem ownV_tuple (zs : List Int) (obj name : Int) : ∃ x b, ownV zs obj name = .tuple #[.int .i64 x, .bool b] := by
  unfold ownV
  split
  · split <;> exact ⟨_, _, rfl⟩
  · exact ⟨_, _, rfl⟩
theorem own_get {zs : List Int} {obj name v' : Int} {ps : List Nat} (h : All zs (hz zs (plc obj + 2)) ps v') (hk : askR zs obj name = true) : ownV zs obj name = getV zs name ps := by
  unfold ownV
  rw [if_pos hk, h.cell (name := name)]
  cases hn : namedP zs name ps with
  | none => rw [getV_none hn]; simp
  | some q => rw [getV_some hn]; simp

set_option maxHeartbeats 4000000 in
set_option maxRecDepth 100000 in
theorem isObject_ok (w : World) (lo : Option Addr) (lc : Nat) (zs : List Int) (v : Int) (hI : Ints w lo (lyt zs)) (h0 : -9223372036854775808 ≤ v) (h1 : v ≤ 9223372036854775807) :
    Calls Tryz.prog 55 #[.slice lo zs.length lc, .int .i64 v] w fun e w' => e = .returned (.bool (isOb zs v)) ∧ w = w' := by
  have hV := valueOk_ok w lo lc zs 5 v hI h0 h1
  clear hI
  by_cases h5 : v % 8 = 5
  · have e1 : isOb zs v = valR zs 5 v := by
      unfold isOb
      rw [val5]
      have : ¬ v = 1 := by omega
      simp [this]
    rw [e1]
    obtain ⟨r, hr⟩ : ∃ r, valR zs 5 v = r := ⟨_, rfl⟩
    rw [hr] at hV ⊢
    have hd : (v % 8 == 5) = true := by simpa using h5
    clear hr e1
    go_enter Tryz.func55, Tryz.ntmps55
    go_wp2_with (first | (go_at_call 107; refine (impl_Kind_ok _ _).mono ?_; rintro e wx ⟨rfl, rfl⟩) | (go_at_call 48; refine hV.mono ?_; rintro e wx ⟨rfl, rfl⟩))
    go_ret
    exact ⟨rfl, rfl⟩
  · have HE : Hid (isOb zs v = false) := by simp [Hid, isOb, h5]
    have hd : (v % 8 == 5) = false := by simpa using h5
    clear hV
    go_enter Tryz.func55, Tryz.ntmps55
    go_wp2_with (first | (go_at_call 107; refine (impl_Kind_ok _ _).mono ?_; rintro e wx ⟨rfl, rfl⟩))
    go_ret
    exact ⟨by rw [HE.out]; rfl, rfl⟩
set_option maxHeartbeats 4000000 in
set_option maxRecDepth 100000 in
theorem canAsk_ok (w : World) (ao : Option Addr) (cap : Nat) (zs : List Int) (obj name : Int) (hI : Ints w ao zs) (hl : zs.length ≤ 1048576) (ho : -9223372036854775808 ≤ obj ∧ obj ≤ 9223372036854775807) (hn : -9223372036854775808 ≤ name ∧ name ≤ 9223372036854775807) :
    Calls Tryz.prog 65 #[.agg #[.slice ao zs.length cap], .int .i64 obj, .int .i64 name] w fun e w' => e = .returned (.bool (askR zs obj name)) ∧ Kept w w' := by
  have k0 : Kept w (w.alloc (.cells #[.slice ao zs.length cap] 26)) := Kept.alloc (Below.refl _ _) _
  have hLo := heapLayout_ok _ ao cap zs (hI.kept k0) hl
  cases hh : heapR zs with
  | false =>
    have HR : Hid (askR zs obj name = false) := by simp [Hid, askR, hh]
    have hLo' := hLo.mono (R' := fun e w' => e = .returned (.tuple #[.slice none 0 0, .bool false]) ∧ Kept (w.alloc (.cells #[.slice ao zs.length cap] 26)) w') (fun e w' h => ⟨h.1 hh, h.2.2⟩)
    clear hh hI hLo
    go_enter Tryz.func65, Tryz.ntmps65
    go_wp2_with (go_at_call 47; refine hLo'.mono ?_; rintro e w1 ⟨rfl, hk1⟩)
    go_ret
    exact ⟨by rw [HR.out]; rfl, k0.trans hk1⟩
  | true =>
    have hLo' := hLo.mono (R' := fun e w' => ∃ lo lc, e = .returned (.tuple #[.slice lo zs.length lc, .bool true]) ∧ Ints w' lo (lyt zs) ∧ Kept (w.alloc (.cells #[.slice ao zs.length cap] 26)) w') (fun e w' h => by obtain ⟨lo, lc, h1, h2⟩ := h.2.1 hh; exact ⟨lo, lc, h1, h2, h.2.2⟩)
    have e1 : askR zs obj name = (isOb zs obj && valR zs 7 name) := by simp [askR, hh]
    rw [e1]
    have hOb := fun (u : World) (lo : Option Addr) (lc : Nat) (hu : Ints u lo (lyt zs)) => isObject_ok u lo lc zs obj hu ho.1 ho.2
    have hV := fun (u : World) (lo : Option Addr) (lc : Nat) (hu : Ints u lo (lyt zs)) => valueOk_ok u lo lc zs 7 name hu hn.1 hn.2
    obtain ⟨q, hq⟩ : ∃ q, valR zs 7 name = q := ⟨_, rfl⟩
    rw [hq] at hV ⊢
    clear hLo hI hh e1 hq
    cases hob : isOb zs obj with
    | false =>
      rw [hob] at hOb
      clear hV hob
      go_enter Tryz.func65, Tryz.ntmps65
      go_wp2_with (first | (go_at_call 47; refine hLo'.mono ?_; rintro e w1 ⟨lo, lc, rfl, hLy, hk1⟩; have hO1 := hOb w1 lo lc hLy; clear hLy) | (go_at_call 55; refine hO1.mono ?_; rintro e wx ⟨rfl, rfl⟩))
      go_ret
      exact ⟨rfl, k0.trans hk1⟩
    | true =>
      rw [hob] at hOb
      clear hob
      go_enter Tryz.func65, Tryz.ntmps65
      go_wp2_with (first | (go_at_call 47; refine hLo'.mono ?_; rintro e w1 ⟨lo, lc, rfl, hLy, hk1⟩; have hO1 := hOb w1 lo lc hLy; have hV1 := hV w1 lo lc hLy; clear hLy) | (go_at_call 55; refine hO1.mono ?_; rintro e wx ⟨rfl, rfl⟩) | (go_at_call 48; refine hV1.mono ?_; rintro e wx ⟨rfl, rfl⟩))
      go_ret
      exact ⟨rfl, k0.trans hk1⟩
set_option maxHeartbeats 8000000 in
set_option maxRecDepth 100000 in
theorem impl_Own_ok (w : World) (ao : Option Addr) (cap : Nat) (zs : List Int) (obj name : Int) (hI : Ints w ao zs) (hl : zs.length ≤ 1048576) (ho : -9223372036854775808 ≤ obj ∧ obj ≤ 9223372036854775807) (hn : -9223372036854775808 ≤ name ∧ name ≤ 9223372036854775807) :
    Calls Tryz.prog 24 #[.agg #[.slice ao zs.length cap], .int .i64 obj, .int .i64 name] w fun e w' => e = .returned (ownV zs obj name) ∧ Kept w w' := by
  have b0 := Cells.new w 26 #[.slice ao zs.length cap]
  have k0 : Kept w (w.alloc (.cells #[.slice ao zs.length cap] 26)) := Kept.alloc (Below.refl _ _) _
  have hA := canAsk_ok _ ao cap zs obj name (hI.kept k0) hl ho hn
  cases hk : askR zs obj name with
  | false =>
    have HR : Hid (ownV zs obj name = .tuple #[.int .i64 0, .bool false]) := by simp [Hid, ownV, hk]
    rw [hk] at hA
    clear hI hk
    go_enter Tryz.func24, Tryz.ntmps24
    go_wp2_with (go_at_call 65; refine hA.mono ?_; rintro e w1 ⟨rfl, hk1⟩)
    refine bodyPost_ret (v := .tuple #[.int .i64 0, .bool false]) (by simp [results, Tryz.results24, go_sem]) rfl ⟨by rw [HR.out], k0.trans hk1⟩
  | true =>
    rw [hk] at hA
    obtain ⟨hh, hob, _⟩ := ask_facts hk
    obtain ⟨h5, hv⟩ := isOb_facts hob
    obtain ⟨a, s, ha, hle, hs, _, _, hnx⟩ := obj_facts hh h5 hv
    have HG : Hid (∀ v' ps, All zs (hz zs (a + 2)) ps v' → ownV zs obj name = getV zs name ps) := fun v' ps h => own_get (by rw [plc_is ha]; exact h) hk
    have hNm := fun (u : World) => impl_Num_ok obj u ho.1 ho.2
    rw [ha] at hNm
    have HOA : Hid _ := fun (u : World) (hu : Kept w u) => objectAt_ok u ao cap zs a (hI.kept hu) hl hh (by omega) hnx
    clear hI hk hob h5 hv ha hnx hh
    go_enter Tryz.func24, Tryz.ntmps24
    go_wp2_with (go_at_call 65; refine hA.mono ?_; rintro e w1 ⟨rfl, hk1⟩)
    have x1 := b0.kept hk1
    have xd := x1.kept (Below.refl _ w1).drew
    have cd := xd.cell 0
    have K1 : Kept w w1.drew := (k0.trans hk1).drew
    clear hA
    go_region_with (first | (go_at_call 34; refine (hNm _).mono ?_; rintro e wx ⟨rfl, rfl⟩) | (go_at_call 56; refine (HOA.out _ K1).mono ?_; rintro e w2 ⟨cs, ps, v', rfl, hO, hAl, hk2⟩; obtain ⟨ca, cc, rfl, hcc, hAt⟩ := hO.at; have hps := hAl.len; have cd2 := (xd.kept hk2).cell 0; have HGE := HG.out v' ps hAl) | (go_at_call 66; refine (get_ok _ ca cc zs ps name hAt (by omega)).mono ?_; rintro e w3 ⟨rfl, hk3⟩; rw [← HGE]; obtain ⟨vx, vb, hvv⟩ := ownV_tuple zs obj name; rw [hvv]))
    all_goals (
      go_wp2_with fail
      refine bodyPost_ret (v := .tuple #[.int .i64 vx, .bool vb]) (by simp [results, Tryz.results24, go_sem]) rfl ⟨by rw [hvv], (K1.trans hk2).trans hk3⟩)
end Go.Proofs.YtpbafjcoomfooaaGreat
