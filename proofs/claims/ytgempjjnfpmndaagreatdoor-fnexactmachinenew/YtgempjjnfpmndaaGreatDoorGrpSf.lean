/-
  The contract of the program's layoutOf: at each place of a slab the kind of the block that begins there.
  The contract of impl.ShapeOk.
  The contracts of chapter 3's models that look at one value, and of those that go over some words.
  The contracts of chapter 3's models that go over some words: l3Zero, l3Text.
-/
import Derived.Test.YtgempjjnfpmndaaGreatDoorGrpSc
import Derived.Test.YtgempjjnfpmndaaGreatDoorGrpW
import Derived.Test.YtgempjjnfpmndaaGreatDoorSlabS
namespace Go.Proofs.YtgempjjnfpmndaaGreatDoor
open Go.RowKit Go.Shelf
attribute [local go_sem] Oper.semAt_some

def setsB {L : Nat} (z : List Int) (l : List (BkOf L)) : List Int := l.foldl (fun z b => z.set b.1.at' ((b.1.kind : Nat) : Int)) z
theorem setsB_len {L : Nat} : ∀ (l : List (BkOf L)) (z : List Int), (setsB z l).length = z.length
  | [], _ => rfl
  | b :: l, z => by
    have := setsB_len l (z.set b.1.at' ((b.1.kind : Nat) : Int))
    simp only [List.length_set] at this
    exact this
theorem setsB_snoc {L : Nat} (z : List Int) (l : List (BkOf L)) (b : BkOf L) : setsB z (l ++ [b]) = (setsB z l).set b.1.at' ((b.1.kind : Nat) : Int) := by simp [setsB]
theorem hz_setsB {L : Nat} (k : Nat) : ∀ (l : List (BkOf L)) (z : List Int), z.length = L → l.Pairwise (fun b c => b.1.at' < c.1.at') → hz (setsB z l) k = match l.find? (fun b => decide ((b.1.at' : Int) = (k : Int))) with | some b => ((b.1.kind : Nat) : Int) | none => hz z k
  | [], _, _, _ => rfl
  | b :: l, z, hl, hp => by
    have hb := b.2
    have ih := hz_setsB k l (z.set b.1.at' ((b.1.kind : Nat) : Int)) (by simpa using hl) (List.pairwise_cons.1 hp).2
    have e : setsB z (b :: l) = setsB (z.set b.1.at' ((b.1.kind : Nat) : Int)) l := rfl
    rw [e, ih]
    by_cases h : b.1.at' = k
    · have hn : l.find? (fun b => decide ((b.1.at' : Int) = (k : Int))) = none := by
        rw [List.find?_eq_none]
        intro c hc
        have := (List.pairwise_cons.1 hp).1 c hc
        simp
        omega
      rw [hn]
      simp only [List.find?_cons, h, decide_true]
      rw [hz_set (by omega), if_pos rfl]
    · have hd : decide ((b.1.at' : Int) = (k : Int)) = false := by simp; omega
      rw [List.find?_cons, hd]
      cases hf : l.find? (fun b => decide ((b.1.at' : Int) = (k : Int))) with
      | some c => rfl
      | none => show hz (z.set b.1.at' ((b.1.kind : Nat) : Int)) k = hz z k; rw [hz_set (by omega), if_neg (by omega)]
theorem setsB_lyt {zs : List Int} (hok : slabOk zs = true) : setsB (List.replicate zs.length (-1)) (blocks zs) = lyt zs := by
  apply List.ext_getElem
  · rw [setsB_len, lyt_len, List.length_replicate]
  · intro k h1 h2
    rw [setsB_len, List.length_replicate] at h1
    have e := hz_setsB k (blocks zs) (List.replicate zs.length (-1)) (by simp) (blks_sorted zs 0)
    have e2 := lyt_at h1
    have a1 : hz (setsB (List.replicate zs.length (-1)) (blocks zs)) k = (setsB (List.replicate zs.length (-1)) (blocks zs))[k]'(by rw [setsB_len, List.length_replicate]; exact h1) := by
      unfold hz
      rw [List.getElem?_eq_getElem (by rw [setsB_len, List.length_replicate]; exact h1)]
      rfl
    have a2 : hz (lyt zs) k = (lyt zs)[k]'(by rw [lyt_len]; exact h1) := by
      unfold hz
      rw [List.getElem?_eq_getElem (by rw [lyt_len]; exact h1)]
      rfl
    rw [← a1, ← a2, e, e2, kindAt, atB, if_pos hok]
    cases hf : (blocks zs).find? (fun b => decide ((b.1.at' : Int) = (k : Int))) with
    | some c => rfl
    | none => show hz (List.replicate zs.length (-1)) k = -1; simp [hz, h1]
theorem Row.own {β : Type} (g : Nat) (f : β → List Int) : Own (fun s W => Row W g (f s)) := fun _ _ _ _ h hg hr => by
  have h' := h
  obtain ⟨_, cur, hc, _⟩ := h'
  exact Row.block h (grownBy_keeps_cells hg hr hc rfl)
theorem Row.put {W : World} {g D : Nat} {zs : List Int} {o : Obj} (h : Row W g zs) (hK : W.heap[D]? = some o) (ho : o.isCells = false) (o' : Obj) : Row (W.putObj D o') g zs := by
  by_cases e : g = D
  · subst e
    obtain ⟨_, cur, hc, _⟩ := h
    rw [hc] at hK; cases hK; cases ho
  · exact h.block (World.putObj_heap_other e)
set_option maxHeartbeats 8000000 in
set_option maxRecDepth 100000 in
theorem layoutOf_ok (w : World) (ao : Option Addr) (cap : Nat) (zs : List Int) (hI : Ints w ao zs) (hl : zs.length ≤ 1048576) :
    Calls Tryz.prog 136 #[.agg #[.slice ao zs.length cap]] w fun e w' => (slabOk zs = false → e = .returned (.tuple #[.slice none 0 0, .bool false])) ∧ (slabOk zs = true → ∃ lo lc, e = .returned (.tuple #[.slice lo zs.length lc, .bool true]) ∧ Ints w' lo (lyt zs)) ∧ Kept w w' := by
  have hL : zs.length * 8 ≤ 140737488351232 := by omega
  obtain ⟨i0, hi, hz0, hz1, hz2⟩ := info_parts infoI
  have b0 := Cells.new w 39 #[.slice ao zs.length cap]
  have k0 : Kept w (w.alloc (.cells #[.slice ao zs.length cap] 39)) := Kept.alloc (Below.refl _ _) _
  have hS := impl_SlabOk_ok _ ao cap zs (hI.kept k0) hL
  cases hok : slabOk zs with
  | false =>
    rw [hok] at hS
    have HF : Hid (slabOk zs = false) := hok
    clear hok
    go_enter Tryz.func136, Tryz.ntmps136
    go_wp2_with (go_at_call 125; refine hS.mono ?_; rintro e w1 ⟨rfl, hk1⟩)
    refine bodyPost_ret (v := .tuple #[.slice none 0 0, .bool false]) (by simp [results, Tryz.results136, go_sem]) rfl ⟨fun _ => rfl, fun h => by simp at h, k0.trans hk1⟩
  | true =>
    rw [hok] at hS
    have HO : Hid (slabOk zs = true) := hok
    clear hok
    refine (callsIn_wide (n := 3)).1 ?_
    refine callsIn_of_wp_marks Tryz.func136 rfl trivial ?_ rfl
    simp only [Tryz.ntmps136, List.size_toArray, List.length_cons, List.length_nil, Nat.reduceAdd, Nat.reduceSub, Array.replicate_succ, Array.replicate_zero, List.push_toArray, List.append_toArray, List.nil_append, List.cons_append]
    refine wpIn_wide.2 ?_
    go_wp2_with fail
    refine hS.mono ?_
    rintro e w1 ⟨rfl, hk1⟩
    have c1 := (b0.kept hk1).cell 0
    go_wp2_with (first | (at_make; refine wpList_make_full _ rfl _ _ 117 rfl w1.heap.size 3 i0 (.int .i64 0) 1 Tryz.underlying117 hi hz0 hz1 .i64 .i64 _ _ zs.length rfl rfl rfl rfl (by rw [hz2]; omega) (by unfold maxLen; omega) (by simp) ?_; intro w2 hown hgrow))
    rw [madeInts] at hown
    have hR2 := (Row.of_owns (zs := List.replicate zs.length 0) (by simpa using hown) (by simp)).1
    have hK2 : Kept w1 w2 := (Below.refl _ _).grown hgrow (Nat.le_refl _) (by simp)
    have ka : Kept w2 (w2.alloc (.cells #[.slice (some ⟨w1.heap.size, 0, none⟩) zs.length zs.length] 117)) := Kept.alloc (Below.refl _ _) _
    have x4 := Cells.new w2 117 #[.slice (some ⟨w1.heap.size, 0, none⟩) zs.length zs.length]
    have x1 := ((b0.kept hk1).kept hK2).kept ka
    have r3 := hR2.kept ka
    have k3 := ((k0.trans hk1).trans hK2).trans ka
    have hws := (k0.trans hk1).size
    have hg2 := hR2.lt
    have hw1 := (b0.kept hk1).lt
    clear hown hgrow c1 hR2 hK2 hk1 k0 b0 hS
    obtain ⟨g, hg⟩ : ∃ g, w1.heap.size = g := ⟨_, rfl⟩
    obtain ⟨B4, hB4⟩ : ∃ B4, w2.heap.size = B4 := ⟨_, rfl⟩
    obtain ⟨W3, hW3⟩ : ∃ W3, w2.alloc (.cells #[.slice (some ⟨g, 0, none⟩) zs.length zs.length] 117) = W3 := ⟨_, rfl⟩
    rw [hg] at x4 x1 r3 k3 hws hg2 hw1 ka ⊢
    rw [hB4] at x4 hg2 ⊢
    rw [hW3] at x4 x1 r3 k3 ka ⊢
    clear hW3 ka hg hB4
    go_loopw [16] (fun i wr => ∃ (k : Nat), i = .int .i64 k ∧ k ≤ zs.length ∧ Row wr g (upto (List.replicate zs.length (-1)) k) ∧ W3.grownBy wr (some g)) (fun i _ => zs.length - (intOf i).toNat)
    case atStart => exact ⟨0, rfl, Nat.zero_le _, by simpa [upto] using r3, World.grownBy.refl _ _⟩
    case round =>
      obtain ⟨k, rfl, hk, hRk, hGk⟩ := hrel
      have y4 := x4.grown hGk (by intro e; cases e; omega)
      have c4 := y4.cell 0
      by_cases hlt : k < zs.length
      · have hcg := hRk.cell (j := k) (by rw [upto_len _ _ (by simpa using hk)]; simpa using hlt)
        have hfg := hRk.frozen k
        have HR : Hid _ := hRk.set (k := k) (v := -1) (by rw [upto_len _ _ (by simpa using hk)]; simpa using hlt) ⟨by omega, by omega⟩
        have HG : Hid _ := grown_set (k := k) hGk (.int .i64 (-1))
        have HU : Hid ((upto (List.replicate zs.length (-1)) k).set k (-1) = upto (List.replicate zs.length (-1)) (k + 1)) := by
          have := upto_succ (List.replicate zs.length (-1)) k (by simpa using hlt)
          simpa [Hid, hz, hlt] using this
        clear hRk hGk
        go_wp2
        go_roundw
        case rel => exact ⟨k + 1, by go_num, by omega, by rw [← HU.out]; exact HR.out, HG.out⟩
        case measure => simp [intOf]; omega
      · obtain rfl : k = zs.length := by omega
        have hU : upto (List.replicate zs.length (-1)) zs.length = List.replicate zs.length (-1) := by
          have := upto_all (List.replicate zs.length (-1 : Int))
          simpa using this
        rw [hU] at hRk
        have y1 := x1.grown hGk (by intro e; cases e; omega)
        have cy1 := y1.cell 0
        have k4 := k3.grownRow hGk (fun k e => by cases e; omega)
        have hs4 := y4.lt
        clear x4 x1 r3 k3 hGk hU
        go_wp2_with (go_at_call 145; refine (blocksOf_ok _ _ _ _).mono ?_; rintro e w5 ⟨rfl, rfl⟩)
        have kb : Kept wr (wr.alloc (.cells #[.slice ao zs.length cap] 26)) := Kept.alloc (Below.refl _ _) _
        have bB := Cells.new wr 26 #[.slice ao zs.length cap]
        have z4 := y4.kept kb
        have rz := hRk.kept kb
        have kz := k4.trans kb
        have hsz : (wr.alloc (.cells #[.slice ao zs.length cap] 26)).heap.size = wr.heap.size + 1 := by simp
        obtain ⟨W0, hW0⟩ : ∃ W0, wr.alloc (.cells #[.slice ao zs.length cap] 26) = W0 := ⟨_, rfl⟩
        rw [hW0] at z4 rz kz bB hsz ⊢
        clear hW0 kb y4 y1 hRk cy1 c4 k4
        refine (wpIn_wide (n := 3)).1 ?_
        refine range_blocks (X := fun k => k = g) (nX := g + 1) (zs := zs) (ao := ao) (cap := cap) (by omega) rfl (by simp) (by simp) (by decide) hL hI kz (by intro k h; omega) (by intro k h; omega) (by intro k h; omega) (by omega) bB
          (fun pre W => (Row W g (setsB (List.replicate zs.length (-1)) pre) ∧ Cells W B4 117 #[.slice (some ⟨g, 0, none⟩) zs.length zs.length]) ∧ Below w.heap.size w W)
          (fun _ _ _ => False)
          (OwnFrom.and (OwnFrom.and (Own.from (Row.own _ (fun pre => setsB (List.replicate zs.length (-1)) pre)) _) (Own.from (Cells.own _ _ _) _)) (ownFrom_below (Nat.le_refl _) (by omega)))
          (fun _ _ _ _ _ hs _ _ => hs)
          ⟨⟨rz, z4⟩, kz⟩ ?body ?done ?stop
        case body =>
          rintro l pre x W Bx hBx bX ⟨⟨hR, d4⟩, hB1⟩ hlt
          have hx := x.2
          have c0 := bX.cell 0
          have c2 := bX.cell 2
          have e4 := d4.cell 0
          have hll : (setsB (List.replicate zs.length (-1)) pre).length = zs.length := by rw [setsB_len, List.length_replicate]
          have hcg := hR.cell (j := x.1.at') (by rw [hll]; omega)
          have hfg := hR.frozen x.1.at'
          have hxI : ((x.1.at' : Nat) : Int) < (zs.length : Int) := by omega
          simp only [List.setIfInBounds_toArray, List.set_cons_succ, List.set_cons_zero]
          gi_wp2
          refine ⟨(KeepsOthers.setCell _ _ _).from _, KeepX.setCell (X := fun k => k = g) (p := ⟨g, x.1.at', none⟩) rfl _, ⟨?_, d4.other (by intro e; simp at e; omega) _⟩, hB1.setCell (p := ⟨g, x.1.at', none⟩) (by simp; omega) _⟩
          rw [setsB_snoc]
          exact hR.set (by rw [hll]; omega) ⟨by omega, by omega⟩
        case done =>
          rintro D W hD ⟨⟨hR, d4⟩, hB1⟩ hK
          have e4 := d4.cell 0
          go_wp2
          refine ⟨by simp, .inl ⟨_, _, rfl, run_takeDeferred hK, ?_⟩⟩
          have hR' := hR.put hK rfl (.deferred none)
          rw [setsB_lyt HO.out] at hR'
          refine ⟨.tuple #[.slice (some ⟨g, 0, none⟩) zs.length zs.length, .bool true], by simp [results, Tryz.results136, go_sem], fun h => (by simp at h), fun _ => ⟨_, _, rfl, hR'.ints⟩, ?_⟩
          exact hB1.trans (belowK_b (w := w) (Nat.le_refl _) _ D _ _ (by omega) hK rfl rfl)
        case stop =>
          rintro D c pre W _ _ h _
          exact h.elim
end Go.Proofs.YtgempjjnfpmndaaGreatDoor
namespace Go.Proofs.YtgempjjnfpmndaaGreatDoor
open Go.RowKit
attribute [local go_sem] Plain.and7

/-- The block at a is as its kind asks. -/
def shapeR (zs : List Int) (a : Int) : Bool := match atB zs a with | some b => blkR zs b.1.at' b.1.size b.1.kind | none => false

end Go.Proofs.YtgempjjnfpmndaaGreatDoor
namespace Go.Proofs.YtgempjjnfpmndaaGreatDoor
open Go.RowKit
attribute [local go_sem] Plain.and7

def wantK (k inner : Int) : Int := if k = 4 then 1 else if k = 5 then 2 else if k = 6 then 4 else inner
def leadsR (zs : List Int) (v inner : Int) : Bool := vOk v && (decide (v % 8 < 4) || decide (kindAt zs (v / 8) = wantK (v % 8) inner))
def nextR (zs : List Int) (v inner : Int) : Bool := decide (v = 0) || (decide (v % 8 = 7) && leadsR zs v inner)
def plainR (zs : List Int) (v : Int) : Bool := decide (v % 8 ≠ 7) && leadsR zs v 0

set_option maxHeartbeats 8000000 in
set_option maxRecDepth 100000 in
theorem l3Leads_ok (w : World) (ao : Option Addr) (cap : Nat) (zs : List Int) (v inner : Int) (hI : Ints w ao zs) (hl : zs.length ≤ 1048576) (hok : slabOk zs = true) (h0 : -9223372036854775808 ≤ v) (h1 : v ≤ 9223372036854775807) (hi0 : 0 ≤ inner) :
    Calls Tryz.prog 119 #[.agg #[.slice ao zs.length cap], .int .i64 v, .int .i64 inner] w fun e w' => e = .returned (.bool (leadsR zs v inner)) ∧ Kept w w' := by
  have hL : zs.length * 8 ≤ 140737488351232 := by omega
  have b0 := Cells.new w 39 #[.slice ao zs.length cap]
  have k0 : Kept w (w.alloc (.cells #[.slice ao zs.length cap] 39)) := Kept.alloc (Below.refl _ _) _
  have c0 := b0.cell 0
  have hV := spec_ValueOk_ok v (w.alloc (.cells #[.slice ao zs.length cap] 39)) h0 h1
  cases hv : vOk v with
  | false =>
    have HR : Hid (leadsR zs v inner = false) := by simp [Hid, leadsR, hv]
    rw [hv] at hV
    clear hv hI
    go_enter Tryz.func119, Tryz.ntmps119
    go_wp2_with (first | (go_at_call 159; refine hV.mono ?_; rintro e wx ⟨rfl, rfl⟩))
    go_ret
    exact ⟨by rw [HR.out]; rfl, k0⟩
  | true =>
    rw [hv] at hV
    by_cases h4 : v % 8 < 4
    · have HR : Hid (leadsR zs v inner = true) := by simp [Hid, leadsR, hv, h4]
      have e4 : (v % 8 == 4) = false := by simp; omega
      have e5 : (v % 8 == 5) = false := by simp; omega
      have e6 : (v % 8 == 6) = false := by simp; omega
      have e7 : (v % 8 == 7) = false := by simp; omega
      clear hv hI
      go_enter Tryz.func119, Tryz.ntmps119
      go_wp2_with (first | (go_at_call 159; refine hV.mono ?_; rintro e wx ⟨rfl, rfl⟩) | (go_at_call 120; refine (spec_Num_ok _ _).mono ?_; rintro e wx ⟨rfl, rfl⟩) | (go_at_call 72; refine (spec_Kind_ok _ _).mono ?_; rintro e wx ⟨rfl, rfl⟩))
      go_ret
      exact ⟨by rw [HR.out]; rfl, k0⟩
    · have hIs := fun (w1 : World) (hI1 : Ints w1 ao zs) => l2Is_ok w1 ao cap zs (v / 8) hI1 hL hok
      unfold isAt at hIs
      have HR0 : leadsR zs v inner = decide (kindAt zs (v / 8) = wantK (v % 8) inner) := by simp [leadsR, hv, h4]
      have hwn : 0 ≤ wantK (v % 8) inner := by unfold wantK; repeat' split <;> omega
      cases hb : atB zs (v / 8) with
      | none =>
        have HR : Hid (leadsR zs v inner = false) := by
          show _ = _
          rw [HR0]
          simp only [kindAt, hb, decide_eq_false_iff_not]
          omega
        rw [hb] at hIs
        clear hv hb HR0 hwn hok
        rcases (show v % 8 = 4 ∨ v % 8 = 5 ∨ v % 8 = 6 ∨ v % 8 = 7 by omega) with h | h | h | h
        all_goals (
          clear h4
          go_enter Tryz.func119, Tryz.ntmps119
          go_wp2_with (first | (go_at_call 159; refine hV.mono ?_; rintro e wx ⟨rfl, rfl⟩) | (go_at_call 120; refine (spec_Num_ok _ _).mono ?_; rintro e wx ⟨rfl, rfl⟩) | (go_at_call 72; refine (spec_Kind_ok _ _).mono ?_; rintro e wx ⟨rfl, rfl⟩) | (go_at_call 156; refine (hIs _ (hI.kept k0)).mono ?_; rintro e w1 ⟨rfl, hk1⟩))
          go_ret
          exact ⟨by rw [HR.out]; rfl, k0.trans hk1⟩)
      | some b =>
        obtain ⟨_, e1, hg, hs, hq, _⟩ := atB_some hb
        have hKE : kindAt zs (v / 8) = hz zs b.1.at' % 8 := by simp [kindAt, hb, hq, kdI]
        rw [hKE] at HR0
        rw [hb] at hIs
        have hlt := hg.lt
        obtain ⟨bb, off, rfl, hc⟩ := hI.at hlt
        have hck := hc _ hlt
        have hbl : bb < w.heap.size := World.block_lt_of_cell? _ _ hck
        have hltI : ((b.1.at' : Nat) : Int) < (zs.length : Int) := by omega
        rcases (show v % 8 = 4 ∨ v % 8 = 5 ∨ v % 8 = 6 ∨ v % 8 = 7 by omega) with h | h | h | h
        all_goals (
          rw [h] at HR0
          have HR : Hid _ := HR0
          simp only [wantK] at HR
          rw [← e1] at hIs
          have hv8 : v / 8 = ((b.1.at' : Nat) : Int) := e1.symm
          clear hv hb HR0 hwn hok h4 hc hg hs hq hKE e1
          go_enter Tryz.func119, Tryz.ntmps119
          go_wp2_with (first | (go_at_call 159; refine hV.mono ?_; rintro e wx ⟨rfl, rfl⟩) | (go_at_call 120; refine (spec_Num_ok _ _).mono ?_; rintro e wx ⟨rfl, rfl⟩) | (go_at_call 72; refine (spec_Kind_ok _ _).mono ?_; rintro e wx ⟨rfl, rfl⟩) | (go_at_call 156; refine (hIs _ (hI.kept k0)).mono ?_; rintro e w1 ⟨rfl, hk1⟩; have d0 := (b0.kept hk1).cell 0; have ck := ((k0.trans hk1).cell (p := ⟨bb, off + b.1.at', none⟩) hbl).trans hck) | (go_at_call 121; refine (l2Kind_ok _ _).mono ?_; rintro e wx ⟨rfl, rfl⟩))
          go_ret
          exact ⟨by rw [HR.out]; first | rfl | (simp; done), k0.trans hk1⟩)
set_option maxHeartbeats 4000000 in
theorem l3Next_ok (w : World) (ao : Option Addr) (cap : Nat) (zs : List Int) (v inner : Int) (hI : Ints w ao zs) (hl : zs.length ≤ 1048576) (hok : slabOk zs = true) (h0 : -9223372036854775808 ≤ v) (h1 : v ≤ 9223372036854775807) (hi0 : 0 ≤ inner) :
    Calls Tryz.prog 189 #[.agg #[.slice ao zs.length cap], .int .i64 v, .int .i64 inner] w fun e w' => e = .returned (.bool (nextR zs v inner)) ∧ Kept w w' := by
  have b0 := Cells.new w 39 #[.slice ao zs.length cap]
  have k0 : Kept w (w.alloc (.cells #[.slice ao zs.length cap] 39)) := Kept.alloc (Below.refl _ _) _
  have hLd := l3Leads_ok _ ao cap zs v inner (hI.kept k0) hl hok h0 h1 hi0
  clear hI hok
  by_cases hv : v = 0
  · have HR : Hid (nextR zs v inner = true) := by simp [Hid, nextR, hv]
    have e0 : (v == 0) = true := by simp [hv]
    clear hv
    go_enter Tryz.func189, Tryz.ntmps189
    go_wp2
    go_ret
    exact ⟨by rw [HR.out]; rfl, k0⟩
  · have e0 : (v == 0) = false := by simpa using hv
    by_cases h7 : v % 8 = 7
    · have HR : Hid (nextR zs v inner = leadsR zs v inner) := by simp [Hid, nextR, hv, h7]
      clear hv
      go_enter Tryz.func189, Tryz.ntmps189
      go_wp2_with (first | (go_at_call 72; refine (spec_Kind_ok _ _).mono ?_; rintro e wx ⟨rfl, rfl⟩) | (go_at_call 119; refine hLd.mono ?_; rintro e w1 ⟨rfl, hk1⟩))
      go_ret
      exact ⟨by rw [HR.out]; rfl, k0.trans hk1⟩
    · have HR : Hid (nextR zs v inner = false) := by simp [Hid, nextR, hv, h7]
      have e7 : (v % 8 == 7) = false := by simpa using h7
      clear hv h7
      go_enter Tryz.func189, Tryz.ntmps189
      go_wp2_with (first | (go_at_call 72; refine (spec_Kind_ok _ _).mono ?_; rintro e wx ⟨rfl, rfl⟩))
      go_ret
      exact ⟨by rw [HR.out]; rfl, k0⟩
set_option maxHeartbeats 4000000 in
theorem l3Plain_ok (w : World) (ao : Option Addr) (cap : Nat) (zs : List Int) (v : Int) (hI : Ints w ao zs) (hl : zs.length ≤ 1048576) (hok : slabOk zs = true) (h0 : -9223372036854775808 ≤ v) (h1 : v ≤ 9223372036854775807) :
    Calls Tryz.prog 191 #[.agg #[.slice ao zs.length cap], .int .i64 v] w fun e w' => e = .returned (.bool (plainR zs v)) ∧ Kept w w' := by
  have b0 := Cells.new w 39 #[.slice ao zs.length cap]
  have k0 : Kept w (w.alloc (.cells #[.slice ao zs.length cap] 39)) := Kept.alloc (Below.refl _ _) _
  have hLd := l3Leads_ok _ ao cap zs v 0 (hI.kept k0) hl hok h0 h1 (by omega)
  clear hI hok
  by_cases h7 : v % 8 = 7
  · have HR : Hid (plainR zs v = false) := by simp [Hid, plainR, h7]
    go_enter Tryz.func191, Tryz.ntmps191
    go_wp2_with (first | (go_at_call 72; refine (spec_Kind_ok _ _).mono ?_; rintro e wx ⟨rfl, rfl⟩))
    go_ret
    exact ⟨by rw [HR.out]; rfl, k0⟩
  · have HR : Hid (plainR zs v = leadsR zs v 0) := by simp [Hid, plainR, h7]
    have e7 : (v % 8 != 7) = true := by simpa using h7
    go_enter Tryz.func191, Tryz.ntmps191
    go_wp2_with (first | (go_at_call 72; refine (spec_Kind_ok _ _).mono ?_; rintro e wx ⟨rfl, rfl⟩) | (go_at_call 119; refine hLd.mono ?_; rintro e w1 ⟨rfl, hk1⟩))
    go_ret
    exact ⟨by rw [HR.out]; rfl, k0.trans hk1⟩
end Go.Proofs.YtgempjjnfpmndaaGreatDoor
namespace Go.Proofs.YtgempjjnfpmndaaGreatDoor
open Go.RowKit
attribute [local go_sem] Plain.and7

def allR (P : Nat → Bool) (k : Nat) : Bool := (List.range k).all P
theorem allR_zero (P : Nat → Bool) : allR P 0 = true := by simp [allR]
theorem allR_succ (P : Nat → Bool) (k : Nat) : allR P (k + 1) = (allR P k && P k) := by simp [allR, List.range_succ]
theorem allR_iff {P : Nat → Bool} {k : Nat} : allR P k = true ↔ ∀ i, i < k → P i = true := by simp [allR]
theorem allR_false {P : Nat → Bool} {k n : Nat} (hk : k ≤ n) (h : allR P k = false) : allR P n = false := by
  cases hn : allR P n with
  | false => rfl
  | true =>
    have : allR P k = true := allR_iff.2 (fun i hi => allR_iff.1 hn i (by omega))
    rw [this] at h; cases h
def zeroR (zs : List Int) (f n : Nat) : Bool := allR (fun i => decide (hz zs (f + i) = 0)) n
def bytesR (zs : List Int) (f n : Nat) : Bool := allR (fun i => decide (0 ≤ hz zs (f + i) ∧ hz zs (f + i) ≤ 255)) n
def textR (zs : List Int) (a s : Nat) : Bool := decide (0 ≤ hz zs (a + 1) ∧ hz zs (a + 1) ≤ (s : Int) - 2) && zeroR zs (a + 2 + (hz zs (a + 1)).toNat) (s - 2 - (hz zs (a + 1)).toNat) && bytesR zs (a + 2) (hz zs (a + 1)).toNat

set_option maxHeartbeats 4000000 in
theorem l3Zero_ok (w : World) (ao : Option Addr) (cap : Nat) (zs : List Int) (f n : Nat) (fI tI : Int) (hf : fI = (f : Int)) (ht : tI = (f : Int) + (n : Int)) (hI : Ints w ao zs) (hl : zs.length ≤ 1048576) (hle : f + n ≤ zs.length) :
    Calls Tryz.prog 190 #[.agg #[.slice ao zs.length cap], .int .i64 fI, .int .i64 tI] w fun e w' => e = .returned (.bool (zeroR zs f n)) ∧ Kept w w' := by
  subst hf ht
  have b0 := Cells.new w 39 #[.slice ao zs.length cap]
  have k0 : Kept w (w.alloc (.cells #[.slice ao zs.length cap] 39)) := Kept.alloc (Below.refl _ _) _
  have c0 := b0.cell 0
  go_enter Tryz.func190, Tryz.ntmps190
  go_wp2
  go_loopw [7] (fun i wr => wr = w.alloc (.cells #[.slice ao zs.length cap] 39) ∧ ∃ k : Nat, i = .int .i64 ((f : Int) + (k : Int)) ∧ k ≤ n ∧ zeroR zs f k = true) (fun i _ => f + n - (intOf i).toNat)
  case atStart => exact ⟨by first | rfl | trivial, 0, by simp, Nat.zero_le _, allR_zero _⟩
  case round =>
    obtain ⟨rfl, k, rfl, hk, hz'⟩ := hrel
    have HZ : Hid (zeroR zs f k = true) := hz'
    clear hz'
    by_cases hlt : k < n
    · obtain ⟨b, off, rfl, hc⟩ := (hI.kept k0).at (k := f + k) (by omega)
      have hck := hc (f + k) (by omega)
      have e1 : ((f : Int) + (k : Int)).toNat = f + k := by omega
      have hltI : (f : Int) + (k : Int) < (f : Int) + (n : Int) := by omega
      have hltL : (f : Int) + (k : Int) < (zs.length : Int) := by omega
      have hge : (0 : Int) ≤ (f : Int) + (k : Int) := by omega
      have HS : Hid (zeroR zs f (k + 1) = decide (hz zs (f + k) = 0)) := by
        show _ = _
        unfold zeroR
        rw [allR_succ, show allR (fun i => decide (hz zs (f + i) = 0)) k = true from HZ.out, Bool.true_and]
      clear hc hI
      by_cases h : hz zs (f + k) = 0
      · have e0 : (hz zs (f + k) != 0) = false := by simp [h]
        have HE : Hid (hz zs (f + k) = 0) := h
        clear h
        go_wp2
        go_roundw
        case rel => exact ⟨by first | rfl | trivial, k + 1, by go_num, by omega, by rw [HS.out]; simp [HE.out]⟩
        case measure => simp [intOf]; omega
      · have e0 : (hz zs (f + k) != 0) = true := by simp [h]
        have HF : Hid (zeroR zs f n = false) := by
          refine allR_false (k := k + 1) (by omega) ?_
          have := HS.out
          unfold zeroR at this
          rw [this]
          simpa using h
        clear h
        go_wp2
        go_ret
        exact ⟨by rw [HF.out]; rfl, k0⟩
    · obtain rfl : n = k := by omega
      go_wp2
      go_ret
      exact ⟨by rw [HZ.out]; rfl, k0⟩
set_option maxHeartbeats 8000000 in
set_option maxRecDepth 100000 in
theorem l3Text_ok (w : World) (ao : Option Addr) (cap : Nat) (zs : List Int) (a s : Nat) (hI : Ints w ao zs) (hl : zs.length ≤ 1048576) (hle : a + s ≤ zs.length) (hs : 2 ≤ s) :
    Calls Tryz.prog 188 #[.agg #[.slice ao zs.length cap], .int .i64 a, .int .i64 s] w fun e w' => e = .returned (.bool (textR zs a s)) ∧ Kept w w' := by
  have b0 := Cells.new w 39 #[.slice ao zs.length cap]
  have k0 : Kept w (w.alloc (.cells #[.slice ao zs.length cap] 39)) := Kept.alloc (Below.refl _ _) _
  have c0 := b0.cell 0
  obtain ⟨bb, off, rfl, hc⟩ := hI.at (k := 0) (by omega)
  have hck := hc (a + 1) (by omega)
  have hbl : bb < w.heap.size := World.block_lt_of_cell? _ _ hck
  have h1I : (a : Int) + 1 < (zs.length : Int) := by omega
  have h10 : (0 : Int) ≤ (a : Int) + 1 := by omega
  obtain ⟨n, hn⟩ : ∃ n, hz zs (a + 1) = n := ⟨_, rfl⟩
  rw [hn] at hck
  by_cases hr : 0 ≤ n ∧ n ≤ (s : Int) - 2
  · obtain ⟨m, rfl⟩ : ∃ m : Nat, n = m := ⟨n.toNat, by omega⟩
    have hZ := l3Zero_ok (w.alloc (.cells #[.slice (some ⟨bb, off, none⟩) zs.length cap] 39)) (some ⟨bb, off, none⟩) cap zs (a + 2 + m) (s - 2 - m) ((a : Int) + 2 + (m : Int)) ((a : Int) + (s : Int)) (by omega) (by omega) (hI.kept k0) hl (by omega)
    have HT : Hid (textR zs a s = (zeroR zs (a + 2 + m) (s - 2 - m) && bytesR zs (a + 2) m)) := by
      show _ = _
      unfold textR
      rw [hn]
      simp [hr]
    cases hz0 : zeroR zs (a + 2 + m) (s - 2 - m) with
    | false =>
      have HR : Hid (textR zs a s = false) := by show _ = _; rw [HT.out, hz0]; rfl
      rw [hz0] at hZ
      clear hz0 hn hc hI
      go_enter Tryz.func188, Tryz.ntmps188
      go_wp2_with (first | (go_at_call 71; refine (l1In_yes _ _ _ _ (by omega) (by omega)).mono ?_; rintro e wx ⟨rfl, rfl⟩) | (go_at_call 190; refine hZ.mono ?_; rintro e w1 ⟨rfl, hk1⟩))
      go_ret
      exact ⟨by rw [HR.out]; rfl, k0.trans hk1⟩
    | true =>
      have HR : Hid (textR zs a s = bytesR zs (a + 2) m) := by show _ = _; rw [HT.out, hz0, Bool.true_and]
      rw [hz0] at hZ
      have hwd : ∀ k, k < m → w.cell? ⟨bb, off + (a + 2 + k), none⟩ = some (.int .i64 (hz zs (a + 2 + k))) := fun k hk => hc (a + 2 + k) (by omega)
      clear hz0 hn hc hI
      go_enter Tryz.func188, Tryz.ntmps188
      go_wp2_with (first | (go_at_call 71; refine (l1In_yes _ _ _ _ (by omega) (by omega)).mono ?_; rintro e wx ⟨rfl, rfl⟩) | (go_at_call 190; refine hZ.mono ?_; rintro e w1 ⟨rfl, hk1⟩))
      have d0 := (b0.kept hk1).cell 0
      have k1 := k0.trans hk1
      clear c0 hZ
      go_loopw [8] (fun i wr => wr = w1 ∧ ∃ k : Nat, i = .int .i64 k ∧ k ≤ m ∧ bytesR zs (a + 2) k = true) (fun i _ => m - (intOf i).toNat)
      case atStart => exact ⟨by first | rfl | trivial, 0, rfl, Nat.zero_le _, allR_zero _⟩
      case round =>
        obtain ⟨rfl, k, rfl, hk, hb'⟩ := hrel
        have HB : Hid (bytesR zs (a + 2) k = true) := hb'
        clear hb'
        by_cases hlt : k < m
        · have hcw := ((k1).cell (p := ⟨bb, off + (a + 2 + k), none⟩) hbl).trans (hwd k hlt)
          have e1 : ((a : Int) + 2 + (k : Int)).toNat = a + 2 + k := by omega
          have hltL : (a : Int) + 2 + (k : Int) < (zs.length : Int) := by omega
          have hge : (0 : Int) ≤ (a : Int) + 2 + (k : Int) := by omega
          have HS : Hid (bytesR zs (a + 2) (k + 1) = decide (0 ≤ hz zs (a + 2 + k) ∧ hz zs (a + 2 + k) ≤ 255)) := by
            show _ = _
            unfold bytesR
            rw [allR_succ, show allR (fun i => decide (0 ≤ hz zs (a + 2 + i) ∧ hz zs (a + 2 + i) ≤ 255)) k = true from HB.out, Bool.true_and]
          by_cases h : 0 ≤ hz zs (a + 2 + k) ∧ hz zs (a + 2 + k) ≤ 255
          · obtain ⟨g0, g1⟩ := h
            go_wp2_with (first | (go_at_call 71; refine (l1In_yes _ _ _ _ g0 g1).mono ?_; rintro e wx ⟨rfl, rfl⟩))
            go_roundw
            case rel => exact ⟨by first | rfl | trivial, k + 1, by go_num, by omega, by rw [HS.out]; simp [g0, g1]⟩
            case measure => simp [intOf]; omega
          · have HF : Hid (bytesR zs (a + 2) m = false) := by
              refine allR_false (k := k + 1) (by omega) ?_
              have := HS.out
              unfold bytesR at this
              rw [this]
              simpa using h
            have h' : hz zs (a + 2 + k) < 0 ∨ 255 < hz zs (a + 2 + k) := by omega
            clear h
            go_wp2_with (first | (go_at_call 71; refine (l1In_no _ _ _ _ h').mono ?_; rintro e wx ⟨rfl, rfl⟩))
            go_ret
            exact ⟨by rw [HR.out, HF.out]; rfl, k1⟩
        · obtain rfl : m = k := by omega
          go_wp2
          go_ret
          exact ⟨by rw [HR.out, HB.out]; rfl, k1⟩
  · have HR : Hid (textR zs a s = false) := by
      show _ = _
      unfold textR
      rw [hn]
      simp [hr]
    have h' : n < 0 ∨ (s : Int) - 2 < n := by omega
    clear hr hn hc hI
    go_enter Tryz.func188, Tryz.ntmps188
    go_wp2_with (first | (go_at_call 71; refine (l1In_no _ _ _ _ h').mono ?_; rintro e wx ⟨rfl, rfl⟩))
    go_ret
    exact ⟨by rw [HR.out]; rfl, k0⟩
end Go.Proofs.YtgempjjnfpmndaaGreatDoor
