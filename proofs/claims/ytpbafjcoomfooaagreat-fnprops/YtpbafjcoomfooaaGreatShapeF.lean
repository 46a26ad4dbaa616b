/-
  The contract of the program's layoutOf: at each place of a slab the kind of the block that begins there.
-/
import Derived.Test.YtpbafjcoomfooaaGreatShapeC
import Derived.Test.YtpbafjcoomfooaaGreatHelpM
namespace Go.Proofs.YtpbafjcoomfooaaGreat
open Go.RowKit Go.Shelf
attribute [local go_sem] Oper.semAt_some

def setsB {L : Nat} (z : List Int) (l : List (BkOf L)) : List Int := l.foldl (fun z b => z.set b.1.at' ((b.1.kind : Nat) : Int)) z
theorem setsB_len {L : Nat} : ∀ (l : List (BkOf L)) (z : List Int), (setsB z l).length = z.length
  | [], _ => rfl
  | b :: l, z => by
    have := setsB_len l (z.set b.1.at' ((b.1.kind : Nat) : Int))
    simp only [List.length_set] at this
    exact this
theorem setsB_snoc {L : Nat} (z : List Int) (l : List (BkOf L)) (b : BkOf L) : setsB z (l ++ [b]) = (setsB z l).set b.1.at' ((b.1.kind : Nat) : Int) := by simp [setsB]
theorem hz_setsB {L : Nat} (k : Nat) : ∀ (l : List (BkOf L)) (z : List Int), z.length = L → l.Pairwise (fun b c => b.1.at' < c.1.at') → hz (setsB z l) k = match l.find? (fun b => decide ((b.1.at' : Int) = (k : Int))) with | some b => ((b.1.kind : Nat) : Int) | none => hz z k
  | [], _, _, _ => rfl
  | b :: l, z, hl, hp => by
    have hb := b.2
    have ih := hz_setsB k l (z.set b.1.at' ((b.1.kind : Nat) : Int)) (by simpa using hl) (List.pairwise_cons.1 hp).2
    have e : setsB z (b :: l) = setsB (z.set b.1.at' ((b.1.kind : Nat) : Int)) l := rfl
    rw [e, ih]
    by_cases h : b.1.at' = k
    · have hn : l.find? (fun b => decide ((b.1.at' : Int) = (k : Int))) = none := by
        rw [List.find?_eq_none]
        intro c hc
        have := (List.pairwise_cons.1 hp).1 c hc
        simp
        omega
      rw [hn]
      simp only [List.find?_cons, h, decide_true]
      rw [hz_set (by omega), if_pos rfl]
    · have hd : decide ((b.1.at' : Int) = (k : Int)) = false := by simp; omega
      rw [List.find?_cons, hd]
      cases hf : l.find? (fun b => decide ((b.1.at' : Int) = (k : Int))) with
      | some c => rfl
      | none => show hz (z.set b.1.at' ((b.1.kind : Nat) : Int)) k = hz z k; rw [hz_set (by omega), if_neg (by omega)]
theorem setsB_lyt {zs : List Int} (hok : slabOk zs = true) : setsB (List.replicate zs.length (-1)) (blocks zs) = lyt zs := by
  apply List.ext_getElem
  · rw [setsB_len, lyt_len, List.length_replicate]
  · intro k h1 h2
    rw [setsB_len, List.length_replicate] at h1
    have e := hz_setsB k (blocks zs) (List.replicate zs.length (-1)) (by simp) (blks_sorted zs 0)
    have e2 := lyt_at h1
    have a1 : hz (setsB (List.replicate zs.length (-1)) (blocks zs)) k = (setsB (List.replicate zs.length (-1)) (blocks zs))[k]'(by rw [setsB_len, List.length_replicate]; exact h1) := by
      unfold hz
      rw [List.getElem?_eq_getElem (by rw [setsB_len, List.length_replicate]; exact h1)]
      rfl
    have a2 : hz (lyt zs) k = (lyt zs)[k]'(by rw [lyt_len]; exact h1) := by
      unfold hz
      rw [List.getElem?_eq_getElem (by rw [lyt_len]; exact h1)]
      rfl
    rw [← a1, ← a2, e, e2, kindAt, atB, if_pos hok]
    cases hf : (blocks zs).find? (fun b => decide ((b.1.at' : Int) = (k : Int))) with
    | some c => rfl
    | none => show hz (List.replicate zs.length (-1)) k = -1; simp [hz, h1]
theorem Row.own {β : Type} (g : Nat) (f : β → List Int) : Own (fun s W => Row W g (f s)) := fun _ _ _ _ h hg hr => by
  have h' := h
  obtain ⟨_, cur, hc, _⟩ := h'
  exact Row.block h (grownBy_keeps_cells hg hr hc rfl)
theorem Row.put {W : World} {g D : Nat} {zs : List Int} {o : Obj} (h : Row W g zs) (hK : W.heap[D]? = some o) (ho : o.isCells = false) (o' : Obj) : Row (W.putObj D o') g zs := by
  by_cases e : g = D
  · subst e
    obtain ⟨_, cur, hc, _⟩ := h
    rw [hc] at hK; cases hK; cases ho
  · exact h.block (World.putObj_heap_other e)
set_option maxHeartbeats 8000000 in
set_option maxRecDepth 100000 in
theorem layoutOf_ok (w : World) (ao : Option Addr) (cap : Nat) (zs : List Int) (hI : Ints w ao zs) (hl : zs.length ≤ 1048576) :
    Calls Tryz.prog 97 #[.agg #[.slice ao zs.length cap]] w fun e w' => (slabOk zs = false → e = .returned (.tuple #[.slice none 0 0, .bool false])) ∧ (slabOk zs = true → ∃ lo lc, e = .returned (.tuple #[.slice lo zs.length lc, .bool true]) ∧ Ints w' lo (lyt zs)) ∧ Kept w w' := by
  have hL : zs.length * 8 ≤ 140737488351232 := by omega
  obtain ⟨i0, hi, hz0, hz1, hz2⟩ := info_parts infoI
  have b0 := Cells.new w 26 #[.slice ao zs.length cap]
  have k0 : Kept w (w.alloc (.cells #[.slice ao zs.length cap] 26)) := Kept.alloc (Below.refl _ _) _
  have hS := impl_SlabOk_ok _ ao cap zs (hI.kept k0) hL
  cases hok : slabOk zs with
  | false =>
    rw [hok] at hS
    have HF : Hid (slabOk zs = false) := hok
    clear hok
    go_enter Tryz.func97, Tryz.ntmps97
    go_wp2_with (go_at_call 116; refine hS.mono ?_; rintro e w1 ⟨rfl, hk1⟩)
    refine bodyPost_ret (v := .tuple #[.slice none 0 0, .bool false]) (by simp [results, Tryz.results97, go_sem]) rfl ⟨fun _ => rfl, fun h => by simp at h, k0.trans hk1⟩
  | true =>
    rw [hok] at hS
    have HO : Hid (slabOk zs = true) := hok
    clear hok
    refine (callsIn_wide (n := 3)).1 ?_
    refine callsIn_of_wp_marks Tryz.func97 rfl trivial ?_ rfl
    simp only [Tryz.ntmps97, List.size_toArray, List.length_cons, List.length_nil, Nat.reduceAdd, Nat.reduceSub, Array.replicate_succ, Array.replicate_zero, List.push_toArray, List.append_toArray, List.nil_append, List.cons_append]
    refine wpIn_wide.2 ?_
    go_wp2_with fail
    refine hS.mono ?_
    rintro e w1 ⟨rfl, hk1⟩
    have c1 := (b0.kept hk1).cell 0
    go_wp2_with (first | (at_make; refine wpList_make_full _ rfl _ _ 60 rfl w1.heap.size 3 i0 (.int .i64 0) 1 Tryz.underlying60 hi hz0 hz1 .i64 .i64 _ _ zs.length rfl rfl rfl rfl (by rw [hz2]; omega) (by unfold maxLen; omega) (by simp) ?_; intro w2 hown hgrow))
    rw [madeInts] at hown
    have hR2 := (Row.of_owns (zs := List.replicate zs.length 0) (by simpa using hown) (by simp)).1
    have hK2 : Kept w1 w2 := (Below.refl _ _).grown hgrow (Nat.le_refl _) (by simp)
    have ka : Kept w2 (w2.alloc (.cells #[.slice (some ⟨w1.heap.size, 0, none⟩) zs.length zs.length] 60)) := Kept.alloc (Below.refl _ _) _
    have x4 := Cells.new w2 60 #[.slice (some ⟨w1.heap.size, 0, none⟩) zs.length zs.length]
    have x1 := ((b0.kept hk1).kept hK2).kept ka
    have r3 := hR2.kept ka
    have k3 := ((k0.trans hk1).trans hK2).trans ka
    have hws := (k0.trans hk1).size
    have hg2 := hR2.lt
    have hw1 := (b0.kept hk1).lt
    clear hown hgrow c1 hR2 hK2 hk1 k0 b0 hS
    obtain ⟨g, hg⟩ : ∃ g, w1.heap.size = g := ⟨_, rfl⟩
    obtain ⟨B4, hB4⟩ : ∃ B4, w2.heap.size = B4 := ⟨_, rfl⟩
    obtain ⟨W3, hW3⟩ : ∃ W3, w2.alloc (.cells #[.slice (some ⟨g, 0, none⟩) zs.length zs.length] 60) = W3 := ⟨_, rfl⟩
    rw [hg] at x4 x1 r3 k3 hws hg2 hw1 ka ⊢
    rw [hB4] at x4 hg2 ⊢
    rw [hW3] at x4 x1 r3 k3 ka ⊢
    clear hW3 ka hg hB4
    go_loopw [16] (fun i wr => ∃ (k : Nat), i = .int .i64 k ∧ k ≤ zs.length ∧ Row wr g (upto (List.replicate zs.length (-1)) k) ∧ W3.grownBy wr (some g)) (fun i _ => zs.length - (intOf i).toNat)
    case atStart => exact ⟨0, rfl, Nat.zero_le _, by simpa [upto] using r3, World.grownBy.refl _ _⟩
    case round =>
      obtain ⟨k, rfl, hk, hRk, hGk⟩ := hrel
      have y4 := x4.grown hGk (by intro e; cases e; omega)
      have c4 := y4.cell 0
      by_cases hlt : k < zs.length
      · have hcg := hRk.cell (j := k) (by rw [upto_len _ _ (by simpa using hk)]; simpa using hlt)
        have hfg := hRk.frozen k
        have HR : Hid _ := hRk.set (k := k) (v := -1) (by rw [upto_len _ _ (by simpa using hk)]; simpa using hlt) ⟨by omega, by omega⟩
        have HG : Hid _ := grown_set (k := k) hGk (.int .i64 (-1))
        have HU : Hid ((upto (List.replicate zs.length (-1)) k).set k (-1) = upto (List.replicate zs.length (-1)) (k + 1)) := by
          have := upto_succ (List.replicate zs.length (-1)) k (by simpa using hlt)
          simpa [Hid, hz, hlt] using this
        clear hRk hGk
        go_wp2
        go_roundw
        case rel => exact ⟨k + 1, by go_num, by omega, by rw [← HU.out]; exact HR.out, HG.out⟩
        case measure => simp [intOf]; omega
      · obtain rfl : k = zs.length := by omega
        have hU : upto (List.replicate zs.length (-1)) zs.length = List.replicate zs.length (-1) := by
          have := upto_all (List.replicate zs.length (-1 : Int))
          simpa using this
        rw [hU] at hRk
        have y1 := x1.grown hGk (by intro e; cases e; omega)
        have cy1 := y1.cell 0
        have k4 := k3.grownRow hGk (fun k e => by cases e; omega)
        have hs4 := y4.lt
        clear x4 x1 r3 k3 hGk hU
        go_wp2_with (go_at_call 98; refine (blocksOf_ok _ _ _ _).mono ?_; rintro e w5 ⟨rfl, rfl⟩)
        have kb : Kept wr (wr.alloc (.cells #[.slice ao zs.length cap] 24)) := Kept.alloc (Below.refl _ _) _
        have bB := Cells.new wr 24 #[.slice ao zs.length cap]
        have z4 := y4.kept kb
        have rz := hRk.kept kb
        have kz := k4.trans kb
        have hsz : (wr.alloc (.cells #[.slice ao zs.length cap] 24)).heap.size = wr.heap.size + 1 := by simp
        obtain ⟨W0, hW0⟩ : ∃ W0, wr.alloc (.cells #[.slice ao zs.length cap] 24) = W0 := ⟨_, rfl⟩
        rw [hW0] at z4 rz kz bB hsz ⊢
        clear hW0 kb y4 y1 hRk cy1 c4 k4
        refine (wpIn_wide (n := 3)).1 ?_
        refine range_blocks (X := fun k => k = g) (nX := g + 1) (zs := zs) (ao := ao) (cap := cap) (by omega) rfl (by simp) (by simp) (by decide) hL hI kz (by intro k h; omega) (by intro k h; omega) (by intro k h; omega) (by omega) bB
          (fun pre W => (Row W g (setsB (List.replicate zs.length (-1)) pre) ∧ Cells W B4 60 #[.slice (some ⟨g, 0, none⟩) zs.length zs.length]) ∧ Below w.heap.size w W)
          (fun _ _ _ => False)
          (OwnFrom.and (OwnFrom.and (Own.from (Row.own _ (fun pre => setsB (List.replicate zs.length (-1)) pre)) _) (Own.from (Cells.own _ _ _) _)) (ownFrom_below (Nat.le_refl _) (by omega)))
          (fun _ _ _ _ _ hs _ _ => hs)
          ⟨⟨rz, z4⟩, kz⟩ ?body ?done ?stop
        case body =>
          rintro l pre x W Bx hBx bX ⟨⟨hR, d4⟩, hB1⟩ hlt
          have hx := x.2
          have c0 := bX.cell 0
          have c2 := bX.cell 2
          have e4 := d4.cell 0
          have hll : (setsB (List.replicate zs.length (-1)) pre).length = zs.length := by rw [setsB_len, List.length_replicate]
          have hcg := hR.cell (j := x.1.at') (by rw [hll]; omega)
          have hfg := hR.frozen x.1.at'
          have hxI : ((x.1.at' : Nat) : Int) < (zs.length : Int) := by omega
          simp only [List.setIfInBounds_toArray, List.set_cons_succ, List.set_cons_zero]
          gi_wp2
          refine ⟨(KeepsOthers.setCell _ _ _).from _, KeepX.setCell (X := fun k => k = g) (p := ⟨g, x.1.at', none⟩) rfl _, ⟨?_, d4.other (by intro e; simp at e; omega) _⟩, hB1.setCell (p := ⟨g, x.1.at', none⟩) (by simp; omega) _⟩
          rw [setsB_snoc]
          exact hR.set (by rw [hll]; omega) ⟨by omega, by omega⟩
        case done =>
          rintro D W hD ⟨⟨hR, d4⟩, hB1⟩ hK
          have e4 := d4.cell 0
          go_wp2
          refine ⟨by simp, .inl ⟨_, _, rfl, run_takeDeferred hK, ?_⟩⟩
          have hR' := hR.put hK rfl (.deferred none)
          rw [setsB_lyt HO.out] at hR'
          refine ⟨.tuple #[.slice (some ⟨g, 0, none⟩) zs.length zs.length, .bool true], by simp [results, Tryz.results97, go_sem], fun h => (by simp at h), fun _ => ⟨_, _, rfl, hR'.ints⟩, ?_⟩
          exact hB1.trans (belowK_b (w := w) (Nat.le_refl _) _ D _ _ (by omega) hK rfl rfl)
        case stop =>
          rintro D c pre W _ _ h _
          exact h.elim
end Go.Proofs.YtpbafjcoomfooaaGreat
