/-
  fillText.
  The contracts of the program's TextPut.
  TextPut of the program and of its model together: they answer the same, each a slab of its own.
-/
import Derived.Test.YtpbafjcoomfooaaGreatGrpK
import Derived.Test.YtpbafjcoomfooaaGreatGrpG
import Derived.Test.YtpbafjcoomfooaaGreatShapeF
import Derived.Test.YtpbafjcoomfooaaGreatGrpC
namespace Go.Proofs.YtpbafjcoomfooaaGreat
open Go.RowKit Go.Shelf
attribute [local go_sem] Oper.semAt_some

/-- The bytes of t from f on, j of them, laid. -/
def layP (l : List Int) (a : Nat) (t : ByteArray) (f j : Nat) : List Int := (List.range j).foldl (fun l i => l.set (a + 2 + f + i) (byteN t (f + i))) l
theorem layP_succ (l : List Int) (a : Nat) (t : ByteArray) (f j : Nat) : layP l a t f (j + 1) = (layP l a t f j).set (a + 2 + f + j) (byteN t (f + j)) := by
  simp [layP, List.range_succ, List.foldl_append]
theorem layP_len (l : List Int) (a : Nat) (t : ByteArray) (f j : Nat) : (layP l a t f j).length = l.length := by
  induction j with
  | zero => simp [layP]
  | succ j ih => rw [layP_succ, List.length_set, ih]
theorem fillL_lay (ys : List Int) (a : Nat) (t : ByteArray) (f j : Nat) : fillL ys a t (f + j) = layP (fillL ys a t f) a t f j := by
  induction j with
  | zero => simp [layP]
  | succ j ih => rw [← Nat.add_assoc, fillL_succ, ih, layP_succ, Nat.add_assoc (a + 2) f j]
def fillP (zs : List Int) (a : Nat) (t : ByteArray) (ys : List (PieceOf t.size)) : List Int := ys.foldl (fun l x => layP l a t x.1.1 (x.1.2 - x.1.1)) (zs.set (a + 1) (t.size : Int))
theorem fillP_snoc (zs : List Int) (a : Nat) (t : ByteArray) (ys : List (PieceOf t.size)) (x : PieceOf t.size) : fillP zs a t (ys ++ [x]) = layP (fillP zs a t ys) a t x.1.1 (x.1.2 - x.1.1) := by simp [fillP, List.foldl_append]
theorem foldP_len (a : Nat) (t : ByteArray) : ∀ (ys : List (PieceOf t.size)) (l : List Int), (ys.foldl (fun l x => layP l a t x.1.1 (x.1.2 - x.1.1)) l).length = l.length
  | [], _ => rfl
  | x :: ys, l => by rw [List.foldl_cons, foldP_len a t ys, layP_len]
theorem fillP_len (zs : List Int) (a : Nat) (t : ByteArray) (ys : List (PieceOf t.size)) : (fillP zs a t ys).length = zs.length := by
  unfold fillP; rw [foldP_len]; simp
theorem fillP_all {zs : List Int} {a : Nat} {t : ByteArray} {e : Nat} {ys : List (PieceOf t.size)} (h : Part e ys) : fillP zs a t ys = fillL zs a t e := by
  induction h with
  | nil => simp [fillP, fillL]
  | @snoc ys x hp ih =>
    have hx := x.2
    rw [fillP_snoc, ih, ← fillL_lay]
    congr 1
    omega
theorem keepR_set {B g k : Nat} (W : World) (hg : g < B) (v : Value) : KeepR B g W (W.setCell ⟨g, k, none⟩ v) :=
  ⟨by simp [World.setCell], fun j o e c => by
    by_cases hj : j = g
    · subst hj
      rcases c with c | c
      · exact absurd rfl c.2
      · omega
    · rw [Below.heap_setCell W ⟨g, k, none⟩ v j hj]; exact e⟩

set_option maxHeartbeats 4000000 in
set_option maxRecDepth 100000 in
theorem fillText_ok (w : World) (g cap : Nat) (zs : List Int) (a : Nat) (t : ByteArray) (hR : Row w g zs) (hl : zs.length ≤ 1048576) (hfit : a + 2 + t.size ≤ zs.length) :
    Calls Tryz.prog 83 #[.slice (some ⟨g, 0, none⟩) zs.length cap, .int .i64 a, .string t] w fun e w' => e = .returned (.tuple #[]) ∧ Row w' g (fillL zs a t t.size) ∧ w.grownBy w' (some g) := by
  have lg := hR.lt
  have cg := hR.cell (j := a + 1) (by omega)
  have fg := hR.frozen (a + 1)
  have p1 : (a : Int) + 1 < (zs.length : Int) := by omega
  have t1 : ((a : Int) + 1).toNat = a + 1 := by omega
  refine (callsIn_wide (n := 3)).1 ?_
  refine callsIn_of_wp_marks Tryz.func83 rfl trivial ?_ rfl
  simp only [Tryz.ntmps83, List.size_toArray, List.length_cons, List.length_nil, Nat.reduceAdd, Nat.reduceSub, Array.replicate_succ, Array.replicate_zero, List.push_toArray, List.append_toArray, List.nil_append, List.cons_append]
  refine wpIn_wide.2 ?_
  go_wp2_with (go_at_call 76; refine (runesOf_ok _ _).mono ?_; rintro e w3 ⟨rfl, rfl⟩)
  have hR1 := hR.set (k := a + 1) (v := (t.size : Int)) (by omega) ⟨by omega, by omega⟩
  have hgw : w.grownBy (w.setCell ⟨g, a + 1, none⟩ (.int .i64 (t.size : Int))) (some g) := grown_set (World.grownBy.refl _ _) _
  have hsw : (w.setCell ⟨g, a + 1, none⟩ (.int .i64 (t.size : Int))).heap.size = w.heap.size := by simp [World.setCell]
  clear cg fg hR p1 t1
  obtain ⟨w0, hw0⟩ : ∃ w0, w.setCell ⟨g, a + 1, none⟩ (.int .i64 (t.size : Int)) = w0 := ⟨_, rfl⟩
  rw [hw0] at hR1 hgw hsw ⊢
  clear hw0
  have bW := ((Cells.new w0 24 #[.slice (some ⟨g, 0, none⟩) zs.length cap]).alloc (.cells #[.int .i64 (a : Int)] 3)).alloc (.cells #[.string t] 9)
  have bA := (Cells.new (w0.alloc (.cells #[.slice (some ⟨g, 0, none⟩) zs.length cap] 24)) 3 #[.int .i64 (a : Int)]).alloc (.cells #[.string t] 9)
  have bB := Cells.new ((w0.alloc (.cells #[.slice (some ⟨g, 0, none⟩) zs.length cap] 24)).alloc (.cells #[.int .i64 (a : Int)] 3)) 9 #[.string t]
  have k0 : Kept w0 (((w0.alloc (.cells #[.slice (some ⟨g, 0, none⟩) zs.length cap] 24)).alloc (.cells #[.int .i64 (a : Int)] 3)).alloc (.cells #[.string t] 9)) := ((Kept.alloc (Below.refl _ _) _).alloc _).alloc _
  have hR3 := hR1.kept k0
  have hgw3 := hgw.andThen k0.grown (by simp)
  have hsz : (((w0.alloc (.cells #[.slice (some ⟨g, 0, none⟩) zs.length cap] 24)).alloc (.cells #[.int .i64 (a : Int)] 3)).alloc (.cells #[.string t] 9)).heap.size = w.heap.size + 3 := by simp [hsw]
  simp only [World.size_alloc, hsw] at bW bA bB
  obtain ⟨W0, hW0⟩ : ∃ W0, ((w0.alloc (.cells #[.slice (some ⟨g, 0, none⟩) zs.length cap] 24)).alloc (.cells #[.int .i64 (a : Int)] 3)).alloc (.cells #[.string t] 9) = W0 := ⟨_, rfl⟩
  rw [hW0] at bW bA bB hR3 hgw3 hsz ⊢
  clear hW0 k0 hR1 hgw hsw
  have hsz' : w.heap.size + 3 ≤ W0.heap.size := by omega
  clear hsz
  refine (wpIn_wide (n := 3)).1 ?_
  refine wpIn_rangeFunc_ownH rfl (by omega) rfl trivial (enters_of Tryz.func114 (by kernel_rfl) rfl)
    (runesOf_stops (3 - 1) (by omega) (w.heap.size + 1 + 1) g (by omega) t W0 bB) KeepR.t (fun W l o o' _ h h1 h2 => KeepR.b W l o o' h h1 h2) (Below.refl _ _) (fun _ => rfl)
    (fun pre W => (Row W g (fillP zs a t pre) ∧ Cells W w.heap.size 24 #[.slice (some ⟨g, 0, none⟩) zs.length cap] ∧ Cells W (w.heap.size + 1) 3 #[.int .i64 (a : Int)]) ∧ w.grownBy W (some g))
    (fun _ _ _ => False)
    (OwnFrom.and (OwnFrom.and (Own.from (Row.own _ _) _) (OwnFrom.and (Own.from (Cells.own _ _ _) _) (Own.from (Cells.own _ _ _) _))) (fun s Y Z row h hg hr => h.andThen hg (fun j e => .inl (by have := (hr j e).1; omega))))
    (fun _ _ _ _ _ hs _ _ => hs)
    ⟨⟨hR3, bW, bA⟩, hgw3⟩
    (fun x a' _ => a' = { tmps := #[.slice (some ⟨g, 0, none⟩) zs.length cap, .int .i64 (a : Int), .string t, .pointer (some ⟨w.heap.size, 0, none⟩), .pointer (some ⟨w.heap.size + 1, 0, none⟩), undef, .int .i64 (x.1.1 : Nat), .string (t.extract x.1.1 x.1.2), undef, .slice (some ⟨g, 0, none⟩) zs.length cap, .int .i64 (a : Int), .int .i64 ((a : Int) + 1), .string t, .int .i64 t.size, .pointer (some ⟨g, a + 1, none⟩), .string t, .func (.func 114) #[] #[.pointer (some ⟨w.heap.size + 1 + 1, 0, none⟩)], .int .i64 (x.1.1 : Nat), .string (t.extract x.1.1 x.1.2), undef, undef, undef, undef, undef, undef, undef, undef, undef, undef, undef, undef, undef, undef, undef, undef, undef, undef], defers := [] })
    (fun x a' _ Y Z row hs _ _ => hs)
    ?assign ?body ?done ?stop
  case assign =>
    intro l pre x W K hi hK
    simp only [runeV, List.zip_toArray, List.zip_cons_cons, List.zip_nil_right, List.foldl_toArray, List.foldl_cons, List.foldl_nil, List.setIfInBounds_toArray, List.set_cons_succ, List.set_cons_zero]
    gi_wp2
    exact hK _ _ (KeepsFrom.refl _ _) (KeepR.of (Below.refl _ _)) hi rfl
  case body =>
    rintro l pre x a' W _ _ ⟨⟨hR5, bW5, bA5⟩, hg5⟩ rfl hlt
    have hx := x.2
    have hex := extract_size t x.1.1 x.1.2 hx.2
    have HP : Hid (fillP zs a t (pre ++ [x]) = layP (fillP zs a t pre) a t x.1.1 (x.1.2 - x.1.1)) := fillP_snoc zs a t pre x
    have hfl := fillP_len zs a t pre
    have hby := fun (j : Nat) (h : j < x.1.2 - x.1.1) => extract_byte t x.1.1 x.1.2 j hx.2 h
    obtain ⟨u, hu⟩ : ∃ u, t.extract x.1.1 x.1.2 = u := ⟨_, rfl⟩
    obtain ⟨f, hf⟩ : ∃ f, x.1.1 = f := ⟨_, rfl⟩
    obtain ⟨q, hq⟩ : ∃ q, x.1.2 - x.1.1 = q := ⟨_, rfl⟩
    obtain ⟨l0, hl0⟩ : ∃ l0, fillP zs a t pre = l0 := ⟨_, rfl⟩
    have hfq : f + q ≤ t.size := by omega
    rw [hu] at hex hby ⊢
    rw [hl0] at HP hR5 hfl
    rw [hq] at HP hex hby
    rw [hf] at HP hby ⊢
    have HB : Hid (∀ j, j < q → byteN u j = byteN t (f + j)) := hby
    clear hby hu hf hq hl0 hx hlt
    gi_wp2
    gi_loopw [21] (fun i wr => ∃ j : Nat, i = .int .i64 j ∧ j ≤ q ∧ Row wr g (layP l0 a t f j) ∧ Cells wr w.heap.size 24 #[.slice (some ⟨g, 0, none⟩) zs.length cap] ∧ Cells wr (w.heap.size + 1) 3 #[.int .i64 (a : Int)] ∧ KeepsFrom W0.heap.size W wr ∧ KeepR W0.heap.size g W wr ∧ w.grownBy wr (some g)) (fun i _ => q - (intOf i).toNat)
    case atStart => exact ⟨0, rfl, Nat.zero_le _, hR5, bW5, bA5, KeepsFrom.refl _ _, KeepR.of (Below.refl _ _), hg5⟩
    case round =>
      obtain ⟨j, rfl, hj, hrj, hwj, haj, hkf, hkr, hgj⟩ := hrel
      have cW := hwj.cell 0
      have cA := haj.cell 0
      by_cases hlt : j < q
      · have hju : j < u.size := by omega
        have cj := hrj.cell (j := a + 2 + f + j) (by rw [layP_len]; omega)
        have fj := hrj.frozen (a + 2 + f + j)
        have hwr1 : IntKind.i64.wrap ((a : Int) + 2) = (a : Int) + 2 := by rw [IntWalk.i64_left, IntWalk.wrap64_in _ (by omega)]
        have hwr2 : IntKind.i64.wrap ((a : Int) + 2 + (f : Int)) = (a : Int) + 2 + (f : Int) := by rw [IntWalk.i64_left, IntWalk.wrap64_in _ (by omega)]
        have hwr3 : IntKind.i64.wrap ((a : Int) + 2 + (f : Int) + (j : Int)) = (a : Int) + 2 + (f : Int) + (j : Int) := by rw [IntWalk.i64_left, IntWalk.wrap64_in _ (by omega)]
        have hbb := byteN_in t (f + j)
        have hcv : IntKind.i64.wrap ((u[j].toNat : Nat) : Int) = byteN t (f + j) := by rw [byteN_get u j hju, HB.out j hlt, IntWalk.i64_left, IntWalk.wrap64_in _ (by omega)]
        have t2 : ((a : Int) + 2 + (f : Int) + (j : Int)).toNat = a + 2 + f + j := by omega
        have p2 : (a : Int) + 2 + (f : Int) + (j : Int) < (zs.length : Int) := by omega
        have q1 : (j : Int) < (u.size : Int) := by omega
        gi_wp2_with fail
        refine wpIn_region_last (os := [_, _, _, _, _, _, _, _, _, _, _, _]) (ol := _) (fun _ => trivial) (by kernel_rfl) (by kernel_rfl) (by kernel_rfl) rfl rfl ?_
        repeat (refine SeqR.read ?_ rfl (by simp) ?_ ?_; rotate_left; (focus (go_simp; first | done | exact rfl)); simp only [Act.put, List.setIfInBounds_toArray, List.set_cons_zero, List.set_cons_succ])
        refine SeqR.nil ?_
        refine ⟨fun _ _ => trivial, ?_⟩
        go_simp
        have HR : Hid _ := (hrj.kept (Below.refl _ wr).drew).set (k := a + 2 + f + j) (v := byteN t (f + j)) (by rw [layP_len]; omega) ⟨by omega, by omega⟩
        have HW : Hid _ := (hwj.kept (Below.refl _ wr).drew).other (p := ⟨g, a + 2 + f + j, none⟩) (by intro h; simp at h; omega) (.int .i64 (byteN t (f + j)))
        have HA : Hid _ := (haj.kept (Below.refl _ wr).drew).other (p := ⟨g, a + 2 + f + j, none⟩) (by intro h; simp at h; omega) (.int .i64 (byteN t (f + j)))
        have HF : Hid _ := hkf.trans ((Kept.others ((Below.refl _ wr).drew : Kept wr wr.drew)).trans (KeepsOthers.setCell _ ⟨g, a + 2 + f + j, none⟩ (.int .i64 (byteN t (f + j)))) |>.from W0.heap.size)
        have HK : Hid _ := hkr.t ((KeepR.of ((Below.refl _ wr).drew : Kept wr wr.drew)).t (keepR_set (k := a + 2 + f + j) wr.drew (by omega) (.int .i64 (byteN t (f + j)))))
        have HG : Hid _ := grown_set (k := a + 2 + f + j) (hgj.andThen (Kept.grown ((Below.refl _ wr).drew : Kept wr wr.drew)) (by simp)) (.int .i64 (byteN t (f + j)))
        clear hrj hwj haj hkf hkr hgj cj fj cW cA hcv
        gi_wp2
        go_roundw
        case rel => exact ⟨j + 1, by go_num, by omega, by rw [layP_succ]; exact HR.out, HW.out, HA.out, HF.out, HK.out, HG.out⟩
        case measure => simp [intOf]; omega
      · obtain rfl : q = j := by omega
        have q2 : ¬ ((q : Int) < (u.size : Int)) := by omega
        gi_wp2
        exact ⟨hkf, hkr, ⟨by rw [HP.out]; exact hrj, hwj, haj⟩, hgj⟩
  case done =>
    rintro D ys W hD hP ⟨⟨hR5, bW5, bA5⟩, hg5⟩ hK
    go_wp2
    refine ⟨by simp, .inl ⟨_, _, rfl, run_takeDeferred hK, ?_⟩⟩
    refine ⟨_, results_none rfl _ _ _, rfl, ?_, ?_⟩
    · rw [← fillP_all hP]
      exact hR5.block (World.putObj_heap_other (by omega))
    · exact hg5.andThen (grownBy_putObj' _ _ _) (fun j e => by cases e; exact .inl (by omega))
  case stop =>
    rintro D c pre W _ _ h _
    exact h.elim
end Go.Proofs.YtpbafjcoomfooaaGreat
namespace Go.Proofs.YtpbafjcoomfooaaGreat
open Go.RowKit

set_option maxHeartbeats 4000000 in
set_option maxRecDepth 100000 in
theorem impl_TextPut_bad (w : World) (ao : Option Addr) (cap : Nat) (zs : List Int) (t : ByteArray) (hI : Ints w ao zs) (hl : zs.length ≤ 1048576) (hh : heapR zs = false) :
    Calls Tryz.prog 8 #[.agg #[.slice ao zs.length cap], .string t] w fun e w' => e = .returned (.tuple #[.agg #[.slice none 0 0], .int .i64 0, .bool false]) ∧ Kept w w' := by
  have b1 := Cells.new (w.alloc (.cells #[.slice ao zs.length cap] 26)) 26 #[.slice none 0 0]
  have k0 : Kept w ((w.alloc (.cells #[.slice ao zs.length cap] 26)).alloc (.cells #[.slice none 0 0] 26)) := (Kept.alloc (Below.refl _ _) _).alloc _
  simp only [World.size_alloc] at b1
  have hS := impl_HeapOk_ok _ ao cap zs (hI.kept k0) hl
  rw [hh] at hS
  clear hh
  go_enter Tryz.func8, Tryz.ntmps8
  go_wp2_with (go_at_call 17; refine hS.mono ?_; rintro e w1 ⟨rfl, hk1⟩; have d1 := (b1.kept hk1).cell 0; have f1 := (b1.kept hk1).frozen 0)
  have q := ((b1.kept hk1).set1 (.slice none 0 0)).cell 0
  refine bodyPost_ret (v := .tuple #[.agg #[.slice none 0 0], .int .i64 0, .bool false]) (by simp [results, Tryz.results8, go_sem, q]) rfl ⟨rfl, (k0.trans hk1).set (by simp) _⟩
set_option maxHeartbeats 4000000 in
set_option maxRecDepth 100000 in
theorem impl_TextPut_there (w : World) (ao : Option Addr) (cap : Nat) (zs : List Int) (t : ByteArray) (b : BkOf zs.length) (hI : Ints w ao zs) (hl : zs.length ≤ 1048576) (hcap : zs.length ≤ cap) (hh : heapR zs = true) (hf : findT zs t = some b) :
    Calls Tryz.prog 8 #[.agg #[.slice ao zs.length cap], .string t] w fun e w' => ∃ v, e = .returned (.tuple #[.agg #[v], .int .i64 (8 * ((b.1.at' : Nat) : Int) + 4), .bool true]) ∧ OwnR w' w.heap.size v zs ∧ Kept w w' := by
  have b0 := (Cells.new w 26 #[.slice ao zs.length cap]).alloc (.cells #[.slice none 0 0] 26)
  have b1 := Cells.new (w.alloc (.cells #[.slice ao zs.length cap] 26)) 26 #[.slice none 0 0]
  have k0 : Kept w ((w.alloc (.cells #[.slice ao zs.length cap] 26)).alloc (.cells #[.slice none 0 0] 26)) := (Kept.alloc (Below.refl _ _) _).alloc _
  simp only [World.size_alloc] at b1
  have hS := impl_HeapOk_ok _ ao cap zs (hI.kept k0) hl
  rw [hh] at hS
  have hA := fun (u : World) (hu : Kept w u) => textAt_ok u ao cap zs t (hI.kept hu) hl hcap hh
  have hC := fun (u : World) (hu : Kept w u) => copySlab_ok u ao cap zs (hI.kept hu) hl
  rw [hf] at hA
  have hlen : zs.length ≤ 2000 := (slabOk_iff.1 (heapR_slab hh)).1
  have hm2 : b.1.at' < 2000 := by have := b.2.2.1; have := b.2.1; omega
  obtain ⟨m, hm⟩ : ∃ m : Nat, b.1.at' = m := ⟨_, rfl⟩
  simp only [atV, hm] at hA
  rw [hm] at hm2 ⊢
  have HA : Hid _ := hA
  have HC : Hid _ := hC
  clear hh hf hm hA hC hcap
  go_enter Tryz.func8, Tryz.ntmps8
  go_wp2_with (first | (go_at_call 17; refine hS.mono ?_; rintro e w1 ⟨rfl, hk1⟩; have x0 := b0.kept hk1; have c0 := x0.cell 0) | (go_at_call 35; refine (HA.out _ (k0.trans hk1)).mono ?_; rintro e w2 ⟨rfl, hk2⟩; have c2 := (x0.kept hk2).cell 0) | (go_at_call 36; refine (HC.out _ ((k0.trans hk1).trans hk2)).mono ?_; rintro e w3 ⟨g3, c3, rfl, hg3, hc3, hR3, hk3⟩; have x1 := ((b1.kept hk1).kept hk2).kept hk3; have d1 := x1.cell 0; have f1 := x1.frozen 0; have l1 := x1.lt) | (go_at_call 37; refine (impl_RefOf_ok _ _ _).mono ?_; rintro e wx ⟨rfl, rfl⟩))
  have hs1 := hk1.size
  have hs2 := hk2.size
  simp only [World.size_alloc] at hs1
  have q := (x1.set1 (.slice (some ⟨g3, 0, none⟩) zs.length c3)).cell 0
  refine bodyPost_ret (v := .tuple #[.agg #[.slice (some ⟨g3, 0, none⟩) zs.length c3], .int .i64 (vRef 4 (m : Int)), .bool true]) (by simp [results, Tryz.results8, go_sem, q]) rfl ⟨_, by rw [vRef_yes (by omega)], .inr ⟨g3, c3, rfl, by omega, hc3, hR3.other (by intro h; simp at h <;> omega) _⟩, (((k0.trans hk1).trans hk2).trans hk3).set (by simp) _⟩
set_option maxHeartbeats 4000000 in
set_option maxRecDepth 100000 in
theorem impl_TextPut_long (w : World) (ao : Option Addr) (cap : Nat) (zs : List Int) (t : ByteArray) (hI : Ints w ao zs) (hl : zs.length ≤ 1048576) (hcap : zs.length ≤ cap) (hh : heapR zs = true) (hf : findT zs t = none) (ht : 30 < t.size) :
    Calls Tryz.prog 8 #[.agg #[.slice ao zs.length cap], .string t] w fun e w' => ∃ v, e = .returned (.tuple #[.agg #[v], .int .i64 0, .bool false]) ∧ OwnR w' w.heap.size v zs ∧ Kept w w' := by
  have b0 := (Cells.new w 26 #[.slice ao zs.length cap]).alloc (.cells #[.slice none 0 0] 26)
  have b1 := Cells.new (w.alloc (.cells #[.slice ao zs.length cap] 26)) 26 #[.slice none 0 0]
  have k0 : Kept w ((w.alloc (.cells #[.slice ao zs.length cap] 26)).alloc (.cells #[.slice none 0 0] 26)) := (Kept.alloc (Below.refl _ _) _).alloc _
  simp only [World.size_alloc] at b1
  have hS := impl_HeapOk_ok _ ao cap zs (hI.kept k0) hl
  rw [hh] at hS
  have hA := fun (u : World) (hu : Kept w u) => textAt_ok u ao cap zs t (hI.kept hu) hl hcap hh
  have hC := fun (u : World) (hu : Kept w u) => copySlab_ok u ao cap zs (hI.kept hu) hl
  rw [hf] at hA
  have hlen : zs.length ≤ 2000 := (slabOk_iff.1 (heapR_slab hh)).1
  simp only [atV] at hA
  have ht' : (30 : Int) < (t.size : Int) := by omega
  have HA : Hid _ := hA
  have HC : Hid _ := hC
  clear hh hf hA hC ht hcap
  go_enter Tryz.func8, Tryz.ntmps8
  go_wp2_with (first | (go_at_call 17; refine hS.mono ?_; rintro e w1 ⟨rfl, hk1⟩; have x0 := b0.kept hk1; have c0 := x0.cell 0) | (go_at_call 35; refine (HA.out _ (k0.trans hk1)).mono ?_; rintro e w2 ⟨rfl, hk2⟩; have c2 := (x0.kept hk2).cell 0) | (go_at_call 36; refine (HC.out _ ((k0.trans hk1).trans hk2)).mono ?_; rintro e w3 ⟨g3, c3, rfl, hg3, hc3, hR3, hk3⟩; have x1 := ((b1.kept hk1).kept hk2).kept hk3; have d1 := x1.cell 0; have f1 := x1.frozen 0; have l1 := x1.lt))
  have hs1 := hk1.size
  have hs2 := hk2.size
  simp only [World.size_alloc] at hs1
  have q := (x1.set1 (.slice (some ⟨g3, 0, none⟩) zs.length c3)).cell 0
  refine bodyPost_ret (v := .tuple #[.agg #[.slice (some ⟨g3, 0, none⟩) zs.length c3], .int .i64 0, .bool false]) (by simp [results, Tryz.results8, go_sem, q]) rfl ⟨_, rfl, .inr ⟨g3, c3, rfl, by omega, hc3, hR3.other (by intro h; simp at h <;> omega) _⟩, (((k0.trans hk1).trans hk2).trans hk3).set (by simp) _⟩
set_option maxHeartbeats 4000000 in
set_option maxRecDepth 100000 in
theorem newText_no (w : World) (ao : Option Addr) (cap : Nat) (zs : List Int) (t : ByteArray) (hI : Ints w ao zs) (hl : zs.length ≤ 1048576) (hok : slabOk zs = true) (ht : t.size ≤ 30) (hno : ffB zs ((t.size + 2 : Nat) : Int) = none) :
    Calls Tryz.prog 38 #[.agg #[.slice ao zs.length cap], .string t] w fun e w' => ∃ v, e = .returned (.tuple #[.agg #[v], .int .i64 0, .bool false]) ∧ OwnR w' w.heap.size v zs ∧ Kept w w' := by
  have b0 := (Cells.new w 26 #[.slice ao zs.length cap]).alloc (.cells #[.slice none 0 0] 26)
  have b1 := Cells.new (w.alloc (.cells #[.slice ao zs.length cap] 26)) 26 #[.slice none 0 0]
  have k0 : Kept w ((w.alloc (.cells #[.slice ao zs.length cap] 26)).alloc (.cells #[.slice none 0 0] 26)) := (Kept.alloc (Below.refl _ _) _).alloc _
  simp only [World.size_alloc] at b1
  have hT := impl_Take_no _ ao cap zs 1 (2 + (t.size : Int)) (hI.kept k0) hl hok (.inr (by rw [← hno]; congr 1; omega))
  have c0 := b0.cell 0
  have ht2 : (t.size : Int) ≤ 30 := by omega
  clear hok ht hno hI
  go_enter Tryz.func38, Tryz.ntmps38
  go_wp2_with (go_at_call 82; refine hT.mono ?_; rintro e w3 ⟨v3, rfl, o3, hk3⟩; obtain ⟨la3, lc3, rfl, _⟩ := o3.ints; have cz := (Cells.new w3 26 #[.slice la3 zs.length lc3]).cell 0; have x1 := (b1.kept hk3).alloc (.cells #[.slice la3 zs.length lc3] 26); have d1 := x1.cell 0; have f1 := x1.frozen 0; have l1 := x1.lt)
  have q := (x1.set1 (.slice la3 zs.length lc3)).cell 0
  refine bodyPost_ret (v := .tuple #[.agg #[.slice la3 zs.length lc3], .int .i64 0, .bool false]) (by simp [results, Tryz.results38, go_sem, q]) rfl ⟨_, rfl, ?_, ((k0.trans hk3).alloc _).set (by simp) _⟩
  rcases o3 with ⟨h1, h2⟩ | ⟨g3, c3, h1, h2, h3, h4⟩
  · exact .inl ⟨h1, h2⟩
  · simp only [World.size_alloc] at h2
    exact .inr ⟨g3, c3, h1, by omega, h3, (h4.kept (Kept.alloc (Below.refl _ _) _)).other (by intro h; simp at h <;> omega) _⟩
set_option maxHeartbeats 4000000 in
set_option maxRecDepth 100000 in
theorem newText_yes (w : World) (ao : Option Addr) (cap : Nat) (zs : List Int) (t : ByteArray) (b : BkOf zs.length) (hI : Ints w ao zs) (hl : zs.length ≤ 1048576) (hok : slabOk zs = true) (ht : t.size ≤ 30) (hb : ffB zs ((t.size + 2 : Nat) : Int) = some b) :
    Calls Tryz.prog 38 #[.agg #[.slice ao zs.length cap], .string t] w fun e w' => ∃ v, e = .returned (.tuple #[.agg #[v], .int .i64 (b.1.at' : Nat), .bool true]) ∧ OwnR w' w.heap.size v (fillL (takeL zs b.1 1 (t.size + 2)) b.1.at' t t.size) ∧ Kept w w' := by
  have b0 := (Cells.new w 26 #[.slice ao zs.length cap]).alloc (.cells #[.slice none 0 0] 26)
  have b1 := Cells.new (w.alloc (.cells #[.slice ao zs.length cap] 26)) 26 #[.slice none 0 0]
  have k0 : Kept w ((w.alloc (.cells #[.slice ao zs.length cap] 26)).alloc (.cells #[.slice none 0 0] 26)) := (Kept.alloc (Below.refl _ _) _).alloc _
  simp only [World.size_alloc] at b1
  have hT := impl_Take_yes _ ao cap zs 1 (t.size + 2) b (hI.kept k0) hl hok (by omega) (by omega) (by omega) hb
  have en : ((t.size + 2 : Nat) : Int) = 2 + (t.size : Int) := by omega
  rw [en] at hT
  have hfr : freeP ((t.size + 2 : Nat) : Int) b = true := List.find?_some hb
  have hble := b.2.2.1
  have hbs : t.size + 2 ≤ b.1.size := by simp [freeP] at hfr; omega
  have hlen : zs.length ≤ 2000 := (slabOk_iff.1 hok).1
  obtain ⟨a, ha⟩ : ∃ a : Nat, b.1.at' = a := ⟨_, rfl⟩
  obtain ⟨ys, hys⟩ : ∃ ys, takeL zs b.1 1 (t.size + 2) = ys := ⟨_, rfl⟩
  have hyl : ys.length = zs.length := by rw [← hys]; unfold takeL; split <;> simp [layL_len]
  rw [hys, ha] at hT ⊢
  have hfit : a + 2 + t.size ≤ ys.length := by omega
  have hF := fun (u : World) (g c : Nat) (hu : Row u g ys) => fillText_ok u g c ys a t hu (by omega) hfit
  have hfl := fillL_len ys a t t.size
  have ht2 : (t.size : Int) ≤ 30 := by omega
  have HF : Hid _ := hF
  have HL : Hid ((fillL ys a t t.size).length = ys.length) := hfl
  have c0 := b0.cell 0
  clear hok ht hb en hfr hble hbs hys hF hfl ha hyl hI
  go_enter Tryz.func38, Tryz.ntmps38
  go_wp2_with fail
  refine hT.mono ?_
  rintro e w3 ⟨v3, rfl, o3, hk3⟩
  rcases o3 with ⟨h1, h2⟩ | ⟨g3, c3, rfl, hg3, hc3, hR3⟩
  · rw [h2] at hfit; simp at hfit
  have hs3 := hk3.size
  simp only [World.size_alloc] at hs3 hg3
  have kA : Kept w3 (w3.alloc (.cells #[.slice (some ⟨g3, 0, none⟩) ys.length c3] 26)) := Kept.alloc (Below.refl _ _) _
  have lg3 := hR3.lt
  have bO := Cells.new w3 26 #[.slice (some ⟨g3, 0, none⟩) ys.length c3]
  have y1 := (b1.kept hk3).kept kA
  have hl3 := (b1.kept hk3).lt
  have cO := bO.cell 0
  have hFt := HF.out _ g3 c3 (hR3.kept kA)
  clear c0
  go_wp2_with (go_at_call 83; refine hFt.mono ?_; rintro e w4 ⟨rfl, hR4, hg4⟩; have o4 := bO.grown hg4 (by intro e; simp at e; omega); have y4 := y1.grown hg4 (by intro e; simp at e; omega); have cO4 := o4.cell 0; have c4 := y4.cell 0; have f4 := y4.frozen 0; have l4 := y4.lt)
  have q := (y4.set1 (.slice (some ⟨g3, 0, none⟩) ys.length c3)).cell 0
  refine bodyPost_ret (v := .tuple #[.agg #[.slice (some ⟨g3, 0, none⟩) ys.length c3], .int .i64 (a : Nat), .bool true]) (by simp [results, Tryz.results38, go_sem, q]) rfl ⟨_, rfl, .inr ⟨g3, c3, by rw [HL.out], by omega, by rw [HL.out]; exact hc3, hR4.other (p := ⟨w.heap.size + 1, 0, none⟩) (by intro h; simp at h <;> omega) _⟩, ?_⟩
  exact (((k0.trans hk3).trans kA).grownRow hg4 (fun k e => by cases e; omega)).set (p := ⟨w.heap.size + 1, 0, none⟩) (by simp) _
set_option maxHeartbeats 4000000 in
set_option maxRecDepth 100000 in
theorem impl_TextPut_full (w : World) (ao : Option Addr) (cap : Nat) (zs : List Int) (t : ByteArray) (hI : Ints w ao zs) (hl : zs.length ≤ 1048576) (hcap : zs.length ≤ cap) (hh : heapR zs = true) (hf : findT zs t = none) (ht : t.size ≤ 30) (hno : ffB zs ((t.size + 2 : Nat) : Int) = none) :
    Calls Tryz.prog 8 #[.agg #[.slice ao zs.length cap], .string t] w fun e w' => ∃ v, e = .returned (.tuple #[.agg #[v], .int .i64 0, .bool false]) ∧ OwnR w' w.heap.size v zs ∧ Kept w w' := by
  have b0 := (Cells.new w 26 #[.slice ao zs.length cap]).alloc (.cells #[.slice none 0 0] 26)
  have b1 := Cells.new (w.alloc (.cells #[.slice ao zs.length cap] 26)) 26 #[.slice none 0 0]
  have k0 : Kept w ((w.alloc (.cells #[.slice ao zs.length cap] 26)).alloc (.cells #[.slice none 0 0] 26)) := (Kept.alloc (Below.refl _ _) _).alloc _
  simp only [World.size_alloc] at b1
  have hS := impl_HeapOk_ok _ ao cap zs (hI.kept k0) hl
  rw [hh] at hS
  have hA := fun (u : World) (hu : Kept w u) => textAt_ok u ao cap zs t (hI.kept hu) hl hcap hh
  rw [hf] at hA
  simp only [atV] at hA
  have hT := fun (u : World) (hu : Kept w u) => newText_no u ao cap zs t (hI.kept hu) hl (heapR_slab hh) ht hno
  have ht' : ¬ (30 : Int) < (t.size : Int) := by omega
  have ht2 : (t.size : Int) ≤ 30 := by omega
  have HA : Hid _ := hA
  have HT : Hid _ := hT
  clear hh hf hA hT ht hcap hno
  go_enter Tryz.func8, Tryz.ntmps8
  go_wp2_with (first | (go_at_call 17; refine hS.mono ?_; rintro e w1 ⟨rfl, hk1⟩; have x0 := b0.kept hk1; have c0 := x0.cell 0) | (go_at_call 35; refine (HA.out _ (k0.trans hk1)).mono ?_; rintro e w2 ⟨rfl, hk2⟩; have c2 := (x0.kept hk2).cell 0) | (go_at_call 38; refine (HT.out _ ((k0.trans hk1).trans hk2)).mono ?_; rintro e w3 ⟨v3, rfl, o3, hk3⟩; obtain ⟨la3, lc3, rfl, _⟩ := o3.ints; have cz := (Cells.new w3 26 #[.slice la3 zs.length lc3]).cell 0; have x1 := (((b1.kept hk1).kept hk2).kept hk3).alloc (.cells #[.slice la3 zs.length lc3] 26); have d1 := x1.cell 0; have f1 := x1.frozen 0; have l1 := x1.lt))
  have hs1 := hk1.size
  have hs2 := hk2.size
  simp only [World.size_alloc] at hs1
  have q := (x1.set1 (.slice la3 zs.length lc3)).cell 0
  refine bodyPost_ret (v := .tuple #[.agg #[.slice la3 zs.length lc3], .int .i64 0, .bool false]) (by simp [results, Tryz.results8, go_sem, q]) rfl ⟨_, rfl, ?_, ((((k0.trans hk1).trans hk2).trans hk3).alloc _).set (by simp) _⟩
  rcases o3 with ⟨h1, h2⟩ | ⟨g3, c3, h1, h2, h3, h4⟩
  · exact .inl ⟨h1, h2⟩
  · exact .inr ⟨g3, c3, h1, by omega, h3, (h4.kept (Kept.alloc (Below.refl _ _) _)).other (by intro h; simp at h <;> omega) _⟩
set_option maxHeartbeats 4000000 in
set_option maxRecDepth 100000 in
theorem impl_TextPut_laid (w : World) (ao : Option Addr) (cap : Nat) (zs : List Int) (t : ByteArray) (b : BkOf zs.length) (hI : Ints w ao zs) (hl : zs.length ≤ 1048576) (hcap : zs.length ≤ cap) (hh : heapR zs = true) (hf : findT zs t = none) (ht : t.size ≤ 30) (hb : ffB zs ((t.size + 2 : Nat) : Int) = some b) :
    Calls Tryz.prog 8 #[.agg #[.slice ao zs.length cap], .string t] w fun e w' => ∃ v, e = .returned (.tuple #[.agg #[v], .int .i64 (8 * ((b.1.at' : Nat) : Int) + 4), .bool true]) ∧ OwnR w' w.heap.size v (fillL (takeL zs b.1 1 (t.size + 2)) b.1.at' t t.size) ∧ Kept w w' := by
  have b0 := (Cells.new w 26 #[.slice ao zs.length cap]).alloc (.cells #[.slice none 0 0] 26)
  have b1 := Cells.new (w.alloc (.cells #[.slice ao zs.length cap] 26)) 26 #[.slice none 0 0]
  have k0 : Kept w ((w.alloc (.cells #[.slice ao zs.length cap] 26)).alloc (.cells #[.slice none 0 0] 26)) := (Kept.alloc (Below.refl _ _) _).alloc _
  simp only [World.size_alloc] at b1
  have hS := impl_HeapOk_ok _ ao cap zs (hI.kept k0) hl
  rw [hh] at hS
  have hA := fun (u : World) (hu : Kept w u) => textAt_ok u ao cap zs t (hI.kept hu) hl hcap hh
  rw [hf] at hA
  simp only [atV] at hA
  have hT := fun (u : World) (hu : Kept w u) => newText_yes u ao cap zs t b (hI.kept hu) hl (heapR_slab hh) ht hb
  have hlen : zs.length ≤ 2000 := (slabOk_iff.1 (heapR_slab hh)).1
  have ha2 : b.1.at' < 2000 := by have := b.2.2.1; have := b.2.1; omega
  have ht' : ¬ (30 : Int) < (t.size : Int) := by omega
  obtain ⟨a, ha⟩ : ∃ a : Nat, b.1.at' = a := ⟨_, rfl⟩
  obtain ⟨ys, hys⟩ : ∃ ys, fillL (takeL zs b.1 1 (t.size + 2)) b.1.at' t t.size = ys := ⟨_, rfl⟩
  rw [ha] at hys ha2
  rw [ha, hys] at hT ⊢
  have HA : Hid _ := hA
  have HT : Hid _ := hT
  clear hh hf hA hT ht hcap hb hys ha
  go_enter Tryz.func8, Tryz.ntmps8
  go_wp2_with (first | (go_at_call 17; refine hS.mono ?_; rintro e w1 ⟨rfl, hk1⟩; have x0 := b0.kept hk1; have c0 := x0.cell 0) | (go_at_call 35; refine (HA.out _ (k0.trans hk1)).mono ?_; rintro e w2 ⟨rfl, hk2⟩; have c2 := (x0.kept hk2).cell 0) | (go_at_call 38; fail))
  refine (HT.out _ ((k0.trans hk1).trans hk2)).mono ?_
  rintro e w3 ⟨v3, rfl, o3, hk3⟩
  obtain ⟨la3, lc3, rfl, _⟩ := o3.ints
  have hs1 := hk1.size
  have hs2 := hk2.size
  simp only [World.size_alloc] at hs1
  have bO := Cells.new w3 26 #[.slice la3 ys.length lc3]
  have x1 := (((b1.kept hk1).kept hk2).kept hk3).alloc (.cells #[.slice la3 ys.length lc3] 26)
  have cO := bO.cell 0
  have d1 := x1.cell 0
  have f1 := x1.frozen 0
  have l1 := x1.lt
  clear c0 c2
  go_wp2_with fail
  go_region_with (go_at_call 37; refine (impl_RefOf_ok _ _ _).mono ?_; rintro e wx ⟨rfl, rfl⟩)
  all_goals go_wp2_with fail
  all_goals (
    have q := ((x1.set1 (.slice la3 ys.length lc3)).kept (Below.refl _ _).drew).cell 0
    refine bodyPost_ret (v := .tuple #[.agg #[.slice la3 ys.length lc3], .int .i64 (vRef 4 (a : Int)), .bool true]) (by simp [results, Tryz.results8, go_sem, q]) rfl ⟨_, by rw [vRef_yes (by omega)], ?_, ?_⟩
    · rcases o3 with ⟨h1, h2⟩ | ⟨g3, c3, h1, h2, h3, h4⟩
      · exact .inl ⟨h1, h2⟩
      · exact .inr ⟨g3, c3, h1, by omega, h3, ((h4.kept (Kept.alloc (Below.refl _ _) _)).other (p := ⟨w.heap.size + 1, 0, none⟩) (by intro h; simp at h <;> omega) _).kept (Below.refl _ _).drew⟩
    · exact Kept.trans (((((k0.trans hk1).trans hk2).trans hk3).alloc _).set (p := ⟨w.heap.size + 1, 0, none⟩) (by simp) _) (Below.refl _ _).drew)
end Go.Proofs.YtpbafjcoomfooaaGreat
namespace Go.Proofs.YtpbafjcoomfooaaGreat
open Go.RowKit

theorem TextPut_both (zs : List Int) (t : ByteArray) (hl : zs.length ≤ 1048576) : ∃ (rs : List Int) (at' : Int) (ok : Bool), rs.length ≤ 1048576 ∧
    (∀ (w : World) (ao : Option Addr) (cap : Nat), Ints w ao zs → zs.length ≤ cap → Calls Tryz.prog 8 #[.agg #[.slice ao zs.length cap], .string t] w fun e w' => ∃ v, e = .returned (.tuple #[.agg #[v], .int .i64 at', .bool ok]) ∧ OwnR w' w.heap.size v rs ∧ Kept w w') ∧
    (∀ (w : World) (ao : Option Addr) (cap : Nat), Ints w ao zs → Calls Tryz.prog 9 #[.agg #[.slice ao zs.length cap], .string t] w fun e w' => ∃ v, e = .returned (.tuple #[.agg #[v], .int .i64 at', .bool ok]) ∧ OwnR w' w.heap.size v rs ∧ Kept w w') := by
  cases hh : heapR zs with
  | false =>
    refine ⟨[], 0, false, by simp, fun w ao cap hI _ => ?_, fun w ao cap hI => ?_⟩
    · refine (impl_TextPut_bad w ao cap zs t hI hl hh).mono ?_
      rintro e w' ⟨rfl, hk⟩
      exact ⟨_, rfl, .inl ⟨rfl, rfl⟩, hk⟩
    · refine (spec_TextPut_bad w ao cap zs t hI hl hh).mono ?_
      rintro e w' ⟨rfl, hk⟩
      exact ⟨_, rfl, .inl ⟨rfl, rfl⟩, hk⟩
  | true =>
    refine ⟨(putC zs t).1, (putC zs t).2.1, (putC zs t).2.2, by rw [putC_len]; exact hl, fun w ao cap hI hcap => ?_, fun w ao cap hI => (spec_TextPut_do w ao cap zs t hI hl hh).mono (fun _ _ ⟨v, h1, h2, h3, _⟩ => ⟨v, h1, h2, h3⟩)⟩
    cases hf : findT zs t with
    | some b =>
      have hp : putC zs t = (zs, 8 * ((b.1.at' : Nat) : Int) + 4, true) := by simp [putC, hf]
      rw [hp]
      exact impl_TextPut_there w ao cap zs t b hI hl hcap hh hf
    | none =>
      by_cases ht : 30 < t.size
      · have hp : putC zs t = (zs, 0, false) := by simp [putC, hf, ht]
        rw [hp]
        exact impl_TextPut_long w ao cap zs t hI hl hcap hh hf ht
      · have en : ((t.size + 2 : Nat) : Int) = (t.size : Int) + 2 := by omega
        cases hff : ffB zs ((t.size + 2 : Nat) : Int) with
        | none =>
          have hff' := hff
          rw [en] at hff'
          have hp : putC zs t = (zs, 0, false) := by simp [putC, hf, ht, hff']
          rw [hp]
          exact impl_TextPut_full w ao cap zs t hI hl hcap hh hf (by omega) hff
        | some b =>
          have hff' := hff
          rw [en] at hff'
          have hp : putC zs t = (fillL (takeL zs b.1 1 (t.size + 2)) b.1.at' t t.size, 8 * ((b.1.at' : Nat) : Int) + 4, true) := by simp [putC, hf, ht, hff']
          rw [hp]
          exact impl_TextPut_laid w ao cap zs t b hI hl hcap hh hf (by omega) hff
end Go.Proofs.YtpbafjcoomfooaaGreat
