/-
  fillText.
-/
import Derived.Test.YtkabmkgikdicbaaTextK
import Derived.Test.YtkabmkgikdicbaaTextM
import Derived.Test.YtkabmkgikdicbaaShapeF
namespace Go.Proofs.Ytkabmkgikdicbaa
open Go.RowKit Go.Shelf
attribute [local go_sem] Oper.semAt_some

/-- The bytes of t from f on, j of them, laid. -/
def layP (l : List Int) (a : Nat) (t : ByteArray) (f j : Nat) : List Int := (List.range j).foldl (fun l i => l.set (a + 2 + f + i) (byteN t (f + i))) l
theorem layP_succ (l : List Int) (a : Nat) (t : ByteArray) (f j : Nat) : layP l a t f (j + 1) = (layP l a t f j).set (a + 2 + f + j) (byteN t (f + j)) := by
  simp [layP, List.range_succ, List.foldl_append]
theorem layP_len (l : List Int) (a : Nat) (t : ByteArray) (f j : Nat) : (layP l a t f j).length = l.length := by
  induction j with
  | zero => simp [layP]
  | succ j ih => rw [layP_succ, List.length_set, ih]
theorem fillL_lay (ys : List Int) (a : Nat) (t : ByteArray) (f j : Nat) : fillL ys a t (f + j) = layP (fillL ys a t f) a t f j := by
  induction j with
  | zero => simp [layP]
  | succ j ih => rw [← Nat.add_assoc, fillL_succ, ih, layP_succ, Nat.add_assoc (a + 2) f j]
def fillP (zs : List Int) (a : Nat) (t : ByteArray) (ys : List (PieceOf t.size)) : List Int := ys.foldl (fun l x => layP l a t x.1.1 (x.1.2 - x.1.1)) (zs.set (a + 1) (t.size : Int))
theorem fillP_snoc (zs : List Int) (a : Nat) (t : ByteArray) (ys : List (PieceOf t.size)) (x : PieceOf t.size) : fillP zs a t (ys ++ [x]) = layP (fillP zs a t ys) a t x.1.1 (x.1.2 - x.1.1) := by simp [fillP, List.foldl_append]
theorem foldP_len (a : Nat) (t : ByteArray) : ∀ (ys : List (PieceOf t.size)) (l : List Int), (ys.foldl (fun l x => layP l a t x.1.1 (x.1.2 - x.1.1)) l).length = l.length
  | [], _ => rfl
  | x :: ys, l => by rw [List.foldl_cons, foldP_len a t ys, layP_len]
theorem fillP_len (zs : List Int) (a : Nat) (t : ByteArray) (ys : List (PieceOf t.size)) : (fillP zs a t ys).length = zs.length := by
  unfold fillP; rw [foldP_len]; simp
theorem fillP_all {zs : List Int} {a : Nat} {t : ByteArray} {e : Nat} {ys : List (PieceOf t.size)} (h : Part e ys) : fillP zs a t ys = fillL zs a t e := by
  induction h with
  | nil => simp [fillP, fillL]
  | @snoc ys x hp ih =>
    have hx := x.2
    rw [fillP_snoc, ih, ← fillL_lay]
    congr 1
    omega
theorem keepR_set {B g k : Nat} (W : World) (hg : g < B) (v : Value) : KeepR B g W (W.setCell ⟨g, k, none⟩ v) :=
  ⟨by simp [World.setCell], fun j o e c => by
    by_cases hj : j = g
    · subst hj
      rcases c with c | c
      · exact absurd rfl c.2
      · omega
    · rw [Below.heap_setCell W ⟨g, k, none⟩ v j hj]; exact e⟩

set_option maxHeartbeats 4000000 in
set_option maxRecDepth 100000 in
theorem fillText_ok (w : World) (g cap : Nat) (zs : List Int) (a : Nat) (t : ByteArray) (hR : Row w g zs) (hl : zs.length ≤ 1048576) (hfit : a + 2 + t.size ≤ zs.length) :
    Calls Try.prog 21 #[.slice (some ⟨g, 0, none⟩) zs.length cap, .int .i64 a, .string t] w fun e w' => e = .returned (.tuple #[]) ∧ Row w' g (fillL zs a t t.size) ∧ w.grownBy w' (some g) := by
  have lg := hR.lt
  have cg := hR.cell (j := a + 1) (by omega)
  have fg := hR.frozen (a + 1)
  have p1 : (a : Int) + 1 < (zs.length : Int) := by omega
  have t1 : ((a : Int) + 1).toNat = a + 1 := by omega
  refine (callsIn_wide (n := 3)).1 ?_
  refine callsIn_of_wp_marks Try.func21 rfl trivial ?_ rfl
  simp only [Try.ntmps21, List.size_toArray, List.length_cons, List.length_nil, Nat.reduceAdd, Nat.reduceSub, Array.replicate_succ, Array.replicate_zero, List.push_toArray, List.append_toArray, List.nil_append, List.cons_append]
  refine wpIn_wide.2 ?_
  go_wp2_with (go_at_call 34; refine (runesOf_ok _ _).mono ?_; rintro e w3 ⟨rfl, rfl⟩)
  have hR1 := hR.set (k := a + 1) (v := (t.size : Int)) (by omega) ⟨by omega, by omega⟩
  have hgw : w.grownBy (w.setCell ⟨g, a + 1, none⟩ (.int .i64 (t.size : Int))) (some g) := grown_set (World.grownBy.refl _ _) _
  have hsw : (w.setCell ⟨g, a + 1, none⟩ (.int .i64 (t.size : Int))).heap.size = w.heap.size := by simp [World.setCell]
  clear cg fg hR p1 t1
  obtain ⟨w0, hw0⟩ : ∃ w0, w.setCell ⟨g, a + 1, none⟩ (.int .i64 (t.size : Int)) = w0 := ⟨_, rfl⟩
  rw [hw0] at hR1 hgw hsw ⊢
  clear hw0
  have bW := ((Cells.new w0 22 #[.slice (some ⟨g, 0, none⟩) zs.length cap]).alloc (.cells #[.int .i64 (a : Int)] 3)).alloc (.cells #[.string t] 9)
  have bA := (Cells.new (w0.alloc (.cells #[.slice (some ⟨g, 0, none⟩) zs.length cap] 22)) 3 #[.int .i64 (a : Int)]).alloc (.cells #[.string t] 9)
  have bB := Cells.new ((w0.alloc (.cells #[.slice (some ⟨g, 0, none⟩) zs.length cap] 22)).alloc (.cells #[.int .i64 (a : Int)] 3)) 9 #[.string t]
  have k0 : Kept w0 (((w0.alloc (.cells #[.slice (some ⟨g, 0, none⟩) zs.length cap] 22)).alloc (.cells #[.int .i64 (a : Int)] 3)).alloc (.cells #[.string t] 9)) := ((Kept.alloc (Below.refl _ _) _).alloc _).alloc _
  have hR3 := hR1.kept k0
  have hgw3 := hgw.andThen k0.grown (by simp)
  have hsz : (((w0.alloc (.cells #[.slice (some ⟨g, 0, none⟩) zs.length cap] 22)).alloc (.cells #[.int .i64 (a : Int)] 3)).alloc (.cells #[.string t] 9)).heap.size = w.heap.size + 3 := by simp [hsw]
  simp only [World.size_alloc, hsw] at bW bA bB
  obtain ⟨W0, hW0⟩ : ∃ W0, ((w0.alloc (.cells #[.slice (some ⟨g, 0, none⟩) zs.length cap] 22)).alloc (.cells #[.int .i64 (a : Int)] 3)).alloc (.cells #[.string t] 9) = W0 := ⟨_, rfl⟩
  rw [hW0] at bW bA bB hR3 hgw3 hsz ⊢
  clear hW0 k0 hR1 hgw hsw
  have hsz' : w.heap.size + 3 ≤ W0.heap.size := by omega
  clear hsz
  refine (wpIn_wide (n := 3)).1 ?_
  refine wpIn_rangeFunc_ownH rfl (by omega) rfl trivial (enters_of Try.func60 (by kernel_rfl) rfl)
    (runesOf_stops (3 - 1) (by omega) (w.heap.size + 1 + 1) g (by omega) t W0 bB) KeepR.t (fun W l o o' _ h h1 h2 => KeepR.b W l o o' h h1 h2) (Below.refl _ _) (fun _ => rfl)
    (fun pre W => (Row W g (fillP zs a t pre) ∧ Cells W w.heap.size 22 #[.slice (some ⟨g, 0, none⟩) zs.length cap] ∧ Cells W (w.heap.size + 1) 3 #[.int .i64 (a : Int)]) ∧ w.grownBy W (some g))
    (fun _ _ _ => False)
    (OwnFrom.and (OwnFrom.and (Own.from (Row.own _ _) _) (OwnFrom.and (Own.from (Cells.own _ _ _) _) (Own.from (Cells.own _ _ _) _))) (fun s Y Z row h hg hr => h.andThen hg (fun j e => .inl (by have := (hr j e).1; omega))))
    (fun _ _ _ _ _ hs _ _ => hs)
    ⟨⟨hR3, bW, bA⟩, hgw3⟩
    (fun x a' _ => a' = { tmps := #[.slice (some ⟨g, 0, none⟩) zs.length cap, .int .i64 (a : Int), .string t, .pointer (some ⟨w.heap.size, 0, none⟩), .pointer (some ⟨w.heap.size + 1, 0, none⟩), undef, .int .i64 (x.1.1 : Nat), .string (t.extract x.1.1 x.1.2), undef, .slice (some ⟨g, 0, none⟩) zs.length cap, .int .i64 (a : Int), .int .i64 ((a : Int) + 1), .string t, .int .i64 t.size, .pointer (some ⟨g, a + 1, none⟩), .string t, .func (.func 60) #[] #[.pointer (some ⟨w.heap.size + 1 + 1, 0, none⟩)], .int .i64 (x.1.1 : Nat), .string (t.extract x.1.1 x.1.2), undef, undef, undef, undef, undef, undef, undef, undef, undef, undef, undef, undef, undef, undef, undef, undef, undef, undef], defers := [] })
    (fun x a' _ Y Z row hs _ _ => hs)
    ?assign ?body ?done ?stop
  case assign =>
    intro l pre x W K hi hK
    simp only [runeV, List.zip_toArray, List.zip_cons_cons, List.zip_nil_right, List.foldl_toArray, List.foldl_cons, List.foldl_nil, List.setIfInBounds_toArray, List.set_cons_succ, List.set_cons_zero]
    gi_wp2
    exact hK _ _ (KeepsFrom.refl _ _) (KeepR.of (Below.refl _ _)) hi rfl
  case body =>
    rintro l pre x a' W _ _ ⟨⟨hR5, bW5, bA5⟩, hg5⟩ rfl hlt
    have hx := x.2
    have hex := extract_size t x.1.1 x.1.2 hx.2
    have HP : Hid (fillP zs a t (pre ++ [x]) = layP (fillP zs a t pre) a t x.1.1 (x.1.2 - x.1.1)) := fillP_snoc zs a t pre x
    have hfl := fillP_len zs a t pre
    have hby := fun (j : Nat) (h : j < x.1.2 - x.1.1) => extract_byte t x.1.1 x.1.2 j hx.2 h
    obtain ⟨u, hu⟩ : ∃ u, t.extract x.1.1 x.1.2 = u := ⟨_, rfl⟩
    obtain ⟨f, hf⟩ : ∃ f, x.1.1 = f := ⟨_, rfl⟩
    obtain ⟨q, hq⟩ : ∃ q, x.1.2 - x.1.1 = q := ⟨_, rfl⟩
    obtain ⟨l0, hl0⟩ : ∃ l0, fillP zs a t pre = l0 := ⟨_, rfl⟩
    have hfq : f + q ≤ t.size := by omega
    rw [hu] at hex hby ⊢
    rw [hl0] at HP hR5 hfl
    rw [hq] at HP hex hby
    rw [hf] at HP hby ⊢
    have HB : Hid (∀ j, j < q → byteN u j = byteN t (f + j)) := hby
    clear hby hu hf hq hl0 hx hlt
    gi_wp2
    gi_loopw [21] (fun i wr => ∃ j : Nat, i = .int .i64 j ∧ j ≤ q ∧ Row wr g (layP l0 a t f j) ∧ Cells wr w.heap.size 22 #[.slice (some ⟨g, 0, none⟩) zs.length cap] ∧ Cells wr (w.heap.size + 1) 3 #[.int .i64 (a : Int)] ∧ KeepsFrom W0.heap.size W wr ∧ KeepR W0.heap.size g W wr ∧ w.grownBy wr (some g)) (fun i _ => q - (intOf i).toNat)
    case atStart => exact ⟨0, rfl, Nat.zero_le _, hR5, bW5, bA5, KeepsFrom.refl _ _, KeepR.of (Below.refl _ _), hg5⟩
    case round =>
      obtain ⟨j, rfl, hj, hrj, hwj, haj, hkf, hkr, hgj⟩ := hrel
      have cW := hwj.cell 0
      have cA := haj.cell 0
      by_cases hlt : j < q
      · have hju : j < u.size := by omega
        have cj := hrj.cell (j := a + 2 + f + j) (by rw [layP_len]; omega)
        have fj := hrj.frozen (a + 2 + f + j)
        have hwr1 : IntKind.i64.wrap ((a : Int) + 2) = (a : Int) + 2 := by rw [IntWalk.i64_left, IntWalk.wrap64_in _ (by omega)]
        have hwr2 : IntKind.i64.wrap ((a : Int) + 2 + (f : Int)) = (a : Int) + 2 + (f : Int) := by rw [IntWalk.i64_left, IntWalk.wrap64_in _ (by omega)]
        have hwr3 : IntKind.i64.wrap ((a : Int) + 2 + (f : Int) + (j : Int)) = (a : Int) + 2 + (f : Int) + (j : Int) := by rw [IntWalk.i64_left, IntWalk.wrap64_in _ (by omega)]
        have hbb := byteN_in t (f + j)
        have hcv : IntKind.i64.wrap ((u[j].toNat : Nat) : Int) = byteN t (f + j) := by rw [byteN_get u j hju, HB.out j hlt, IntWalk.i64_left, IntWalk.wrap64_in _ (by omega)]
        have t2 : ((a : Int) + 2 + (f : Int) + (j : Int)).toNat = a + 2 + f + j := by omega
        have p2 : (a : Int) + 2 + (f : Int) + (j : Int) < (zs.length : Int) := by omega
        have q1 : (j : Int) < (u.size : Int) := by omega
        gi_wp2_with fail
        refine wpIn_region_last (os := [_, _, _, _, _, _, _, _, _, _, _, _]) (ol := _) (fun _ => trivial) (by kernel_rfl) (by kernel_rfl) (by kernel_rfl) rfl rfl ?_
        repeat (refine SeqR.read ?_ rfl (by simp) ?_ ?_; rotate_left; (focus (go_simp; first | done | exact rfl)); simp only [Act.put, List.setIfInBounds_toArray, List.set_cons_zero, List.set_cons_succ])
        refine SeqR.nil ?_
        refine ⟨fun _ _ => trivial, ?_⟩
        go_simp
        have HR : Hid _ := (hrj.kept (Below.refl _ wr).drew).set (k := a + 2 + f + j) (v := byteN t (f + j)) (by rw [layP_len]; omega) ⟨by omega, by omega⟩
        have HW : Hid _ := (hwj.kept (Below.refl _ wr).drew).other (p := ⟨g, a + 2 + f + j, none⟩) (by intro h; simp at h; omega) (.int .i64 (byteN t (f + j)))
        have HA : Hid _ := (haj.kept (Below.refl _ wr).drew).other (p := ⟨g, a + 2 + f + j, none⟩) (by intro h; simp at h; omega) (.int .i64 (byteN t (f + j)))
        have HF : Hid _ := hkf.trans ((Kept.others ((Below.refl _ wr).drew : Kept wr wr.drew)).trans (KeepsOthers.setCell _ ⟨g, a + 2 + f + j, none⟩ (.int .i64 (byteN t (f + j)))) |>.from W0.heap.size)
        have HK : Hid _ := hkr.t ((KeepR.of ((Below.refl _ wr).drew : Kept wr wr.drew)).t (keepR_set (k := a + 2 + f + j) wr.drew (by omega) (.int .i64 (byteN t (f + j)))))
        have HG : Hid _ := grown_set (k := a + 2 + f + j) (hgj.andThen (Kept.grown ((Below.refl _ wr).drew : Kept wr wr.drew)) (by simp)) (.int .i64 (byteN t (f + j)))
        clear hrj hwj haj hkf hkr hgj cj fj cW cA hcv
        gi_wp2
        go_roundw
        case rel => exact ⟨j + 1, by go_num, by omega, by rw [layP_succ]; exact HR.out, HW.out, HA.out, HF.out, HK.out, HG.out⟩
        case measure => simp [intOf]; omega
      · obtain rfl : q = j := by omega
        have q2 : ¬ ((q : Int) < (u.size : Int)) := by omega
        gi_wp2
        exact ⟨hkf, hkr, ⟨by rw [HP.out]; exact hrj, hwj, haj⟩, hgj⟩
  case done =>
    rintro D ys W hD hP ⟨⟨hR5, bW5, bA5⟩, hg5⟩ hK
    go_wp2
    refine ⟨by simp, .inl ⟨_, _, rfl, run_takeDeferred hK, ?_⟩⟩
    refine ⟨_, results_none rfl _ _ _, rfl, ?_, ?_⟩
    · rw [← fillP_all hP]
      exact hR5.block (World.putObj_heap_other (by omega))
    · exact hg5.andThen (grownBy_putObj' _ _ _) (fun j e => by cases e; exact .inl (by omega))
  case stop =>
    rintro D c pre W _ _ h _
    exact h.elim
end Go.Proofs.Ytkabmkgikdicbaa
