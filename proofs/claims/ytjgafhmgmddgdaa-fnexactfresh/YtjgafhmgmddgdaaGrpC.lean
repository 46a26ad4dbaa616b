/-
  The contracts of chapter 8's copyPlaces and copyMarker.
  The contract of chapter 8's copyMarker.
-/
import Derived.Laws.AppendOwnNone
import Derived.Deep.RegionHeld3
import Derived.Test.YtjgafhmgmddgdaaSlabW
import Derived.Test.YtjgafhmgmddgdaaHelpM
import Derived.Test.YtjgafhmgmddgdaaMrkD
namespace Go.Proofs.Ytjgafhmgmddgdaa
open Go.RowKit

set_option maxHeartbeats 4000000 in
set_option maxRecDepth 100000 in
theorem copyPlaces_ok (w : World) (ao : Option Addr) (cap : Nat) (l : List Int) (hI : Ints w ao l) (hl : l.length ≤ 1048576) (hn : ao = none → cap = 0) :
    Calls Try.prog 60 #[.slice ao l.length cap] w fun e w' => ∃ v, e = .returned v ∧ OwnL w' w.heap.size v l ∧ Kept w w' := by
  obtain ⟨i0, hi, hz0, hz1, hz2⟩ := info_parts infoI
  have hbd := hI.1
  have HB : Hid _ := hbd
  have hnil : w.ownsRow w.heap.size 3 1 (.slice none 0 0) 0 [] := World.ownsRow_nil _ _ _ _
  cases ao with
  | none =>
    have e0 : l = [] := by
      rcases hI.2 with h | ⟨b, off, e, _⟩
      · exact h
      · cases e
    subst e0
    clear hI
    have hc := hn rfl
    subst hc
    go_enter Try.func60, Try.ntmps60
    go_wp2_with (at_builtin; refine wpList_append_own_none rfl _ _ 22 rfl w.heap.size 3 i0 1 Try.underlying22 hi _ _ _ rfl hnil rfl ?_)
    go_ret
    exact ⟨_, rfl, ⟨by simp, hnil⟩, Below.refl _ _⟩
  | some a =>
    have hcell : ∀ (j : Nat) (u : Value), (l.map (Value.int .i64))[j]? = some u → w.cell? (a.add j) = some u := by
      intro j u hu
      rw [List.getElem?_map] at hu
      by_cases hj : j < l.length
      · rcases hI.2 with h | ⟨b, off, e, hc⟩
        · subst h; simp at hj
        · cases e
          rw [List.getElem?_eq_getElem hj] at hu
          simp only [Option.map_some, Option.some.injEq] at hu
          rw [Addr.add_lit, hc j hj, ← hu]
          simp [hz, List.getElem?_eq_getElem hj]
      · rw [List.getElem?_eq_none (by omega)] at hu
        cases hu
    clear hI
    go_enter Try.func60, Try.ntmps60
    go_wp2_with (at_builtin; refine wpList_append_own _ rfl _ _ 22 rfl w.heap.size 3 i0 (.int .i64 0) 1 8 Try.underlying22 hi hz0 hz1 hz2 rfl (by decide) _ _ _ rfl hnil a l.length cap (l.map (Value.int .i64)) rfl (by simp) hcell (by intro u hu; obtain ⟨z, _, rfl⟩ := List.mem_map.1 hu; rfl) (by unfold maxLen; omega) (by omega) (by omega) ?_; intro v' w5 hown' hgrow _)
    go_ret
    refine ⟨_, rfl, ⟨HB.out, by simpa using hown'⟩, ?_⟩
    exact (Below.refl _ w).grown hgrow (Nat.le_refl _) (fun j ej => by cases ej)
end Go.Proofs.Ytjgafhmgmddgdaa
namespace Go.Proofs.Ytjgafhmgmddgdaa
open Go.RowKit

set_option maxHeartbeats 16000000 in
set_option maxRecDepth 100000 in
theorem copyMarker_ok (w : World) (ph at' : Int) (ga ba : Option Addr) (gc bc : Nat) (gs bs : List Int) (hg : Ints w ga gs) (hb : Ints w ba bs) (hgl : gs.length ≤ 1048576) (hbl : bs.length ≤ 1048576) (hgn : ga = none → gc = 0) (hbn : ba = none → bc = 0) :
    Calls Try.prog 48 #[.agg #[.int .i64 ph, .slice ga gs.length gc, .slice ba bs.length bc, .int .i64 at']] w fun e w' => ∃ m, e = .returned m ∧ MkO w' w.heap.size m ph gs bs at' ∧ Kept w w' := by
  have y0 := (Cells.new w 32 #[.int .i64 ph, .slice ga gs.length gc, .slice ba bs.length bc, .int .i64 at']).alloc (.cells #[.int .i64 0, .slice none 0 0, .slice none 0 0, .int .i64 0] 32)
  have z0 := Cells.new (w.alloc (.cells #[.int .i64 ph, .slice ga gs.length gc, .slice ba bs.length bc, .int .i64 at'] 32)) 32 #[.int .i64 0, .slice none 0 0, .slice none 0 0, .int .i64 0]
  have k0 : Kept w ((w.alloc (.cells #[.int .i64 ph, .slice ga gs.length gc, .slice ba bs.length bc, .int .i64 at'] 32)).alloc (.cells #[.int .i64 0, .slice none 0 0, .slice none 0 0, .int .i64 0] 32)) := (Kept.alloc (Below.refl _ _) _).alloc _
  simp only [World.size_alloc] at z0
  go_enter Try.func48, Try.ntmps48
  go_wp2_with fail
  obtain ⟨WX, hWX⟩ : ∃ WX, (w.alloc (.cells #[.int .i64 ph, .slice ga gs.length gc, .slice ba bs.length bc, .int .i64 at'] 32)).alloc (.cells #[.int .i64 0, .slice none 0 0, .slice none 0 0, .int .i64 0] 32) = WX := ⟨_, rfl⟩
  have hH : WX.heap.size = w.heap.size + 2 := by rw [← hWX]; simp
  rw [hWX] at y0 z0 k0
  simp only [hWX]
  have kd0 : Kept WX WX.drew := (Below.refl _ WX).drew
  have yd := y0.kept kd0
  have zd := z0.kept kd0
  have m0 := yd.cell 0
  have m1 := yd.cell 1
  have m2 := yd.cell 2
  have m3 := yd.cell 3
  have HS : Hid (∀ u, Kept WX u → u.cell? ⟨w.heap.size, 0, none⟩ = some (.int .i64 ph) ∧ u.cell? ⟨w.heap.size, 1, none⟩ = some (.slice ga gs.length gc) ∧ u.cell? ⟨w.heap.size, 2, none⟩ = some (.slice ba bs.length bc) ∧ u.cell? ⟨w.heap.size, 3, none⟩ = some (.int .i64 at')) := fun u hu => by
    have y := y0.kept hu
    exact ⟨y.cell 0, y.cell 1, y.cell 2, y.cell 3⟩
  have HZ : Hid (∀ u, Kept WX u → Cells u (w.heap.size + 1) 32 #[.int .i64 0, .slice none 0 0, .slice none 0 0, .int .i64 0]) := fun u hu => z0.kept hu
  have HKX : Hid _ := k0
  have HG : Hid (∀ u, Kept WX u → Calls Try.prog 60 #[.slice ga gs.length gc] u fun e w' => ∃ v, e = .returned v ∧ OwnL w' u.heap.size v gs ∧ Kept u w') := fun u hu => copyPlaces_ok u ga gc gs (hg.kept (k0.trans hu)) hgl hgn
  have HB : Hid (∀ u, Kept WX u → Calls Try.prog 60 #[.slice ba bs.length bc] u fun e w' => ∃ v, e = .returned v ∧ OwnL w' u.heap.size v bs ∧ Kept u w') := fun u hu => copyPlaces_ok u ba bc bs (hb.kept (k0.trans hu)) hbl hbn
  have HH : Hid _ := hH
  clear hWX y0 z0 k0 hg hb hgn hbn hgl hbl yd zd hH
  have tok1 : True := trivial
  have tok2 : True := trivial
  go_region_held3 (fun w' => w'.cell? ⟨w.heap.size, 0, none⟩ = some (.int .i64 ph) ∧ w'.cell? ⟨w.heap.size, 1, none⟩ = some (.slice ga gs.length gc) ∧ w'.cell? ⟨w.heap.size, 2, none⟩ = some (.slice ba bs.length bc) ∧ w'.cell? ⟨w.heap.size, 3, none⟩ = some (.int .i64 at'))
    (first
      | exact HS.out _ (by first | assumption | exact kd0 | exact Below.drew (by assumption))
      | go_keep)
    ((first
      | (go_at_call 60; have _t := tok1; refine (HG.out _ (by first | assumption | exact kd0)).mono ?_; rintro e w1 ⟨v1, rfl, hO1, hK1⟩; obtain ⟨s1, sc1, rfl, hI1⟩ := hO1.ints; have kq1 : Kept WX w1 := Kept.trans (by first | assumption | exact kd0) hK1; have z1 := HZ.out w1 kq1; have d10 := z1.cell 0; have d11 := z1.cell 1; have d12 := z1.cell 2; have d13 := z1.cell 3; have f10 := z1.frozen 0; have f11 := z1.frozen 1; have f12 := z1.frozen 2; have f13 := z1.frozen 3; clear tok1)
      | (go_at_call 60; have _t := tok2; refine (HB.out _ (by first | assumption | exact kd0)).mono ?_; rintro e w2 ⟨v2, rfl, hO2, hK2⟩; obtain ⟨s2, sc2, rfl, hI2⟩ := hO2.ints; have kq2 : Kept WX w2 := Kept.trans (by first | assumption | exact kd0) hK2; have z2 := HZ.out w2 kq2; have d20 := z2.cell 0; have d21 := z2.cell 1; have d22 := z2.cell 2; have d23 := z2.cell 3; have f20 := z2.frozen 0; have f21 := z2.frozen 1; have f22 := z2.frozen 2; have f23 := z2.frozen 3; clear tok2)))
  all_goals (
    clear m0 m1 m2 m3
    first
    | (have hkk : Kept w1 w2 := hK2
       have hH := HH.out
       have P1 := OwnL.kept (row := none) hO1 hkk.grown (fun k e => by cases e)
       have P2 := hO2
       have M : MkO w2 (w.heap.size + 2) (.agg #[.int .i64 ph, .slice s1 gs.length sc1, .slice s2 bs.length sc2, .int .i64 at']) ph gs bs at' := by
         have hso := (hO1.2.lt)
         have hsl := (hO2.2.lt)
         have hsz := kq1.size
         refine ⟨_, _, rfl, ⟨P1.1, ownsRow_base P1.2 ?_⟩, ⟨P2.1, ownsRow_base P2.2 ?_⟩, fun j h1 h2 => ?_⟩
         · show _ ≤ _; first | (simp; omega) | omega
         · show _ ≤ _; first | (simp; omega) | omega
         · have := hso j (by first | exact h1 | exact h2)
           have := hsl j (by first | exact h1 | exact h2)
           omega
       have q := z2.four (.int .i64 ph) (.slice s1 gs.length sc1) (.slice s2 bs.length sc2) (.int .i64 at')
       have q0 := q.cell 0
       have q1 := q.cell 1
       have q2 := q.cell 2
       have q3 := q.cell 3
       go_wp2_with fail
       refine bodyPost_ret (v := .agg #[.int .i64 ph, .slice s1 gs.length sc1, .slice s2 bs.length sc2, .int .i64 at']) (by simp [results, Try.results48, go_sem, q0, q1, q2, q3]) rfl ⟨_, rfl, ?_, ?_⟩
       · exact MkO.base ((((M.far (p := ⟨w.heap.size + 1, 0, none⟩) (by simp)).far (p := ⟨w.heap.size + 1, 1, none⟩) (by simp)).far (p := ⟨w.heap.size + 1, 2, none⟩) (by simp)).far (p := ⟨w.heap.size + 1, 3, none⟩) (by simp)) (by omega)
       · exact ((((Kept.trans HKX.out kq2).set (p := ⟨w.heap.size + 1, 0, none⟩) (by simp) _).set (p := ⟨w.heap.size + 1, 1, none⟩) (by simp) _).set (p := ⟨w.heap.size + 1, 2, none⟩) (by simp) _).set (p := ⟨w.heap.size + 1, 3, none⟩) (by simp) _)
    | (have hkk : Kept w2 w1 := hK1
       have hH := HH.out
       have P2 := OwnL.kept (row := none) hO2 hkk.grown (fun k e => by cases e)
       have P1 := hO1
       have M : MkO w1 (w.heap.size + 2) (.agg #[.int .i64 ph, .slice s1 gs.length sc1, .slice s2 bs.length sc2, .int .i64 at']) ph gs bs at' := by
         have hso := (hO2.2.lt)
         have hsl := (hO1.2.lt)
         have hsz := kq2.size
         refine ⟨_, _, rfl, ⟨P1.1, ownsRow_base P1.2 ?_⟩, ⟨P2.1, ownsRow_base P2.2 ?_⟩, fun j h1 h2 => ?_⟩
         · show _ ≤ _; first | (simp; omega) | omega
         · show _ ≤ _; first | (simp; omega) | omega
         · have := hso j (by first | exact h1 | exact h2)
           have := hsl j (by first | exact h1 | exact h2)
           omega
       have q := z1.four (.int .i64 ph) (.slice s1 gs.length sc1) (.slice s2 bs.length sc2) (.int .i64 at')
       have q0 := q.cell 0
       have q1 := q.cell 1
       have q2 := q.cell 2
       have q3 := q.cell 3
       go_wp2_with fail
       refine bodyPost_ret (v := .agg #[.int .i64 ph, .slice s1 gs.length sc1, .slice s2 bs.length sc2, .int .i64 at']) (by simp [results, Try.results48, go_sem, q0, q1, q2, q3]) rfl ⟨_, rfl, ?_, ?_⟩
       · exact MkO.base ((((M.far (p := ⟨w.heap.size + 1, 0, none⟩) (by simp)).far (p := ⟨w.heap.size + 1, 1, none⟩) (by simp)).far (p := ⟨w.heap.size + 1, 2, none⟩) (by simp)).far (p := ⟨w.heap.size + 1, 3, none⟩) (by simp)) (by omega)
       · exact ((((Kept.trans HKX.out kq1).set (p := ⟨w.heap.size + 1, 0, none⟩) (by simp) _).set (p := ⟨w.heap.size + 1, 1, none⟩) (by simp) _).set (p := ⟨w.heap.size + 1, 2, none⟩) (by simp) _).set (p := ⟨w.heap.size + 1, 3, none⟩) (by simp) _))
end Go.Proofs.Ytjgafhmgmddgdaa
