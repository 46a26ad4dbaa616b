/-
  A list that is copied by append, at a step of a drawn region; the contract of chapter 8's model l8Copy.
  The contract of chapter 8's model Fresh.
  The contract of chapter 8's model l8Block.
-/
import Derived.Laws.OwnMore
import Derived.Deep.RegionHeld3
import Derived.Maps.AppendAt
import Derived.Test.YtchkijeaaealmaaGreatGrpKa
namespace Go.Proofs.YtchkijeaaealmaaGreat
open Go.RowKit
attribute [local go_sem] Plain.and7

/-- append(an empty row of one's own, xs...), at a step of a region that draws its order; xs nil, empty or not. -/
theorem step_append_row {w : World} {ops : Array Oper} {o : Oper} {a : Act} {K : Act → World → Prop} {Q : Exit → Act → World → Prop} {E : Prop} (hgd : o.guard = none) (s x : Operand)
    (ho : o.op = .call { callee := .builtin .append, args := #[s, x], argTypes := #[24, 24] }) (base E1 : Nat) (hs : a.eval s = .slice (some ⟨E1, 0, none⟩) 0 0) (hE : w.heap[E1]? = some (.cells #[] 3 (0, 0))) (hbE : base ≤ E1)
    (xv : Value) (b' : Nat) (l : List Int) (hx : a.eval x = xv) (hsrc : OwnL w b' xv l) (hl : l.length ≤ 1048576)
    (h : ∀ g cap w', w'.ownsRow base 3 1 (.slice (some ⟨g, 0, none⟩) l.length cap) l.length (l.map (Value.int .i64)) → w.grownBy w' (some E1) → (g = E1 ∨ g = w.heap.size) → K (a.put o.dst (.slice (some ⟨g, 0, none⟩) l.length cap)) w') :
    if Region.wanted o (yielded ops a.tmps) = true then Oper.wp Tryz.prog o a w K Q else E := by
  obtain ⟨i0, hi, hz0, hz1, hz2⟩ := info_parts infoI
  have hw : Region.wanted o (yielded ops a.tmps) = true := by simp [Region.wanted, hgd]
  rw [if_pos hw]
  have hE1 : E1 < w.heap.size := (Array.getElem?_eq_some_iff.1 hE).1
  have hown : w.ownsRow base 3 1 (.slice (some ⟨E1, 0, none⟩) 0 0) 0 [] := ⟨by simp, .inr ⟨E1, 0, #[], rfl, hbE, hE, by omega, by unfold maxLen; omega, by simp, by simp⟩⟩
  rcases hsrc.cases with ⟨rfl, rfl⟩ | ⟨g0, c0, rfl, _, _, _, hrow⟩
  · have hr := run_append_owned_none (P := Tryz.prog) (w := w) base 24 o.type 3 i0 1 Tryz.underlying24 hi _ _ _ hown
    unfold Oper.wp execOp
    simp only [ho, resolve, invoke, builtin, Sem.run_bind, Sem.run_pure, Result.andThen_ok, List.map_toArray, List.map_cons, List.map_nil, hs, hx, hr]
    exact h E1 0 w hown ⟨rfl, rfl, rfl, Nat.le_refl _, fun _ _ _ => rfl⟩ (.inl rfl)
  · obtain ⟨v', w', hr, h2, h3, h4, h5⟩ := run_append_own_at (P := Tryz.prog) w base 24 o.type 3 i0 (.int .i64 0) 1 8 Tryz.underlying24 hi hz0 hz1 hz2 rfl (by decide) _ _ _ hown ⟨g0, 0, none⟩ l.length c0 (l.map (Value.int .i64)) (by simp) (ints_news (fun j hj => by simpa using hrow.cell (j := j) hj)) (by intro u hu; obtain ⟨z, _, rfl⟩ := List.mem_map.1 hu; rfl) (by unfold maxLen; omega) (by omega) (by omega)
    simp only [Nat.zero_add, List.nil_append] at h2
    rcases h2.2 with ⟨e, _⟩ | ⟨g, cap, cur, rfl, _, hg, _⟩
    · have := (h4.1 e).1
      cases this
    · unfold Oper.wp execOp
      simp only [ho, resolve, invoke, builtin, Sem.run_bind, Sem.run_pure, Result.andThen_ok, List.map_toArray, List.map_cons, List.map_nil, hs, hx, hr]
      refine h g cap w' h2 h3 ?_
      rcases h5 with h5 | h5
      · exact .inl (by simpa [Value.ownBlock] using h5)
      · exact .inr (by simpa [Value.ownBlock] using h5)
set_option maxHeartbeats 16000000 in
set_option maxRecDepth 100000 in
theorem l8Copy_ok (w : World) (b1 b2 : Nat) (ph at' : Int) (ga ba : Option Addr) (gc bc : Nat) (gs bs : List Int) (hg : OwnL w b1 (.slice ga gs.length gc) gs) (hb : OwnL w b2 (.slice ba bs.length bc) bs) (hgl : gs.length ≤ 1048576) (hbl : bs.length ≤ 1048576) :
    Calls Tryz.prog 30 #[.agg #[.int .i64 ph, .slice ga gs.length gc, .slice ba bs.length bc, .int .i64 at']] w fun e w' => ∃ m, e = .returned m ∧ MkO w' w.heap.size m ph gs bs at' ∧ Kept w w' := by
  have y0 := (Cells.new w 28 #[.int .i64 ph, .slice ga gs.length gc, .slice ba bs.length bc, .int .i64 at']).alloc (.cells #[.int .i64 0, .slice none 0 0, .slice none 0 0, .int .i64 0] 28)
  have z0 := Cells.new (w.alloc (.cells #[.int .i64 ph, .slice ga gs.length gc, .slice ba bs.length bc, .int .i64 at'] 28)) 28 #[.int .i64 0, .slice none 0 0, .slice none 0 0, .int .i64 0]
  have k0 : Kept w ((w.alloc (.cells #[.int .i64 ph, .slice ga gs.length gc, .slice ba bs.length bc, .int .i64 at'] 28)).alloc (.cells #[.int .i64 0, .slice none 0 0, .slice none 0 0, .int .i64 0] 28)) := (Kept.alloc (Below.refl _ _) _).alloc _
  simp only [World.size_alloc] at z0
  have HG : Hid (∀ u, Kept w u → OwnL u b1 (.slice ga gs.length gc) gs) := fun u hu => OwnL.kept (row := none) hg hu.grown (fun k e => by cases e)
  have HB : Hid (∀ u, Kept w u → OwnL u b2 (.slice ba bs.length bc) bs) := fun u hu => OwnL.kept (row := none) hb hu.grown (fun k e => by cases e)
  clear hg hb
  go_enter Tryz.func30, Tryz.ntmps30
  go_wp2_with fail
  obtain ⟨WX, hWX⟩ : ∃ WX, (w.alloc (.cells #[.int .i64 ph, .slice ga gs.length gc, .slice ba bs.length bc, .int .i64 at'] 28)).alloc (.cells #[.int .i64 0, .slice none 0 0, .slice none 0 0, .int .i64 0] 28) = WX := ⟨_, rfl⟩
  have hH : WX.heap.size = w.heap.size + 2 := by rw [← hWX]; simp
  rw [hWX] at y0 z0 k0
  simp only [hWX]
  have yd := y0.kept (Below.refl _ WX).drew
  have zd := z0.kept (Below.refl _ WX).drew
  have kd : Kept w WX.drew := k0.drew
  have m0 := yd.cell 0
  have m1 := yd.cell 1
  have m2 := yd.cell 2
  have m3 := yd.cell 3
  have lw : w.heap.size < WX.heap.size := by omega
  have HS : Hid (∀ u, Below (w.heap.size + 1) WX u → u.cell? ⟨w.heap.size, 0, none⟩ = some (.int .i64 ph) ∧ u.cell? ⟨w.heap.size, 1, none⟩ = some (.slice ga gs.length gc) ∧ u.cell? ⟨w.heap.size, 2, none⟩ = some (.slice ba bs.length bc) ∧ u.cell? ⟨w.heap.size, 3, none⟩ = some (.int .i64 at')) := fun u hu => by
    have y : Cells u w.heap.size 28 _ := (hu.block w.heap.size (by omega)).trans y0
    exact ⟨y.cell 0, y.cell 1, y.cell 2, y.cell 3⟩
  have HKX : Hid _ := k0
  have HZ0 : Hid _ := z0
  have hA1 : (WX.alloc (.cells #[] 3)).drew.heap[WX.heap.size]? = some (.cells #[] 3 (0, 0)) := (Cells.new WX 3 #[]).kept (Below.refl _ _).drew
  have hA2 : ((WX.alloc (.cells #[] 3)).alloc (.cells #[] 3)).drew.heap[WX.heap.size]? = some (.cells #[] 3 (0, 0)) := ((Cells.new WX 3 #[]).alloc _).kept (Below.refl _ _).drew
  have hA3 : ((WX.alloc (.cells #[] 3)).alloc (.cells #[] 3)).drew.heap[WX.heap.size + 1]? = some (.cells #[] 3 (0, 0)) := by
    have := (Cells.new (WX.alloc (.cells #[] 3)) 3 #[]).kept (Below.refl _ _).drew
    rw [World.size_alloc] at this
    exact this
  rw [hH] at hA1 hA2 hA3
  have HGX : Hid (∀ u, Below (w.heap.size + 1) WX u → OwnL u b1 (.slice ga gs.length gc) gs) := fun u hu => HG.out u (Below.trans HKX.out (hu.mono (by omega)))
  have HBX : Hid (∀ u, Below (w.heap.size + 1) WX u → OwnL u b2 (.slice ba bs.length bc) bs) := fun u hu => HB.out u (Below.trans HKX.out (hu.mono (by omega)))
  clear hWX y0 z0 k0
  go_region_held3 (fun w' => w'.cell? ⟨w.heap.size, 0, none⟩ = some (.int .i64 ph) ∧ w'.cell? ⟨w.heap.size, 1, none⟩ = some (.slice ga gs.length gc) ∧ w'.cell? ⟨w.heap.size, 2, none⟩ = some (.slice ba bs.length bc) ∧ w'.cell? ⟨w.heap.size, 3, none⟩ = some (.int .i64 at'))
    (first
      | exact HS.out _ (by repeat first | assumption | exact Below.refl _ _ | refine Below.drew ?_ | refine Below.alloc ?_ (by first | omega | (simp; omega)) _ | refine Below.setCell ?_ (by simp) _)
      | go_keep)
    ((first
          | (refine step_append_row (by rfl) _ _ (by rfl) (w.heap.size + 2) _ (by rfl) ?_ ?_ (.slice ga gs.length gc) b1 gs (by rfl) ?_ hgl ?_
             · first | exact hA1 | exact hA2 | exact hA3 | exact Cells.new w7 _ _ | exact (grow7.block _ (by first | omega | (simp; done) | (simp; omega)) (by intro h; simp at h <;> omega)).trans hA2 | exact (grow7.block _ (by first | omega | (simp; done) | (simp; omega)) (by intro h; simp at h <;> omega)).trans hA3
             · first | omega | (simp; omega)
             · exact HGX.out _ (by repeat first | assumption | exact Below.refl _ _ | refine Below.drew ?_ | refine Below.alloc ?_ (by first | omega | (simp; omega)) _ | refine Below.setCell ?_ (by simp) _)
             intro g6 c6 w6 own6 grow6 at6
             have kk6 : Below (w.heap.size + 2) WX w6 := Below.grown (by repeat first | assumption | exact Below.refl _ _ | refine Below.drew ?_ | refine Below.alloc ?_ (by first | omega | (simp; omega)) _ | refine Below.setCell ?_ (by simp) _) grow6 (by first | omega | (simp; omega)) (fun k e => by cases e; first | omega | (simp; omega))
             have bx6 : Below (w.heap.size + 1) WX w6 := kk6.mono (by omega)
             have lt6 := (own6.lt g6 rfl).2
             have sz6 := grow6.size
             have kz6 := kk6.size
             have z6 : Cells w6 (w.heap.size + 1) 28 _ := (kk6.block (w.heap.size + 1) (by omega)).trans HZ0.out
             have d60 := z6.cell 0
             have d61 := z6.cell 1
             have d62 := z6.cell 2
             have d63 := z6.cell 3
             have f60 := z6.frozen 0
             have f61 := z6.frozen 1
             have f62 := z6.frozen 2
             have f63 := z6.frozen 3)
          | (refine step_append_row (by rfl) _ _ (by rfl) (w.heap.size + 2) _ (by rfl) ?_ ?_ (.slice ba bs.length bc) b2 bs (by rfl) ?_ hbl ?_
             · first | exact hA1 | exact hA2 | exact hA3 | exact Cells.new w6 _ _ | exact (grow6.block _ (by first | omega | (simp; done) | (simp; omega)) (by intro h; simp at h <;> omega)).trans hA2 | exact (grow6.block _ (by first | omega | (simp; done) | (simp; omega)) (by intro h; simp at h <;> omega)).trans hA3
             · first | omega | (simp; omega)
             · exact HBX.out _ (by repeat first | assumption | exact Below.refl _ _ | refine Below.drew ?_ | refine Below.alloc ?_ (by first | omega | (simp; omega)) _ | refine Below.setCell ?_ (by simp) _)
             intro g7 c7 w7 own7 grow7 at7
             have kk7 : Below (w.heap.size + 2) WX w7 := Below.grown (by repeat first | assumption | exact Below.refl _ _ | refine Below.drew ?_ | refine Below.alloc ?_ (by first | omega | (simp; omega)) _ | refine Below.setCell ?_ (by simp) _) grow7 (by first | omega | (simp; omega)) (fun k e => by cases e; first | omega | (simp; omega))
             have bx7 : Below (w.heap.size + 1) WX w7 := kk7.mono (by omega)
             have lt7 := (own7.lt g7 rfl).2
             have sz7 := grow7.size
             have kz7 := kk7.size
             have z7 : Cells w7 (w.heap.size + 1) 28 _ := (kk7.block (w.heap.size + 1) (by omega)).trans HZ0.out
             have d70 := z7.cell 0
             have d71 := z7.cell 1
             have d72 := z7.cell 2
             have d73 := z7.cell 3
             have f70 := z7.frozen 0
             have f71 := z7.frozen 1
             have f72 := z7.frozen 2
             have f73 := z7.frozen 3)))
  all_goals (
    have hg6 : w.heap.size + 2 ≤ g6 := (own6.lt g6 rfl).1
    have hg7 : w.heap.size + 2 ≤ g7 := (own7.lt g7 rfl).1
    have h67 : g6 ≠ g7 := by
      simp [hH] at at6 at7 sz6
      omega
    have O6 : OwnL w6 (w.heap.size + 2) (.slice (some ⟨g6, 0, none⟩) gs.length c6) gs := ⟨(HG.out w (Below.refl _ _)).1, own6⟩
    have O7 : OwnL w7 (w.heap.size + 2) (.slice (some ⟨g7, 0, none⟩) bs.length c7) bs := ⟨(HB.out w (Below.refl _ _)).1, own7⟩
    have P6 : OwnL w7 (w.heap.size + 2) (.slice (some ⟨g6, 0, none⟩) gs.length c6) gs := by
      simp [hH] at at6
      first
      | exact OwnL.kept O6 grow7 (fun k e j hj => by cases e; simp [Value.ownBlock] at hj; omega)
      | exact OwnL.kept (OwnL.kept (row := none) O6 (Kept.grown (Kept.alloc (Below.refl _ w6) _)) (fun k e => by cases e)) grow7 (fun k e j hj => by cases e; simp [Value.ownBlock] at hj; omega)
    have M7 : MkO w7 (w.heap.size + 2) (.agg #[.int .i64 ph, .slice (some ⟨g6, 0, none⟩) gs.length c6, .slice (some ⟨g7, 0, none⟩) bs.length c7, .int .i64 at']) ph gs bs at' := ⟨_, _, rfl, P6, O7, fun j hj e => by simp [Value.ownBlock] at hj e; omega⟩
    have q := z7.four (.int .i64 ph) (.slice (some ⟨g6, 0, none⟩) gs.length c6) (.slice (some ⟨g7, 0, none⟩) bs.length c7) (.int .i64 at')
    have q0 := q.cell 0
    have q1 := q.cell 1
    have q2 := q.cell 2
    have q3 := q.cell 3
    have KW : Kept w w7 := Below.trans HKX.out (kk7.mono (by omega))
    go_wp2_with fail
    refine bodyPost_ret (v := .agg #[.int .i64 ph, .slice (some ⟨g6, 0, none⟩) gs.length c6, .slice (some ⟨g7, 0, none⟩) bs.length c7, .int .i64 at']) (by simp [results, Tryz.results30, go_sem, q0, q1, q2, q3]) rfl ⟨_, rfl, ?_, ?_⟩
    · exact MkO.base ((((M7.far (p := ⟨w.heap.size + 1, 0, none⟩) (by simp)).far (p := ⟨w.heap.size + 1, 1, none⟩) (by simp)).far (p := ⟨w.heap.size + 1, 2, none⟩) (by simp)).far (p := ⟨w.heap.size + 1, 3, none⟩) (by simp)) (by omega)
    · exact (((KW.set (p := ⟨w.heap.size + 1, 0, none⟩) (by simp) _).set (p := ⟨w.heap.size + 1, 1, none⟩) (by simp) _).set (p := ⟨w.heap.size + 1, 2, none⟩) (by simp) _).set (p := ⟨w.heap.size + 1, 3, none⟩) (by simp) _)
end Go.Proofs.YtchkijeaaealmaaGreat
namespace Go.Proofs.YtchkijeaaealmaaGreat
open Go.RowKit
attribute [local go_sem] Plain.and7

/-- What Fresh leaves of the black ones. -/
def freshL (ph : Int) (gs bs : List Int) (x : Int) : List Int := if ph = 0 ∨ x ∈ gs ∨ x ∈ bs then bs else insL x bs
end Go.Proofs.YtchkijeaaealmaaGreat
namespace Go.Proofs.YtchkijeaaealmaaGreat
open Go.RowKit
attribute [local go_sem] Plain.and7

/-- A value that leads to a block, of whatever kind fits. -/
def blockV (zs : List Int) (v : Int) : Bool := vOk v && decide (4 ≤ v % 8) && (leadsR zs v 5 || leadsR zs v 3)
end Go.Proofs.YtchkijeaaealmaaGreat
