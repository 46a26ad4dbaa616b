/-
  The contract of the laws' helper toNode: the same tree, each row of it in memory of its own.
-/
import Derived.OwnWalk
import Derived.Test.YtlinbkgeahgkjaaGreatDoorGrpCp
namespace Go.Proofs.YtlinbkgeahgkjaaGreatDoor
open Go.RowKit
attribute [local go_sem] Plain.and7

theorem infoNg : (Tryz.prog.info? 29).map (fun i => (i.zero, i.size, i.bytes)) = some (some (.agg #[.int .i64 0, .string ⟨#[]⟩, .int .i64 0, .slice none 0 0]), 4, 56) := by kernel_rfl
def ToG (t : Nd) : Prop := ∀ (w : World) (base : Nat) (v : Value), NdV w base t v → t.bulk ≤ 1048576 →
    Calls Tryz.prog 6 #[v] w fun e w' => ∃ v', e = .returned v' ∧ CpG w' t w.heap.size w'.heap.size v' ∧ Kept w w'
set_option maxHeartbeats 8000000 in
set_option maxRecDepth 100000 in
theorem toNodeS_ofG (ks : List Nd) (hS : ∀ x ∈ ks, ToG x) (w : World) (base : Nat) (ao : Option Addr) (cap : Nat) (hbk : ks.length + bulksN ks ≤ 1048576) (hks : ks = [] ∨ ∃ b off, ao = some ⟨b, off, none⟩ ∧ base ≤ b ∧ NdsV w base b off ks) :
    Calls Tryz.prog 17 #[.slice ao ks.length cap] w fun e w' => e = .returned (.slice (some ⟨w.heap.size, 0, none⟩) ks.length ks.length) ∧ FunG w' w.heap.size w'.heap.size (.slice (some ⟨w.heap.size, 0, none⟩) ks.length ks.length) ks ∧ Kept w w' := by
  obtain ⟨i0, hi, hz0, hz1, hz2⟩ := info_parts infoNg
  have HS : Hid (∀ x ∈ ks, ToG x) := hS
  have HKS : Hid (ks = [] ∨ ∃ b off, ao = some ⟨b, off, none⟩ ∧ base ≤ b ∧ NdsV w base b off ks) := hks
  clear hS hks
  go_enter Tryz.func17, Tryz.ntmps17
  go_wp2_with (at_make; refine wpList_make_full _ rfl _ _ 26 rfl w.heap.size 29 i0 (.agg #[.int .i64 0, .string ⟨#[]⟩, .int .i64 0, .slice none 0 0]) 4 Tryz.underlying26 hi hz0 hz1 .i64 .i64 _ _ ks.length rfl rfl rfl rfl (by rw [hz2]; omega) (by unfold maxLen; omega) (Nat.le_refl _) ?_; intro w1 hown hgrow)
  have hR : RowC w1 w.heap.size ks 0 w1.heap.size := by
    obtain ⟨_, ⟨e, _⟩ | ⟨g', cap', cur, e, hb, hg, h1, h2, h3, h4⟩⟩ := hown
    · cases e
    · simp at e
      obtain ⟨rfl, rfl⟩ := e
      exact ⟨cur, hg, by omega, (Array.getElem?_eq_some_iff.1 hg).1, fun _ => 0, fun _ => 0, fun i hi => by omega, fun i j _ hj => by omega, fun j t hj => by omega⟩
  have hK : Kept w w1 := (Below.refl _ w).grown hgrow (Nat.le_refl _) (by simp)
  have HR0 : Hid _ := hR
  have HK0 : Hid (Kept w w1) := hK
  clear hown hgrow hR hK
  go_loopw [4] (fun iv wr => ∃ (k : Nat), iv = .int .i64 k ∧ k ≤ ks.length ∧ Hid (RowC wr w.heap.size ks k wr.heap.size) ∧ Hid (Kept w wr)) (fun i _ => ks.length - (intOf i).toNat)
  case atStart => exact ⟨0, rfl, Nat.zero_le _, HR0.out, HK0.out⟩
  case round =>
    obtain ⟨k, rfl, hk, hR, hK⟩ := hrel
    clear HR0 HK0
    by_cases hlt : k < ks.length
    · obtain ⟨x, hx⟩ : ∃ x, ks[k]? = some x := ⟨ks[k], List.getElem?_eq_getElem hlt⟩
      have q1 : (k : Int) < (ks.length : Int) := by omega
      have hst := bulks_take hx
      have hsl := bulks_le (ks := ks) (k + 1)
      obtain ⟨b, off, rfl, hbb, hn⟩ : ∃ b off, ao = some ⟨b, off, none⟩ ∧ base ≤ b ∧ NdsV w base b off ks := by
        rcases HKS.out with h | h
        · rw [h] at hlt; simp at hlt
        · exact h
      obtain ⟨d0, d1, d2, d3, g0, g1, g2, g3, hv⟩ := (NdsV.turn (Turn.kept hK.out) _ _ _ hbb hn).at hx
      have hC := HS.out x (List.mem_of_getElem? hx) wr base _ hv (by omega)
      have HX : Hid (ks[k]? = some x) := hx
      clear hv hn hst hsl hx
      go_wp2_with (go_at_call 6; refine hC.mono ?_; rintro e wx ⟨vx, rfl, hvx, hkx⟩; obtain ⟨f0, f1, f2, fo, fl, fc, rfl⟩ := hvx.four; obtain ⟨cs, hcs, hcz, _⟩ := id (hR.out.on hkx hkx.size); have z0 := hcs.at4G (i := k * 4) (by omega); have z1 := hcs.at4G (i := k * 4 + 1) (by omega); have z2 := hcs.at4G (i := k * 4 + 2) (by omega); have z3 := hcs.at4G (i := k * 4 + 3) (by omega); have y0 := hcs.frozen (k * 4); have y1 := hcs.frozen (k * 4 + 1); have y2 := hcs.frozen (k * 4 + 2); have y3 := hcs.frozen (k * 4 + 3))
      have hN := RowC.next (hR.out.on hkx (Nat.le_refl _)) HX.out hvx (Nat.le_refl _) hkx.size
      go_roundw
      case rel => exact ⟨k + 1, by go_num, by omega, hN.on (Below.refl _ _) (by simp), (hK.out.trans hkx).set4G (by simp) _ _ _ _⟩
      case measure => simp [intOf]; omega
    · have q1 : ¬ (k : Int) < (ks.length : Int) := by omega
      have HR : Hid (FunG wr w.heap.size wr.heap.size (.slice (some ⟨w.heap.size, 0, none⟩) ks.length ks.length) ks) := RowC.done (by have := hR.out; rwa [show k = ks.length by omega] at this) (by unfold maxLen; omega)
      go_wp2_with fail
      go_ret
      exact ⟨rfl, HR.out, hK.out⟩
set_option maxHeartbeats 8000000 in
set_option maxRecDepth 100000 in
theorem toNodeG_ok : ∀ (m : Nat) (t : Nd), t.size ≤ m → ToG t := by
  intro m
  induction m with
  | zero =>
    intro t ht
    cases t with
    | mk op s n ks => simp [Nd.size] at ht
  | succ m ih =>
    intro t ht w base v hv hbk
    cases t with
    | mk op s n ks =>
    rw [NdV] at hv
    obtain ⟨ao, cap, rfl, hml, hks⟩ := hv
    simp only [Nd.size] at ht
    simp only [Nd.bulk] at hbk
    have HC : Hid (∀ u, Kept w u → Calls Tryz.prog 17 #[.slice ao ks.length cap] u fun e w' => e = .returned (.slice (some ⟨u.heap.size, 0, none⟩) ks.length ks.length) ∧ FunG w' u.heap.size w'.heap.size (.slice (some ⟨u.heap.size, 0, none⟩) ks.length ks.length) ks ∧ Kept u w') := fun u hu => toNodeS_ofG ks (fun x hx => by
      obtain ⟨k, hk⟩ := List.mem_iff_getElem?.1 hx
      exact ih x (by have := size_mem hk; omega)) u base ao cap (by omega) (by
        rcases hks with h | ⟨b, off, e, hb, h⟩
        · exact .inl h
        · exact .inr ⟨b, off, e, hb, NdsV.turn (Turn.kept hu) _ _ _ hb h⟩)
    have HML : Hid (s.size ≤ maxLen ∧ ks.length ≤ maxLen) := hml
    clear ih hks hml
    go_enter Tryz.func6, Tryz.ntmps6
    have k3 : Kept w (((w.alloc (.cells #[.int .i64 op, .string s, .int .i64 n, .slice ao ks.length cap] 24)).alloc (.cells #[.int .i64 0, .string ⟨#[]⟩, .int .i64 0, .slice none 0 0] 29)).alloc (.cells #[.int .i64 op, .string s, .int .i64 n, .slice none 0 0] 29)) := ((Kept.alloc (Below.refl _ _) _).alloc _).alloc _
    have y1 := (Cells.new (w.alloc (.cells #[.int .i64 op, .string s, .int .i64 n, .slice ao ks.length cap] 24)) 29 #[.int .i64 0, .string ⟨#[]⟩, .int .i64 0, .slice none 0 0]).alloc (.cells #[.int .i64 op, .string s, .int .i64 n, .slice none 0 0] 29)
    have y2 := Cells.new ((w.alloc (.cells #[.int .i64 op, .string s, .int .i64 n, .slice ao ks.length cap] 24)).alloc (.cells #[.int .i64 0, .string ⟨#[]⟩, .int .i64 0, .slice none 0 0] 29)) 29 #[.int .i64 op, .string s, .int .i64 n, .slice none 0 0]
    have hs3 : (((w.alloc (.cells #[.int .i64 op, .string s, .int .i64 n, .slice ao ks.length cap] 24)).alloc (.cells #[.int .i64 0, .string ⟨#[]⟩, .int .i64 0, .slice none 0 0] 29)).alloc (.cells #[.int .i64 op, .string s, .int .i64 n, .slice none 0 0] 29)).heap.size = w.heap.size + 3 := by simp
    simp only [World.size_alloc] at y1 y2
    have hC := HC.out _ k3
    rw [hs3] at hC
    go_wp2_with fail
    refine hC.mono ?_
    rintro e w1 ⟨rfl, hN, hk1⟩
    have x1 := y1.kept hk1
    have x2 := y2.kept hk1
    have c0 := x2.cell 0; have c1 := x2.cell 1; have c2 := x2.cell 2; have c3 := x2.cell 3; have f0 := x2.frozen 0; have f1 := x2.frozen 1; have f2 := x2.frozen 2; have f3 := x2.frozen 3; have l2 := x2.lt
    have d0 := x1.cell 0; have d1 := x1.cell 1; have d2 := x1.cell 2; have d3 := x1.cell 3; have g0 := x1.frozen 0; have g1 := x1.frozen 1; have g2 := x1.frozen 2; have g3 := x1.frozen 3; have l1 := x1.lt
    have HN : Hid _ := hN
    clear hC HC y1 y2 hN
    go_wp2_with fail
    have z := ((((x1.other (p := ⟨w.heap.size + 1 + 1, 3, none⟩) (by simp) (.slice (some ⟨w.heap.size + 3, 0, none⟩) ks.length ks.length)).set 0 (.int .i64 op)).set 1 (.string s)).set 2 (.int .i64 n)).set 3 (.slice (some ⟨w.heap.size + 3, 0, none⟩) ks.length ks.length)
    have z0 := z.cell 0
    have z1 := z.cell 1
    have z2 := z.cell 2
    have z3 := z.cell 3
    refine bodyPost_ret (v := .agg #[.int .i64 op, .string s, .int .i64 n, .slice (some ⟨w.heap.size + 3, 0, none⟩) ks.length ks.length]) (by simp [results, Tryz.results6, go_sem, z0, z1, z2, z3]) rfl ⟨_, rfl, ?_, (((((k3.trans hk1).set (by simp; omega) _).set (by simp) _).set (by simp) _).set (by simp) _).set (by simp) _⟩
    have hz : w.heap.size + 3 ≤ w1.heap.size := by have := hk1.size; simp at this; omega
    refine (FunG.under ?_ op n HML.out.1)
    refine (FunG.stay (lo := w.heap.size + 3) (hi := w1.heap.size) (W := w1) HN.out (fun b y1 y2 y3 => ?_)).mono (by omega) (by simp)
    exact (Below.heap_setCell _ _ _ _ (by simp; omega)).trans ((Below.heap_setCell _ _ _ _ (by simp; omega)).trans ((Below.heap_setCell _ _ _ _ (by simp; omega)).trans ((Below.heap_setCell _ _ _ _ (by simp; omega)).trans (Below.heap_setCell _ _ _ _ (by simp; omega)))))
end Go.Proofs.YtlinbkgeahgkjaaGreatDoor
