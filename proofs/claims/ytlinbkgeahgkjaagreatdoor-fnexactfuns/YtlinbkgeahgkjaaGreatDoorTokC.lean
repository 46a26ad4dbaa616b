/-
  The contract of chapter 11's model l11Text.
-/
import Derived.Test.YtlinbkgeahgkjaaGreatDoorTokB
namespace Go.Proofs.YtlinbkgeahgkjaaGreatDoor
open Go.RowKit
set_option linter.unusedSimpArgs false

def textB (b : Int) : Bool := !decide (b = 34) && (decide (32 ≤ b) && decide (b ≤ 126))
/-- The token of a text that begins at a, where it is one. -/
def textOk (t : ByteArray) (a : Nat) : Bool := decide (runE textB t (a + 1) < t.size) && (decide (byteN t (runE textB t (a + 1)) = 34) && decide (runE textB t (a + 1) ≤ a + 31))
def textV (t : ByteArray) (a : Nat) : Value := if textOk t a then .tuple #[.agg #[.int .i64 3, .string (t.extract (a + 1) (runE textB t (a + 1))), .int .i64 0, .int .i64 (a : Nat)], .int .i64 ((runE textB t (a + 1) + 1 : Nat) : Int), .bool true] else .tuple #[.agg #[.int .i64 0, .string ⟨#[]⟩, .int .i64 0, .int .i64 0], .int .i64 (a : Nat), .bool false]
set_option maxHeartbeats 8000000 in
set_option maxRecDepth 100000 in
theorem l11Text_ok (w : World) (t : ByteArray) (a : Nat) (ha : a < t.size) (ht : t.size ≤ 1048576) :
    Calls Tryz.prog 89 #[.string t, .int .i64 (a : Nat)] w fun e w' => e = .returned (textV t a) ∧ Kept w w' := by
  have b0 := Cells.new w 91 #[.int .i64 0, .string ⟨#[]⟩, .int .i64 0, .int .i64 0]
  have k0 : Kept w (w.alloc (.cells #[.int .i64 0, .string ⟨#[]⟩, .int .i64 0, .int .i64 0] 91)) := Kept.alloc (Below.refl _ _) _
  go_enter Tryz.func89, Tryz.ntmps89
  go_wp2_with fail
  go_loopw [7] (fun iv wr => ∃ (k : Nat), iv = .int .i64 k ∧ a + 1 ≤ k ∧ k ≤ t.size ∧ Hid (runE textB t k = runE textB t (a + 1)) ∧ Hid (Kept (w.alloc (.cells #[.int .i64 0, .string ⟨#[]⟩, .int .i64 0, .int .i64 0] 91)) wr)) (fun i _ => t.size - (intOf i).toNat)
  case atStart => exact ⟨a + 1, by go_num, Nat.le_refl _, by omega, rfl, Below.refl _ _⟩
  case round =>
    obtain ⟨k, rfl, hk0, hk, hE, hK⟩ := hrel
    have b1 := b0.kept hK.out
    have e0 := b1.cell 0; have e1 := b1.cell 1; have e2 := b1.cell 2; have e3 := b1.cell 3; have f0 := b1.frozen 0; have f1 := b1.frozen 1; have f2 := b1.frozen 2; have f3 := b1.frozen 3; have l1 := b1.lt
    have HB : Hid (∀ v0 v1 v2 v3, Cells ((((wr.setCell ⟨w.heap.size, 0, none⟩ v0).setCell ⟨w.heap.size, 1, none⟩ v1).setCell ⟨w.heap.size, 2, none⟩ v2).setCell ⟨w.heap.size, 3, none⟩ v3) w.heap.size 91 #[v0, v1, v2, v3] ∧ Kept w ((((wr.setCell ⟨w.heap.size, 0, none⟩ v0).setCell ⟨w.heap.size, 1, none⟩ v1).setCell ⟨w.heap.size, 2, none⟩ v2).setCell ⟨w.heap.size, 3, none⟩ v3)) := fun v0 v1 v2 v3 => ⟨(((b1.set 0 v0).set 1 v1).set 2 v2).set 3 v3, ((((k0.trans hK.out).set (by simp) _).set (by simp) _).set (by simp) _).set (by simp) _⟩
    by_cases hlt : k < t.size
    · have q1 : (k : Int) < (t.size : Int) := by omega
      have hge : ¬ (t.size : Int) ≤ (k : Int) := by omega
      by_cases hp : textB (byteN t k) = true
      · have hq := hp
        unfold textB at hq
        simp only [Bool.and_eq_true, Bool.not_eq_true', decide_eq_true_eq, decide_eq_false_iff_not] at hq
        have g1 : ((t[k].toNat : Int) != 34) = true := by rw [byteN_get t k hlt]; simpa using hq.1
        have g2 : (32 : Int) ≤ (t[k].toNat : Int) := by rw [byteN_get t k hlt]; exact hq.2.1
        have g3 : (t[k].toNat : Int) ≤ 126 := by rw [byteN_get t k hlt]; exact hq.2.2
        have HN : Hid (runE textB t (k + 1) = runE textB t (a + 1)) := by rw [Hid, ← runE_step hlt hp]; exact hE.out
        clear hp hq HB
        go_wp2_with fail
        exact ⟨⟨k + 1, by go_num, by omega, by omega, HN.out, hK.out⟩, by simp [intOf]; omega⟩
      · have HR : Hid (runE textB t (a + 1) = k) := by rw [Hid, ← hE.out]; exact runE_stop (by simpa using hp)
        have hu : textB (byteN t k) = false := by simpa using hp
        by_cases h34 : byteN t k = 34
        · have g1 : ((t[k].toNat : Int) != 34) = false := by rw [byteN_get t k hlt]; simp [h34]
          by_cases hsz : k ≤ a + 31
          · have HV : Hid (textV t a = .tuple #[.agg #[.int .i64 3, .string (t.extract (a + 1) k), .int .i64 0, .int .i64 (a : Nat)], .int .i64 ((k + 1 : Nat) : Int), .bool true]) := by
              have ho : textOk t a = true := by unfold textOk; rw [HR.out]; simp [hlt, h34, hsz]
              rw [Hid, textV, if_pos ho, HR.out]
            have g4 : decide ((30 : Int) < (k : Int) - (a : Int) - 1) = false := decide_eq_false (by omega)
            obtain ⟨z, kz⟩ := HB.out (.int .i64 3) (.string (t.extract (a + 1) k)) (.int .i64 0) (.int .i64 (a : Nat))
            have z0 := z.cell 0; have z1 := z.cell 1; have z2 := z.cell 2; have z3 := z.cell 3
            obtain ⟨a1, ha1⟩ : ∃ a1, a + 1 = a1 := ⟨_, rfl⟩
            have hA1 : (a : Int) + 1 = (a1 : Int) := by omega
            rw [ha1] at HV z0 z1 z2 z3 kz hk0
            clear hp hu HB h34 ha1 z
            go_wp2_with fail
            refine bodyPost_ret (v := .tuple #[.agg #[.int .i64 3, .string (t.extract a1 k), .int .i64 0, .int .i64 (a : Nat)], .int .i64 ((k + 1 : Nat) : Int), .bool true]) (by simp [results, Tryz.results89, go_sem, z0, z1, z2, z3]) rfl ⟨by rw [HV.out], kz⟩
          · have HV : Hid (textV t a = .tuple #[.agg #[.int .i64 0, .string ⟨#[]⟩, .int .i64 0, .int .i64 0], .int .i64 (a : Nat), .bool false]) := by
              have ho : textOk t a = false := by unfold textOk; rw [HR.out]; simp [hsz]
              rw [Hid, textV, if_neg (by rw [ho]; simp)]
            obtain ⟨z, kz⟩ := HB.out (.int .i64 0) (.string ⟨#[]⟩) (.int .i64 0) (.int .i64 0)
            have z0 := z.cell 0; have z1 := z.cell 1; have z2 := z.cell 2; have z3 := z.cell 3
            have g4 : decide ((30 : Int) < (k : Int) - (a : Int) - 1) = true := decide_eq_true (by omega)
            clear hp hu HB h34
            go_wp2_with fail
            refine bodyPost_ret (v := .tuple #[.agg #[.int .i64 0, .string ⟨#[]⟩, .int .i64 0, .int .i64 0], .int .i64 (a : Nat), .bool false]) (by simp [results, Tryz.results89, go_sem, z0, z1, z2, z3]) rfl ⟨by rw [HV.out], kz⟩
        · have g1 : ((t[k].toNat : Int) != 34) = true := by rw [byteN_get t k hlt]; simpa using h34
          have HV : Hid (textV t a = .tuple #[.agg #[.int .i64 0, .string ⟨#[]⟩, .int .i64 0, .int .i64 0], .int .i64 (a : Nat), .bool false]) := by
            have ho : textOk t a = false := by unfold textOk; rw [HR.out]; simp [h34]
            rw [Hid, textV, if_neg (by rw [ho]; simp)]
          obtain ⟨z, kz⟩ := HB.out (.int .i64 0) (.string ⟨#[]⟩) (.int .i64 0) (.int .i64 0)
          have z0 := z.cell 0; have z1 := z.cell 1; have z2 := z.cell 2; have z3 := z.cell 3
          by_cases h32 : 32 ≤ byteN t k
          · have g2 : (32 : Int) ≤ (t[k].toNat : Int) := by rw [byteN_get t k hlt]; exact h32
            have g3 : ¬ (t[k].toNat : Int) ≤ 126 := by
              rw [byteN_get t k hlt]
              intro h126
              unfold textB at hu
              simp [h34, h32, h126] at hu
            clear hp hu HB h34 h32
            go_wp2_with fail
            refine bodyPost_ret (v := .tuple #[.agg #[.int .i64 0, .string ⟨#[]⟩, .int .i64 0, .int .i64 0], .int .i64 (a : Nat), .bool false]) (by simp [results, Tryz.results89, go_sem, z0, z1, z2, z3]) rfl ⟨by rw [HV.out], kz⟩
          · have g2 : ¬ (32 : Int) ≤ (t[k].toNat : Int) := by rw [byteN_get t k hlt]; exact h32
            clear hp hu HB h34 h32
            go_wp2_with fail
            refine bodyPost_ret (v := .tuple #[.agg #[.int .i64 0, .string ⟨#[]⟩, .int .i64 0, .int .i64 0], .int .i64 (a : Nat), .bool false]) (by simp [results, Tryz.results89, go_sem, z0, z1, z2, z3]) rfl ⟨by rw [HV.out], kz⟩
    · have q1 : ¬ (k : Int) < (t.size : Int) := by omega
      have hge : (t.size : Int) ≤ (k : Int) := by omega
      have HR : Hid (runE textB t (a + 1) = k) := by rw [Hid, ← hE.out]; exact runE_end hlt
      have HV : Hid (textV t a = .tuple #[.agg #[.int .i64 0, .string ⟨#[]⟩, .int .i64 0, .int .i64 0], .int .i64 (a : Nat), .bool false]) := by
        have ho : textOk t a = false := by unfold textOk; rw [HR.out]; simp [hlt]
        rw [Hid, textV, if_neg (by rw [ho]; simp)]
      obtain ⟨z, kz⟩ := HB.out (.int .i64 0) (.string ⟨#[]⟩) (.int .i64 0) (.int .i64 0)
      have z0 := z.cell 0; have z1 := z.cell 1; have z2 := z.cell 2; have z3 := z.cell 3
      clear HB
      go_wp2_with fail
      refine bodyPost_ret (v := .tuple #[.agg #[.int .i64 0, .string ⟨#[]⟩, .int .i64 0, .int .i64 0], .int .i64 (a : Nat), .bool false]) (by simp [results, Tryz.results89, go_sem, z0, z1, z2, z3]) rfl ⟨by rw [HV.out], kz⟩
end Go.Proofs.YtlinbkgeahgkjaaGreatDoor
