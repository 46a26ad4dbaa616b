/-
  Where only one block, and new ones, have turned: the cursor.
  The law's helpers within and sameMarker, where they tell yes.
-/
import Derived.Deep.RegionWith
import Derived.Test.YtpljjeknphnnpaaGreatGrpSI
import Derived.Test.YtpljjeknphnnpaaGreatGrpSC
namespace Go.Proofs.YtpljjeknphnnpaaGreat
open Go.RowKit

theorem Cur.on {c : Nat} {a : Option Addr} {len cap : Nat} {z : Nat → Int} {w w' : World} {row : Option Nat} (h : Cur w c a len cap z) (hg : w.grownBy w' row) (hr : ∀ k, row = some k → c < k) : Cur w' c a len cap z :=
  h.upto hg.size (fun k hk => hg.block k (by have := h.lt; omega) (fun e => by have := hr k e.symm; omega))

end Go.Proofs.YtpljjeknphnnpaaGreat
namespace Go.Proofs.YtpljjeknphnnpaaGreat
open Go.RowKit

set_option maxHeartbeats 2000000 in
theorem within_yes (w : World) (ao : Option Addr) (cap : Nat) (l : List Int) (x : Int) (hI : Ints w ao l) (hl : l.length ≤ 1048576) (hx : x ∈ l) :
    Calls Tryz.prog 11 #[.slice ao l.length cap, .int .i64 x] w fun e w' => e = .returned (.bool true) ∧ w = w' := by
  have HI : Hid _ := hI
  have HX : Hid _ := hx
  clear hI hx
  go_enter Tryz.func11, Tryz.ntmps11
  go_wp2_with fail
  go_loopw [5] (fun i wr => ∃ k : Nat, i = .int .i64 k ∧ k ≤ l.length ∧ Hid (∀ j, j < k → hz l j ≠ x) ∧ wr = w) (fun i _ => l.length - (intOf i).toNat)
  case atStart => exact ⟨0, rfl, Nat.zero_le _, fun j hj => by omega, rfl⟩
  case round =>
    obtain ⟨k, rfl, hk, HN, rfl⟩ := hrel
    by_cases hlt : k < l.length
    · obtain ⟨b, off, rfl, hc⟩ := Ints.at HI.out hlt
      have ck := hc k hlt
      obtain ⟨y, hy⟩ : ∃ y, hz l k = y := ⟨_, rfl⟩
      rw [hy] at ck
      clear hc
      by_cases hxy : y = x
      · subst hxy
        go_wp2_with fail
        go_ret
        exact ⟨rfl, rfl⟩
      · have hb : (y == x) = false := by simp [hxy]
        go_wp2_with fail
        go_roundw
        case rel => exact ⟨k + 1, by go_num, by omega, fun j hj => by
          by_cases h : j = k
          · subst h; rw [hy]; exact hxy
          · exact HN.out j (by omega), by first | trivial | rfl⟩
        case measure => simp [intOf]; omega
    · exfalso
      obtain ⟨i, hi, e⟩ := List.getElem_of_mem HX.out
      exact HN.out i (by omega) (by rw [← e]; simp [hz, List.getElem?_eq_getElem hi])
set_option maxHeartbeats 4000000 in
theorem sameMarker_yes (w : World) (ga ba ga' ba' : Option Addr) (gc bc gc' bc' : Nat) (ph at' : Int) (gs bs : List Int) (hG : Ints w ga gs) (hG' : Ints w ga' gs) (hB : Ints w ba bs) (hB' : Ints w ba' bs) (hgl : gs.length ≤ 1048576) (hbl : bs.length ≤ 1048576) :
    Calls Tryz.prog 8 #[.agg #[.int .i64 ph, .slice ga gs.length gc, .slice ba bs.length bc, .int .i64 at'], .agg #[.int .i64 ph, .slice ga' gs.length gc', .slice ba' bs.length bc', .int .i64 at']] w fun e w' => e = .returned (.bool true) ∧ Kept w w' := by
  have b0 := (Cells.new w 30 #[.int .i64 ph, .slice ga gs.length gc, .slice ba bs.length bc, .int .i64 at']).alloc (.cells #[.int .i64 ph, .slice ga' gs.length gc', .slice ba' bs.length bc', .int .i64 at'] 30)
  have b1 := Cells.new (w.alloc (.cells #[.int .i64 ph, .slice ga gs.length gc, .slice ba bs.length bc, .int .i64 at'] 30)) 30 #[.int .i64 ph, .slice ga' gs.length gc', .slice ba' bs.length bc', .int .i64 at']
  have k0 : Kept w ((w.alloc (.cells #[.int .i64 ph, .slice ga gs.length gc, .slice ba bs.length bc, .int .i64 at'] 30)).alloc (.cells #[.int .i64 ph, .slice ga' gs.length gc', .slice ba' bs.length bc', .int .i64 at'] 30)) := (Kept.alloc (Below.refl _ _) _).alloc _
  simp only [World.size_alloc] at b1
  have HG : Hid _ := hG
  have HG' : Hid _ := hG'
  have HB : Hid _ := hB
  have HB' : Hid _ := hB'
  have c0 := b0.cell 0
  have c1 := b0.cell 1
  have c2 := b0.cell 2
  have c3 := b0.cell 3
  have e0 := b1.cell 0
  have e1 := b1.cell 1
  have e2 := b1.cell 2
  have e3 := b1.cell 3
  clear hG hG' hB hB'
  go_enter Tryz.func8, Tryz.ntmps8
  go_wp2_with fail
  refine (sameInts_ok _ _ _ _ _ gs (Ints.kept HG.out k0) (Ints.kept HG'.out k0) hgl).mono ?_
  rintro e w1 ⟨rfl, k1⟩
  have c2 := (b0.kept k1).cell 2
  have e2 := (b1.kept k1).cell 2
  clear c0 c1 c3 e0 e1 e3
  go_wp2_with fail
  refine (sameInts_ok _ _ _ _ _ bs (Ints.kept HB.out (k0.trans k1)) (Ints.kept HB'.out (k0.trans k1)) hbl).mono ?_
  rintro e w2 ⟨rfl, k2⟩
  go_wp2_with fail
  go_ret
  exact ⟨rfl, (k0.trans k1).trans k2⟩
end Go.Proofs.YtpljjeknphnnpaaGreat
