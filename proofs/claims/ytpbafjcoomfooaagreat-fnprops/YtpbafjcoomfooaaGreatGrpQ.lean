/-
  A slab of no words is marked (the laws' helper markSlab).
  The contracts of SlabNew, the program's own and its model.
  The contracts of the model of Take: l2Take and Take.
-/
import Derived.Test.YtpbafjcoomfooaaGreatHelpM
import Derived.Test.YtpbafjcoomfooaaGreatGrpP
import Derived.Test.YtpbafjcoomfooaaGreatSlabS
namespace Go.Proofs.YtpbafjcoomfooaaGreat
open Go.RowKit
end Go.Proofs.YtpbafjcoomfooaaGreat
namespace Go.Proofs.YtpbafjcoomfooaaGreat
open Go.RowKit

theorem hz_ext {xs ys : List Int} (h : xs.length = ys.length) (hj : ∀ j, j < xs.length → hz xs j = hz ys j) : xs = ys := by
  apply List.ext_getElem h
  intro i h1 h2
  have := hj i h1
  simpa [hz, List.getElem?_eq_getElem h1, List.getElem?_eq_getElem h2] using this
/-- One free block of n words. -/
def newL (n : Nat) : List Int := (List.replicate n 0).set 0 (8 * (n : Int))
theorem newL_len (n : Nat) : (newL n).length = n := by simp [newL]
theorem newL_lay {n : Nat} (hn : 1 ≤ n) : layL (List.replicate n 0) 0 n (8 * (n : Int) + ((0 : Nat) : Int)) = newL n := by
  apply hz_ext
  · simp [layL_len, newL_len]
  · intro j hj
    rw [layL_len, List.length_replicate] at hj
    rw [hz_layL (by simp) hn, newL, hz_set (by simp; omega)]
    by_cases e : j = 0
    · simp [e]
    · rw [if_neg e, if_neg e, if_pos (by omega)]
      simp [hz, hj]

set_option maxHeartbeats 1000000 in
theorem spec_SlabNew_no (w : World) (n : Int) (h : n < 2 ∨ 2000 < n) :
    Calls Tryz.prog 128 #[.int .i64 n] w fun e w' => e = .returned (.tuple #[.agg #[.slice none 0 0], .bool false]) ∧ Kept w w' := by
  go_enter Tryz.func128, Tryz.ntmps128
  go_wp2_with (go_at_call 124; refine (l1In_no _ _ _ _ h).mono ?_; rintro e wx ⟨rfl, rfl⟩)
  refine bodyPost_ret (v := .tuple #[.agg #[.slice none 0 0], .bool false]) (by simp [results, Tryz.results128, go_sem]) rfl ⟨rfl, Kept.alloc (Below.refl _ _) _⟩
set_option maxHeartbeats 1000000 in
set_option maxRecDepth 100000 in
theorem spec_SlabNew_yes (w : World) (n : Nat) (h1 : 2 ≤ n) (h2 : n ≤ 2000) :
    Calls Tryz.prog 128 #[.int .i64 n] w fun e w' => ∃ g, e = .returned (.tuple #[.agg #[.slice (some ⟨g, 0, none⟩) n n], .bool true]) ∧ w.heap.size ≤ g ∧ Row w' g (newL n) ∧ Kept w w' ∧ Sz w' g n := by
  obtain ⟨i0, hi, hz0, hz1, hz2⟩ := info_parts infoI
  have b0 := Cells.new w 26 #[.slice none 0 0]
  have k0 : Kept w (w.alloc (.cells #[.slice none 0 0] 26)) := Kept.alloc (Below.refl _ _) _
  go_enter Tryz.func128, Tryz.ntmps128
  go_wp2_with (first | (go_at_call 124; refine (l1In_yes _ _ _ _ (by omega) (by omega)).mono ?_; rintro e wx ⟨rfl, rfl⟩) | (at_make; refine wpList_make_full _ rfl _ _ 24 rfl (w.heap.size + 1) 3 i0 (.int .i64 0) 1 Tryz.underlying24 hi hz0 hz1 .i64 .i64 _ _ n rfl rfl rfl rfl (by rw [hz2]; omega) (by unfold maxLen; omega) (by simp) ?_; intro w1 hown hgrow; rw [madeInts] at hown; have hR := (Row.of_owns hown (by simp)).1; have sz1 := Sz.of_owns hown; have hK : Kept (w.alloc (.cells #[.slice none 0 0] 26)) w1 := (Below.refl _ _).grown hgrow (Nat.le_refl _) (by simp); simp only [World.size_alloc] at hR sz1; have b1 := b0.kept hK; have cb := b1.cell 0; have fb := b1.frozen 0; have lb := b1.lt; have hcg := hR.cell (j := 0) (by simp; omega); have hfg := hR.frozen 0; have lg := hR.lt))
  have q := (((b1.other (p := ⟨w.heap.size + 1, 0, none⟩) (by simp) (.int .i64 (8 * (n : Int)))).set1 (.slice (some ⟨w.heap.size + 1, 0, none⟩) n n)).alloc (.cells #[.slice (some ⟨w.heap.size + 1, 0, none⟩) n n] 26)).cell 0
  refine bodyPost_ret (v := .tuple #[.agg #[.slice (some ⟨w.heap.size + 1, 0, none⟩) n n], .bool true]) (by simp [results, Tryz.results128, go_sem, q]) rfl ⟨_, rfl, by omega, ((hR.set (k := 0) (by simp; omega) ⟨by omega, by omega⟩).other (by simp) _).kept (Kept.alloc (Below.refl _ _) _), (((k0.trans hK).set (by simp) _).set (by simp) _).alloc _, ((sz1.set _ _ _).set _ _ _).kept (Kept.alloc (Below.refl _ _) _)⟩
end Go.Proofs.YtpbafjcoomfooaaGreat
namespace Go.Proofs.YtpbafjcoomfooaaGreat
open Go.RowKit
attribute [local go_sem] Plain.and7

theorem sets_snoc : ∀ (vs zs : List Int) (o : Nat) (v : Int), sets zs o (vs ++ [v]) = (sets zs o vs).set (o + vs.length) v
  | [], zs, o, v => by simp [sets]
  | u :: r, zs, o, v => by
    rw [List.cons_append, sets, sets_snoc r, sets]
    simp only [List.length_cons]
    rw [show o + 1 + r.length = o + (r.length + 1) by omega]
/-- What the model of Take lays at place a: the first word, and j - 1 noughts behind it. -/
def layS (zs : List Int) (a : Nat) (h : Int) (j : Nat) : List Int := sets (zs.set a h) (a + 1) (List.replicate (j - 1) 0)
theorem layS_len (zs : List Int) (a : Nat) (h : Int) (j : Nat) : (layS zs a h j).length = zs.length := by simp [layS, sets_len]
theorem layS_succ (zs : List Int) (a : Nat) (h : Int) {j : Nat} (hj : 1 ≤ j) : (layS zs a h j).set (a + j) 0 = layS zs a h (j + 1) := by
  unfold layS
  rw [show j + 1 - 1 = (j - 1) + 1 by omega, List.replicate_succ', sets_snoc, List.length_replicate, show a + 1 + (j - 1) = a + j by omega]
theorem layS_all {zs : List Int} {a s : Nat} {h : Int} (hle : a + s ≤ zs.length) (hs : 1 ≤ s) : layS zs a h s = layL zs a s h := by
  apply hz_ext (by rw [layS_len, layL_len])
  intro j hj
  rw [hz_layL hle hs]
  unfold layS
  rw [hz_sets _ _ _ _ (by simp; omega), hz_set (by omega)]
  simp only [List.length_replicate]
  by_cases e : j = a
  · subst e; rw [if_neg (by omega), if_pos rfl, if_pos rfl]
  · rw [if_neg e, if_neg e]
    by_cases h2 : a < j ∧ j < a + s
    · rw [if_pos h2, if_pos (by omega)]
      simp [hz, show j - (a + 1) < s - 1 by omega]
    · rw [if_neg h2, if_neg (by omega)]

theorem grown_any {a b : World} (h : Kept a b) (row : Option Nat) : a.grownBy b row := ⟨h.os, h.tape, h.output, h.size, fun k hk _ => h.block k hk⟩

theorem grown_setNew {a b : World} {row : Option Nat} {p : Addr} (h : a.grownBy b row) (hp : a.heap.size ≤ p.block) (v : Value) : a.grownBy (b.setCell p v) row :=
  ⟨h.os, h.tape, h.output, by simpa [World.setCell] using h.size, fun k hk hr => (Below.heap_setCell _ _ _ _ (by omega)).trans (h.block k hk hr)⟩

set_option maxHeartbeats 8000000 in
set_option maxRecDepth 100000 in
theorem l2Take_ok (w : World) (g cap : Nat) (zs : List Int) (kind n : Nat) (hR : Row w g zs) (hl : zs.length ≤ 1048576) (hok : slabOk zs = true) (h1 : 1 ≤ kind) (h5 : kind ≤ 5) (hn2 : 2 ≤ n) (hnm : (n : Int) ≤ 9223372036854775807) :
    Calls Tryz.prog 87 #[.agg #[.slice (some ⟨g, 0, none⟩) zs.length cap], .int .i64 kind, .int .i64 n] w fun e w' =>
      (∀ b, ffB zs n = some b → e = .returned (.tuple #[.agg #[.slice (some ⟨g, 0, none⟩) zs.length cap], .int .i64 (b.1.at' : Nat), .bool true]) ∧ Row w' g (takeL zs b.1 kind n)) ∧
      (ffB zs n = none → e = .returned (.tuple #[.agg #[.slice (some ⟨g, 0, none⟩) zs.length cap], .int .i64 0, .bool false]) ∧ Row w' g zs) ∧ GS g w w' := by
  have hlen := (slabOk_iff.1 hok).1
  have HO : Hid (slabOk zs = true) := hok
  have b0 := (Cells.new w 26 #[.slice (some ⟨g, 0, none⟩) zs.length cap]).alloc (.cells #[.slice none 0 0] 26)
  have b1 := Cells.new (w.alloc (.cells #[.slice (some ⟨g, 0, none⟩) zs.length cap] 26)) 26 #[.slice none 0 0]
  have k0 : Kept w ((w.alloc (.cells #[.slice (some ⟨g, 0, none⟩) zs.length cap] 26)).alloc (.cells #[.slice none 0 0] 26)) := (Kept.alloc (Below.refl _ _) _).alloc _
  have hR0 := hR.kept k0
  have lg := hR.lt
  simp only [World.size_alloc] at b1
  clear hok
  go_enter Tryz.func87, Tryz.ntmps87
  go_wp2
  obtain ⟨W0, hW0⟩ : ∃ W0, (w.alloc (.cells #[.slice (some ⟨g, 0, none⟩) zs.length cap] 26)).alloc (.cells #[.slice none 0 0] 26) = W0 := ⟨_, rfl⟩
  rw [hW0] at b0 b1 k0 hR0 ⊢
  clear hW0
  have c0 := b0.cell 0
  have c1 := b1.cell 0
  have f1 := b1.frozen 0
  go_loopw [2, 9] (fun m i wr => m = .int .i64 n ∧ wr = W0 ∧ ∃ (k : Nat) (pre : List (BkOf zs.length)), i = .int .i64 k ∧ k ≤ zs.length ∧ At zs k ∧ pre ++ blks zs k = blocks zs ∧ ∀ b ∈ pre, freeP n b = false) (fun _ i _ => zs.length - (intOf i).toNat)
  case atStart => exact ⟨rfl, by first | rfl | trivial, 0, [], rfl, Nat.zero_le _, At.zero zs, rfl, by simp⟩
  case round =>
    obtain ⟨rfl, rfl, k, pre, rfl, hk, hat, hpre, hfree⟩ := hrel
    by_cases hlt : k < zs.length
    · have hg := hat.good HO.out hlt
      have hck := hR0.cell hlt
      have hs := hg.szI
      have hq := kdI zs k
      have hle := hg.le
      have hs2 := hg.sz2
      by_cases hfr : hz zs k % 8 = 0 ∧ (n : Int) ≤ hz zs k / 8
      · obtain ⟨hz8, hnle⟩ := hfr
        have HZ : Hid (hz zs k % 8 = 0) := hz8
        have hd : (hz zs k % 8 == 0) = true := by simp [hz8]
        have hzz : hz zs k % 8 ≤ 0 := by omega
        have HF : Hid (ffB zs n = some ⟨⟨k, sz zs k, kd zs k⟩, hg.sz2, hg.le, hg.kd5⟩) := ff_hit (pre := pre) (by rw [← hpre, blks_yes hg]; exact ⟨blks zs (k + sz zs k), by simp⟩) hfree (by simp [freeP]; omega)
        have hsb : hz zs k / 8 ≤ 2000 := by omega
        have HS : Hid ((sz zs k : Int) = hz zs k / 8) := hs
        clear hz8 hpre hfree hat hs hq
        have hszn : (n : Int) ≤ (sz zs k : Int) := by have := HS.out; omega
        have hfk := hR0.frozen k
        by_cases hrest : hz zs k / 8 - (n : Int) < 2
        · go_wp2_with (first | (go_at_call 95; refine (l2Size_ok _ _).mono ?_; rintro e wx ⟨rfl, rfl⟩) | (go_at_call 96; refine (l2Kind_ok _ _).mono ?_; rintro e wx ⟨rfl, rfl⟩))
          obtain ⟨W1, hW1⟩ : ∃ W1, wr.setCell ⟨g, k, none⟩ (.int .i64 (8 * (hz zs k / 8) + (kind : Int))) = W1 := ⟨_, rfl⟩
          have r1 := hR0.set (k := k) (v := 8 * (hz zs k / 8) + (kind : Int)) hlt ⟨by omega, by omega⟩
          have x0 := b0.other (p := ⟨g, k, none⟩) (by intro h; simp at h; omega) (.int .i64 (8 * (hz zs k / 8) + (kind : Int)))
          have x1 := b1.other (p := ⟨g, k, none⟩) (by intro h; simp at h; omega) (.int .i64 (8 * (hz zs k / 8) + (kind : Int)))
          have gw := GS.set (k := k) (GS.refl wr g) (.int .i64 (8 * (hz zs k / 8) + (kind : Int)))
          rw [hW1] at r1 x0 x1 gw ⊢
          clear hW1 hck hfk c0 c1 f1 hd
          go_loopw [12] (fun i wr' => ∃ j : Nat, i = .int .i64 j ∧ 1 ≤ j ∧ j ≤ sz zs k ∧ Row wr' g (layS zs k (8 * (hz zs k / 8) + (kind : Int)) j) ∧ GS g W1 wr') (fun i _ => sz zs k - (intOf i).toNat)
          case atStart => exact ⟨1, rfl, Nat.le_refl _, by omega, by simpa [layS, sets] using r1, GS.refl _ _⟩
          case round =>
            obtain ⟨j, rfl, hj1, hjm, hRj, hGj⟩ := hrel
            have z0 := (x0.grown hGj.1 (by intro e; simp at e; omega)).cell 0
            have zb1 := x1.grown hGj.1 (by intro e; simp at e; omega)
            have z1 := zb1.cell 0
            have fz1 := zb1.frozen 0
            by_cases hjl : j < sz zs k
            · have hcj := hRj.cell (j := k + j) (by rw [layS_len]; omega)
              have hfj := hRj.frozen (k + j)
              have HR : Hid _ := hRj.set (k := k + j) (v := 0) (by rw [layS_len]; omega) ⟨by omega, by omega⟩
              have HG : Hid _ := GS.set (k := k + j) hGj (.int .i64 0)
              have hjI : (j : Int) < hz zs k / 8 := by have := HS.out; omega
              clear hRj hGj
              go_wp2
              go_roundw
              case rel => exact ⟨j + 1, by go_num, by omega, by omega, by rw [← layS_succ _ _ _ hj1]; exact HR.out, HG.out⟩
              case measure => simp [intOf]; omega
            · obtain rfl : j = sz zs k := by omega
              have hjI : ¬ ((sz zs k : Nat) : Int) < hz zs k / 8 := by have := HS.out; omega
              have HR : Hid _ := hRj
              have HG : Hid _ := hGj
              clear hRj hGj
              go_wp2
              have q := (zb1.set1 (.slice (some ⟨g, 0, none⟩) zs.length cap)).cell 0
              refine bodyPost_ret (v := .tuple #[.agg #[.slice (some ⟨g, 0, none⟩) zs.length cap], .int .i64 (k : Nat), .bool true]) (by simp [results, Tryz.results87, go_sem, q]) rfl ⟨fun b hp hb => ?_, fun hb => (by rw [HF.out] at hb; cases hb), GS.setNew (GS.trans (GS.trans (GS.any k0 g) gw) HG.out) (by simp) _⟩
              rw [HF.out] at hb
              cases hb
              refine ⟨rfl, ?_⟩
              have hT : takeL zs ⟨k, sz zs k, kd zs k⟩ kind n = layS zs k (8 * (hz zs k / 8) + (kind : Int)) (sz zs k) := by
                rw [layS_all hle (by omega), ← HS.out]; exact if_neg (by have := HS.out; show ¬ n + 2 ≤ sz zs k; omega)
              show Row _ g (takeL zs ⟨k, sz zs k, kd zs k⟩ kind n)
              rw [hT]
              exact Row.other (show Row _ g _ from HR.out) (by intro h; simp at h <;> omega) _
        · have hckn := hR0.cell (j := k + n) (by have := HS.out; omega)
          have hfkn := hR0.frozen (k + n)
          have hrest' : 2 ≤ hz zs k / 8 - (n : Int) := by omega
          have hkn : (k : Int) + (n : Int) < (zs.length : Int) := by have := HS.out; omega
          go_wp2_with (first | (go_at_call 95; refine (l2Size_ok _ _).mono ?_; rintro e wx ⟨rfl, rfl⟩) | (go_at_call 96; refine (l2Kind_ok _ _).mono ?_; rintro e wx ⟨rfl, rfl⟩))
          obtain ⟨W1, hW1⟩ : ∃ W1, (wr.setCell ⟨g, k + n, none⟩ (.int .i64 (8 * (hz zs k / 8 - (n : Int))))).setCell ⟨g, k, none⟩ (.int .i64 (8 * (n : Int) + (kind : Int))) = W1 := ⟨_, rfl⟩
          have r1 := (hR0.set (k := k + n) (v := 8 * (hz zs k / 8 - (n : Int))) (by omega) ⟨by omega, by omega⟩).set (k := k) (v := 8 * (n : Int) + (kind : Int)) (by rw [List.length_set]; exact hlt) ⟨by omega, by omega⟩
          have x0 := (b0.other (p := ⟨g, k + n, none⟩) (by intro h; simp at h; omega) (.int .i64 (8 * (hz zs k / 8 - (n : Int))))).other (p := ⟨g, k, none⟩) (by intro h; simp at h; omega) (.int .i64 (8 * (n : Int) + (kind : Int)))
          have x1 := (b1.other (p := ⟨g, k + n, none⟩) (by intro h; simp at h; omega) (.int .i64 (8 * (hz zs k / 8 - (n : Int))))).other (p := ⟨g, k, none⟩) (by intro h; simp at h; omega) (.int .i64 (8 * (n : Int) + (kind : Int)))
          have gw := GS.set (k := k) (GS.set (k := k + n) (GS.refl wr g) (.int .i64 (8 * (hz zs k / 8 - (n : Int))))) (.int .i64 (8 * (n : Int) + (kind : Int)))
          rw [hW1] at r1 x0 x1 gw ⊢
          clear hW1 hck hfk c0 c1 f1 hd
          go_loopw [12] (fun i wr' => ∃ j : Nat, i = .int .i64 j ∧ 1 ≤ j ∧ j ≤ n ∧ Row wr' g (layS (zs.set (k + n) (8 * (hz zs k / 8 - (n : Int)))) k (8 * (n : Int) + (kind : Int)) j) ∧ GS g W1 wr') (fun i _ => n - (intOf i).toNat)
          case atStart => exact ⟨1, rfl, Nat.le_refl _, by omega, by simpa [layS, sets] using r1, GS.refl _ _⟩
          case round =>
            obtain ⟨j, rfl, hj1, hjm, hRj, hGj⟩ := hrel
            have z0 := (x0.grown hGj.1 (by intro e; simp at e; omega)).cell 0
            have zb1 := x1.grown hGj.1 (by intro e; simp at e; omega)
            have z1 := zb1.cell 0
            have fz1 := zb1.frozen 0
            by_cases hjl : j < n
            · have hcj := hRj.cell (j := k + j) (by rw [layS_len, List.length_set]; omega)
              have hfj := hRj.frozen (k + j)
              have HR : Hid _ := hRj.set (k := k + j) (v := 0) (by rw [layS_len, List.length_set]; omega) ⟨by omega, by omega⟩
              have HG : Hid _ := GS.set (k := k + j) hGj (.int .i64 0)
              have hjI : (j : Int) < (n : Int) := by have := HS.out; omega
              clear hRj hGj
              go_wp2
              go_roundw
              case rel => exact ⟨j + 1, by go_num, by omega, by omega, by rw [← layS_succ _ _ _ hj1]; exact HR.out, HG.out⟩
              case measure => simp [intOf]; omega
            · obtain rfl : n = j := by omega
              have hjI : ¬ ((n : Nat) : Int) < (n : Int) := by have := HS.out; omega
              have HR : Hid _ := hRj
              have HG : Hid _ := hGj
              clear hRj hGj
              go_wp2
              have q := (zb1.set1 (.slice (some ⟨g, 0, none⟩) zs.length cap)).cell 0
              refine bodyPost_ret (v := .tuple #[.agg #[.slice (some ⟨g, 0, none⟩) zs.length cap], .int .i64 (k : Nat), .bool true]) (by simp [results, Tryz.results87, go_sem, q]) rfl ⟨fun b hp hb => ?_, fun hb => (by rw [HF.out] at hb; cases hb), GS.setNew (GS.trans (GS.trans (GS.any k0 g) gw) HG.out) (by simp) _⟩
              rw [HF.out] at hb
              cases hb
              refine ⟨rfl, ?_⟩
              have hT : takeL zs ⟨k, sz zs k, kd zs k⟩ kind n = layS (zs.set (k + n) (8 * (hz zs k / 8 - (n : Int)))) k (8 * (n : Int) + (kind : Int)) n := by
                rw [layS_all (by rw [List.length_set]; omega) (by omega), ← HS.out]; exact if_pos (by have := HS.out; show n + 2 ≤ sz zs k; omega)
              show Row _ g (takeL zs ⟨k, sz zs k, kd zs k⟩ kind n)
              rw [hT]
              exact Row.other (show Row _ g _ from HR.out) (by intro h; simp at h <;> omega) _
      · have hno : freeP n (⟨⟨k, sz zs k, kd zs k⟩, hg.sz2, hg.le, hg.kd5⟩ : BkOf zs.length) = false := by simp [freeP]; omega
        obtain ⟨x, HP, HF⟩ : ∃ x : BkOf zs.length, Hid ((pre ++ [x]) ++ blks zs (k + sz zs k) = blocks zs) ∧ Hid (∀ b ∈ pre ++ [x], freeP n b = false) := by
          refine ⟨⟨⟨k, sz zs k, kd zs k⟩, hg.sz2, hg.le, hg.kd5⟩, ?_, ?_⟩
          · show _ = _
            rw [← hpre, blks_yes hg]; simp
          · intro b hb
            rcases List.mem_append.1 hb with hb | hb
            · exact hfree b hb
            · simp at hb; subst hb; exact hno
        have HX : Hid (At zs (k + sz zs k)) := hat.next hg
        have HS : Hid ((sz zs k : Int) = hz zs k / 8) := hs
        have hsb : hz zs k / 8 ≤ 2000 := by omega
        have hsb' : 2 ≤ hz zs k / 8 := by omega
        clear hpre hfree hat hs hq hno hg
        rcases (show ¬ hz zs k % 8 = 0 ∨ (hz zs k % 8 = 0 ∧ hz zs k / 8 < (n : Int)) by omega) with h | ⟨h, h'⟩
        · have hd : (hz zs k % 8 == 0) = false := by simpa using h
          have hpos : 0 < hz zs k % 8 := by omega
          clear h hfr
          go_wp2_with (first | (go_at_call 95; refine (l2Size_ok _ _).mono ?_; rintro e wx ⟨rfl, rfl⟩) | (go_at_call 96; refine (l2Kind_ok _ _).mono ?_; rintro e wx ⟨rfl, rfl⟩))
          go_roundw
          case rel => exact ⟨rfl, by first | rfl | trivial, k + sz zs k, _, by rw [← HS.out]; go_num, hle, HX.out, HP.out, HF.out⟩
          case measure => simp [intOf]; have := HS.out; omega
        · have hd : (hz zs k % 8 == 0) = true := by simp [h]
          have hzz : hz zs k % 8 ≤ 0 := by omega
          clear h hfr
          go_wp2_with (first | (go_at_call 95; refine (l2Size_ok _ _).mono ?_; rintro e wx ⟨rfl, rfl⟩) | (go_at_call 96; refine (l2Kind_ok _ _).mono ?_; rintro e wx ⟨rfl, rfl⟩))
          go_roundw
          case rel => exact ⟨rfl, by first | rfl | trivial, k + sz zs k, _, by rw [← HS.out]; go_num, hle, HX.out, HP.out, HF.out⟩
          case measure => simp [intOf]; have := HS.out; omega
    · obtain rfl : k = zs.length := by omega
      have HP : Hid (ffB zs n = none) := ff_none (fun b hb => hfree b (by rw [← hpre, blks_no (fun h => hlt h.lt)] at hb; simpa using hb))
      clear hpre hfree hat
      go_wp2
      have q := (b1.set1 (.slice (some ⟨g, 0, none⟩) zs.length cap)).cell 0
      refine bodyPost_ret (v := .tuple #[.agg #[.slice (some ⟨g, 0, none⟩) zs.length cap], .int .i64 0, .bool false]) (by simp [results, Tryz.results87, go_sem, q]) rfl ⟨fun b hb => (by rw [HP.out] at hb; cases hb), fun _ => ⟨rfl, hR0.other (by intro h; simp at h <;> omega) _⟩, ?_⟩
      exact GS.any (k0.set (by simp) _) _
end Go.Proofs.YtpbafjcoomfooaaGreat
