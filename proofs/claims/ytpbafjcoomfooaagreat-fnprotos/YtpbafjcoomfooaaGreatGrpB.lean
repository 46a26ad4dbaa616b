/-
  The contracts of the model of Give: l2Give and Give.
  The contract of the model of Give, and both together: they answer the same, each a slab of its own.
  What Take, Give and SlabNew make of the words keeps the slab right; how much room there is then.
-/
import Derived.Test.YtpbafjcoomfooaaGreatGrpA
import Derived.Test.YtpbafjcoomfooaaGreatGrpQ
import Derived.Test.YtpbafjcoomfooaaGreatSlabR
namespace Go.Proofs.YtpbafjcoomfooaaGreat
open Go.RowKit
attribute [local go_sem] Plain.and7

/-- Noughts from place a up to j. -/
def zeroTo (zs : List Int) (a j : Nat) : List Int := sets zs a (List.replicate (j - a) 0)
theorem zeroTo_len (zs : List Int) (a j : Nat) : (zeroTo zs a j).length = zs.length := by simp [zeroTo, sets_len]
theorem zeroTo_succ (zs : List Int) {a j : Nat} (h : a ≤ j) : (zeroTo zs a j).set j 0 = zeroTo zs a (j + 1) := by
  unfold zeroTo
  rw [show j + 1 - a = (j - a) + 1 by omega, List.replicate_succ', sets_snoc, List.length_replicate, show a + (j - a) = j by omega]
theorem zeroTo_lay (zs : List Int) (a s : Nat) (h : Int) : (zeroTo zs a (a + s)).set a h = layL zs a s h := by
  unfold zeroTo layL
  rw [show a + s - a = s by omega]

set_option maxHeartbeats 8000000 in
set_option maxRecDepth 100000 in
theorem l2Give_ok (w : World) (g cap : Nat) (zs : List Int) (b : Bk) (hR : Row w g zs) (hok : slabOk zs = true) (hb : b ∈ raw (blocks zs)) (hk : b.kind ≠ 0) :
    Calls Tryz.prog 159 #[.agg #[.slice (some ⟨g, 0, none⟩) zs.length cap], .int .i64 (b.at' : Nat)] w fun e w' =>
      e = .returned (.agg #[.slice (some ⟨g, 0, none⟩) zs.length cap]) ∧ Row w' g (giveB zs b) ∧ GS g w w' := by
  have hlen := slabOk_len hok
  have hgb : Good zs b.at' ∧ b.size = sz zs b.at' ∧ b.kind = kd zs b.at' := by
    obtain ⟨y, hy, rfl⟩ := List.mem_map.1 hb
    exact blks_mem zs 0 y hy
  obtain ⟨pre, p', l, r', hpre, hab1, hab2, hle1, hle2, hle3, _⟩ := about_eq hok hb hk
  have HA1 : Hid ((about zs b).1 = (pre.foldl (stp b.at' (b.at' + b.size)) (b.at', b.size)).1) := hab1
  have HA2 : Hid ((about zs b).1 + (about zs b).2 = toB zs (b.at' + b.size)) := hab2
  have HP : Hid (Seg zs 0 pre b.at') := hpre
  have hg := hgb.1
  have hsI := hg.szI
  have hble := hg.le
  have hs2 := hg.sz2
  rw [← hgb.2.1] at hsI hble hs2
  have HG : Hid (Good zs b.at' ∧ b.size = sz zs b.at' ∧ b.kind = kd zs b.at') := hgb
  have b0 := (Cells.new w 26 #[.slice (some ⟨g, 0, none⟩) zs.length cap]).alloc (.cells #[.slice none 0 0] 26)
  have b1 := Cells.new (w.alloc (.cells #[.slice (some ⟨g, 0, none⟩) zs.length cap] 26)) 26 #[.slice none 0 0]
  have k0 : Kept w ((w.alloc (.cells #[.slice (some ⟨g, 0, none⟩) zs.length cap] 26)).alloc (.cells #[.slice none 0 0] 26)) := (Kept.alloc (Below.refl _ _) _).alloc _
  have hR0 := hR.kept k0
  have lg := hR.lt
  simp only [World.size_alloc] at b1
  have HO : Hid (slabOk zs = true) := hok
  have HB : Hid (b ∈ raw (blocks zs)) := hb
  clear hok hb hk hab1 hab2 hpre hgb hg
  obtain ⟨e, he⟩ : ∃ e, b.at' + b.size = e := ⟨_, rfl⟩
  have heI : (b.at' : Int) + hz zs b.at' / 8 = (e : Int) := by omega
  have hat := hR0.cell (j := b.at') (by omega)
  obtain ⟨tb, htb⟩ : ∃ tb, decide (e < zs.length ∧ kd zs e = 0) = tb := ⟨_, rfl⟩
  have hto : toB zs e = if tb then e + sz zs e else e := by rw [← htb]; unfold toB; by_cases h : e < zs.length ∧ kd zs e = 0 <;> simp [h]
  have hge : e < zs.length → Good zs e := by
    intro h
    have := (HP.out.at (At.zero zs)).next HG.out.1
    rw [← HG.out.2.1, he] at this
    exact this.good HO.out h
  go_enter Tryz.func159, Tryz.ntmps159
  go_upto_region 2 with (first | (go_at_call 95; refine (l2Size_ok _ _).mono ?_; rintro e wx ⟨rfl, rfl⟩) | (go_at_call 96; refine (l2Kind_ok _ _).mono ?_; rintro e wx ⟨rfl, rfl⟩))
  go_cut [31] from 18 to 31 (fun s wx => s = .bool tb ∧ wx = (w.alloc (.cells #[.slice (some ⟨g, 0, none⟩) zs.length cap] 26)).alloc (.cells #[.slice none 0 0] 26))
  case first =>
    have HT : Hid (toB zs e = if tb then e + sz zs e else e) := hto
    clear hto
    by_cases hel : e < zs.length
    · have hce := hR0.cell (j := e) hel
      have hge' := hge hel
      have hkI := kdI zs e
      have htb' : (hz zs e % 8 == 0) = tb := by rw [← htb, Bool.eq_iff_iff]; simp [hel]; omega
      clear htb hge hge' hkI
      go_wp2_with (first | (go_at_call 95; refine (l2Size_ok _ _).mono ?_; rintro e wx ⟨rfl, rfl⟩) | (go_at_call 96; refine (l2Kind_ok _ _).mono ?_; rintro e wx ⟨rfl, rfl⟩))
      all_goals (go_meet; exact ⟨by first | rfl | (simp_all; done), rfl⟩)
    · obtain rfl : false = tb := by rw [← htb]; simp [hel]
      have hel' : ¬ (e : Int) < (zs.length : Int) := by omega
      clear htb hge
      go_wp2_with (first | (go_at_call 95; refine (l2Size_ok _ _).mono ?_; rintro e wx ⟨rfl, rfl⟩) | (go_at_call 96; refine (l2Kind_ok _ _).mono ?_; rintro e wx ⟨rfl, rfl⟩))
      go_meet
      exact ⟨rfl, rfl⟩
  case rest =>
  obtain ⟨rfl, rfl⟩ := hcut
  obtain ⟨tt, hto'⟩ : ∃ tt, toB zs e = tt := ⟨_, rfl⟩
  go_upto_if 31 with fail
  go_cut [6] from 32 to 39 (fun s wx => s = .int .i64 (tt : Nat) ∧ wx = (w.alloc (.cells #[.slice (some ⟨g, 0, none⟩) zs.length cap] 26)).alloc (.cells #[.slice none 0 0] 26))
  case first =>
    cases tb with
    | true =>
      have hel : e < zs.length := by simp at htb; exact htb.1
      have hce := hR0.cell (j := e) hel
      have hge' := hge hel
      have hsz := hge'.szI
      have hszle := hge'.le
      have htt2 : tt ≤ 2000 := by rw [← hto', hto]; simp; omega
      have hen : (e : Int) + hz zs e / 8 = (tt : Int) := by rw [← hto', hto]; simp; omega
      clear htb hge hge' hto hto' hsz
      go_wp2_with (first | (go_at_call 95; refine (l2Size_ok _ _).mono ?_; rintro e wx ⟨rfl, rfl⟩) | (go_at_call 96; refine (l2Kind_ok _ _).mono ?_; rintro e wx ⟨rfl, rfl⟩))
      go_meet
      exact ⟨by first | rfl | go_num, rfl⟩
    | false =>
      obtain rfl : tt = e := by rw [← hto', hto]; simp
      clear htb hge hto
      go_wp2_with (first | (go_at_call 95; refine (l2Size_ok _ _).mono ?_; rintro e wx ⟨rfl, rfl⟩) | (go_at_call 96; refine (l2Kind_ok _ _).mono ?_; rintro e wx ⟨rfl, rfl⟩))
      go_meet
      exact ⟨rfl, rfl⟩
  case rest =>
  obtain ⟨rfl, rfl⟩ := hcut
  have hA2 := HA2.out
  rw [he, hto'] at hA2
  have hA1 := HA1.out
  rw [he] at hA1
  obtain ⟨fr, hfr⟩ : ∃ fr, (about zs b).1 = fr := ⟨_, rfl⟩
  obtain ⟨sl, hsl⟩ : ∃ sl, (about zs b).2 = sl := ⟨_, rfl⟩
  rw [hfr, hsl] at hA2 hle2 hle3
  rw [hfr] at hA1 hle1
  have HV : Hid (giveB zs b = layL zs fr sl (8 * (sl : Int) + ((0 : Nat) : Int))) := by show giveB zs b = _; rw [giveB, hfr, hsl]
  have HF : Hid (fr = (pre.foldl (stp b.at' e) (b.at', b.size)).1) := hA1
  have HE : Hid (b.at' + b.size = e) := he
  have hfb : fr + 2 ≤ tt := by omega
  have hslt : (tt : Int) - (fr : Int) = (sl : Int) := by omega
  have HSL : Hid (fr + sl = tt) := hA2
  clear hto htb hge hto' hA1 hA2 hfr hsl he heI hat HA1 HA2
  obtain ⟨W0, hW0⟩ : ∃ W0, (w.alloc (.cells #[.slice (some ⟨g, 0, none⟩) zs.length cap] 26)).alloc (.cells #[.slice none 0 0] 26) = W0 := ⟨_, rfl⟩
  go_wp2_with fail
  rw [hW0] at b0 b1 k0 hR0 ⊢
  clear hW0
  have c0 := b0.cell 0
  go_loopw [5, 7] (fun f i wr => wr = W0 ∧ ∃ (k : Nat) (pk : List Bk), i = .int .i64 k ∧ k ≤ b.at' ∧ Seg zs 0 pk k ∧ f = .int .i64 ((pk.foldl (stp b.at' e) (b.at', b.size)).1 : Nat)) (fun _ i _ => b.at' - (intOf i).toNat)
  case atStart => exact ⟨by first | rfl | trivial, 0, [], rfl, Nat.zero_le _, Seg.nil 0, rfl⟩
  case round =>
    obtain ⟨rfl, k, pk, rfl, hk, hseg, rfl⟩ := hrel
    by_cases hlt : k < b.at'
    · obtain ⟨q, hq1, hq2⟩ := hseg.sub HP.out hk
      obtain ⟨hgk, hsub⟩ : Good zs k ∧ k + sz zs k ≤ b.at' := by
        cases q with
        | nil => have := hq2.endN; omega
        | cons y q => obtain ⟨_, hg, hs⟩ := hq2.head; exact ⟨hg, hs.le⟩
      have hck := hR0.cell (j := k) (by have := hgk.lt; omega)
      have hs := hgk.szI
      have hs2 := hgk.sz2
      have hkk := kdI zs k
      have HN : Hid (Seg zs 0 (pk ++ [(⟨k, sz zs k, kd zs k⟩ : Bk)]) (k + sz zs k)) := hseg.app (Seg.cons hgk (.nil _))
      have hstp : (pk ++ [(⟨k, sz zs k, kd zs k⟩ : Bk)]).foldl (stp b.at' e) (b.at', b.size) = stp b.at' e (pk.foldl (stp b.at' e) (b.at', b.size)) ⟨k, sz zs k, kd zs k⟩ := by rw [List.foldl_append]; rfl
      have hkl : (k : Int) < (zs.length : Int) := by omega
      have HE' := HE.out
      by_cases hm : k + sz zs k = b.at' ∧ kd zs k = 0
      · have HS : Hid ((pk ++ [(⟨k, sz zs k, kd zs k⟩ : Bk)]).foldl (stp b.at' e) (b.at', b.size) = (k, (pk.foldl (stp b.at' e) (b.at', b.size)).2 + sz zs k)) := by
          show _ = _
          rw [hstp, stp, if_neg (by simp; omega), if_pos ⟨hm.2, hm.1⟩]
        have t1 : ((k : Int) + hz zs k / 8 == (b.at' : Int)) = true := by simp; omega
        have t2 : (hz zs k % 8 == 0) = true := by simp; omega
        have HQ : Hid ((sz zs k : Int) = hz zs k / 8) := hs
        have hb1 : hz zs k / 8 ≤ 2000 := by omega
        have hb2 : 2 ≤ hz zs k / 8 := by omega
        clear hm hstp hs hkk hseg hq1 hq2 hgk
        go_wp2_with (first | (go_at_call 95; refine (l2Size_ok _ _).mono ?_; rintro e wx ⟨rfl, rfl⟩) | (go_at_call 96; refine (l2Kind_ok _ _).mono ?_; rintro e wx ⟨rfl, rfl⟩))
        go_roundw
        case rel => exact ⟨by first | rfl | trivial, k + sz zs k, _, by rw [← HQ.out]; go_num, hsub, HN.out, by rw [HS.out]⟩
        case measure => simp [intOf]; have := HQ.out; omega
      · have HS : Hid ((pk ++ [(⟨k, sz zs k, kd zs k⟩ : Bk)]).foldl (stp b.at' e) (b.at', b.size) = pk.foldl (stp b.at' e) (b.at', b.size)) := by
          show _ = _
          rw [hstp, stp_id _ (by simp; omega) (by simp; omega)]
        have HQ : Hid ((sz zs k : Int) = hz zs k / 8) := hs
        have hb1 : hz zs k / 8 ≤ 2000 := by omega
        have hb2 : 2 ≤ hz zs k / 8 := by omega
        rcases (show ¬ (k + sz zs k = b.at') ∨ (k + sz zs k = b.at' ∧ ¬ kd zs k = 0) by omega) with h | ⟨h, h'⟩
        · have t1 : ((k : Int) + hz zs k / 8 == (b.at' : Int)) = false := by simp; omega
          clear hm h hstp hs hkk hseg hq1 hq2 hgk
          go_wp2_with (first | (go_at_call 95; refine (l2Size_ok _ _).mono ?_; rintro e wx ⟨rfl, rfl⟩) | (go_at_call 96; refine (l2Kind_ok _ _).mono ?_; rintro e wx ⟨rfl, rfl⟩))
          go_roundw
          case rel => exact ⟨by first | rfl | trivial, k + sz zs k, _, by rw [← HQ.out]; go_num, hsub, HN.out, by rw [HS.out]⟩
          case measure => simp [intOf]; have := HQ.out; omega
        · have t1 : ((k : Int) + hz zs k / 8 == (b.at' : Int)) = true := by simp; omega
          have t2 : (hz zs k % 8 == 0) = false := by simp; omega
          clear hm h h' hstp hs hkk hseg hq1 hq2 hgk
          go_wp2_with (first | (go_at_call 95; refine (l2Size_ok _ _).mono ?_; rintro e wx ⟨rfl, rfl⟩) | (go_at_call 96; refine (l2Kind_ok _ _).mono ?_; rintro e wx ⟨rfl, rfl⟩))
          go_roundw
          case rel => exact ⟨by first | rfl | trivial, k + sz zs k, _, by rw [← HQ.out]; go_num, hsub, HN.out, by rw [HS.out]⟩
          case measure => simp [intOf]; have := HQ.out; omega
    · obtain rfl : k = b.at' := by omega
      obtain rfl : pre = pk := by
        obtain ⟨q, hq1, hq2⟩ := hseg.sub HP.out hk
        rw [hq2.end0, List.append_nil] at hq1
        exact hq1
      rw [← HF.out]
      clear hseg hk
      go_wp2_with fail
      go_loopw [8] (fun i wr' => ∃ j : Nat, i = .int .i64 j ∧ fr ≤ j ∧ j ≤ tt ∧ Row wr' g (zeroTo zs fr j) ∧ GS g wr wr') (fun i _ => tt - (intOf i).toNat)
      case atStart => exact ⟨fr, rfl, Nat.le_refl _, by omega, by simpa [zeroTo, sets] using hR0, GS.refl _ _⟩
      case round =>
        obtain ⟨j, rfl, hj1, hjm, hRj, hGj⟩ := hrel
        have z0 := (b0.grown hGj.1 (by intro e; simp at e; omega)).cell 0
        have zb1 := b1.grown hGj.1 (by intro e; simp at e; omega)
        have z1 := zb1.cell 0
        have fz1 := zb1.frozen 0
        by_cases hjl : j < tt
        · have hcj := hRj.cell (j := j) (by rw [zeroTo_len]; omega)
          have hfj := hRj.frozen j
          have HR : Hid _ := hRj.set (k := j) (v := 0) (by rw [zeroTo_len]; omega) ⟨by omega, by omega⟩
          have HG' : Hid _ := GS.set (k := j) hGj (.int .i64 0)
          clear hRj hGj c0
          go_wp2
          go_roundw
          case rel => exact ⟨j + 1, by go_num, by omega, by omega, by rw [← zeroTo_succ _ hj1]; exact HR.out, HG'.out⟩
          case measure => simp [intOf]; omega
        · obtain rfl : tt = j := by omega
          have hcj := hRj.cell (j := fr) (by rw [zeroTo_len]; omega)
          have hfj := hRj.frozen fr
          have zb1' := zb1.other (p := ⟨g, fr, none⟩) (by intro h; simp at h; omega) (.int .i64 (8 * (sl : Int)))
          have z1' := zb1'.cell 0
          have fz1' := zb1'.frozen 0
          have HR : Hid _ := hRj.set (k := fr) (v := 8 * (sl : Int)) (by rw [zeroTo_len]; omega) ⟨by omega, by omega⟩
          have HG' : Hid _ := GS.set (k := fr) hGj (.int .i64 (8 * (sl : Int)))
          clear hRj hGj c0
          go_wp2
          have q := (zb1'.set1 (.slice (some ⟨g, 0, none⟩) zs.length cap)).cell 0
          refine bodyPost_ret (v := .agg #[.slice (some ⟨g, 0, none⟩) zs.length cap]) (by simp [results, Tryz.results159, go_sem, q]) rfl ⟨rfl, ?_, GS.setNew (GS.trans (GS.any k0 g) HG'.out) (by simp) _⟩
          rw [HV.out, ← zeroTo_lay, HSL.out, show (8 * (sl : Int) + ((0 : Nat) : Int)) = 8 * (sl : Int) by simp]
          exact Row.other (show Row _ g _ from HR.out) (by intro h; simp at h <;> omega) _
end Go.Proofs.YtpbafjcoomfooaaGreat
namespace Go.Proofs.YtpbafjcoomfooaaGreat
open Go.RowKit
attribute [local go_sem] Plain.and7

set_option maxHeartbeats 8000000 in
set_option maxRecDepth 100000 in
theorem spec_Give_no (w : World) (ao : Option Addr) (cap : Nat) (zs : List Int) (a : Int) (hI : Ints w ao zs) (hl : zs.length ≤ 1048576) (hno : ∀ b, atB zs a = some b → b.1.kind = 0) :
    Calls Tryz.prog 153 #[.agg #[.slice ao zs.length cap], .int .i64 a] w fun e w' => ∃ v, e = .returned (.agg #[v]) ∧ OwnR w' w.heap.size v zs ∧ Kept w w' ∧ FullV w' v := by
  have hL : zs.length * 8 ≤ 140737488351232 := by omega
  have b0 := (Cells.new w 26 #[.slice ao zs.length cap]).alloc (.cells #[.slice none 0 0] 26)
  have b1 := Cells.new (w.alloc (.cells #[.slice ao zs.length cap] 26)) 26 #[.slice none 0 0]
  have k0 : Kept w ((w.alloc (.cells #[.slice ao zs.length cap] 26)).alloc (.cells #[.slice none 0 0] 26)) := (Kept.alloc (Below.refl _ _) _).alloc _
  simp only [World.size_alloc] at b1
  have hS := spec_SlabOk_ok _ ao cap zs (hI.kept k0) hL
  cases hok : slabOk zs with
  | false =>
    rw [hok] at hS
    clear hok hno
    go_enter Tryz.func153, Tryz.ntmps153
    go_wp2_with (first | (go_at_call 86; refine hS.mono ?_; rintro e w1 ⟨rfl, hk1⟩; have d0 := (b0.kept hk1).cell 0) | (go_at_call 41; refine (l2Copy_ok _ ao cap zs ((hI.kept k0).kept hk1) hl).mono ?_; rintro e w2 ⟨g2, c2, rfl, hg2, hc2, hR2, hk2, sz2⟩; have d1 := ((b1.kept hk1).kept hk2).cell 0; have f1 := ((b1.kept hk1).kept hk2).frozen 0))
    have q := (((b1.kept hk1).kept hk2).set1 (.slice (some ⟨g2, 0, none⟩) zs.length c2)).cell 0
    have hs1 := hk1.size
    simp only [World.size_alloc] at hs1
    refine bodyPost_ret (v := .agg #[.slice (some ⟨g2, 0, none⟩) zs.length c2]) (by simp [results, Tryz.results153, go_sem, q]) rfl ⟨_, rfl, .inr ⟨g2, c2, rfl, by omega, hc2, hR2.other (by intro h; simp at h <;> omega) _⟩, ((k0.trans hk1).trans hk2).set (by simp) _, FullV.one (sz2.set _ _ _)⟩
  | true =>
    rw [hok] at hS
    have hIs := fun (w1 : World) (hI1 : Ints w1 ao zs) => l2Is_ok w1 ao cap zs a hI1 hL hok
    unfold isAt at hIs
    cases hb : atB zs a with
    | none =>
      rw [hb] at hIs
      clear hok hb hno
      go_enter Tryz.func153, Tryz.ntmps153
      go_wp2_with (first | (go_at_call 86; refine hS.mono ?_; rintro e w1 ⟨rfl, hk1⟩; have d0 := (b0.kept hk1).cell 0) | (go_at_call 106; refine (hIs _ ((hI.kept k0).kept hk1)).mono ?_; rintro e wi ⟨rfl, hkI⟩; have d0i := ((b0.kept hk1).kept hkI).cell 0) | (go_at_call 41; refine (l2Copy_ok _ ao cap zs (hI.kept ((k0.trans hk1).trans hkI)) hl).mono ?_; rintro e w2 ⟨g2, c2, rfl, hg2, hc2, hR2, hk2, sz2⟩; have d1 := ((b1.kept hk1).kept hkI).kept hk2; have d1c := d1.cell 0; have f1 := d1.frozen 0))
      have q := (d1.set1 (.slice (some ⟨g2, 0, none⟩) zs.length c2)).cell 0
      have hs1 := hk1.size
      have hsI := hkI.size
      simp only [World.size_alloc] at hs1
      refine bodyPost_ret (v := .agg #[.slice (some ⟨g2, 0, none⟩) zs.length c2]) (by simp [results, Tryz.results153, go_sem, q]) rfl ⟨_, rfl, .inr ⟨g2, c2, rfl, by omega, hc2, hR2.other (by intro h; simp at h <;> omega) _⟩, (((k0.trans hk1).trans hkI).trans hk2).set (by simp) _, FullV.one (sz2.set _ _ _)⟩
    | some b =>
      have hk := hno b hb
      obtain ⟨_, e1, hg, hs, hq, _⟩ := atB_some hb
      rw [hb] at hIs
      have hlt := hg.lt
      obtain ⟨bb, off, rfl, hc⟩ := hI.at hlt
      have hck := hc _ hlt
      have hbl : bb < w.heap.size := World.block_lt_of_cell? _ _ hck
      have hz8 : (hz zs b.1.at' % 8 == 0) = true := by have := kdI zs b.1.at'; simp; omega
      subst e1
      clear hok hb hc hg hs hq hno hk
      go_enter Tryz.func153, Tryz.ntmps153
      go_wp2_with (first | (go_at_call 86; refine hS.mono ?_; rintro e w1 ⟨rfl, hk1⟩; have d0 := (b0.kept hk1).cell 0) | (go_at_call 106; refine (hIs _ ((hI.kept k0).kept hk1)).mono ?_; rintro e wi ⟨rfl, hkI⟩; have d0i := ((b0.kept hk1).kept hkI).cell 0; have ck2 := (((k0.trans hk1).trans hkI).cell (p := ⟨bb, off + b.1.at', none⟩) hbl).trans hck) | (go_at_call 96; refine (l2Kind_ok _ _).mono ?_; rintro e wx ⟨rfl, rfl⟩) | (go_at_call 41; refine (l2Copy_ok _ _ cap zs (hI.kept ((k0.trans hk1).trans hkI)) hl).mono ?_; rintro e w2 ⟨g2, c2, rfl, hg2, hc2, hR2, hk2, sz2⟩; have d1 := ((b1.kept hk1).kept hkI).kept hk2; have d1c := d1.cell 0; have f1 := d1.frozen 0))
      have q := (d1.set1 (.slice (some ⟨g2, 0, none⟩) zs.length c2)).cell 0
      have hs1 := hk1.size
      have hsI := hkI.size
      simp only [World.size_alloc] at hs1
      refine bodyPost_ret (v := .agg #[.slice (some ⟨g2, 0, none⟩) zs.length c2]) (by simp [results, Tryz.results153, go_sem, q]) rfl ⟨_, rfl, .inr ⟨g2, c2, rfl, by omega, hc2, hR2.other (by intro h; simp at h <;> omega) _⟩, (((k0.trans hk1).trans hkI).trans hk2).set (by simp) _, FullV.one (sz2.set _ _ _)⟩

set_option maxHeartbeats 8000000 in
set_option maxRecDepth 100000 in
theorem spec_Give_yes (w : World) (ao : Option Addr) (cap : Nat) (zs : List Int) (a : Int) (b : BkOf zs.length) (hI : Ints w ao zs) (hl : zs.length ≤ 1048576) (hb : atB zs a = some b) (hk : b.1.kind ≠ 0) :
    Calls Tryz.prog 153 #[.agg #[.slice ao zs.length cap], .int .i64 a] w fun e w' => ∃ v, e = .returned (.agg #[v]) ∧ OwnR w' w.heap.size v (giveB zs b.1) ∧ Kept w w' ∧ FullV w' v := by
  have hL : zs.length * 8 ≤ 140737488351232 := by omega
  have b0 := (Cells.new w 26 #[.slice ao zs.length cap]).alloc (.cells #[.slice none 0 0] 26)
  have b1 := Cells.new (w.alloc (.cells #[.slice ao zs.length cap] 26)) 26 #[.slice none 0 0]
  have k0 : Kept w ((w.alloc (.cells #[.slice ao zs.length cap] 26)).alloc (.cells #[.slice none 0 0] 26)) := (Kept.alloc (Below.refl _ _) _).alloc _
  simp only [World.size_alloc] at b1
  have hS := spec_SlabOk_ok _ ao cap zs (hI.kept k0) hL
  obtain ⟨hok, e1, hg, hs, hq, hmem⟩ := atB_some hb
  rw [hok] at hS
  have hIs := fun (w1 : World) (hI1 : Ints w1 ao zs) => l2Is_ok w1 ao cap zs a hI1 hL hok
  unfold isAt at hIs
  rw [hb] at hIs
  have hG := fun (w2 : World) (g c : Nat) (hR : Row w2 g zs) => l2Give_ok w2 g c zs b.1 hR hok (List.mem_map.2 ⟨b, hmem, rfl⟩) hk
  have hlt := hg.lt
  obtain ⟨bb, off, rfl, hc⟩ := hI.at hlt
  have hck := hc _ hlt
  have hbl : bb < w.heap.size := World.block_lt_of_cell? _ _ hck
  have hz8 : (hz zs b.1.at' % 8 == 0) = false := by have := kdI zs b.1.at'; simp; omega
  have hpos : 0 < hz zs b.1.at' % 8 := by have := kdI zs b.1.at'; omega
  subst e1
  clear hok hb hc hg hs hq hk hmem
  go_enter Tryz.func153, Tryz.ntmps153
  go_wp2_with (first | (go_at_call 86; refine hS.mono ?_; rintro e w1 ⟨rfl, hk1⟩; have d0 := (b0.kept hk1).cell 0) | (go_at_call 106; refine (hIs _ ((hI.kept k0).kept hk1)).mono ?_; rintro e wi ⟨rfl, hkI⟩; have d0i := ((b0.kept hk1).kept hkI).cell 0; have ck2 := (((k0.trans hk1).trans hkI).cell (p := ⟨bb, off + b.1.at', none⟩) hbl).trans hck) | (go_at_call 96; refine (l2Kind_ok _ _).mono ?_; rintro e wx ⟨rfl, rfl⟩) | (go_at_call 41; refine (l2Copy_ok _ _ cap zs (hI.kept ((k0.trans hk1).trans hkI)) hl).mono ?_; rintro e w2 ⟨g2, c2, rfl, hg2, hc2, hR2, hk2, sz2⟩) | (go_at_call 159; refine (hG _ g2 c2 hR2).mono ?_; rintro e w3 ⟨rfl, hR3, hG3⟩; have hs1 := hk1.size; have hsI := hkI.size; simp only [World.size_alloc] at hs1; have x1 := (((b1.kept hk1).kept hkI).kept hk2).grown hG3.1 (by intro e; simp at e; omega); have d1 := x1.cell 0; have f1 := x1.frozen 0; have l1 := x1.lt))
  have k3 := (((k0.trans hk1).trans hkI).trans hk2).grownRow hG3.1 (fun k e => by cases e; omega)
  have q := (x1.set1 (.slice (some ⟨g2, 0, none⟩) zs.length c2)).cell 0
  refine bodyPost_ret (v := .agg #[.slice (some ⟨g2, 0, none⟩) zs.length c2]) (by simp [results, Tryz.results153, go_sem, q]) rfl ⟨_, rfl, .inr ⟨g2, c2, by rw [giveB_len], by omega, by rw [giveB_len]; exact hc2, hR3.other (by intro h; simp at h <;> omega) _⟩, k3.set (by simp) _, FullV.one ((hG3.2 _ sz2).set _ _ _)⟩

/-- What Give makes of the words. -/
def giveL (zs : List Int) (a : Int) : List Int := match atB zs a with | some b => if b.1.kind = 0 then zs else giveB zs b.1 | none => zs
theorem giveL_len (zs : List Int) (a : Int) : (giveL zs a).length = zs.length := by
  unfold giveL
  split
  · split
    · rfl
    · exact giveB_len _ _
  · rfl
theorem spec_Give_ok (w : World) (ao : Option Addr) (cap : Nat) (zs : List Int) (a : Int) (hI : Ints w ao zs) (hl : zs.length ≤ 1048576) :
    Calls Tryz.prog 153 #[.agg #[.slice ao zs.length cap], .int .i64 a] w fun e w' => ∃ v, e = .returned (.agg #[v]) ∧ OwnR w' w.heap.size v (giveL zs a) ∧ Kept w w' ∧ FullV w' v := by
  unfold giveL
  cases hb : atB zs a with
  | none => exact spec_Give_no w ao cap zs a hI hl (by simp [hb])
  | some b =>
    by_cases hk : b.1.kind = 0
    · simp only [hk, if_true]
      exact spec_Give_no w ao cap zs a hI hl (by intro b' h; rw [hb] at h; cases h; exact hk)
    · simp only [hk, if_false]
      exact spec_Give_yes w ao cap zs a b hI hl hb hk
end Go.Proofs.YtpbafjcoomfooaaGreat
namespace Go.Proofs.YtpbafjcoomfooaaGreat

theorem Seg.heads {zs zs' : List Int} {k e : Nat} {l : List Bk} (h : Seg zs k l e) (hl : zs'.length = zs.length) : (∀ x ∈ l, hz zs' x.at' = hz zs x.at') → Seg zs' k l e := by
  induction h with
  | nil => intro _; exact .nil _
  | @cons k e l hg hs ih =>
    intro hj
    have e1 : hz zs' k = hz zs k := hj ⟨k, sz zs k, kd zs k⟩ (by simp)
    have hg' : Good zs' k := by unfold Good at hg ⊢; rw [e1, hl]; exact hg
    have es : sz zs' k = sz zs k := by unfold sz; rw [e1]
    have ek : kd zs' k = kd zs k := by unfold kd; rw [e1]
    have := ih (fun x hx => hj x (by simp [hx]))
    rw [← es] at this
    have r := Seg.cons hg' this
    rw [es, ek] at r
    exact r
/-- A word of a block behind its first one is written. -/
theorem slabOk_set {zs : List Int} {b : Bk} (hok : slabOk zs = true) (hb : b ∈ raw (blocks zs)) (v : Int) : slabOk (zs.set (b.at' + 1) v) = true ∧ b.at' + 1 < zs.length := by
  have hw := Seg.whole hok
  have hlen := (slabOk_iff.1 hok).1
  have hbd := hw.bd b hb
  obtain ⟨p, r, e⟩ := List.append_of_mem hb
  rw [e] at hw
  obtain ⟨m, h1, hm⟩ := hw.split
  obtain ⟨eb, hg, hr⟩ := hm.head
  have ea : m = b.at' := by rw [eb]
  have es : sz zs m = b.size := by rw [eb]
  rw [es, ea] at hr
  rw [ea] at h1
  refine ⟨?_, by omega⟩
  have hall : Seg (zs.set (b.at' + 1) v) 0 (p ++ b :: r) zs.length := by
    refine hw.heads (by simp) (fun x hx => ?_)
    rw [hz_set (by omega), if_neg]
    rcases List.mem_append.1 hx with hx | hx
    · have := h1.bd x hx; omega
    · rcases List.mem_cons.1 hx with rfl | hx
      · omega
      · have := hr.bd x hx; omega
  rw [← List.length_set (i := b.at' + 1) (a := v)] at hall
  exact (hall.slab (by simpa using hlen)).1

theorem takeL_len (zs : List Int) (b : Bk) (kind n : Nat) : (takeL zs b kind n).length = zs.length := by unfold takeL; split <;> simp [layL_len]
theorem takeL_ok {zs : List Int} {b : BkOf zs.length} {kind n : Nat} (hok : slabOk zs = true) (hb : ffB zs n = some b) (h1 : 1 ≤ kind) (h5 : kind ≤ 5) (h2 : 2 ≤ n) :
    ∃ s' : Nat, n ≤ s' ∧ s' ≤ n + 1 ∧ slabOk (takeL zs b.1 kind n) = true ∧ kindAt (takeL zs b.1 kind n) b.1.at' = kind ∧ sizeAt (takeL zs b.1 kind n) b.1.at' = s' ∧ kindAt zs b.1.at' = 0 ∧ room (takeL zs b.1 kind n) + s' = room zs ∧ (⟨b.1.at', s', kind⟩ : Bk) ∈ raw (blocks (takeL zs b.1 kind n)) := by
  have hf : b.1.kind = 0 ∧ (n : Int) ≤ (b.1.size : Int) := by
    have := List.find?_some hb
    simpa [freeP] using this
  have hm : b.1 ∈ raw (blocks zs) := List.mem_map.2 ⟨b, List.mem_of_find?_eq_some hb, rfl⟩
  have hbs := b.2
  by_cases hs : n + 2 ≤ b.1.size
  · have eT : takeL zs b.1 kind n = layL (zs.set (b.1.at' + n) (8 * ((b.1.size : Int) - (n : Int)))) b.1.at' n (8 * (n : Int) + (kind : Int)) := if_pos hs
    have hz' : ∀ j, hz (takeL zs b.1 kind n) j = if j = b.1.at' then 8 * (n : Int) + (kind : Int) else if b.1.at' < j ∧ j < b.1.at' + n then 0 else if j = b.1.at' + n then 8 * ((b.1.size : Int) - (n : Int)) else hz zs j := fun j => by
      rw [eT, hz_layL (by simp; omega) (by omega), hz_set (by omega)]
    have := take_seg (s' := n) (kind := kind) hok hm hf.1 (takeL_len zs b.1 kind n) h2 (.inr hs) h5 (by rw [hz', if_pos rfl]) (fun _ => by rw [hz', if_neg (by omega), if_neg (by omega), if_pos rfl]) (fun j hj => by rw [hz', if_neg (by omega), if_neg (by omega), if_neg (by omega)]) (by omega)
    exact ⟨n, by omega, by omega, this⟩
  · have eT : takeL zs b.1 kind n = layL zs b.1.at' b.1.size (8 * (b.1.size : Int) + (kind : Int)) := if_neg hs
    have hz' : ∀ j, hz (takeL zs b.1 kind n) j = if j = b.1.at' then 8 * (b.1.size : Int) + (kind : Int) else if b.1.at' < j ∧ j < b.1.at' + b.1.size then 0 else hz zs j := fun j => by
      rw [eT, hz_layL (by omega) (by omega)]
    have := take_seg (s' := b.1.size) (kind := kind) hok hm hf.1 (takeL_len zs b.1 kind n) (by omega) (.inl rfl) h5 (by rw [hz', if_pos rfl]) (fun h => by omega) (fun j hj => by rw [hz', if_neg (by omega), if_neg (by omega)]) (by omega)
    exact ⟨b.1.size, by omega, by omega, this⟩

theorem giveB_ok {zs : List Int} {b : Bk} (hok : slabOk zs = true) (hb : b ∈ raw (blocks zs)) (hk : b.kind ≠ 0) :
    slabOk (giveB zs b) = true ∧ room (giveB zs b) = room zs + b.size ∧ ∀ x ∈ raw (blocks zs), x.at' ≠ b.at' → x.kind ≠ 0 → x ∈ raw (blocks (giveB zs b)) := by
  obtain ⟨_, _, _, _, _, _, _, h1, h2, h3, _⟩ := about_eq hok hb hk
  have hbd := (Seg.whole hok).bd b hb
  have hz' : ∀ j, hz (giveB zs b) j = if j = (about zs b).1 then 8 * ((about zs b).2 : Int) + ((0 : Nat) : Int) else if (about zs b).1 < j ∧ j < (about zs b).1 + (about zs b).2 then 0 else hz zs j := fun j => by
    unfold giveB
    rw [hz_layL (by omega) (by omega)]
  exact give_seg hok hb hk (giveB_len zs b) (by rw [hz', if_pos rfl]; simp) (fun j hj => by rw [hz', if_neg (by omega), if_neg (by omega)])
theorem giveL_same {zs : List Int} {a : Int} (h : ∀ b, atB zs a = some b → b.1.kind = 0) : giveL zs a = zs := by
  unfold giveL
  cases hb : atB zs a with
  | none => rfl
  | some b => exact if_pos (h b hb)
theorem giveL_b {zs : List Int} {a : Int} {b : BkOf zs.length} (hb : atB zs a = some b) (hk : b.1.kind ≠ 0) : giveL zs a = giveB zs b.1 := by
  unfold giveL
  rw [hb]
  exact if_neg hk
theorem giveL_ok {zs : List Int} (a : Int) (hok : slabOk zs = true) :
    slabOk (giveL zs a) = true ∧ ∀ x ∈ raw (blocks zs), (x.at' : Int) ≠ a → x.kind ≠ 0 → x ∈ raw (blocks (giveL zs a)) := by
  by_cases h : ∀ b, atB zs a = some b → b.1.kind = 0
  · rw [giveL_same h]
    exact ⟨hok, fun x hx _ _ => hx⟩
  · cases hb : atB zs a with
    | none => exact absurd (by simp [hb]) h
    | some b =>
      have hk : b.1.kind ≠ 0 := fun hk => h (fun b' h' => by rw [hb] at h'; cases h'; exact hk)
      rw [giveL_b hb hk]
      have h := atB_some hb
      have hg := giveB_ok hok (List.mem_map.2 ⟨b, h.2.2.2.2.2, rfl⟩) hk
      exact ⟨hg.1, fun x hx hne hxk => hg.2.2 x hx (by have := h.2.1; omega) hxk⟩
/-- What was taken and is given leaves as much room. -/
theorem give_back {zs : List Int} {a s' kind : Nat} (hok : slabOk zs = true) (hm : (⟨a, s', kind⟩ : Bk) ∈ raw (blocks zs)) (hk : kind ≠ 0) : slabOk (giveL zs a) = true ∧ room (giveL zs a) = room zs + s' := by
  obtain ⟨p, r, e⟩ := List.append_of_mem hm
  have hw := Seg.whole hok
  rw [e] at hw
  obtain ⟨m, h1, h2⟩ := hw.split
  obtain ⟨eb, hg, _⟩ := h2.head
  simp only [Bk.mk.injEq] at eb
  obtain ⟨rfl, rfl, rfl⟩ := eb
  obtain ⟨hp, hf⟩ := (h1.at (At.zero zs)).found hok hg.lt
  have hgv := giveB_ok hok hm hk
  rw [giveL_b hf hk]
  exact ⟨hgv.1, hgv.2.1⟩
theorem newL_ok {n : Nat} (h2 : 2 ≤ n) (hn : n ≤ 2000) : slabOk (newL n) = true ∧ room (newL n) = n := by
  have e : hz (newL n) 0 = 8 * (n : Int) + ((0 : Nat) : Int) := by rw [newL, hz_set (by simp; omega)]; simp
  have hs : Seg (newL n) 0 [⟨0, n, 0⟩] (0 + n) := Seg.one (by rw [newL_len]; omega) h2 (by omega) e
  have hs' : Seg (newL n) 0 [⟨0, n, 0⟩] (newL n).length := by rw [newL_len]; simpa using hs
  obtain ⟨ok, eb⟩ := hs'.slab (by rw [newL_len]; exact hn)
  exact ⟨ok, by rw [room_raw ok, eb]; simp [rroom]⟩
theorem blocks_pos {zs : List Int} (hok : slabOk zs = true) (h2 : 0 < zs.length) : 0 < (places zs).length := by
  rw [places_len hok]
  have := (At.zero zs).good hok h2
  unfold blocks
  rw [blks_yes this]
  simp
theorem room_le (zs : List Int) : room zs ≤ zs.length := by
  unfold room
  split
  · have := roomOf_le zs 0 (Nat.zero_le _)
    unfold blocks
    omega
  · exact Nat.zero_le _

end Go.Proofs.YtpbafjcoomfooaaGreat
