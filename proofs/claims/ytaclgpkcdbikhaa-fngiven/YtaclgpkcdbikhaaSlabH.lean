/-
  The contracts of the model of Give: l2Give and Give.
-/
import Derived.Test.YtaclgpkcdbikhaaSlabG
import Derived.Test.YtaclgpkcdbikhaaSlabM
namespace Go.Proofs.Ytaclgpkcdbikhaa
open Go.RowKit
attribute [local go_sem] Plain.and7

/-- Noughts from place a up to j. -/
def zeroTo (zs : List Int) (a j : Nat) : List Int := sets zs a (List.replicate (j - a) 0)
theorem zeroTo_len (zs : List Int) (a j : Nat) : (zeroTo zs a j).length = zs.length := by simp [zeroTo, sets_len]
theorem zeroTo_succ (zs : List Int) {a j : Nat} (h : a ≤ j) : (zeroTo zs a j).set j 0 = zeroTo zs a (j + 1) := by
  unfold zeroTo
  rw [show j + 1 - a = (j - a) + 1 by omega, List.replicate_succ', sets_snoc, List.length_replicate, show a + (j - a) = j by omega]
theorem zeroTo_lay (zs : List Int) (a s : Nat) (h : Int) : (zeroTo zs a (a + s)).set a h = layL zs a s h := by
  unfold zeroTo layL
  rw [show a + s - a = s by omega]

set_option maxHeartbeats 8000000 in
set_option maxRecDepth 100000 in
theorem l2Give_ok (w : World) (g cap : Nat) (zs : List Int) (b : Bk) (hR : Row w g zs) (hok : slabOk zs = true) (hb : b ∈ raw (blocks zs)) (hk : b.kind ≠ 0) :
    Calls Try.prog 51 #[.agg #[.slice (some ⟨g, 0, none⟩) zs.length cap], .int .i64 (b.at' : Nat)] w fun e w' =>
      e = .returned (.agg #[.slice (some ⟨g, 0, none⟩) zs.length cap]) ∧ Row w' g (giveB zs b) ∧ GS g w w' := by
  have hlen := slabOk_len hok
  have hgb : Good zs b.at' ∧ b.size = sz zs b.at' ∧ b.kind = kd zs b.at' := by
    obtain ⟨y, hy, rfl⟩ := List.mem_map.1 hb
    exact blks_mem zs 0 y hy
  obtain ⟨pre, p', l, r', hpre, hab1, hab2, hle1, hle2, hle3, _⟩ := about_eq hok hb hk
  have HA1 : Hid ((about zs b).1 = (pre.foldl (stp b.at' (b.at' + b.size)) (b.at', b.size)).1) := hab1
  have HA2 : Hid ((about zs b).1 + (about zs b).2 = toB zs (b.at' + b.size)) := hab2
  have HP : Hid (Seg zs 0 pre b.at') := hpre
  have hg := hgb.1
  have hsI := hg.szI
  have hble := hg.le
  have hs2 := hg.sz2
  rw [← hgb.2.1] at hsI hble hs2
  have HG : Hid (Good zs b.at' ∧ b.size = sz zs b.at' ∧ b.kind = kd zs b.at') := hgb
  have b0 := (Cells.new w 26 #[.slice (some ⟨g, 0, none⟩) zs.length cap]).alloc (.cells #[.slice none 0 0] 26)
  have b1 := Cells.new (w.alloc (.cells #[.slice (some ⟨g, 0, none⟩) zs.length cap] 26)) 26 #[.slice none 0 0]
  have k0 : Kept w ((w.alloc (.cells #[.slice (some ⟨g, 0, none⟩) zs.length cap] 26)).alloc (.cells #[.slice none 0 0] 26)) := (Kept.alloc (Below.refl _ _) _).alloc _
  have hR0 := hR.kept k0
  have lg := hR.lt
  simp only [World.size_alloc] at b1
  have HO : Hid (slabOk zs = true) := hok
  have HB : Hid (b ∈ raw (blocks zs)) := hb
  clear hok hb hk hab1 hab2 hpre hgb hg
  obtain ⟨e, he⟩ : ∃ e, b.at' + b.size = e := ⟨_, rfl⟩
  have heI : (b.at' : Int) + hz zs b.at' / 8 = (e : Int) := by omega
  have hat := hR0.cell (j := b.at') (by omega)
  obtain ⟨tb, htb⟩ : ∃ tb, decide (e < zs.length ∧ kd zs e = 0) = tb := ⟨_, rfl⟩
  have hto : toB zs e = if tb then e + sz zs e else e := by rw [← htb]; unfold toB; by_cases h : e < zs.length ∧ kd zs e = 0 <;> simp [h]
  have hge : e < zs.length → Good zs e := by
    intro h
    have := (HP.out.at (At.zero zs)).next HG.out.1
    rw [← HG.out.2.1, he] at this
    exact this.good HO.out h
  go_enter Try.func51, Try.ntmps51
  go_upto_region 2 with (first | (go_at_call 44; refine (l2Size_ok _ _).mono ?_; rintro e wx ⟨rfl, rfl⟩) | (go_at_call 45; refine (l2Kind_ok _ _).mono ?_; rintro e wx ⟨rfl, rfl⟩))
  go_cut [31] from 18 to 31 (fun s wx => s = .bool tb ∧ wx = (w.alloc (.cells #[.slice (some ⟨g, 0, none⟩) zs.length cap] 26)).alloc (.cells #[.slice none 0 0] 26))
  case first =>
    have HT : Hid (toB zs e = if tb then e + sz zs e else e) := hto
    clear hto
    by_cases hel : e < zs.length
    · have hce := hR0.cell (j := e) hel
      have hge' := hge hel
      have hkI := kdI zs e
      have htb' : (hz zs e % 8 == 0) = tb := by rw [← htb, Bool.eq_iff_iff]; simp [hel]; omega
      clear htb hge hge' hkI
      go_wp2_with (first | (go_at_call 44; refine (l2Size_ok _ _).mono ?_; rintro e wx ⟨rfl, rfl⟩) | (go_at_call 45; refine (l2Kind_ok _ _).mono ?_; rintro e wx ⟨rfl, rfl⟩))
      all_goals (go_meet; exact ⟨by first | rfl | (simp_all; done), rfl⟩)
    · obtain rfl : false = tb := by rw [← htb]; simp [hel]
      have hel' : ¬ (e : Int) < (zs.length : Int) := by omega
      clear htb hge
      go_wp2_with (first | (go_at_call 44; refine (l2Size_ok _ _).mono ?_; rintro e wx ⟨rfl, rfl⟩) | (go_at_call 45; refine (l2Kind_ok _ _).mono ?_; rintro e wx ⟨rfl, rfl⟩))
      go_meet
      exact ⟨rfl, rfl⟩
  case rest =>
  obtain ⟨rfl, rfl⟩ := hcut
  obtain ⟨tt, hto'⟩ : ∃ tt, toB zs e = tt := ⟨_, rfl⟩
  go_upto_if 31 with fail
  go_cut [6] from 32 to 39 (fun s wx => s = .int .i64 (tt : Nat) ∧ wx = (w.alloc (.cells #[.slice (some ⟨g, 0, none⟩) zs.length cap] 26)).alloc (.cells #[.slice none 0 0] 26))
  case first =>
    cases tb with
    | true =>
      have hel : e < zs.length := by simp at htb; exact htb.1
      have hce := hR0.cell (j := e) hel
      have hge' := hge hel
      have hsz := hge'.szI
      have hszle := hge'.le
      have htt2 : tt ≤ 2000 := by rw [← hto', hto]; simp; omega
      have hen : (e : Int) + hz zs e / 8 = (tt : Int) := by rw [← hto', hto]; simp; omega
      clear htb hge hge' hto hto' hsz
      go_wp2_with (first | (go_at_call 44; refine (l2Size_ok _ _).mono ?_; rintro e wx ⟨rfl, rfl⟩) | (go_at_call 45; refine (l2Kind_ok _ _).mono ?_; rintro e wx ⟨rfl, rfl⟩))
      go_meet
      exact ⟨by first | rfl | go_num, rfl⟩
    | false =>
      obtain rfl : tt = e := by rw [← hto', hto]; simp
      clear htb hge hto
      go_wp2_with (first | (go_at_call 44; refine (l2Size_ok _ _).mono ?_; rintro e wx ⟨rfl, rfl⟩) | (go_at_call 45; refine (l2Kind_ok _ _).mono ?_; rintro e wx ⟨rfl, rfl⟩))
      go_meet
      exact ⟨rfl, rfl⟩
  case rest =>
  obtain ⟨rfl, rfl⟩ := hcut
  have hA2 := HA2.out
  rw [he, hto'] at hA2
  have hA1 := HA1.out
  rw [he] at hA1
  obtain ⟨fr, hfr⟩ : ∃ fr, (about zs b).1 = fr := ⟨_, rfl⟩
  obtain ⟨sl, hsl⟩ : ∃ sl, (about zs b).2 = sl := ⟨_, rfl⟩
  rw [hfr, hsl] at hA2 hle2 hle3
  rw [hfr] at hA1 hle1
  have HV : Hid (giveB zs b = layL zs fr sl (8 * (sl : Int) + ((0 : Nat) : Int))) := by show giveB zs b = _; rw [giveB, hfr, hsl]
  have HF : Hid (fr = (pre.foldl (stp b.at' e) (b.at', b.size)).1) := hA1
  have HE : Hid (b.at' + b.size = e) := he
  have hfb : fr + 2 ≤ tt := by omega
  have hslt : (tt : Int) - (fr : Int) = (sl : Int) := by omega
  have HSL : Hid (fr + sl = tt) := hA2
  clear hto htb hge hto' hA1 hA2 hfr hsl he heI hat HA1 HA2
  obtain ⟨W0, hW0⟩ : ∃ W0, (w.alloc (.cells #[.slice (some ⟨g, 0, none⟩) zs.length cap] 26)).alloc (.cells #[.slice none 0 0] 26) = W0 := ⟨_, rfl⟩
  go_wp2_with fail
  rw [hW0] at b0 b1 k0 hR0 ⊢
  clear hW0
  have c0 := b0.cell 0
  go_loopw [5, 7] (fun f i wr => wr = W0 ∧ ∃ (k : Nat) (pk : List Bk), i = .int .i64 k ∧ k ≤ b.at' ∧ Seg zs 0 pk k ∧ f = .int .i64 ((pk.foldl (stp b.at' e) (b.at', b.size)).1 : Nat)) (fun _ i _ => b.at' - (intOf i).toNat)
  case atStart => exact ⟨by first | rfl | trivial, 0, [], rfl, Nat.zero_le _, Seg.nil 0, rfl⟩
  case round =>
    obtain ⟨rfl, k, pk, rfl, hk, hseg, rfl⟩ := hrel
    by_cases hlt : k < b.at'
    · obtain ⟨q, hq1, hq2⟩ := hseg.sub HP.out hk
      obtain ⟨hgk, hsub⟩ : Good zs k ∧ k + sz zs k ≤ b.at' := by
        cases q with
        | nil => have := hq2.endN; omega
        | cons y q => obtain ⟨_, hg, hs⟩ := hq2.head; exact ⟨hg, hs.le⟩
      have hck := hR0.cell (j := k) (by have := hgk.lt; omega)
      have hs := hgk.szI
      have hs2 := hgk.sz2
      have hkk := kdI zs k
      have HN : Hid (Seg zs 0 (pk ++ [(⟨k, sz zs k, kd zs k⟩ : Bk)]) (k + sz zs k)) := hseg.app (Seg.cons hgk (.nil _))
      have hstp : (pk ++ [(⟨k, sz zs k, kd zs k⟩ : Bk)]).foldl (stp b.at' e) (b.at', b.size) = stp b.at' e (pk.foldl (stp b.at' e) (b.at', b.size)) ⟨k, sz zs k, kd zs k⟩ := by rw [List.foldl_append]; rfl
      have hkl : (k : Int) < (zs.length : Int) := by omega
      have HE' := HE.out
      by_cases hm : k + sz zs k = b.at' ∧ kd zs k = 0
      · have HS : Hid ((pk ++ [(⟨k, sz zs k, kd zs k⟩ : Bk)]).foldl (stp b.at' e) (b.at', b.size) = (k, (pk.foldl (stp b.at' e) (b.at', b.size)).2 + sz zs k)) := by
          show _ = _
          rw [hstp, stp, if_neg (by simp; omega), if_pos ⟨hm.2, hm.1⟩]
        have t1 : ((k : Int) + hz zs k / 8 == (b.at' : Int)) = true := by simp; omega
        have t2 : (hz zs k % 8 == 0) = true := by simp; omega
        have HQ : Hid ((sz zs k : Int) = hz zs k / 8) := hs
        have hb1 : hz zs k / 8 ≤ 2000 := by omega
        have hb2 : 2 ≤ hz zs k / 8 := by omega
        clear hm hstp hs hkk hseg hq1 hq2 hgk
        go_wp2_with (first | (go_at_call 44; refine (l2Size_ok _ _).mono ?_; rintro e wx ⟨rfl, rfl⟩) | (go_at_call 45; refine (l2Kind_ok _ _).mono ?_; rintro e wx ⟨rfl, rfl⟩))
        go_roundw
        case rel => exact ⟨by first | rfl | trivial, k + sz zs k, _, by rw [← HQ.out]; go_num, hsub, HN.out, by rw [HS.out]⟩
        case measure => simp [intOf]; have := HQ.out; omega
      · have HS : Hid ((pk ++ [(⟨k, sz zs k, kd zs k⟩ : Bk)]).foldl (stp b.at' e) (b.at', b.size) = pk.foldl (stp b.at' e) (b.at', b.size)) := by
          show _ = _
          rw [hstp, stp_id _ (by simp; omega) (by simp; omega)]
        have HQ : Hid ((sz zs k : Int) = hz zs k / 8) := hs
        have hb1 : hz zs k / 8 ≤ 2000 := by omega
        have hb2 : 2 ≤ hz zs k / 8 := by omega
        rcases (show ¬ (k + sz zs k = b.at') ∨ (k + sz zs k = b.at' ∧ ¬ kd zs k = 0) by omega) with h | ⟨h, h'⟩
        · have t1 : ((k : Int) + hz zs k / 8 == (b.at' : Int)) = false := by simp; omega
          clear hm h hstp hs hkk hseg hq1 hq2 hgk
          go_wp2_with (first | (go_at_call 44; refine (l2Size_ok _ _).mono ?_; rintro e wx ⟨rfl, rfl⟩) | (go_at_call 45; refine (l2Kind_ok _ _).mono ?_; rintro e wx ⟨rfl, rfl⟩))
          go_roundw
          case rel => exact ⟨by first | rfl | trivial, k + sz zs k, _, by rw [← HQ.out]; go_num, hsub, HN.out, by rw [HS.out]⟩
          case measure => simp [intOf]; have := HQ.out; omega
        · have t1 : ((k : Int) + hz zs k / 8 == (b.at' : Int)) = true := by simp; omega
          have t2 : (hz zs k % 8 == 0) = false := by simp; omega
          clear hm h h' hstp hs hkk hseg hq1 hq2 hgk
          go_wp2_with (first | (go_at_call 44; refine (l2Size_ok _ _).mono ?_; rintro e wx ⟨rfl, rfl⟩) | (go_at_call 45; refine (l2Kind_ok _ _).mono ?_; rintro e wx ⟨rfl, rfl⟩))
          go_roundw
          case rel => exact ⟨by first | rfl | trivial, k + sz zs k, _, by rw [← HQ.out]; go_num, hsub, HN.out, by rw [HS.out]⟩
          case measure => simp [intOf]; have := HQ.out; omega
    · obtain rfl : k = b.at' := by omega
      obtain rfl : pre = pk := by
        obtain ⟨q, hq1, hq2⟩ := hseg.sub HP.out hk
        rw [hq2.end0, List.append_nil] at hq1
        exact hq1
      rw [← HF.out]
      clear hseg hk
      go_wp2_with fail
      go_loopw [8] (fun i wr' => ∃ j : Nat, i = .int .i64 j ∧ fr ≤ j ∧ j ≤ tt ∧ Row wr' g (zeroTo zs fr j) ∧ GS g wr wr') (fun i _ => tt - (intOf i).toNat)
      case atStart => exact ⟨fr, rfl, Nat.le_refl _, by omega, by simpa [zeroTo, sets] using hR0, GS.refl _ _⟩
      case round =>
        obtain ⟨j, rfl, hj1, hjm, hRj, hGj⟩ := hrel
        have z0 := (b0.grown hGj.1 (by intro e; simp at e; omega)).cell 0
        have zb1 := b1.grown hGj.1 (by intro e; simp at e; omega)
        have z1 := zb1.cell 0
        have fz1 := zb1.frozen 0
        by_cases hjl : j < tt
        · have hcj := hRj.cell (j := j) (by rw [zeroTo_len]; omega)
          have hfj := hRj.frozen j
          have HR : Hid _ := hRj.set (k := j) (v := 0) (by rw [zeroTo_len]; omega) ⟨by omega, by omega⟩
          have HG' : Hid _ := GS.set (k := j) hGj (.int .i64 0)
          clear hRj hGj c0
          go_wp2
          go_roundw
          case rel => exact ⟨j + 1, by go_num, by omega, by omega, by rw [← zeroTo_succ _ hj1]; exact HR.out, HG'.out⟩
          case measure => simp [intOf]; omega
        · obtain rfl : tt = j := by omega
          have hcj := hRj.cell (j := fr) (by rw [zeroTo_len]; omega)
          have hfj := hRj.frozen fr
          have zb1' := zb1.other (p := ⟨g, fr, none⟩) (by intro h; simp at h; omega) (.int .i64 (8 * (sl : Int)))
          have z1' := zb1'.cell 0
          have fz1' := zb1'.frozen 0
          have HR : Hid _ := hRj.set (k := fr) (v := 8 * (sl : Int)) (by rw [zeroTo_len]; omega) ⟨by omega, by omega⟩
          have HG' : Hid _ := GS.set (k := fr) hGj (.int .i64 (8 * (sl : Int)))
          clear hRj hGj c0
          go_wp2
          have q := (zb1'.set1 (.slice (some ⟨g, 0, none⟩) zs.length cap)).cell 0
          refine bodyPost_ret (v := .agg #[.slice (some ⟨g, 0, none⟩) zs.length cap]) (by simp [results, Try.results51, go_sem, q]) rfl ⟨rfl, ?_, GS.setNew (GS.trans (GS.any k0 g) HG'.out) (by simp) _⟩
          rw [HV.out, ← zeroTo_lay, HSL.out, show (8 * (sl : Int) + ((0 : Nat) : Int)) = 8 * (sl : Int) by simp]
          exact Row.other (show Row _ g _ from HR.out) (by intro h; simp at h <;> omega) _
end Go.Proofs.Ytaclgpkcdbikhaa
