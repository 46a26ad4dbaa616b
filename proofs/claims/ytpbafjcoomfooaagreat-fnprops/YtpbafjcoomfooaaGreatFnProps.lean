/-
  The law FnProps is proved: for every slice of bytes, what is drawn of it and set of a drawn object is its own and looked up, all other names stay, and the heap is right; where it is not set the slab is as it was, or zero; the program's PropSet and Names answer as their models; nothing that was there is written.
-/
import Derived.Test.YtpbafjcoomfooaaGreatRows
import Derived.WalkKit
import Derived.ProofKit
import Derived.OpenShut
import Derived.ShutString
import Derived.ChangeOld
import Derived.Below
import Derived.Deep.RegionWith
import Derived.Deep.RegionHeld3
import Derived.Deep.CutRange
import Derived.Test.YtpbafjcoomfooaaGreatGrpIk
import Derived.Test.YtpbafjcoomfooaaGreatGrpX
import Derived.Test.YtpbafjcoomfooaaGreatGrpO
import Derived.Test.YtpbafjcoomfooaaGreatZShapeQ
import Derived.Test.YtpbafjcoomfooaaGreatGrpD
namespace Go.Proofs.YtpbafjcoomfooaaGreat.fnProps
open Go.ChangeShapes Go.WideShapes Go.ChangeAt Go.RowKit
open Go.ChangeMaps (open_string shut_string)
set_option linter.unusedVariables false

theorem own : ownKnob Tryz.prog.godebug = none := by kernel_rfl
theorem laidOut : laidOutB Tryz.prog = true := by kernel_rfl

/-- WHAT THE WALK IS TOLD OF A SLICE OF INTEGERS THAT CAME IN: it is nil; or it leads to a row of 'cap' cells, the numbers 'zs' (the first 'len' are its elements, the rest its spare room), each fitting its kind. -/
def IsRow (k : IntKind) (w : World) (a : Option Addr) (len cap : Nat) (zs : List Int) : Prop :=
  (a = none ∧ len = 0 ∧ cap = 0 ∧ zs = []) ∨
  ∃ x, a = some x ∧ len ≤ cap ∧ cap ≤ maxLen ∧ zs.length = cap ∧ (∀ i, i < zs.length → w.cell? (x.add i) = some (.int k (zs.getD i 0))) ∧ ∀ n ∈ zs, (Lit.int k n).wf = true

set_option maxRecDepth 100000 in
set_option maxHeartbeats 32000000 in

theorem walk (a0 : Option Addr) (len0 cap0 : Nat) (z0 : List Int) (w : World) (w0 : IsRow .u8 w a0 len0 cap0 z0) :
    Calls Tryz.prog 4 #[.slice a0 len0 cap0] w fun e w' => e = .returned (.bool true) ∧ Below w.heap.size w w' := by
  have hs := src_of w0
  clear w0
  have hlen := hs.1
  by_cases hbig : (1048576 : Int) < (len0 : Int)
  · go_enter Tryz.func4, Tryz.ntmps4
    go_wp2_with (first | (go_at_call 6; go_in))
    go_ret
    exact ⟨rfl, Below.refl _ _⟩
  · have hD := DrawPropSet_ok a0 len0 cap0 _ _ hs
    go_enter Tryz.func4, Tryz.ntmps4
    go_wp2_with (first | (go_at_call 6; go_in))
    refine hD.mono ?_
    rintro e w1 ⟨v, zs, x, y, u, rfl, hO, hl, hx, hy, hu, hK1⟩
    obtain ⟨ao, cp, rfl, hI, _, hcp⟩ := hO
    have hl' : zs.length ≤ 1048576 := by omega
    have hrl := propC_len zs x y u
    obtain ⟨rs, hrs⟩ : ∃ rs, (propC zs x y u).1 = rs := ⟨_, rfl⟩
    obtain ⟨ok, hok⟩ : ∃ ok, (propC zs x y u).2 = ok := ⟨_, rfl⟩
    have HPC : Hid (propC zs x y u = (rs, ok)) := by rw [Hid, ← hrs, ← hok]
    have hP1 := fun (w' : World) (hw' : Ints w' ao zs) => impl_PropSet_ok w' ao cp zs x y u hw' hl' hx hy hu
    have hP2 := fun (w' : World) (hw' : Ints w' ao zs) => (spec_PropSet_ok w' ao cp zs x y u hw' hl' hx hy hu).mono (R' := fun e w'' => ∃ v, e = .returned (.tuple #[.agg #[v], .bool (propC zs x y u).2]) ∧ OwnR w'' w'.heap.size v (propC zs x y u).1 ∧ Kept w' w'') (fun _ _ ⟨v, h1, h2, h3, _⟩ => ⟨v, h1, h2, h3⟩)
    rw [hrs, hok] at hP1 hP2
    rw [hrs] at hrl
    have hrl' : rs.length ≤ 1048576 := by omega
    obtain ⟨ts, htl, hN1, hN2⟩ := Names_both zs x hl' hx
    have ka : Kept w1 (w1.alloc (.cells #[.slice ao zs.length cp] 26)) := Kept.alloc (Below.refl _ _) _
    have xs := Cells.new w1 26 #[.slice ao zs.length cp]
    have hIa := hI.kept ka
    have hKa := hK1.trans ka
    have hH1 := hP1 _ hIa
    have HN1 : Hid _ := hN1
    have HN2 : Hid _ := hN2
    clear hD ka hI hK1 hP1 hrs hok hrl hN1 hN2
    go_wp2_with fail
    refine hH1.mono ?_
    rintro e w2 ⟨vu, rfl, hOu, hk2⟩
    obtain ⟨ua, up, rfl, hIu, _, hup⟩ := hOu.ownI
    have x2 := xs.kept hk2
    have hI2 := hIa.kept hk2
    have K2 := hKa.trans hk2
    clear hH1 xs hIa hKa hk2 hOu
    have kb : Kept w2 (w2.alloc (.cells #[.slice ua rs.length up] 26)) := Kept.alloc (Below.refl _ _) _
    have xu := Cells.new w2 26 #[.slice ua rs.length up]
    have x3 := x2.kept kb
    have hI3 := hI2.kept kb
    have hIu3 := hIu.kept kb
    have K3 := K2.trans kb
    have c3 := x3.cell 0
    have hH2 := hP2 _ hI3
    clear x2 hI2 hIu K2 kb hP2
    go_wp2_with fail
    obtain ⟨W3, hW3⟩ : ∃ W3, w2.alloc (.cells #[.slice ua rs.length up] 26) = W3 := ⟨_, rfl⟩
    obtain ⟨BZ, hBZ⟩ : ∃ BZ, w1.heap.size = BZ := ⟨_, rfl⟩
    obtain ⟨BU, hBU⟩ : ∃ BU, w2.heap.size = BU := ⟨_, rfl⟩
    rw [hW3] at xu x3 hI3 hIu3 K3 hH2
    rw [hBU] at xu
    rw [hBZ] at x3
    simp only [hW3, hBZ, hBU]
    clear c3 hW3 hBZ hBU
    refine hH2.mono ?_
    rintro e w4 ⟨vw, rfl, hOw, hk4⟩
    obtain ⟨wa, wp, rfl, hIw, _, _⟩ := hOw.ownI
    have kc : Kept w4 (w4.alloc (.cells #[.slice wa rs.length wp] 26)) := Kept.alloc (Below.refl _ _) _
    have xw := Cells.new w4 26 #[.slice wa rs.length wp]
    have x5 := (x3.kept hk4).kept kc
    have xu5 := (xu.kept hk4).kept kc
    have hI5 := (hI3.kept hk4).kept kc
    have hIu5 := (hIu3.kept hk4).kept kc
    have hIw5 := hIw.kept kc
    have K5 := (K3.trans hk4).trans kc
    have n1 : (ok != ok) = false := by simp
    clear hH2 hOw x3 xu hI3 hIu3 hIw K3 hk4 kc
    go_wp2_with fail
    obtain ⟨W5, hW5⟩ : ∃ W5, w4.alloc (.cells #[.slice wa rs.length wp] 26) = W5 := ⟨_, rfl⟩
    obtain ⟨BW, hBW⟩ : ∃ BW, w4.heap.size = BW := ⟨_, rfl⟩
    rw [hW5] at xw x5 xu5 hI5 hIu5 hIw5 K5
    rw [hBW] at xw
    simp only [hW5, hBW]
    clear hW5 hBW
    go_cut [62] from 42 to 61 (fun s62 wx => s62 = .bool false ∧ Kept W5 wx)
    case first =>
      have kd : Kept W5 W5.drew := (Below.refl _ W5).drew
      have cz := (x5.kept kd).cell 0
      have cu := (xu5.kept kd).cell 0
      have cw := (xw.kept kd).cell 0
      have hS := sameInts_ok _ ua wa up wp rs (hIu5.kept kd) (hIw5.kept kd) hrl'
      go_region_held3 (fun w' => w'.cell? ⟨BZ, 0, none⟩ = some (.slice ao zs.length cp) ∧ w'.cell? ⟨BU, 0, none⟩ = some (.slice ua rs.length up) ∧ w'.cell? ⟨BW, 0, none⟩ = some (.slice wa rs.length wp))
        (first
          | exact ⟨by assumption, by assumption, by assumption⟩
          | go_keep)
        (first
          | (go_at_call 10; refine hS.mono ?_; rintro e w6 ⟨rfl, hk6⟩; have kA := kd.trans hk6; have cz6 := (x5.kept kA).cell 0; have cu6 := (xu5.kept kA).cell 0; have cw6 := (xw.kept kA).cell 0)
          | (go_at_call 22; refine (HN1.out _ _ _ (hI5.kept kA)).mono ?_; rintro e w7 ⟨v7, rfl, hO7, hk7⟩; obtain ⟨a7, c7, rfl, hA7⟩ := hO7.at; have kB := kA.trans hk7; have cz7 := (x5.kept kB).cell 0; have cu7 := (xu5.kept kB).cell 0; have cw7 := (xw.kept kB).cell 0)
          | (go_at_call 23; refine (HN2.out _ _ _ (hI5.kept kB)).mono ?_; rintro e w8 ⟨v8, rfl, hO8, hk8⟩; obtain ⟨a8, c8, rfl, hA8⟩ := hO8.at; have kC := kB.trans hk8; have cz8 := (x5.kept kC).cell 0; have cu8 := (xu5.kept kC).cell 0; have cw8 := (xw.kept kC).cell 0)
          | (go_at_call 21; refine (sameTexts_ok _ a7 a8 c7 c8 ts (hA7.kept hk8) hA8 htl).mono ?_; rintro e w9 ⟨rfl, hk9⟩; have kD := kC.trans hk9; have cz9 := (x5.kept kD).cell 0; have cu9 := (xu5.kept kD).cell 0; have cw9 := (xw.kept kD).cell 0))
      all_goals (
        go_wp2_with fail
        go_meet
        exact ⟨rfl, kD⟩)
    case rest =>
    obtain ⟨rfl, hkc⟩ := hcut
    have x13 := x5.kept hkc
    have xu13 := xu5.kept hkc
    have hI13 := hI5.kept hkc
    have hIu13 := hIu5.kept hkc
    have K13 := K5.trans hkc
    have cu13 := xu13.cell 0
    have cz13 := x13.cell 0
    clear x5 xu5 xw hI5 hIu5 hIw5 K5 hkc n1 HN1 HN2 htl
    cases ok with
    | false =>
      have hrs := prop_not HPC.out
      by_cases h0 : rs.length = 0
      · rw [h0] at cu13
        go_wp2_with fail
        go_ret
        exact ⟨rfl, K13⟩
      · have hrz : rs = zs := by
          rcases hrs with h | h
          · rw [h] at h0; simp at h0
          · exact h
        subst hrz
        have h1 : ((rs.length : Int) == 0) = false := by rw [beq_eq_false_iff_ne]; omega
        have hS2 := sameInts_ok _ ua ao up cp rs hIu13 hI13 hrl'
        go_wp2_with fail
        refine hS2.mono ?_
        rintro e w14 ⟨rfl, hk14⟩
        go_wp2_with fail
        go_ret
        exact ⟨rfl, K13.trans hk14⟩
    | true =>
      obtain ⟨ms, us, hh, hown, hlook, hul, hpre, hM1, hM2⟩ := prop_law hl' hx HPC.out
      have HM1 : Hid _ := hM1
      have HM2 : Hid _ := hM2
      have HPre : Hid _ := hpre
      have hOw := impl_Own_ok _ ua up rs x y hIu13 hrl' hx hy
      rw [hown] at hOw
      clear hM1 hM2 hpre hown HPC
      go_wp2_with fail
      refine hOw.mono ?_
      rintro e w14 ⟨rfl, hk14⟩
      have x14 := x13.kept hk14
      have xu14 := xu13.kept hk14
      have hI14 := hI13.kept hk14
      have hIu14 := hIu13.kept hk14
      have K14 := K13.trans hk14
      have cu14 := xu14.cell 0
      have hLk := impl_Look_ok _ ua up rs x y hIu14 hrl' hx hy
      rw [hlook] at hLk
      clear hOw hk14 x13 xu13 hI13 hIu13 K13 cu13 cz13 hlook
      go_wp2_with fail
      refine hLk.mono ?_
      rintro e w15 ⟨rfl, hk15⟩
      have x15 := x14.kept hk15
      have xu15 := xu14.kept hk15
      have hI15 := hI14.kept hk15
      have hIu15 := hIu14.kept hk15
      have K15 := K14.trans hk15
      have cu15 := xu15.cell 0
      have hHk := impl_HeapOk_ok _ ua up rs hIu15 hrl'
      rw [hh] at hHk
      have n2 : (u != u) = false := by simp
      clear hLk hk15 x14 xu14 hI14 hIu14 K14 cu14
      go_wp2_with fail
      refine hHk.mono ?_
      rintro e w16 ⟨rfl, hk16⟩
      have x16 := x15.kept hk16
      have xu16 := xu15.kept hk16
      have hI16 := hI15.kept hk16
      have hIu16 := hIu15.kept hk16
      have K16 := K15.trans hk16
      have cz16 := x16.cell 0
      have hMa := HM1.out _ ao cp hI16
      clear hHk hk16 x15 xu15 hI15 hIu15 K15 cu15
      go_wp2_with fail
      refine hMa.mono ?_
      rintro e w17 ⟨v17, rfl, hO17, hml, hk17⟩
      obtain ⟨a17, c17, rfl, hA17⟩ := hO17.at
      have xu17 := xu16.kept hk17
      have cu17 := xu17.cell 0
      have hIu17 := hIu16.kept hk17
      have K17 := K16.trans hk17
      have hMb := HM2.out _ ua up hIu17
      clear hMa x16 xu16 hI16 hIu16 K16 cz16
      go_wp2_with fail
      refine hMb.mono ?_
      rintro e w18 ⟨v18, rfl, hO18, hk18⟩
      obtain ⟨a18, c18, rfl, hc18, hm18, hA18⟩ := hO18.capd
      have K18 := K17.trans hk18
      have hA17' := hA17.kept hk18
      have hA18' : StrA w18 a18 ms := fun j t ht => hA18 j t (HPre.out j t ht)
      have g1 : (ms.length : Int) ≤ (us.length : Int) := by omega
      have g2 : (us.length : Int) ≤ (ms.length : Int) + 1 := by omega
      have g3 : (ms.length : Int) ≤ (c18 : Int) := by omega
      have g4 : ms.length ≤ c18 := by omega
      have wr : IntKind.i64.wrap ((ms.length : Int) + 1) = (ms.length : Int) + 1 := by rw [IntWalk.i64_left, IntWalk.wrap64_in _ (by omega)]
      have hST := fun (cc : Nat) => sameTexts_ok w18 a18 a17 cc c17 ms hA18' hA17' hml
      clear hMb HPre hul HM1 HM2
      go_wp2_with fail
      refine (hST _).mono ?_
      rintro e w19 ⟨rfl, hk19⟩
      go_wp2_with fail
      go_ret
      exact ⟨rfl, K18.trans hk19⟩

set_option maxRecDepth 100000 in
theorem lifted (os : Os) (started : os.Started) (H : Type) (enc : TypeId × Value → H) :
    ReturnsInHanded {} Tryz.checked os 4 .any (Rows.fnPropsSpec.pre6 enc Tryz.prog Tryz.f4 Rows.fnPropsRow.domain false) (Rows.fnPropsSpec.post enc Tryz.prog Tryz.f4 false true false false) := by
  refine returnsInHanded_of_change (C := Tryz.checked) own started (by kernel_rfl) Tryz.func4
    (ChangeSpec.witness6 (enc := enc) (C := Tryz.checked) false ⟨#[], #[.slice none 0 0], []⟩ 8 (by kernel_rfl) (by kernel_rfl) (by kernel_rfl) (by kernel_rfl)) ?_
  intro W base args ds gs before hval0 hW hcnd _
  have hval : ∀ (j : Nat) t v, Tryz.f4.params[j]? = some t → args[j]? = some v → Value.okWide Tryz.prog W .any base t v := hval0
  have hW' := hW
  obtain ⟨p, q, hA0, hV, rfl, hfz, hnd⟩ := hW
  have hA : DataW.TrodAll enc Tryz.prog W 0 (fun _ => true) true Tryz.f4.params.toList args.toList ds p := hA0
  rw [Tryz.params4] at hA hval
  obtain ⟨v0, vs0, d0, ds0, p0, q0, hargs, rfl, rfl, h0, r0⟩ := trodAll_cons hA
  obtain ⟨rfl, rfl, rfl⟩ := trodAll_nil r0
  obtain rfl : args = #[v0] := by cases args; simp_all
  obtain ⟨rfl, rfl⟩ := trodVars_none hV
  obtain ⟨a0, len0, cap0, rfl⟩ := okWide_slice Tryz.underlying22 (hval 0 22 v0 rfl rfl)
  have k0 := h0
  have lt0 : ∀ x ∈ p0, x.block < W.heap.size := by obtain ⟨m, hm⟩ := k0; exact DataW.trod_lt m _ _ _ hm
  obtain ⟨z0, w0⟩ : ∃ zs, IsRow .u8 W a0 len0 cap0 zs := by
    obtain ⟨fuel, hf⟩ := h0
    rcases open_ints Tryz.underlying22 Tryz.underlying5 (by kernel_rfl) hf with ⟨hcs, _⟩ | ⟨x, l, c, zs, hcs, _, hl, hm, hz, _, hcell, hwz⟩
    · simp [Value.cells] at hcs
      obtain ⟨rfl, rfl, rfl⟩ := hcs
      exact ⟨[], .inl ⟨rfl, rfl, rfl, rfl⟩⟩
    · simp [Value.cells] at hcs
      obtain ⟨rfl, rfl, rfl⟩ := hcs
      exact ⟨zs, .inr ⟨_, rfl, hl, hm, by simpa using hz, hcell, hwz⟩⟩
  clear hA0 hval0
  refine (walk a0 len0 cap0 z0 W w0).mono fun e W' ⟨he, bel⟩ => ?_
  subst he
  exact ⟨_, rfl, _, _, _, [], _, [], hW', trodAll_mk1 (shut_bool Tryz.underlying4 _), (trodAll_cons_mk (Below.trod laidOut (by kernel_rfl) (of_decide_eq_true (by kernel_rfl)) k0 bel lt0) trodAll_mk0), rfl, bel.frame _, fun h => by cases h⟩

theorem over : Rows.fnPropsRow.holds Tryz.pinned (OpenSpec.ofChange Rows.fnPropsSpec) :=
  OpenClaim.holds_of_wide 4 Tryz.f4 rfl rfl rfl rfl rfl rfl rfl ⟨rfl, rfl, rfl, rfl, rfl⟩ rfl rfl rfl rfl rfl (by kernel_rfl) Tryz.func4 (by kernel_rfl)
    (of_decide_eq_true (by kernel_rfl)) (by unfold Func.isWrapper; first | (rw [if_pos (by decide +kernel)]; kernel_rfl) | (rw [if_neg (by decide +kernel)]; exact ⟨rfl, rfl⟩))
    (fun os started H enc _ => lifted os started H enc)

theorem proved : Rows.FnPropsSaid := over
#print axioms proved
end Go.Proofs.YtpbafjcoomfooaaGreat.fnProps
