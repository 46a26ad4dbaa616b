/-
  The contract of the program's Look.
-/
import Derived.Test.YtlgaamhjpkkjmaaLookD
namespace Go.Proofs.Ytlgaamhjpkkjmaa
open Go.RowKit Go.Shelf
attribute [local go_sem] Oper.semAt_some

theorem grown_put {a b : World} {l : Nat} (h : a.grownBy b (some l)) (o : Obj) : a.grownBy (b.putObj l o) (some l) := grown_trans h (grownBy_putObj' b l o)
theorem CelsAt.put {W : World} {l : Nat} {r : Loop} {ao : Option Addr} {zs : List Int} {ps : List Nat} (h : CelsAt W ao zs ps) (hl : W.heap[l]? = some (.loop r)) (o : Obj) : CelsAt (W.putObj l o) ao zs ps := by
  intro i p hp
  obtain ⟨b, off, e, hc⟩ := h i p hp
  refine ⟨b, off, e, fun q hq => ?_⟩
  have h1 := hc q hq
  have hb : b ≠ l := by
    rintro rfl
    obtain ⟨u, hu⟩ : ∃ u, (celC zs p)[q]? = some u := ⟨_, Array.getElem?_eq_getElem (by simpa using hq)⟩
    rw [hu] at h1
    simp [World.cell?, hl] at h1
  rw [← h1]
  exact World.cell?_of_block (w := W) (World.putObj_heap_other hb)
theorem getV_has {zs : List Int} {name v v' : Int} {a : Nat} {ps : List Nat} (ha : v / 8 = a) (h : All zs (hz zs (a + 2)) ps v') : getV zs name ps = pairV (hasO zs name v) := by
  unfold hasO
  rw [plc_is ha, h.cell (name := name)]
  cases hn : namedP zs name ps with
  | none => rw [getV_none hn]; simp [pairV]
  | some q => rw [getV_some hn]; simp [pairV]

theorem round_told2 {m : Nat} {P : Program} {l : Nat} {r : Loop} {args : Array Value} {W : World} {R : Ending → World → Prop} (hl : W.heap[l]? = some (.loop r)) (hr : r.state = .ready) (hs : args.size = r.params.size)
    (h : r.assign.wpIn (Fence.wide.inRound l) m P (Exit.then (fun a1 W1 => W1.heap[l]? = some (.loop r) ∧ ∀ (rb : Loop) (WB : World), W1.putObj l (.loop rb) = WB → WB.heap[l]? = some (.loop rb) → r.body.wpIn (Fence.wide.inRound l) m P (fun e _ W3 => W3.heap[l]? = some (.loop rb) ∧
        ((e = .normal ∧ R (.returned (.bool true)) (W3.putObj l (.loop r))) ∨ (e = .ret ∧ ∀ r', r'.state = .done → r'.pending = some .ret → R (.returned (.bool false)) (W3.putObj l (.loop r'))))) a1 WB) (fun _ _ _ => False))
      { tmps := (r.params.zip args).foldl (fun tmps (t, a) => tmps.setIfInBounds t a) r.tmps, defers := [] } W) (hp : r.pending = none) :
    YieldAt Fence.wide m P l args W R := by
  refine round_told hl hr hs (Code.wpIn_mono (fun e a1 W1 h1 => ?_) h)
  cases e with
  | normal =>
    obtain ⟨h2, h3⟩ := h1
    refine ⟨h2, Code.wpIn_mono (fun e a3 W3 h4 => ?_) (h3 { r with state := .busy } _ rfl (World.putObj_heap_same (Array.getElem?_eq_some_iff.1 h2).1))⟩
    obtain ⟨h5, ⟨e, h6⟩ | ⟨e, h6⟩⟩ := h4
    · refine ⟨h5, .inl ⟨e, ?_⟩⟩
      have : ({ r with state := .ready, pending := none } : Loop) = r := by cases r; simp_all
      rw [this]; exact h6
    · exact ⟨h5, .inr ⟨e, h6 _ rfl rfl⟩⟩
  | _ => exact h1.elim
set_option maxHeartbeats 16000000 in
set_option maxRecDepth 100000 in
theorem impl_Look_ok (w : World) (ao : Option Addr) (cap : Nat) (zs : List Int) (obj name : Int) (hI : Ints w ao zs) (hl : zs.length ≤ 1048576) (ho : -9223372036854775808 ≤ obj ∧ obj ≤ 9223372036854775807) (hn : -9223372036854775808 ≤ name ∧ name ≤ 9223372036854775807) :
    Calls Try.prog 23 #[.agg #[.slice ao zs.length cap], .int .i64 obj, .int .i64 name] w fun e w' => e = .returned (lookV zs obj name) ∧ Kept w w' := by
  have b0 := (((Cells.new w 27 #[.slice ao zs.length cap]).alloc (.cells #[.int .i64 name] 3)).alloc (.cells #[.int .i64 0] 3)).alloc (.cells #[.bool false] 4)
  have b1 := ((Cells.new (w.alloc (.cells #[.slice ao zs.length cap] 27)) 3 #[.int .i64 name]).alloc (.cells #[.int .i64 0] 3)).alloc (.cells #[.bool false] 4)
  have b2 := (Cells.new ((w.alloc (.cells #[.slice ao zs.length cap] 27)).alloc (.cells #[.int .i64 name] 3)) 3 #[.int .i64 0]).alloc (.cells #[.bool false] 4)
  have b3 := Cells.new (((w.alloc (.cells #[.slice ao zs.length cap] 27)).alloc (.cells #[.int .i64 name] 3)).alloc (.cells #[.int .i64 0] 3)) 4 #[.bool false]
  simp only [World.size_alloc] at b0 b1 b2 b3
  have k0 : Kept w ((((w.alloc (.cells #[.slice ao zs.length cap] 27)).alloc (.cells #[.int .i64 name] 3)).alloc (.cells #[.int .i64 0] 3)).alloc (.cells #[.bool false] 4)) := (((Kept.alloc (Below.refl _ _) _).alloc _).alloc _).alloc _
  have hA := canAsk_ok _ ao cap zs obj name (hI.kept k0) hl ho hn
  cases hk : askR zs obj name with
  | false =>
    have HR : Hid (lookV zs obj name = .tuple #[.int .i64 0, .bool false]) := by simp [Hid, lookV, hk]
    rw [hk] at hA
    clear hI hk
    go_enter Try.func23, Try.ntmps23
    go_wp2_with (go_at_call 54; refine hA.mono ?_; rintro e w1 ⟨rfl, hk1⟩; have y2 := b2.kept hk1; have y3 := b3.kept hk1; have c2 := y2.cell 0; have f2 := y2.frozen 0; have c3 := y3.cell 0; have f3 := y3.frozen 0)
    have q2 := ((y2.set1 (.int .i64 0)).other (p := ⟨w.heap.size + 1 + 1 + 1, 0, none⟩) (by simp) (.bool false)).cell 0
    have q3 := ((y3.other (p := ⟨w.heap.size + 1 + 1, 0, none⟩) (by simp) (.int .i64 0)).set1 (.bool false)).cell 0
    refine bodyPost_ret (v := .tuple #[.int .i64 0, .bool false]) (by simp [results, Try.results23, go_sem, q2, q3]) rfl ⟨by rw [HR.out], ((k0.trans hk1).set (by simp; omega) _).set (by simp; omega) _⟩
  | true =>
    rw [hk] at hA
    obtain ⟨hh, hob, _⟩ := ask_facts hk
    obtain ⟨h5, hv⟩ := isOb_facts hob
    have HLV : Hid (lookV zs obj name = pairV (lookF zs name zs.length obj)) := by rw [Hid, lookV, if_pos hk]
    clear hk hob
    refine (callsIn_wide (n := 3)).1 ?_
    refine callsIn_of_wp_marks Try.func23 rfl trivial ?_ rfl
    simp only [Try.ntmps23, List.size_toArray, List.length_cons, List.length_nil, Nat.reduceAdd, Nat.reduceSub, Array.replicate_succ, Array.replicate_zero, List.push_toArray, List.append_toArray, List.nil_append, List.cons_append]
    gi_wp2_with (first | (refine ⟨trivial, ?_⟩; gi_at_call 54; refine (callsIn_wide.2 hA).mono ?_; rintro e w1 ⟨rfl, hk1⟩; have b0' := b0.kept hk1; have c0 := b0'.cell 0) | (refine ⟨trivial, ?_⟩; gi_at_call 59; refine (callsIn_wide.2 (lineOf_ok _ _ _ _ _)).mono ?_; rintro e w2 ⟨rfl, rfl⟩))
    have kL : Kept w1 ((w1.alloc (.cells #[.slice ao zs.length cap] 22)).alloc (.cells #[.int .i64 obj] 3)) := (Kept.alloc (Below.refl _ _) _).alloc _
    have bS := (Cells.new w1 22 #[.slice ao zs.length cap]).alloc (.cells #[.int .i64 obj] 3)
    have bO := Cells.new (w1.alloc (.cells #[.slice ao zs.length cap] 22)) 3 #[.int .i64 obj]
    simp only [World.size_alloc] at bO
    have y1 := (b1.kept hk1).kept kL
    have y2 := (b2.kept hk1).kept kL
    have y3 := (b3.kept hk1).kept kL
    have K0 := (k0.trans hk1).trans kL
    have hs1 : w.heap.size + 4 ≤ w1.heap.size := by have := hk1.size; simp at this; omega
    have hsz : ((w1.alloc (.cells #[.slice ao zs.length cap] 22)).alloc (.cells #[.int .i64 obj] 3)).heap.size = w1.heap.size + 2 := by simp
    obtain ⟨W0, hW0⟩ : ∃ W0, (w1.alloc (.cells #[.slice ao zs.length cap] 22)).alloc (.cells #[.int .i64 obj] 3) = W0 := ⟨_, rfl⟩
    rw [hW0] at bS bO y1 y2 y3 K0 hsz ⊢
    have hszl : w1.heap.size + 2 ≤ W0.heap.size := by omega
    clear hW0 kL hk1 b0 b1 b2 b3 b0' c0 k0 hA hsz
    have cN := y1.cell 0
    have hlw : Ints W0 ao zs := hI.kept K0
    refine range_told (by omega) rfl (enters_of Try.func92 (by kernel_rfl) rfl) ?_
    intro fn
    have kD : Kept W0 (W0.alloc (.deferred (some []))) := Kept.alloc (Below.refl _ _) _
    have hD0 := World.alloc_heap_new W0 (.deferred (some []))
    have hRc := fun (rr : Loop) => World.alloc_heap_new (W0.alloc (.deferred (some []))) (.loop rr)
    simp only [World.size_alloc] at hRc
    have kR : ∀ rr : Loop, Kept W0 ((W0.alloc (.deferred (some []))).alloc (.loop rr)) := fun rr => kD.alloc _
    have hDR : ∀ rr : Loop, ((W0.alloc (.deferred (some []))).alloc (.loop rr)).heap[W0.heap.size]? = some (.deferred (some [])) := fun rr => (Below.heap_alloc _ _ _ (by simp)).trans hD0
    refine (lineOf1_in 2 (by omega) (W0.heap.size + 1) w1.heap.size (w1.heap.size + 1) ao cap zs obj name (recL fn _ _ _ _ W0.heap.size .ready none) _ hl hh h5 hv (hlw.kept (kR _)) ?hIl (bS.kept (kR _)) (bO.kept (kR _)) (by omega) (by omega) (hRc _)
      (fun x W' => (∃ r' : Loop, W'.heap[W0.heap.size + 1]? = some (.loop r') ∧ r'.state = .done ∧ r'.pending = some .ret) ∧ W'.heap[W0.heap.size]? = some (.deferred (some [])) ∧ Cells W' (w.heap.size + 1 + 1) 3 #[.int .i64 x] ∧ Cells W' (w.heap.size + 1 + 1 + 1) 4 #[.bool true] ∧ Kept w W') ?hY).mono ?post
    case hIl =>
      intro b h1 h2 h3
      have := hlw.lt h1 h2
      omega
    case hY =>
      intro W hg hr v a ca cc ps v' h5' ha hAl hAt
      have hps := hAl.len
      have hget := getV_has (name := name) ha hAl
      refine round_told2 hr rfl rfl ?_ rfl
      have hlW := (Array.getElem?_eq_some_iff.1 hr).1
      have hsW := hg.size
      have u1 := (y1.kept (kR _)).grown hg (by intro e; have := Option.some.inj e; omega)
      have u2 := (y2.kept (kR _)).grown hg (by intro e; have := Option.some.inj e; omega)
      have u3 := (y3.kept (kR _)).grown hg (by intro e; have := Option.some.inj e; omega)
      have hDW := (hg.block W0.heap.size (by simp only [World.size_alloc]; omega) (by intro e; have := Option.some.inj e; omega)).trans (hDR _)
      have kWw : Below w.heap.size w W := Below.trans (K0.trans (kR _)) ((Below.refl _ _).grown hg (by have := K0.size; simp only [World.size_alloc]; omega) (fun k e => by have := Option.some.inj e; have := K0.size; omega))
      have rA := fun (o : Obj) => (Below.heap_alloc W o _ hlW).trans hr
      gi_wp2
      refine ⟨rA _, ?_⟩
      intro rb WB hWB hrb
      have kA : Kept W (W.alloc (.cells #[.int .i64 (a : Int), .int .i64 (hz zs (a + 1)), .slice ca ps.length cc] 67)) := Kept.alloc (Below.refl _ _) _
      have bX : Cells WB W.heap.size 67 #[.int .i64 (a : Int), .int .i64 (hz zs (a + 1)), .slice ca ps.length cc] := by rw [← hWB]; exact (Cells.new W _ _).put (rA _) rfl _
      have t1 : Cells WB (w.heap.size + 1) 3 #[.int .i64 name] := by rw [← hWB]; exact (u1.kept kA).put (rA _) rfl _
      have t2 : Cells WB (w.heap.size + 1 + 1) 3 #[.int .i64 0] := by rw [← hWB]; exact (u2.kept kA).put (rA _) rfl _
      have t3 : Cells WB (w.heap.size + 1 + 1 + 1) 4 #[.bool false] := by rw [← hWB]; exact (u3.kept kA).put (rA _) rfl _
      have cAt : CelsAt WB ca zs ps := by rw [← hWB]; exact (hAt.kept kA).put (rA _) _
      have hDB : WB.heap[W0.heap.size]? = some (.deferred (some [])) := by rw [← hWB]; exact (World.putObj_heap_other (by omega)).trans ((Below.heap_alloc W _ _ (by omega)).trans hDW)
      have gB : W.grownBy WB (some (W0.heap.size + 1)) := by rw [← hWB]; exact grown_put (kept_grown kA (World.grownBy.refl _ _)) _
      have kB : Below w.heap.size w WB := Below.trans kWw ((Below.refl _ W).grown gB (by have := kWw.size; omega) (fun k e => by have := Option.some.inj e; have := K0.size; omega))
      have e2 : WB.cell? ⟨W.heap.size, 2, none⟩ = some (.slice ca ps.length cc) := bX.cell 2
      have e1 : WB.cell? ⟨w.heap.size + 1, 0, none⟩ = some (.int .i64 name) := t1.cell 0
      have hGt := get_ok WB ca cc zs ps name cAt (by omega)
      rw [hget] at hGt
      have hsB := gB.size
      clear hWB cAt hAt u1 u2 u3 rA kA
      cases hx : hasO zs name v with
      | none =>
        rw [hx] at hGt
        have HX : Hid _ := hx
        simp only [pairV] at hGt
        clear hx
        gi_wp2_with (refine ⟨trivial, ?_⟩; gi_at_call 56; refine (CallsIn.inRound (W0.heap.size + 1) (callsIn_wide.2 hGt)).mono ?_; rintro e w3 ⟨rfl, hk3⟩)
        have hr3 := (hk3.block _ (Array.getElem?_eq_some_iff.1 hrb).1).trans hrb
        refine ⟨hr3, ?_⟩
        first
        | exact .inl ⟨rfl, .inl ⟨rfl, HX.out, World.putObj_heap_same (Array.getElem?_eq_some_iff.1 hr3).1, grown_put (grown_kept gB hk3) _⟩⟩
        | exact ⟨World.putObj_heap_same (Array.getElem?_eq_some_iff.1 hr3).1, grown_put (grown_kept gB hk3) _⟩
        | exact ⟨HX.out, World.putObj_heap_same (Array.getElem?_eq_some_iff.1 hr3).1, grown_put (grown_kept gB hk3) _⟩
      | some x =>
        rw [hx] at hGt
        have HX : Hid _ := hx
        simp only [pairV] at hGt
        clear hx
        gi_wp2_with (refine ⟨trivial, ?_⟩; gi_at_call 56; refine (CallsIn.inRound (W0.heap.size + 1) (callsIn_wide.2 hGt)).mono ?_; rintro e w3 ⟨rfl, hk3⟩; have v2 := t2.kept hk3; have v3 := t3.kept hk3; have c2 := v2.cell 0; have f2 := v2.frozen 0; have c3 := v3.cell 0; have f3 := v3.frozen 0)
        have hr3 := (hk3.block _ (Array.getElem?_eq_some_iff.1 hrb).1).trans hrb
        have hd3 := (hk3.block _ (Array.getElem?_eq_some_iff.1 hDB).1).trans hDB
        have s2 := (v2.set1 (.int .i64 x)).other (p := ⟨w.heap.size + 1 + 1 + 1, 0, none⟩) (by simp) (.bool true)
        have s3 := (v3.other (p := ⟨w.heap.size + 1 + 1, 0, none⟩) (by simp) (.int .i64 x)).set1 (.bool true)
        have hr4 := ((KeepsOthers.setCell w3 ⟨w.heap.size + 1 + 1, 0, none⟩ (.int .i64 x)).trans (KeepsOthers.setCell _ ⟨w.heap.size + 1 + 1 + 1, 0, none⟩ (.bool true))).same _ _ hr3 rfl
        have hd4 := ((KeepsOthers.setCell w3 ⟨w.heap.size + 1 + 1, 0, none⟩ (.int .i64 x)).trans (KeepsOthers.setCell _ ⟨w.heap.size + 1 + 1 + 1, 0, none⟩ (.bool true))).same _ _ hd3 rfl
        have kk := ((Below.trans kB (hk3.mono kB.size)).setCell (p := ⟨w.heap.size + 1 + 1, 0, none⟩) (by simp; omega) (.int .i64 x)).setCell (p := ⟨w.heap.size + 1 + 1 + 1, 0, none⟩) (by simp; omega) (.bool true)
        have kf := fun (r' : Loop) => Below.trans kk ((Below.refl _ _).grown (grownBy_putObj' ((w3.setCell ⟨w.heap.size + 1 + 1, 0, none⟩ (.int .i64 x)).setCell ⟨w.heap.size + 1 + 1 + 1, 0, none⟩ (.bool true)) (W0.heap.size + 1) (.loop r')) (by have := kk.size; simpa using this) (fun k e => by have := Option.some.inj e; have := K0.size; omega))
        have fin : ∀ r' : Loop, r'.state = .done → r'.pending = some .ret → _ := fun r' h1 h2 => And.intro (⟨r', World.putObj_heap_same (Array.getElem?_eq_some_iff.1 hr4).1, h1, h2⟩ : ∃ r'' : Loop, _ = some (Obj.loop r'') ∧ r''.state = .done ∧ r''.pending = some .ret) (And.intro ((World.putObj_heap_other (o := .loop r') (show W0.heap.size ≠ W0.heap.size + 1 by omega)).trans hd4) (And.intro (s2.put hr4 rfl (.loop r')) (And.intro (s3.put hr4 rfl (.loop r')) (kf r'))))
        refine ⟨hr4, ?_⟩
        first
        | exact .inr ⟨rfl, fun r' h1 h2 => .inr ⟨rfl, x, HX.out, fin r' h1 h2⟩⟩
        | exact fun r' h1 h2 => fin r' h1 h2
    case post =>
      rintro e W' ⟨⟨vv, rfl⟩, ⟨hno, hr, hg⟩ | ⟨x, hx, ⟨r', hr', hst, hpe⟩, hD, z2, z3, hK⟩⟩
      · have u2 := (y2.kept (kR _)).grown hg (by intro e; have := Option.some.inj e; omega)
        have u3 := (y3.kept (kR _)).grown hg (by intro e; have := Option.some.inj e; omega)
        have hDW := (hg.block W0.heap.size (by simp only [World.size_alloc]; omega) (by intro e; have := Option.some.inj e; omega)).trans (hDR _)
        have kWw : Below w.heap.size w W' := Below.trans (K0.trans (kR _)) ((Below.refl _ _).grown hg (by have := K0.size; simp only [World.size_alloc]; omega) (fun k e => by have := Option.some.inj e; have := K0.size; omega))
        obtain ⟨rr, hr', hst, hpe⟩ : ∃ rr : Loop, W'.heap[W0.heap.size + 1]? = some (.loop rr) ∧ rr.state = .ready ∧ rr.pending = none := ⟨_, hr, rfl, rfl⟩
        obtain ⟨W4, hW4⟩ : ∃ W4, W'.putObj (W0.heap.size + 1) (.loop { rr with state := .exhausted }) = W4 := ⟨_, rfl⟩
        have q2 : Cells W4 (w.heap.size + 1 + 1) 3 #[.int .i64 0] := by rw [← hW4]; exact u2.put hr' rfl _
        have q3 : Cells W4 (w.heap.size + 1 + 1 + 1) 4 #[.bool false] := by rw [← hW4]; exact u3.put hr' rfl _
        have hK4 : W4.heap[W0.heap.size]? = some (.deferred (some [])) := by rw [← hW4]; exact (World.putObj_heap_other (by omega)).trans hDW
        have kF : Below w.heap.size w W4 := by rw [← hW4]; exact Below.trans kWw ((Below.refl _ _).grown (grownBy_putObj' _ _ _) (by have := kWw.size; omega) (fun k e => by have := Option.some.inj e; have := K0.size; omega))
        refine ⟨⟨vv, rfl⟩, rr, W4, hr', by rw [hst]; simp, hW4, .inl ⟨hpe, ?_⟩⟩
        have c2 := q2.cell 0
        have f2 := q2.frozen 0
        have c3 := q3.cell 0
        have f3 := q3.frozen 0
        have HNO : Hid _ := hno
        clear hW4 hr hr' hg u2 u3 hDW kWw hno hst hpe
        gi_wp2
        have hK' := ((KeepsOthers.setCell W4 ⟨w.heap.size + 1 + 1, 0, none⟩ (.int .i64 0)).trans (KeepsOthers.setCell _ ⟨w.heap.size + 1 + 1 + 1, 0, none⟩ (.bool false))).same _ _ hK4 rfl
        refine ⟨by simp, .inl ⟨_, _, rfl, run_takeDeferred hK', ?_⟩⟩
        have s2 := ((q2.set1 (.int .i64 0)).other (p := ⟨w.heap.size + 1 + 1 + 1, 0, none⟩) (by simp) (.bool false)).put hK' rfl (.deferred none)
        have s3 := ((q3.other (p := ⟨w.heap.size + 1 + 1, 0, none⟩) (by simp) (.int .i64 0)).set1 (.bool false)).put hK' rfl (.deferred none)
        refine ⟨.tuple #[.int .i64 0, .bool false], by simp [results, Try.results23, go_sem, s2.cell 0, s3.cell 0], by rw [HLV.out, HNO.out]; rfl, ?_⟩
        exact ((kF.setCell (p := ⟨w.heap.size + 1 + 1, 0, none⟩) (by simp; omega) _).setCell (p := ⟨w.heap.size + 1 + 1 + 1, 0, none⟩) (by simp; omega) _).trans (belowK_b (w := w) (Nat.le_refl _) _ W0.heap.size _ _ (by have := K0.size; omega) hK' rfl rfl)
      · obtain ⟨W4, hW4⟩ : ∃ W4, W'.putObj (W0.heap.size + 1) (.loop { r' with state := .exhausted }) = W4 := ⟨_, rfl⟩
        have q2 : Cells W4 (w.heap.size + 1 + 1) 3 #[.int .i64 x] := by rw [← hW4]; exact z2.put hr' rfl _
        have q3 : Cells W4 (w.heap.size + 1 + 1 + 1) 4 #[.bool true] := by rw [← hW4]; exact z3.put hr' rfl _
        have hK4 : W4.heap[W0.heap.size]? = some (.deferred (some [])) := by rw [← hW4]; exact (World.putObj_heap_other (by omega)).trans hD
        have kF : Below w.heap.size w W4 := by rw [← hW4]; exact Below.trans hK ((Below.refl _ _).grown (grownBy_putObj' _ _ _) (by have := hK.size; omega) (fun k e => by have := Option.some.inj e; have := K0.size; omega))
        refine ⟨⟨vv, rfl⟩, r', W4, hr', by rw [hst]; simp, hW4, .inr ⟨.ret, hpe, ?_⟩⟩
        have HX : Hid _ := hx
        clear hW4 hr' hst hpe z2 z3 hD hK hx
        gi_wp2
        refine ⟨by simp, .inl ⟨_, _, rfl, run_takeDeferred hK4, ?_⟩⟩
        have s2 := q2.put hK4 rfl (.deferred none)
        have s3 := q3.put hK4 rfl (.deferred none)
        refine ⟨.tuple #[.int .i64 x, .bool true], by simp [results, Try.results23, go_sem, s2.cell 0, s3.cell 0], by rw [HLV.out, HX.out]; rfl, ?_⟩
        exact kF.trans (belowK_b (w := w) (Nat.le_refl _) _ W0.heap.size _ _ (by have := K0.size; omega) hK4 rfl rfl)
end Go.Proofs.Ytlgaamhjpkkjmaa
