/-
  The contract of declared (chapter 14; genDec.py): the names and the lets of a function.
  The contract of once (chapter 14): each name where it stands first.
  The functions of a program, with what they declare and see: pure; rows of texts and rows of such rows, told with their types; rows of functions.
  The contract of functionsFrom (chapter 14; genFfr.py): the functions of a program, each with what it declares and sees.
-/
import Derived.Maps.AppendAt
import Derived.Deep.CutRange
import Derived.Maps.OwnSet
import Derived.Maps.Keyed
import Derived.Deep.AppendLies
import Derived.OwnWalk
import Derived.ArgAppend
import Derived.Test.YtlinbkgeahgkjaaGreatDoorGrpWb
import Derived.Test.YtlinbkgeahgkjaaGreatDoorGrpFn
import Derived.Test.YtlinbkgeahgkjaaGreatDoorFndA
namespace Go.Proofs.YtlinbkgeahgkjaaGreatDoor
open Go.RowKit Go.Shelf
attribute [local go_sem] Oper.semAt_some
set_option linter.unusedSimpArgs false
set_option linter.unusedVariables false

theorem wpIn_of_value {l nF : Nat} {P : Program} {o : Oper} {a : Act} {w w' : World} {v : Value} {next : Act → World → Prop} {Q : Exit → Act → World → Prop} (hd : ∀ c, o.op ≠ .defer c) (h : (execOp a.eval o).run P w = .ok (.value v) w') (k : next (a.put o.dst v) w') : o.wpIn (Fence.wide.inRound l) nF P a w next Q := by
  unfold Oper.wpIn
  refine ⟨fun _ _ => trivial, ?_⟩
  rw [Oper.semAt_eq _ _ _ hd, h, Oper.uponIn_value]
  exact k
theorem exec_appendD {P : Program} {o : Oper} {ev : Operand → Value} {s x : Operand} {t1 t2 : TypeId} {u w' : World} {v sv xv : Value} (ho : o.op = .call { callee := .builtin .append, args := #[s, x], argTypes := #[t1, t2] }) (hs : ev s = sv) (hx : ev x = xv) (hr : (Builtin.append_ #[t1, t2] o.type #[sv, xv]).run P u = .ok v w') : (execOp ev o).run P u = .ok (.value v) w' := by
  unfold execOp
  simp only [ho, resolve, invoke, builtin, Sem.run_bind, Sem.run_pure, Result.andThen_ok, List.map_toArray, List.map_cons, List.map_nil, hs, hx, hr]
theorem BoxT.put {W : World} {Bl B l : Nat} {r : Loop} {ts : List ByteArray} {o : Obj} (h : BoxT W Bl B ts) (hl : W.heap[l]? = some (.loop r)) : BoxT (W.putObj l o) Bl B ts := by
  obtain ⟨v, hc, h1, h2 | ⟨g, cap, cur, e, h3, h4, h5⟩⟩ := h
  · exact ⟨v, (World.putObj_heap_other (fun e => by subst e; rw [show W.heap[_]? = _ from hc] at hl; cases hl)).trans hc, h1, .inl h2⟩
  · exact ⟨v, (World.putObj_heap_other (fun e => by subst e; rw [show W.heap[_]? = _ from hc] at hl; cases hl)).trans hc, h1, .inr ⟨g, cap, cur, e, h3, (World.putObj_heap_other (fun e => by subst e; rw [h4] at hl; cases hl)).trans h4, h5⟩⟩
theorem BoxT.kept {W W' : World} {Bl B : Nat} {ts : List ByteArray} (h : BoxT W Bl B ts) (hk : Kept W W') : BoxT W' Bl B ts := by
  obtain ⟨v, hc, h1⟩ := h
  exact ⟨v, hc.kept hk, World.ownsRow.kept h1 hk.grown (by cases e : v.ownBlock <;> simp)⟩
def decR (W : World) (bx ox : Nat) (v : Value) (s : ByteArray) (j : Nat) (vs : Nat → Value) (u : World) : Prop :=
  match j, vs, u with
  | 0, vs, _ => vs 0 = v
  | 1, vs, _ => vs 1 = .pointer (some ⟨bx, ox, none⟩)
  | 2, vs, _ => vs 2 = .pointer (some ⟨bx, ox, none⟩)
  | 3, vs, _ => vs 3 = .pointer (some ⟨bx, ox + 1, none⟩)
  | 4, vs, _ => vs 4 = .string s
  | 5, vs, u => ∃ g, vs 5 = .slice (some ⟨g, 0, none⟩) 1 1 ∧ Cells u g 9 #[.string s]
  | _, _, _ => True
def decT (W : World) (bx ox : Nat) (v : Value) (s : ByteArray) : Told := ⟨decR W bx ox v s, fun u => Kept W u⟩
theorem decR_vs (W : World) (bx ox : Nat) (v : Value) (s : ByteArray) {j : Nat} {vs vs' : Nat → Value} {u : World} (e : vs j = vs' j) (h : decR W bx ox v s j vs u) : decR W bx ox v s j vs' u := by
  match j, e, h with
  | 0, e, h => simp only [decR] at h ⊢; rw [← e]; exact h
  | 1, e, h => simp only [decR] at h ⊢; rw [← e]; exact h
  | 2, e, h => simp only [decR] at h ⊢; rw [← e]; exact h
  | 3, e, h => simp only [decR] at h ⊢; rw [← e]; exact h
  | 4, e, h => simp only [decR] at h ⊢; rw [← e]; exact h
  | 5, e, h => simp only [decR] at h ⊢; rw [← e]; exact h
  | _ + 6, _, _ => trivial
theorem decT_own {ops : Array Oper} (W : World) (bx ox : Nat) (v : Value) (s : ByteArray) : (decT W bx ox v s).own ops := fun j vs vs' u h hR => decR_vs W bx ox v s (h j (.inl rfl)) hR
theorem decR_kept (W : World) (bx ox : Nat) (v : Value) (s : ByteArray) {u u' : World} (hk : Kept u u') (j : Nat) (vs : Nat → Value) (h : decR W bx ox v s j vs u) : decR W bx ox v s j vs u' := by
  match j, h with
  | 0, h => exact h
  | 1, h => exact h
  | 2, h => exact h
  | 3, h => exact h
  | 4, h => exact h
  | 5, h => exact (by obtain ⟨g, h1, h2⟩ := h; exact ⟨g, h1, h2.kept hk⟩)
  | _ + 6, _ => trivial
set_option maxHeartbeats 16000000 in
set_option maxRecDepth 100000 in
theorem declared_ok (w : World) (op m : Int) (s : ByteArray) (ks : List Nd) (p : Addr) (hsz : (Nd.mk op s m ks).size ≤ 1000000) (hT : NdAt w (.mk op s m ks) p) (hE : EnvA w) (hs : s.size ≤ 1048576) :
    Calls Tryz.prog 27 #[.pointer (some p), .func (.func 28) #[] #[]] w fun e w' => ∃ v, e = .returned v ∧ TxO w' w.heap.size v (declL op s ks) ∧ Kept w w' := by
  obtain ⟨i0, hi, hz0, hz1, hz2⟩ := info_parts infoSt
  obtain ⟨b, off, ao, cap, rfl, h0, h1, _⟩ := hT.head
  have hNa := namesOf_ok w b off op s h0 h1 hE hs
  have HT : Hid (NdAt w (.mk op s m ks) ⟨b, off, none⟩) := hT
  have HSZ : Hid ((Nd.mk op s m ks).size ≤ 1000000 ∧ s.size ≤ 1048576) := ⟨hsz, hs⟩
  clear hT hE h0 h1 hsz hs
  refine (callsIn_wide (n := 9)).1 ?_
  refine callsIn_of_wp_marks Tryz.func27 rfl trivial ?_ rfl
  simp only [Tryz.ntmps27, List.size_toArray, List.length_cons, List.length_nil, Nat.reduceAdd, Nat.reduceSub, Array.replicate_succ, Array.replicate_zero, List.push_toArray, List.append_toArray, List.nil_append, List.cons_append]
  refine wpIn_wide.2 ?_
  go_wp2_with (first
    | (go_at_call 43; refine hNa.mono ?_; rintro e w1 ⟨v1, rfl, hO1, hk1⟩; obtain ⟨va, vc, rfl⟩ := hO1.slice)
    | (go_at_call 30; refine (within_ok _ _ _ rfl).mono ?_; rintro e w2 ⟨rfl, rfl⟩))
  have HO1 : Hid _ := hO1
  have HK1 : Hid _ := hk1
  have hz1' := hk1.size
  have KA : Kept w1 (((w1.alloc (.cells #[.slice va (namesL op s).length vc] 43)).alloc (.cells #[.pointer (some ⟨b, off, none⟩)] 42)).alloc (.cells #[.func (.func 28) #[] #[]] 80)) := ((Kept.alloc (Below.refl _ _) _).alloc _).alloc _
  have BL := ((Cells.new w1 43 #[.slice va (namesL op s).length vc]).alloc (.cells #[.pointer (some ⟨b, off, none⟩)] 42)).alloc (.cells #[.func (.func 28) #[] #[]] 80)
  have BN := (Cells.new (w1.alloc (.cells #[.slice va (namesL op s).length vc] 43)) 42 #[.pointer (some ⟨b, off, none⟩)]).alloc (.cells #[.func (.func 28) #[] #[]] 80)
  have BF := Cells.new ((w1.alloc (.cells #[.slice va (namesL op s).length vc] 43)).alloc (.cells #[.pointer (some ⟨b, off, none⟩)] 42)) 80 #[.func (.func 28) #[] #[]]
  simp only [World.size_alloc] at BN BF
  have hsA : (((w1.alloc (.cells #[.slice va (namesL op s).length vc] 43)).alloc (.cells #[.pointer (some ⟨b, off, none⟩)] 42)).alloc (.cells #[.func (.func 28) #[] #[]] 80)).heap.size = w1.heap.size + 3 := by simp
  obtain ⟨W0, hW0⟩ : ∃ W0, (((w1.alloc (.cells #[.slice va (namesL op s).length vc] 43)).alloc (.cells #[.pointer (some ⟨b, off, none⟩)] 42)).alloc (.cells #[.func (.func 28) #[] #[]] 80)) = W0 := ⟨_, rfl⟩
  rw [hW0] at KA BL BN BF hsA ⊢
  have HsA : Hid (W0.heap.size = w1.heap.size + 3) := hsA
  clear hW0 hk1 hO1 hNa hsA
  refine (wpIn_wide (n := 9)).1 ?_
  have KW : Kept w W0 := Kept.trans HK1.out KA
  have hJ0 : BoxT W0 w1.heap.size w.heap.size (namesL op s ++ letsL []) := ⟨_, BL, by
    rw [show namesL op s ++ letsL [] = namesL op s by simp [letsL]]
    exact World.ownsRow.kept HO1.out KA.grown (by cases e : (Value.slice va (namesL op s).length vc).ownBlock <;> simp)⟩
  refine range_within (n := 9) (by omega) w w W0 (Below.refl _ _) (w1.heap.size + 2) (w1.heap.size + 1) rfl rfl op m s ks ⟨b, off, none⟩ HSZ.out.1 HT.out KW BF BN
    (fun pre W => BoxT W w1.heap.size w.heap.size (namesL op s ++ letsL pre)) (fun pre W W' h hk => h.ki hk) (fun pre W l r o _ hl h => h.put hl) hJ0 ?body ?done
  case body =>
    intro fn W pre x q hl hd hk hx hp hj
    obtain ⟨op', s', n', ks'⟩ := x
    obtain ⟨bx, ox, ax, cx, rfl, h0, h1, _⟩ := hx.head
    have HJ : Hid _ := hj
    have HK : Hid _ := hk
    have HD : Hid _ := hd
    have HP : Hid _ := hp
    have HL : Hid _ := hl
    clear hj hk hd hp hx
    gi_wp2
    intro rb hrb
    have kPB : Kept w (W.putObj (W0.heap.size + 1) (.loop rb)) := Kept.put HK.out (by have := KW.size; omega) _
    have g0 := kept_cell kPB h0
    have g1 := kept_cell kPB h1
    have HKP : Hid _ := kPB
    have HJP : Hid _ := BoxT.put (o := .loop rb) HJ.out HL.out
    have HDP : Hid ((W.putObj (W0.heap.size + 1) (.loop rb)).heap[W0.heap.size]? = some (.deferred (some []))) := (World.putObj_heap_other (by omega)).trans HD.out
    have HKB : Hid (KB W (W.putObj (W0.heap.size + 1) (.loop rb))) := KB.put HL.out _
    obtain ⟨WB, hWB⟩ : ∃ WB, W.putObj (W0.heap.size + 1) (.loop rb) = WB := ⟨_, rfl⟩
    rw [hWB] at g0 g1 HKP HJP HDP HKB hrb ⊢
    have HRB : Hid _ := hrb
    clear kPB hWB hrb
    have hls : letsL (pre ++ [.mk op' s' n' ks']) = letsL pre ++ (if op' = 2 then [s'] else []) := by rw [letsL_app]; simp [letsL]
    by_cases h2 : op' = 2
    · have HS : Hid (letsL (pre ++ [.mk op' s' n' ks']) = letsL pre ++ [s']) := by rw [Hid, hls, if_pos h2]
      subst h2
      clear hls
      obtain ⟨v, hcv, hov⟩ := HJP.out
      have kd : Kept WB WB.drew := (Below.refl _ _).drew
      have HS' : Hid (∀ u, Kept WB.drew u → u.cell? ⟨w1.heap.size, 0, none⟩ = some v ∧ u.cell? ⟨bx, ox + 1, none⟩ = some (.string s')) := fun u hu => ⟨(hcv.kept (kd.trans hu)).cell 0, kept_cell (kd.trans hu) g1⟩
      have HSl : Hid _ := HS
      have HS := HS'
      have HCv : Hid (∀ u, Kept WB u → Cells u w1.heap.size 43 #[v]) := fun u hu => hcv.kept hu
      clear hcv
      have HOv : Hid _ := hov
      have HLn : Hid ((namesL op s ++ letsL pre).length + 1 ≤ 9223372036854775807 ∧ ((namesL op s ++ letsL pre).length + 1) * 16 ≤ 140737488355328) := by
        have l1 := namesL_len (op := op) HSZ.out.2
        have l2 := letsL_len pre
        obtain ⟨r, er⟩ := HP.out
        have l3 := wisK_len ks
        rw [← er] at l3
        have l4 := HSZ.out.1
        simp only [Nd.size] at l4
        simp only [List.length_append, List.length_cons] at l3 ⊢
        constructor <;> omega
      clear hov
      gi_wp2
      refine wpIn_region_told 6 (decT WB.drew bx ox v s') (fun _ _ => false) (by kernel_rfl) (by kernel_rfl) (by decide) (by kernel_rfl) (by kernel_rfl) (decT_own _ _ _ _ _) (by kernel_rfl) (Below.refl _ _) ?_ ?_
      · intro i hi vs
        rcases (show i = 0 ∨ i = 1 ∨ i = 2 ∨ i = 3 ∨ i = 4 ∨ i = 5 by omega) with rfl | rfl | rfl | rfl | rfl | rfl
        · refine ⟨_, rfl, fun u hu hd => .inl ⟨v, u, ?_, hu, by simp [decT, decR, vsX], (fun j _ _ _ h => h)⟩⟩
          obtain ⟨mb, ms⟩ := HS.out u hu
          simp only [frR, dstAt, List.getElem?_toArray, List.getElem?_cons_zero, List.getElem?_cons_succ, Option.bind_some, Act.put, List.setIfInBounds_toArray, List.set_cons_zero, List.set_cons_succ]; go_simp; first | done | exact rfl
        · refine ⟨_, rfl, fun u hu hd => .inl ⟨.pointer (some ⟨bx, ox, none⟩), u, ?_, hu, by simp [decT, decR, vsX], (fun j _ _ _ h => h)⟩⟩
          simp only [frR, dstAt, List.getElem?_toArray, List.getElem?_cons_zero, List.getElem?_cons_succ, Option.bind_some, Act.put, List.setIfInBounds_toArray, List.set_cons_zero, List.set_cons_succ]; go_simp; first | done | exact rfl
        · refine ⟨_, rfl, fun u hu hd => .inl ⟨.pointer (some ⟨bx, ox, none⟩), u, ?_, hu, by simp [decT, decR, vsX], (fun j _ _ _ h => h)⟩⟩
          have e1 : vs 1 = .pointer (some ⟨bx, ox, none⟩) := hd 1 (by kernel_rfl)
          simp only [frR, dstAt, List.getElem?_toArray, List.getElem?_cons_zero, List.getElem?_cons_succ, Option.bind_some, Act.put, List.setIfInBounds_toArray, List.set_cons_zero, List.set_cons_succ]; simp only [e1]; go_simp; first | done | exact rfl
        · refine ⟨_, rfl, fun u hu hd => .inl ⟨.pointer (some ⟨bx, ox + 1, none⟩), u, ?_, hu, by simp [decT, decR, vsX], (fun j _ _ _ h => h)⟩⟩
          have e2 : vs 2 = .pointer (some ⟨bx, ox, none⟩) := hd 2 (by kernel_rfl)
          simp only [frR, dstAt, List.getElem?_toArray, List.getElem?_cons_zero, List.getElem?_cons_succ, Option.bind_some, Act.put, List.setIfInBounds_toArray, List.set_cons_zero, List.set_cons_succ]; simp only [e2]; go_simp; first | done | exact rfl
        · refine ⟨_, rfl, fun u hu hd => .inl ⟨.string s', u, ?_, hu, by simp [decT, decR, vsX], (fun j _ _ _ h => h)⟩⟩
          have e3 : vs 3 = .pointer (some ⟨bx, ox + 1, none⟩) := hd 3 (by kernel_rfl)
          obtain ⟨mb, ms⟩ := HS.out u hu
          simp only [frR, dstAt, List.getElem?_toArray, List.getElem?_cons_zero, List.getElem?_cons_succ, Option.bind_some, Act.put, List.setIfInBounds_toArray, List.set_cons_zero, List.set_cons_succ]; simp only [e3]; go_simp; first | done | exact rfl
        · refine ⟨_, rfl, fun u hu hd => ?_⟩
          have e4 : vs 4 = .string s' := hd 4 (by kernel_rfl)
          refine .inl ⟨.slice (some ⟨u.heap.size, 0, none⟩) 1 1, u.alloc (.cells #[.string s'] 9), ?_, Kept.alloc hu _, ⟨u.heap.size, by simp [vsX], Cells.new _ _ _⟩, (fun j _ _ _ h => decR_kept WB.drew bx ox v s' (Kept.alloc (Below.refl _ _) _) j vs h)⟩
          simp only [frR, dstAt, List.getElem?_toArray, List.getElem?_cons_zero, List.getElem?_cons_succ, Option.bind_some, Act.put, List.setIfInBounds_toArray, List.set_cons_zero, List.set_cons_succ]; simp only [e4]; go_simp; first | done | exact rfl
      · intro vs u hu
        simp only [List.drop_succ_cons, List.drop_zero, seqWpIn]
        simp only [frR, dstAt, List.getElem?_toArray, List.getElem?_cons_zero, List.getElem?_cons_succ, Option.bind_some, Act.put, List.setIfInBounds_toArray, List.set_cons_zero, List.set_cons_succ]
        intro hR
        have hu : Kept WB.drew u := hu
        have e0 : vs 0 = v := hR 0 (by decide) (fun _ _ => by trivial)
        obtain ⟨g, e5, hg⟩ : ∃ g, vs 5 = .slice (some ⟨g, 0, none⟩) 1 1 ∧ Cells u g 9 #[.string s'] := hR 5 (by decide) (fun _ _ => by trivial)
        have ku := kd.trans hu
        have hov := World.ownsRow.kept HOv.out ku.grown (by cases e : v.ownBlock <;> simp)
        have hcu := HCv.out u ku
        obtain ⟨v', w', hr, hown, hg3, _, hob⟩ := run_append_own_at (P := Tryz.prog) u w.heap.size 43 43 9 i0 _ 1 16 Tryz.underlying43 hi hz0 hz1 hz2 rfl (by decide) v _ _ hov ⟨g, 0, none⟩ 1 1 [.string s'] rfl (fun j x hx => by
          match j, hx with
          | 0, hx =>
            simp at hx
            subst hx
            exact hg.cell 0) (by simp [Value.oneCell']) (by unfold maxLen; exact HLn.out.1) HLn.out.2 (by have := ku.size; have := HKP.out.size; omega)
        have hrb : ∀ j, v.ownBlock = some j → w.heap.size ≤ j ∧ ∃ cur, u.heap[j]? = some (.cells cur 9 (0, 0)) := fun j ej => by
          obtain ⟨_, ⟨e, _⟩ | ⟨g', c', cur, e, hb, hgg, _⟩⟩ := hov
          · rw [e] at ej; simp [Value.ownBlock] at ej
          · rw [e] at ej; simp [Value.ownBlock] at ej; subst ej; exact ⟨hb, cur, hgg⟩
        have hbx : Cells w' w1.heap.size 43 #[v] := (hg3.block _ hcu.lt (fun e => by
          obtain ⟨_, cur, hx⟩ := hrb _ e.symm
          rw [show u.heap[_]? = _ from hcu] at hx
          injection hx with hx
          injection hx with _ hx
          exact absurd hx (by decide))).trans hcu
        have hk' : Kept w w' := Below.grown (Kept.trans HKP.out ku) hg3 (by have := ku.size; have := HKP.out.size; omega) (fun j ej => (hrb j ej).1)
        have hkb : KB WB w' := (KB.kept ku).trans (KB.grown hg3 (fun j ej cs ty fz hx => by
          obtain ⟨_, cur, hy⟩ := hrb j ej
          rw [hy] at hx
          injection hx with hx
          injection hx with _ hx
          subst hx
          exact ⟨by decide, by decide⟩))
        have hoth : ∀ (j : Nat) (o : Obj), (∀ cs ty fz, o ≠ Obj.cells cs ty fz) → WB.heap[j]? = some o → w'.heap[j]? = some o := fun j o ho hj => by
          have hju := (ku.block j (Array.getElem?_eq_some_iff.1 hj).1).trans hj
          exact (hg3.block j (Array.getElem?_eq_some_iff.1 hju).1 (fun e => by
            obtain ⟨_, cur, hy⟩ := hrb j e.symm
            rw [hju] at hy
            injection hy with hy
            exact ho _ _ _ hy)).trans hju
        refine wpIn_of_value (by intro c h; cases h) (exec_appendD (by rfl) (by simp only [e0, e5]; rfl) (by simp only [e0, e5]; rfl) hr) ?_
        have HPost : Hid ((w'.setCell ⟨w1.heap.size, 0, none⟩ v').heap[W0.heap.size + 1]? = some (.loop rb) ∧ BoxT (w'.setCell ⟨w1.heap.size, 0, none⟩ v') w1.heap.size w.heap.size (namesL op s ++ letsL (pre ++ [.mk 2 s' n' ks'])) ∧ Kept w (w'.setCell ⟨w1.heap.size, 0, none⟩ v') ∧ KB W (w'.setCell ⟨w1.heap.size, 0, none⟩ v') ∧ (w'.setCell ⟨w1.heap.size, 0, none⟩ v').heap[W0.heap.size]? = some (.deferred (some []))) := by
          have hsa := HsA.out
          refine ⟨(Below.heap_setCell _ _ _ _ (by show _ ≠ w1.heap.size; omega)).trans (hoth _ _ (by intro _ _ _ h; cases h) HRB.out), ⟨v', by simpa using hbx.set 0 v', ?_⟩, Kept.set hk' (by show w.heap.size ≤ w1.heap.size; exact HK1.out.size) _, (HKB.out.trans hkb).trans (KB.set hbx ⟨by decide, by decide⟩), (Below.heap_setCell _ _ _ _ (by show _ ≠ w1.heap.size; omega)).trans (hoth _ _ (by intro _ _ _ h; cases h) HDP.out)⟩
          rw [HSl.out, ← List.append_assoc]
          have ho2 : w'.ownsRow w.heap.size 9 1 v' ((namesL op s ++ letsL pre) ++ [s']).length (((namesL op s ++ letsL pre) ++ [s']).map Value.string) := by simpa [Nat.add_assoc] using hown
          refine ownsRow_setCell_other ho2 (fun e => ?_) _
          rcases hob with h | h
          · rw [h] at e
            obtain ⟨_, cur, hx⟩ := hrb _ e
            simp only at hx
            rw [show u.heap[_]? = _ from hcu] at hx
            injection hx with hx
            injection hx with _ hx
            exact absurd hx (by decide)
          · rw [h] at e
            injection e with e
            have := hcu.lt
            simp at e
            omega
        have cb := hbx.cell 0
        have fb := hbx.frozen 0
        have lb := hbx.lt
        obtain ⟨va', vc', ev'⟩ : ∃ a c, v' = .slice a ((namesL op s ++ letsL pre).length + 1) c := by
          obtain ⟨_, ⟨e, h0⟩ | ⟨g', c', cur, e, _⟩⟩ := hown
          · simp at h0
          · exact ⟨_, _, e⟩
        subst ev'
        obtain ⟨Lx, hLx⟩ : ∃ L, (namesL op s ++ letsL pre).length + 1 = L := ⟨_, rfl⟩
        rw [hLx] at HPost ⊢
        clear hLx hr hown hg3 hob hrb hbx hk' hkb hoth hov hcu hu ku hg hR
        simp only [Act.put, List.setIfInBounds_toArray, List.set_cons_zero, List.set_cons_succ]
        unfold Oper.wpIn
        go_simp
        first | exact HPost.out | exact ⟨rfl, HPost.out⟩
    · have HS : Hid (letsL (pre ++ [.mk op' s' n' ks']) = letsL pre) := by rw [Hid, hls, if_neg h2, List.append_nil]
      have h2' : (op' == 2) = false := by simpa using h2
      clear hls h2
      gi_wp2
      have HF : Hid (BoxT WB w1.heap.size w.heap.size (namesL op s ++ letsL (pre ++ [.mk op' s' n' ks']))) := by rw [Hid, HS.out]; exact HJP.out
      exact ⟨HRB.out, HF.out, HKP.out, HKB.out, HDP.out⟩
  case done =>
    intro W4 hj hk hd
    obtain ⟨v, hcv, hov⟩ := hj
    have c0 := hcv.cell 0
    have HO : Hid (TxO W4 w.heap.size v (declL op s ks)) := hov
    have HK : Hid _ := hk
    obtain ⟨va', vc', rfl⟩ := hov.slice
    clear hov hk hcv
    go_wp2
    refine ⟨by simp, .inl ⟨_, _, rfl, run_takeDeferred hd, ?_⟩⟩
    refine ⟨.slice va' (declL op s ks).length vc', by simp [results, Tryz.results27, go_sem, declL], ⟨_, rfl, ?_, ?_⟩⟩
    · obtain ⟨h1, h2 | ⟨g, cap, cur, e, h3, h4, h5⟩⟩ := HO.out
      · exact ⟨h1, .inl h2⟩
      · exact ⟨h1, .inr ⟨g, cap, cur, e, h3, (World.putObj_heap_other (fun e => by subst e; rw [h4] at hd; cases hd)).trans h4, h5⟩⟩
    · exact Kept.put HK.out KW.size _
end Go.Proofs.YtlinbkgeahgkjaaGreatDoor
namespace Go.Proofs.YtlinbkgeahgkjaaGreatDoor
open Go.RowKit Go.Maps
set_option linter.unusedSimpArgs false
set_option linter.unusedVariables false

open Classical in
/-- Which names a map has. -/
structure OncI (D : DataW Unit) (seen : List ByteArray) : Prop where
  has : ∀ s : ByteArray, Maps.has D (.string s.data.toList) = decide (s ∈ seen)
theorem OncI.empty : OncI (.map []) [] := ⟨fun s => by simp [Maps.has]⟩
theorem keyO_ne {a b : ByteArray} (h : a ≠ b) : (Lit.string a.data.toList) ≠ .string b.data.toList := by
  intro e
  injection e with e
  exact h (ByteArray.ext (Array.toList_inj.1 e))
theorem OncI.put {D : DataW Unit} {seen : List ByteArray} (h : OncI D seen) (ht : Tidy D) (s : ByteArray) (d : DataW Unit) : OncI (D.put (.string s.data.toList) d) (seen ++ [s]) := ⟨fun x => by
  by_cases e : x = s
  · subst e; rw [has_put_same ht.isMap (k := .string x.data.toList) trivial]; simp
  · rw [has_put_other (keyO_ne e), h.has]; simp [e]⟩
theorem infoSo : (Tryz.prog.info? 9).map (fun i => (i.zero, i.size, i.bytes)) = some (some (.string ⟨#[]⟩), 1, 16) := by kernel_rfl
theorem one_newS (W : World) (t : TypeId) (u : Value) : ∀ j x, [u][j]? = some x → (W.alloc (.cells #[u] t)).cell? ((⟨W.heap.size, 0, none⟩ : Addr).add j) = some x := by
  intro j x hx
  match j, hx with
  | 0, hx =>
    simp at hx
    subst hx
    exact (Cells.new W t #[u]).cell 0
theorem ownsRow_lowO {w : World} {base base' : Nat} {e : TypeId} {size : Nat} {v : Value} {n : Nat} {xs : List Value} (h : w.ownsRow base e size v n xs) (hb : base' ≤ base) : w.ownsRow base' e size v n xs := by
  obtain ⟨h1, h2 | ⟨g, c, cur, e1, h3, h4⟩⟩ := h
  · exact ⟨h1, .inl h2⟩
  · exact ⟨h1, .inr ⟨g, c, cur, e1, by omega, h4⟩⟩
theorem lawO : Keyed Tryz.prog 9 := string_keyed Tryz.underlying9
/-- What holds between two rounds. -/
structure OncS (w wr : World) (v : Value) (seen : List ByteArray) (k : Nat) : Prop where
  row : wr.ownsRow (w.heap.size + 1) 9 1 v seen.length (seen.map Value.string)
  map : ∃ (n : Nat) (D : DataW Unit), wr.ownsMap Tryz.prog 9 (plainElem Tryz.prog 3) w.heap.size n D ∧ OncI D seen ∧ n ≤ k
  kept : Kept w wr
open Classical in
set_option maxHeartbeats 8000000 in
set_option maxRecDepth 100000 in
theorem once_ok (w : World) (ao : Option Addr) (cap : Nat) (ts : List ByteArray) (hS : StA w ao ts) (hl : ts.length ≤ 4194304) (hs : ∀ s ∈ ts, s.size ≤ maxLen) :
    Calls Tryz.prog 29 #[.slice ao ts.length cap] w fun e w' => ∃ v, e = .returned v ∧ w'.ownsRow w.heap.size 9 1 v (onceT ts).length ((onceT ts).map Value.string) ∧ Kept w w' := by
  obtain ⟨i0, hi, hz0, hz1, hz2⟩ := info_parts infoSo
  have hmm := @run_makeMap Tryz.prog
  have HSt : Hid (StA w ao ts) := hS
  have HSz : Hid (∀ s ∈ ts, s.size ≤ maxLen) := hs
  have HS0 : Hid (OncS w (w.alloc (.map #[] 0)) (.slice none 0 0) [] 0) := ⟨⟨rfl, .inl ⟨rfl, rfl⟩⟩, ⟨0, _, World.ownsMap_made w _ _ _, OncI.empty, Nat.le_refl _⟩, Kept.alloc (Below.refl _ _) _⟩
  clear hS hs
  go_enter Tryz.func29, Tryz.ntmps29
  go_wp2_with fail
  go_loopw [4, 11] (fun lv iv wr => ∃ (k : Nat) (v : Value), lv = v ∧ iv = .int .i64 k ∧ k ≤ ts.length ∧ Hid (OncS w wr v (onceT (ts.take k)) k)) (fun _ i _ => ts.length - (intOf i).toNat)
  case atStart => exact ⟨0, _, rfl, rfl, Nat.zero_le _, HS0.out⟩
  case round =>
    obtain ⟨k, v, hvv, rfl, hk, hR⟩ := hrel
    obtain rfl : v = _ := hvv.symm
    clear HS0
    by_cases hlt : k < ts.length
    · obtain ⟨t, ht⟩ : ∃ t, ts[k]? = some t := ⟨ts[k], List.getElem?_eq_getElem hlt⟩
      have q1 : (k : Int) < (ts.length : Int) := by omega
      have q2 : (k : Int) + 1 ≤ 9223372036854775807 := by omega
      obtain ⟨b, off, rfl, hc0⟩ := HSt.out k t ht
      have hbl := World.block_lt_of_cell? _ _ hc0
      have hc : wr.cell? ⟨b, off + k, none⟩ = some (.string t) := (hR.out.kept.cell (p := ⟨b, off + k, none⟩) hbl).trans hc0
      simp only at hbl
      clear hc0
      have htz := HSz.out t (List.mem_of_getElem? ht)
      have hkey := WideMaps.keyOf_string_mk Tryz.underlying9 htz
      obtain ⟨hrow, ⟨n, D, hown, hD, hn⟩, hK⟩ := hR.out
      have hhas := hD.has t
      have hTk := onceT_take ht
      have hln := onceT_len (ts.take k)
      rw [List.length_take] at hln
      have hln2 : (onceT (ts.take k)).length ≤ 4194304 := by omega
      obtain ⟨seen, hseen⟩ : ∃ s, onceT (ts.take k) = s := ⟨_, rfl⟩
      rw [hseen] at hrow hhas hTk hD hln2
      by_cases hin : t ∈ seen
      · have HS : Hid (onceT (ts.take (k + 1)) = onceT (ts.take k)) := by rw [Hid, hTk, hseen]; exact if_pos hin
        rw [decide_eq_true hin] at hhas
        have HK : Hid (OncS w wr v (onceT (ts.take k)) k) := hR
        clear hrow hD hK hTk hseen hln hin ht hR
        go_wp2_with (at_lookup; refine wpList_lookup_own_ok_int _ rfl _ _ 82 rfl 9 3 .i64 lawO Tryz.underlying82 Tryz.underlying3 (Tryz.zeroValue3 _) w.heap.size n _ rfl hown _ _ rfl hkey ?_; intro c hat hwc; clear hat; rw [hhas])
        go_roundw
        case rel => exact ⟨k + 1, v, rfl, by go_num, by omega, by rw [HS.out]; exact ⟨HK.out.row, by obtain ⟨n', D', a1, a2, a3⟩ := HK.out.map; exact ⟨n', D', a1, a2, by omega⟩, HK.out.kept⟩⟩
        case measure => simp [intOf]; omega
      · have HS : Hid (onceT (ts.take (k + 1)) = seen ++ [t]) := by rw [Hid, hTk]; exact if_neg hin
        have HP : Hid (∀ d, OncI (D.put (.string t.data.toList) d) (seen ++ [t])) := fun d => hD.put (hown.tidy lawO) t d
        rw [decide_eq_false hin] at hhas
        have HKp : Hid (Kept w wr) := hK
        have hwl := hown.lt
        have hwK := hK.size
        obtain ⟨ab, ac, ev⟩ : ∃ a c, v = .slice a seen.length c := by
          obtain ⟨_, ⟨e, h0⟩ | ⟨g, c, cur, e, _⟩⟩ := hrow
          · exact ⟨none, 0, by rw [e, h0]⟩
          · exact ⟨_, _, e⟩
        subst ev
        have HNe : Hid ((Value.slice ab seen.length ac).ownBlock = none ∨ (Value.slice ab seen.length ac).ownBlock ≠ some w.heap.size) := by
          obtain ⟨_, ⟨e1, _⟩ | ⟨g, c, cur, e1, hg, _⟩⟩ := hrow
          · left; rw [e1]; rfl
          · right; rw [e1]; simp [Value.ownBlock]; omega
        have HCc : Hid (∀ w2, wr.grownBy w2 (some w.heap.size) → w2.cell? ⟨b, off + k, none⟩ = some (.string t)) := fun w2 hg2 => by
          have e1 := hg2.block b (by omega) (by intro e; injection e with e; omega)
          simpa [World.cell?, e1] using hc
        clear hD hK hTk hseen hln hin ht hR
        go_wp2_with (first
          | (at_lookup; refine wpList_lookup_own_ok_int _ rfl _ _ 82 rfl 9 3 .i64 lawO Tryz.underlying82 Tryz.underlying3 (Tryz.zeroValue3 _) w.heap.size n _ rfl hown _ _ rfl hkey ?_; intro c hat hwc; clear hat; rw [hhas])
          | (at_mapUpdate; refine wpList_mapUpdate_own _ rfl _ _ _ 82 rfl 9 3 lawO Tryz.underlying82 _ w.heap.size n _ rfl hown (by unfold maxLen; omega) _ _ _ rfl rfl hkey _ [] (plainElem_int Tryz.underlying3 (WalkArith.wf_i64 (by omega))) ?_; intro w2 hown2 hg2; have hrow2 := World.ownsRow.kept hrow hg2 HNe.out; have hsz2 := hg2.size; have hc2 : w2.cell? ⟨b, off + k, none⟩ = some (.string t) := (HCc.out w2 hg2))
          | (at_builtin; refine wpList_append_lies _ rfl _ _ 43 rfl (w.heap.size + 1) 9 i0 (.string ⟨#[]⟩) 1 16 Tryz.underlying43 hi hz0 hz1 hz2 rfl (by decide) (.slice ab seen.length ac) seen.length (seen.map Value.string) rfl (hrow2.alloc _) ⟨w2.heap.size, 0, none⟩ 1 1 [.string t] rfl rfl (one_newS _ _ _) (by simp [Value.oneCell']) (by decide) (by unfold maxLen; omega) (by omega) (by simp; omega) (w2.heap.size + 1) (by simp) ?_; intro g c' w5 hown5 hg5 ho5 hlt5))
        have hK5 : Kept w w5 := Below.grown (Below.grown (Below.grown HKp.out hg2 hwK (fun j e => by injection e with e; omega)) (World.grownBy_alloc w2 (.cells #[.string t] 9) none) (Nat.le_trans hwK hsz2) (fun j e => by cases e)) hg5 (by simp; omega) (fun j e => by
          have := hrow2
          obtain ⟨_, ⟨e1, _⟩ | ⟨g', c1, cur, e1, hgg, _⟩⟩ := this
          · rw [e1] at e; simp [Value.ownBlock] at e
          · rw [e1] at e; simp [Value.ownBlock] at e; omega)
        have hM5 := (hown2.alloc (.cells #[.string t] 9)).kept hg5 (fun e => by
          rcases HNe.out with h | h
          · rw [h] at e; cases e
          · exact h e.symm)
        go_roundw
        case rel => exact ⟨k + 1, _, rfl, by go_num, by omega, by rw [HS.out]; exact ⟨by simpa using hown5, ⟨n + 1, _, hM5, HP.out _, by omega⟩, hK5⟩⟩
        case measure => simp [intOf]; omega
    · obtain rfl : k = ts.length := by omega
      have q1 : ¬ ((ts.length : Nat) : Int) < (ts.length : Int) := by omega
      have HF : Hid (OncS w wr v (onceT ts) ts.length) := by have := hR.out; rwa [List.take_length] at this
      clear hR
      go_wp2_with fail
      go_ret
      exact ⟨v, rfl, ownsRow_lowO HF.out.row (by omega), HF.out.kept⟩
end Go.Proofs.YtlinbkgeahgkjaaGreatDoor
namespace Go.Proofs.YtlinbkgeahgkjaaGreatDoor
open Go.RowKit

/-- A function of a program: its node, what it declares, the scopes that it sees. -/
structure FnP where
  nd : Nd
  decl : List ByteArray
  sc : List (List ByteArray)
mutual
noncomputable def fnK : Nd → List (List ByteArray) → List FnP
  | .mk op s n ks, sc => if op = 27 then ⟨.mk op s n ks, declL op s ks, sc ++ [onceT (declL op s ks)]⟩ :: fnsK ks (sc ++ [onceT (declL op s ks)]) else fnsK ks sc
noncomputable def fnsK : List Nd → List (List ByteArray) → List FnP
  | [], _ => []
  | k :: ks, sc => fnK k sc ++ fnsK ks sc
end
noncomputable def fnT (sc : List (List ByteArray)) : Nd → List FnP
  | .mk op s n ks => ⟨.mk op s n ks, declL op s ks, sc ++ [onceT (declL op s ks)]⟩ :: fnsK ks (sc ++ [onceT (declL op s ks)])
noncomputable def flG (sc : List (List ByteArray)) : List Nd → List FnP
  | [] => []
  | .mk op s n ks :: r => (if op = 27 then fnT sc (.mk op s n ks) else []) ++ flG sc r
theorem flG_app (sc : List (List ByteArray)) (a b : List Nd) : flG sc (a ++ b) = flG sc a ++ flG sc b := by
  induction a with
  | nil => rfl
  | cons x a ih => obtain ⟨op, s, n, ks⟩ := x; simp only [List.cons_append, flG, ih, List.append_assoc]
mutual
theorem wi_fnK : ∀ (t : Nd) (sc : List (List ByteArray)), flG sc (wiK t) = fnK t sc
  | .mk op s n ks, sc => by
    have h := wis_fnK ks sc
    simp only [wiK, flG, fnK, fnT]
    by_cases h27 : op = 27
    · simp [h27, flG]
    · simp [h27, h]
theorem wis_fnK : ∀ (ks : List Nd) (sc : List (List ByteArray)), flG sc (wisK ks) = fnsK ks sc
  | [], sc => by simp [wisK, flG, fnsK]
  | k :: ks, sc => by
    have h1 := wi_fnK k sc
    have h2 := wis_fnK ks sc
    simp only [wisK, flG_app, fnsK, h1, h2]
end
mutual
theorem fnK_nd : ∀ (t : Nd) (sc : List (List ByteArray)), (fnK t sc).map (·.nd) = funL t
  | .mk op s n ks, sc => by
    simp only [fnK, funL]
    by_cases h27 : op = 27
    · simp [h27, fnsK_nd ks]
    · simp [h27, fnsK_nd ks]
theorem fnsK_nd : ∀ (ks : List Nd) (sc : List (List ByteArray)), (fnsK ks sc).map (·.nd) = funsL ks
  | [], sc => by simp [fnsK, funsL]
  | k :: ks, sc => by
    have h1 := fnK_nd k sc
    have h2 := fnsK_nd ks sc
    simp only [fnsK, funsL, List.map_append, h1, h2]
end
theorem fnT_nd (sc : List (List ByteArray)) (op n : Int) (s : ByteArray) (ks : List Nd) : (fnT sc (.mk op s n ks)).map (·.nd) = .mk op s n ks :: funsL ks := by simp [fnT, fnsK_nd]
theorem fnT_len (sc : List (List ByteArray)) (t : Nd) : (fnT sc t).length ≤ t.size := by
  obtain ⟨op, s, n, ks⟩ := t
  have h := congrArg List.length (fnT_nd sc op n s ks)
  have := funs_len ks
  simp at h
  simp only [Nd.size]
  omega
theorem flG_len {sc : List (List ByteArray)} {pre ks : List Nd} (h : pre <+: wisK ks) : (flG sc pre).length ≤ sizesN ks := by
  obtain ⟨r, e⟩ := h
  have h1 := wis_fnK ks sc
  rw [← e, flG_app] at h1
  have h2 := congrArg List.length (fnsK_nd ks sc)
  rw [List.length_map] at h2
  have := funs_len ks
  rw [← h1, List.length_append] at h2
  omega
mutual
/-- What is within a node is no greater than it. -/
theorem wiK_mem : ∀ (t : Nd), ∀ x ∈ wiK t, x.size ≤ t.size ∧ x.bulk ≤ t.bulk
  | .mk op s n ks => by
    intro x hx
    simp only [wiK, List.mem_cons] at hx
    rcases hx with rfl | hx
    · exact ⟨Nat.le_refl _, Nat.le_refl _⟩
    · split at hx
      · simp at hx
      · have := wisK_mem ks x hx
        simp only [Nd.size, Nd.bulk]
        omega
theorem wisK_mem : ∀ (ks : List Nd), ∀ x ∈ wisK ks, x.size ≤ sizesN ks ∧ x.bulk ≤ bulksN ks
  | [] => by intro x hx; simp [wisK] at hx
  | k :: ks => by
    intro x hx
    simp only [wisK, List.mem_append] at hx
    simp only [sizesN, bulksN]
    rcases hx with hx | hx
    · have := wiK_mem k x hx; omega
    · have := wisK_mem ks x hx; omega
end
theorem parts_size (sep : ByteArray) : ∀ (k : Nat) (s : ByteArray), ∀ x ∈ Lib.splitB sep 0 k s, x.size ≤ s.size
  | 0, s => by intro x hx; simp [Lib.splitB] at hx; subst hx; exact Nat.le_refl _
  | k + 1, s => by
    intro x hx
    rw [Lib.splitB] at hx
    split at hx
    · simp at hx; subst hx; exact Nat.le_refl _
    · simp only [List.mem_cons] at hx
      rcases hx with rfl | hx
      · rw [ByteArray.size_extract]; omega
      · have := parts_size sep k _ x hx
        rw [ByteArray.size_extract] at this
        omega
theorem lets_size {l : List Nd} {B : Nat} (h : ∀ x ∈ l, x.bulk ≤ B) : ∀ s ∈ letsL l, s.size ≤ B := by
  induction l with
  | nil => intro s hs; simp [letsL] at hs
  | cons x l ih =>
    obtain ⟨op, s', n, ks⟩ := x
    intro s hs
    simp only [letsL, List.mem_append] at hs
    rcases hs with hs | hs
    · split at hs
      · simp at hs
        subst hs
        have := h (.mk op s n ks) (by simp)
        simp only [Nd.bulk] at this
        omega
      · simp at hs
    · exact ih (fun x hx => h x (by simp [hx])) s hs
theorem decl_size (op : Int) (s : ByteArray) (ks : List Nd) : ∀ x ∈ declL op s ks, x.size ≤ s.size + bulksN ks := by
  intro x hx
  simp only [declL, List.mem_append] at hx
  rcases hx with hx | hx
  · unfold namesL at hx
    split at hx
    · split at hx
      · simp at hx
      · have := parts_size _ _ _ x hx; omega
    · simp at hx
  · have := lets_size (B := bulksN ks) (fun y hy => (wisK_mem ks y hy).2) x hx; omega
theorem decl_len {op : Int} {s : ByteArray} {ks : List Nd} (hs : s.size ≤ 1048576) (hk : sizesN ks ≤ 1000000) : (declL op s ks).length ≤ 2100000 := by
  have h1 := namesL_len (op := op) hs
  have h2 := letsL_len (wisK ks)
  have h3 := wisK_len ks
  simp only [declL, List.length_append]
  omega
/-- What stays of texts and rows of texts. -/
structure Stab (W W' : World) : Prop where
  st : ∀ (b : Nat) cs ty fz, W.heap[b]? = some (.cells cs ty fz) → ty = 9 ∨ ty = 43 → W'.heap[b]? = W.heap[b]?
theorem Stab.kept {W W' : World} (h : Kept W W') : Stab W W' := ⟨fun b _ _ _ hb _ => h.block b (Array.getElem?_eq_some_iff.1 hb).1⟩
theorem Stab.trans {a b c : World} (h : Stab a b) (k : Stab b c) : Stab a c := ⟨fun i cs ty fz hi ht => (k.st i cs ty fz ((h.st i cs ty fz hi ht).trans hi) ht).trans (h.st i cs ty fz hi ht)⟩
theorem Stab.ki {W W' : World} (h : KI W W') : Stab W W' := ⟨fun b cs ty fz hb ht => h.rest b (Array.getElem?_eq_some_iff.1 hb).1 (fun cs' fz' e => by
  rw [hb] at e
  injection e with e
  injection e with _ e
  subst e
  rcases ht with h | h
  · exact absurd h (by decide)
  · exact absurd h (by decide))⟩
theorem Stab.put {W : World} {l : Nat} {r : Loop} (h : W.heap[l]? = some (.loop r)) (o : Obj) : Stab W (W.putObj l o) := ⟨fun b cs ty fz hb _ => World.putObj_heap_other (fun e => by subst e; rw [h] at hb; cases hb)⟩
theorem Stab.grown {W W' : World} {g : Option Nat} (h : W.grownBy W' g) (hg : ∀ b, g = some b → ∀ cs ty fz, W.heap[b]? = some (.cells cs ty fz) → ty ≠ 9 ∧ ty ≠ 43) : Stab W W' :=
  ⟨fun b cs ty fz hb ht => h.block b (Array.getElem?_eq_some_iff.1 hb).1 (fun e => by
    have := hg b e.symm cs ty fz hb
    rcases ht with h | h
    · exact this.1 h
    · exact this.2 h)⟩
theorem Stab.set {W : World} {B : Nat} {j : Nat} {t : TypeId} {cs : Array Value} {u : Value} (h : Cells W B t cs) (ht : t ≠ 9 ∧ t ≠ 43) : Stab W (W.setCell ⟨B, j, none⟩ u) :=
  ⟨fun b cs' ty fz hb hty => Below.heap_setCell _ _ _ _ (fun e => by
    simp at e
    subst e
    rw [show W.heap[b]? = _ from h] at hb
    injection hb with hb
    injection hb with _ hb
    subst hb
    rcases hty with h | h
    · exact ht.1 h
    · exact ht.2 h)⟩
def StT (W : World) (a : Option Addr) (ts : List ByteArray) : Prop := ts = [] ∨ ∃ b cs fz, a = some ⟨b, 0, none⟩ ∧ W.heap[b]? = some (.cells cs 9 fz) ∧ ∀ (j : Nat) t, ts[j]? = some t → cs[j]? = some (.string t)
def SsT (W : World) (a : Option Addr) (tss : List (List ByteArray)) : Prop := tss = [] ∨ ∃ b cs fz, a = some ⟨b, 0, none⟩ ∧ W.heap[b]? = some (.cells cs 43 fz) ∧ ∀ (j : Nat) ts, tss[j]? = some ts → ∃ xo xc, cs[j]? = some (.slice xo ts.length xc) ∧ StT W xo ts
theorem StT.stab {W W' : World} {a : Option Addr} {ts : List ByteArray} (h : StT W a ts) (hs : Stab W W') : StT W' a ts := by
  rcases h with h | ⟨b, cs, fz, e, hb, hc⟩
  · exact .inl h
  · exact .inr ⟨b, cs, fz, e, (hs.st b _ _ _ hb (.inl rfl)).trans hb, hc⟩
theorem SsT.stab {W W' : World} {a : Option Addr} {tss : List (List ByteArray)} (h : SsT W a tss) (hs : Stab W W') : SsT W' a tss := by
  rcases h with h | ⟨b, cs, fz, e, hb, hc⟩
  · exact .inl h
  · refine .inr ⟨b, cs, fz, e, (hs.st b _ _ _ hb (.inr rfl)).trans hb, fun j ts hj => ?_⟩
    obtain ⟨xo, xc, h1, h2⟩ := hc j ts hj
    exact ⟨xo, xc, h1, h2.stab hs⟩
theorem StT.toA {W : World} {a : Option Addr} {ts : List ByteArray} (h : StT W a ts) : StA W a ts := by
  intro j t hj
  rcases h with rfl | ⟨b, cs, fz, e, hb, hc⟩
  · simp at hj
  · exact ⟨b, 0, e, by simpa [World.cell?, hb] using hc j t hj⟩
theorem SsT.toA {W : World} {a : Option Addr} {tss : List (List ByteArray)} (h : SsT W a tss) : SsA W a tss := by
  intro j t hj
  rcases h with rfl | ⟨b, cs, fz, e, hb, hc⟩
  · simp at hj
  · obtain ⟨xo, xc, h1, h2⟩ := hc j t hj
    exact ⟨b, 0, xo, xc, e, by simpa [World.cell?, hb] using h1, h2.toA⟩
theorem TxO.toT {W : World} {B : Nat} {v : Value} {ts : List ByteArray} (h : W.ownsRow B 9 1 v ts.length (ts.map Value.string)) : ∃ a c, v = .slice a ts.length c ∧ StT W a ts := by
  obtain ⟨_, ⟨rfl, h0⟩ | ⟨g, cap, cur, rfl, _, hg, h1, h2, h3, h4⟩⟩ := h
  · exact ⟨none, 0, by rw [h0], .inl (List.length_eq_zero_iff.1 h0)⟩
  · refine ⟨_, cap, rfl, .inr ⟨g, cur, _, rfl, hg, fun j t hj => ?_⟩⟩
    have e : (ts.map Value.string)[j]? = some (.string t) := by rw [List.getElem?_map, hj]; rfl
    rw [← h4, List.getElem?_take] at e
    split at e
    · simpa using e
    · cases e
/-- The three cells of a function. -/
def FnC (WT W : World) (x : FnP) (c0 c1 c2 : Value) : Prop := (∃ q, c0 = .pointer (some q) ∧ NdAt WT x.nd q) ∧ (∃ a c, c1 = .slice a x.decl.length c ∧ StT W a x.decl) ∧ (∃ a c, c2 = .slice a x.sc.length c ∧ SsT W a x.sc)
theorem FnC.stab {WT W W' : World} {x : FnP} {c0 c1 c2 : Value} (h : FnC WT W x c0 c1 c2) (hs : Stab W W') : FnC WT W' x c0 c1 c2 := by
  obtain ⟨h0, ⟨a, c, h1, h2⟩, ⟨a', c', h3, h4⟩⟩ := h
  exact ⟨h0, ⟨a, c, h1, h2.stab hs⟩, ⟨a', c', h3, h4.stab hs⟩⟩
def FnX (WT W : World) (l : List FnP) (xs : List Value) : Prop := ∀ (i : Nat) x, l[i]? = some x → ∃ c0 c1 c2, xs[i * 3]? = some c0 ∧ xs[i * 3 + 1]? = some c1 ∧ xs[i * 3 + 2]? = some c2 ∧ FnC WT W x c0 c1 c2
theorem FnX.stab {WT W W' : World} {l : List FnP} {xs : List Value} (h : FnX WT W l xs) (hs : Stab W W') : FnX WT W' l xs := by
  intro i x hi
  obtain ⟨c0, c1, c2, h0, h1, h2, h3⟩ := h i x hi
  exact ⟨c0, c1, c2, h0, h1, h2, h3.stab hs⟩
theorem FnX.app {WT W : World} {l l' : List FnP} {xs xs' : List Value} (h : FnX WT W l xs) (h' : FnX WT W l' xs') (hl : xs.length = l.length * 3) : FnX WT W (l ++ l') (xs ++ xs') := by
  intro i x hi
  by_cases hlt : i < l.length
  · rw [List.getElem?_append_left hlt] at hi
    obtain ⟨c0, c1, c2, h0, h1, h2, h3⟩ := h i x hi
    exact ⟨c0, c1, c2, by rw [List.getElem?_append_left (by omega)]; exact h0, by rw [List.getElem?_append_left (by omega)]; exact h1, by rw [List.getElem?_append_left (by omega)]; exact h2, h3⟩
  · rw [List.getElem?_append_right (by omega)] at hi
    obtain ⟨c0, c1, c2, h0, h1, h2, h3⟩ := h' _ x hi
    have q : ∀ r, i * 3 + r - xs.length = (i - l.length) * 3 + r := fun r => by omega
    exact ⟨c0, c1, c2, by rw [List.getElem?_append_right (by omega)]; have := q 0; simp only [Nat.add_zero] at this; rw [this]; exact h0, by rw [List.getElem?_append_right (by omega), q]; exact h1, by rw [List.getElem?_append_right (by omega), q]; exact h2, h3⟩
/-- A row of functions of one's own. -/
def FnO (WT W : World) (B : Nat) (v : Value) (l : List FnP) : Prop := ∃ xs, W.ownsRow B 46 3 v l.length xs ∧ FnX WT W l xs
theorem FnO.kept {WT W W' : World} {B : Nat} {v : Value} {l : List FnP} (h : FnO WT W B v l) (hk : Kept W W') : FnO WT W' B v l := by
  obtain ⟨xs, h1, h2⟩ := h
  exact ⟨xs, World.ownsRow.kept h1 hk.grown (by cases e : v.ownBlock <;> simp), h2.stab (Stab.kept hk)⟩
theorem FnO.same {WT W W' : World} {B : Nat} {v : Value} {l : List FnP} (h : FnO WT W B v l) (hs : Stab W W') (hb : ∀ b cs, v.ownBlock = some b → W.heap[b]? = some (.cells cs 46 (0, 0)) → W'.heap[b]? = W.heap[b]?) : FnO WT W' B v l := by
  obtain ⟨xs, ⟨h0, h1 | ⟨g, cap, cur, rfl, h3, h4, h5⟩⟩, h2⟩ := h
  · exact ⟨xs, ⟨h0, .inl h1⟩, h2.stab hs⟩
  · exact ⟨xs, ⟨h0, .inr ⟨g, cap, cur, rfl, h3, (hb g cur rfl h4).trans h4, h5⟩⟩, h2.stab hs⟩
theorem FnO.slice {WT W : World} {B : Nat} {v : Value} {l : List FnP} (h : FnO WT W B v l) : ∃ a c, v = .slice a l.length c := by
  obtain ⟨xs, ⟨_, ⟨rfl, h0⟩ | ⟨g, c, cur, rfl, _⟩⟩, _⟩ := h
  · exact ⟨none, 0, by rw [h0]⟩
  · exact ⟨_, _, rfl⟩
theorem FnO.low {WT W : World} {B B' : Nat} {v : Value} {l : List FnP} (h : FnO WT W B v l) (hb : B' ≤ B) : FnO WT W B' v l := by
  obtain ⟨xs, ⟨h0, h1 | ⟨g, c, cur, e, h3, h4⟩⟩, h2⟩ := h
  · exact ⟨xs, ⟨h0, .inl h1⟩, h2⟩
  · exact ⟨xs, ⟨h0, .inr ⟨g, c, cur, e, by omega, h4⟩⟩, h2⟩
end Go.Proofs.YtlinbkgeahgkjaaGreatDoor
namespace Go.Proofs.YtlinbkgeahgkjaaGreatDoor
open Go.RowKit Go.Shelf
attribute [local go_sem] Oper.semAt_some
set_option linter.unusedSimpArgs false
set_option linter.unusedVariables false

theorem infoRs : (Tryz.prog.info? 43).map (fun i => (i.zero, i.size, i.bytes)) = some (some (.slice none 0 0), 1, 24) := by kernel_rfl
theorem infoFn : (Tryz.prog.info? 46).map (fun i => (i.zero, i.size, i.bytes)) = some (some (.agg #[.pointer none, .slice none 0 0, .slice none 0 0]), 3, 56) := by kernel_rfl
/-- append(about[:len:len], row): always a row of one's own. -/
theorem ss_app (u : World) (ao : Option Addr) (tss : List (List ByteArray)) (hS : SsT u ao tss) (g : Nat) (a8 : Option Addr) (c8 : Nat) (ts : List ByteArray) (h8 : Cells u g 43 #[.slice a8 ts.length c8]) (h8s : StT u a8 ts) (hao : (tss.length = 0 ∧ ao = none) ∨ ∃ b, ao = some ⟨b, 0, none⟩ ∧ 0 < tss.length) (hb : tss.length ≤ 1000) :
    ∃ v' w', (Builtin.append_ #[44, 44] 44 #[.slice ao tss.length tss.length, .slice (some ⟨g, 0, none⟩) 1 1]).run Tryz.prog u = .ok v' w' ∧ (∃ a c, v' = .slice a (tss.length + 1) c ∧ SsT w' a (tss ++ [ts]) ∧ tss.length + 1 ≤ c) ∧ Kept u w' := by
  obtain ⟨i0, hi, hz0, hz1, hz2⟩ := info_parts infoRs
  have hnews : ∀ j x, [Value.slice a8 ts.length c8][j]? = some x → u.cell? ((⟨g, 0, none⟩ : Addr).add j) = some x := fun j x hx => by
    match j, hx with
    | 0, hx =>
      simp at hx
      subst hx
      exact h8.cell 0
  obtain ⟨v', w', hr, hown, hg, olds, hol⟩ : ∃ v' w', (Builtin.append_ #[44, 44] 44 #[.slice ao tss.length tss.length, .slice (some ⟨g, 0, none⟩) 1 1]).run Tryz.prog u = .ok v' w' ∧ (∃ olds : List Value, w'.ownsRow 0 43 1 v' (tss.length + 1) (olds ++ [.slice a8 ts.length c8]) ∧ olds.length = tss.length ∧ ∀ (j : Nat) (t : List ByteArray), tss[j]? = some t → ∃ xo xc, olds[j]? = some (Value.slice xo t.length xc) ∧ StT u xo t) ∧ Kept u w' ∧ True ∧ True := by
    rcases hao with ⟨h0, rfl⟩ | ⟨b, rfl, hpos⟩
    · have e0 : tss = [] := List.length_eq_zero_iff.1 h0
      subst e0
      obtain ⟨v', w', hr, hown, hg, _⟩ := run_append_own_at (P := Tryz.prog) u 0 44 44 43 i0 _ 1 24 Tryz.underlying44 hi hz0 hz1 hz2 rfl (by decide) (.slice none 0 0) 0 [] ⟨rfl, .inl ⟨rfl, rfl⟩⟩ ⟨g, 0, none⟩ 1 1 [.slice a8 ts.length c8] rfl hnews (by simp [Value.oneCell']) (by unfold maxLen; omega) (by omega) (Nat.zero_le _)
      exact ⟨v', w', hr, ⟨[], hown, rfl, by simp⟩, (Below.refl _ u).grown hg (Nat.le_refl _) (fun k e => by simp [Value.ownBlock] at e), trivial, trivial⟩
    · obtain ⟨b', cs, fz, e, hbb, hcs⟩ : ∃ b' cs fz, (some ⟨b, 0, none⟩ : Option Addr) = some ⟨b', 0, none⟩ ∧ u.heap[b']? = some (.cells cs 43 fz) ∧ ∀ (j : Nat) ts, tss[j]? = some ts → ∃ xo xc, cs[j]? = some (.slice xo ts.length xc) ∧ StT u xo ts := by
        rcases hS with h | h
        · rw [h] at hpos; simp at hpos
        · exact h
      simp at e
      subst e
      have hget : ∀ j, j < tss.length → ∃ xo t xc, tss[j]? = some t ∧ cs[j]? = some (.slice xo t.length xc) ∧ StT u xo t := fun j hj => by
        obtain ⟨t, ht⟩ : ∃ t, tss[j]? = some t := ⟨_, List.getElem?_eq_getElem hj⟩
        obtain ⟨xo, xc, h1, h2⟩ := hcs j t ht
        exact ⟨xo, t, xc, ht, h1, h2⟩
      have holds : ∀ j x, ((List.range tss.length).map (fun j => cs.getD j undef))[j]? = some x → u.cell? ((⟨b, 0, none⟩ : Addr).add j) = some x := fun j x hx => by
        rw [List.getElem?_map] at hx
        obtain ⟨j', hj', e⟩ := Option.map_eq_some_iff.1 hx
        obtain ⟨hlt, rfl⟩ := List.getElem?_eq_some_iff.1 hj'
        simp at hlt
        simp only [List.getElem_range] at e
        obtain ⟨xo, t, xc, _, h1, _⟩ := hget j hlt
        rw [Array.getD_eq_getD_getElem?, h1] at e
        simp at e
        subst e
        rw [Addr.add_lit, Nat.zero_add]
        simp [World.cell?, hbb, h1]
      obtain ⟨v', w', hr, hown, hg⟩ := run_append_arg_grows (P := Tryz.prog) u 44 44 43 i0 _ 1 24 Tryz.underlying44 hi hz0 hz1 hz2 rfl (by decide) ⟨b, 0, none⟩ tss.length tss.length ((List.range tss.length).map (fun j => cs.getD j undef)) (by simp) holds ⟨g, 0, none⟩ 1 1 [.slice a8 ts.length c8] rfl hnews (by omega) (by unfold maxLen; omega) (by omega)
      refine ⟨v', w', hr, ⟨_, ownsRow_lowO hown (Nat.zero_le _), by simp, fun j t ht => ?_⟩, (Below.refl _ u).grown hg (Nat.le_refl _) (fun k e => by cases e), trivial, trivial⟩
      have hlt := (List.getElem?_eq_some_iff.1 ht).1
      obtain ⟨xo, xc, h1, h2⟩ := hcs j t ht
      exact ⟨xo, xc, by rw [List.getElem?_map, List.getElem?_range hlt]; simp [Array.getD_eq_getD_getElem?, h1], h2⟩
  obtain ⟨olds, hown, hll, hin⟩ := hown
  obtain ⟨_, ⟨_, h0⟩ | ⟨gg, c, cur, rfl, _, hgg, h1, h2, h3, h4⟩⟩ := hown
  · simp at h0
  · refine ⟨_, w', hr, ⟨_, c, rfl, .inr ⟨gg, cur, _, rfl, hgg, fun j t ht => ?_⟩, h1⟩, hg⟩
    have cell : ∀ x, (olds ++ [Value.slice a8 ts.length c8])[j]? = some x → cur[j]? = some x := fun x hx => by
      rw [← h4, List.getElem?_take] at hx
      split at hx
      · simpa using hx
      · cases hx
    by_cases hj : j < tss.length
    · rw [List.getElem?_append_left hj] at ht
      obtain ⟨xo, xc, g1, g2⟩ := hin j t ht
      exact ⟨xo, xc, cell _ (by rw [List.getElem?_append_left (by omega)]; exact g1), g2.stab (Stab.kept hg)⟩
    · have hjl := (List.getElem?_eq_some_iff.1 ht).1
      simp at hjl
      have ej : j = tss.length := by omega
      subst ej
      simp at ht
      subst ht
      exact ⟨a8, c8, cell _ (by rw [List.getElem?_append_right (by omega), hll]; simp), h8s.stab (Stab.kept hg)⟩
theorem FnO.one {WT W : World} {g : Nat} {x : FnP} {c0 c1 c2 : Value} (h : Cells W g 46 #[c0, c1, c2]) (hx : FnC WT W x c0 c1 c2) : FnO WT W g (.slice (some ⟨g, 0, none⟩) 1 1) [x] :=
  ⟨[c0, c1, c2], ⟨rfl, .inr ⟨g, 1, _, rfl, Nat.le_refl _, h, Nat.le_refl _, by unfold maxLen; omega, rfl, rfl⟩⟩, fun i y hi => by
    match i, hi with
    | 0, hi =>
      simp at hi
      subst hi
      exact ⟨c0, c1, c2, rfl, rfl, rfl, hx⟩⟩
theorem FnX.oneCell {WT W : World} {l : List FnP} {xs : List Value} (h : FnX WT W l xs) (hl : xs.length = l.length * 3) : ∀ u ∈ xs, u.oneCell' = true := by
  intro u hu
  obtain ⟨j, hj⟩ := List.getElem?_of_mem hu
  have hjl := (List.getElem?_eq_some_iff.1 hj).1
  obtain ⟨x, hx⟩ : ∃ x, l[j / 3]? = some x := ⟨_, List.getElem?_eq_getElem (by omega)⟩
  obtain ⟨c0, c1, c2, e0, e1, e2, ⟨q, rfl, _⟩, ⟨a, c, rfl, _⟩, ⟨a', c', rfl, _⟩⟩ := h _ _ hx
  rcases (show j = j / 3 * 3 ∨ j = j / 3 * 3 + 1 ∨ j = j / 3 * 3 + 2 by omega) with h | h | h <;> rw [h] at hj
  · rw [e0] at hj; injection hj with hj; rw [← hj]; rfl
  · rw [e1] at hj; injection hj with hj; rw [← hj]; rfl
  · rw [e2] at hj; injection hj with hj; rw [← hj]; rfl
def ffaR (W : World) (ao : Option Addr) (L cap : Nat) (va : Option Addr) (D vc : Nat) (ts : List ByteArray) (tss : List (List ByteArray)) (j : Nat) (vs : Nat → Value) (u : World) : Prop :=
  match j, vs, u with
  | 0, vs, _ => vs 0 = .slice ao L cap
  | 1, vs, _ => vs 1 = .slice ao L cap
  | 2, vs, _ => vs 2 = .int .i64 (L : Nat)
  | 3, vs, _ => vs 3 = .slice ao L cap
  | 4, vs, _ => vs 4 = .int .i64 (L : Nat)
  | 5, vs, _ => vs 5 = .slice ao L L
  | 6, vs, _ => vs 6 = .slice va D vc
  | 7, vs, u => ∃ a c, vs 7 = .slice a ts.length c ∧ StT u a ts
  | 8, vs, u => ∃ g a c, vs 8 = .slice (some ⟨g, 0, none⟩) 1 1 ∧ Cells u g 43 #[.slice a ts.length c] ∧ StT u a ts
  | 9, vs, u => ∃ a c, vs 9 = .slice a (L + 1) c ∧ SsT u a (tss ++ [ts]) ∧ L + 1 ≤ c
  | 10, vs, u => ∃ b, vs 10 = .pointer (some ⟨b, 0, none⟩) ∧ Cells u b 44 #[.slice none 0 0] ∧ W.heap.size ≤ b
  | _, _, _ => True
def ffaT (W : World) (ao : Option Addr) (L cap : Nat) (va : Option Addr) (D vc : Nat) (ts : List ByteArray) (tss : List (List ByteArray)) : Told := ⟨ffaR W ao L cap va D vc ts tss, fun u => Kept W u⟩
theorem ffaR_vs (W : World) (ao : Option Addr) (L cap : Nat) (va : Option Addr) (D vc : Nat) (ts : List ByteArray) (tss : List (List ByteArray)) {j : Nat} {vs vs' : Nat → Value} {u : World} (e : vs j = vs' j) (h : ffaR W ao L cap va D vc ts tss j vs u) : ffaR W ao L cap va D vc ts tss j vs' u := by
  match j, e, h with
  | 0, e, h => simp only [ffaR] at h ⊢; rw [← e]; exact h
  | 1, e, h => simp only [ffaR] at h ⊢; rw [← e]; exact h
  | 2, e, h => simp only [ffaR] at h ⊢; rw [← e]; exact h
  | 3, e, h => simp only [ffaR] at h ⊢; rw [← e]; exact h
  | 4, e, h => simp only [ffaR] at h ⊢; rw [← e]; exact h
  | 5, e, h => simp only [ffaR] at h ⊢; rw [← e]; exact h
  | 6, e, h => simp only [ffaR] at h ⊢; rw [← e]; exact h
  | 7, e, h => simp only [ffaR] at h ⊢; rw [← e]; exact h
  | 8, e, h => simp only [ffaR] at h ⊢; rw [← e]; exact h
  | 9, e, h => simp only [ffaR] at h ⊢; rw [← e]; exact h
  | 10, e, h => simp only [ffaR] at h ⊢; rw [← e]; exact h
  | _ + 11, _, _ => trivial
theorem ffaT_own {ops : Array Oper} (W : World) (ao : Option Addr) (L cap : Nat) (va : Option Addr) (D vc : Nat) (ts : List ByteArray) (tss : List (List ByteArray)) : (ffaT W ao L cap va D vc ts tss).own ops := fun j vs vs' u h hR => ffaR_vs W ao L cap va D vc ts tss (h j (.inl rfl)) hR
theorem ffaR_kept (W : World) (ao : Option Addr) (L cap : Nat) (va : Option Addr) (D vc : Nat) (ts : List ByteArray) (tss : List (List ByteArray)) {u u' : World} (hk : Kept u u') (j : Nat) (vs : Nat → Value) (h : ffaR W ao L cap va D vc ts tss j vs u) : ffaR W ao L cap va D vc ts tss j vs u' := by
  match j, h with
  | 0, h => exact h
  | 1, h => exact h
  | 2, h => exact h
  | 3, h => exact h
  | 4, h => exact h
  | 5, h => exact h
  | 6, h => exact h
  | 7, h => exact (by obtain ⟨a, c, h1, h2⟩ := h; exact ⟨a, c, h1, h2.stab (Stab.kept hk)⟩)
  | 8, h => exact (by obtain ⟨g, a, c, h1, h2, h3⟩ := h; exact ⟨g, a, c, h1, h2.kept hk, h3.stab (Stab.kept hk)⟩)
  | 9, h => exact (by obtain ⟨a, c, h1, h2, h3⟩ := h; exact ⟨a, c, h1, h2.stab (Stab.kept hk), h3⟩)
  | 10, h => exact (by obtain ⟨b, h1, h2, h3⟩ := h; exact ⟨b, h1, h2.kept hk, h3⟩)
  | _ + 11, _ => trivial
def ffbR (WT W : World) (bx ox : Nat) (v sv : Value) (l : List FnP) (j : Nat) (vs : Nat → Value) (u : World) : Prop :=
  match j, vs, u with
  | 0, vs, _ => vs 0 = v
  | 1, vs, _ => vs 1 = .pointer (some ⟨bx, ox, none⟩)
  | 2, vs, _ => vs 2 = sv
  | 3, vs, u => FnO WT u 0 (vs 3) l
  | _, _, _ => True
def ffbT (WT W : World) (bx ox : Nat) (v sv : Value) (l : List FnP) : Told := ⟨ffbR WT W bx ox v sv l, fun u => Kept W u⟩
theorem ffbR_vs (WT W : World) (bx ox : Nat) (v sv : Value) (l : List FnP) {j : Nat} {vs vs' : Nat → Value} {u : World} (e : vs j = vs' j) (h : ffbR WT W bx ox v sv l j vs u) : ffbR WT W bx ox v sv l j vs' u := by
  match j, e, h with
  | 0, e, h => simp only [ffbR] at h ⊢; rw [← e]; exact h
  | 1, e, h => simp only [ffbR] at h ⊢; rw [← e]; exact h
  | 2, e, h => simp only [ffbR] at h ⊢; rw [← e]; exact h
  | 3, e, h => simp only [ffbR] at h ⊢; rw [← e]; exact h
  | _ + 4, _, _ => trivial
theorem ffbT_own {ops : Array Oper} (WT W : World) (bx ox : Nat) (v sv : Value) (l : List FnP) : (ffbT WT W bx ox v sv l).own ops := fun j vs vs' u h hR => ffbR_vs WT W bx ox v sv l (h j (.inl rfl)) hR
theorem ffbR_kept (WT W : World) (bx ox : Nat) (v sv : Value) (l : List FnP) {u u' : World} (hk : Kept u u') (j : Nat) (vs : Nat → Value) (h : ffbR WT W bx ox v sv l j vs u) : ffbR WT W bx ox v sv l j vs u' := by
  match j, h with
  | 0, h => exact h
  | 1, h => exact h
  | 2, h => exact h
  | 3, h => exact (by exact FnO.kept h hk)
  | _ + 4, _ => trivial
/-- What a loop over a function's nodes keeps. -/
def FfJ (WT : World) (B Bl Bs : Nat) (sv : Value) (sa : Option Addr) (sc : List (List ByteArray)) (l : List FnP) (W : World) : Prop := (∃ v, Cells W Bl 40 #[v] ∧ FnO WT W B v l) ∧ Cells W Bs 44 #[sv] ∧ SsT W sa sc
theorem FfJ.ki {WT W W' : World} {B Bl Bs : Nat} {sv : Value} {sa : Option Addr} {sc : List (List ByteArray)} {l : List FnP} (h : FfJ WT B Bl Bs sv sa sc l W) (hk : KI W W') : FfJ WT B Bl Bs sv sa sc l W' := by
  obtain ⟨⟨v, h1, h2⟩, h3, h4⟩ := h
  have key : ∀ (b : Nat) cs ty fz, W.heap[b]? = some (Obj.cells cs ty fz) → ty ≠ 42 → W'.heap[b]? = W.heap[b]? := fun b cs ty fz hb ht => hk.rest b (Array.getElem?_eq_some_iff.1 hb).1 (fun cs' fz' e => by
    rw [hb] at e
    injection e with e
    injection e with _ e
    exact ht e)
  exact ⟨⟨v, (key _ _ _ _ h1 (by decide)).trans h1, h2.same (Stab.ki hk) (fun b cs _ hb => key _ _ _ _ hb (by decide))⟩, (key _ _ _ _ h3 (by decide)).trans h3, h4.stab (Stab.ki hk)⟩
theorem FfJ.put {WT W : World} {B Bl Bs l0 : Nat} {r : Loop} {o : Obj} {sv : Value} {sa : Option Addr} {sc : List (List ByteArray)} {l : List FnP} (h : FfJ WT B Bl Bs sv sa sc l W) (hl : W.heap[l0]? = some (.loop r)) : FfJ WT B Bl Bs sv sa sc l (W.putObj l0 o) := by
  obtain ⟨⟨v, h1, h2⟩, h3, h4⟩ := h
  have key : ∀ (b : Nat) cs ty fz, W.heap[b]? = some (Obj.cells cs ty fz) → (W.putObj l0 o).heap[b]? = W.heap[b]? := fun b cs ty fz hb => World.putObj_heap_other (fun e => by subst e; rw [hl] at hb; cases hb)
  exact ⟨⟨v, (key _ _ _ _ h1).trans h1, h2.same (Stab.put hl o) (fun b cs _ hb => key _ _ _ _ hb)⟩, (key _ _ _ _ h3).trans h3, h4.stab (Stab.put hl o)⟩
def FfOk (t : Nd) : Prop := ∀ (WT w : World) (p : Addr) (tss : List (List ByteArray)) (ao : Option Addr) (cap : Nat), NdAt WT t p → Kept WT w → EnvA w → SsT w ao tss → ((tss.length = 0 ∧ ao = none) ∨ ∃ b, ao = some ⟨b, 0, none⟩ ∧ 0 < tss.length) → tss.length ≤ cap → (tss.length = 0 → cap = 0) → tss.length + t.size ≤ 1000 → t.bulk ≤ 1048576 →
    Calls Tryz.prog 19 #[.pointer (some p), .slice ao tss.length cap] w fun e w' => ∃ v, e = .returned v ∧ FnO WT w' w.heap.size v (fnT tss t) ∧ Kept w w'
set_option maxHeartbeats 16000000 in
set_option maxRecDepth 100000 in
theorem functionsFrom_ok : ∀ (m : Nat) (t : Nd), t.size ≤ m → FfOk t := by
  intro m
  induction m with
  | zero =>
    intro t ht
    have := t.size_pos
    omega
  | succ m ih =>
    intro t ht WT w p tss ao cap hT hK hE hS hao hcap hcap0 hsz hbk
    obtain ⟨op, s, n, ks⟩ := t
    simp only [Nd.size] at ht hsz
    simp only [Nd.bulk] at hbk
    have HIH : Hid (∀ (t : Nd), t.size ≤ m → FfOk t) := ih
    have hDe := declared_ok w op n s ks p (by simp only [Nd.size]; omega) (hT.kept hK) hE (by omega)
    have hDs := decl_size op s ks
    have hDl := decl_len (op := op) (s := s) (ks := ks) (by omega) (by omega)
    obtain ⟨dl, hdl⟩ : ∃ d, declL op s ks = d := ⟨_, rfl⟩
    have HFn : Hid (fnT tss (.mk op s n ks) = ⟨.mk op s n ks, dl, tss ++ [onceT dl]⟩ :: fnsK ks (tss ++ [onceT dl])) := by rw [Hid, fnT, hdl]
    rw [hdl] at hDe hDs hDl
    have HDe : Hid (dl.length ≤ 4194304 ∧ ∀ x ∈ dl, x.size ≤ maxLen) := ⟨by omega, fun x hx => by have := hDs x hx; unfold maxLen; omega⟩
    have HT : Hid (NdAt WT (.mk op s n ks) p) := hT
    have HK : Hid (Kept WT w) := hK
    have HE : Hid (EnvA w) := hE
    have HS : Hid (SsT w ao tss) := hS
    obtain ⟨L, hL⟩ : ∃ L, tss.length = L := ⟨_, rfl⟩
    have HLen : Hid (tss.length = L) := hL
    have HAo' : Hid ((tss.length = 0 ∧ ao = none) ∨ ∃ b, ao = some ⟨b, 0, none⟩ ∧ 0 < tss.length) := hao
    rw [hL] at hao hcap hcap0 hsz ⊢
    have HAo : Hid ((L = 0 ∧ ao = none) ∨ ∃ b, ao = some ⟨b, 0, none⟩ ∧ 0 < L) := hao
    have HCap : Hid (L ≤ cap ∧ (L = 0 → cap = 0)) := ⟨hcap, hcap0⟩
    have HSz : Hid (L + (1 + sizesN ks) ≤ 1000 ∧ 1 + sizesN ks ≤ m + 1 ∧ s.size + (ks.length + bulksN ks) ≤ 1048576) := ⟨hsz, ht, hbk⟩
    obtain ⟨D, hD⟩ : ∃ D, dl.length = D := ⟨_, rfl⟩
    have HD : Hid (dl.length = D) := hD
    clear ih hT hK hE hS hao hcap hcap0 hsz hbk ht hDs hDl hdl
    refine (callsIn_wide (n := 9)).1 ?_
    refine callsIn_of_wp_marks Tryz.func19 rfl trivial ?_ rfl
    simp only [Tryz.ntmps19, List.size_toArray, List.length_cons, List.length_nil, Nat.reduceAdd, Nat.reduceSub, Array.replicate_succ, Array.replicate_zero, List.push_toArray, List.append_toArray, List.nil_append, List.cons_append]
    refine wpIn_wide.2 ?_
    go_wp2_with (go_at_call 27; refine hDe.mono ?_; rintro e w1 ⟨v1, rfl, hO1, hk1⟩; obtain ⟨va, vc, rfl, hst1⟩ := TxO.toT hO1)
    try rw [hD]
    clear hL hD hDe
    have kd1 : Kept w1 w1.drew := (Below.refl _ _).drew
    have HO1 : Hid (StT w1 va dl ∧ Kept w w1) := ⟨hst1, hk1⟩
    obtain ⟨ts, hts⟩ : ∃ ts, onceT dl = ts := ⟨_, rfl⟩
    have HOn : Hid (∀ u, Kept w1.drew u → Calls Tryz.prog 29 #[.slice va D vc] u fun e w' => ∃ v, e = .returned v ∧ w'.ownsRow u.heap.size 9 1 v ts.length (ts.map Value.string) ∧ Kept u w') := fun u hu => by
      have h := once_ok u va vc dl (hst1.toA.kept (kd1.trans hu)) HDe.out.1 HDe.out.2
      rw [HD.out, hts] at h
      exact h
    have HSs : Hid (∀ u, Kept w1.drew u → SsT u ao tss) := fun u hu => HS.out.stab (Stab.kept (Kept.trans hk1 (kd1.trans hu)))
    have HBd : Hid (tss.length ≤ 1000) := by have := HLen.out; have := HSz.out.1; rw [Hid]; omega
    have HAo0 : Hid _ := HAo
    rw [hts] at HFn
    clear hts hst1 hk1
    refine wp_region_told 11 (ffaT w1.drew ao L cap va D vc ts tss) (fun _ _ => false) (by kernel_rfl) (by kernel_rfl) (by decide) (by kernel_rfl) (by kernel_rfl) (ffaT_own _ _ _ _ _ _ _ _ _) (Below.refl _ _) ?_ ?_
    · intro i hi vs
      rcases (show i = 0 ∨ i = 1 ∨ i = 2 ∨ i = 3 ∨ i = 4 ∨ i = 5 ∨ i = 6 ∨ i = 7 ∨ i = 8 ∨ i = 9 ∨ i = 10 by omega) with rfl | rfl | rfl | rfl | rfl | rfl | rfl | rfl | rfl | rfl | rfl
      · refine ⟨_, rfl, fun u hu hd => .inl ⟨.slice ao L cap, u, ?_, hu, by simp [ffaT, ffaR, vsX], (fun j _ _ _ h => h)⟩⟩
        simp only [frR, dstAt, List.getElem?_toArray, List.getElem?_cons_zero, List.getElem?_cons_succ, Option.bind_some, Act.put, List.setIfInBounds_toArray, List.set_cons_zero, List.set_cons_succ]; go_simp; first | done | exact rfl
      · refine ⟨_, rfl, fun u hu hd => .inl ⟨.slice ao L cap, u, ?_, hu, by simp [ffaT, ffaR, vsX], (fun j _ _ _ h => h)⟩⟩
        simp only [frR, dstAt, List.getElem?_toArray, List.getElem?_cons_zero, List.getElem?_cons_succ, Option.bind_some, Act.put, List.setIfInBounds_toArray, List.set_cons_zero, List.set_cons_succ]; go_simp; first | done | exact rfl
      · refine ⟨_, rfl, fun u hu hd => .inl ⟨.int .i64 (L : Nat), u, ?_, hu, by simp [ffaT, ffaR, vsX], (fun j _ _ _ h => h)⟩⟩
        have e1 : vs 1 = .slice ao L cap := hd 1 (by kernel_rfl)
        simp only [frR, dstAt, List.getElem?_toArray, List.getElem?_cons_zero, List.getElem?_cons_succ, Option.bind_some, Act.put, List.setIfInBounds_toArray, List.set_cons_zero, List.set_cons_succ]; simp only [e1]; go_simp; first | done | exact rfl
      · refine ⟨_, rfl, fun u hu hd => .inl ⟨.slice ao L cap, u, ?_, hu, by simp [ffaT, ffaR, vsX], (fun j _ _ _ h => h)⟩⟩
        simp only [frR, dstAt, List.getElem?_toArray, List.getElem?_cons_zero, List.getElem?_cons_succ, Option.bind_some, Act.put, List.setIfInBounds_toArray, List.set_cons_zero, List.set_cons_succ]; go_simp; first | done | exact rfl
      · refine ⟨_, rfl, fun u hu hd => .inl ⟨.int .i64 (L : Nat), u, ?_, hu, by simp [ffaT, ffaR, vsX], (fun j _ _ _ h => h)⟩⟩
        have e3 : vs 3 = .slice ao L cap := hd 3 (by kernel_rfl)
        simp only [frR, dstAt, List.getElem?_toArray, List.getElem?_cons_zero, List.getElem?_cons_succ, Option.bind_some, Act.put, List.setIfInBounds_toArray, List.set_cons_zero, List.set_cons_succ]; simp only [e3]; go_simp; first | done | exact rfl
      · refine ⟨_, rfl, fun u hu hd => .inl ⟨.slice ao L L, u, ?_, hu, by simp [ffaT, ffaR, vsX], (fun j _ _ _ h => h)⟩⟩
        have e0 : vs 0 = .slice ao L cap := hd 0 (by kernel_rfl)
        have e2 : vs 2 = .int .i64 (L : Nat) := hd 2 (by kernel_rfl)
        have e4 : vs 4 = .int .i64 (L : Nat) := hd 4 (by kernel_rfl)
        rcases HAo.out with ⟨z1, rfl⟩ | ⟨bb, rfl, z2⟩
        · subst z1
          have z3 := HCap.out
          simp only [frR, dstAt, List.getElem?_toArray, List.getElem?_cons_zero, List.getElem?_cons_succ, Option.bind_some, Act.put, List.setIfInBounds_toArray, List.set_cons_zero, List.set_cons_succ]; simp only [e0, e2, e4]; go_simp; first | done | exact rfl
        · have z3 := HCap.out
          have z4 : ¬ L = 0 := by omega
          have z5 : (L : Int) ≤ (cap : Int) := by omega
          simp only [frR, dstAt, List.getElem?_toArray, List.getElem?_cons_zero, List.getElem?_cons_succ, Option.bind_some, Act.put, List.setIfInBounds_toArray, List.set_cons_zero, List.set_cons_succ]; simp only [e0, e2, e4]; go_simp; first | done | exact rfl
      · refine ⟨_, rfl, fun u hu hd => .inl ⟨.slice va D vc, u, ?_, hu, by simp [ffaT, ffaR, vsX], (fun j _ _ _ h => h)⟩⟩
        simp only [frR, dstAt, List.getElem?_toArray, List.getElem?_cons_zero, List.getElem?_cons_succ, Option.bind_some, Act.put, List.setIfInBounds_toArray, List.set_cons_zero, List.set_cons_succ]; go_simp; first | done | exact rfl
      · refine ⟨_, rfl, fun u hu hd => .inr (.inl ⟨29, #[.slice va D vc], ?_, ?_⟩)⟩
        · have e6 : vs 6 = .slice va D vc := hd 6 (by kernel_rfl)
          simp only [frR, dstAt, List.getElem?_toArray, List.getElem?_cons_zero, List.getElem?_cons_succ, Option.bind_some, Act.put, List.setIfInBounds_toArray, List.set_cons_zero, List.set_cons_succ]; simp only [e6]; go_simp; first | done | exact rfl
        · refine (HOn.out u hu).mono ?_
          rintro e w2 ⟨v2, rfl, hO2, hk2⟩; obtain ⟨a2, c2, rfl, hs2⟩ := TxO.toT hO2
          exact ⟨_, rfl, hu.trans hk2, ⟨a2, c2, by simp [vsX], hs2⟩, (fun j _ _ _ h => ffaR_kept w1.drew ao L cap va D vc ts tss hk2 j vs h)⟩
      · refine ⟨_, rfl, fun u hu hd => ?_⟩
        obtain ⟨a7, c7, e7, h7⟩ : ∃ a c, vs 7 = .slice a ts.length c ∧ StT u a ts := hd 7 (by kernel_rfl)
        refine .inl ⟨.slice (some ⟨u.heap.size, 0, none⟩) 1 1, u.alloc (.cells #[.slice a7 ts.length c7] 43), ?_, Kept.alloc hu _, ⟨u.heap.size, a7, c7, by simp [vsX], Cells.new _ _ _, h7.stab (Stab.kept (Kept.alloc (Below.refl _ _) _))⟩, (fun j _ _ _ h => ffaR_kept w1.drew ao L cap va D vc ts tss (Kept.alloc (Below.refl _ _) _) j vs h)⟩
        simp only [frR, dstAt, List.getElem?_toArray, List.getElem?_cons_zero, List.getElem?_cons_succ, Option.bind_some, Act.put, List.setIfInBounds_toArray, List.set_cons_zero, List.set_cons_succ]; simp only [e7]; go_simp; first | done | exact rfl
      · refine ⟨_, rfl, fun u hu hd => ?_⟩
        have e5 : vs 5 = .slice ao L L := hd 5 (by kernel_rfl)
        obtain ⟨g, a8, c8, e8, h8, h8s⟩ : ∃ g a c, vs 8 = .slice (some ⟨g, 0, none⟩) 1 1 ∧ Cells u g 43 #[.slice a ts.length c] ∧ StT u a ts := hd 8 (by kernel_rfl)
        obtain ⟨v9, w9, hr, ⟨a9, c9, rfl, h9, h9c⟩, hk9⟩ := ss_app u ao tss (HSs.out u hu) g a8 c8 ts h8 h8s HAo'.out HBd.out
        rw [HLen.out] at hr
        refine .inl ⟨.slice a9 (L + 1) c9, w9, ?_, hu.trans hk9, ⟨a9, c9, by simp [vsX], h9, by have := HLen.out; omega⟩, (fun j _ _ _ h => ffaR_kept w1.drew ao L cap va D vc ts tss hk9 j vs h)⟩
        refine exec_appendD (by rfl) (sv := .slice ao L L) (xv := .slice (some ⟨g, 0, none⟩) 1 1) ?_ ?_ hr
        · simp only [frR, dstAt, List.getElem?_toArray, List.getElem?_cons_zero, List.getElem?_cons_succ, Option.bind_some, Act.put, List.setIfInBounds_toArray, List.set_cons_zero, List.set_cons_succ]; simp only [e5]; first | rfl | (go_simp; done)
        · simp only [frR, dstAt, List.getElem?_toArray, List.getElem?_cons_zero, List.getElem?_cons_succ, Option.bind_some, Act.put, List.setIfInBounds_toArray, List.set_cons_zero, List.set_cons_succ]; simp only [e8]; first | rfl | (go_simp; done)
      · refine ⟨_, rfl, fun u hu hd => ?_⟩
        refine .inl ⟨.pointer (some ⟨u.heap.size, 0, none⟩), u.alloc (.cells #[.slice none 0 0] 44), ?_, Kept.alloc hu _, ⟨u.heap.size, by simp [vsX], Cells.new _ _ _, hu.size⟩, (fun j _ _ _ h => ffaR_kept w1.drew ao L cap va D vc ts tss (Kept.alloc (Below.refl _ _) _) j vs h)⟩
        simp only [frR, dstAt, List.getElem?_toArray, List.getElem?_cons_zero, List.getElem?_cons_succ, Option.bind_some, Act.put, List.setIfInBounds_toArray, List.set_cons_zero, List.set_cons_succ]; go_simp; first | done | exact rfl
    · intro vs u hu
      simp only [List.drop_succ_cons, List.drop_zero, seqWp]
      simp only [frR, dstAt, List.getElem?_toArray, List.getElem?_cons_zero, List.getElem?_cons_succ, Option.bind_some, Act.put, List.setIfInBounds_toArray, List.set_cons_zero, List.set_cons_succ]
      intro hR
      have hu : Kept w1.drew u := hu
      obtain ⟨sa, sc9, e9, hs9, hs9c⟩ : ∃ a c, vs 9 = .slice a (L + 1) c ∧ SsT u a (tss ++ [ts]) ∧ L + 1 ≤ c := hR 9 (by decide) (fun _ _ => by trivial)
      obtain ⟨Bs, e10, hB, hBl⟩ : ∃ b, vs 10 = .pointer (some ⟨b, 0, none⟩) ∧ Cells u b 44 #[.slice none 0 0] ∧ w1.drew.heap.size ≤ b := hR 10 (by decide) (fun _ _ => by trivial)
      have cB := hB.cell 0
      have fB := hB.frozen 0
      have lB := hB.lt
      have hBs2 := hB.set 0 (.slice sa (L + 1) sc9)
      simp only [List.setIfInBounds_toArray, List.set_cons_zero] at hBs2
      have hku : Kept w1 (u.setCell ⟨Bs, 0, none⟩ (.slice sa (L + 1) sc9)) := Kept.set (kd1.trans hu) (by simpa using hBl) _
      have hss2 : SsT (u.setCell ⟨Bs, 0, none⟩ (.slice sa (L + 1) sc9)) sa (tss ++ [ts]) := hs9.stab (Stab.set hB ⟨by decide, by decide⟩)
      unfold Oper.wp
      simp only [e9, e10]
      go_simp
      obtain ⟨U, hU⟩ : ∃ U, u.setCell ⟨Bs, 0, none⟩ (.slice sa (L + 1) sc9) = U := ⟨_, rfl⟩
      have cU := hBs2.cell 0
      have lU := hBs2.lt
      rw [hU] at hBs2 hku hss2 cU lU ⊢
      have HBs : Hid _ := And.intro hBs2 (And.intro hku hss2)
      have HBsl : Hid (w.heap.size ≤ Bs) := by have := HO1.out.2.size; simp at hBl; rw [Hid]; omega
      clear hU hR hB cB fB lB hBl hs9 hu hBs2 hku hss2 e9 e10
      go_wp2_with (go_at_call 30; refine (within_ok _ _ _ rfl).mono ?_; rintro e w2 ⟨rfl, rfl⟩)
      obtain ⟨bU, kU, sU⟩ := HBs.out
      have hsU : w.heap.size ≤ U.heap.size := (Kept.trans HO1.out.2 kU).size
      have KA : Kept U ((((U.alloc (.cells #[.pointer (some p), .slice va D vc, .slice sa (L + 1) sc9] 46)).alloc (.cells #[.slice (some ⟨U.heap.size, 0, none⟩) 1 1] 40)).alloc (.cells #[.pointer (some p)] 42)).alloc (.cells #[.func (.func 28) #[] #[]] 80)) := (((Kept.alloc (Below.refl _ _) _).alloc _).alloc _).alloc _
      have BR := (((Cells.new U 46 #[.pointer (some p), .slice va D vc, .slice sa (L + 1) sc9]).alloc (.cells #[.slice (some ⟨U.heap.size, 0, none⟩) 1 1] 40)).alloc (.cells #[.pointer (some p)] 42)).alloc (.cells #[.func (.func 28) #[] #[]] 80)
      have BL := ((Cells.new (U.alloc (.cells #[.pointer (some p), .slice va D vc, .slice sa (L + 1) sc9] 46)) 40 #[.slice (some ⟨U.heap.size, 0, none⟩) 1 1]).alloc (.cells #[.pointer (some p)] 42)).alloc (.cells #[.func (.func 28) #[] #[]] 80)
      have BN := (Cells.new ((U.alloc (.cells #[.pointer (some p), .slice va D vc, .slice sa (L + 1) sc9] 46)).alloc (.cells #[.slice (some ⟨U.heap.size, 0, none⟩) 1 1] 40)) 42 #[.pointer (some p)]).alloc (.cells #[.func (.func 28) #[] #[]] 80)
      have BF := Cells.new (((U.alloc (.cells #[.pointer (some p), .slice va D vc, .slice sa (L + 1) sc9] 46)).alloc (.cells #[.slice (some ⟨U.heap.size, 0, none⟩) 1 1] 40)).alloc (.cells #[.pointer (some p)] 42)) 80 #[.func (.func 28) #[] #[]]
      simp only [World.size_alloc] at BL BN BF
      have hsA : ((((U.alloc (.cells #[.pointer (some p), .slice va D vc, .slice sa (L + 1) sc9] 46)).alloc (.cells #[.slice (some ⟨U.heap.size, 0, none⟩) 1 1] 40)).alloc (.cells #[.pointer (some p)] 42)).alloc (.cells #[.func (.func 28) #[] #[]] 80)).heap.size = U.heap.size + 4 := by simp
      obtain ⟨W0, hW0⟩ : ∃ W0, ((((U.alloc (.cells #[.pointer (some p), .slice va D vc, .slice sa (L + 1) sc9] 46)).alloc (.cells #[.slice (some ⟨U.heap.size, 0, none⟩) 1 1] 40)).alloc (.cells #[.pointer (some p)] 42)).alloc (.cells #[.func (.func 28) #[] #[]] 80)) = W0 := ⟨_, rfl⟩
      rw [hW0] at KA BR BL BN BF hsA ⊢
      have KW : Kept w W0 := Kept.trans (Kept.trans HO1.out.2 kU) KA
      have KWT : Kept WT W0 := Kept.trans HK.out KW
      have bU0 := bU.kept KA
      have s0 : SsT W0 sa (tss ++ [ts]) := sU.stab (Stab.kept KA)
      have st0 : StT W0 va dl := HO1.out.1.stab (Stab.kept (Kept.trans kU KA))
      have hBsL : Bs < U.heap.size := bU.lt
      obtain ⟨sv, hsv⟩ : ∃ sv, Value.slice sa (L + 1) sc9 = sv := ⟨_, rfl⟩
      have hscl : (tss ++ [ts]).length = L + 1 := by rw [List.length_append, HLen.out]; rfl
      have hFirst : FnC WT W0 ⟨.mk op s n ks, dl, tss ++ [ts]⟩ (.pointer (some p)) (.slice va D vc) sv := ⟨⟨p, rfl, HT.out⟩, ⟨va, vc, by rw [HD.out], st0⟩, ⟨sa, sc9, by rw [← hsv, hscl], s0⟩⟩
      obtain ⟨sc, hsc⟩ : ∃ sc, tss ++ [ts] = sc := ⟨_, rfl⟩
      rw [hsc] at s0 hFirst hscl HFn
      have HSv : Hid (sv = .slice sa sc.length sc9 ∧ sc.length = L + 1 ∧ ∃ b, sa = some ⟨b, 0, none⟩) := ⟨by rw [← hsv, hscl], hscl, by
        rcases s0 with h | ⟨b, cs, fz, e, _⟩
        · rw [h] at hscl; simp at hscl
        · exact ⟨b, e⟩⟩
      rw [hsv] at BR bU0 ⊢
      obtain ⟨fst, hfst⟩ : ∃ f : FnP, f = ⟨.mk op s n ks, dl, sc⟩ := ⟨_, rfl⟩
      rw [← hfst] at hFirst HFn
      have HSc9 : Hid (sc.length ≤ sc9) := by have := HSv.out.2.1; rw [Hid]; omega
      have HsA : Hid (W0.heap.size = U.heap.size + 4 ∧ Bs < U.heap.size ∧ w.heap.size ≤ U.heap.size ∧ w.heap.size ≤ Bs) := ⟨hsA, hBsL, hsU, HBsl.out⟩
      have hJ0 : FfJ WT w.heap.size (U.heap.size + 1) Bs sv sa sc ([fst] ++ flG sc []) W0 := ⟨⟨_, BL, by rw [show [fst] ++ flG sc [] = [fst] by simp [flG]]; exact FnO.low (FnO.one BR hFirst) hsU⟩, bU0, s0⟩
      clear hW0 bU kU sU KA BR hsA hsv hsc hfst bU0 s0 st0 hBsL hscl hFirst hsU
      refine (wpIn_wide (n := 9)).1 ?_
      refine range_within (n := 9) (by omega) WT w W0 HK.out (U.heap.size + 3) (U.heap.size + 2) rfl rfl op n s ks p (by simp only [Nd.size]; have := HSz.out.1; omega) HT.out KW BF BN
        (fun pre W => FfJ WT w.heap.size (U.heap.size + 1) Bs sv sa sc ([fst] ++ flG sc pre) W) (fun pre W W' h hk => h.ki hk) (fun pre W l r o hl0 hl h => h.put hl) hJ0 ?body ?done
      case body =>
        intro fn W pre x q hl hd hk hx hp hj
        obtain ⟨op', s', n', ks'⟩ := x
        obtain ⟨bx, ox, ax, cx, rfl, h0, h1, _⟩ := hx.head
        have HJ : Hid _ := hj
        have HKw : Hid _ := hk
        have HDf : Hid _ := hd
        have HP : Hid _ := hp
        have HLp : Hid _ := hl
        have HX : Hid _ := hx
        clear hj hk hd hp hx
        gi_wp2
        intro rb hrb
        have kPB : Kept w (W.putObj (W0.heap.size + 1) (.loop rb)) := Kept.put HKw.out (by have := KW.size; omega) _
        have g0 := kept_cell (Kept.trans HK.out kPB) h0
        have HKP : Hid _ := kPB
        have HJP : Hid _ := FfJ.put (o := .loop rb) HJ.out HLp.out
        have HDP : Hid ((W.putObj (W0.heap.size + 1) (.loop rb)).heap[W0.heap.size]? = some (.deferred (some []))) := (World.putObj_heap_other (by omega)).trans HDf.out
        have HKB : Hid (KB W (W.putObj (W0.heap.size + 1) (.loop rb))) := KB.put HLp.out _
        obtain ⟨WB, hWB⟩ : ∃ WB, W.putObj (W0.heap.size + 1) (.loop rb) = WB := ⟨_, rfl⟩
        rw [hWB] at g0 HKP HJP HDP HKB hrb ⊢
        have HRB : Hid _ := hrb
        clear kPB hWB hrb h0 h1 hl
        have hls : flG sc (pre ++ [.mk op' s' n' ks']) = flG sc pre ++ (if op' = 27 then fnT sc (.mk op' s' n' ks') else []) := by rw [flG_app]; simp [flG]
        by_cases h2 : op' = 27
        · subst h2
          obtain ⟨lx, hlx⟩ : ∃ l, fnT sc (.mk 27 s' n' ks') = l := ⟨_, rfl⟩
          have HSl : Hid (flG sc (pre ++ [.mk 27 s' n' ks']) = flG sc pre ++ lx) := by rw [Hid, hls, if_pos rfl, hlx]
          have hmem : Nd.mk 27 s' n' ks' ∈ wisK ks := by
            obtain ⟨r, er⟩ := HP.out
            rw [← er]
            simp
          have hms := wisK_mem ks _ hmem
          have HLn : Hid (([fst] ++ flG sc pre).length + lx.length ≤ 1000 ∧ 0 < lx.length) := by
            have l1 := flG_len (sc := sc) HP.out
            rw [HSl.out, List.length_append] at l1
            have l2 := HSz.out.1
            have l3 : 0 < lx.length := by rw [← hlx]; simp [fnT]
            constructor
            · simp only [List.length_append, List.length_cons, List.length_nil]; omega
            · exact l3
          clear hls
          obtain ⟨⟨v, hcv, hov⟩, hcs, hss⟩ := HJP.out
          have kd : Kept WB WB.drew := (Below.refl _ _).drew
          have HCv : Hid (∀ u, Kept WB u → Cells u (U.heap.size + 1) 40 #[v] ∧ Cells u Bs 44 #[sv] ∧ SsT u sa sc ∧ FnO WT u w.heap.size v ([fst] ++ flG sc pre)) := fun u hu => ⟨hcv.kept hu, hcs.kept hu, hss.stab (Stab.kept hu), hov.kept hu⟩
          have HS : Hid (∀ u, Kept WB.drew u → u.cell? ⟨U.heap.size + 1, 0, none⟩ = some v ∧ u.cell? ⟨Bs, 0, none⟩ = some sv) := fun u hu => ⟨(hcv.kept (kd.trans hu)).cell 0, (hcs.kept (kd.trans hu)).cell 0⟩
          have HRc : Hid (∀ u, Kept WB.drew u → Calls Tryz.prog 19 #[.pointer (some ⟨bx, ox, none⟩), sv] u fun e w' => ∃ v, e = .returned v ∧ FnO WT w' u.heap.size v lx ∧ Kept u w') := fun u hu => by
            obtain ⟨es, el, bb, eb⟩ := HSv.out
            have ku := Kept.trans HKP.out (kd.trans hu)
            have h := HIH.out (.mk 27 s' n' ks') (by have := HSz.out.2.1; omega) WT u ⟨bx, ox, none⟩ sc sa sc9 HX.out (Kept.trans HK.out ku) (HE.out.kept ku) (HCv.out u (kd.trans hu)).2.2.1 (.inr ⟨bb, eb, by omega⟩) HSc9.out (fun h => by omega) (by have := HSz.out.1; have := hms.1; omega) (by have := HSz.out.2.2; have := hms.2; omega)
            rw [hlx] at h
            rw [es]
            exact h
          clear hcv hov hcs hss hlx hmem hms
          gi_wp2
          refine wpIn_region_told 4 (ffbT WT WB.drew bx ox v sv lx) (fun _ _ => false) (by kernel_rfl) (by kernel_rfl) (by decide) (by kernel_rfl) (by kernel_rfl) (ffbT_own _ _ _ _ _ _ _) (by kernel_rfl) (Below.refl _ _) ?_ ?_
          · intro i hi vs
            rcases (show i = 0 ∨ i = 1 ∨ i = 2 ∨ i = 3 by omega) with rfl | rfl | rfl | rfl
            · refine ⟨_, rfl, fun u hu hd => .inl ⟨v, u, ?_, hu, by simp [ffbT, ffbR, vsX], (fun j _ _ _ h => h)⟩⟩
              obtain ⟨mb, ms⟩ := HS.out u hu
              simp only [frR, dstAt, List.getElem?_toArray, List.getElem?_cons_zero, List.getElem?_cons_succ, Option.bind_some, Act.put, List.setIfInBounds_toArray, List.set_cons_zero, List.set_cons_succ]; go_simp; first | done | exact rfl
            · refine ⟨_, rfl, fun u hu hd => .inl ⟨.pointer (some ⟨bx, ox, none⟩), u, ?_, hu, by simp [ffbT, ffbR, vsX], (fun j _ _ _ h => h)⟩⟩
              simp only [frR, dstAt, List.getElem?_toArray, List.getElem?_cons_zero, List.getElem?_cons_succ, Option.bind_some, Act.put, List.setIfInBounds_toArray, List.set_cons_zero, List.set_cons_succ]; go_simp; first | done | exact rfl
            · refine ⟨_, rfl, fun u hu hd => .inl ⟨sv, u, ?_, hu, by simp [ffbT, ffbR, vsX], (fun j _ _ _ h => h)⟩⟩
              obtain ⟨mb, ms⟩ := HS.out u hu
              simp only [frR, dstAt, List.getElem?_toArray, List.getElem?_cons_zero, List.getElem?_cons_succ, Option.bind_some, Act.put, List.setIfInBounds_toArray, List.set_cons_zero, List.set_cons_succ]; go_simp; first | done | exact rfl
            · refine ⟨_, rfl, fun u hu hd => .inr (.inl ⟨19, #[.pointer (some ⟨bx, ox, none⟩), sv], ?_, ?_⟩)⟩
              · have e1 : vs 1 = .pointer (some ⟨bx, ox, none⟩) := hd 1 (by kernel_rfl)
                have e2 : vs 2 = sv := hd 2 (by kernel_rfl)
                simp only [frR, dstAt, List.getElem?_toArray, List.getElem?_cons_zero, List.getElem?_cons_succ, Option.bind_some, Act.put, List.setIfInBounds_toArray, List.set_cons_zero, List.set_cons_succ]; simp only [e1, e2]; go_simp; first | done | exact rfl
              · refine (HRc.out u hu).mono ?_
                rintro e w2 ⟨v2, rfl, hO2, hk2⟩
                exact ⟨_, rfl, hu.trans hk2, by show FnO WT w2 0 (vsX vs 3 v2 3) lx; simpa [vsX] using hO2.low (Nat.zero_le _), (fun j _ _ _ h => ffbR_kept WT WB.drew bx ox v sv lx hk2 j vs h)⟩
          · intro vs u hu
            simp only [List.drop_succ_cons, List.drop_zero, seqWpIn]
            simp only [frR, dstAt, List.getElem?_toArray, List.getElem?_cons_zero, List.getElem?_cons_succ, Option.bind_some, Act.put, List.setIfInBounds_toArray, List.set_cons_zero, List.set_cons_succ]
            intro hR
            have hu : Kept WB.drew u := hu
            have e0 : vs 0 = v := hR 0 (by decide) (fun _ _ => by trivial)
            have hO3 : FnO WT u 0 (vs 3) lx := hR 3 (by decide) (fun _ _ => by trivial)
            have ku := kd.trans hu
            obtain ⟨hcu, hcs, hss, xs, hrow, hXx⟩ := HCv.out u ku
            obtain ⟨ys, hrow3, hX3⟩ := hO3
            obtain ⟨g3, c3, e3, _, _⟩ := World.ownsRow.form hrow3 HLn.out.2
            obtain ⟨i0, hi, hz0, hz1, hz2⟩ := info_parts infoFn
            obtain ⟨v', w', hr, hown, hg3, _, hob⟩ := run_append_own_at (P := Tryz.prog) u w.heap.size 40 40 46 i0 _ 3 56 Tryz.underlying40 hi hz0 hz1 hz2 rfl (by decide) v _ _ hrow ⟨g3, 0, none⟩ lx.length c3 ys hrow3.1 (World.ownsRow.cells hrow3 (by rw [e3]; rfl)) (hX3.oneCell hrow3.1) (by unfold maxLen; have := HLn.out.1; omega) (by have := HLn.out.1; omega) (by have := ku.size; have := HKP.out.size; omega)
            have hrb : ∀ j, v.ownBlock = some j → w.heap.size ≤ j ∧ ∃ cur, u.heap[j]? = some (.cells cur 46 (0, 0)) := fun j ej => by
              obtain ⟨_, ⟨e, _⟩ | ⟨g', c', cur, e, hb, hgg, _⟩⟩ := hrow
              · rw [e] at ej; simp [Value.ownBlock] at ej
              · rw [e] at ej; simp [Value.ownBlock] at ej; subst ej; exact ⟨hb, cur, hgg⟩
            have hty : ∀ B t (cs : Array Value), Cells u B t cs → t ≠ 46 → w'.heap[B]? = u.heap[B]? := fun B t cs hc ht => hg3.block _ hc.lt (fun e => by
              obtain ⟨_, cur, hx⟩ := hrb _ e.symm
              rw [show u.heap[_]? = _ from hc] at hx
              injection hx with hx
              injection hx with _ hx
              exact ht hx)
            have hbx : Cells w' (U.heap.size + 1) 40 #[v] := (hty _ _ _ hcu (by decide)).trans hcu
            have hbs : Cells w' Bs 44 #[sv] := (hty _ _ _ hcs (by decide)).trans hcs
            have hk' : Kept w w' := Below.grown (Kept.trans HKP.out ku) hg3 (by have := ku.size; have := HKP.out.size; omega) (fun j ej => (hrb j ej).1)
            have hst : Stab u w' := Stab.grown hg3 (fun j ej cs ty fz hx => by
              obtain ⟨_, cur, hy⟩ := hrb j ej
              rw [hy] at hx
              injection hx with hx
              injection hx with _ hx
              subst hx
              exact ⟨by decide, by decide⟩)
            have hkb : KB WB w' := (KB.kept ku).trans (KB.grown hg3 (fun j ej cs ty fz hx => by
              obtain ⟨_, cur, hy⟩ := hrb j ej
              rw [hy] at hx
              injection hx with hx
              injection hx with _ hx
              subst hx
              exact ⟨by decide, by decide⟩))
            have hoth : ∀ (j : Nat) (o : Obj), (∀ cs ty fz, o ≠ Obj.cells cs ty fz) → WB.heap[j]? = some o → w'.heap[j]? = some o := fun j o ho hj => by
              have hju := (ku.block j (Array.getElem?_eq_some_iff.1 hj).1).trans hj
              exact (hg3.block j (Array.getElem?_eq_some_iff.1 hju).1 (fun e => by
                obtain ⟨_, cur, hy⟩ := hrb j e.symm
                rw [hju] at hy
                injection hy with hy
                exact ho _ _ _ hy)).trans hju
            refine wpIn_of_value (by intro c h; cases h) (exec_appendD (by rfl) (by simp only [e0]; rfl) (by simp only [e3]; rfl) hr) ?_
            have hO' : FnO WT w' w.heap.size v' ([fst] ++ flG sc (pre ++ [.mk 27 s' n' ks'])) := by
              rw [HSl.out, ← List.append_assoc]
              exact ⟨xs ++ ys, by rw [List.length_append]; exact hown, (hXx.stab hst).app (hX3.stab hst) hrow.1⟩
            have hne : ∀ b, v'.ownBlock = some b → b ≠ U.heap.size + 1 := fun b eb e => by
              subst e
              rcases hob with h | h
              · rw [h] at eb
                obtain ⟨_, cur, hx⟩ := hrb _ eb
                rw [show u.heap[_]? = _ from hcu] at hx
                injection hx with hx
                injection hx with _ hx
                exact absurd hx (by decide)
              · rw [h] at eb
                injection eb with eb
                have := hcu.lt
                omega
            have HPost : Hid ((w'.setCell ⟨U.heap.size + 1, 0, none⟩ v').heap[W0.heap.size + 1]? = some (.loop rb) ∧ FfJ WT w.heap.size (U.heap.size + 1) Bs sv sa sc ([fst] ++ flG sc (pre ++ [.mk 27 s' n' ks'])) (w'.setCell ⟨U.heap.size + 1, 0, none⟩ v') ∧ Kept w (w'.setCell ⟨U.heap.size + 1, 0, none⟩ v') ∧ KB W (w'.setCell ⟨U.heap.size + 1, 0, none⟩ v') ∧ (w'.setCell ⟨U.heap.size + 1, 0, none⟩ v').heap[W0.heap.size]? = some (.deferred (some []))) := by
              obtain ⟨z1, z2, z3, z4⟩ := HsA.out
              have hs2 : Stab w' (w'.setCell ⟨U.heap.size + 1, 0, none⟩ v') := Stab.set hbx ⟨by decide, by decide⟩
              refine ⟨(Below.heap_setCell _ _ _ _ (by show _ ≠ U.heap.size + 1; omega)).trans (hoth _ _ (by intro _ _ _ h; cases h) HRB.out), ⟨⟨v', by simpa using hbx.set 0 v', hO'.same hs2 (fun b cs eb _ => Below.heap_setCell _ _ _ _ (hne b eb))⟩, hbs.other (by show Bs ≠ U.heap.size + 1; omega) _, (hss.stab hst).stab hs2⟩, Kept.set hk' (by show w.heap.size ≤ U.heap.size + 1; omega) _, (HKB.out.trans hkb).trans (KB.set hbx ⟨by decide, by decide⟩), (Below.heap_setCell _ _ _ _ (by show _ ≠ U.heap.size + 1; omega)).trans (hoth _ _ (by intro _ _ _ h; cases h) HDP.out)⟩
            have cb := hbx.cell 0
            have fb := hbx.frozen 0
            have lb := hbx.lt
            obtain ⟨va', vc', ev'⟩ := hO'.slice
            obtain ⟨Lx, hLx⟩ : ∃ L, ([fst] ++ flG sc (pre ++ [.mk 27 s' n' ks'])).length = L := ⟨_, rfl⟩
            rw [hLx] at ev'
            subst ev'
            clear hLx hr hown hg3 hob hrb hbx hbs hk' hkb hoth hrow hXx hcu hcs hss hrow3 hX3 hu ku hst hty hO' hne e3 hR
            simp only [Act.put, List.setIfInBounds_toArray, List.set_cons_zero, List.set_cons_succ]
            unfold Oper.wpIn
            go_simp
            first | exact HPost.out | exact ⟨rfl, HPost.out⟩
        · have HSl : Hid (flG sc (pre ++ [.mk op' s' n' ks']) = flG sc pre) := by rw [Hid, hls, if_neg h2, List.append_nil]
          have h2' : (op' == 27) = false := by simpa using h2
          have HF : Hid (FfJ WT w.heap.size (U.heap.size + 1) Bs sv sa sc ([fst] ++ flG sc (pre ++ [.mk op' s' n' ks'])) WB) := by rw [Hid, HSl.out]; exact HJP.out
          clear hls h2
          gi_wp2
          exact ⟨HRB.out, HF.out, HKP.out, HKB.out, HDP.out⟩
      case done =>
        intro W4 hj hk hd
        obtain ⟨⟨v, hcv, hov⟩, _, _⟩ := hj
        have c0 := hcv.cell 0
        have HO : Hid (FnO WT W4 w.heap.size v (fnT tss (.mk op s n ks))) := by
          rw [Hid, HFn.out, ← wis_fnK]
          exact hov
        have HKr : Hid _ := hk
        clear hov hk hcv
        obtain ⟨va', vc', hv⟩ := HO.out.slice
        obtain ⟨Lr, hLr⟩ : ∃ L, (fnT tss (.mk op s n ks)).length = L := ⟨_, rfl⟩
        rw [hLr] at hv
        subst hv
        go_wp2
        refine ⟨by simp, .inl ⟨_, _, rfl, run_takeDeferred hd, ?_⟩⟩
        refine ⟨.slice va' Lr vc', by simp [results, Tryz.results19, go_sem], ⟨_, rfl, ?_, ?_⟩⟩
        · refine HO.out.same ⟨fun b cs ty fz hb _ => World.putObj_heap_other (fun e => by subst e; rw [hb] at hd; cases hd)⟩ (fun b cs _ hb => World.putObj_heap_other (fun e => by subst e; rw [hb] at hd; cases hd))
        · exact Kept.put HKr.out KW.size _
end Go.Proofs.YtlinbkgeahgkjaaGreatDoor
