/-
  The contract of impl.extentOf: how great and how deep a tree is, each node gone through once.
-/
import Derived.Deep.LoopGhost
import Derived.Test.YtlinbkgeahgkjaaGreatDoorZNodW
import Derived.Test.YtlinbkgeahgkjaaGreatDoorGrpAp
namespace Go.Proofs.YtlinbkgeahgkjaaGreatDoor
open Go.RowKit
attribute [local go_sem] Plain.and7

def ptrsN (path : List (Nd × Addr)) : List Value := path.map (fun x => Value.pointer (some x.2))
theorem OwnAt.init {w : World} {base : Nat} {e : TypeId} {g off cap : Nat} {x : Value} {xs : List Value} (h : OwnAt w base e (.slice (some ⟨g, off, none⟩) (xs.length + 1) cap) (xs ++ [x])) :
    OwnAt w base e (.slice (some ⟨g, off, none⟩) xs.length cap) xs := by
  rcases h with ⟨h, _⟩ | ⟨g', off', cap', cur, e1, hb, hgg, h1, h2, h3, ht⟩
  · cases h
  · simp at e1
    obtain ⟨⟨rfl, rfl⟩, rfl⟩ := e1
    simp only [List.length_append, List.length_cons, List.length_nil] at h1 ht
    refine .inr ⟨g, off, cap, cur, rfl, hb, hgg, by omega, by omega, by omega, ?_⟩
    have h4 := congrArg (List.take xs.length) ht
    rw [List.take_take, List.take_left' rfl] at h4
    rw [show min xs.length (xs.length + (0 + 1)) = xs.length by omega] at h4
    exact h4
theorem Lies.one (w : World) (t : TypeId) (u : Value) : Lies (w.alloc (.cells #[u] t)) (.slice (some ⟨w.heap.size, 0, none⟩) 1 1) [u] := by
  refine .inr ⟨⟨w.heap.size, 0, none⟩, 1, rfl, fun j v hj => ?_⟩
  have h := (Cells.new w t #[u]).cell j
  rw [Addr.add_lit, Nat.zero_add, h]
  cases j with
  | zero => simpa using hj
  | succ j => simp at hj
theorem ptrs_one (path : List (Nd × Addr)) : ∀ u ∈ ptrsN path, u.oneCell' = true := by
  intro u hu
  obtain ⟨z, _, rfl⟩ := List.mem_map.1 hu
  rfl
theorem infoPn : (Tryz.prog.info? 42).map (fun i => (i.zero, i.size, i.bytes)) = some (some (.pointer none), 1, 8) := by kernel_rfl
/-- What holds between two rounds. -/
structure ExtS (w wr : World) (f : Addr → Option (Nat × Nat)) (path : List (Nd × Addr)) (v : Value) : Prop where
  own : OwnAt wr (w.heap.size + 2) 42 v (ptrsN path)
  map : PMap w wr (w.heap.size + 1) f
  box : Cells wr w.heap.size 50 #[.int .i64 0, .int .i64 0]
  kept : Kept w wr
  size : w.heap.size + 3 ≤ wr.heap.size
theorem ExtS.on {w wr wr' : World} {f : Addr → Option (Nat × Nat)} {path : List (Nd × Addr)} {v : Value} (h : ExtS w wr f path v) (hk : Kept wr wr') : ExtS w wr' f path v :=
  ⟨h.own.kept hk.grown (by simp), h.map.kept hk, h.box.kept hk, h.kept.trans hk, Nat.le_trans h.size hk.size⟩
theorem ExtS.grow {w wr wr' : World} {f : Addr → Option (Nat × Nat)} {path path' : List (Nd × Addr)} {v v' : Value} (h : ExtS w wr f path v) (hO : OwnAt wr' (w.heap.size + 2) 42 v' (ptrsN path')) (hg : wr.grownBy wr' v.ownBlock) : ExtS w wr' f path' v' := by
  have hne : ∀ j, v.ownBlock = some j → w.heap.size + 2 ≤ j := fun j e => (h.own.lt j e).1
  refine ⟨hO, h.map.on hg (fun e => ?_), ?_, Below.grown h.kept hg h.kept.size (fun j e => ?_), Nat.le_trans h.size hg.size⟩
  · have := hne _ e; omega
  · exact (hg.block _ h.box.lt (fun e => by have := hne _ e.symm; omega)).trans h.box
  · have := hne j e; omega
theorem ExtS.put {w wr wr' : World} {f f' : Addr → Option (Nat × Nat)} {path : List (Nd × Addr)} {v : Value} (h : ExtS w wr f path v) (hM : PMap w wr' (w.heap.size + 1) f') (hg : wr.grownBy wr' (some (w.heap.size + 1))) : ExtS w wr' f' path v := by
  refine ⟨h.own.kept hg (fun k e e' => ?_), hM, ?_, Below.grown h.kept hg h.kept.size (fun j e => ?_), Nat.le_trans h.size hg.size⟩
  · have := (h.own.lt k e).1
    injection e' with e'
    omega
  · exact (hg.block _ h.box.lt (fun e => by injection e with e; omega)).trans h.box
  · injection e with e; omega
theorem Kid.det {W : World} {p q q' : Addr} {k : Nat} (h : Kid W p k q) (h' : Kid W p k q') : q = q' := by
  obtain ⟨b, off, b', off', l, cap, rfl, hc, hl, rfl⟩ := h
  obtain ⟨b2, off2, b3, off3, l2, cap2, e, hc2, hl2, rfl⟩ := h'
  cases e
  rw [hc] at hc2
  cases hc2
  rfl
/-- What of the first kids went onto the stack. -/
structure PsI (w : World) (q : Addr) (ks : List Nd) (f : Addr → Option (Nat × Nat)) (i : Nat) (ps : List (Nd × Addr)) : Prop where
  from_ : ∀ y ∈ ps, ∃ k, ks[k]? = some y.1 ∧ Kid w q k y.2 ∧ NdAt w y.1 y.2
  all : ∀ k x q', k < i → ks[k]? = some x → Kid w q k q' → NdAt w x q' → ofF f x q' = none → (x, q') ∈ ps
  sum : (ps.map (fun y => y.1.size)).sum ≤ sizesN (ks.take i)
theorem PsI.start (w : World) (q : Addr) (ks : List Nd) (f : Addr → Option (Nat × Nat)) : PsI w q ks f 0 [] := ⟨by simp, fun k x q' h => by omega, by simp⟩
theorem PsI.skip {w : World} {q q1 : Addr} {ks : List Nd} {f : Addr → Option (Nat × Nat)} {i : Nat} {ps : List (Nd × Addr)} {y : Nd} (h : PsI w q ks f i ps) (hy : ks[i]? = some y) (hq : Kid w q i q1) (hd : doneA f y q1) : PsI w q ks f (i + 1) ps := by
  refine ⟨h.from_, fun k x q' hk hx hq' ha ho => ?_, ?_⟩
  · by_cases e : k = i
    · subst e
      rw [hy] at hx
      cases hx
      obtain rfl := hq.det hq'
      rw [show ofF f y q1 = some _ from hd] at ho
      cases ho
    · exact h.all k x q' (by omega) hx hq' ha ho
  · have := h.sum
    rw [sizes_take hy]
    omega
theorem PsI.add {w : World} {q q1 : Addr} {ks : List Nd} {f : Addr → Option (Nat × Nat)} {i : Nat} {ps : List (Nd × Addr)} {y : Nd} (h : PsI w q ks f i ps) (hy : ks[i]? = some y) (hq : Kid w q i q1) (ha : NdAt w y q1) : PsI w q ks f (i + 1) (ps ++ [(y, q1)]) := by
  refine ⟨fun z hz => ?_, fun k x q' hk hx hq' ha ho => ?_, ?_⟩
  · rw [List.mem_append, List.mem_singleton] at hz
    rcases hz with hz | rfl
    · exact h.from_ z hz
    · exact ⟨i, hy, hq, ha⟩
  · by_cases e : k = i
    · subst e
      rw [hy] at hx
      cases hx
      obtain rfl := hq.det hq'
      simp
    · have := h.all k x q' (by omega) hx hq' ha ho
      simp [this]
  · have := h.sum
    rw [sizes_take hy]
    simp
    omega
set_option maxHeartbeats 8000000 in
set_option maxRecDepth 100000 in
theorem extentOf_ok (w : World) (T : Nd) (R : Addr) (hT : NdAt w T R) (hsz : T.size ≤ 1099511627776) :
    Calls Tryz.prog 25 #[.pointer (some R)] w fun e w' => e = .returned (extV (T.size, T.deep)) ∧ Kept w w' := by
  obtain ⟨i0, hi, hz0, hz1, hz2⟩ := info_parts infoPn
  have hmm := @run_makeMap Tryz.prog
  have HT : Hid (NdAt w T R) := hT
  have S0 : ExtS w (((w.alloc (.cells #[.int .i64 0, .int .i64 0] 50)).alloc (.map #[] 0)).alloc (.cells #[.pointer (some R)] 42)) (fun _ => none) [(T, R)] (.slice (some ⟨w.heap.size + 2, 0, none⟩) 1 1) := by
    refine ⟨.inr ⟨_, 0, 1, #[.pointer (some R)], rfl, Nat.le_refl _, ?_, by simp [ptrsN], by decide, by simp, by simp [ptrsN]⟩, ⟨[], #[], 0, ?_, rfl, by simp, fun _ => rfl⟩, ((Cells.new w _ _).alloc _).alloc _, ((Kept.alloc (Below.refl _ _) _).alloc _).alloc _, by simp⟩
    · have := heap_alloc_new ((w.alloc (.cells #[.int .i64 0, .int .i64 0] 50)).alloc (.map #[] 0)) (.cells #[.pointer (some R)] 42)
      simpa using this
    · have := heap_alloc_new (w.alloc (.cells #[.int .i64 0, .int .i64 0] 50)) (.map #[] 0)
      have h2 := heap_alloc_old ((w.alloc (.cells #[.int .i64 0, .int .i64 0] 50)).alloc (.map #[] 0)) (.cells #[.pointer (some R)] 42) (r := w.heap.size + 1) (by simp)
      rw [h2]
      simpa using this
  have HS0 : Hid _ := S0
  clear hT S0
  go_enter Tryz.func25, Tryz.ntmps25
  go_wp2_with fail
  go_loopg [4] (2 * T.size) (fun gk v wr => ∃ f path, muF f path ≤ gk ∧ gk ≤ 2 * T.size ∧ Hid (ExtS w wr f path v) ∧ Hid (ExtI w T R f path))
  case atStart => exact ⟨fun _ => none, [(T, R)], by simp [muF], Nat.le_refl _, HS0.out, ExtI.start HT.out⟩
  case round =>
    obtain ⟨f, path, hmu, hgk, hS, hE⟩ := hrel
    clear HS0
    rcases List.eq_nil_or_concat path with rfl | ⟨rest, n, rfl⟩
    · have hO := of_ok w wr (w.heap.size + 1) f hS.out.map hS.out.kept T R HT.out
      have HD : Hid (ofF f T R = some (T.size, T.deep)) := by
        rcases hE.out.root with h | h
        · exact h
        · simp at h
      rw [HD.out] at hO
      have bx := hS.out.box
      have HK : Hid (Kept w wr) := hS.out.kept
      have hv : ∃ a c, u4 = Value.slice a 0 c := by
        rcases hS.out.own with ⟨rfl, _⟩ | ⟨g, off, cap, cur, rfl, _⟩
        · exact ⟨_, _, rfl⟩
        · exact ⟨_, _, rfl⟩
      obtain ⟨va, vc, rfl⟩ := hv
      go_wp2_with (go_at_call 38; refine hO.mono ?_; rintro e w1 ⟨rfl, hk1⟩; have bx := Cells.kept bx hk1; have c0 := bx.cell 0; have c1 := bx.cell 1; have f0 := bx.frozen 0; have f1 := bx.frozen 1; have l0 := bx.lt)
      have z := ((bx.set 0 (.int .i64 ((T.size : Nat) : Int))).set 1 (.int .i64 ((T.deep : Nat) : Int))).alloc (.cells #[.int .i64 ((T.size : Nat) : Int), .int .i64 ((T.deep : Nat) : Int)] 50)
      have z0 := z.cell 0
      have z1 := z.cell 1
      refine bodyPost_ret (v := .agg #[.int .i64 ((T.size : Nat) : Int), .int .i64 ((T.deep : Nat) : Int)]) (by simp [results, Tryz.results25, go_sem, z0, z1]) rfl ⟨rfl, Kept.alloc (((HK.out.trans hk1).set (Nat.le_refl _) _).set (Nat.le_refl _) _) _⟩
    · rw [List.concat_eq_append] at hmu hS hE
      have hn : NdAt w n.1 n.2 := hE.out.at_ n (by simp)
      have hlr : rest.length + 1 ≤ 2199023255552 := by
        have := muF_len f (rest ++ [n])
        simp at this
        omega
      obtain ⟨g, off, cap, cur, rfl, hbg, hgg, hc1, hc2, hc3⟩ : ∃ g off cap cur, u4 = Value.slice (some ⟨g, off, none⟩) (rest.length + 1) cap ∧ w.heap.size + 2 ≤ g ∧ wr.heap[g]? = some (.cells cur 42 (0, 0)) ∧ rest.length + 1 ≤ cap ∧ cap ≤ maxLen ∧ off + cap ≤ cur.size := by
        rcases hS.out.own with ⟨rfl, h⟩ | ⟨g, off, cap, cur, rfl, h1, h2, h3, h4, h5, h6⟩
        · simp [ptrsN] at h
        · exact ⟨g, off, cap, cur, by simp [ptrsN], h1, h2, by simpa [ptrsN] using h3, h4, h5⟩
      have hrow : OwnAt wr (w.heap.size + 2) 42 (.slice (some ⟨g, off, none⟩) ((ptrsN rest).length + 1) cap) (ptrsN rest ++ [.pointer (some n.2)]) := by
        have := hS.out.own
        simpa [ptrsN] using this
      have hpl : (ptrsN rest).length = rest.length := by simp [ptrsN]
      have hcell : wr.cell? ⟨g, off + rest.length, none⟩ = some (.pointer (some n.2)) := by
        have h1 : OwnAt wr (w.heap.size + 2) 42 (.slice (some ⟨g, off, none⟩) (ptrsN rest ++ [Value.pointer (some n.2)]).length cap) (ptrsN rest ++ [.pointer (some n.2)]) := by simpa using hrow
        exact OwnAt.cell h1 rest.length _ (by rw [← hpl]; simp)
      have hinit : OwnAt wr (w.heap.size + 2) 42 (.slice (some ⟨g, off, none⟩) rest.length cap) (ptrsN rest) := by
        have := hrow.init
        rwa [hpl] at this
      have hO := of_ok w wr (w.heap.size + 1) f hS.out.map hS.out.kept n.1 n.2 hn
      have HR : Hid (OwnAt wr (w.heap.size + 2) 42 (.slice (some ⟨g, off, none⟩) ((ptrsN rest).length + 1) cap) (ptrsN rest ++ [.pointer (some n.2)])) := hrow
      have HI : Hid (OwnAt wr (w.heap.size + 2) 42 (.slice (some ⟨g, off, none⟩) rest.length cap) (ptrsN rest)) := hinit
      have HN : Hid (NdAt w n.1 n.2) := hn
      have hcm : cap ≤ 9223372036854775807 := by unfold maxLen at hc2; omega
      have q1 : (0 : Int) < (rest.length : Int) + 1 := by omega
      have q2 : (rest.length : Int) + 1 - 1 = (rest.length : Int) := by omega
      have q3 : (rest.length : Int) ≤ (cap : Int) := by omega
      clear hrow hinit hn hgg hpl
      cases he : ofF f n.1 n.2 with
      | some e =>
        rw [he] at hO
        by_cases h0 : e = (0, 0)
        · subst h0
          have hf0 : f n.2 = some (0, 0) := by
            by_cases hk : kidsN n.1 = []
            · simp [ofF, hk] at he
            · simpa [ofF, hk] using he
          have HRd : Hid _ := hE.out.ready hf0
          have HT2 : Hid (ExtI w T R (updF f n.2 (n.1.size, n.1.deep)) rest) := hE.out.tell hf0
          have hns : n.1.size ≤ 1152921504606846976 := by
            have := hE.out.small n (by simp)
            omega
          clear he
          go_wp2_with (first
            | (go_at_call 39; refine (around_ok w _ (w.heap.size + 1) f (hS.out.map.kept hkB) (hS.out.kept.trans hkB) n.1 n.2 HN.out hns HRd.out).mono ?_; rintro e w3 ⟨rfl, hkA⟩; obtain ⟨w4, hrun, hM4, hg4⟩ := ((hS.out.map.kept hkB).kept hkA).put ((hS.out.kept.trans hkB).trans hkA) n.2 HN.out.unfr (n.1.size, n.1.deep))
            | (go_at_call 38; refine hO.mono ?_; rintro e w1 ⟨rfl, hk1⟩; have hkB := Kept.alloc hk1 (.cells #[.int .i64 0, .int .i64 0] 50)))
          have S4 := (hS.out.on (hkB.trans hkA)).put hM4 hg4
          go_roundg (muF (updF f n.2 (n.1.size, n.1.deep)) rest)
          case measure => have := muF_tell (f := f) (rest := rest) (n := n) (n.1.size, n.1.deep); omega
          case rel =>
            refine ⟨_, rest, Nat.le_refl _, by have := muF_tell (f := f) (rest := rest) (n := n) (n.1.size, n.1.deep); omega, ⟨?_, S4.map, S4.box, S4.kept, S4.size⟩, HT2.out⟩
            refine (HI.out.kept (hkB.trans hkA).grown (by simp)).kept hg4 (fun k e e' => ?_)
            have := (HI.out.lt k e).1
            injection e' with e'
            omega
        · have hd : doneA f n.1 n.2 := by
            by_cases hk : kidsN n.1 = []
            · exact leaf_done hk
            · have hf : f n.2 = some e := by simpa [ofF, hk] using he
              obtain ⟨t, ht, _, h1 | h1⟩ := hE.out.val _ _ hf
              · exact absurd h1 h0
              · obtain rfl := NdAt.det HN.out ht
                rw [done_iff hk, hf, h1]
          obtain rfl : e = (n.1.size, n.1.deep) := by
            rw [show ofF f n.1 n.2 = _ from hd] at he
            exact (Option.some.inj he).symm
          have HE2 : Hid (ExtI w T R f rest) := hE.out.pop hd
          have hs0 := n.1.size_pos
          have hs1 : ¬ n.1.size = 0 := by omega
          clear hd he h0
          go_wp2_with (go_at_call 38; refine hO.mono ?_; rintro e w1 ⟨rfl, hk1⟩)
          go_roundg (muF f rest)
          case measure => have := muF_pop (f := f) (rest := rest) (n := n); omega
          case rel =>
            have kx : Kept wr (w1.alloc (.cells #[.int .i64 ((n.1.size : Nat) : Int), .int .i64 ((n.1.deep : Nat) : Int)] 50)) := Kept.alloc hk1 _
            have S1 := hS.out.on kx
            exact ⟨f, rest, Nat.le_refl _, by have := muF_pop (f := f) (rest := rest) (n := n); omega, ⟨HI.out.kept kx.grown (by simp), S1.map, S1.box, S1.kept, S1.size⟩, HE2.out⟩
      | none =>
        rw [he] at hO
        have HE0 : Hid (ofF f n.1 n.2 = none) := he
        obtain ⟨⟨op, s, m, ks⟩, q⟩ := n
        obtain ⟨b, o, ao, kc, rfl, hc, hm, hks⟩ := HN.out.open
        have hlen : ks.length ≠ 0 := by
          intro e
          have : ks = [] := List.eq_nil_of_length_eq_zero e
          subst this
          simp [ofF, kidsN] at he
        obtain ⟨b', o', rfl, hkk⟩ : ∃ b' o', ao = some ⟨b', o', none⟩ ∧ ∀ k x, ks[k]? = some x → NdAt w x ⟨b', o' + k * 4, none⟩ := by
          rcases hks with h | h
          · subst h; simp at hlen
          · exact h
        have HKS : Hid (∀ k x, ks[k]? = some x → NdAt w x ⟨b', o' + k * 4, none⟩) := hkk
        have hll := len_sizes ks
        have hns := hE.out.small _ (List.mem_append_right rest (List.mem_singleton_self _))
        simp only [Nd.size] at hns
        clear he hks hkk
        go_wp2_with (go_at_call 38; refine hO.mono ?_; rintro e w1 ⟨rfl, hk1⟩; have hkB := Kept.alloc hk1 (.cells #[.int .i64 0, .int .i64 0] 50); obtain ⟨w4, hrun, hM4, hg4⟩ := (hS.out.map.kept hkB).put (hS.out.kept.trans hkB) ⟨b, o, none⟩ HN.out.unfr (0, 0); have hrun : (Instr.mapUpdate 67 (.map (some (w.heap.size + 1))) (.pointer (some ⟨b, o, none⟩)) (.agg #[.int .i64 0, .int .i64 0])).run Tryz.prog (w1.alloc (.cells #[.int .i64 0, .int .i64 0] 50)) = .ok () w4 := hrun; have S4 := (hS.out.on hkB).put hM4 hg4; have hc4 := kept_cell S4.kept hc)
        have HS4 : Hid (ExtS w w4 (updF f ⟨b, o, none⟩ (0, 0)) (rest ++ [(Nd.mk op s m ks, ⟨b, o, none⟩)]) (.slice (some ⟨g, off, none⟩) (rest.length + 1) cap)) := S4
        have HC : Hid (w.cell? ⟨b, o + 3, none⟩ = some (.slice (some ⟨b', o', none⟩) ks.length kc)) := hc
        clear hrun S4 hM4 hg4 hcell HR HI hS hk1 hkB hc hO
        go_loopw [4, 54] (fun pv iv wr2 => ∃ (i : Nat) (ps : List (Nd × Addr)), iv = .int .i64 i ∧ i ≤ ks.length ∧ Hid (ExtS w wr2 (updF f ⟨b, o, none⟩ (0, 0)) (rest ++ [(Nd.mk op s m ks, ⟨b, o, none⟩)] ++ ps) pv) ∧ Hid (PsI w ⟨b, o, none⟩ ks (updF f ⟨b, o, none⟩ (0, 0)) i ps)) (fun _ iv _ => ks.length - (intOf iv).toNat)
        case atStart => exact ⟨0, [], rfl, Nat.zero_le _, by rw [Hid, List.append_nil]; exact HS4.out, PsI.start _ _ _ _⟩
        case round =>
          obtain ⟨i, ps, rfl, hil, hS2, hP⟩ := hrel
          have hsum : (ps.map (fun y => y.1.size)).sum ≤ sizesN ks := Nat.le_trans hP.out.sum (sizes_le i)
          have hpl : muF (updF f ⟨b, o, none⟩ (0, 0)) (rest ++ [(Nd.mk op s m ks, ⟨b, o, none⟩)] ++ ps) < muF f (rest ++ [(Nd.mk op s m ks, ⟨b, o, none⟩)]) := muF_push (rest := rest) (n := (Nd.mk op s m ks, (⟨b, o, none⟩ : Addr))) HE0.out (ps := ps) (by simpa [kidsN] using hsum)
          have hpn := muF_len (updF f ⟨b, o, none⟩ (0, 0)) (rest ++ [(Nd.mk op s m ks, ⟨b, o, none⟩)] ++ ps)
          obtain ⟨ga, gn, gc, rfl⟩ : ∃ ga gn gc, u4 = Value.slice ga gn gc := by
            rcases hS2.out.own with ⟨rfl, h⟩ | ⟨g, off, cap, cur, rfl, h⟩
            · exact ⟨_, _, _, rfl⟩
            · exact ⟨_, _, _, rfl⟩
          have hcr := kept_cell hS2.out.kept HC.out
          clear HS4
          by_cases hlt : i < ks.length
          · obtain ⟨x, hx⟩ : ∃ x, ks[i]? = some x := ⟨ks[i], List.getElem?_eq_getElem hlt⟩
            have q5 : (i : Int) < (ks.length : Int) := by omega
            have q6 : (i : Int) + 1 ≤ 9223372036854775807 := by omega
            have ha := HKS.out i x hx
            have hKid : Kid w ⟨b, o, none⟩ i ⟨b', o' + i * 4, none⟩ := ⟨b, o, b', o', _, kc, rfl, HC.out, hlt, rfl⟩
            have hO2 := of_ok w wr (w.heap.size + 1) (updF f ⟨b, o, none⟩ (0, 0)) hS2.out.map hS2.out.kept x ⟨b', o' + i * 4, none⟩ ha
            have HX : Hid (ks[i]? = some x) := hx
            have HKd : Hid (Kid w ⟨b, o, none⟩ i ⟨b', o' + i * 4, none⟩) := hKid
            have HA : Hid (NdAt w x ⟨b', o' + i * 4, none⟩) := ha
            rcases hE.out.kid (n := (Nd.mk op s m ks, ⟨b, o, none⟩)) (k := i) (x := x) (by simpa [kidsN] using hx) hKid ha with hno | hdn
            · rw [hno] at hO2
              have hlb : (rest ++ [(Nd.mk op s m ks, (⟨b, o, none⟩ : Addr))] ++ ps).length ≤ 2199023255552 := by omega
              have HLB : Hid _ := hlb
              clear hno hx hKid ha hpl hpn hlb hsum
              go_wp2_with (first
                | (have g := kx; at_builtin; refine wpList_append_at rfl _ _ 68 rfl (w.heap.size + 2) 42 i0 (.pointer none) 8 Tryz.underlying68 hi hz0 hz1 hz2 rfl _ _ rfl ((hS2.out.on kx).own) _ _ rfl hLs (ptrs_one [(x, (⟨b', o' + i * 4, none⟩ : Addr))]) (by have := HLB.out; simp only [ptrsN, List.length_map]; unfold maxLen; simp; simp at this; omega) (by have := HLB.out; simp only [ptrsN, List.length_map]; simp; simp at this; omega) (by have := (hS2.out.on kx).size; omega) ?_; intro v' w6 hO6 hg6)
                | (go_at_call 38; refine hO2.mono ?_; rintro e w5 ⟨rfl, hk5⟩; have kx := (Kept.alloc hk5 (.cells #[.int .i64 0, .int .i64 0] 50)).alloc (.cells #[.pointer (some ⟨b', o' + i * 4, none⟩)] 42); have hLs := Lies.one (w5.alloc (.cells #[.int .i64 0, .int .i64 0] 50)) 42 (.pointer (some ⟨b', o' + i * 4, none⟩)); simp only [World.size_alloc] at hLs))
              have hg7 : World.grownBy _ w6 (Value.slice ga gn gc).ownBlock := hg6
              have hO7 : OwnAt w6 (w.heap.size + 2) 42 v' (ptrsN (rest ++ [(Nd.mk op s m ks, ⟨b, o, none⟩)] ++ (ps ++ [(x, ⟨b', o' + i * 4, none⟩)]))) := by
                rw [← List.append_assoc]
                unfold ptrsN at hO6 ⊢
                rw [List.map_append]
                exact hO6
              refine ⟨⟨i + 1, ps ++ [(x, ⟨b', o' + i * 4, none⟩)], by go_num, by omega, (hS2.out.on kx).grow hO7 hg7, hP.out.add HX.out HKd.out HA.out⟩, by simp [intOf]; omega⟩
            · rw [show ofF _ x _ = _ from hdn] at hO2
              have hx0 := x.size_pos
              have hx1 : ¬ x.size = 0 := by omega
              have HDn : Hid _ := hdn
              clear hdn hx hKid ha hpl hpn hsum
              go_wp2_with (go_at_call 38; refine hO2.mono ?_; rintro e w5 ⟨rfl, hk5⟩)
              refine ⟨⟨i + 1, ps, by go_num, by omega, hS2.out.on (Kept.alloc hk5 _), hP.out.skip HX.out HKd.out HDn.out⟩, by simp [intOf]; omega⟩
          · have q5 : ¬ (i : Int) < (ks.length : Int) := by omega
            obtain rfl : i = ks.length := by omega
            have HE3 : Hid (ExtI w T R (updF f ⟨b, o, none⟩ (0, 0)) (rest ++ [(Nd.mk op s m ks, ⟨b, o, none⟩)] ++ ps)) := hE.out.push HE0.out (fun y hy => hP.out.from_ y hy) (fun k x q' hx hq' hxa ho => hP.out.all k x q' (List.getElem?_eq_some_iff.1 hx).1 hx hq' hxa ho)
            go_wp2_with fail
            go_roundg (muF (updF f ⟨b, o, none⟩ (0, 0)) (rest ++ [(Nd.mk op s m ks, ⟨b, o, none⟩)] ++ ps))
            case measure => omega
            case rel => exact ⟨_, _, Nat.le_refl _, by omega, hS2.out, HE3.out⟩
theorem NdV.boxed {w : World} {base : Nat} {t : Nd} {op n : Int} {s : ByteArray} {ao : Option Addr} {l cap : Nat} {ty : TypeId} (h : NdV w base t (.agg #[.int .i64 op, .string s, .int .i64 n, .slice ao l cap])) (hb : 1 ≤ base) : NdAt (w.alloc (.cells #[.int .i64 op, .string s, .int .i64 n, .slice ao l cap] ty)) t ⟨w.heap.size, 0, none⟩ := by
  have z := Cells.new w ty #[.int .i64 op, .string s, .int .i64 n, .slice ao l cap]
  exact ⟨w.heap.size, 0, rfl, ⟨_, _, z⟩, _, _, _, _, z.cell 0, z.cell 1, z.cell 2, z.cell 3, (NdV.mono hb _ _ h).kept (Kept.alloc (Below.refl _ _) _)⟩
end Go.Proofs.YtlinbkgeahgkjaaGreatDoor
