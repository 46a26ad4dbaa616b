/-
  The iterator over what is within a node (within$1), called with whatever loop body that goes on (chapter 14).
  The contract of namesOf; one round of a range over a function (chapter 14).
  A range over what is within a node (chapter 14): one law for every such loop.
  The contract of declared (chapter 14): the names and the lets of a function.
-/
import Derived.Deep.RegionWith
import Derived.Test.YtlinbkgeahgkjaaGreatDoorGrpWi
import Derived.Test.YtlinbkgeahgkjaaGreatDoorTldB
import Derived.Test.YtlinbkgeahgkjaaGreatDoorZSpnP
import Derived.Test.YtlinbkgeahgkjaaGreatDoorZEnvA
import Derived.Test.YtlinbkgeahgkjaaGreatDoorSeqRI
namespace Go.Proofs.YtlinbkgeahgkjaaGreatDoor
open Go.RowKit Go.Shelf
attribute [local go_sem] Oper.semAt_some
set_option linter.unusedSimpArgs false
set_option linter.unusedVariables false

/-- What a body keeps of the iterator's: pointers and functions. -/
structure KB (W W' : World) : Prop where
  size : W.heap.size ≤ W'.heap.size
  ptr : ∀ (b : Nat) cs ty fz, W.heap[b]? = some (.cells cs ty fz) → ty = 42 ∨ ty = 80 → W'.heap[b]? = W.heap[b]?
/-- What the iterator keeps of a body's: all but pointers. -/
structure KI (W W' : World) : Prop where
  os : W'.os = W.os
  tape : W'.tape = W.tape
  output : W'.output = W.output
  size : W.heap.size ≤ W'.heap.size
  rest : ∀ (b : Nat), b < W.heap.size → (∀ cs fz, W.heap[b]? ≠ some (.cells cs 42 fz)) → W'.heap[b]? = W.heap[b]?
theorem KI.refl (W : World) : KI W W := ⟨rfl, rfl, rfl, Nat.le_refl _, fun _ _ _ => rfl⟩
theorem KI.grown {W W' : World} {g : Option Nat} (h : W.grownBy W' g) (hg : ∀ b, g = some b → ∃ cs fz, W.heap[b]? = some (.cells cs 42 fz)) : KI W W' :=
  ⟨h.os, h.tape, h.output, h.size, fun b hb hn => h.block b hb (fun e => by obtain ⟨cs, fz, e2⟩ := hg b e.symm; exact hn cs fz e2)⟩
theorem Cells.kb {W W' : World} {B : Nat} {t : TypeId} {cs : Array Value} (h : Cells W B t cs) (hk : KB W W') (ht : t = 42 ∨ t = 80) : Cells W' B t cs := (hk.ptr B _ _ _ h ht).trans h
theorem ownsRow_kb {W W' : World} {n : Nat} {v : Value} {xs : List Value} (h : W.ownsRow 0 42 1 v n xs) (hk : KB W W') : W'.ownsRow 0 42 1 v n xs := by
  obtain ⟨h1, h2 | ⟨g, cap, cur, e, h3, h4, h5⟩⟩ := h
  · exact ⟨h1, .inl h2⟩
  · exact ⟨h1, .inr ⟨g, cap, cur, e, h3, (hk.ptr g _ _ _ h4 (.inl rfl)).trans h4, h5⟩⟩
theorem ownsRow_block {W : World} {n : Nat} {v : Value} {xs : List Value} (h : W.ownsRow 0 42 1 v n xs) : ∀ b, v.ownBlock = some b → ∃ cs fz, W.heap[b]? = some (.cells cs 42 fz) := by
  obtain ⟨h1, ⟨e, _⟩ | ⟨g, cap, cur, e, h3, h4, h5⟩⟩ := h
  · intro b hb; rw [e] at hb; simp [Value.ownBlock] at hb
  · intro b hb
    rw [e] at hb
    simp [Value.ownBlock] at hb
    subst hb
    exact ⟨cur, _, h4⟩
open Classical in
noncomputable def szAt (W : World) (p : Addr) : Nat := if h : ∃ t, NdAt W t p then (Classical.choose h).size else 0
theorem szAt_is {W : World} {t : Nd} {p : Addr} (h : NdAt W t p) : szAt W p = t.size := by
  have hx : ∃ t, NdAt W t p := ⟨t, h⟩
  rw [szAt, dif_pos hx, NdAt.det (Classical.choose_spec hx) h]
noncomputable def muP (W : World) : List Value → Nat
  | [] => 0
  | .pointer (some p) :: r => szAt W p + muP W r
  | _ :: r => muP W r
theorem muP_is {W : World} {it : List Itm} (h : ItmAt W it) : muP W (ptrV it) = sizI it := by
  induction it with
  | nil => rfl
  | cons x it ih =>
    show szAt W x.2 + muP W (ptrV it) = x.1.size + sizI it
    rw [szAt_is (h x (by simp)), ih (fun y hy => h y (by simp [hy]))]
def rowOf (w : World) : Value → List Value
  | .slice (some a) n _ => (List.range n).filterMap (fun i => w.cell? (a.add i))
  | _ => []
theorem rowOf_is {w : World} {v : Value} {n : Nat} {xs : List Value} (h : w.ownsRow 0 42 1 v n xs) : rowOf w v = xs := by
  have hc := fun g e => World.ownsRow.cells h (g := g) e
  obtain ⟨h1, ⟨rfl, rfl⟩ | ⟨g, cap, cur, rfl, _⟩⟩ := h
  · simp at h1
    rw [h1]; rfl
  · have hh := hc g rfl
    show (List.range n).filterMap _ = xs
    rw [Nat.mul_one] at h1
    subst h1
    have : (List.range xs.length).map (fun i => w.cell? ((⟨g, 0, none⟩ : Addr).add i)) = xs.map some := by
      apply List.ext_getElem?
      intro i
      by_cases hi : i < xs.length
      · rw [List.getElem?_map, List.getElem?_range hi, List.getElem?_map, List.getElem?_eq_getElem hi]
        simp only [Option.map_some]
        rw [hh i xs[i] (List.getElem?_eq_getElem hi)]
      · rw [List.getElem?_eq_none (by simp; omega), List.getElem?_eq_none (by simp; omega)]
    have e2 : List.filterMap id ((List.range xs.length).map (fun i => w.cell? ((⟨g, 0, none⟩ : Addr).add i))) = xs := by rw [this]; simp
    rw [List.filterMap_map] at e2
    exact e2
noncomputable def muV (WT : World) (v : Value) (w : World) : Nat := muP WT (rowOf w v)
theorem muV_is {WT w : World} {v : Value} {it : List Itm} {n : Nat} (h : w.ownsRow 0 42 1 v n (ptrV it)) (hi : ItmAt WT it) : muV WT v w = sizI it := by
  rw [muV, rowOf_is h, muP_is hi]
/-- What lies at a node: its op, and its kids' row. -/
theorem NdAt.head {W : World} {op n : Int} {s : ByteArray} {ks : List Nd} {p : Addr} (h : NdAt W (.mk op s n ks) p) : ∃ b off ao cap, p = ⟨b, off, none⟩ ∧ W.cell? ⟨b, off, none⟩ = some (.int .i64 op) ∧ W.cell? ⟨b, off + 1, none⟩ = some (.string s) ∧ W.cell? ⟨b, off + 3, none⟩ = some (.slice ao ks.length cap) ∧ (ks = [] ∨ ∃ b' off', ao = some ⟨b', off', none⟩ ∧ ∀ k x, ks[k]? = some x → NdAt W x ⟨b', off' + k * 4, none⟩) := by
  have h2 := h
  obtain ⟨b, off, rfl, hu, c0, c1, c2, c3, h0, h1, hc2, h3, hv⟩ := h
  obtain ⟨b', off', ao, cap, e, g3, hl, hk⟩ := h2.open
  simp at e
  obtain ⟨rfl, rfl⟩ := e
  rw [NdV] at hv
  obtain ⟨ao', cap', e, _⟩ := hv
  simp at e
  obtain ⟨rfl, rfl, rfl, rfl⟩ := e
  exact ⟨b, off, ao, cap, rfl, h0, h1, g3, hk⟩
set_option maxHeartbeats 16000000 in
set_option maxRecDepth 100000 in
theorem within1_in (n : Nat) (hn : 1 ≤ n) (l Bf Bn : Nat) (WT WK W0 : World) (hTK : Kept WT WK) (op m : Int) (s : ByteArray) (ks : List Nd) (p : Addr) (r : Loop) (hsz : (Nd.mk op s m ks).size ≤ 1000000) (hT : NdAt WT (.mk op s m ks) p) (hK : Kept WK W0)
    (hBf : Cells W0 Bf 80 #[.func (.func 28) #[] #[]]) (hBn : Cells W0 Bn 42 #[.pointer (some p)]) (hrec : W0.heap[l]? = some (.loop r)) (J : List Nd → World → Prop) (hJ : ∀ pre W W', J pre W → KI W W' → J pre W') (hJ0 : J [] W0)
    (hY : ∀ (W : World) (pre : List Nd) (x : Nd) (q : Addr), Kept WK W → W.heap[l]? = some (.loop r) → NdAt WT x q → (pre ++ [x]) <+: wisK ks → J pre W →
      YieldAt Fence.wide (n - 1) Tryz.prog l #[.pointer (some q)] W fun e W' => e = .returned (.bool true) ∧ J (pre ++ [x]) W' ∧ W'.heap[l]? = some (.loop r) ∧ Kept WK W' ∧ KB W W') :
    CallsIn Fence.wide n Tryz.prog 44 #[.func (.yield l) #[] #[], .pointer (some ⟨Bf, 0, none⟩), .pointer (some ⟨Bn, 0, none⟩)] W0 fun e W' => (∃ v, e = .returned v) ∧ J (wisK ks) W' ∧ W'.heap[l]? = some (.loop r) ∧ Kept WK W' := by
  obtain ⟨b, off, ao, cap, rfl, h0, h1, h3, hks⟩ := hT.head
  have cf := hBf.cell 0
  have cn := hBn.cell 0
  have hAk := allKids_ok W0 b off ao ks.length cap (kept_cell (Kept.trans hTK hK) h3)
  obtain ⟨b', off', hao⟩ : ∃ b' off', ks = [] ∨ (ao = some ⟨b', off', none⟩ ∧ ∀ k x, ks[k]? = some x → NdAt WT x ⟨b', off' + k * 4, none⟩) := by
    rcases hks with h | ⟨b', off', e, h⟩
    · exact ⟨0, 0, .inl h⟩
    · exact ⟨b', off', .inr ⟨e, h⟩⟩
  have hkl : ks.length ≤ 1000000 := by have := len_sizes ks; simp only [Nd.size] at hsz; omega
  have hWa := withAhead_ok W0 (.slice none 0 0) [] ao cap ks b' off' ⟨rfl, .inl ⟨rfl, rfl⟩⟩ (by rcases hao with h | ⟨h, _⟩; exact .inl h; exact .inr h) (by simp; omega)
  have hIt : ItmAt WT (kidI b' off' ks 0) := by
    rcases hao with h | ⟨_, h⟩
    · rw [h]; intro x hx; simp [kidI] at hx
    · exact ItmAt.kids h
  have HY : Hid _ := hY
  have HJ : Hid _ := hJ
  have HJ0 : Hid _ := hJ0
  have HIt : Hid _ := hIt
  have HKT : Hid _ := hK
  have HRC : Hid _ := hrec
  have HBf : Hid _ := hBf
  have HSZ : Hid (sizesN ks ≤ 1000000) := by simp only [Nd.size] at hsz; rw [Hid]; omega
  clear hY hJ hJ0 hIt hK hrec hBf hBn hT hks hao h0 h1 h3 hsz
  refine callsIn_of_wp Tryz.func44 rfl trivial ?_ rfl
  simp only [Tryz.ntmps44, List.size_toArray, List.length_cons, List.length_nil, Nat.reduceAdd, Nat.reduceSub, Array.replicate_succ, Array.replicate_zero, List.push_toArray, List.append_toArray, List.nil_append, List.cons_append]
  gi_wp2_with (first
    | (have _tk := tk1; refine ⟨trivial, ?_⟩; gi_at_call 45; refine (callsIn_wide.2 hWa).mono ?_; rintro e w1 ⟨v1, rfl, hr1, hg1, ho1⟩)
    | (refine ⟨trivial, ?_⟩; gi_at_call 28; refine (callsIn_wide.2 hAk).mono ?_; rintro e wx ⟨rfl, rfl⟩; have tk1 : True := trivial))
  have gi1 : KI wx w1 := KI.grown hg1 (fun b e => by simp [Value.ownBlock] at e)
  have hlx := (Array.getElem?_eq_some_iff.1 HRC.out).1
  have hl1 : w1.heap[l]? = some (.loop r) := (gi1.rest l hlx (by intro cs fz e; rw [HRC.out] at e; cases e)).trans HRC.out
  have hbx := (Array.getElem?_eq_some_iff.1 HBf.out).1
  have hb1 : Cells w1 Bf 80 #[.func (.func 28) #[] #[]] := (gi1.rest Bf hbx (by intro cs fz e; rw [HBf.out] at e; simp at e)).trans HBf.out
  have hk1 : Kept WK w1 := Below.trans HKT.out ((Below.refl _ wx).grown hg1 (HKT.out.size) (fun k e => by simp [Value.ownBlock] at e))
  have hj1 := HJ.out [] wx w1 HJ0.out gi1
  have hsw := HKT.out.size
  have HB0 : Hid (∀ bb, v1.ownBlock = some bb → WK.heap.size ≤ bb) := by
    intro bb e
    rcases ho1 with h | ⟨g, h, hg⟩
    · rw [h] at e; simp [Value.ownBlock] at e
    · rw [h] at e; injection e with e; omega
  have hr1' : w1.ownsRow 0 42 1 v1 (kidI b' off' ks 0).reverse.length (ptrV (kidI b' off' ks 0).reverse) := by
    rw [List.length_reverse, kidI_len]
    simpa using hr1
  have hpd : ([] : List Nd) ++ pendK (kidI b' off' ks 0).reverse = wisK ks := by
    have := pendK_push [] (kidI b' off' ks 0)
    rw [List.nil_append, pendK_nil, List.append_nil, kidI_map] at this
    rw [List.nil_append, this]
  have hsz1 : sizI (kidI b' off' ks 0).reverse ≤ 1000000 := by rw [sizI_rev, sizI_kid]; exact HSZ.out
  have hia : ItmAt WT (kidI b' off' ks 0).reverse := fun x hx => HIt.out x (by simpa using hx)
  have HS0 : Hid _ := hr1'
  have HS1 : Hid _ := hpd
  have HS2 : Hid _ := hsz1
  have HS3 : Hid _ := hia
  have HS4 : Hid _ := hj1
  have HS5 : Hid _ := hl1
  have HS6 : Hid _ := hk1
  have HS7 : Hid _ := hb1
  clear hr1 hr1' hpd hsz1 hia hj1 hl1 hk1 hb1 gi1 hg1 ho1 hWa hAk cf cn HJ0 HKT HRC HBf HIt HSZ hlx hbx
  gi_loopw [4] (fun vs wr => ∃ (v : Value) (it : List Itm) (pre : List Nd), vs = v ∧ Hid (wr.ownsRow 0 42 1 v it.length (ptrV it)) ∧ Hid (ItmAt WT it ∧ pre ++ pendK it = wisK ks ∧ sizI it ≤ 1000000 ∧ J pre wr ∧ wr.heap[l]? = some (.loop r) ∧ Kept WK wr ∧ Cells wr Bf 80 #[.func (.func 28) #[] #[]] ∧ ∀ bb, v.ownBlock = some bb → WK.heap.size ≤ bb)) (fun vs wr => muV WT vs wr)
  case atStart => exact ⟨v1, _, [], rfl, HS0.out, HS3.out, HS1.out, HS2.out, HS4.out, HS5.out, HS6.out, HS7.out, HB0.out⟩
  case round =>
    obtain ⟨v, it, pre, hvv, HO, HI⟩ := hrel
    obtain rfl : v = _ := hvv.symm
    clear HS0 HS1 HS2 HS3 HS4 HS5 HS6 HS7 HB0
    obtain ⟨hia, hpd, hsz, hj, hl, hk, hb, hbb⟩ := HI.out
    rcases List.eq_nil_or_concat it with rfl | ⟨it', x, rfl⟩
    · obtain ⟨va, vc, rfl⟩ : ∃ va vc, v = .slice va 0 vc := by
        obtain ⟨_, ⟨e, _⟩ | ⟨g, c, cur, e, _⟩⟩ := HO.out
        · exact ⟨_, _, e⟩
        · exact ⟨_, _, e⟩
      rw [pendK_nil, List.append_nil] at hpd
      subst hpd
      have HJ1 : Hid _ := hj
      have HL1 : Hid _ := hl
      have HK1 : Hid _ := hk
      clear hia hsz hj hl hk hb hbb HI HO
      gi_wp2
      go_end0
      exact ⟨⟨_, rfl⟩, HJ1.out, HL1.out, HK1.out⟩
    · have hla : (it'.concat x).length = it'.length + 1 := by simp
      rw [List.concat_eq_append] at hia hpd hsz HO
      obtain ⟨g, c, rfl⟩ : ∃ g c, v = .slice (some ⟨g, 0, none⟩) (it'.length + 1) c := by
        obtain ⟨_, ⟨e, e2⟩ | ⟨g, c, cur, e, _⟩⟩ := HO.out
        · simp at e2
        · exact ⟨g, c, by rw [e]; simp⟩
      have hO' : wr.ownsRow 0 42 1 (.slice (some ⟨g, 0, none⟩) (it'.length + 1) c) (it'.length + 1) (ptrV it' ++ [.pointer (some x.2)]) := by
        have := HO.out
        rw [ptrV_app, List.length_append] at this
        exact this
      have hcut := ownsRow_cut hO' (ptrV_len it')
      have hcel : wr.cell? ⟨g, it'.length, none⟩ = some (.pointer (some x.2)) := by
        have := World.ownsRow.cells hO' (g := g) rfl it'.length (.pointer (some x.2)) (by rw [List.getElem?_append_right (by rw [ptrV_len]; omega), ptrV_len]; simp)
        rw [← this]
        unfold Addr.add
        split <;> simp_all
      have hcap : it'.length + 1 ≤ c ∧ c ≤ maxLen := by
        obtain ⟨_, ⟨e, _⟩ | ⟨g', c', cur, e, _, _, h1, h2, _⟩⟩ := hO'
        · cases e
        · injection e with e1 e2 e3; subst e3; exact ⟨h1, h2⟩
      obtain ⟨⟨opx, sx, nx, kx⟩, q⟩ := x
      have hsz2 : sizI it' + (1 + sizesN kx) ≤ 1000000 := by rw [sizI_app] at hsz; simp only [sizI, Nd.size] at hsz; omega
      have hlen := len_sizI it'
      have hitx : NdAt WT (.mk opx sx nx kx) q := hia ((.mk opx sx nx kx, q)) (by simp)
      have hpd2 : (pre ++ [Nd.mk opx sx nx kx]) ++ ((if opx = 27 then [] else wisK kx) ++ pendK it') = wisK ks := by
        rw [← hpd, pendK_pop, wiK]
        simp
      have hpre : (pre ++ [Nd.mk opx sx nx kx]) <+: wisK ks := ⟨_, hpd2⟩
      obtain ⟨fn', tm', as', bo', hy, hRd⟩ := HY.out wr pre (.mk opx sx nx kx) q hk hl hitx hpre hj
      obtain ⟨bx, ox, ax, cx, rfl, x0, x1, x3, hkx⟩ := hitx.head
      have HI' : Hid _ := hia
      have HP2 : Hid _ := hpd2
      have HCut : Hid _ := hcut
      have HX0 : Hid _ := x0
      have HX3 : Hid _ := x3
      have HKX : Hid _ := hkx
      have HBB : Hid _ := hbb
      have HB1 : Hid _ := hb
      have HMu : Hid (muV WT (.slice (some ⟨g, 0, none⟩) (it'.length + 1) c) wr = sizI it' + (1 + sizesN kx)) := by
        rw [Hid, muV_is HO.out hia, sizI_app]
        simp only [sizI, Nd.size]
        omega
      have q1 : (0 : Int) < (it'.length : Int) + 1 := by omega
      have q2 : it'.length + 1 ≤ c := hcap.1
      have q3 : (it'.length : Int) ≤ (c : Int) := by omega
      have q4 : (c : Int) ≤ 9223372036854775807 := by have := hcap.2; unfold maxLen at this; omega
      clear hia hpd hsz hj hl hk hb hbb HI hO' hcut hcap hpd2 hpre hitx x0 x1 x3 hkx HO hla
      gi_wp2
      refine hRd.mono ?_
      rintro e W4 ⟨rfl, hj4, hl4, hk4, hkb⟩
      have e0 := kept_cell (Kept.trans hTK hk4) HX0.out
      have e3 := kept_cell (Kept.trans hTK hk4) HX3.out
      have row4 := ownsRow_kb HCut.out hkb
      have bf4 := Cells.kb HB1.out hkb (.inr rfl)
      have cf4 := bf4.cell 0
      have hia4 : ItmAt WT it' := fun y hy => HI'.out y (by simp [hy])
      by_cases h27 : opx = 27
      · have h27' : (opx != 27) = false := by simp [h27]
        have hp4 : (pre ++ [Nd.mk opx sx nx kx]) ++ pendK it' = wisK ks := by
          have := HP2.out
          rw [if_pos h27, List.nil_append] at this
          exact this
        have HZ : Hid _ := hp4
        have HZ1 : Hid _ := hj4
        have HZ2 : Hid _ := hl4
        have HZ3 : Hid _ := hk4
        have HZ4 : Hid _ := row4
        have HZ5 : Hid _ := bf4
        have HZ6 : Hid _ := hia4
        have HZ7 : Hid (sizI it' ≤ 1000000) := by rw [Hid]; omega
        clear h27 hp4 hj4 hl4 hk4 row4 bf4 hia4 hkb hy hRd cf4 e3 hsz2
        gi_wp2
        go_roundw
        case rel => exact ⟨_, it', pre ++ [Nd.mk opx sx nx kx], rfl, HZ4.out, HZ6.out, HZ.out, HZ7.out, HZ1.out, HZ2.out, HZ3.out, HZ5.out, HBB.out⟩
        case measure =>
          rw [muV_is HZ4.out HZ6.out, HMu.out]
          omega
      · have h27' : (opx != 27) = true := by simpa using h27
        obtain ⟨b2, o2, hao⟩ : ∃ b' off', kx = [] ∨ (ax = some ⟨b', off', none⟩ ∧ ∀ k x, kx[k]? = some x → NdAt WT x ⟨b', off' + k * 4, none⟩) := by
          rcases HKX.out with h | ⟨b', off', e, h⟩
          · exact ⟨0, 0, .inl h⟩
          · exact ⟨b', off', .inr ⟨e, h⟩⟩
        have hlk := len_sizes kx
        have hWa := withAhead_ok W4 (.slice (some ⟨g, 0, none⟩) it'.length c) it' ax cx kx b2 o2 row4 (by rcases hao with h | ⟨h, _⟩; exact .inl h; exact .inr h) (by omega)
        have hAk := allKids_ok W4 bx ox ax kx.length cx e3
        have hIt : ItmAt WT (kidI b2 o2 kx 0) := by
          rcases hao with h | ⟨_, h⟩
          · rw [h]; intro x hx; simp [kidI] at hx
          · exact ItmAt.kids h
        have hp4 : (pre ++ [Nd.mk opx sx nx kx]) ++ pendK (it' ++ (kidI b2 o2 kx 0).reverse) = wisK ks := by
          have := HP2.out
          rw [if_neg h27] at this
          rw [pendK_push, kidI_map]
          exact this
        have hz4 : sizI (it' ++ (kidI b2 o2 kx 0).reverse) = sizI it' + sizesN kx := by rw [sizI_app, sizI_rev, sizI_kid]
        have hi5 : ItmAt WT (it' ++ (kidI b2 o2 kx 0).reverse) := fun y hy => by
          rcases List.mem_append.1 hy with h | h
          · exact hia4 y h
          · exact hIt y (by simpa using h)
        have HZ : Hid _ := hp4
        have HZ1 : Hid _ := hj4
        have HZ2 : Hid _ := hl4
        have HZ3 : Hid _ := hk4
        have HZ4 : Hid _ := row4
        have HZ5 : Hid _ := bf4
        have HZ6 : Hid _ := hi5
        have HZ7 : Hid _ := hz4
        have HZ8 : Hid (sizI it' + sizesN kx ≤ 1000000) := by rw [Hid]; omega
        clear h27 hp4 hj4 hl4 hk4 row4 bf4 hia4 hkb hy hRd hao hIt hz4 hi5 hlk hsz2
        gi_wp2_with (first
          | (have _tk := tk1; refine ⟨trivial, ?_⟩; gi_at_call 45; refine (callsIn_wide.2 hWa).mono ?_; rintro e w5 ⟨v5, rfl, hr5, hg5, ho5⟩)
          | (refine ⟨trivial, ?_⟩; gi_at_call 28; refine (callsIn_wide.2 hAk).mono ?_; rintro e wx ⟨rfl, rfl⟩; have tk1 : True := trivial))
        have gi5 := KI.grown hg5 (ownsRow_block HZ4.out)
        have hlx := (Array.getElem?_eq_some_iff.1 HZ2.out).1
        have hl5 := (gi5.rest l hlx (by intro cs fz e; rw [HZ2.out] at e; cases e)).trans HZ2.out
        have hbx := (Array.getElem?_eq_some_iff.1 (show wx.heap[Bf]? = _ from HZ5.out)).1
        have hb5 : Cells w5 Bf 80 #[.func (.func 28) #[] #[]] := (gi5.rest Bf hbx (by intro cs fz e; rw [show wx.heap[Bf]? = _ from HZ5.out] at e; simp at e)).trans HZ5.out
        have hsw := HZ3.out.size
        have hk5 : Kept WK w5 := Below.trans HZ3.out ((Below.refl _ wx).grown hg5 hsw (fun k e => HBB.out k e))
        have hj5 := HJ.out _ wx w5 HZ1.out gi5
        have hb6 : ∀ bb, v5.ownBlock = some bb → WK.heap.size ≤ bb := by
          intro bb e
          rcases ho5 with h | ⟨g', h, hg'⟩
          · rw [h] at e; exact HBB.out bb e
          · rw [h] at e; injection e with e; omega
        have hr6 : w5.ownsRow 0 42 1 v5 (it' ++ (kidI b2 o2 kx 0).reverse).length (ptrV (it' ++ (kidI b2 o2 kx 0).reverse)) := by
          rw [List.length_append, List.length_reverse, kidI_len]
          exact hr5
        have hmu := muV_is hr6 HZ6.out
        go_roundw
        case rel => exact ⟨v5, _, pre ++ [Nd.mk opx sx nx kx], rfl, hr6, HZ6.out, HZ.out, by rw [HZ7.out]; exact HZ8.out, hj5, hl5, hk5, hb5, hb6⟩
        case measure =>
          rw [hmu, HMu.out, HZ7.out]
          omega
end Go.Proofs.YtlinbkgeahgkjaaGreatDoor
namespace Go.Proofs.YtlinbkgeahgkjaaGreatDoor
open Go.RowKit Go.Shelf
set_option linter.unusedSimpArgs false
set_option linter.unusedVariables false

def namesL (op : Int) (s : ByteArray) : List ByteArray := if op = 27 then (if s.size = 0 then [] else partsL s) else []
theorem partsL_len {s : ByteArray} (hs : s.size ≤ 1048576) : (partsL s).length ≤ 1048578 := by
  have h1 := Lib.count_le s.data.toList blankS.data.toList
  rw [parts_count s _ (Nat.lt_succ_self _)]
  have e : s.data.toList.length = s.size := by rw [Array.length_toList]; rfl
  unfold Lib.countB
  omega
theorem namesL_len {op : Int} {s : ByteArray} (hs : s.size ≤ 1048576) : (namesL op s).length ≤ 1048578 := by
  unfold namesL
  split
  · split
    · simp
    · exact partsL_len hs
  · simp
/-- Texts in a row of one's own. -/
def TxO (W : World) (B : Nat) (v : Value) (ts : List ByteArray) : Prop := W.ownsRow B 9 1 v ts.length (ts.map Value.string)
theorem TxO.nil (W : World) (B : Nat) : TxO W B (.slice none 0 0) [] := ⟨rfl, .inl ⟨rfl, rfl⟩⟩
theorem TxO.slice {W : World} {B : Nat} {v : Value} {ts : List ByteArray} (h : TxO W B v ts) : ∃ a c, v = .slice a ts.length c := by
  obtain ⟨_, ⟨rfl, h0⟩ | ⟨g, c, cur, rfl, _⟩⟩ := h
  · exact ⟨none, 0, by rw [h0]⟩
  · exact ⟨_, _, rfl⟩
set_option maxHeartbeats 8000000 in
set_option maxRecDepth 100000 in
theorem namesOf_ok (w : World) (b off : Nat) (op : Int) (s : ByteArray) (h0 : w.cell? ⟨b, off, none⟩ = some (.int .i64 op)) (h1 : w.cell? ⟨b, off + 1, none⟩ = some (.string s)) (hE : EnvA w) (hs : s.size ≤ 1048576) :
    Calls Tryz.prog 43 #[.pointer (some ⟨b, off, none⟩)] w fun e w' => ∃ v, e = .returned v ∧ TxO w' w.heap.size v (namesL op s) ∧ Kept w w' := by
  by_cases h27 : op = 27
  · subst h27
    by_cases hz : s.size = 0
    · have hemp : s = ⟨#[]⟩ := by
        apply ByteArray.ext
        exact Array.eq_empty_of_size_eq_zero hz
      subst hemp
      have HN : Hid (namesL 27 ⟨#[]⟩ = []) := by rw [Hid, namesL, if_pos rfl]; exact if_pos (by decide)
      go_enter Tryz.func43, Tryz.ntmps43
      go_wp2_with fail
      go_ret
      exact ⟨_, rfl, by rw [HN.out]; exact TxO.nil _ _, Below.refl _ _⟩
    · have hne : ¬ s.toList = [] := by
        rw [ByteArray.toList_eq]
        intro h
        exact hz (by show s.data.size = 0; rw [← Array.length_toList, h]; rfl)
      have HEm : s.toList.isEmpty = false := by
        cases h : s.toList with
        | nil => exact absurd h hne
        | cons a l => rfl
      have HN : Hid (namesL 27 s = partsL s) := by simp [Hid, namesL, hz]
      obtain ⟨m, hm⟩ := hE.mx
      have hS := lib_strings_Split s blankS m w (by omega) hm (by decide)
      rw [← parts_count s _ (Nat.lt_succ_self _), show Lib.splitB blankS 0 (Lib.countB s blankS) s = partsL s from rfl] at hS
      have hpl := partsL_len hs
      obtain ⟨L, hL⟩ : ∃ L, partsL s = L := ⟨_, rfl⟩
      rw [hL] at hS HN hpl
      have HO : Hid (TxO (w.alloc (.cells (L.map Value.string).toArray 9)) w.heap.size (.slice (some ⟨w.heap.size, 0, none⟩) L.length L.length) L) :=
        ⟨by simp, .inr ⟨w.heap.size, L.length, (L.map Value.string).toArray, rfl, Nat.le_refl _, Cells.new w _ _, Nat.le_refl _, by unfold maxLen; omega, by simp, by rw [Nat.mul_one]; exact List.take_of_length_le (by simp)⟩⟩
      clear hm hE hL hz
      go_enter Tryz.func43, Tryz.ntmps43
      go_wp2_with (go_at_call 66; refine hS.mono ?_; rintro e w1 ⟨rfl, rfl⟩)
      go_ret
      exact ⟨_, rfl, by rw [HN.out]; exact HO.out, Kept.alloc (Below.refl _ _) _⟩
  · have h27' : (op != 27) = true := by simpa using h27
    have HN : Hid (namesL op s = []) := by simp [Hid, namesL, h27]
    go_enter Tryz.func43, Tryz.ntmps43
    go_wp2_with fail
    go_ret
    exact ⟨_, rfl, by rw [HN.out]; exact TxO.nil _ _, Below.refl _ _⟩
theorem grown_putL {a b : World} {l : Nat} (h : a.grownBy b (some l)) (o : Obj) : a.grownBy (b.putObj l o) (some l) := h.trans (grownBy_putObj' b l o)
/-- One round that goes on. -/
theorem round_goes {m : Nat} {P : Program} {l : Nat} {r : Loop} {args : Array Value} {W : World} {R : Ending → World → Prop} (hl : W.heap[l]? = some (.loop r)) (hr : r.state = .ready) (hs : args.size = r.params.size)
    (h : r.assign.wpIn (Fence.wide.inRound l) m P (Exit.then (fun a1 W1 => W1.heap[l]? = some (.loop r) ∧ ∀ (rb : Loop) (WB : World), W1.putObj l (.loop rb) = WB → WB.heap[l]? = some (.loop rb) → r.body.wpIn (Fence.wide.inRound l) m P (fun e _ W3 => W3.heap[l]? = some (.loop rb) ∧
        (e = .normal ∧ R (.returned (.bool true)) (W3.putObj l (.loop r)))) a1 WB) (fun _ _ _ => False))
      { tmps := (r.params.zip args).foldl (fun tmps (t, a) => tmps.setIfInBounds t a) r.tmps, defers := [] } W) (hp : r.pending = none) :
    YieldAt Fence.wide m P l args W R := by
  refine round_told hl hr hs (Code.wpIn_mono (fun e a1 W1 h1 => ?_) h)
  cases e with
  | normal =>
    obtain ⟨h2, h3⟩ := h1
    refine ⟨h2, Code.wpIn_mono (fun e a3 W3 h4 => ?_) (h3 { r with state := .busy } _ rfl (World.putObj_heap_same (Array.getElem?_eq_some_iff.1 h2).1))⟩
    obtain ⟨h5, e, h6⟩ := h4
    refine ⟨h5, .inl ⟨e, ?_⟩⟩
    have : ({ r with state := .ready, pending := none } : Loop) = r := by cases r; simp_all
    rw [this]; exact h6
  | _ => exact h1.elim
end Go.Proofs.YtlinbkgeahgkjaaGreatDoor
namespace Go.Proofs.YtlinbkgeahgkjaaGreatDoor
open Go.RowKit Go.Shelf
set_option linter.unusedSimpArgs false
set_option linter.unusedVariables false

theorem KB.kept {W W' : World} (h : Kept W W') : KB W W' := ⟨h.size, fun b _ _ _ hb _ => h.block b (Array.getElem?_eq_some_iff.1 hb).1⟩
theorem KB.trans {a b c : World} (h : KB a b) (k : KB b c) : KB a c := ⟨Nat.le_trans h.size k.size, fun i cs ty fz hi ht => (k.ptr i cs ty fz ((h.ptr i cs ty fz hi ht).trans hi) ht).trans (h.ptr i cs ty fz hi ht)⟩
theorem KB.refl (W : World) : KB W W := ⟨Nat.le_refl _, fun _ _ _ _ _ _ => rfl⟩
theorem KB.put {W : World} {l : Nat} {r : Loop} (h : W.heap[l]? = some (.loop r)) (o : Obj) : KB W (W.putObj l o) := ⟨by simp, fun b cs ty fz hb _ => World.putObj_heap_other (fun e => by subst e; rw [h] at hb; cases hb)⟩
/-- A block that is turned is no row of pointers. -/
theorem KB.grown {W W' : World} {g : Option Nat} (h : W.grownBy W' g) (hg : ∀ b, g = some b → ∀ cs ty fz, W.heap[b]? = some (.cells cs ty fz) → ty ≠ 42 ∧ ty ≠ 80) : KB W W' :=
  ⟨h.size, fun b cs ty fz hb ht => h.block b (Array.getElem?_eq_some_iff.1 hb).1 (fun e => by
    have := hg b e.symm cs ty fz hb
    rcases ht with h | h
    · exact this.1 h
    · exact this.2 h)⟩
theorem KB.set {W : World} {B : Nat} {j : Nat} {t : TypeId} {cs : Array Value} {u : Value} (h : Cells W B t cs) (ht : t ≠ 42 ∧ t ≠ 80) : KB W (W.setCell ⟨B, j, none⟩ u) :=
  ⟨by simp, fun b cs' ty fz hb hty => Below.heap_setCell _ _ _ _ (fun e => by
    simp at e
    subst e
    rw [show W.heap[b]? = _ from h] at hb
    injection hb with hb
    injection hb with _ hb
    subst hb
    rcases hty with h | h
    · exact ht.1 h
    · exact ht.2 h)⟩
theorem Kept.put {w W : World} {l : Nat} (h : Kept w W) (hl : w.heap.size ≤ l) (o : Obj) : Kept w (W.putObj l o) := Below.trans h ((Below.refl _ W).grown (grownBy_putObj' W l o) h.size (fun k e => by have := Option.some.inj e; omega))
set_option maxHeartbeats 4000000 in
theorem range_within {n : Nat} (hn : 3 ≤ n) {g : Operand} {ps : Array Tmp} {assign body : Code} {Q : Exit → Act → World → Prop} {a : Act} (WT WK W0 : World) (hTK : Kept WT WK) (Bf Bn : Nat) (hg : a.eval g = .func (.func 44) #[] #[.pointer (some ⟨Bf, 0, none⟩), .pointer (some ⟨Bn, 0, none⟩)]) (hps : ps.size = 1)
    (op m : Int) (s : ByteArray) (ks : List Nd) (p : Addr) (hsz : (Nd.mk op s m ks).size ≤ 1000000) (hT : NdAt WT (.mk op s m ks) p) (hK : Kept WK W0)
    (hBf : Cells W0 Bf 80 #[.func (.func 28) #[] #[]]) (hBn : Cells W0 Bn 42 #[.pointer (some p)])
    (J : List Nd → World → Prop) (hJ : ∀ pre W W', J pre W → KI W W' → J pre W') (hJp : ∀ pre W l r o, W0.heap.size ≤ l → W.heap[l]? = some (.loop r) → J pre W → J pre (W.putObj l o)) (hJ0 : J [] W0)
    (hbody : ∀ (fn : FuncId) (W : World) (pre : List Nd) (x : Nd) (q : Addr), W.heap[W0.heap.size + 1]? = some (.loop (recL fn a.tmps ps assign body W0.heap.size .ready none)) → W.heap[W0.heap.size]? = some (.deferred (some [])) → Kept WK W → NdAt WT x q → (pre ++ [x]) <+: wisK ks → J pre W →
      assign.wpIn (Fence.wide.inRound (W0.heap.size + 1)) (n - 2) Tryz.prog (Exit.then (fun a1 W1 => W1.heap[W0.heap.size + 1]? = some (.loop (recL fn a.tmps ps assign body W0.heap.size .ready none)) ∧ ∀ (rb : Loop) (WB : World), W1.putObj (W0.heap.size + 1) (.loop rb) = WB → WB.heap[W0.heap.size + 1]? = some (.loop rb) →
        body.wpIn (Fence.wide.inRound (W0.heap.size + 1)) (n - 2) Tryz.prog (fun e _ W3 => e = .normal ∧ W3.heap[W0.heap.size + 1]? = some (.loop rb) ∧ J (pre ++ [x]) W3 ∧ Kept WK W3 ∧ KB W W3 ∧ W3.heap[W0.heap.size]? = some (.deferred (some []))) a1 WB) (fun _ _ _ => False))
        { tmps := (ps.zip #[.pointer (some q)]).foldl (fun tmps (t, a) => tmps.setIfInBounds t a) a.tmps, defers := [] } W)
    (hdone : ∀ W4 : World, J (wisK ks) W4 → Kept WK W4 → W4.heap[W0.heap.size]? = some (.deferred (some [])) → Q .normal { a with defers := { target := .collected W0.heap.size, args := #[] } :: a.defers } W4) :
    (Code.rangeFunc g ps assign body).wpIn Fence.wide n Tryz.prog Q a W0 := by
  refine range_told (by omega) hg (enters_of Tryz.func44 (by kernel_rfl) rfl) ?_
  intro fn
  have kD : Kept W0 (W0.alloc (.deferred (some []))) := Kept.alloc (Below.refl _ _) _
  have hD0 := World.alloc_heap_new W0 (.deferred (some []))
  have hRc := fun (rr : Loop) => World.alloc_heap_new (W0.alloc (.deferred (some []))) (.loop rr)
  simp only [World.size_alloc] at hRc
  have kR : ∀ rr : Loop, Kept W0 ((W0.alloc (.deferred (some []))).alloc (.loop rr)) := fun rr => kD.alloc _
  have hDR : ∀ rr : Loop, ((W0.alloc (.deferred (some []))).alloc (.loop rr)).heap[W0.heap.size]? = some (.deferred (some [])) := fun rr => (Below.heap_alloc _ _ _ (by simp)).trans hD0
  have kI : ∀ {W W' : World}, Kept W W' → KI W W' := fun h => ⟨h.os, h.tape, h.output, h.size, fun b hb _ => h.block b hb⟩
  have hsT := hK.size
  refine (within1_in (n - 1) (by omega) (W0.heap.size + 1) Bf Bn WT WK _ hTK op m s ks p (recL fn a.tmps ps assign body W0.heap.size .ready none) hsz hT (hK.trans (kR _)) (hBf.kept (kR _)) (hBn.kept (kR _)) (hRc _)
    (fun pre W => J pre W ∧ W.heap[W0.heap.size]? = some (.deferred (some []))) ?hJ ⟨hJ [] W0 _ hJ0 (kI (kR _)), hDR _⟩ ?hY).mono ?post
  case hJ =>
    rintro pre W W' ⟨h1, h2⟩ hk
    exact ⟨hJ pre W W' h1 hk, (hk.rest _ (Array.getElem?_eq_some_iff.1 h2).1 (by intro cs fz e; rw [h2] at e; cases e)).trans h2⟩
  case hY =>
    rintro W pre x q hk hl hx hp ⟨hj, hd⟩
    refine round_goes hl rfl (by simp [hps]) (Code.wpIn_mono (fun e a1 W1 h1 => ?_) (hbody fn W pre x q hl hd hk hx hp hj)) rfl
    cases e with
    | normal =>
      obtain ⟨h2, h3⟩ := h1
      refine ⟨h2, fun rb WB hWB hrb => Code.wpIn_mono (fun e a3 W3 h4 => ?_) (h3 rb WB hWB hrb)⟩
      obtain ⟨he, h5, h6, h7, h8, h9⟩ := h4
      exact ⟨h5, he, rfl, ⟨hJp _ _ _ _ _ (by omega) h5 h6, (World.putObj_heap_other (by omega)).trans h9⟩, World.putObj_heap_same (Array.getElem?_eq_some_iff.1 h5).1, h7.put (by omega) _, h8.trans (KB.put h5 _)⟩
    | _ => exact h1.elim
  case post =>
    rintro e W' ⟨⟨v, rfl⟩, ⟨hj, hd⟩, hl, hk⟩
    refine ⟨⟨v, rfl⟩, _, _, hl, by simp, rfl, .inl ⟨rfl, hdone _ (hJp _ _ _ _ _ (by omega) hl hj) (hk.put (by omega) _) ((World.putObj_heap_other (by omega)).trans hd)⟩⟩
end Go.Proofs.YtlinbkgeahgkjaaGreatDoor
namespace Go.Proofs.YtlinbkgeahgkjaaGreatDoor
open Go.RowKit Go.Shelf
attribute [local go_sem] Oper.semAt_some
set_option linter.unusedSimpArgs false
set_option linter.unusedVariables false

/-- The lets among nodes. -/
def letsL : List Nd → List ByteArray
  | [] => []
  | .mk op s _ _ :: r => (if op = 2 then [s] else []) ++ letsL r
theorem letsL_app (a b : List Nd) : letsL (a ++ b) = letsL a ++ letsL b := by
  induction a with
  | nil => rfl
  | cons x a ih => obtain ⟨op, s, n, ks⟩ := x; simp only [List.cons_append, letsL, ih, List.append_assoc]
theorem letsL_len (a : List Nd) : (letsL a).length ≤ a.length := by
  induction a with
  | nil => simp [letsL]
  | cons x a ih => obtain ⟨op, s, n, ks⟩ := x; simp only [letsL, List.length_append, List.length_cons]; split <;> simp <;> omega
mutual
theorem wiK_len : ∀ t : Nd, (wiK t).length ≤ t.size
  | .mk op s n ks => by
    simp only [wiK, Nd.size, List.length_cons]
    split
    · simp
    · have := wisK_len ks; omega
theorem wisK_len : ∀ ks : List Nd, (wisK ks).length ≤ sizesN ks
  | [] => by simp [wisK, sizesN]
  | k :: ks => by
    simp only [wisK, sizesN, List.length_append]
    have := wiK_len k
    have := wisK_len ks
    omega
end
def declL (op : Int) (s : ByteArray) (ks : List Nd) : List ByteArray := namesL op s ++ letsL (wisK ks)
/-- A box that holds a row of texts of one's own. -/
def BoxT (W : World) (Bl B : Nat) (ts : List ByteArray) : Prop := ∃ v, Cells W Bl 43 #[v] ∧ TxO W B v ts
theorem BoxT.ki {W W' : World} {Bl B : Nat} {ts : List ByteArray} (h : BoxT W Bl B ts) (hk : KI W W') : BoxT W' Bl B ts := by
  obtain ⟨v, hc, ho⟩ := h
  have hcl := hc.lt
  refine ⟨v, (hk.rest Bl hcl (by intro cs fz e; rw [show W.heap[Bl]? = _ from hc] at e; simp at e)).trans hc, ?_⟩
  obtain ⟨h1, h2 | ⟨g, cap, cur, e, h3, h4, h5⟩⟩ := ho
  · exact ⟨h1, .inl h2⟩
  · exact ⟨h1, .inr ⟨g, cap, cur, e, h3, (hk.rest g (Array.getElem?_eq_some_iff.1 h4).1 (by intro cs fz e; rw [h4] at e; simp at e)).trans h4, h5⟩⟩
theorem infoSt : (Tryz.prog.info? 9).map (fun i => (i.zero, i.size, i.bytes)) = some (some (.string ⟨#[]⟩), 1, 16) := by kernel_rfl
/-- What the operations of 'list = append(list, kid.S)' are told by: what each yields, in a world in which all but nothing has turned. -/
def apR (W : World) (Bl B bx ox : Nat) (v : Value) (s : ByteArray) (j : Nat) (vs : Nat → Value) (u : World) : Prop :=
  match j with
  | 0 => vs 0 = v
  | 1 => vs 1 = .pointer (some ⟨bx, ox, none⟩)
  | 2 => vs 2 = .pointer (some ⟨bx, ox, none⟩)
  | 3 => vs 3 = .pointer (some ⟨bx, ox + 1, none⟩)
  | 4 => vs 4 = .string s
  | 5 => ∃ g, vs 5 = .slice (some ⟨g, 0, none⟩) 1 1 ∧ u.cell? ⟨g, 0, none⟩ = some (.string s) ∧ W.heap.size ≤ g
  | _ => True
def apT (W : World) (Bl B bx ox : Nat) (v : Value) (s : ByteArray) : Told := ⟨apR W Bl B bx ox v s, fun u => Kept W u⟩
theorem apT_own (W : World) (Bl B bx ox : Nat) (v : Value) (s : ByteArray) (ops : Array Oper) : (apT W Bl B bx ox v s).own ops := by
  intro j vs vs' w h hr
  have e := h j (.inl rfl)
  match j with
  | 0 => exact e.symm.trans hr
  | 1 => exact e.symm.trans hr
  | 2 => exact e.symm.trans hr
  | 3 => exact e.symm.trans hr
  | 4 => exact e.symm.trans hr
  | 5 =>
    obtain ⟨g, h1, h2⟩ := hr
    exact ⟨g, e.symm.trans h1, h2⟩
  | _ + 6 => trivial
theorem apR_kept {W u u' : World} {Bl B bx ox : Nat} {v : Value} {s : ByteArray} {vs : Nat → Value} (hk : Kept u u') : ∀ j, apR W Bl B bx ox v s j vs u → apR W Bl B bx ox v s j vs u'
  | 0, h => h
  | 1, h => h
  | 2, h => h
  | 3, h => h
  | 4, h => h
  | 5, ⟨g, h1, h2, h3⟩ => ⟨g, h1, kept_cell hk h2, h3⟩
  | _ + 6, _ => trivial
end Go.Proofs.YtlinbkgeahgkjaaGreatDoor
