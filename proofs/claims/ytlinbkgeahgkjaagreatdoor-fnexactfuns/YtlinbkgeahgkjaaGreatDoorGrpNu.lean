/-
  A map whose keys are addresses of nodes: what is looked up in it, and what is put into it.
  Trees at addresses; the contracts of (impl.extents).of and around.
-/
import Derived.LaidEqlPtr
import Derived.Maps.Own
import Derived.Test.YtlinbkgeahgkjaaGreatDoorNodP
namespace Go.Proofs.YtlinbkgeahgkjaaGreatDoor
open Go.RowKit Go.MapKept Go.ChangeMaps

abbrev extV (x : Nat × Nat) : Value := .agg #[.int .i64 (x.1 : Nat), .int .i64 (x.2 : Nat)]
def entV (x : Addr × (Nat × Nat)) : Value × Value := (.pointer (some x.1), extV x.2)
def findA (p : Addr) : List (Addr × (Nat × Nat)) → Nat → Option (Nat × Value)
  | [], _ => none
  | x :: l, i => if p = x.1 then some (i, extV x.2) else findA p l (i + 1)
def getA (p : Addr) : List (Addr × (Nat × Nat)) → Option (Nat × Nat)
  | [] => none
  | x :: l => if p = x.1 then some x.2 else getA p l
def updA (p : Addr) (v : Nat × Nat) : List (Addr × (Nat × Nat)) → List (Addr × (Nat × Nat))
  | [] => [(p, v)]
  | x :: l => if p = x.1 then (p, v) :: l else x :: updA p v l
theorem getA_upd (p q : Addr) (v : Nat × Nat) : ∀ l, getA q (updA p v l) = if q = p then some v else getA q l
  | [] => by simp [updA, getA]
  | x :: l => by
    by_cases h : p = x.1
    · by_cases hq : q = p
      · simp [updA, getA, h, hq]
      · simp [updA, getA, h, show ¬ q = x.1 by rw [← h]; exact hq]
    · by_cases hq : q = x.1
      · simp [updA, getA, h, hq, show ¬ x.1 = p from fun e => h e.symm]
      · simp [updA, getA, h, hq, getA_upd p q v l]
theorem updA_mem (p : Addr) (v : Nat × Nat) : ∀ l x, x ∈ updA p v l → x = (p, v) ∨ x ∈ l
  | [], x, h => by simp [updA] at h; exact .inl h
  | y :: l, x, h => by
    unfold updA at h
    split at h
    · rcases List.mem_cons.1 h with h | h
      · exact .inl h
      · exact .inr (List.mem_cons_of_mem _ h)
    · rcases List.mem_cons.1 h with h | h
      · exact .inr (by rw [h]; exact List.mem_cons_self ..)
      · rcases updA_mem p v l x h with h | h
        · exact .inl h
        · exact .inr (List.mem_cons_of_mem _ h)
theorem findA_get (p : Addr) : ∀ l i, (findA p l i).map (·.2) = (getA p l).map extV
  | [], _ => rfl
  | x :: l, i => by
    by_cases h : p = x.1
    · simp [findA, getA, h]
    · simp only [findA, getA, h, if_false]; exact findA_get p l (i + 1)
theorem findA_none (p : Addr) (v : Nat × Nat) : ∀ l i, findA p l i = none → updA p v l = l ++ [(p, v)]
  | [], _, _ => rfl
  | x :: l, i, h => by
    by_cases e : p = x.1
    · simp [findA, e] at h
    · simp only [findA, e, if_false] at h
      simp [updA, e, findA_none p v l (i + 1) h]
theorem findA_some (p : Addr) (v : Nat × Nat) : ∀ l i j u, findA p l i = some (j, u) → ∃ k y, j = i + k ∧ l[k]? = some (p, y) ∧ updA p v l = l.modify k (fun _ => (p, v))
  | [], _, _, _, h => by simp [findA] at h
  | x :: l, i, j, u, h => by
    by_cases e : p = x.1
    · simp [findA, e] at h
      refine ⟨0, x.2, by omega, by simp [e], by simp [updA, e]⟩
    · simp only [findA, e, if_false] at h
      obtain ⟨k, y, h1, h2, h3⟩ := findA_some p v l (i + 1) j u h
      exact ⟨k + 1, y, by omega, by simpa using h2, by simp [updA, e, h3]⟩
theorem run_equal_ptr {P : Program} {tp te : TypeId} {j : TypeInfo} (w : World) {a b : Addr} (hp : P.underlying tp = some (.pointer te)) (hte : P.info? te = some j) (hsz : j.size ≠ 0) (ha : Unfr w a.block) (hb : Unfr w b.block) :
    (Op.equal tp (.pointer (some a)) (.pointer (some b))).run P w = .ok (decide (a = b)) w := by
  obtain ⟨ca, ta, ha⟩ := ha
  obtain ⟨cb, tb, hb⟩ := hb
  by_cases h : a = b
  · subst h
    have h : ∀ d : Nat, (Op.equalIn (d + 1) tp (.pointer (some a)) (.pointer (some a))).run P w = .ok true w := fun d => by
      simp [Op.equalIn, run_underlying hp, sizeOf, typeInfo, hte, run_sameAddr_same]
    simp [Op.equal, Op.maxDepth, h 9999]
  · have h2 : ∀ d : Nat, (Op.equalIn (d + 1) tp (.pointer (some a)) (.pointer (some b))).run P w = .ok false w := fun d => by
      simp [Op.equalIn, run_underlying hp, sizeOf, typeInfo, hte, hsz, run_sameAddr_other w h ha hb]
    simp [Op.equal, Op.maxDepth, h2 9999, h]
theorem run_findAsking {P : Program} {tp te : TypeId} {j : TypeInfo} (w : World) {p : Addr} (hp : P.underlying tp = some (.pointer te)) (hte : P.info? te = some j) (hsz : j.size ≠ 0) (ha : Unfr w p.block) :
    ∀ (es : List MapEntry) (l : List (Addr × (Nat × Nat))) (i : Nat), es.map (fun e => (e.key, e.val)) = l.map entV → (∀ x ∈ l, Unfr w x.1.block) → (Instr.findAsking tp (.pointer (some p)) es i).run P w = .ok (findA p l i) w
  | [], [], i, _, _ => by simp [Instr.findAsking, findA]
  | [], x :: l, i, h, _ => by simp at h
  | e :: es, [], i, h, _ => by simp at h
  | e :: es, x :: l, i, h, hu => by
    simp only [List.map_cons, List.cons.injEq] at h
    obtain ⟨h1, h2⟩ := h
    simp only [entV, Prod.mk.injEq] at h1
    have ih := run_findAsking w hp hte hsz ha es l (i + 1) h2 (fun y hy => hu y (List.mem_cons_of_mem _ hy))
    have he := run_equal_ptr w hp hte hsz ha (hu x (List.mem_cons_self ..))
    by_cases hx : p = x.1
    · simp only [hx, decide_true] at he
      simp [Instr.findAsking, h1.1, h1.2, hx, he, findA]
    · simp only [hx, decide_false] at he
      simp [Instr.findAsking, h1.1, h1.2, hx, he, findA, ih]
theorem run_findKey_ptr {P : Program} {tp te : TypeId} {j : TypeInfo} (w : World) {p : Addr} (hp : P.underlying tp = some (.pointer te)) (hte : P.info? te = some j) (hsz : j.size ≠ 0) (ha : Unfr w p.block)
    (es : List MapEntry) (l : List (Addr × (Nat × Nat))) (h : es.map (fun e => (e.key, e.val)) = l.map entV) (hu : ∀ x ∈ l, Unfr w x.1.block) : (Instr.findKey tp (.pointer (some p)) es).run P w = .ok (findA p l 0) w := by
  have hf := run_findAsking w hp hte hsz ha es l 0 h hu
  cases es with
  | nil =>
    cases l with
    | nil => simp [Instr.findKey, run_underlying hp, Instr.findNow, findA]
    | cons x l => simp at h
  | cons e es => simp [Instr.findKey, run_underlying hp, Instr.findNow, Instr.sameNow, hf]

theorem run_checkKey_ptr {P : Program} {tp te : TypeId} (w : World) {p : Addr} (em : Bool) (n : Nat) (hp : P.underlying tp = some (.pointer te)) : (Instr.checkKey em (n + 1) tp (.pointer (some p))).run P w = .ok () w := by
  simp [Instr.checkKey, run_underlying hp]
/-- The map at M holds what f tells, of addresses that lay in the world w0. -/
def PMap (w0 W : World) (M : Nat) (f : Addr → Option (Nat × Nat)) : Prop :=
  ∃ l es clock, W.heap[M]? = some (.map es clock) ∧ es.toList.map (fun e => (e.key, e.val)) = l.map entV ∧ (∀ x ∈ l, Unfr w0 x.1.block) ∧ ∀ p, f p = getA p l
theorem Unfr.kept {W W' : World} {b : Nat} (h : Unfr W b) (hk : Kept W W') : Unfr W' b := by
  obtain ⟨cur, ty, h⟩ := h
  exact ⟨cur, ty, (hk.block b (Array.getElem?_eq_some_iff.1 h).1).trans h⟩
theorem PMap.empty (w0 : World) : PMap w0 (w0.alloc (.map #[] 0)) w0.heap.size (fun _ => none) := ⟨[], #[], 0, heap_alloc_new w0 _, rfl, by simp, fun _ => rfl⟩
theorem PMap.on {w0 W W' : World} {M : Nat} {f : Addr → Option (Nat × Nat)} {r : Option Nat} (h : PMap w0 W M f) (hg : W.grownBy W' r) (hr : r ≠ some M) : PMap w0 W' M f := by
  obtain ⟨l, es, clock, h1, h2⟩ := h
  exact ⟨l, es, clock, (hg.block M (Array.getElem?_eq_some_iff.1 h1).1 (fun e => hr e.symm)).trans h1, h2⟩
theorem PMap.kept {w0 W W' : World} {M : Nat} {f : Addr → Option (Nat × Nat)} (h : PMap w0 W M f) (hk : Kept W W') : PMap w0 W' M f := h.on hk.grown (by simp)
theorem PMap.lt {w0 W : World} {M : Nat} {f : Addr → Option (Nat × Nat)} (h : PMap w0 W M f) : M < W.heap.size := by
  obtain ⟨l, es, clock, h1, h2⟩ := h
  exact (Array.getElem?_eq_some_iff.1 h1).1
theorem infoNdE : (Tryz.prog.info? 29).map (fun i => (i.zero, i.size, i.bytes)) = some (some (.agg #[.int .i64 0, .string ⟨#[]⟩, .int .i64 0, .slice none 0 0]), 4, 56) := by kernel_rfl
theorem PMap.look {w0 W : World} {M : Nat} {f : Addr → Option (Nat × Nat)} (h : PMap w0 W M f) (hk : Kept w0 W) (p : Addr) (hp : Unfr w0 p.block) :
    (Instr.lookup 67 (.map (some M)) (.pointer (some p)) true).run Tryz.prog W = .ok (.tuple #[extV ((f p).getD (0, 0)), .bool (f p).isSome]) W := by
  obtain ⟨i0, hi, hz0, hz1, hz2⟩ := info_parts infoNdE
  obtain ⟨l, es, clock, h1, h2, h3, h4⟩ := h
  have hf := run_findKey_ptr (P := Tryz.prog) W Tryz.underlying42 hi (by omega) (hp.kept hk) es.toList l h2 (fun x hx => (h3 x hx).kept hk)
  have hg := findA_get p l 0
  rw [h4 p]
  have hz := Tryz.zeroValue50 W
  have hck : ∀ em, (Instr.checkKey em 10000 42 (.pointer (some p))).run Tryz.prog W = .ok () W := fun em => run_checkKey_ptr W em 9999 Tryz.underlying42
  cases hfa : findA p l 0 with
  | none =>
    rw [hfa] at hf hg
    have hn : getA p l = none := by cases hq : getA p l with
      | none => rfl
      | some y => rw [hq] at hg; cases hg
    simp [Instr.lookup, run_underlying Tryz.underlying67, MapKept.run_getObj_map h1, hck, hf, hz, hn, Result.andThen]
  | some r =>
    rw [hfa] at hf hg
    obtain ⟨y, hy⟩ : ∃ y, getA p l = some y := by cases hq : getA p l with
      | none => rw [hq] at hg; cases hg
      | some y => exact ⟨y, rfl⟩
    rw [hy] at hg ⊢
    obtain ⟨j, v⟩ := r
    simp at hg
    subst hg
    simp [Instr.lookup, run_underlying Tryz.underlying67, MapKept.run_getObj_map h1, hck, hf, Result.andThen]
open Go.ChangeMaps (setBlock) in
theorem PMap.put {w0 W : World} {M : Nat} {f : Addr → Option (Nat × Nat)} (h : PMap w0 W M f) (hk : Kept w0 W) (p : Addr) (hp : Unfr w0 p.block) (v : Nat × Nat) :
    ∃ W', (Instr.mapUpdate 67 (.map (some M)) (.pointer (some p)) (extV v)).run Tryz.prog W = .ok () W' ∧ PMap w0 W' M (fun q => if q = p then some v else f q) ∧ W.grownBy W' (some M) := by
  obtain ⟨i0, hi, hz0, hz1, hz2⟩ := info_parts infoNdE
  obtain ⟨l, es, clock, h1, h2, h3, h4⟩ := h
  have hf := run_findKey_ptr (P := Tryz.prog) W Tryz.underlying42 hi (by omega) (hp.kept hk) es.toList l h2 (fun x hx => (h3 x hx).kept hk)
  have hck : ∀ em, (Instr.checkKey em 10000 42 (.pointer (some p))).run Tryz.prog W = .ok () W := fun em => run_checkKey_ptr W em 9999 Tryz.underlying42
  have hmem : ∀ x ∈ updA p v l, Unfr w0 x.1.block := fun x hx => by
    rcases updA_mem p v l x hx with rfl | h
    · exact hp
    · exact h3 x h
  have hget : ∀ q, (if q = p then some v else f q) = getA q (updA p v l) := fun q => by rw [getA_upd, h4]
  cases hfa : findA p l 0 with
  | none =>
    rw [hfa] at hf
    refine ⟨setBlock W M (.map (es.push { key := .pointer (some p), val := extV v, born := clock }) (clock + 1)), ?_, ⟨updA p v l, _, _, heap_setBlock_same h1 _, ?_, hmem, hget⟩, ⟨rfl, rfl, rfl, by simp [setBlock], fun i _ hi => heap_setBlock_other h1 _ (fun e => hi (by rw [e]))⟩⟩
    · simp [Instr.mapUpdate, run_underlying Tryz.underlying67, MapKept.run_getObj_map h1, hck, hf, MapKept.run_setObj_map _ h1, Result.andThen, setBlock]
    · rw [findA_none p v l 0 hfa]
      simp [h2, entV]
  | some r =>
    obtain ⟨j, u⟩ := r
    rw [hfa] at hf
    obtain ⟨k, y, e1, e2, e3⟩ := findA_some p v l 0 j u hfa
    have e1 : j = k := by omega
    subst e1
    have hkey : ((es[j]?).map (·.key)).getD (.pointer (some p)) = .pointer (some p) := by
      have := congrArg (fun l => l[j]?) h2
      simp only [List.getElem?_map, e2] at this
      cases he : es[j]? with
      | none => rfl
      | some e =>
        simp [he, entV] at this
        simp [this.1]
    have hsb : Instr.sameBits 10000 (.pointer (some p)) (.pointer (some p)) = true := by
      rw [show (10000 : Nat) = 9999 + 1 from rfl]
      simp only [Instr.sameBits, BEq.rfl]
    refine ⟨setBlock W M (.map (es.modify j fun e => { e with key := .pointer (some p), val := extV v }) clock), ?_, ⟨updA p v l, _, _, heap_setBlock_same h1 _, ?_, hmem, hget⟩, ⟨rfl, rfl, rfl, by simp [setBlock], fun i _ hi => heap_setBlock_other h1 _ (fun e => hi (by rw [e]))⟩⟩
    · simp [Instr.mapUpdate, run_underlying Tryz.underlying67, MapKept.run_getObj_map h1, hck, hf, hkey, hsb, Instr.keyThatStays, MapKept.run_setObj_map _ h1, Result.andThen, setBlock]
    · rw [e3]
      apply List.ext_getElem?
      intro i
      have := congrArg (fun l => l[i]?) h2
      simp only [List.getElem?_map] at this
      simp only [List.getElem?_map, Array.toList_modify, List.getElem?_modify]
      by_cases hij : j = i
      · subst hij
        cases he : es.toList[j]? with
        | none => rw [he, e2] at this; simp at this
        | some e => simp [e2, entV]
      · simpa [hij] using this
end Go.Proofs.YtlinbkgeahgkjaaGreatDoor
namespace Go.Proofs.YtlinbkgeahgkjaaGreatDoor
open Go.RowKit
attribute [local go_sem] Plain.and7

/-- The tree t lies at the address p. -/
def NdAt (W : World) (t : Nd) (p : Addr) : Prop := ∃ b off, p = ⟨b, off, none⟩ ∧ Unfr W b ∧ ∃ c0 c1 c2 c3, W.cell? ⟨b, off, none⟩ = some c0 ∧ W.cell? ⟨b, off + 1, none⟩ = some c1 ∧ W.cell? ⟨b, off + 2, none⟩ = some c2 ∧ W.cell? ⟨b, off + 3, none⟩ = some c3 ∧ NdV W 1 t (.agg #[c0, c1, c2, c3])
theorem NdAt.kept {W W' : World} {t : Nd} {p : Addr} (h : NdAt W t p) (hk : Kept W W') : NdAt W' t p := by
  obtain ⟨b, off, e, hu, c0, c1, c2, c3, h0, h1, h2, h3, hv⟩ := h
  exact ⟨b, off, e, hu.kept hk, c0, c1, c2, c3, kept_cell hk h0, kept_cell hk h1, kept_cell hk h2, kept_cell hk h3, hv.kept hk⟩
theorem NdAt.unfr {W : World} {t : Nd} {p : Addr} (h : NdAt W t p) : Unfr W p.block := by
  obtain ⟨b, off, rfl, hu, _⟩ := h
  exact hu
theorem NdsV.unfr {W : World} {b : Nat} : ∀ {ks : List Nd} {off : Nat}, NdsV W 1 b off ks → ks ≠ [] → Unfr W b
  | [], _, _, h => absurd rfl h
  | k :: ks, off, h, _ => by
    rw [NdsV] at h
    exact h.1 (by decide)
/-- What lies at a node's address: its four words, and its kids. -/
theorem NdAt.open {W : World} {op n : Int} {s : ByteArray} {ks : List Nd} {p : Addr} (h : NdAt W (.mk op s n ks) p) : ∃ b off ao cap, p = ⟨b, off, none⟩ ∧ W.cell? ⟨b, off + 3, none⟩ = some (.slice ao ks.length cap) ∧ ks.length ≤ maxLen ∧ (ks = [] ∨ ∃ b' off', ao = some ⟨b', off', none⟩ ∧ ∀ k x, ks[k]? = some x → NdAt W x ⟨b', off' + k * 4, none⟩) := by
  obtain ⟨b, off, rfl, hu, c0, c1, c2, c3, h0, h1, h2, h3, hv⟩ := h
  rw [NdV] at hv
  obtain ⟨ao, cap, e, hl, hks⟩ := hv
  simp at e
  obtain ⟨rfl, rfl, rfl, rfl⟩ := e
  refine ⟨b, off, ao, cap, rfl, h3, hl.2, ?_⟩
  rcases hks with h | ⟨b', off', e, hb, hn⟩
  · exact .inl h
  · refine .inr ⟨b', off', e, fun k x hx => ?_⟩
    obtain ⟨d0, d1, d2, d3, g0, g1, g2, g3, hv⟩ := hn.at hx
    exact ⟨b', off' + k * 4, rfl, hn.unfr (by intro e; rw [e] at hx; simp at hx), d0, d1, d2, d3, g0, g1, g2, g3, hv⟩
theorem NdV.det {W : World} : ∀ (m : Nat) (t : Nd), t.size ≤ m → ∀ (t' : Nd) (base base' : Nat) (v : Value), NdV W base t v → NdV W base' t' v → t = t' := by
  intro m
  induction m with
  | zero =>
    intro t ht
    have := t.size_pos
    omega
  | succ m ih =>
    intro t ht t' base base' v h h'
    obtain ⟨op, s, n, ks⟩ := t
    obtain ⟨op', s', n', ks'⟩ := t'
    rw [NdV] at h h'
    obtain ⟨ao, cap, rfl, hl, hks⟩ := h
    obtain ⟨ao', cap', e, hl', hks'⟩ := h'
    simp at e
    obtain ⟨rfl, rfl, rfl, rfl, hlen, rfl⟩ := e
    simp only [Nd.size] at ht
    congr 1
    rcases hks with rfl | ⟨b, off, rfl, hb, hn⟩
    · exact (List.eq_nil_of_length_eq_zero (by simpa using hlen.symm)).symm
    · rcases hks' with rfl | ⟨b', off', e, hb', hn'⟩
      · exact List.eq_nil_of_length_eq_zero (by simpa using hlen)
      · simp at e
        obtain ⟨rfl, rfl⟩ := e
        apply List.ext_getElem?
        intro k
        by_cases hk : k < ks.length
        · obtain ⟨x, hx⟩ : ∃ x, ks[k]? = some x := ⟨ks[k], List.getElem?_eq_getElem hk⟩
          obtain ⟨x', hx'⟩ : ∃ x, ks'[k]? = some x := ⟨ks'[k], List.getElem?_eq_getElem (by omega)⟩
          obtain ⟨d0, d1, d2, d3, g0, g1, g2, g3, hv⟩ := hn.at hx
          obtain ⟨f0, f1, f2, f3, m0, m1, m2, m3, hv'⟩ := hn'.at hx'
          rw [g0] at m0; rw [g1] at m1; rw [g2] at m2; rw [g3] at m3
          cases m0; cases m1; cases m2; cases m3
          have hsz := size_mem hx
          rw [hx, hx', ih x (by omega) x' base base' _ hv hv']
        · rw [List.getElem?_eq_none (by omega), List.getElem?_eq_none (by omega)]
theorem NdAt.det {W : World} {t t' : Nd} {p : Addr} (h : NdAt W t p) (h' : NdAt W t' p) : t = t' := by
  obtain ⟨b, off, rfl, hu, c0, c1, c2, c3, h0, h1, h2, h3, hv⟩ := h
  obtain ⟨b', off', e, hu', d0, d1, d2, d3, g0, g1, g2, g3, hv'⟩ := h'
  cases e
  rw [h0] at g0; rw [h1] at g1; rw [h2] at g2; rw [h3] at g3
  cases g0; cases g1; cases g2; cases g3
  exact NdV.det _ t (Nat.le_refl _) t' _ _ _ hv hv'
/-- The address q is the k-th kid's of the node at p. -/
def Kid (W : World) (p : Addr) (k : Nat) (q : Addr) : Prop := ∃ b off b' off' l cap, p = ⟨b, off, none⟩ ∧ W.cell? ⟨b, off + 3, none⟩ = some (.slice (some ⟨b', off', none⟩) l cap) ∧ k < l ∧ q = ⟨b', off' + k * 4, none⟩
theorem NdAt.kid {W : World} {op n : Int} {s : ByteArray} {ks : List Nd} {p : Addr} (h : NdAt W (.mk op s n ks) p) {k : Nat} {x : Nd} (hx : ks[k]? = some x) : ∃ q, Kid W p k q ∧ NdAt W x q := by
  obtain ⟨b, off, ao, cap, rfl, hc, hm, hks⟩ := h.open
  have hlt := (List.getElem?_eq_some_iff.1 hx).1
  rcases hks with rfl | ⟨b', off', rfl, hk⟩
  · simp at hlt
  · exact ⟨_, ⟨b, off, b', off', _, cap, rfl, hc, hlt, rfl⟩, hk k x hx⟩
theorem NdAt.kid_at {W : World} {op n : Int} {s : ByteArray} {ks : List Nd} {p q : Addr} (h : NdAt W (.mk op s n ks) p) {k : Nat} (hq : Kid W p k q) : ∃ x, ks[k]? = some x ∧ NdAt W x q := by
  obtain ⟨b, off, ao, cap, rfl, hc, hm, hks⟩ := h.open
  obtain ⟨b1, off1, b', off', l, cap', e, hc', hl, rfl⟩ := hq
  cases e
  rw [hc] at hc'
  simp at hc'
  obtain ⟨rfl, rfl, rfl⟩ := hc'
  have hx := List.getElem?_eq_getElem hl
  rcases hks with rfl | ⟨b2, off2, e, hk⟩
  · simp at hl
  · simp at e
    obtain ⟨rfl, rfl⟩ := e
    exact ⟨_, hx, hk k _ hx⟩
def kidsN : Nd → List Nd
  | .mk _ _ _ ks => ks
/-- What a map tells of a node. -/
def ofF (f : Addr → Option (Nat × Nat)) (t : Nd) (p : Addr) : Option (Nat × Nat) := if kidsN t = [] then some (1, 1) else f p

set_option maxHeartbeats 2000000 in
theorem of_ok (w0 w : World) (M : Nat) (f : Addr → Option (Nat × Nat)) (hM : PMap w0 w M f) (hk : Kept w0 w) (t : Nd) (p : Addr) (ht : NdAt w0 t p) :
    Calls Tryz.prog 38 #[.map (some M), .pointer (some p)] w fun e w' => e = .returned (.tuple #[extV ((ofF f t p).getD (0, 0)), .bool (ofF f t p).isSome]) ∧ Kept w w' := by
  obtain ⟨op, s, n, ks⟩ := t
  obtain ⟨b, off, ao, cap, rfl, hc, hm, _⟩ := (ht.kept hk).open
  have hbl : b < w.heap.size := World.block_lt_of_cell? _ _ hc
  have k1 : Kept w (w.alloc (.cells #[.int .i64 0, .int .i64 0] 50)) := Kept.alloc (Below.refl _ _) _
  have hL := (hM.kept k1).look (hk.trans k1) ⟨b, off, none⟩ ht.unfr
  have c4 := Cells.new w 50 #[.int .i64 0, .int .i64 0]
  by_cases hks : ks = []
  · subst hks
    have HF : Hid (ofF f (.mk op s n []) ⟨b, off, none⟩ = some (1, 1)) := by simp [Hid, ofF, kidsN]
    simp only [List.length_nil] at hc
    clear hL ht
    go_enter Tryz.func38, Tryz.ntmps38
    go_wp2_with fail
    refine bodyPost_ret (v := .tuple #[.agg #[.int .i64 1, .int .i64 1], .bool true]) (by simp [results, Tryz.results38, go_sem]) rfl ⟨?_, Kept.alloc (Below.refl _ _) _⟩
    rw [HF.out]
    rfl
  · have HF : Hid (ofF f (.mk op s n ks) ⟨b, off, none⟩ = f ⟨b, off, none⟩) := by simp [Hid, ofF, kidsN, hks]
    rw [HF.out]
    have hln : ((ks.length : Int) == 0) = false := by simpa using hks
    obtain ⟨x, hx⟩ : ∃ x, (f ⟨b, off, none⟩).getD (0, 0) = x := ⟨_, rfl⟩
    obtain ⟨y, hy⟩ : ∃ y, (f ⟨b, off, none⟩).isSome = y := ⟨_, rfl⟩
    rw [hx, hy] at hL ⊢
    clear hx hy HF ht
    go_enter Tryz.func38, Tryz.ntmps38
    go_wp2_with fail
    exact bodyPost_ret (v := .tuple #[extV x, .bool y]) (by simp [results, Tryz.results38, go_sem]) rfl ⟨rfl, Kept.alloc (Kept.alloc (Below.refl _ _) _) _⟩
set_option maxHeartbeats 2000000 in
theorem around_ok (w0 w : World) (M : Nat) (f : Addr → Option (Nat × Nat)) (hM : PMap w0 w M f) (hk : Kept w0 w) (t : Nd) (p : Addr) (ht : NdAt w0 t p) (hsz : t.size ≤ 1152921504606846976)
    (hkid : ∀ k x q, (kidsN t)[k]? = some x → Kid w0 p k q → ofF f x q = some (x.size, x.deep)) :
    Calls Tryz.prog 39 #[.map (some M), .pointer (some p)] w fun e w' => e = .returned (extV (t.size, t.deep)) ∧ Kept w w' := by
  obtain ⟨op, s, n, ks⟩ := t
  obtain ⟨b, off, ao, cap, rfl, hc, hm, hks⟩ := ht.open
  have hbl : b < w.heap.size := Nat.lt_of_lt_of_le (World.block_lt_of_cell? _ _ hc) hk.size
  have hcw := kept_cell hk hc
  simp only [Nd.size] at hsz
  have k2 : Kept w ((w.alloc (.cells #[.int .i64 0, .int .i64 0] 50)).alloc (.cells #[.int .i64 1, .int .i64 1] 50)) := Kept.alloc (Kept.alloc (Below.refl _ _) _) _
  have y4 := (Cells.new w 50 #[.int .i64 0, .int .i64 0]).alloc (.cells #[.int .i64 1, .int .i64 1] 50)
  have y5 := Cells.new (w.alloc (.cells #[.int .i64 0, .int .i64 0] 50)) 50 #[.int .i64 1, .int .i64 1]
  simp only [World.size_alloc] at y5
  have HT : Hid (NdAt w0 (.mk op s n ks) ⟨b, off, none⟩) := ht
  have HM : Hid (PMap w0 w M f) := hM
  have HKS : Hid (ks = [] ∨ ∃ b' off', ao = some ⟨b', off', none⟩ ∧ ∀ k x, ks[k]? = some x → NdAt w0 x ⟨b', off' + k * 4, none⟩) := hks
  have HKD : Hid (∀ k x q, ks[k]? = some x → Kid w0 ⟨b, off, none⟩ k q → ofF f x q = some (x.size, x.deep)) := hkid
  clear ht hM hks hkid
  go_enter Tryz.func39, Tryz.ntmps39
  go_wp2_with fail
  go_loopw [15] (fun iv wr => ∃ (k : Nat), iv = .int .i64 k ∧ k ≤ ks.length ∧ Cells wr w.heap.size 50 #[.int .i64 0, .int .i64 0] ∧ Cells wr (w.heap.size + 1) 50 #[.int .i64 ((1 + sizesN (ks.take k) : Nat) : Int), .int .i64 ((deepsN (ks.take k) + 1 : Nat) : Int)] ∧ Hid (Kept w wr)) (fun i _ => ks.length - (intOf i).toNat)
  case atStart => exact ⟨0, rfl, Nat.zero_le _, y4, by simpa [sizesN, deepsN] using y5, k2⟩
  case round =>
    obtain ⟨k, rfl, hkl, x4, x5, hK⟩ := hrel
    have hcr := kept_cell hK.out hcw
    by_cases hlt : k < ks.length
    · obtain ⟨x, hx⟩ : ∃ x, ks[k]? = some x := ⟨ks[k], List.getElem?_eq_getElem hlt⟩
      have q1 : (k : Int) < (ks.length : Int) := by omega
      obtain ⟨b', off', rfl, hks⟩ : ∃ b' off', ao = some ⟨b', off', none⟩ ∧ ∀ k x, ks[k]? = some x → NdAt w0 x ⟨b', off' + k * 4, none⟩ := by
        rcases HKS.out with h | h
        · rw [h] at hlt; simp at hlt
        · exact h
      have hO := of_ok w0 wr M f (HM.out.kept hK.out) (hk.trans hK.out) x ⟨b', off' + k * 4, none⟩ (hks k x hx)
      rw [HKD.out k x _ hx ⟨b, off, b', off', _, cap, rfl, hc, hlt, rfl⟩] at hO
      have hss := size_mem hx
      have hll := len_sizes ks
      have q2 : (k : Int) + 1 ≤ 9223372036854775807 := by omega
      have hst := sizes_take hx
      have hsl := sizes_le (ks := ks) (k + 1)
      have hdt := deeps_take hx
      have hdl := x.deep_le
      have hd2 := deeps_le (ks.take k)
      clear hks
      go_wp2_with (go_at_call 38; refine hO.mono ?_; rintro e w1 ⟨rfl, hk1⟩; have x4 := Cells.kept x4 hk1; have x5 := Cells.kept x5 hk1; have c50 := x5.cell 0; have c51 := x5.cell 1; have f50 := x5.frozen 0; have f51 := x5.frozen 1; have l5 := x5.lt)
      have e1 : (1 + ((sizesN (ks.take k) : Nat) : Int) + (x.size : Int)) = ((1 + sizesN (ks.take (k + 1)) : Nat) : Int) := by rw [hst]; omega
      have e2 : (if deepsN (ks.take k) < x.deep then (x.deep : Int) + 1 else ((deepsN (ks.take k) : Nat) : Int) + 1) = ((deepsN (ks.take (k + 1)) + 1 : Nat) : Int) := by
        rw [hdt]
        split <;> omega
      rw [e1, e2]
      refine ⟨⟨k + 1, by go_num, by omega, ((x4.other (by simp) _).other (by simp) _).alloc _, ((x5.set 0 _).set 1 _).alloc _, ?_⟩, by simp [intOf]; omega⟩
      exact Kept.alloc (((hK.out.trans hk1).set (by simp) _).set (by simp) _) _
    · obtain rfl : k = ks.length := by omega
      rw [List.take_length] at x5
      have q1 : ¬ ((ks.length : Nat) : Int) < (ks.length : Int) := by omega
      have c50 := x5.cell 0; have c51 := x5.cell 1
      have f40 := x4.frozen 0; have f41 := x4.frozen 1; have d40 := x4.cell 0; have d41 := x4.cell 1
      have l4 := x4.lt
      have HK2 : Hid (Kept w wr) := hK
      go_wp2_with fail
      have z := (x4.set 0 (.int .i64 (1 + ((sizesN ks : Nat) : Int)))).set 1 (.int .i64 (((deepsN ks : Nat) : Int) + 1))
      have z0 := z.cell 0
      have z1 := z.cell 1
      refine bodyPost_ret (v := .agg #[.int .i64 (1 + ((sizesN ks : Nat) : Int)), .int .i64 (((deepsN ks : Nat) : Int) + 1)]) (by simp [results, Tryz.results39, go_sem, z0, z1]) rfl ⟨?_, (HK2.out.set (Nat.le_refl _) _).set (Nat.le_refl _) _⟩
      simp only [Nd.size, Nd.deep]
      simp
end Go.Proofs.YtlinbkgeahgkjaaGreatDoor
