/-
  A map whose keys are addresses of nodes: what is looked up in it, and what is put into it.
-/
import Derived.Test.YtefdlnomkojckaaGreatDoorNodP
import Derived.LaidEqlPtr
import Derived.Maps.Own
namespace Go.Proofs.YtefdlnomkojckaaGreatDoor
open Go.RowKit Go.MapKept Go.ChangeMaps

abbrev extV (x : Nat × Nat) : Value := .agg #[.int .i64 (x.1 : Nat), .int .i64 (x.2 : Nat)]
def entV (x : Addr × (Nat × Nat)) : Value × Value := (.pointer (some x.1), extV x.2)
def findA (p : Addr) : List (Addr × (Nat × Nat)) → Nat → Option (Nat × Value)
  | [], _ => none
  | x :: l, i => if p = x.1 then some (i, extV x.2) else findA p l (i + 1)
def getA (p : Addr) : List (Addr × (Nat × Nat)) → Option (Nat × Nat)
  | [] => none
  | x :: l => if p = x.1 then some x.2 else getA p l
def updA (p : Addr) (v : Nat × Nat) : List (Addr × (Nat × Nat)) → List (Addr × (Nat × Nat))
  | [] => [(p, v)]
  | x :: l => if p = x.1 then (p, v) :: l else x :: updA p v l
theorem getA_upd (p q : Addr) (v : Nat × Nat) : ∀ l, getA q (updA p v l) = if q = p then some v else getA q l
  | [] => by simp [updA, getA]
  | x :: l => by
    by_cases h : p = x.1
    · by_cases hq : q = p
      · simp [updA, getA, h, hq]
      · simp [updA, getA, h, show ¬ q = x.1 by rw [← h]; exact hq]
    · by_cases hq : q = x.1
      · simp [updA, getA, h, hq, show ¬ x.1 = p from fun e => h e.symm]
      · simp [updA, getA, h, hq, getA_upd p q v l]
theorem updA_mem (p : Addr) (v : Nat × Nat) : ∀ l x, x ∈ updA p v l → x = (p, v) ∨ x ∈ l
  | [], x, h => by simp [updA] at h; exact .inl h
  | y :: l, x, h => by
    unfold updA at h
    split at h
    · rcases List.mem_cons.1 h with h | h
      · exact .inl h
      · exact .inr (List.mem_cons_of_mem _ h)
    · rcases List.mem_cons.1 h with h | h
      · exact .inr (by rw [h]; exact List.mem_cons_self ..)
      · rcases updA_mem p v l x h with h | h
        · exact .inl h
        · exact .inr (List.mem_cons_of_mem _ h)
theorem findA_get (p : Addr) : ∀ l i, (findA p l i).map (·.2) = (getA p l).map extV
  | [], _ => rfl
  | x :: l, i => by
    by_cases h : p = x.1
    · simp [findA, getA, h]
    · simp only [findA, getA, h, if_false]; exact findA_get p l (i + 1)
theorem findA_none (p : Addr) (v : Nat × Nat) : ∀ l i, findA p l i = none → updA p v l = l ++ [(p, v)]
  | [], _, _ => rfl
  | x :: l, i, h => by
    by_cases e : p = x.1
    · simp [findA, e] at h
    · simp only [findA, e, if_false] at h
      simp [updA, e, findA_none p v l (i + 1) h]
theorem findA_some (p : Addr) (v : Nat × Nat) : ∀ l i j u, findA p l i = some (j, u) → ∃ k y, j = i + k ∧ l[k]? = some (p, y) ∧ updA p v l = l.modify k (fun _ => (p, v))
  | [], _, _, _, h => by simp [findA] at h
  | x :: l, i, j, u, h => by
    by_cases e : p = x.1
    · simp [findA, e] at h
      refine ⟨0, x.2, by omega, by simp [e], by simp [updA, e]⟩
    · simp only [findA, e, if_false] at h
      obtain ⟨k, y, h1, h2, h3⟩ := findA_some p v l (i + 1) j u h
      exact ⟨k + 1, y, by omega, by simpa using h2, by simp [updA, e, h3]⟩
theorem run_equal_ptr {P : Program} {tp te : TypeId} {j : TypeInfo} (w : World) {a b : Addr} (hp : P.underlying tp = some (.pointer te)) (hte : P.info? te = some j) (hsz : j.size ≠ 0) (ha : Unfr w a.block) (hb : Unfr w b.block) :
    (Op.equal tp (.pointer (some a)) (.pointer (some b))).run P w = .ok (decide (a = b)) w := by
  obtain ⟨ca, ta, ha⟩ := ha
  obtain ⟨cb, tb, hb⟩ := hb
  by_cases h : a = b
  · subst h
    have h : ∀ d : Nat, (Op.equalIn (d + 1) tp (.pointer (some a)) (.pointer (some a))).run P w = .ok true w := fun d => by
      simp [Op.equalIn, run_underlying hp, sizeOf, typeInfo, hte, run_sameAddr_same]
    simp [Op.equal, Op.maxDepth, h 9999]
  · have h2 : ∀ d : Nat, (Op.equalIn (d + 1) tp (.pointer (some a)) (.pointer (some b))).run P w = .ok false w := fun d => by
      simp [Op.equalIn, run_underlying hp, sizeOf, typeInfo, hte, hsz, run_sameAddr_other w h ha hb]
    simp [Op.equal, Op.maxDepth, h2 9999, h]
theorem run_findAsking {P : Program} {tp te : TypeId} {j : TypeInfo} (w : World) {p : Addr} (hp : P.underlying tp = some (.pointer te)) (hte : P.info? te = some j) (hsz : j.size ≠ 0) (ha : Unfr w p.block) :
    ∀ (es : List MapEntry) (l : List (Addr × (Nat × Nat))) (i : Nat), es.map (fun e => (e.key, e.val)) = l.map entV → (∀ x ∈ l, Unfr w x.1.block) → (Instr.findAsking tp (.pointer (some p)) es i).run P w = .ok (findA p l i) w
  | [], [], i, _, _ => by simp [Instr.findAsking, findA]
  | [], x :: l, i, h, _ => by simp at h
  | e :: es, [], i, h, _ => by simp at h
  | e :: es, x :: l, i, h, hu => by
    simp only [List.map_cons, List.cons.injEq] at h
    obtain ⟨h1, h2⟩ := h
    simp only [entV, Prod.mk.injEq] at h1
    have ih := run_findAsking w hp hte hsz ha es l (i + 1) h2 (fun y hy => hu y (List.mem_cons_of_mem _ hy))
    have he := run_equal_ptr w hp hte hsz ha (hu x (List.mem_cons_self ..))
    by_cases hx : p = x.1
    · simp only [hx, decide_true] at he
      simp [Instr.findAsking, h1.1, h1.2, hx, he, findA]
    · simp only [hx, decide_false] at he
      simp [Instr.findAsking, h1.1, h1.2, hx, he, findA, ih]
theorem run_findKey_ptr {P : Program} {tp te : TypeId} {j : TypeInfo} (w : World) {p : Addr} (hp : P.underlying tp = some (.pointer te)) (hte : P.info? te = some j) (hsz : j.size ≠ 0) (ha : Unfr w p.block)
    (es : List MapEntry) (l : List (Addr × (Nat × Nat))) (h : es.map (fun e => (e.key, e.val)) = l.map entV) (hu : ∀ x ∈ l, Unfr w x.1.block) : (Instr.findKey tp (.pointer (some p)) es).run P w = .ok (findA p l 0) w := by
  have hf := run_findAsking w hp hte hsz ha es l 0 h hu
  cases es with
  | nil =>
    cases l with
    | nil => simp [Instr.findKey, run_underlying hp, Instr.findNow, findA]
    | cons x l => simp at h
  | cons e es => simp [Instr.findKey, run_underlying hp, Instr.findNow, Instr.sameNow, hf]

theorem run_checkKey_ptr {P : Program} {tp te : TypeId} (w : World) {p : Addr} (em : Bool) (n : Nat) (hp : P.underlying tp = some (.pointer te)) : (Instr.checkKey em (n + 1) tp (.pointer (some p))).run P w = .ok () w := by
  simp [Instr.checkKey, run_underlying hp]
/-- The map at M holds what f tells, of addresses that lay in the world w0. -/
def PMap (w0 W : World) (M : Nat) (f : Addr → Option (Nat × Nat)) : Prop :=
  ∃ l es clock, W.heap[M]? = some (.map es clock) ∧ es.toList.map (fun e => (e.key, e.val)) = l.map entV ∧ (∀ x ∈ l, Unfr w0 x.1.block) ∧ ∀ p, f p = getA p l
theorem Unfr.kept {W W' : World} {b : Nat} (h : Unfr W b) (hk : Kept W W') : Unfr W' b := by
  obtain ⟨cur, ty, h⟩ := h
  exact ⟨cur, ty, (hk.block b (Array.getElem?_eq_some_iff.1 h).1).trans h⟩
theorem PMap.empty (w0 : World) : PMap w0 (w0.alloc (.map #[] 0)) w0.heap.size (fun _ => none) := ⟨[], #[], 0, heap_alloc_new w0 _, rfl, by simp, fun _ => rfl⟩
theorem PMap.on {w0 W W' : World} {M : Nat} {f : Addr → Option (Nat × Nat)} {r : Option Nat} (h : PMap w0 W M f) (hg : W.grownBy W' r) (hr : r ≠ some M) : PMap w0 W' M f := by
  obtain ⟨l, es, clock, h1, h2⟩ := h
  exact ⟨l, es, clock, (hg.block M (Array.getElem?_eq_some_iff.1 h1).1 (fun e => hr e.symm)).trans h1, h2⟩
theorem PMap.kept {w0 W W' : World} {M : Nat} {f : Addr → Option (Nat × Nat)} (h : PMap w0 W M f) (hk : Kept W W') : PMap w0 W' M f := h.on hk.grown (by simp)
theorem PMap.lt {w0 W : World} {M : Nat} {f : Addr → Option (Nat × Nat)} (h : PMap w0 W M f) : M < W.heap.size := by
  obtain ⟨l, es, clock, h1, h2⟩ := h
  exact (Array.getElem?_eq_some_iff.1 h1).1
theorem infoNdE : (Tryz.prog.info? 29).map (fun i => (i.zero, i.size, i.bytes)) = some (some (.agg #[.int .i64 0, .string ⟨#[]⟩, .int .i64 0, .slice none 0 0]), 4, 56) := by kernel_rfl
theorem PMap.look {w0 W : World} {M : Nat} {f : Addr → Option (Nat × Nat)} (h : PMap w0 W M f) (hk : Kept w0 W) (p : Addr) (hp : Unfr w0 p.block) :
    (Instr.lookup 52 (.map (some M)) (.pointer (some p)) true).run Tryz.prog W = .ok (.tuple #[extV ((f p).getD (0, 0)), .bool (f p).isSome]) W := by
  obtain ⟨i0, hi, hz0, hz1, hz2⟩ := info_parts infoNdE
  obtain ⟨l, es, clock, h1, h2, h3, h4⟩ := h
  have hf := run_findKey_ptr (P := Tryz.prog) W Tryz.underlying40 hi (by omega) (hp.kept hk) es.toList l h2 (fun x hx => (h3 x hx).kept hk)
  have hg := findA_get p l 0
  rw [h4 p]
  have hz := Tryz.zeroValue38 W
  have hck : ∀ em, (Instr.checkKey em 10000 40 (.pointer (some p))).run Tryz.prog W = .ok () W := fun em => run_checkKey_ptr W em 9999 Tryz.underlying40
  cases hfa : findA p l 0 with
  | none =>
    rw [hfa] at hf hg
    have hn : getA p l = none := by cases hq : getA p l with
      | none => rfl
      | some y => rw [hq] at hg; cases hg
    simp [Instr.lookup, run_underlying Tryz.underlying52, MapKept.run_getObj_map h1, hck, hf, hz, hn, Result.andThen]
  | some r =>
    rw [hfa] at hf hg
    obtain ⟨y, hy⟩ : ∃ y, getA p l = some y := by cases hq : getA p l with
      | none => rw [hq] at hg; cases hg
      | some y => exact ⟨y, rfl⟩
    rw [hy] at hg ⊢
    obtain ⟨j, v⟩ := r
    simp at hg
    subst hg
    simp [Instr.lookup, run_underlying Tryz.underlying52, MapKept.run_getObj_map h1, hck, hf, Result.andThen]
open Go.ChangeMaps (setBlock) in
theorem PMap.put {w0 W : World} {M : Nat} {f : Addr → Option (Nat × Nat)} (h : PMap w0 W M f) (hk : Kept w0 W) (p : Addr) (hp : Unfr w0 p.block) (v : Nat × Nat) :
    ∃ W', (Instr.mapUpdate 52 (.map (some M)) (.pointer (some p)) (extV v)).run Tryz.prog W = .ok () W' ∧ PMap w0 W' M (fun q => if q = p then some v else f q) ∧ W.grownBy W' (some M) := by
  obtain ⟨i0, hi, hz0, hz1, hz2⟩ := info_parts infoNdE
  obtain ⟨l, es, clock, h1, h2, h3, h4⟩ := h
  have hf := run_findKey_ptr (P := Tryz.prog) W Tryz.underlying40 hi (by omega) (hp.kept hk) es.toList l h2 (fun x hx => (h3 x hx).kept hk)
  have hck : ∀ em, (Instr.checkKey em 10000 40 (.pointer (some p))).run Tryz.prog W = .ok () W := fun em => run_checkKey_ptr W em 9999 Tryz.underlying40
  have hmem : ∀ x ∈ updA p v l, Unfr w0 x.1.block := fun x hx => by
    rcases updA_mem p v l x hx with rfl | h
    · exact hp
    · exact h3 x h
  have hget : ∀ q, (if q = p then some v else f q) = getA q (updA p v l) := fun q => by rw [getA_upd, h4]
  cases hfa : findA p l 0 with
  | none =>
    rw [hfa] at hf
    refine ⟨setBlock W M (.map (es.push { key := .pointer (some p), val := extV v, born := clock }) (clock + 1)), ?_, ⟨updA p v l, _, _, heap_setBlock_same h1 _, ?_, hmem, hget⟩, ⟨rfl, rfl, rfl, by simp [setBlock], fun i _ hi => heap_setBlock_other h1 _ (fun e => hi (by rw [e]))⟩⟩
    · simp [Instr.mapUpdate, run_underlying Tryz.underlying52, MapKept.run_getObj_map h1, hck, hf, MapKept.run_setObj_map _ h1, Result.andThen, setBlock]
    · rw [findA_none p v l 0 hfa]
      simp [h2, entV]
  | some r =>
    obtain ⟨j, u⟩ := r
    rw [hfa] at hf
    obtain ⟨k, y, e1, e2, e3⟩ := findA_some p v l 0 j u hfa
    have e1 : j = k := by omega
    subst e1
    have hkey : ((es[j]?).map (·.key)).getD (.pointer (some p)) = .pointer (some p) := by
      have := congrArg (fun l => l[j]?) h2
      simp only [List.getElem?_map, e2] at this
      cases he : es[j]? with
      | none => rfl
      | some e =>
        simp [he, entV] at this
        simp [this.1]
    have hsb : Instr.sameBits 10000 (.pointer (some p)) (.pointer (some p)) = true := by
      rw [show (10000 : Nat) = 9999 + 1 from rfl]
      simp only [Instr.sameBits, BEq.rfl]
    refine ⟨setBlock W M (.map (es.modify j fun e => { e with key := .pointer (some p), val := extV v }) clock), ?_, ⟨updA p v l, _, _, heap_setBlock_same h1 _, ?_, hmem, hget⟩, ⟨rfl, rfl, rfl, by simp [setBlock], fun i _ hi => heap_setBlock_other h1 _ (fun e => hi (by rw [e]))⟩⟩
    · simp [Instr.mapUpdate, run_underlying Tryz.underlying52, MapKept.run_getObj_map h1, hck, hf, hkey, hsb, Instr.keyThatStays, MapKept.run_setObj_map _ h1, Result.andThen, setBlock]
    · rw [e3]
      apply List.ext_getElem?
      intro i
      have := congrArg (fun l => l[i]?) h2
      simp only [List.getElem?_map] at this
      simp only [List.getElem?_map, Array.toList_modify, List.getElem?_modify]
      by_cases hij : j = i
      · subst hij
        cases he : es.toList[j]? with
        | none => rw [he, e2] at this; simp at this
        | some e => simp [e2, entV]
      · simpa [hij] using this
end Go.Proofs.YtefdlnomkojckaaGreatDoor
