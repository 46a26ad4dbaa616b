/-
  A node is written around its kids' texts, whatever its op (chapter 13; genWy.py).
  impl.writtenEach, impl.Write exactly (chapter 13; genWy.py).
  impl.Write exactly (chapter 13; genWy.py).
-/
import Derived.Maps.AppendAt
import Derived.Test.YtejpjbfmjmfnmaaGreatDoorGrpVb
import Derived.Test.YtejpjbfmjmfnmaaGreatDoorZWvA
import Derived.Test.YtejpjbfmjmfnmaaGreatDoorGrpTa
import Derived.Test.YtejpjbfmjmfnmaaGreatDoorGrpRc
import Derived.Test.YtejpjbfmjmfnmaaGreatDoorSeqR
namespace Go.Proofs.YtejpjbfmjmfnmaaGreatDoor
open Go.RowKit
set_option linter.unusedSimpArgs false
set_option linter.unusedVariables false

/-- A row of texts of one's own. -/
def OwnT (W : World) (base : Nat) (v : Value) (xs : List ByteArray) : Prop := W.ownsRow base 9 1 v xs.length (xs.map Value.string)
theorem OwnT.kept {W W' : World} {base : Nat} {v : Value} {xs : List ByteArray} (h : OwnT W base v xs) (hk : Kept W W') : OwnT W' base v xs := World.ownsRow.kept h hk.grown (by cases e : v.ownBlock <;> simp)
theorem OwnT.block {W : World} {base : Nat} {v : Value} {xs : List ByteArray} (h : OwnT W base v xs) : ∀ j, v.ownBlock = some j → base ≤ j ∧ j < W.heap.size := by
  intro j hj
  rcases h.2 with ⟨rfl, _⟩ | ⟨g, cap, cur, rfl, hb, hg, _⟩
  · simp [Value.ownBlock] at hj
  · simp [Value.ownBlock] at hj
    subst hj
    exact ⟨hb, (Array.getElem?_eq_some_iff.1 hg).1⟩
theorem OwnT.base {W : World} {a b : Nat} {v : Value} {xs : List ByteArray} (h : OwnT W b v xs) (hab : a ≤ b) : OwnT W a v xs := by
  obtain ⟨h1, h2 | ⟨g, cap, cur, e, hb, r⟩⟩ := h
  · exact ⟨h1, .inl h2⟩
  · exact ⟨h1, .inr ⟨g, cap, cur, e, Nat.le_trans hab hb, r⟩⟩
theorem OwnT.nil (W : World) (base : Nat) : OwnT W base (.slice none 0 0) [] := World.ownsRow_nil W base 9 1
theorem OwnT.kids {W : World} {base : Nat} {v : Value} {xs : List ByteArray} (h : OwnT W base v xs) : ∃ ka kc, v = .slice ka xs.length kc ∧ xs.length ≤ kc ∧ kc ≤ maxLen ∧ (xs = [] ∨ ∃ kb, ka = some ⟨kb, 0, none⟩ ∧ KidT W kb xs) := by
  have h' := h
  rcases h.2 with ⟨rfl, hn⟩ | ⟨g, cap, cur, rfl, hb, hg, h1, h2, _⟩
  · exact ⟨none, 0, by rw [hn], by omega, by simp, .inl (List.length_eq_zero_iff.1 hn)⟩
  · refine ⟨_, cap, rfl, h1, h2, .inr ⟨g, rfl, fun j t ht => ?_⟩⟩
    have h3 := World.ownsRow.cells h' (g := g) rfl j (.string t) (by rw [List.getElem?_map, ht]; rfl)
    rw [show (⟨g, 0, none⟩ : Addr).add j = ⟨g, j, none⟩ by unfold Addr.add; split <;> simp_all] at h3
    exact h3
theorem infoT : (Tryz.prog.info? 9).map (fun i => (i.zero, i.size, i.bytes)) = some (some (.string ⟨#[]⟩), 1, 16) := by kernel_rfl
theorem run_append_text {w : World} {base g : Nat} {v : Value} {xs : List ByteArray} {X : ByteArray} (h : OwnT w base v xs) (hb : base ≤ w.heap.size) (hg : Cells w g 9 #[.string X]) (hl : xs.length ≤ 1000000) (ty : TypeId) :
    ∃ v' w', (Builtin.append_ #[41, 41] ty #[v, .slice (some ⟨g, 0, none⟩) 1 1]).run Tryz.prog w = .ok v' w' ∧ OwnT w' base v' (xs ++ [X]) ∧ w.grownBy w' v.ownBlock := by
  obtain ⟨i0, hi, hz0, hz1, hz2⟩ := info_parts infoT
  obtain ⟨v', w', hr, h2, h3, h4, h5⟩ := run_append_own_at (P := Tryz.prog) w base 41 ty 9 i0 (.string ⟨#[]⟩) 1 16 Tryz.underlying41 hi hz0 hz1 hz2 rfl (by decide) _ _ _ h ⟨g, 0, none⟩ 1 1 [.string X] rfl (fun j u hu => by
    match j, hu with
    | 0, hu =>
      simp at hu
      subst hu
      exact hg.cell 0
    | j + 1, hu => simp at hu) (by simp [Value.oneCell']) (by unfold maxLen; omega) (by omega) hb
  refine ⟨v', w', hr, ?_, h3⟩
  unfold OwnT
  rw [List.length_append, List.map_append]
  exact h2
theorem exec_appendT {P : Program} {o : Oper} {ev : Operand → Value} {s x : Operand} {t1 t2 : TypeId} {u w' : World} {v sv xv : Value} (ho : o.op = .call { callee := .builtin .append, args := #[s, x], argTypes := #[t1, t2] }) (hs : ev s = sv) (hx : ev x = xv) (hr : (Builtin.append_ #[t1, t2] o.type #[sv, xv]).run P u = .ok v w') : (execOp ev o).run P u = .ok (.value v) w' := by
  unfold execOp
  simp only [ho, resolve, invoke, builtin, Sem.run_bind, Sem.run_pure, Result.andThen_ok, List.map_toArray, List.map_cons, List.map_nil, hs, hx, hr]
theorem wp_of_value {P : Program} {o : Oper} {a : Act} {w w' : World} {v : Value} {next : Act → World → Prop} {Q : Exit → Act → World → Prop} (h : (execOp a.eval o).run P w = .ok (.value v) w') (k : next (a.put o.dst v) w') : o.wp P a w next Q := by
  unfold Oper.wp
  rw [h]
  exact k
/-- What a closure has kept. -/
def LbOk (W : World) (op : Int) (lb : Array Value) : Prop := (capT op = none ∧ lb = #[]) ∨ ∃ s g, capT op = some s ∧ lb = #[.pointer (some ⟨g, 0, none⟩)] ∧ Cells W g 9 #[.string s]
theorem LbOk.kept {W W' : World} {op : Int} {lb : Array Value} (h : LbOk W op lb) (hk : Kept W W') : LbOk W' op lb := by
  rcases h with h | ⟨s, g, h1, h2, h3⟩
  · exact .inl h
  · exact .inr ⟨s, g, h1, h2, h3.kept hk⟩
theorem LbOk.no {W : World} {op : Int} {lb : Array Value} (h : LbOk W op lb) (hc : capT op = none) : lb = #[] := by
  rcases h with h | ⟨s, g, h1, _⟩
  · exact h.2
  · rw [hc] at h1; cases h1
theorem LbOk.has {W : World} {op : Int} {lb : Array Value} {s : ByteArray} (h : LbOk W op lb) (hc : capT op = some s) : ∃ g, lb = #[.pointer (some ⟨g, 0, none⟩)] ∧ W.cell? ⟨g, 0, none⟩ = some (.string s) := by
  rcases h with h | ⟨s', g, h1, h2, h3⟩
  · rw [hc] at h; cases h.1
  · rw [hc] at h1
    injection h1 with h1
    subst h1
    exact ⟨g, h2, h3.cell 0⟩
set_option maxHeartbeats 8000000 in
theorem wf_call (op n : Int) (s : ByteArray) (ks : List Nd) (h1 : 1 ≤ op) (h27 : op ≤ 27) (hok : okT (.mk op s n ks) = true) (h200 : 1 + sizesN ks ≤ 200) (hb : s.size + (ks.length + bulksN ks) ≤ 1048576) (w : World) (hE : EnvA w) (ao : Option Addr) (l cap : Nat) (base : Nat) (v : Value) (lb : Array Value) (hO : OwnT w base v (ks.map wT)) (hL : LbOk w op lb) :
    Calls Tryz.prog (wrF op) (#[.agg #[.int .i64 op, .string s, .int .i64 n, .slice ao l cap], v] ++ lb) w fun e w' => e = .returned (.string (wT (.mk op s n ks))) ∧ Kept w w' := by
  obtain ⟨hown, hc, hkk⟩ := okT_parts hok
  have hk := (okK_iffT ks 0).1 hkk
  have part : ∀ j x, ks[j]? = some x → (wT x).size ≤ 4000000 := fun j x hx => by
    have h := hk j x hx
    unfold stOk at h
    rw [Bool.and_eq_true, decide_eq_true_eq] at h
    have h1 := size_mem hx
    have h2 := bulk_mem hx
    exact wT_small h.2 (by omega) (by omega)
  have hs : s.size ≤ 1048576 := by omega
  have hall := okK_all ks 0 hkk
  have hsum : sumT (ks.map wT) + 2 * (ks.map wT).length ≤ 100000000 := by
    have := wTs_size ks hall
    rw [wTs_map] at this
    have := len_sizes ks
    rw [List.length_map]
    omega
  have hW : wT (.mk op s n ks) = wOp op s n (ks.map wT) := by rw [wT, wTs_map]
  obtain ⟨ka, kc, rfl, hkc, hkm, hT⟩ := hO.kids
  have zero : (op = 10 ∨ op = 11 ∨ op = 12 ∨ op = 13 ∨ op = 14 ∨ op = 15 ∨ op = 16) → ks = [] := fun h => by
    have h1 : ks.length = 0 := by
      rcases h with h | h | h | h | h | h | h <;> subst h <;> simpa [countB, one1, two2] using hc
    exact List.length_eq_zero_iff.1 h1
  have one : (op = 2 ∨ op = 3 ∨ op = 7 ∨ op = 8 ∨ op = 9 ∨ op = 17 ∨ op = 24 ∨ op = 26 ∨ op = 27) → ∃ x, ks = [x] := fun h => by
    have h1 : ks.length = 1 := by
      rcases h with h | h | h | h | h | h | h | h | h <;> subst h <;> simpa [countB, one1] using hc
    match ks, h1 with
    | [x], _ => exact ⟨x, rfl⟩
  have two : (op = 4 ∨ op = 6 ∨ op = 19 ∨ op = 20 ∨ op = 21 ∨ op = 22 ∨ op = 23) → ∃ x y, ks = [x, y] := fun h => by
    have h1 : ks.length = 2 := by
      rcases h with h | h | h | h | h | h | h <;> subst h <;> simpa [countB, one1, two2] using hc
    match ks, h1 with
    | [x, y], _ => exact ⟨x, y, rfl⟩
  rw [hW]
  rcases (show op = 1 ∨ op = 2 ∨ op = 3 ∨ op = 4 ∨ op = 5 ∨ op = 6 ∨ op = 7 ∨ op = 8 ∨ op = 9 ∨ op = 10 ∨ op = 11 ∨ op = 12 ∨ op = 13 ∨ op = 14 ∨ op = 15 ∨ op = 16 ∨ op = 17 ∨ op = 18 ∨ op = 19 ∨ op = 20 ∨ op = 21 ∨ op = 22 ∨ op = 23 ∨ op = 24 ∨ op = 25 ∨ op = 26 ∨ op = 27 by omega) with rfl | rfl | rfl | rfl | rfl | rfl | rfl | rfl | rfl | rfl | rfl | rfl | rfl | rfl | rfl | rfl | rfl | rfl | rfl | rfl | rfl | rfl | rfl | rfl | rfl | rfl | rfl
  · obtain rfl := hL.no rfl
    exact writeBlock_ok w n s ao ka l cap kc (ks.map wT) hT hsum
  · obtain rfl := hL.no rfl
    obtain ⟨x, rfl⟩ := one (by decide)
    obtain ⟨kb, rfl, hQ⟩ : ∃ kb, ka = some ⟨kb, 0, none⟩ ∧ KidT w kb [wT x] := by rcases hT with h | h; (simp at h); exact h
    exact writeLet_t1 w n s ao l cap kb kc (wT x) (hQ 0 _ rfl) (part 0 x rfl) hs
  · obtain rfl := hL.no rfl
    obtain ⟨x, rfl⟩ := one (by decide)
    obtain ⟨kb, rfl, hQ⟩ : ∃ kb, ka = some ⟨kb, 0, none⟩ ∧ KidT w kb [wT x] := by rcases hT with h | h; (simp at h); exact h
    exact writeSet_t1 w n s ao l cap kb kc (wT x) (hQ 0 _ rfl) (part 0 x rfl) hs
  · obtain rfl := hL.no rfl
    obtain ⟨x, y, rfl⟩ := two (by decide)
    obtain ⟨kb, rfl, hQ⟩ : ∃ kb, ka = some ⟨kb, 0, none⟩ ∧ KidT w kb [wT x, wT y] := by rcases hT with h | h; (simp at h); exact h
    exact writePut_t2 w n s ao l cap kb kc (wT x) (wT y) (hQ 0 _ rfl) (part 0 x rfl) (hQ 1 _ rfl) (part 1 y rfl) hs
  · obtain rfl := hL.no rfl
    have h1 : 2 ≤ ks.length ∧ ks.length ≤ 3 := by simpa [countB, one1, two2] using hc
    match ks, h1 with
    | [x, y], _ =>
      obtain ⟨kb, rfl, hQ⟩ : ∃ kb, ka = some ⟨kb, 0, none⟩ ∧ KidT w kb [wT x, wT y] := by rcases hT with h | h; (simp at h); exact h
      exact writeIf_t2 w n s ao l cap kb kc (wT x) (wT y) (hQ 0 _ rfl) (part 0 x rfl) (hQ 1 _ rfl) (part 1 y rfl) hs
    | [x, y, z], _ =>
      obtain ⟨kb, rfl, hQ⟩ : ∃ kb, ka = some ⟨kb, 0, none⟩ ∧ KidT w kb [wT x, wT y, wT z] := by rcases hT with h | h; (simp at h); exact h
      exact writeIf_t3 w n s ao l cap kb kc (wT x) (wT y) (wT z) (hQ 0 _ rfl) (part 0 x rfl) (hQ 1 _ rfl) (part 1 y rfl) (hQ 2 _ rfl) (part 2 z rfl) hs
    | [], h => simp at h
    | [x], h => simp at h
    | a :: b :: c :: d :: r, h => simp at h
  · obtain rfl := hL.no rfl
    obtain ⟨x, y, rfl⟩ := two (by decide)
    obtain ⟨kb, rfl, hQ⟩ : ∃ kb, ka = some ⟨kb, 0, none⟩ ∧ KidT w kb [wT x, wT y] := by rcases hT with h | h; (simp at h); exact h
    exact writeWhile_t2 w n s ao l cap kb kc (wT x) (wT y) (hQ 0 _ rfl) (part 0 x rfl) (hQ 1 _ rfl) (part 1 y rfl) hs
  · obtain rfl := hL.no rfl
    obtain ⟨x, rfl⟩ := one (by decide)
    obtain ⟨kb, rfl, hQ⟩ : ∃ kb, ka = some ⟨kb, 0, none⟩ ∧ KidT w kb [wT x] := by rcases hT with h | h; (simp at h); exact h
    exact writeReturn_t1 w n s ao l cap kb kc (wT x) (hQ 0 _ rfl) (part 0 x rfl) hs
  · obtain rfl := hL.no rfl
    obtain ⟨x, rfl⟩ := one (by decide)
    obtain ⟨kb, rfl, hQ⟩ : ∃ kb, ka = some ⟨kb, 0, none⟩ ∧ KidT w kb [wT x] := by rcases hT with h | h; (simp at h); exact h
    exact writePrint_t1 w n s ao l cap kb kc (wT x) (hQ 0 _ rfl) (part 0 x rfl) hs
  · obtain rfl := hL.no rfl
    obtain ⟨x, rfl⟩ := one (by decide)
    obtain ⟨kb, rfl, hQ⟩ : ∃ kb, ka = some ⟨kb, 0, none⟩ ∧ KidT w kb [wT x] := by rcases hT with h | h; (simp at h); exact h
    exact writeDo_t1 w n s ao l cap kb kc (wT x) (hQ 0 _ rfl) (part 0 x rfl) hs
  · obtain rfl := hL.no rfl
    obtain rfl := zero (by decide)
    exact writeNum_t0 w n s ao l cap ka 0 kc hs (own_num hown rfl) hE
  · obtain rfl := hL.no rfl
    obtain rfl := zero (by decide)
    exact writeText_t0 w n s ao l cap ka 0 kc hs
  · obtain ⟨g, rfl, hg⟩ := hL.has (s := ⟨#[116, 114, 117, 101]⟩) rfl
    obtain rfl := zero (by decide)
    exact wordWriter1_t0 w 12 n s ao l cap ka 0 kc hs g _ hg
  · obtain ⟨g, rfl, hg⟩ := hL.has (s := ⟨#[102, 97, 108, 115, 101]⟩) rfl
    obtain rfl := zero (by decide)
    exact wordWriter1_t0 w 13 n s ao l cap ka 0 kc hs g _ hg
  · obtain ⟨g, rfl, hg⟩ := hL.has (s := ⟨#[110, 117, 108, 108]⟩) rfl
    obtain rfl := zero (by decide)
    exact wordWriter1_t0 w 14 n s ao l cap ka 0 kc hs g _ hg
  · obtain ⟨g, rfl, hg⟩ := hL.has (s := ⟨#[117, 110, 100, 101, 102, 105, 110, 101, 100]⟩) rfl
    obtain rfl := zero (by decide)
    exact wordWriter1_t0 w 15 n s ao l cap ka 0 kc hs g _ hg
  · obtain rfl := hL.no rfl
    obtain rfl := zero (by decide)
    exact writeName_t0 w n s ao l cap ka 0 kc hs
  · obtain rfl := hL.no rfl
    obtain ⟨x, rfl⟩ := one (by decide)
    obtain ⟨kb, rfl, hQ⟩ : ∃ kb, ka = some ⟨kb, 0, none⟩ ∧ KidT w kb [wT x] := by rcases hT with h | h; (simp at h); exact h
    exact writeGet_t1 w n s ao l cap kb kc (wT x) (hQ 0 _ rfl) (part 0 x rfl) hs
  · obtain rfl := hL.no rfl
    have h1 : 1 ≤ ks.length := by simpa [countB, one1, two2] using hc
    match ks, h1 with
    | x :: r, _ =>
      obtain ⟨kb, rfl, hQ⟩ : ∃ kb, ka = some ⟨kb, 0, none⟩ ∧ KidT w kb (wT x :: r.map wT) := by rcases hT with h | h; (simp at h); exact h
      exact writeCall_ok w n s ao l cap kb kc (wT x) (r.map wT) hQ hkc (by unfold maxLen at hkm; omega) hsum
  · obtain ⟨g, rfl, hg⟩ := hL.has (s := ⟨#[43]⟩) rfl
    obtain ⟨x, y, rfl⟩ := two (by decide)
    obtain ⟨kb, rfl, hQ⟩ : ∃ kb, ka = some ⟨kb, 0, none⟩ ∧ KidT w kb [wT x, wT y] := by rcases hT with h | h; (simp at h); exact h
    exact signWriter1_t2 w 19 n s ao l cap kb kc (wT x) (wT y) (hQ 0 _ rfl) (part 0 x rfl) (hQ 1 _ rfl) (part 1 y rfl) hs g _ (by decide) hg
  · obtain ⟨g, rfl, hg⟩ := hL.has (s := ⟨#[45]⟩) rfl
    obtain ⟨x, y, rfl⟩ := two (by decide)
    obtain ⟨kb, rfl, hQ⟩ : ∃ kb, ka = some ⟨kb, 0, none⟩ ∧ KidT w kb [wT x, wT y] := by rcases hT with h | h; (simp at h); exact h
    exact signWriter1_t2 w 20 n s ao l cap kb kc (wT x) (wT y) (hQ 0 _ rfl) (part 0 x rfl) (hQ 1 _ rfl) (part 1 y rfl) hs g _ (by decide) hg
  · obtain ⟨g, rfl, hg⟩ := hL.has (s := ⟨#[42]⟩) rfl
    obtain ⟨x, y, rfl⟩ := two (by decide)
    obtain ⟨kb, rfl, hQ⟩ : ∃ kb, ka = some ⟨kb, 0, none⟩ ∧ KidT w kb [wT x, wT y] := by rcases hT with h | h; (simp at h); exact h
    exact signWriter1_t2 w 21 n s ao l cap kb kc (wT x) (wT y) (hQ 0 _ rfl) (part 0 x rfl) (hQ 1 _ rfl) (part 1 y rfl) hs g _ (by decide) hg
  · obtain ⟨g, rfl, hg⟩ := hL.has (s := ⟨#[60]⟩) rfl
    obtain ⟨x, y, rfl⟩ := two (by decide)
    obtain ⟨kb, rfl, hQ⟩ : ∃ kb, ka = some ⟨kb, 0, none⟩ ∧ KidT w kb [wT x, wT y] := by rcases hT with h | h; (simp at h); exact h
    exact signWriter1_t2 w 22 n s ao l cap kb kc (wT x) (wT y) (hQ 0 _ rfl) (part 0 x rfl) (hQ 1 _ rfl) (part 1 y rfl) hs g _ (by decide) hg
  · obtain ⟨g, rfl, hg⟩ := hL.has (s := ⟨#[61, 61]⟩) rfl
    obtain ⟨x, y, rfl⟩ := two (by decide)
    obtain ⟨kb, rfl, hQ⟩ : ∃ kb, ka = some ⟨kb, 0, none⟩ ∧ KidT w kb [wT x, wT y] := by rcases hT with h | h; (simp at h); exact h
    exact signWriter1_t2 w 23 n s ao l cap kb kc (wT x) (wT y) (hQ 0 _ rfl) (part 0 x rfl) (hQ 1 _ rfl) (part 1 y rfl) hs g _ (by decide) hg
  · obtain rfl := hL.no rfl
    obtain ⟨x, rfl⟩ := one (by decide)
    obtain ⟨kb, rfl, hQ⟩ : ∃ kb, ka = some ⟨kb, 0, none⟩ ∧ KidT w kb [wT x] := by rcases hT with h | h; (simp at h); exact h
    exact writeNot_t1 w n s ao l cap kb kc (wT x) (hQ 0 _ rfl) (part 0 x rfl) hs
  · obtain rfl := hL.no rfl
    exact writeObj_ok w n s ao ka l cap kc (ks.map wT) hT hkc hsum
  · obtain rfl := hL.no rfl
    obtain ⟨x, rfl⟩ := one (by decide)
    obtain ⟨kb, rfl, hQ⟩ : ∃ kb, ka = some ⟨kb, 0, none⟩ ∧ KidT w kb [wT x] := by rcases hT with h | h; (simp at h); exact h
    exact writePair_t1 w n s ao l cap kb kc (wT x) (hQ 0 _ rfl) (part 0 x rfl) hs
  · obtain rfl := hL.no rfl
    obtain ⟨x, rfl⟩ := one (by decide)
    obtain ⟨kb, rfl, hQ⟩ : ∃ kb, ka = some ⟨kb, 0, none⟩ ∧ KidT w kb [wT x] := by rcases hT with h | h; (simp at h); exact h
    exact writeFun_t1 w n s ao l cap kb kc (wT x) (hQ 0 _ rfl) (part 0 x rfl) hs hE
end Go.Proofs.YtejpjbfmjmfnmaaGreatDoor
namespace Go.Proofs.YtejpjbfmjmfnmaaGreatDoor
open Go.RowKit
set_option linter.unusedSimpArgs false
set_option linter.unusedVariables false
attribute [local go_sem] Instr.field asAgg

/-- What the operations of the round yield. -/
def weR (B : Nat) (tv nv kv : Value) (op : Int) (f : FuncId) (base : Nat) (ys : List ByteArray) (X : ByteArray) : Nat → (Nat → Value) → World → Prop
  | 0, vs, _ => vs 0 = tv
  | 1, vs, _ => vs 1 = .pointer (some ⟨B, 0, none⟩)
  | 2, vs, _ => vs 2 = .int .i64 op
  | 3, vs, u => WfV u (vs 3) f (capT op)
  | 4, vs, u => ∃ lb, vs 4 = .func (.func f) #[] lb ∧ LbOk u op lb
  | 5, vs, _ => vs 5 = nv
  | 6, vs, _ => vs 6 = .pointer (some ⟨B, 3, none⟩)
  | 7, vs, _ => vs 7 = kv
  | 8, vs, u => OwnT u base (vs 8) ys
  | 9, vs, _ => vs 9 = .string X
  | j + 10, vs, u => ∃ g, vs (j + 10) = .slice (some ⟨g, 0, none⟩) 1 1 ∧ Cells u g 9 #[.string X]
def weT (W : World) (B : Nat) (tv nv kv : Value) (op : Int) (f : FuncId) (base : Nat) (ys : List ByteArray) (X : ByteArray) : Told := ⟨weR B tv nv kv op f base ys X, fun u => Kept W u⟩
theorem weR_vs {B : Nat} {tv nv kv : Value} {op : Int} {f : FuncId} {base : Nat} {ys : List ByteArray} {X : ByteArray} {j : Nat} {vs vs' : Nat → Value} {u : World} (e : vs j = vs' j) (h : weR B tv nv kv op f base ys X j vs u) : weR B tv nv kv op f base ys X j vs' u := by
  match j, e, h with
  | 0, e, h => simp only [weR] at h ⊢; rw [← e]; exact h
  | 1, e, h => simp only [weR] at h ⊢; rw [← e]; exact h
  | 2, e, h => simp only [weR] at h ⊢; rw [← e]; exact h
  | 3, e, h => simp only [weR] at h ⊢; rw [← e]; exact h
  | 4, e, h => simp only [weR] at h ⊢; rw [← e]; exact h
  | 5, e, h => simp only [weR] at h ⊢; rw [← e]; exact h
  | 6, e, h => simp only [weR] at h ⊢; rw [← e]; exact h
  | 7, e, h => simp only [weR] at h ⊢; rw [← e]; exact h
  | 8, e, h => simp only [weR] at h ⊢; rw [← e]; exact h
  | 9, e, h => simp only [weR] at h ⊢; rw [← e]; exact h
  | j + 10, e, h => simp only [weR] at h ⊢; rw [← e]; exact h
theorem weT_own {ops : Array Oper} (W : World) (B : Nat) (tv nv kv : Value) (op : Int) (f : FuncId) (base : Nat) (ys : List ByteArray) (X : ByteArray) : (weT W B tv nv kv op f base ys X).own ops := fun j vs vs' u h hR => weR_vs (h j (.inl rfl)) hR
theorem weR_kept {u u' : World} {B : Nat} {tv nv kv : Value} {op : Int} {f : FuncId} {base : Nat} {ys : List ByteArray} {X : ByteArray} (hk : Kept u u') (j : Nat) (vs : Nat → Value) (h : weR B tv nv kv op f base ys X j vs u) : weR B tv nv kv op f base ys X j vs u' := by
  match j, h with
  | 0, h => exact h
  | 1, h => exact h
  | 2, h => exact h
  | 3, h => exact WfV.kept h hk
  | 4, h => exact (by obtain ⟨lb, e, hl⟩ := h; exact ⟨lb, e, hl.kept hk⟩)
  | 5, h => exact h
  | 6, h => exact h
  | 7, h => exact h
  | 8, h => exact OwnT.kept h hk
  | 9, h => exact h
  | j + 10, h =>
    obtain ⟨g, e, hc⟩ := h
    exact ⟨g, e, hc.kept hk⟩
def WeOk (m : Nat) : Prop := ∀ (ks : List Nd), sizesN ks < m → sizesN ks ≤ 199 → ks.length + bulksN ks ≤ 1048576 → (∀ k ∈ ks, okT k = true ∧ 1 ≤ k.op ∧ k.op ≤ 27) → ∀ (w : World) (base : Nat) (ao : Option Addr) (cap : Nat), EnvA w → (ks = [] ∨ ∃ b off, ao = some ⟨b, off, none⟩ ∧ base ≤ b ∧ NdsV w base b off ks) →
    Calls Tryz.prog 22 #[.slice ao ks.length cap] w fun e w' => ∃ v, e = .returned v ∧ OwnT w' w.heap.size v (ks.map wT) ∧ Kept w w'
theorem take_snocW {l : List Nd} {k : Nat} {x : Nd} (h : l[k]? = some x) : (l.take (k + 1)).map wT = (l.take k).map wT ++ [wT x] := by
  rw [List.take_add_one, h]
  simp
theorem okT_kids {op n : Int} {s : ByteArray} {ks : List Nd} (h : okT (.mk op s n ks) = true) : ∀ k ∈ ks, okT k = true ∧ 1 ≤ k.op ∧ k.op ≤ 27 := by
  obtain ⟨_, _, hkk⟩ := okT_parts h
  have hk := (okK_iffT ks 0).1 hkk
  intro k hm
  obtain ⟨j, hj⟩ := List.getElem?_of_mem hm
  have h1 := hk j k hj
  unfold stOk at h1
  rw [Bool.and_eq_true, decide_eq_true_eq] at h1
  refine ⟨h1.2, ?_⟩
  have h2 := h1.1
  unfold st wantAt at h2
  split at h2
  · omega
  · split at h2
    · omega
    · split at h2
      · omega
      · split at h2
        · omega
        · exfalso
          revert h2
          split <;> try (intro h; cases h)
          split <;> try (split <;> intro h <;> cases h)
          split <;> try (intro h; cases h)
          split <;> intro h <;> cases h
set_option maxRecDepth 100000 in
theorem wrF_enter {op : Int} (h1 : 1 ≤ op) (h2 : op ≤ 27) : ∀ args w, (callFunc (wrF op) args).run Tryz.prog w = .ok (.enter (wrF op) args) w := by
  rcases (show op = 1 ∨ op = 2 ∨ op = 3 ∨ op = 4 ∨ op = 5 ∨ op = 6 ∨ op = 7 ∨ op = 8 ∨ op = 9 ∨ op = 10 ∨ op = 11 ∨ op = 12 ∨ op = 13 ∨ op = 14 ∨ op = 15 ∨ op = 16 ∨ op = 17 ∨ op = 18 ∨ op = 19 ∨ op = 20 ∨ op = 21 ∨ op = 22 ∨ op = 23 ∨ op = 24 ∨ op = 25 ∨ op = 26 ∨ op = 27 by omega) with rfl | rfl | rfl | rfl | rfl | rfl | rfl | rfl | rfl | rfl | rfl | rfl | rfl | rfl | rfl | rfl | rfl | rfl | rfl | rfl | rfl | rfl | rfl | rfl | rfl | rfl | rfl
  all_goals exact enters_of (by first | exact Tryz.func59 | exact Tryz.func62 | exact Tryz.func63 | exact Tryz.func65 | exact Tryz.func66 | exact Tryz.func67 | exact Tryz.func68 | exact Tryz.func69 | exact Tryz.func70 | exact Tryz.func71 | exact Tryz.func85 | exact Tryz.func87 | exact Tryz.func89 | exact Tryz.func83 | exact Tryz.func92 | exact Tryz.func95 | exact Tryz.func90 | exact Tryz.func93 | exact Tryz.func102 | exact Tryz.func104) (by kernel_rfl) rfl
set_option maxHeartbeats 32000000 in
set_option maxRecDepth 100000 in
theorem writtenEach_step (m : Nat) (H : WeOk m) : WeOk (m + 1) := by
  intro ks hm h199 hb hok w base ao cap hE hks
  have HKS : Hid (ks = [] ∨ ∃ b off, ao = some ⟨b, off, none⟩ ∧ base ≤ b ∧ NdsV w base b off ks) := hks
  have HH : Hid (WeOk m) := H
  have HOK : Hid (∀ k ∈ ks, okT k = true ∧ 1 ≤ k.op ∧ k.op ≤ 27) := hok
  have HE : Hid (EnvA w) := hE
  have hll := len_sizes ks
  have hO0 : Hid (OwnT w w.heap.size (.slice none 0 0) ((ks.take 0).map wT)) := OwnT.nil _ _
  clear hks H hok hE
  go_enter Tryz.func22, Tryz.ntmps22
  go_wp2_with fail
  go_loopw [3, 8] (fun tv iv wr => ∃ (k : Nat) (ta : Option Addr) (tn tc : Nat), iv = .int .i64 k ∧ k ≤ ks.length ∧ tv = .slice ta tn tc ∧ Hid (OwnT wr w.heap.size (.slice ta tn tc) ((ks.take k).map wT)) ∧ Hid (Kept w wr)) (fun _ i _ => ks.length - (intOf i).toNat)
  case atStart => exact ⟨0, none, 0, 0, rfl, Nat.zero_le _, rfl, hO0.out, Below.refl _ _⟩
  case round =>
    obtain ⟨k, ta, tn, tc, rfl, hk, rfl, hO, hK⟩ := hrel
    clear hO0
    by_cases hlt : k < ks.length
    · have q1 : (k : Int) < (ks.length : Int) := by omega
      have q2 : (k : Int) + 1 ≤ 9223372036854775807 := by omega
      obtain ⟨x, hx⟩ : ∃ x, ks[k]? = some x := ⟨ks[k], List.getElem?_eq_getElem hlt⟩
      have hxm := List.mem_of_getElem? hx
      obtain ⟨hox, ho1, ho27⟩ := HOK.out x hxm
      have hxs := size_mem hx
      have hxb := bulk_mem hx
      obtain ⟨b, off, a2, cq, rfl, g0, g1, g2, g3, hv⟩ := kid_at HKS.out hK.out hx
      have HT : Hid ((ks.take (k + 1)).map wT = (ks.take k).map wT ++ [wT x]) := take_snocW hx
      have hO2 := hO.out
      cases x with
      | mk op s n xs =>
      have ho1 : 1 ≤ op := ho1
      have ho27 : op ≤ 27 := ho27
      simp only [Nd.size, Nd.bulk] at hxs hxb
      rw [NdV] at hv
      obtain ⟨a2', cq', ev, hml, hkx⟩ := hv
      simp [Nd.op, Nd.s, Nd.n, Nd.kids] at ev
      obtain ⟨rfl, rfl⟩ := ev
      simp only [Nd.op, Nd.s, Nd.n, Nd.kids] at g0 g1 g2 g3
      have bB := Cells.new wr 29 #[.int .i64 op, .string s, .int .i64 n, .slice a2 xs.length cq]
      have kB : Kept wr (wr.alloc (.cells #[.int .i64 op, .string s, .int .i64 n, .slice a2 xs.length cq] 29)) := Kept.alloc (Below.refl _ _) _
      have HKX : Hid (xs = [] ∨ ∃ b off, a2 = some ⟨b, off, none⟩ ∧ base ≤ b ∧ NdsV wr base b off xs) := hkx
      have HOX : Hid _ := hox
      clear hkx hox hx hxm
      obtain ⟨xl, hxl⟩ : ∃ o, xs.length = o := ⟨_, rfl⟩
      rw [hxl] at g3 bB kB
      go_wp2_with fail
      obtain ⟨W, hW⟩ : ∃ W, wr.alloc (.cells #[.int .i64 op, .string s, .int .i64 n, .slice a2 xl cq] 29) = W := ⟨_, rfl⟩
      rw [hW] at bB kB
      simp only [hW]
      clear hW
      have kd : Kept W W.drew := (Below.refl _ _).drew
      have HS : Hid (∀ u, Kept W.drew u → (u.cell? ⟨wr.heap.size, 0, none⟩ = some (.int .i64 op) ∧ u.cell? ⟨wr.heap.size, 1, none⟩ = some (.string s) ∧ u.cell? ⟨wr.heap.size, 2, none⟩ = some (.int .i64 n) ∧ u.cell? ⟨wr.heap.size, 3, none⟩ = some (.slice a2 xl cq)) ∧ Kept wr u ∧ Kept w u) := fun u hu => ⟨⟨(bB.kept (kd.trans hu)).cell 0, (bB.kept (kd.trans hu)).cell 1, (bB.kept (kd.trans hu)).cell 2, (bB.kept (kd.trans hu)).cell 3⟩, kB.trans (kd.trans hu), Kept.trans hK.out (kB.trans (kd.trans hu))⟩
      have hEn := wrF_enter ho1 ho27
      obtain ⟨F, hF⟩ : ∃ F, wrF op = F := ⟨_, rfl⟩
      have hWf := fun u => writerF_ok ho1 ho27 u
      rw [hF] at hEn hWf
      have HWE : Hid (∀ u, Kept W.drew u → Calls Tryz.prog 22 #[.slice a2 xl cq] u fun e w' => ∃ v, e = .returned v ∧ OwnT w' u.heap.size v (xs.map wT) ∧ Kept u w') := fun u hu => by
        have h := HH.out xs (by omega) (by omega) (by omega) (okT_kids HOX.out) u base a2 cq (HE.out.kept (HS.out u hu).2.2) (by
          rcases HKX.out with h | ⟨b, off, e, hb, h⟩
          · exact .inl h
          · exact .inr ⟨b, off, e, hb, NdsV.turn (Turn.kept (HS.out u hu).2.1) _ _ _ hb h⟩)
        rw [hxl] at h
        exact h
      have HCF : Hid (∀ u base v lb, Kept W.drew u → OwnT u base v (xs.map wT) → LbOk u op lb → Calls Tryz.prog F (#[.agg #[.int .i64 op, .string s, .int .i64 n, .slice a2 xl cq], v] ++ lb) u fun e w' => e = .returned (.string (wT (.mk op s n xs))) ∧ Kept u w') := fun u base v lb hu hv hl => by
        rw [← hF]
        exact wf_call op n s xs ho1 ho27 HOX.out (by omega) (by omega) u (HE.out.kept (HS.out u hu).2.2) a2 xl cq base v lb hv hl
      obtain ⟨X, hX⟩ : ∃ X, wT (.mk op s n xs) = X := ⟨_, rfl⟩
      rw [hX] at HCF HT
      obtain ⟨ys, hys⟩ : ∃ ys, xs.map wT = ys := ⟨_, rfl⟩
      rw [hys] at HCF HWE
      refine wp_region_told 11 (weT W.drew wr.heap.size (.slice ta tn tc) (.agg #[.int .i64 op, .string s, .int .i64 n, .slice a2 xl cq]) (.slice a2 xl cq) op F W.drew.heap.size ys X) (fun _ _ => false) (by kernel_rfl) (by kernel_rfl) (by decide) (by kernel_rfl) (by kernel_rfl) (weT_own _ _ _ _ _ _ _ _ _ _) (Below.refl _ _) ?_ ?_
      · intro i hi vs
        rcases (show i = 0 ∨ i = 1 ∨ i = 2 ∨ i = 3 ∨ i = 4 ∨ i = 5 ∨ i = 6 ∨ i = 7 ∨ i = 8 ∨ i = 9 ∨ i = 10 by omega) with rfl | rfl | rfl | rfl | rfl | rfl | rfl | rfl | rfl | rfl | rfl
        · refine ⟨_, rfl, fun u hu hd => .inl ⟨.slice ta tn tc, u, ?_, hu, by simp [weT, weR, vsX], (fun j _ _ _ h => h)⟩⟩
          obtain ⟨⟨c0, c1, c2, c3⟩, _, _⟩ := HS.out u hu
          simp only [frR, dstAt, List.getElem?_toArray, List.getElem?_cons_zero, List.getElem?_cons_succ, Option.bind_some, Act.put, List.setIfInBounds_toArray, List.set_cons_zero, List.set_cons_succ]; go_simp; first | done | exact rfl
        · refine ⟨_, rfl, fun u hu hd => .inl ⟨.pointer (some ⟨wr.heap.size, 0, none⟩), u, ?_, hu, by simp [weT, weR, vsX], (fun j _ _ _ h => h)⟩⟩
          obtain ⟨⟨c0, c1, c2, c3⟩, _, _⟩ := HS.out u hu
          simp only [frR, dstAt, List.getElem?_toArray, List.getElem?_cons_zero, List.getElem?_cons_succ, Option.bind_some, Act.put, List.setIfInBounds_toArray, List.set_cons_zero, List.set_cons_succ]; go_simp; first | done | exact rfl
        · refine ⟨_, rfl, fun u hu hd => .inl ⟨.int .i64 op, u, ?_, hu, by simp [weT, weR, vsX], (fun j _ _ _ h => h)⟩⟩
          have e1 : vs 1 = .pointer (some ⟨wr.heap.size, 0, none⟩) := hd 1 (by kernel_rfl)
          obtain ⟨⟨c0, c1, c2, c3⟩, _, _⟩ := HS.out u hu
          simp only [frR, dstAt, List.getElem?_toArray, List.getElem?_cons_zero, List.getElem?_cons_succ, Option.bind_some, Act.put, List.setIfInBounds_toArray, List.set_cons_zero, List.set_cons_succ]; simp only [e1]; go_simp; first | done | exact rfl
        · refine ⟨_, rfl, fun u hu hd => .inr (.inl ⟨37, #[.int .i64 op], ?_, ?_⟩)⟩
          · have e2 : vs 2 = .int .i64 op := hd 2 (by kernel_rfl)
            simp only [frR, dstAt, List.getElem?_toArray, List.getElem?_cons_zero, List.getElem?_cons_succ, Option.bind_some, Act.put, List.setIfInBounds_toArray, List.set_cons_zero, List.set_cons_succ]; simp only [e2]; go_simp; first | done | exact rfl
          · refine (hWf u).mono ?_
            rintro e w2 ⟨v2, rfl, hv2, hk2⟩
            exact ⟨_, rfl, hu.trans hk2, by simpa [weT, weR, vsX] using hv2, (fun j _ _ _ h => weR_kept hk2 j vs h)⟩
        · refine ⟨_, rfl, fun u hu hd => ?_⟩
          have h3 : WfV u (vs 3) F (capT op) := hd 3 (by kernel_rfl)
          obtain ⟨aa, oo, bb, cc, sl, ll, cx, lb, e3, hlb⟩ := h3
          refine .inl ⟨.func (.func F) #[] lb, u, ?_, hu, ⟨lb, by simp [vsX], hlb⟩, (fun j _ _ _ h => h)⟩
          simp only [frR, dstAt, List.getElem?_toArray, List.getElem?_cons_zero, List.getElem?_cons_succ, Option.bind_some, Act.put, List.setIfInBounds_toArray, List.set_cons_zero, List.set_cons_succ]; simp only [e3]; go_simp; first | done | exact rfl
        · refine ⟨_, rfl, fun u hu hd => .inl ⟨.agg #[.int .i64 op, .string s, .int .i64 n, .slice a2 xl cq], u, ?_, hu, by simp [weT, weR, vsX], (fun j _ _ _ h => h)⟩⟩
          obtain ⟨⟨c0, c1, c2, c3⟩, _, _⟩ := HS.out u hu
          simp only [frR, dstAt, List.getElem?_toArray, List.getElem?_cons_zero, List.getElem?_cons_succ, Option.bind_some, Act.put, List.setIfInBounds_toArray, List.set_cons_zero, List.set_cons_succ]; go_simp; first | done | exact rfl
        · refine ⟨_, rfl, fun u hu hd => .inl ⟨.pointer (some ⟨wr.heap.size, 3, none⟩), u, ?_, hu, by simp [weT, weR, vsX], (fun j _ _ _ h => h)⟩⟩
          obtain ⟨⟨c0, c1, c2, c3⟩, _, _⟩ := HS.out u hu
          simp only [frR, dstAt, List.getElem?_toArray, List.getElem?_cons_zero, List.getElem?_cons_succ, Option.bind_some, Act.put, List.setIfInBounds_toArray, List.set_cons_zero, List.set_cons_succ]; go_simp; first | done | exact rfl
        · refine ⟨_, rfl, fun u hu hd => .inl ⟨.slice a2 xl cq, u, ?_, hu, by simp [weT, weR, vsX], (fun j _ _ _ h => h)⟩⟩
          have e6 : vs 6 = .pointer (some ⟨wr.heap.size, 3, none⟩) := hd 6 (by kernel_rfl)
          obtain ⟨⟨c0, c1, c2, c3⟩, _, _⟩ := HS.out u hu
          simp only [frR, dstAt, List.getElem?_toArray, List.getElem?_cons_zero, List.getElem?_cons_succ, Option.bind_some, Act.put, List.setIfInBounds_toArray, List.set_cons_zero, List.set_cons_succ]; simp only [e6]; go_simp; first | done | exact rfl
        · refine ⟨_, rfl, fun u hu hd => .inr (.inl ⟨22, #[.slice a2 xl cq], ?_, ?_⟩)⟩
          · have e7 : vs 7 = .slice a2 xl cq := hd 7 (by kernel_rfl)
            simp only [frR, dstAt, List.getElem?_toArray, List.getElem?_cons_zero, List.getElem?_cons_succ, Option.bind_some, Act.put, List.setIfInBounds_toArray, List.set_cons_zero, List.set_cons_succ]; simp only [e7]; go_simp; first | done | exact rfl
          · refine (HWE.out u hu).mono ?_
            rintro e w2 ⟨v2, rfl, hv2, hk2⟩
            exact ⟨_, rfl, hu.trans hk2, by simpa [weT, weR, vsX] using hv2.base hu.size, (fun j _ _ _ h => weR_kept hk2 j vs h)⟩
        · refine ⟨_, rfl, fun u hu hd => ?_⟩
          obtain ⟨lb, e4, hlb⟩ : ∃ lb, vs 4 = .func (.func F) #[] lb ∧ LbOk u op lb := hd 4 (by kernel_rfl)
          have h8 : OwnT u W.drew.heap.size (vs 8) ys := hd 8 (by kernel_rfl)
          have e5 : vs 5 = .agg #[.int .i64 op, .string s, .int .i64 n, .slice a2 xl cq] := hd 5 (by kernel_rfl)
          refine .inr (.inl ⟨F, #[.agg #[.int .i64 op, .string s, .int .i64 n, .slice a2 xl cq], vs 8] ++ lb, ?_, ?_⟩)
          · simp only [frR, dstAt, List.getElem?_toArray, List.getElem?_cons_zero, List.getElem?_cons_succ, Option.bind_some, Act.put, List.setIfInBounds_toArray, List.set_cons_zero, List.set_cons_succ]; simp only [e4, e5]; go_simp; first | done | exact rfl
          · refine (HCF.out u _ (vs 8) lb hu h8 hlb).mono ?_
            rintro e w2 ⟨rfl, hk2⟩
            exact ⟨_, rfl, hu.trans hk2, by simp [weT, weR, vsX], (fun j _ _ _ h => weR_kept hk2 j vs h)⟩
        · refine ⟨_, rfl, fun u hu hd => ?_⟩
          have e9 : vs 9 = .string X := hd 9 (by kernel_rfl)
          refine .inl ⟨.slice (some ⟨u.heap.size, 0, none⟩) 1 1, u.alloc (.cells #[.string X] 9), ?_, Kept.alloc hu _, ⟨u.heap.size, by simp [vsX], Cells.new _ _ _⟩, (fun j _ _ _ h => weR_kept (Kept.alloc (Below.refl _ _) _) j vs h)⟩
          simp only [frR, dstAt, List.getElem?_toArray, List.getElem?_cons_zero, List.getElem?_cons_succ, Option.bind_some, Act.put, List.setIfInBounds_toArray, List.set_cons_zero, List.set_cons_succ]; simp only [e9]; go_simp; first | done | exact rfl
      · intro vs u hu
        simp only [List.drop_succ_cons, List.drop_zero, seqWp]
        simp only [frR, dstAt, List.getElem?_toArray, List.getElem?_cons_zero, List.getElem?_cons_succ, Option.bind_some, Act.put, List.setIfInBounds_toArray, List.set_cons_zero, List.set_cons_succ]
        intro hR
        have hu : Kept W.drew u := hu
        have e0 : vs 0 = .slice ta tn tc := hR 0 (by decide) (fun _ _ => by trivial)
        obtain ⟨g, e10, hg⟩ : ∃ g, vs 10 = .slice (some ⟨g, 0, none⟩) 1 1 ∧ Cells u g 9 #[.string X] := hR 10 (by decide) (fun _ _ => by trivial)
        obtain ⟨_, kwr, kw⟩ := HS.out u hu
        have O1 := hO2.kept kwr
        obtain ⟨v', w', hr, hO3, hg3⟩ := run_append_text O1 kw.size hg (by rw [List.length_map, List.length_take]; omega) 41
        have hk3 : Kept w w' := Below.grown kw hg3 kw.size (fun j e => (O1.block j e).1)
        refine wp_of_value (exec_appendT (by rfl) (by simp only [e0, e10]; rfl) (by simp only [e0, e10]; rfl) hr) ?_
        obtain ⟨ta2, tc2, rfl, _, _, _⟩ := hO3.kids
        obtain ⟨L, hL⟩ : ∃ L, ((ks.take k).map wT ++ [X]).length = L := ⟨_, rfl⟩
        rw [hL] at hO3
        simp only [hL]
        clear hL
        unfold Oper.wp
        go_simp
        go_wp2_with fail
        go_roundw
        case rel => exact ⟨k + 1, _, _, _, by go_num, by omega, rfl, by rw [Hid, HT.out]; exact hO3, hk3⟩
        case measure => simp [intOf]; omega
    · have q1 : ¬ (k : Int) < (ks.length : Int) := by omega
      have HF : Hid (OwnT wr w.heap.size (.slice ta tn tc) (ks.map wT)) := by
        have := hO.out
        rw [List.take_of_length_le (by omega)] at this
        exact this
      go_wp2_with fail
      go_ret
      exact ⟨_, rfl, HF.out, hK.out⟩
theorem weKnot : ∀ m, WeOk m
  | 0 => fun ks h => absurd h (Nat.not_lt_zero _)
  | m + 1 => writtenEach_step m (weKnot m)
end Go.Proofs.YtejpjbfmjmfnmaaGreatDoor
namespace Go.Proofs.YtejpjbfmjmfnmaaGreatDoor
open Go.RowKit

set_option maxHeartbeats 16000000 in
set_option maxRecDepth 100000 in
theorem impl_Write_ok (t : Nd) (hb : t.bulk ≤ 1048576) (w : World) (hE : EnvA w) (base : Nat) (v : Value) (hv : NdV w base t v) (hbase : 1 ≤ base) :
    Calls Tryz.prog 8 #[v] w fun e w' => e = .returned (.string (writeR t)) ∧ Kept w w' := by
  have hNO := fun u (hu : Kept w u) => impl_NodeOk_ok t hb u (hE.kept hu) base hbase v (hv.kept hu)
  cases t with
  | mk op s n ks =>
  rw [NdV] at hv
  obtain ⟨ao, cap, rfl, hml, hks⟩ := hv
  have b0 := Cells.new w 29 #[.int .i64 op, .string s, .int .i64 n, .slice ao ks.length cap]
  have k0 : Kept w (w.alloc (.cells #[.int .i64 op, .string s, .int .i64 n, .slice ao ks.length cap] 29)) := Kept.alloc (Below.refl _ _) _
  have hN1 := hNO _ k0
  have c0 := b0.cell 0; have c1 := b0.cell 1; have c2 := b0.cell 2; have c3 := b0.cell 3
  clear hNO
  cases hr : nodeR (.mk op s n ks) with
  | false =>
    have HR : Hid (writeR (.mk op s n ks) = ⟨#[]⟩) := by rw [Hid, writeR, hr]; rfl
    rw [hr] at hN1
    clear hr hks hml
    go_enter Tryz.func8, Tryz.ntmps8
    go_wp2_with (go_at_call 20; refine hN1.mono ?_; rintro e w1 ⟨rfl, hk1⟩)
    go_ret
    exact ⟨by rw [HR.out]; rfl, k0.trans hk1⟩
  | true =>
    have HR : Hid (writeR (.mk op s n ks) = linesT (ks.map wT)) := by rw [Hid, writeR, hr]; rfl
    rw [hr] at hN1
    unfold nodeR at hr
    simp only [Bool.and_eq_true, decide_eq_true_eq] at hr
    obtain ⟨h1, _, h200, hok⟩ := hr
    have h1 : op = 1 := h1
    subst h1
    have hkids := okT_kids hok
    simp only [Nd.size, Nd.bulk] at h200 hb
    have hsum : sumT (ks.map wT) + 2 * (ks.map wT).length ≤ 100000000 := by
      have := wTs_size ks (fun k hk => (hkids k hk).1)
      rw [wTs_map] at this
      have := len_sizes ks
      rw [List.length_map]
      omega
    have HWE : Hid (∀ u, Kept w u → Calls Tryz.prog 22 #[.slice ao ks.length cap] u fun e w' => ∃ v, e = .returned v ∧ OwnT w' u.heap.size v (ks.map wT) ∧ Kept u w') := fun u hu => weKnot 200 ks (by omega) (by omega) (by omega) hkids u base ao cap (hE.kept hu) (by
      rcases hks with h | ⟨b, off, e, hb, h⟩
      · exact .inl h
      · exact .inr ⟨b, off, e, hb, NdsV.turn (Turn.kept hu) _ _ _ hb h⟩)
    obtain ⟨ys, hys⟩ : ∃ ys, ks.map wT = ys := ⟨_, rfl⟩
    rw [hys] at HWE hsum HR
    clear hks hml hkids hok hE hys h200 hb
    go_enter Tryz.func8, Tryz.ntmps8
    go_wp2_with (first
      | (have _tk := hO2; go_at_call 21; refine (withLines_ok _ ka kc ys hT2 hsum).mono ?_; rintro e w3 ⟨rfl, hk3⟩)
      | (have _tk := hk1; go_at_call 22; refine (HWE.out _ (k0.trans hk1)).mono ?_; rintro e w2 ⟨v2, rfl, hO2, hk2⟩; obtain ⟨ka, kc, rfl, hkc, hkm, hT2⟩ := hO2.kids)
      | (go_at_call 20; refine hN1.mono ?_; rintro e w1 ⟨rfl, hk1⟩; have x1 := b0.kept hk1; have c0 := x1.cell 0; have c1 := x1.cell 1; have c2 := x1.cell 2; have c3 := x1.cell 3))
    go_ret
    exact ⟨by rw [HR.out]; rfl, k0.trans (hk1.trans (hk2.trans hk3))⟩
end Go.Proofs.YtejpjbfmjmfnmaaGreatDoor
