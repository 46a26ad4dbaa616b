/-
  Trees in blocks of their own, whatever their empty rows are; how such trees are marked: pure, and what stays.
  A row of trees of one's own that is filled node by node.
-/
import Derived.Test.YtlinbkgeahgkjaaGreatDoorNodP
namespace Go.Proofs.YtlinbkgeahgkjaaGreatDoor
open Go.RowKit

/-- The tree t lies as v, each row that is not empty its own, in blocks from lo to hi; kids share none. -/
inductive CpG (W : World) : Nd → Nat → Nat → Value → Prop
  | leaf {op n : Int} {s : ByteArray} {lo hi : Nat} (ao : Option Addr) (cap : Nat) (hs : s.size ≤ maxLen) : CpG W (.mk op s n []) lo hi (.agg #[.int .i64 op, .string s, .int .i64 n, .slice ao 0 cap])
  | node {op n : Int} {s : ByteArray} {lo hi : Nat} {ks : List Nd} (g cap : Nat) (cur : Array Value) (bl bh : Nat → Nat) (q0 q1 q2 q3 : Nat → Value) (hs : s.size ≤ maxLen) (hlo : lo ≤ g) (hhi : g < hi) (hg : W.heap[g]? = some (.cells cur 29 (0, 0))) (hm : ks.length ≤ maxLen)
      (hb : ∀ i, i < ks.length → lo ≤ bl i ∧ bl i ≤ bh i ∧ bh i ≤ hi ∧ (g < bl i ∨ bh i ≤ g)) (hd : ∀ i j, i < j → j < ks.length → bh i ≤ bl j)
      (hq : ∀ i, i < ks.length → cur[i * 4]? = some (q0 i) ∧ cur[i * 4 + 1]? = some (q1 i) ∧ cur[i * 4 + 2]? = some (q2 i) ∧ cur[i * 4 + 3]? = some (q3 i))
      (hk : ∀ i t, ks[i]? = some t → CpG W t (bl i) (bh i) (.agg #[q0 i, q1 i, q2 i, q3 i])) :
      CpG W (.mk op s n ks) lo hi (.agg #[.int .i64 op, .string s, .int .i64 n, .slice (some ⟨g, 0, none⟩) ks.length cap])
theorem CpG.stay {W W' : World} {t : Nd} {lo hi : Nat} {v : Value} (h : CpG W t lo hi v) : (∀ b, lo ≤ b → b < hi → b < W.heap.size → W'.heap[b]? = W.heap[b]?) → CpG W' t lo hi v := by
  induction h with
  | leaf ao cap hs => exact fun _ => .leaf ao cap hs
  | node g cap cur bl bh q0 q1 q2 q3 hs hlo hhi hg hm hb hd hq hk ih =>
    intro hw
    refine .node g cap cur bl bh q0 q1 q2 q3 hs hlo hhi ((hw g hlo hhi (Array.getElem?_eq_some_iff.1 hg).1).trans hg) hm hb hd hq (fun i t ht => ih i t ht (fun b h1 h2 h3 => hw b ?_ ?_ h3))
    · have := hb i (List.getElem?_eq_some_iff.1 ht).1; omega
    · have := hb i (List.getElem?_eq_some_iff.1 ht).1; omega
theorem CpG.kept {W W' : World} {t : Nd} {lo hi : Nat} {v : Value} (h : CpG W t lo hi v) (hk : Kept W W') : CpG W' t lo hi v := h.stay (fun b _ _ h3 => hk.block b h3)
theorem CpG.mono {W : World} {t : Nd} {lo hi lo' hi' : Nat} {v : Value} (h : CpG W t lo hi v) (hl : lo' ≤ lo) (hh : hi ≤ hi') : CpG W t lo' hi' v := by
  cases h with
  | leaf ao cap hs => exact .leaf ao cap hs
  | node g cap cur bl bh q0 q1 q2 q3 hs hlo hhi hg hm hb hd hq hk => exact .node g cap cur bl bh q0 q1 q2 q3 hs (by omega) (by omega) hg hm (fun i hi => by have := hb i hi; omega) hd hq hk
theorem CpG.toV {W : World} {t : Nd} {lo hi base : Nat} {v : Value} (h : CpG W t lo hi v) : base ≤ lo → NdV W base t v := by
  induction h with
  | leaf ao cap hs => intro _; rw [NdV]; exact ⟨ao, cap, rfl, ⟨hs, by simp⟩, .inl rfl⟩
  | node g cap cur bl bh q0 q1 q2 q3 hs hlo hhi hg hm hb hd hq hk ih =>
    intro hbase
    rw [NdV]
    refine ⟨_, cap, rfl, ⟨hs, hm⟩, .inr ⟨g, 0, rfl, by omega, NdsV.of (fun _ => ⟨cur, _, hg⟩) (fun i t ht => ?_)⟩⟩
    have hi := (List.getElem?_eq_some_iff.1 ht).1
    obtain ⟨e0, e1, e2, e3⟩ := hq i hi
    have cell : ∀ j c, cur[j]? = some c → W.cell? ⟨g, j, none⟩ = some c := fun j c hc => by simp [World.cell?, hg, hc]
    simp only [Nat.zero_add]
    exact ⟨_, _, _, _, cell _ _ e0, cell _ _ e1, cell _ _ e2, cell _ _ e3, ih i t ht (by have := hb i hi; omega)⟩
theorem CpG.four {W : World} {t : Nd} {lo hi : Nat} {v : Value} (h : CpG W t lo hi v) : ∃ op s n ao l cap, v = .agg #[.int .i64 op, .string s, .int .i64 n, .slice ao l cap] := (h.toV (base := 0) (Nat.zero_le _)).four
/-- A row of such trees. -/
def FunG (W : World) (lo hi : Nat) (v : Value) (ks : List Nd) : Prop := CpG W (.mk 0 ⟨#[]⟩ 0 ks) lo hi (.agg #[.int .i64 0, .string ⟨#[]⟩, .int .i64 0, v])
theorem FunG.under {W : World} {lo hi : Nat} {v : Value} {ks : List Nd} (h : FunG W lo hi v ks) (op n : Int) {s : ByteArray} (hs : s.size ≤ maxLen) : CpG W (.mk op s n ks) lo hi (.agg #[.int .i64 op, .string s, .int .i64 n, v]) := by
  unfold FunG at h
  generalize hv : Value.agg #[.int .i64 0, .string ⟨#[]⟩, .int .i64 0, v] = u at h
  cases h with
  | leaf ao cap hs' =>
    simp at hv
    subst hv
    exact .leaf ao cap hs
  | node g cap cur bl bh q0 q1 q2 q3 hs' hlo hhi hg hm hb hd hq hk =>
    simp at hv
    subst hv
    exact .node g cap cur bl bh q0 q1 q2 q3 hs hlo hhi hg hm hb hd hq hk
theorem CpG.kids {W : World} {op n : Int} {s : ByteArray} {lo hi : Nat} {v : Value} {ks : List Nd} (h : CpG W (.mk op s n ks) lo hi v) : ∃ kv, v = .agg #[.int .i64 op, .string s, .int .i64 n, kv] ∧ s.size ≤ maxLen ∧ FunG W lo hi kv ks := by
  cases h with
  | leaf ao cap hs => exact ⟨_, rfl, hs, .leaf ao cap (by decide)⟩
  | node g cap cur bl bh q0 q1 q2 q3 hs hlo hhi hg hm hb hd hq hk => exact ⟨_, rfl, hs, .node g cap cur bl bh q0 q1 q2 q3 (by decide) hlo hhi hg hm hb hd hq hk⟩
theorem FunG.open {W : World} {lo hi : Nat} {v : Value} {ks : List Nd} (h : FunG W lo hi v ks) : (ks = [] ∧ ∃ ao cap, v = .slice ao 0 cap) ∨ ∃ (g cap : Nat) (cur : Array Value) (bl bh : Nat → Nat) (q0 q1 q2 q3 : Nat → Value), v = .slice (some ⟨g, 0, none⟩) ks.length cap ∧ lo ≤ g ∧ g < hi ∧ Cells W g 29 cur ∧ ks.length ≤ maxLen ∧
    (∀ i, i < ks.length → lo ≤ bl i ∧ bl i ≤ bh i ∧ bh i ≤ hi ∧ (g < bl i ∨ bh i ≤ g)) ∧ (∀ i j, i < j → j < ks.length → bh i ≤ bl j) ∧
    (∀ i, i < ks.length → cur[i * 4]? = some (q0 i) ∧ cur[i * 4 + 1]? = some (q1 i) ∧ cur[i * 4 + 2]? = some (q2 i) ∧ cur[i * 4 + 3]? = some (q3 i)) ∧ (∀ i t, ks[i]? = some t → CpG W t (bl i) (bh i) (.agg #[q0 i, q1 i, q2 i, q3 i])) := by
  unfold FunG at h
  generalize hv : Value.agg #[.int .i64 0, .string ⟨#[]⟩, .int .i64 0, v] = u at h
  cases h with
  | leaf ao cap hs' =>
    simp at hv
    exact .inl ⟨rfl, ao, cap, hv⟩
  | node g cap cur bl bh q0 q1 q2 q3 hs' hlo hhi hg hm hb hd hq hk =>
    simp at hv
    exact .inr ⟨g, cap, cur, bl, bh, q0, q1, q2, q3, hv, hlo, hhi, hg, hm, hb, hd, hq, hk⟩
theorem FunG.slice {W : World} {lo hi : Nat} {v : Value} {ks : List Nd} (h : FunG W lo hi v ks) : (∃ ao cap, v = .slice ao ks.length cap) ∧ ks.length ≤ maxLen := by
  rcases h.open with ⟨rfl, ao, cap, rfl⟩ | ⟨g, cap, cur, bl, bh, q0, q1, q2, q3, rfl, _, _, _, hm, _⟩
  · exact ⟨⟨ao, cap, rfl⟩, by simp⟩
  · exact ⟨⟨_, _, rfl⟩, hm⟩
theorem FunG.kept {W W' : World} {lo hi : Nat} {v : Value} {ks : List Nd} (h : FunG W lo hi v ks) (hk : Kept W W') : FunG W' lo hi v ks := CpG.kept h hk
theorem FunG.stay {W W' : World} {lo hi : Nat} {v : Value} {ks : List Nd} (h : FunG W lo hi v ks) (hk : ∀ b, lo ≤ b → b < hi → b < W.heap.size → W'.heap[b]? = W.heap[b]?) : FunG W' lo hi v ks := CpG.stay h hk
theorem FunG.mono {W : World} {lo hi lo' hi' : Nat} {v : Value} {ks : List Nd} (h : FunG W lo hi v ks) (hl : lo' ≤ lo) (hh : hi ≤ hi') : FunG W lo' hi' v ks := CpG.mono h hl hh
theorem FunG.toV {W : World} {lo hi base : Nat} {v : Value} {ks : List Nd} (h : FunG W lo hi v ks) (hb : base ≤ lo) : ∃ ao c, v = .slice ao ks.length c ∧ ks.length ≤ maxLen ∧ (ks = [] ∨ ∃ b off, ao = some ⟨b, off, none⟩ ∧ base ≤ b ∧ NdsV W base b off ks) := by
  have h2 := CpG.toV h hb
  rw [NdV] at h2
  obtain ⟨ao, cap, e, ⟨_, hl⟩, h3⟩ := h2
  simp at e
  exact ⟨ao, cap, e, hl, h3⟩
/-- One node of a row, and the row where it is turned. -/
theorem FunG.upd {W : World} {lo hi i : Nat} {v : Value} {ks kk : List Nd} {op n : Int} {s : ByteArray} (h : FunG W lo hi v ks) (hi' : ks[i]? = some (.mk op s n kk)) : ∃ (g cap : Nat) (kv : Value) (bl bh : Nat) (cur : Array Value), v = .slice (some ⟨g, 0, none⟩) ks.length cap ∧ lo ≤ g ∧ g < hi ∧ Cells W g 29 cur ∧ i * 4 + 3 < cur.size ∧
    (cur[i * 4]? = some (.int .i64 op) ∧ cur[i * 4 + 1]? = some (.string s) ∧ cur[i * 4 + 2]? = some (.int .i64 n) ∧ cur[i * 4 + 3]? = some kv) ∧ lo ≤ bl ∧ bl ≤ bh ∧ bh ≤ hi ∧ (g < bl ∨ bh ≤ g) ∧ FunG W bl bh kv kk ∧
    ∀ (W' : World) (op' n' : Int) (s' : ByteArray) (kk' : List Nd) (cur' : Array Value), s'.size ≤ maxLen → Cells W' g 29 cur' → (cur'[i * 4]? = some (.int .i64 op') ∧ cur'[i * 4 + 1]? = some (.string s') ∧ cur'[i * 4 + 2]? = some (.int .i64 n') ∧ cur'[i * 4 + 3]? = some kv) → (∀ j, j < i * 4 ∨ i * 4 + 4 ≤ j → cur'[j]? = cur[j]?) →
      (∀ b, lo ≤ b → b < hi → b ≠ g → (b < bl ∨ bh ≤ b) → b < W.heap.size → W'.heap[b]? = W.heap[b]?) → FunG W' bl bh kv kk' → FunG W' lo hi v (ks.set i (.mk op' s' n' kk')) := by
  have hil := (List.getElem?_eq_some_iff.1 hi').1
  rcases h.open with ⟨rfl, ao, cap, rfl⟩ | ⟨g, cap, cur, bl, bh, q0, q1, q2, q3, rfl, hlo, hhi, hg, hm, hb, hd, hq, hk⟩
  · simp at hi'
  · obtain ⟨e0, e1, e2, e3⟩ := hq i hil
    obtain ⟨kv, ev, hs, hF⟩ := (hk i _ hi').kids
    simp at ev
    obtain ⟨h0, h1, h2, h3⟩ := ev
    rw [h0] at e0
    rw [h1] at e1
    rw [h2] at e2
    rw [h3] at e3
    obtain ⟨b1, b2, b3, b4⟩ := hb i hil
    refine ⟨g, cap, kv, bl i, bh i, cur, rfl, hlo, hhi, hg, (Array.getElem?_eq_some_iff.1 e3).1, ⟨e0, e1, e2, e3⟩, b1, b2, b3, b4, hF, ?_⟩
    intro W' op' n' s' kk' cur' hs' hg' ⟨f0, f1, f2, f3⟩ hoth hst hF'
    have key := CpG.node (W := W') (op := 0) (n := 0) (s := ⟨#[]⟩) (lo := lo) (hi := hi) (ks := ks.set i (.mk op' s' n' kk')) g cap cur' bl bh (fun j => if j = i then .int .i64 op' else q0 j) (fun j => if j = i then .string s' else q1 j) (fun j => if j = i then .int .i64 n' else q2 j) (fun j => if j = i then kv else q3 j) (by decide) hlo hhi hg' (by simpa using hm)
      (fun j hj => hb j (by simpa using hj)) (fun j j' h1 h2 => hd j j' h1 (by simpa using h2))
      (fun j hj => by
        by_cases hji : j = i
        · subst hji
          simp only [if_true]
          exact ⟨f0, f1, f2, f3⟩
        · simp only [hji, if_false]
          obtain ⟨d0, d1, d2, d3⟩ := hq j (by simpa using hj)
          exact ⟨(hoth _ (by omega)).trans d0, (hoth _ (by omega)).trans d1, (hoth _ (by omega)).trans d2, (hoth _ (by omega)).trans d3⟩)
      (fun j t ht => by
        by_cases hji : j = i
        · subst hji
          rw [List.getElem?_set_self (by omega)] at ht
          injection ht with ht
          subst ht
          simp only [if_true]
          exact hF'.under op' n' hs'
        · rw [List.getElem?_set_ne (fun e => hji e.symm)] at ht
          simp only [hji, if_false]
          have hjl := (List.getElem?_eq_some_iff.1 ht).1
          have := hb j hjl
          refine (hk j t ht).stay (fun b x1 x2 x3 => hst b (by omega) (by omega) (by omega) ?_ x3)
          rcases Nat.lt_or_gt_of_ne hji with h | h
          · have := hd j i h hil; omega
          · have := hd i j h hjl; omega)
    simpa [FunG] using key
mutual
/-- The marks of a node from a number on. -/
def mkNd (mk : Nat → ByteArray) : Nd → Nat → Nd
  | .mk _ _ _ ks, k => .mk (k : Nat) (mk (k + 1)) ((k + 2 : Nat) : Int) (mkNds mk ks (k + 3))
def mkNds (mk : Nat → ByteArray) : List Nd → Nat → List Nd
  | [], _ => []
  | x :: ks, k => mkNd mk x k :: mkNds mk ks (k + 3 * x.size)
end
theorem mkNds_len (mk : Nat → ByteArray) (ks : List Nd) (k : Nat) : (mkNds mk ks k).length = ks.length := by
  induction ks generalizing k with
  | nil => rw [mkNds]
  | cons x ks ih => rw [mkNds, List.length_cons, List.length_cons, ih]
theorem mkNds_at (mk : Nat → ByteArray) (ks : List Nd) (k j : Nat) : (mkNds mk ks k)[j]? = (ks[j]?).map (fun x => mkNd mk x (k + 3 * sizesN (ks.take j))) := by
  induction ks generalizing k j with
  | nil => simp [mkNds]
  | cons x ks ih =>
    rw [mkNds]
    cases j with
    | zero => simp [sizesN]
    | succ j =>
      simp only [List.getElem?_cons_succ, List.take_succ_cons, sizesN, ih]
      rw [show k + 3 * x.size + 3 * sizesN (ks.take j) = k + 3 * (x.size + sizesN (ks.take j)) by omega]
/-- A row whose first j nodes are marked. -/
def mixN (mk : Nat → ByteArray) (ks : List Nd) (k j : Nat) : List Nd := (mkNds mk ks k).take j ++ ks.drop j
theorem mixN_zero (mk : Nat → ByteArray) (ks : List Nd) (k : Nat) : mixN mk ks k 0 = ks := by simp [mixN]
theorem mixN_all (mk : Nat → ByteArray) (ks : List Nd) (k : Nat) : mixN mk ks k ks.length = mkNds mk ks k := by
  unfold mixN
  rw [List.take_of_length_le (by rw [mkNds_len]; exact Nat.le_refl _)]
  simp
theorem mixN_len {mk : Nat → ByteArray} {ks : List Nd} {k j : Nat} (h : j ≤ ks.length) : (mixN mk ks k j).length = ks.length := by
  simp [mixN, mkNds_len]; omega
theorem mixN_at {mk : Nat → ByteArray} {ks : List Nd} {k j : Nat} (h : j < ks.length) : (mixN mk ks k j)[j]? = ks[j]? := by
  unfold mixN
  rw [List.getElem?_append_right (by simp; omega), List.length_take, mkNds_len, Nat.min_eq_left (by omega), Nat.sub_self]
  simp
theorem mixN_succ {mk : Nat → ByteArray} {ks : List Nd} {k j : Nat} {x : Nd} (h : ks[j]? = some x) : (mixN mk ks k j).set j (mkNd mk x (k + 3 * sizesN (ks.take j))) = mixN mk ks k (j + 1) := by
  have hl := (List.getElem?_eq_some_iff.1 h).1
  have hm := mkNds_at mk ks k j
  rw [h] at hm
  simp at hm
  unfold mixN
  rw [List.take_add_one, hm]
  rw [List.set_append_right _ _ (by simp; omega), List.length_take, mkNds_len, Nat.min_eq_left (by omega), Nat.sub_self]
  have : ks.drop j = x :: ks.drop (j + 1) := by
    rw [List.drop_eq_getElem_cons hl]
    rw [List.getElem?_eq_getElem hl] at h
    injection h with h
    rw [h]
  rw [this]
  simp
end Go.Proofs.YtlinbkgeahgkjaaGreatDoor
namespace Go.Proofs.YtlinbkgeahgkjaaGreatDoor
open Go.RowKit

theorem Kept.set4G {w W : World} (k : Kept w W) {g i : Nat} (hg : w.heap.size ≤ g) (a b c d : Value) : Kept w ((((W.setCell ⟨g, i, none⟩ a).setCell ⟨g, i + 1, none⟩ b).setCell ⟨g, i + 2, none⟩ c).setCell ⟨g, i + 3, none⟩ d) := (((k.set hg a).set hg b).set hg c).set hg d
theorem Cells.at4G {W : World} {B i : Nat} {t : TypeId} {cs : Array Value} (h : Cells W B t cs) (hi : i < cs.size) : W.cell? ⟨B, i, none⟩ = some cs[i] := by
  have hh : W.heap[B]? = some _ := h
  simp [World.cell?, hh, hi]
theorem heap_set4 {W : World} {g i b : Nat} {d0 d1 d2 d3 : Value} (h : b ≠ g) : ((((W.setCell ⟨g, i, none⟩ d0).setCell ⟨g, i + 1, none⟩ d1).setCell ⟨g, i + 2, none⟩ d2).setCell ⟨g, i + 3, none⟩ d3).heap[b]? = W.heap[b]? :=
  (Below.heap_setCell _ _ _ _ h).trans ((Below.heap_setCell _ _ _ _ h).trans ((Below.heap_setCell _ _ _ _ h).trans (Below.heap_setCell _ _ _ _ h)))
/-- The cells of a row whose first k nodes are told; these lie in blocks behind it, up to hi. -/
def RowC (W : World) (g : Nat) (ks : List Nd) (k hi : Nat) : Prop := ∃ cs, Cells W g 29 cs ∧ ks.length * 4 ≤ cs.size ∧ g < hi ∧ ∃ bl bh : Nat → Nat, (∀ i, i < k → g + 1 ≤ bl i ∧ bl i ≤ bh i ∧ bh i ≤ hi) ∧ (∀ i j, i < j → j < k → bh i ≤ bl j) ∧
  ∀ j t, j < k → ks[j]? = some t → ∃ c0 c1 c2 c3, cs[j * 4]? = some c0 ∧ cs[j * 4 + 1]? = some c1 ∧ cs[j * 4 + 2]? = some c2 ∧ cs[j * 4 + 3]? = some c3 ∧ CpG W t (bl j) (bh j) (.agg #[c0, c1, c2, c3])
theorem RowC.on {W W' : World} {g : Nat} {ks : List Nd} {k hi hi' : Nat} (h : RowC W g ks k hi) (hk : Kept W W') (hh : hi ≤ hi') : RowC W' g ks k hi' := by
  obtain ⟨cs, h1, h2, h0, bl, bh, hb, hd, h3⟩ := h
  refine ⟨cs, h1.kept hk, h2, by omega, bl, bh, fun i hi => by have := hb i hi; omega, hd, fun j t hj ht => ?_⟩
  obtain ⟨c0, c1, c2, c3, e0, e1, e2, e3, hv⟩ := h3 j t hj ht
  exact ⟨c0, c1, c2, c3, e0, e1, e2, e3, hv.kept hk⟩
theorem RowC.next {W : World} {g : Nat} {ks : List Nd} {k hi lo2 hi2 : Nat} {x : Nd} {d0 d1 d2 d3 : Value} (h : RowC W g ks k hi) (hx : ks[k]? = some x) (hv : CpG W x lo2 hi2 (.agg #[d0, d1, d2, d3])) (h12 : hi ≤ lo2) (h22 : lo2 ≤ hi2) :
    RowC ((((W.setCell ⟨g, k * 4, none⟩ d0).setCell ⟨g, k * 4 + 1, none⟩ d1).setCell ⟨g, k * 4 + 2, none⟩ d2).setCell ⟨g, k * 4 + 3, none⟩ d3) g ks (k + 1) hi2 := by
  obtain ⟨cs, h1, h2, h0, bl, bh, hb, hd, h3⟩ := h
  have hlt : k < ks.length := (List.getElem?_eq_some_iff.1 hx).1
  refine ⟨_, (((h1.set (k * 4) d0).set (k * 4 + 1) d1).set (k * 4 + 2) d2).set (k * 4 + 3) d3, by simpa using h2, by omega, fun i => if i < k then bl i else lo2, fun i => if i < k then bh i else hi2, fun i hi => ?_, fun i j hij hj => ?_, fun j t hj ht => ?_⟩
  · by_cases hik : i < k
    · simp only [hik, if_true]; have := hb i hik; omega
    · simp only [hik, if_false]; omega
  · by_cases hjk : j < k
    · simp only [hjk, show i < k by omega, if_true]; exact hd i j hij hjk
    · simp only [hjk, show i < k by omega, if_true, if_false]; have := hb i (by omega); omega
  · by_cases hjk : j = k
    · subst hjk
      rw [hx] at ht
      injection ht with ht
      subst ht
      simp only [Nat.lt_irrefl, if_false]
      refine ⟨d0, d1, d2, d3, ?_, ?_, ?_, ?_, hv.stay (fun b x1 x2 x3 => heap_set4 (by omega))⟩
      · rw [Array.getElem?_setIfInBounds_ne (by omega), Array.getElem?_setIfInBounds_ne (by omega), Array.getElem?_setIfInBounds_ne (by omega), Array.getElem?_setIfInBounds_self_of_lt (by omega)]
      · rw [Array.getElem?_setIfInBounds_ne (by omega), Array.getElem?_setIfInBounds_ne (by omega), Array.getElem?_setIfInBounds_self_of_lt (by simp; omega)]
      · rw [Array.getElem?_setIfInBounds_ne (by omega), Array.getElem?_setIfInBounds_self_of_lt (by simp; omega)]
      · rw [Array.getElem?_setIfInBounds_self_of_lt (by simp; omega)]
    · obtain ⟨c0, c1, c2, c3, e0, e1, e2, e3, hv2⟩ := h3 j t (by omega) ht
      simp only [show j < k by omega, if_true]
      have := hb j (by omega)
      have tk : ∀ r, r < 4 → ((((cs.setIfInBounds (k * 4) d0).setIfInBounds (k * 4 + 1) d1).setIfInBounds (k * 4 + 2) d2).setIfInBounds (k * 4 + 3) d3)[j * 4 + r]? = cs[j * 4 + r]? := fun r hr => by
        rw [Array.getElem?_setIfInBounds_ne (by omega), Array.getElem?_setIfInBounds_ne (by omega), Array.getElem?_setIfInBounds_ne (by omega), Array.getElem?_setIfInBounds_ne (by omega)]
      exact ⟨c0, c1, c2, c3, (tk 0 (by omega)).trans e0, (tk 1 (by omega)).trans e1, (tk 2 (by omega)).trans e2, (tk 3 (by omega)).trans e3, hv2.stay (fun b x1 x2 x3 => heap_set4 (by omega))⟩
theorem RowC.done {W : World} {g cap : Nat} {ks : List Nd} {hi : Nat} (h : RowC W g ks ks.length hi) (hm : ks.length ≤ maxLen) : FunG W g hi (.slice (some ⟨g, 0, none⟩) ks.length cap) ks := by
  obtain ⟨cs, h1, h2, h0, bl, bh, hb, hd, h3⟩ := h
  refine .node g cap cs bl bh (fun i => cs.getD (i * 4) undef) (fun i => cs.getD (i * 4 + 1) undef) (fun i => cs.getD (i * 4 + 2) undef) (fun i => cs.getD (i * 4 + 3) undef) (by decide) (Nat.le_refl _) h0 h1 hm (fun i hi => by have := hb i hi; omega) hd (fun i hi => ?_) (fun i t ht => ?_)
  · refine ⟨?_, ?_, ?_, ?_⟩ <;> rw [Array.getD_eq_getD_getElem?, Array.getElem?_eq_getElem (by omega)] <;> rfl
  · obtain ⟨c0, c1, c2, c3, e0, e1, e2, e3, hv⟩ := h3 i t (List.getElem?_eq_some_iff.1 ht).1 ht
    simp only [Array.getD_eq_getD_getElem?, e0, e1, e2, e3, Option.getD_some]
    exact hv
end Go.Proofs.YtlinbkgeahgkjaaGreatDoor
