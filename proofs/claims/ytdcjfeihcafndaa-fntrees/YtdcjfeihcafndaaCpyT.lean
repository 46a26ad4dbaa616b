/-
  Trees of one's own: each row an own row, the kids in blocks of their own.
-/
import Derived.Test.YtdcjfeihcafndaaParP
namespace Go.Proofs.Ytdcjfeihcafndaa
open Go.RowKit

/-- The tree t lies as v, all its rows its own, in blocks from lo to hi; kids share none. -/
inductive CpT (W : World) : Nd → Nat → Nat → Value → Prop
  | leaf {op n : Int} {s : ByteArray} {lo hi : Nat} (hs : s.size ≤ maxLen) : CpT W (.mk op s n []) lo hi (.agg #[.int .i64 op, .string s, .int .i64 n, .slice none 0 0])
  | node {op n : Int} {s : ByteArray} {lo hi : Nat} {ks : List Nd} (g cap : Nat) (cur : Array Value) (bl bh : Nat → Nat) (q0 q1 q2 q3 : Nat → Value) (hs : s.size ≤ maxLen) (hlo : lo ≤ g) (hhi : g < hi) (hg : W.heap[g]? = some (.cells cur 26 (0, 0))) (hc : ks.length ≤ cap) (hm : cap ≤ maxLen) (hz : cur.size = cap * 4)
      (hb : ∀ i, i < ks.length → lo ≤ bl i ∧ bl i ≤ bh i ∧ bh i ≤ hi ∧ (g < bl i ∨ bh i ≤ g)) (hd : ∀ i j, i < j → j < ks.length → bh i ≤ bl j)
      (hq : ∀ i, i < ks.length → cur[i * 4]? = some (q0 i) ∧ cur[i * 4 + 1]? = some (q1 i) ∧ cur[i * 4 + 2]? = some (q2 i) ∧ cur[i * 4 + 3]? = some (q3 i))
      (hk : ∀ i t, ks[i]? = some t → CpT W t (bl i) (bh i) (.agg #[q0 i, q1 i, q2 i, q3 i])) :
      CpT W (.mk op s n ks) lo hi (.agg #[.int .i64 op, .string s, .int .i64 n, .slice (some ⟨g, 0, none⟩) ks.length cap])
theorem CpT.stay {W W' : World} {t : Nd} {lo hi : Nat} {v : Value} (h : CpT W t lo hi v) : (∀ b, lo ≤ b → b < hi → b < W.heap.size → W'.heap[b]? = W.heap[b]?) → CpT W' t lo hi v := by
  induction h with
  | leaf hs => exact fun _ => .leaf hs
  | node g cap cur bl bh q0 q1 q2 q3 hs hlo hhi hg hc hm hz hb hd hq hk ih =>
    intro hw
    refine .node g cap cur bl bh q0 q1 q2 q3 hs hlo hhi ((hw g hlo hhi (Array.getElem?_eq_some_iff.1 hg).1).trans hg) hc hm hz hb hd hq (fun i t ht => ih i t ht (fun b h1 h2 h3 => hw b ?_ ?_ h3))
    · have := hb i (List.getElem?_eq_some_iff.1 ht).1; omega
    · have := hb i (List.getElem?_eq_some_iff.1 ht).1; omega
theorem CpT.mono {W : World} {t : Nd} {lo hi lo' hi' : Nat} {v : Value} (h : CpT W t lo hi v) (hl : lo' ≤ lo) (hh : hi ≤ hi') : CpT W t lo' hi' v := by
  cases h with
  | leaf hs => exact .leaf hs
  | node g cap cur bl bh q0 q1 q2 q3 hs hlo hhi hg hc hm hz hb hd hq hk => exact .node g cap cur bl bh q0 q1 q2 q3 hs (by omega) (by omega) hg hc hm hz (fun i hi => by have := hb i hi; omega) hd hq hk
theorem CpT.toS {W : World} {t : Nd} {lo hi : Nat} {v : Value} (h : CpT W t lo hi v) : NdS W (fun b => lo ≤ b ∧ b < hi) t v := by
  induction h with
  | leaf hs => exact NdS.leaf _ _ _ _ _ hs
  | node g cap cur bl bh q0 q1 q2 q3 hs hlo hhi hg hc hm hz hb hd hq hk ih =>
    rw [NdS]
    refine ⟨_, cap, rfl, ⟨hs, by omega⟩, .inr ⟨g, 0, rfl, ⟨hlo, hhi⟩, NdsS.of ⟨_, _, hg⟩ (fun i t ht => ?_)⟩⟩
    have hi := (List.getElem?_eq_some_iff.1 ht).1
    obtain ⟨e0, e1, e2, e3⟩ := hq i hi
    have cell : ∀ j c, cur[j]? = some c → W.cell? ⟨g, j, none⟩ = some c := fun j c hc => by simp [World.cell?, hg, hc]
    simp only [Nat.zero_add]
    exact ⟨_, _, _, _, cell _ _ e0, cell _ _ e1, cell _ _ e2, cell _ _ e3, NdS.mono (fun b hb' _ => by have := hb i hi; omega) _ _ (ih i t ht)⟩
theorem CpT.four {W : World} {t : Nd} {lo hi : Nat} {v : Value} (h : CpT W t lo hi v) : ∃ op s n ao l cap, v = .agg #[.int .i64 op, .string s, .int .i64 n, .slice ao l cap] := h.toS.four
/-- The cells of the kids' row. -/
theorem CpT.own {W : World} {op n : Int} {s : ByteArray} {ks : List Nd} {lo hi : Nat} {kv : Value} (h : CpT W (.mk op s n ks) lo hi (.agg #[.int .i64 op, .string s, .int .i64 n, kv])) (hlh : lo ≤ hi) : ∃ xs, W.ownsRow 0 26 4 kv ks.length xs ∧ (∀ g, kv.ownBlock = some g → lo ≤ g ∧ g < hi) ∧
    ∀ (W' : World) (v' : Value) (t : Nd) (lo2 hi2 hi' : Nat) (d0 d1 d2 d3 : Value), hi ≤ lo2 → lo2 ≤ hi2 → hi2 ≤ W.heap.size → W'.heap.size ≤ hi' → CpT W t lo2 hi2 (.agg #[d0, d1, d2, d3]) → W'.ownsRow 0 26 4 v' (ks.length + 1) (xs ++ [d0, d1, d2, d3]) → W.grownBy W' kv.ownBlock → (kv.ownBlock = v'.ownBlock ∨ v'.ownBlock = some W.heap.size) → CpT W' (.mk op s n (ks ++ [t])) lo hi' (.agg #[.int .i64 op, .string s, .int .i64 n, v']) := by
  have fin : ∀ (xs : List Value) (bl bh : Nat → Nat) (q0 q1 q2 q3 : Nat → Value) (hs : s.size ≤ maxLen) (hxl : xs.length = ks.length * 4) (hS : ∀ g, kv.ownBlock = some g → lo ≤ g ∧ g < hi)
      (hb : ∀ i, i < ks.length → lo ≤ bl i ∧ bl i ≤ bh i ∧ bh i ≤ hi ∧ (∀ g, kv.ownBlock = some g → (g < bl i ∨ bh i ≤ g))) (hd : ∀ i j, i < j → j < ks.length → bh i ≤ bl j)
      (hq : ∀ i, i < ks.length → xs[i * 4]? = some (q0 i) ∧ xs[i * 4 + 1]? = some (q1 i) ∧ xs[i * 4 + 2]? = some (q2 i) ∧ xs[i * 4 + 3]? = some (q3 i)) (hk : ∀ i t, ks[i]? = some t → CpT W t (bl i) (bh i) (.agg #[q0 i, q1 i, q2 i, q3 i])),
      ∀ (W' : World) (v' : Value) (t : Nd) (lo2 hi2 hi' : Nat) (d0 d1 d2 d3 : Value), lo ≤ hi → hi ≤ lo2 → lo2 ≤ hi2 → hi2 ≤ W.heap.size → W'.heap.size ≤ hi' → CpT W t lo2 hi2 (.agg #[d0, d1, d2, d3]) → W'.ownsRow 0 26 4 v' (ks.length + 1) (xs ++ [d0, d1, d2, d3]) → W.grownBy W' kv.ownBlock → (kv.ownBlock = v'.ownBlock ∨ v'.ownBlock = some W.heap.size) → CpT W' (.mk op s n (ks ++ [t])) lo hi' (.agg #[.int .i64 op, .string s, .int .i64 n, v']) := by
    intro xs bl bh q0 q1 q2 q3 hs hxl hS hb hd hq hk W' v' t lo2 hi2 hi' d0 d1 d2 d3 hlh h1 h2 h3 h4 hkt ho hgr hv
    obtain ⟨hol, ⟨rfl, h0⟩ | ⟨g', cap', cur', rfl, _, hg', hc', hm', hz', ht'⟩⟩ := ho
    · omega
    · have hgsz := hgr.size
      have hg'l : g' < W'.heap.size := (Array.getElem?_eq_some_iff.1 hg').1
      have own' : kv.ownBlock = some g' ∨ g' = W.heap.size := by
        rcases hv with e | e
        · exact .inl e
        · simp [Value.ownBlock] at e; exact .inr e
      have cc : ∀ j c, (xs ++ [d0, d1, d2, d3])[j]? = some c → cur'[j]? = some c := fun j c hj => by
        rw [← ht', List.getElem?_take] at hj
        split at hj
        · simpa using hj
        · cases hj
      have key := CpT.node (W := W') (op := op) (n := n) (s := s) (lo := lo) (hi := hi') (ks := ks ++ [t]) g' cap' cur' (fun i => if i < ks.length then bl i else lo2) (fun i => if i < ks.length then bh i else hi2) (fun i => if i < ks.length then q0 i else d0) (fun i => if i < ks.length then q1 i else d1) (fun i => if i < ks.length then q2 i else d2) (fun i => if i < ks.length then q3 i else d3) hs
        (by rcases own' with e | e
            · exact (hS g' e).1
            · omega) (by omega) hg' (by simpa using hc') hm' hz'
        (fun i hi => by
          by_cases hlt : i < ks.length
          · simp only [hlt, if_true]
            obtain ⟨b1, b2, b3, b4⟩ := hb i hlt
            refine ⟨b1, b2, by omega, ?_⟩
            rcases own' with e | e
            · exact b4 g' e
            · right; omega
          · simp only [hlt, if_false]
            refine ⟨by omega, h2, by omega, ?_⟩
            rcases own' with e | e
            · left; have := (hS g' e).2; omega
            · right; omega)
        (fun i j hij hj => by
          simp at hj
          have hlt : i < ks.length := by omega
          by_cases hltj : j < ks.length
          · simp only [hlt, hltj, if_true]; exact hd i j hij hltj
          · simp only [hlt, hltj, if_true, if_false]; have := hb i hlt; omega)
        (fun i hi => by
          by_cases hlt : i < ks.length
          · simp only [hlt, if_true]
            obtain ⟨e0, e1, e2, e3⟩ := hq i hlt
            exact ⟨cc _ _ (by rw [List.getElem?_append_left (by omega)]; exact e0), cc _ _ (by rw [List.getElem?_append_left (by omega)]; exact e1), cc _ _ (by rw [List.getElem?_append_left (by omega)]; exact e2), cc _ _ (by rw [List.getElem?_append_left (by omega)]; exact e3)⟩
          · simp only [hlt, if_false]
            simp at hi
            obtain rfl : i = ks.length := by omega
            exact ⟨cc _ _ (by rw [List.getElem?_append_right (by omega), show ks.length * 4 - xs.length = 0 by omega]; rfl), cc _ _ (by rw [List.getElem?_append_right (by omega), show ks.length * 4 + 1 - xs.length = 1 by omega]; rfl), cc _ _ (by rw [List.getElem?_append_right (by omega), show ks.length * 4 + 2 - xs.length = 2 by omega]; rfl), cc _ _ (by rw [List.getElem?_append_right (by omega), show ks.length * 4 + 3 - xs.length = 3 by omega]; rfl)⟩)
        (fun i u hu => by
          have hil := (List.getElem?_eq_some_iff.1 hu).1
          by_cases hlt : i < ks.length
          · simp only [hlt, if_true]
            rw [List.getElem?_append_left hlt] at hu
            refine (hk i u hu).stay (fun b b1 b2 b3 => hgr.block b b3 (fun e => ?_))
            have := (hb i hlt).2.2.2 b e.symm
            omega
          · simp only [hlt, if_false]
            simp at hil
            obtain rfl : i = ks.length := by omega
            rw [List.getElem?_append_right (Nat.le_refl _)] at hu
            simp at hu
            subst hu
            refine hkt.stay (fun b b1 b2 b3 => hgr.block b b3 (fun e => ?_))
            have := (hS b e.symm).2
            omega)
      simpa using key
  cases h with
  | leaf hs =>
    refine ⟨[], ⟨rfl, .inl ⟨rfl, rfl⟩⟩, fun g hg => by simp [Value.ownBlock] at hg, fun W' v' t lo2 hi2 hi' d0 d1 d2 d3 h1 h2 h3 h4 hkt ho hgr hv => ?_⟩
    exact fin [] (fun _ => 0) (fun _ => 0) (fun _ => .bool true) (fun _ => .bool true) (fun _ => .bool true) (fun _ => .bool true) hs rfl (fun g hg => by simp [Value.ownBlock] at hg) (fun i hi => by simp at hi) (fun i j _ hj => by simp at hj) (fun i hi => by simp at hi) (fun i t ht => by simp at ht) W' v' t lo2 hi2 hi' d0 d1 d2 d3 hlh h1 h2 h3 h4 hkt ho hgr hv
  | node g cap cur bl bh q0 q1 q2 q3 hs hlo hhi hg hc hm hz hb hd hq hk =>
    have hxl : (cur.toList.take (ks.length * 4)).length = ks.length * 4 := by
      have e : cur.toList.length = cap * 4 := by rw [← hz]; simp
      rw [List.length_take, e]
      exact Nat.min_eq_left (Nat.mul_le_mul_right _ hc)
    refine ⟨cur.toList.take (ks.length * 4), ⟨hxl, .inr ⟨g, cap, cur, rfl, Nat.zero_le _, hg, hc, hm, hz, rfl⟩⟩, fun g' e => by simp [Value.ownBlock] at e; omega, fun W' v' t lo2 hi2 hi' d0 d1 d2 d3 h1 h2 h3 h4 hkt ho hgr hv => ?_⟩
    exact fin _ bl bh q0 q1 q2 q3 hs hxl (fun g' e => by simp [Value.ownBlock] at e; omega) (fun i hi => by
      obtain ⟨b1, b2, b3, b4⟩ := hb i hi
      exact ⟨b1, b2, b3, fun g' e => by simp [Value.ownBlock] at e; rw [← e]; exact b4⟩) hd (fun i hi => by
      obtain ⟨e0, e1, e2, e3⟩ := hq i hi
      have tk : ∀ j c, j < ks.length * 4 → cur[j]? = some c → (cur.toList.take (ks.length * 4))[j]? = some c := fun j c hj hc => by rw [List.getElem?_take, if_pos hj]; simpa using hc
      exact ⟨tk _ _ (by omega) e0, tk _ _ (by omega) e1, tk _ _ (by omega) e2, tk _ _ (by omega) e3⟩) hk W' v' t lo2 hi2 hi' d0 d1 d2 d3 (by omega) h1 h2 h3 h4 hkt ho hgr hv
end Go.Proofs.Ytdcjfeihcafndaa
