/-
  The model's copy of a unit (chapter 17): spec.l17Unit, what it holds.
-/
import Derived.Maps.AppendAt
import Derived.Laws.AppendOwnNone
import Derived.Test.YtgempjjnfpmndaaGreatDoorZCopB
namespace Go.Proofs.YtgempjjnfpmndaaGreatDoor
open Go.RowKit
set_option linter.unusedSimpArgs false
set_option linter.unusedVariables false
attribute [local go_sem] Plain.and7
/-- The cells of a row of codes, the steps of each at the head of a block. -/
def CdL (W : World) (b : Nat) (cs : List Cod) (k : Nat) (L : List Value) : Prop := L.length = k * 3 ∧ ∀ (j : Nat) (c : Cod), j < k → cs[j]? = some c → L[j * 3]? = some (.int .i64 c.n) ∧ L[j * 3 + 1]? = some (.int .i64 c.v) ∧ ∃ x c', L[j * 3 + 2]? = some (.slice (some ⟨x, 0, none⟩) c.ss.length c') ∧ StpB W x c.ss ∧ b ≤ x
theorem CdL.keep {W W' : World} {b : Nat} {cs : List Cod} {k : Nat} {L : List Value} (h : CdL W b cs k L) (hk : ∀ x t cur, t = 131 → Cells W x t cur → W'.heap[x]? = W.heap[x]?) : CdL W' b cs k L := by
  refine ⟨h.1, fun j c hj hc => ?_⟩
  obtain ⟨a, b', x, c', d, e, ex⟩ := h.2 j c hj hc
  obtain ⟨cur, hcur⟩ := e.1
  exact ⟨a, b', x, c', d, e.block (hk x _ cur rfl hcur), ex⟩
theorem CdL.kept {W W' : World} {b : Nat} {cs : List Cod} {k : Nat} {L : List Value} (h : CdL W b cs k L) (hk : Kept W W') : CdL W' b cs k L := h.keep fun x t cur _ hc => hk.block x hc.lt
theorem CdL.snoc {W : World} {b : Nat} {cs : List Cod} {k : Nat} {L : List Value} {c : Cod} {x c' : Nat} (h : CdL W b cs k L) (hc : cs[k]? = some c) (hS : StpB W x c.ss) (hx : b ≤ x) : CdL W b cs (k + 1) (L ++ [.int .i64 c.n, .int .i64 c.v, .slice (some ⟨x, 0, none⟩) c.ss.length c']) := by
  refine ⟨by rw [List.length_append, h.1]; simp; omega, fun j d hj hd => ?_⟩
  by_cases e : j = k
  · subst e
    rw [hc] at hd
    cases hd
    rw [List.getElem?_append_right (by rw [h.1]; exact Nat.le_refl _), List.getElem?_append_right (by rw [h.1]; omega), List.getElem?_append_right (by rw [h.1]; omega), h.1]
    simp only [Nat.sub_self, show j * 3 + 1 - j * 3 = 1 by omega, show j * 3 + 2 - j * 3 = 2 by omega]
    exact ⟨rfl, rfl, x, c', rfl, hS, hx⟩
  · obtain ⟨a, b', y, d', e1, e2⟩ := h.2 j d (by omega) hd
    have hl := h.1
    rw [List.getElem?_append_left (by omega), List.getElem?_append_left (by omega), List.getElem?_append_left (by omega)]
    exact ⟨a, b', y, d', e1, e2⟩
theorem CdL.codsA {W : World} {b0 base : Nat} {v : Value} {cs : List Cod} {L : List Value} (h : CdL W b0 cs cs.length L) (ho : W.ownsRow base 91 3 v cs.length L) : ∃ ao cap, v = .slice ao cs.length cap ∧ CodsA W ao cs := by
  rcases ho.2 with ⟨rfl, hn⟩ | ⟨g, cap, cur, rfl, hb, hg, h1, _, h3, h4⟩
  · exact ⟨none, 0, by rw [hn], fun j c hc => by rw [List.length_eq_zero_iff.1 hn] at hc; simp at hc⟩
  · refine ⟨_, cap, rfl, fun j c hc => ?_⟩
    have hj := (List.getElem?_eq_some_iff.1 hc).1
    obtain ⟨a, b, x, c', d, e, _⟩ := h.2 j c hj hc
    have hcell : ∀ i v, L[i]? = some v → W.cell? ⟨g, 0 + i, none⟩ = some v := fun i v hv => by
      have hC : Cells W g 91 cur := hg
      rw [Nat.zero_add, hC.cell]
      rw [← h4, List.getElem?_take] at hv
      split at hv
      · simpa using hv
      · cases hv
    exact ⟨g, 0, _, _, rfl, hcell _ _ a, by have := hcell _ _ b; rwa [← Nat.add_assoc] at this, by have := hcell _ _ d; rwa [← Nat.add_assoc] at this, e.stpsA⟩
theorem CdL.fro {W W' : World} {b : Nat} {cs : List Cod} {k : Nat} {L : List Value} (h : CdL W b cs k L) (hf : Fro b W W') : CdL W' b cs k L := by
  refine ⟨h.1, fun j c hj hc => ?_⟩
  obtain ⟨a, b', x, c', d, e, ex⟩ := h.2 j c hj hc
  exact ⟨a, b', x, c', d, e.block (hf.block x ex e.lt), ex⟩
theorem ownsRow_fro {W W' : World} {b : Nat} {e : TypeId} {size : Nat} {v : Value} {n : Nat} {xs : List Value} (h : W.ownsRow b e size v n xs) (hf : Fro b W W') : W'.ownsRow b e size v n xs := by
  refine ⟨h.1, ?_⟩
  rcases h.2 with h2 | ⟨g, cap, cur, rfl, hb, hg, r⟩
  · exact .inl h2
  · exact .inr ⟨g, cap, cur, rfl, hb, (hf.block g hb (Array.getElem?_eq_some_iff.1 hg).1).trans hg, r⟩
theorem Fro.mono {lo lo' : Nat} {W W' : World} (h : Fro lo W W') (hl : lo ≤ lo') : Fro lo' W W' := ⟨h.size, fun j h1 h2 => h.block j (by omega) h2⟩
/-- A block of another type is not the row. -/
theorem row_ne {W : World} {base size n k : Nat} {e t : TypeId} {v : Value} {xs : List Value} {cs : Array Value} (ho : W.ownsRow base e size v n xs) (hc : Cells W k t cs) (ht : t ≠ e) : v.ownBlock ≠ some k := by
  rcases ho.2 with ⟨rfl, _⟩ | ⟨g, cap, cur, rfl, hb, hg, _⟩
  · simp [Value.ownBlock]
  · intro h
    simp [Value.ownBlock] at h
    subst h
    have : Obj.cells cs t (0, 0) = Obj.cells cur e (0, 0) := Option.some.inj ((show W.heap[g]? = some (.cells cs t (0, 0)) from hc).symm.trans hg)
    injection this with _ h2
    exact ht h2
theorem Cells.rowK {W W' : World} {base size n k : Nat} {e t : TypeId} {v : Value} {xs : List Value} {cs : Array Value} (hc : Cells W k t cs) (ho : W.ownsRow base e size v n xs) (ht : t ≠ e) (hg : W.grownBy W' v.ownBlock) : Cells W' k t cs := Cells.grown hc hg (fun h => row_ne ho hc ht h.symm)
theorem cells_ne {W : World} {x y : Nat} {t t' : TypeId} {cs cs' : Array Value} (h : Cells W x t cs) (h' : Cells W y t' cs') (ht : t ≠ t') : x ≠ y := by
  intro e
  subst e
  have : Obj.cells cs t (0, 0) = Obj.cells cs' t' (0, 0) := Option.some.inj ((show W.heap[x]? = some (.cells cs t (0, 0)) from h).symm.trans h')
  injection this with _ h2
  exact ht h2
theorem OwnS.cellsOf {W : World} {base j : Nat} {v : Value} {ts : List ByteArray} (h : OwnS W base v ts) (hj : v.ownBlock = some j) : ∃ cur, Cells W j 9 cur := by
  rcases h.2 with ⟨rfl, _⟩ | ⟨g, cap, cur, rfl, hb, hg, _⟩
  · simp [Value.ownBlock] at hj
  · simp [Value.ownBlock] at hj
    subst hj
    exact ⟨cur, hg⟩
theorem OwnS.rowK {W W' : World} {base base' size n : Nat} {e : TypeId} {v cv : Value} {ts : List ByteArray} {xs : List Value} (h : OwnS W base v ts) (ho : W.ownsRow base' e size cv n xs) (ht : 9 ≠ e) (hg : W.grownBy W' cv.ownBlock) : OwnS W' base v ts :=
  OwnS.other h hg (fun k ek j hj e => by
    obtain ⟨cur, hc⟩ := h.cellsOf hj
    exact row_ne ho hc ht (by rw [ek, e]))
set_option maxHeartbeats 16000000 in
set_option maxRecDepth 100000 in
theorem l17Unit_ok (w : World) (g h : Nat) (cs : List Cod) (ts : List ByteArray) (hC : CodX w g cs) (hT : StA w (some ⟨h, 0, none⟩) ts) (hl : cs.length ≤ 1048576) (hi : ∀ c ∈ cs, c.ss.length ≤ 1048576) (ht : ts.length ≤ 1048576) :
    Calls Tryz.prog 51 #[.agg #[slB g cs.length cs.length, slB h ts.length ts.length]] w fun e w' => ∃ ca cc ta tc, e = .returned (.agg #[.slice ca cs.length cc, .slice ta ts.length tc]) ∧ (∀ W', Fro w.heap.size w' W' → CodsA W' ca cs ∧ StA W' ta ts) ∧ Kept w w' := by
  obtain ⟨i0, hin, hz0, hz1, hz2⟩ := info_parts infoStr
  obtain ⟨iS, hinS, hzS0, hzS1, hzS2⟩ := info_parts infoStp
  obtain ⟨iC, hinC, hzC0, hzC1, hzC2⟩ := info_parts infoCod
  obtain ⟨W0, hW0⟩ : ∃ W0, (w.alloc (.cells #[slB g cs.length cs.length, slB h ts.length ts.length] 38)).alloc (.cells #[.slice none 0 0, .slice none 0 0] 38) = W0 := ⟨_, rfl⟩
  have k0 : Kept w W0 := hW0 ▸ (Kept.alloc (Below.refl _ _) _).alloc _
  have X1 : Cells W0 w.heap.size 38 #[slB g cs.length cs.length, slB h ts.length ts.length] := hW0 ▸ (Cells.new w 38 #[slB g cs.length cs.length, slB h ts.length ts.length]).alloc _
  have X2 : Cells W0 (w.heap.size + 1) 38 #[.slice none 0 0, .slice none 0 0] := by
    have := Cells.new (w.alloc (.cells #[slB g cs.length cs.length, slB h ts.length ts.length] 38)) 38 #[.slice none 0 0, .slice none 0 0]
    simp only [World.size_alloc] at this
    exact hW0 ▸ this
  have hs0 : W0.heap.size = w.heap.size + 2 := by rw [← hW0]; simp
  have hrow : (W0.alloc (.cells #[] 9)).ownsRow W0.heap.size 9 1 (.slice (some ⟨W0.heap.size, 0, none⟩) 0 0) 0 [] := ⟨rfl, .inr ⟨W0.heap.size, 0, #[], rfl, Nat.le_refl _, heap_alloc_new W0 _, Nat.le_refl _, by unfold maxLen; omega, rfl, rfl⟩⟩
  have hcell := (hT.kept (Kept.alloc k0 (.cells #[] 9))).news
  have a1 := (X1.alloc (.cells #[] 9)).cell 1
  have HX1 : Hid (∀ u, Kept W0 u → Cells u w.heap.size 38 #[slB g cs.length cs.length, slB h ts.length ts.length]) := fun u hu => X1.kept hu
  have HX2 : Hid (∀ u, Kept W0 u → Cells u (w.heap.size + 1) 38 #[.slice none 0 0, .slice none 0 0]) := fun u hu => X2.kept hu
  have HK0 : Hid (Kept w W0) := k0
  have HS0 : Hid (W0.heap.size = w.heap.size + 2) := hs0
  have HC : Hid (CodX w g cs) := hC
  obtain ⟨n, hn⟩ : ∃ n, cs.length = n := ⟨_, rfl⟩
  obtain ⟨m, hm⟩ : ∃ m, ts.length = m := ⟨_, rfl⟩
  rw [hn] at HX1 hl
  rw [hm] at HX1 ht a1
  rw [hn, hm] at hW0 ⊢
  have HN : Hid (cs.length = n) := hn
  have HM : Hid (ts.length = m) := hm
  have hml : (ts.map Value.string).length = m * 1 := by simp [hm]
  clear hC hT k0 X1 X2 hs0 hn hm
  go_enter Tryz.func51, Tryz.ntmps51
  go_upto_region 1 with (fail)
  try simp only [hW0]
  clear hW0
  go_upto_region 2 with (at_builtin; refine wpList_append_own _ rfl _ _ 23 rfl W0.heap.size 9 i0 (.string ⟨#[]⟩) 1 16 Tryz.underlying23 hin hz0 hz1 hz2 rfl (by decide) _ _ _ rfl hrow ⟨h, 0, none⟩ m m (ts.map Value.string) rfl hml hcell (by intro u hu; obtain ⟨z, _, rfl⟩ := List.mem_map.1 hu; rfl) (by unfold maxLen; omega) (by omega) (by simp) ?_; intro v' w5 hown' hgrow hnil; have O5 : OwnS w5 W0.heap.size v' ts := (by rw [OwnS, HM.out]; simpa using hown'); have K5 : Kept W0 w5 := (Kept.alloc (Below.refl _ W0) (.cells #[] 9)).grownRow hgrow (fun j ej => (hrow.lt j ej).1); obtain ⟨to', tc, rfl, _⟩ := O5.at; have HO5 : Hid _ := O5; have HK5 : Hid _ := K5; clear hown' hgrow O5 K5 hnil)
  obtain ⟨W3, hW3⟩ : ∃ x, w5.alloc (.cells #[.slice none 0 0, .slice to' ts.length tc] 38) = x := ⟨_, rfl⟩
  have K3 : Kept W0 W3 := hW3 ▸ Kept.alloc HK5.out _
  obtain ⟨B3, hB3⟩ : ∃ x, w5.heap.size = x := ⟨_, rfl⟩
  have C3 : Cells W3 B3 38 #[.slice none 0 0, .slice to' ts.length tc] := hB3 ▸ hW3 ▸ Cells.new w5 38 #[.slice none 0 0, .slice to' ts.length tc]
  have O3 : Hid (OwnS W3 W0.heap.size (.slice to' ts.length tc) ts) := OwnS.kept HO5.out (hW3 ▸ Kept.alloc (Below.refl _ _) _)
  have HB3 : Hid (w.heap.size + 2 ≤ B3) := by have := HK5.out.size; have := HS0.out; rw [Hid, ← hB3]; omega
  rw [hB3]
  try simp only [hW3]
  have HC3 : Hid _ := C3
  have HK3 : Hid (Kept W0 W3) := K3
  clear hW3 hB3 a1 hcell hrow HO5 HK5 C3 K3
  rw [HM.out] at HC3 O3
  try rw [HM.out]
  go_wp2_with fail
  go_loopw [4] (fun iv wr => ∃ (k : Nat) (cv : Value) (L : List Value), iv = .int .i64 k ∧ k ≤ n ∧ Hid (wr.ownsRow (w.heap.size + 2) 91 3 cv k L) ∧ Hid (CdL wr (w.heap.size + 2) cs k L) ∧ Hid (Cells wr B3 38 #[cv, .slice to' m tc]) ∧ Hid (OwnS wr (w.heap.size + 2) (.slice to' m tc) ts) ∧ Hid (Cells wr w.heap.size 38 #[slB g n n, slB h m m]) ∧ Hid (Cells wr (w.heap.size + 1) 38 #[.slice none 0 0, .slice none 0 0]) ∧ Hid (Kept w wr)) (fun i _ => n - (intOf i).toNat)
  case atStart => exact ⟨0, _, [], rfl, Nat.zero_le _, ⟨by simp, .inl ⟨rfl, rfl⟩⟩, ⟨rfl, fun j c hj => by omega⟩, HC3.out, by have := O3.out; rw [HS0.out] at this; exact this, HX1.out _ HK3.out, HX2.out _ HK3.out, Kept.trans HK0.out HK3.out⟩
  case round =>
    clear HX1 HX2 HC3 O3 HK3 HK0
    obtain ⟨k, cv, L, rfl, hk, HO, HCd, HCB, HOS, HY1, HY2, HK⟩ := hrel
    have b0 := HY1.out.cell 0
    by_cases hlt : k < n
    · obtain ⟨c, hc⟩ : ∃ c, cs[k]? = some c := ⟨_, List.getElem?_eq_getElem (by have := HN.out; omega)⟩
      obtain ⟨vs, s1, s2, s3⟩ := CodX.kept HC.out HK.out
      have hj : k < cs.length := (List.getElem?_eq_some_iff.1 hc).1
      obtain ⟨x, _, e0, e1, e2, hR⟩ := s3 k c hj hc
      have c0 : wr.cell? ⟨g, k * 3, none⟩ = some (.int .i64 c.n) := by rw [s1.cell]; exact e0
      have c1 : wr.cell? ⟨g, k * 3 + 1, none⟩ = some (.int .i64 c.v) := by rw [s1.cell]; exact e1
      have c2 : wr.cell? ⟨g, k * 3 + 2, none⟩ = some (slB x c.ss.length c.ss.length) := by rw [s1.cell]; exact e2
      have hcl : c.ss.length ≤ 1048576 := hi c (List.mem_of_getElem? hc)
      obtain ⟨N, hNc⟩ : ∃ y, c.n = y := ⟨_, rfl⟩
      obtain ⟨V, hVc⟩ : ∃ y, c.v = y := ⟨_, rfl⟩
      obtain ⟨Q, hQc⟩ : ∃ y, c.ss.length = y := ⟨_, rfl⟩
      rw [hNc] at c0
      rw [hVc] at c1
      rw [hQc] at c2
      have HCc : Hid (cs[k]? = some c ∧ c.n = N ∧ c.v = V ∧ c.ss.length = Q) := ⟨hc, hNc, hVc, hQc⟩
      obtain ⟨WA, hWA⟩ : ∃ y, wr.alloc (.cells #[.int .i64 N, .int .i64 V, slB x Q Q] 91) = y := ⟨_, rfl⟩
      have kA : Kept wr WA := hWA ▸ Kept.alloc (Below.refl _ _) _
      have CA : Cells WA wr.heap.size 91 #[.int .i64 N, .int .i64 V, slB x Q Q] := hWA ▸ Cells.new wr 91 #[.int .i64 N, .int .i64 V, slB x Q Q]
      have hsA : WA.heap.size = wr.heap.size + 1 := by rw [← hWA]; simp
      have hrowA : (WA.alloc (.cells #[] 131)).ownsRow WA.heap.size 131 3 (.slice (some ⟨WA.heap.size, 0, none⟩) 0 0) 0 [] := ⟨rfl, .inr ⟨WA.heap.size, 0, #[], rfl, Nat.le_refl _, heap_alloc_new WA _, Nat.le_refl _, by unfold maxLen; omega, rfl, rfl⟩⟩
      have RA := RowS.on hR kA
      have hIA : ∀ i, i < Q * 3 → ∃ v, WA.cell? ((⟨x, 0, none⟩ : Addr).add i) = some v ∧ v.oneCell' = true := fun i hi' => by
        obtain ⟨ws, h1, h2, h3⟩ := RA
        obtain ⟨s, hs⟩ : ∃ s, c.ss[i / 3]? = some s := ⟨_, List.getElem?_eq_getElem (by omega)⟩
        obtain ⟨f0, f1, f2⟩ := h3 (i / 3) s (by omega) hs
        rw [Addr.add_lit, Nat.zero_add, h1.cell]
        rcases (show i = i / 3 * 3 ∨ i = i / 3 * 3 + 1 ∨ i = i / 3 * 3 + 2 by omega) with e | e | e
        · rw [e]; exact ⟨_, f0, rfl⟩
        · rw [e]; exact ⟨_, f1, rfl⟩
        · rw [e]; exact ⟨_, f2, rfl⟩
      have hcellA := cellsL_news (W' := WA.alloc (.cells #[] 131)) (fun i hi' => by obtain ⟨v, hv, _⟩ := hIA i hi'; exact ⟨v, hv⟩) (Kept.alloc (Below.refl _ WA) (.cells #[] 131))
      have honeA : ∀ u ∈ cellsL WA ⟨x, 0, none⟩ (Q * 3), u.oneCell' = true := by
        intro u hu
        obtain ⟨i, hi', e⟩ := List.mem_map.1 hu
        obtain ⟨v, hv, ho⟩ := hIA i (by simpa using hi')
        rw [hv] at e
        simp at e
        subst e
        exact ho
      have hq : Q ≤ 1048576 := by omega
      have dA := (CA.alloc (.cells #[] 131)).cell 2
      have HSt : Hid (∀ (W6 : World) g' cur, Cells W6 g' 131 cur → (∀ i u, (cellsL WA ⟨x, 0, none⟩ (Q * 3))[i]? = some u → cur[i]? = some u) → StpB W6 g' c.ss) := fun W6 g' cur hcur hce => by
        obtain ⟨ws, h1, h2, h3⟩ := RA
        have hat : ∀ i v, i < Q * 3 → WA.cell? ⟨x, i, none⟩ = some v → cur[i]? = some v := fun i v hi' hv => by
          refine hce i v ?_
          rw [cellsL_at hi', Addr.add_lit, Nat.zero_add, hv]
          rfl
        refine ⟨⟨cur, hcur⟩, fun i s hs => ?_⟩
        have hil := (List.getElem?_eq_some_iff.1 hs).1
        obtain ⟨f0, f1, f2⟩ := h3 i s hil hs
        refine ⟨?_, ?_, ?_⟩
        · rw [hcur.cell]; exact hat _ _ (by omega) (by rw [h1.cell]; exact f0)
        · rw [hcur.cell]; exact hat _ _ (by omega) (by rw [h1.cell]; exact f1)
        · rw [hcur.cell]; exact hat _ _ (by omega) (by rw [h1.cell]; exact f2)
      have HkA : Hid (Kept wr WA) := kA
      have HsA : Hid (WA.heap.size = wr.heap.size + 1) := hsA
      have HCA : Hid _ := CA
      clear hc hR s1 s2 s3 e0 e1 e2 hj hNc hVc hQc RA hIA kA CA hcl hsA
      go_upto_region 6 with (fail)
      try simp only [hWA]
      clear hWA
      have hnq : (cellsL WA ⟨x, 0, none⟩ (Q * 3)).length = Q * 3 := cellsL_len _ _ _
      have hsz7 : WA.heap.size ≤ (WA.alloc (.cells #[] 131)).heap.size := by simp
      go_upto_region 7 with (at_builtin; refine wpList_append_own _ rfl _ _ 89 rfl WA.heap.size 131 iS (.agg #[.int .i64 0, .int .i64 0, .int .i64 0]) 3 24 Tryz.underlying89 hinS hzS0 hzS1 hzS2 rfl (by decide) _ _ _ rfl hrowA ⟨x, 0, none⟩ Q Q (cellsL WA ⟨x, 0, none⟩ (Q * 3)) rfl hnq hcellA honeA (by unfold maxLen; omega) (by omega) hsz7 ?_; intro v6 w6 hown6 hgrow6 hnil6; obtain ⟨g', c', cur, rfl, hb6, hC6, _, _, hcur6⟩ := own_cells hown6 (fun e => by (have := (hnil6.1 e).1); cases this); have k6 : Kept WA w6 := (Kept.alloc (Below.refl _ WA) (.cells #[] 131)).grownRow hgrow6 (fun j ej => (hrowA.lt j ej).1); have hS6 := HSt.out w6 g' cur hC6 (fun i u hu => hcur6 i u (by rw [List.nil_append]; exact hu)); have y6 := Cells.kept HCA.out k6; have r0 := y6.cell 0; have r1 := y6.cell 1; have r2 := y6.cell 2; have f2 := y6.frozen 2; have HS6 : Hid _ := hS6; have HK6 : Hid _ := k6; have HY6 : Hid _ := y6; clear hown6 hgrow6 hnil6 hcur6 hC6 hS6 k6 y6)
      have hwsz : wr.heap.size < w6.heap.size := Cells.lt HY6.out
      have HX6 : Hid (w.heap.size + 2 ≤ g') := by have := HY2.out.lt; have := HsA.out; rw [Hid]; omega
      obtain ⟨WC, hWC⟩ : ∃ y, w6.setCell ⟨wr.heap.size, 2, none⟩ (slB g' Q c') = y := ⟨_, rfl⟩
      have hsWC : WC.heap.size = w6.heap.size := by rw [← hWC]; simp
      have kC : Kept wr WC := by rw [← hWC]; exact (Kept.trans HkA.out HK6.out).set (Nat.le_refl _) _
      have CC : Cells WC wr.heap.size 91 #[.int .i64 N, .int .i64 V, slB g' Q c'] := by rw [← hWC]; exact Cells.set 2 _ HY6.out
      have SC : StpB WC g' c.ss := by
        rw [← hWC]
        exact StpB.block HS6.out (Below.heap_setCell _ _ _ _ (by have := HsA.out; show g' ≠ wr.heap.size; omega))
      obtain ⟨WD, hWD⟩ : ∃ y, WC.alloc (.cells #[.int .i64 N, .int .i64 V, slB g' Q c'] 91) = y := ⟨_, rfl⟩
      have kD : Kept wr WD := hWD ▸ Kept.alloc kC _
      have CD : Cells WD WC.heap.size 91 #[.int .i64 N, .int .i64 V, slB g' Q c'] := hWD ▸ Cells.new WC _ _
      have SD : StpB WD g' c.ss := SC.kept (hWD ▸ Kept.alloc (Below.refl _ _) _)
      have OD : WD.ownsRow (w.heap.size + 2) 91 3 cv k L := World.ownsRow.kept HO.out kD.grown (by cases e : cv.ownBlock <;> simp)
      have hnewsD : ∀ (j : Nat) (u : Value), [Value.int .i64 N, Value.int .i64 V, slB g' Q c'][j]? = some u → WD.cell? ((⟨WC.heap.size, 0, none⟩ : Addr).add j) = some u := fun j u hu => by
        rw [Addr.add_lit, Nat.zero_add, CD.cell]
        match j, hu with
        | 0, hu => exact hu
        | 1, hu => exact hu
        | 2, hu => exact hu
        | j + 3, hu => simp at hu
      have honeD : ∀ u ∈ [Value.int .i64 N, Value.int .i64 V, slB g' Q c'], u.oneCell' = true := fun u hu => by
        simp only [List.mem_cons, List.mem_nil_iff, or_false] at hu
        rcases hu with rfl | rfl | rfl <;> rfl
      have hszD : w.heap.size + 2 ≤ WD.heap.size := by have := kD.size; have := HK.out.size; have := HY2.out.lt; omega
      have g0 := (CC).cell 0
      have g1 := (CC).cell 1
      have g2 := (CC).cell 2
      have b3 := (HCB.out.kept kC).cell 0
      have HSD : Hid _ := SD
      have HkD : Hid (Kept wr WD) := kD
      have HOD : Hid _ := OD
      have HCBD : Hid (Cells WD B3 38 #[cv, .slice to' m tc]) := HCB.out.kept kD
      clear r0 r1 r2 f2 hcellA honeA hrowA dA CC SC kC CD SD kD hnq hsz7 b0 c0 c1 c2
      try simp only [hWC]
      clear hWC
      clear hsWC hwsz
      have h63 : k + 1 ≤ maxLen := by unfold maxLen; omega
      have hby : (k + 1) * 40 ≤ 140737488355328 := by omega
      go_wp2_with (at_builtin; refine wpList_append_own _ rfl _ _ 36 rfl (w.heap.size + 2) 91 iC (.agg #[.int .i64 0, .int .i64 0, .slice none 0 0]) 3 40 Tryz.underlying36 hinC hzC0 hzC1 hzC2 rfl (by decide) cv k L rfl HOD.out ⟨WC.heap.size, 0, none⟩ 1 1 [.int .i64 N, .int .i64 V, slB g' Q c'] rfl rfl hnewsD honeD h63 hby hszD ?_; intro v8 w8 hown8 hgrow8 hnil8; obtain ⟨g8, c8, cur8, rfl, _, _, _, _, _⟩ := own_cells hown8 (fun e => by (have := (hnil8.1 e).2); omega); have HB8 : Hid (Cells w8 B3 38 #[cv, .slice to' m tc]) := Cells.rowK HCBD.out HOD.out (by decide) hgrow8; have y0 := HB8.out.cell 0; have y1 := HB8.out.frozen 0; have HO8 : Hid _ := hown8; have HG8 : Hid _ := hgrow8; clear hown8 hgrow8 hnil8)
      obtain ⟨hc, hNc, hVc, hQc⟩ := HCc.out
      have hS0 := HB3.out
      have tk : ∀ y t cur, t ≠ 91 → Cells WD y t cur → w8.heap[y]? = WD.heap[y]? := fun y t cur ht hcy => HG8.out.block y hcy.lt (fun e => row_ne HOD.out hcy ht e.symm)
      have i1 : Hid ((w8.setCell ⟨B3, 0, none⟩ (slB g8 (k + 1) c8)).ownsRow (w.heap.size + 2) 91 3 (slB g8 (k + 1) c8) (k + 1) (L ++ [.int .i64 N, .int .i64 V, slB g' Q c'])) := ownsRow_setCell_other HO8.out (row_ne HO8.out HB8.out (by decide)) _
      have i2 : Hid (CdL (w8.setCell ⟨B3, 0, none⟩ (slB g8 (k + 1) c8)) (w.heap.size + 2) cs (k + 1) (L ++ [.int .i64 N, .int .i64 V, slB g' Q c'])) := by
        have d2 := (HCd.out.kept HkD.out).snoc (c' := c') hc HSD.out HX6.out
        rw [hNc, hVc, hQc] at d2
        exact d2.keep (fun y t cur ht hcy => by
          subst ht
          exact (Below.heap_setCell _ _ _ _ (cells_ne hcy HCBD.out (by decide))).trans (tk y _ cur (by decide) hcy))
      have i3 : Hid (Cells (w8.setCell ⟨B3, 0, none⟩ (slB g8 (k + 1) c8)) B3 38 #[slB g8 (k + 1) c8, .slice to' m tc]) := HB8.out.set 0 (slB g8 (k + 1) c8)
      have o4 : OwnS w8 (w.heap.size + 2) (.slice to' m tc) ts := OwnS.rowK (HOS.out.kept HkD.out) HOD.out (by decide) HG8.out
      have i4 : Hid (OwnS (w8.setCell ⟨B3, 0, none⟩ (slB g8 (k + 1) c8)) (w.heap.size + 2) (.slice to' m tc) ts) := ownsRow_setCell_other o4 (row_ne o4 HB8.out (by decide)) _
      have i5 : Hid (Cells (w8.setCell ⟨B3, 0, none⟩ (slB g8 (k + 1) c8)) w.heap.size 38 #[slB g n n, slB h m m]) := (Cells.rowK (HY1.out.kept HkD.out) HOD.out (by decide) HG8.out).other (p := ⟨B3, 0, none⟩) (by show w.heap.size ≠ B3; omega) _
      have i6 : Hid (Cells (w8.setCell ⟨B3, 0, none⟩ (slB g8 (k + 1) c8)) (w.heap.size + 1) 38 #[.slice none 0 0, .slice none 0 0]) := (Cells.rowK (HY2.out.kept HkD.out) HOD.out (by decide) HG8.out).other (p := ⟨B3, 0, none⟩) (by show w.heap.size + 1 ≠ B3; omega) _
      have i7 : Hid (Kept w (w8.setCell ⟨B3, 0, none⟩ (slB g8 (k + 1) c8))) := (Kept.grownRow (Kept.trans HK.out HkD.out) HG8.out (fun j ej => by have := (World.ownsRow.lt HOD.out j ej).1; omega)).set (by show w.heap.size ≤ B3; omega) _
      clear hc hNc hVc hQc tk o4 y0 y1 g0 g1 g2 b3
      go_roundw
      case rel => exact ⟨k + 1, _, _, rfl, by omega, i1, i2, i3, i4, i5, i6, i7⟩
      case measure => simp [intOf]; omega
    · obtain rfl : k = n := by omega
      have b1 := HCB.out.cell 0
      have b2 := HCB.out.cell 1
      have d0 := HY2.out.cell 0
      have d1 := HY2.out.cell 1
      have f0 := HY2.out.frozen 0
      have f1 := HY2.out.frozen 1
      have q1 : ¬ (k : Int) < (k : Int) := by omega
      obtain ⟨ao, cap, hcv, _⟩ := CdL.codsA (v := cv) (base := w.heap.size + 2) (L := L) (by rw [HN.out]; exact HCd.out) (by rw [HN.out]; exact HO.out)
      rw [HN.out] at hcv
      subst hcv
      have hS0 := HB3.out
      have HZ := (HY2.out.set 0 (.slice ao k cap)).set 1 (.slice to' m tc)
      have z0 := HZ.cell 0
      have z1 := HZ.cell 1
      have HF : Hid (∀ a b W', Fro w.heap.size ((wr.setCell ⟨w.heap.size + 1, 0, none⟩ a).setCell ⟨w.heap.size + 1, 1, none⟩ b) W' → CodsA W' ao cs ∧ StA W' to' ts) := by
        intro a b W' hf0
        have hf := hf0.mono (show w.heap.size ≤ w.heap.size + 2 by omega)
        have hO' := ownsRow_fro (ownsRow_setCell_other (ownsRow_setCell_other HO.out (a := ⟨w.heap.size + 1, 0, none⟩) (row_ne HO.out HY2.out (by decide)) a) (a := ⟨w.heap.size + 1, 1, none⟩) (row_ne HO.out HY2.out (by decide)) b) hf
        have hd := (HCd.out.keep (W' := (wr.setCell ⟨w.heap.size + 1, 0, none⟩ a).setCell ⟨w.heap.size + 1, 1, none⟩ b) (fun y t cur ht hcy => by
          subst ht
          have hne := cells_ne hcy HY2.out (by decide)
          exact (Below.heap_setCell _ _ _ _ hne).trans (Below.heap_setCell _ _ _ _ hne))).fro hf
        have o' : OwnS W' (w.heap.size + 2) (.slice to' m tc) ts := ownsRow_fro (ownsRow_setCell_other (ownsRow_setCell_other HOS.out (a := ⟨w.heap.size + 1, 0, none⟩) (row_ne HOS.out HY2.out (by decide)) a) (a := ⟨w.heap.size + 1, 1, none⟩) (row_ne HOS.out HY2.out (by decide)) b) hf
        refine ⟨?_, ?_⟩
        · obtain ⟨ao', cap', e, hA⟩ := CdL.codsA (v := .slice ao k cap) (base := w.heap.size + 2) (L := L) (cs := cs) (by rw [HN.out]; exact hd) (by rw [HN.out]; exact hO')
          cases e
          exact hA
        · rw [← HM.out] at o'
          exact o'.stA
      go_wp2_with fail
      refine bodyPost_ret (v := .agg #[.slice ao k cap, .slice to' m tc]) (by simp [results, Tryz.results51, go_sem, z0, z1]) rfl ?_
      first
        | exact ⟨ao, cap, to', tc, rfl, HF.out _ _, (HK.out.set (by simp) _).set (by simp) _⟩
        | exact ⟨ao, ⟨cap, to', ⟨tc, rfl⟩, HF.out _ _, (HK.out.set (by simp) _).set (by simp) _⟩⟩
end Go.Proofs.YtgempjjnfpmndaaGreatDoor
