/-
  The contract of chapter 11's model Tokens, weakly told: a row of tokens whose last one is the end.
-/
import Derived.Test.YtejpjbfmjmfnmaaGreatDoorTokF
import Derived.Deep.AppendLies
import Derived.Maps.AppendAt
import Derived.OwnWalk
namespace Go.Proofs.YtejpjbfmjmfnmaaGreatDoor
open Go.RowKit
set_option linter.unusedSimpArgs false

structure Tok where
  k : Int
  s : ByteArray
  n : Int
  a : Int
def Tok.cs (x : Tok) : List Value := [.int .i64 x.k, .string x.s, .int .i64 x.n, .int .i64 x.a]
def toksC (ts : List Tok) : List Value := ts.flatMap Tok.cs
theorem toksC_len (ts : List Tok) : (toksC ts).length = ts.length * 4 := by
  induction ts with
  | nil => rfl
  | cons x ts ih => simp only [toksC, List.flatMap_cons, List.length_append, List.length_cons] at ih ⊢; rw [ih]; simp [Tok.cs]; omega
def Tok.ok (x : Tok) : Prop := 0 ≤ x.k ∧ x.k ≤ 4 ∧ 0 ≤ x.a ∧ x.a ≤ 1048576 ∧ x.s.size ≤ 1048576
theorem news_of (w : World) (t : TypeId) (cs : Array Value) : ∀ j u, cs.toList[j]? = some u → (w.alloc (.cells cs t)).cell? ((⟨w.heap.size, 0, none⟩ : Addr).add j) = some u := by
  intro j u h
  rw [Addr.add_lit, Nat.zero_add, (Cells.new w t cs).cell j]
  simpa using h
/-- A name, and nothing else. -/
def nmB (t : ByteArray) : Bool := decide (0 < t.size) && (letB (byteN t 0) && (decide (runE nameB t 0 = t.size) && decide (t.size ≤ 12)))
theorem nmB_iff {t : ByteArray} : nmB t = true ↔ 0 < t.size ∧ letB (byteN t 0) = true ∧ runE nameB t 0 = t.size ∧ t.size ≤ 12 := by simp [nmB]
/-- Ahead of the place k of a source, where the tokens ts were read. -/
def TkInv (t : ByteArray) (k : Nat) (ts : List Tok) : Prop := (∀ x, ts[0]? = some x → x.k = 1 → x.s = t → nmB t = true) ∧ (nmB t = true → (k = 0 ∧ ts = []) ∨ (k = t.size ∧ ts = [⟨1, t, 0, 0⟩]))
theorem TkInv.zero (t : ByteArray) : TkInv t 0 [] := ⟨fun x h => by simp at h, fun _ => .inl ⟨rfl, rfl⟩⟩
theorem TkInv.blank {t : ByteArray} {k : Nat} {ts : List Tok} (h : TkInv t k ts) (hk : k < t.size) (hb : byteN t k = 32 ∨ byteN t k = 10) : TkInv t (k + 1) ts := by
  refine ⟨h.1, fun hn => ?_⟩
  rcases h.2 hn with ⟨rfl, rfl⟩ | ⟨rfl, _⟩
  · have h2 := (nmB_iff.1 hn).2.1
    rcases hb with hb | hb <;> rw [hb] at h2 <;> exact absurd h2 (by decide)
  · omega
theorem extract_all (t : ByteArray) : t.extract 0 t.size = t := by
  apply ByteArray.ext
  simp [ByteArray.data_extract]
theorem TkInv.bad {t : ByteArray} {k : Nat} {ts : List Tok} (h : TkInv t k ts) (hk : k < t.size) {k1 : Int} (h2 : letB (byteN t k) = true → runE nameB t k ≤ k + 12 → false = true ∧ k1 = 1) : nmB t = false := by
  cases hn : nmB t with
  | false => rfl
  | true =>
    obtain ⟨_, a2, a3, a4⟩ := nmB_iff.1 hn
    rcases h.2 hn with ⟨rfl, rfl⟩ | ⟨rfl, _⟩
    · exact absurd (h2 a2 (by omega)).1 (by decide)
    · omega
theorem TkInv.step {t : ByteArray} {k to1 : Nat} {ts : List Tok} {k1 n1 : Int} {s1 : ByteArray} (h : TkInv t k ts) (hk : k < t.size) (hto : k < to1) (hto2 : to1 ≤ t.size)
    (h1 : k1 = 1 → n1 = 0 ∧ letB (byteN t k) = true ∧ s1 = t.extract k (runE nameB t k) ∧ to1 = runE nameB t k ∧ runE nameB t k ≤ k + 12) (h2 : letB (byteN t k) = true → runE nameB t k ≤ k + 12 → k1 = 1) : TkInv t to1 (ts ++ [⟨k1, s1, n1, (k : Nat)⟩]) := by
  refine ⟨fun x hx h3 h4 => ?_, fun hn => ?_⟩
  · cases ts with
    | nil =>
      simp at hx
      subst hx
      simp only at h3 h4
      obtain ⟨_, b2, b3, b4, b5⟩ := h1 h3
      have hs : s1.size = t.size := by rw [h4]
      rw [b3, ByteArray.size_extract] at hs
      have hk0 : k = 0 := by omega
      subst hk0
      exact nmB_iff.2 ⟨by omega, b2, by omega, by omega⟩
    | cons y ts => exact h.1 x (by simpa using hx) h3 h4
  · obtain ⟨_, a2, a3, a4⟩ := nmB_iff.1 hn
    rcases h.2 hn with ⟨rfl, rfl⟩ | ⟨rfl, _⟩
    · have e1 := h2 a2 (by omega)
      obtain ⟨b1, _, b3, b4, _⟩ := h1 e1
      right
      refine ⟨by omega, ?_⟩
      rw [b3, a3, extract_all, e1, b1]
      rfl
    · omega
theorem infoTk : (Tryz.prog.info? 107).map (fun i => (i.zero, i.size, i.bytes)) = some (some (.agg #[.int .i64 0, .string ⟨#[]⟩, .int .i64 0, .int .i64 0]), 4, 40) := by kernel_rfl
def TokRow (W : World) (base : Nat) (v : Value) (ts : List Tok) : Prop := W.ownsRow base 107 4 v ts.length (toksC ts)
theorem TokRow.block_ge {W : World} {base : Nat} {v : Value} {ts : List Tok} (h : TokRow W base v ts) : ∀ j, v.ownBlock = some j → base ≤ j := by
  intro j hj
  rcases h.2 with ⟨rfl, _⟩ | ⟨g, cap, cur, rfl, hb, _⟩
  · simp [Value.ownBlock] at hj
  · simp [Value.ownBlock] at hj
    omega
set_option maxHeartbeats 8000000 in
set_option maxRecDepth 100000 in
theorem Tokens_nm (w : World) (t : ByteArray) (ht : t.size ≤ 1048576) :
    Calls Tryz.prog 78 #[.string t] w fun e w' => ∃ v p, e = .returned (.tuple #[v, .int .i64 p]) ∧ (∃ ga gn gc, v = .slice ga gn gc) ∧ ((0 ≤ p ∧ p ≤ 1048576 ∧ nmB t = false) ∨ (p = -1 ∧ ∃ ts a, TokRow w' w.heap.size v (ts ++ [⟨0, ⟨#[]⟩, 0, a⟩]) ∧ ts.length ≤ 800 ∧ (∀ x ∈ ts, x.ok) ∧ 0 ≤ a ∧ a ≤ 1048576 ∧ TkInv t t.size ts)) ∧ Kept w w' := by
  obtain ⟨i0, hi, hz0, hz1, hz2⟩ := info_parts infoTk
  have k1 : Kept w (w.alloc (.cells #[] 107)) := Kept.alloc (Below.refl _ _) _
  by_cases hbig : 800 < t.size
  · have q1 : (800 : Int) < (t.size : Int) := by omega
    go_enter Tryz.func78, Tryz.ntmps78
    go_wp2_with fail
    exact bodyPost_ret (v := .tuple #[.slice (some ⟨w.heap.size, 0, none⟩) 0 0, .int .i64 0]) (by simp [results, Tryz.results78, go_sem]) rfl ⟨_, _, rfl, ⟨_, _, _, rfl⟩, .inl ⟨by omega, by omega, by cases hn : nmB t with | false => rfl | true => have := (nmB_iff.1 hn).2.2.2; omega⟩, k1⟩
  · have q1 : ¬ (800 : Int) < (t.size : Int) := by omega
    have R0 : TokRow (w.alloc (.cells #[] 107)) w.heap.size (.slice (some ⟨w.heap.size, 0, none⟩) 0 0) [] := ⟨rfl, .inr ⟨_, 0, #[], rfl, Nat.le_refl _, heap_alloc_new w _, Nat.le_refl _, by unfold maxLen; omega, rfl, rfl⟩⟩
    have HR0 : Hid _ := R0
    clear R0
    go_enter Tryz.func78, Tryz.ntmps78
    go_wp2_with fail
    go_loopw [4, 5] (fun ov av wr => ∃ (k : Nat) (ts : List Tok), av = .int .i64 k ∧ k ≤ t.size ∧ ts.length ≤ k ∧ Hid (TokRow wr w.heap.size ov ts) ∧ Hid (∀ x ∈ ts, x.ok) ∧ Hid (Kept w wr) ∧ Hid (TkInv t k ts)) (fun _ i _ => t.size - (intOf i).toNat)
    case atStart => exact ⟨0, [], rfl, Nat.zero_le _, Nat.le_refl _, HR0.out, by simp [Hid], k1, TkInv.zero t⟩
    case round =>
      obtain ⟨k, ts, rfl, hk, htl, hR, hX, hK, hV⟩ := hrel
      clear HR0
      obtain ⟨ga, gn, gc, rfl⟩ : ∃ ga gn gc, u4 = Value.slice ga gn gc := by
        rcases hR.out.2 with ⟨rfl, h⟩ | ⟨g, cap, cur, rfl, h⟩
        · exact ⟨_, _, _, rfl⟩
        · exact ⟨_, _, _, rfl⟩
      by_cases hlt : k < t.size
      · have q2 : (k : Int) < (t.size : Int) := by omega
        by_cases hb : byteN t k = 32 ∨ byteN t k = 10
        · have hb' : ((t[k].toNat : Int) == 32) = true ∨ ((t[k].toNat : Int) == 32) = false ∧ ((t[k].toNat : Int) == 10) = true := by
            rw [byteN_get t k hlt]
            by_cases h : byteN t k = 32
            · left; simpa using h
            · right; exact ⟨by simpa using h, by simpa using hb.resolve_left h⟩
          have HB : Hid (TkInv t (k + 1) ts) := hV.out.blank hlt hb
          clear hb
          rcases hb' with hb | ⟨hb, hb2⟩
          · go_wp2_with fail
            refine ⟨⟨k + 1, ts, by go_num, by omega, by omega, hR.out, hX.out, hK.out, HB.out⟩, by simp [intOf]; omega⟩
          · go_wp2_with fail
            refine ⟨⟨k + 1, ts, by go_num, by omega, by omega, hR.out, hX.out, hK.out, HB.out⟩, by simp [intOf]; omega⟩
        · have hb1 : ((t[k].toNat : Int) == 32) = false := by rw [byteN_get t k hlt]; simp; intro h; exact hb (.inl h)
          have hb2 : ((t[k].toNat : Int) == 10) = false := by rw [byteN_get t k hlt]; simp; intro h; exact hb (.inr h)
          have hO := l11One_ok wr t k hlt ht
          clear hb
          have htl2 : ts.length ≤ 1048576 := by omega
          go_wp2_with (first
            | (have g := ky; at_builtin; refine wpList_append_lies _ rfl _ _ 103 rfl w.heap.size 107 i0 _ 4 40 Tryz.underlying103 hi hz0 hz1 hz2 rfl (by omega) (.slice ga gn gc) ts.length (toksC ts) rfl (World.ownsRow.kept hR.out ky.grown (Classical.em _)) ⟨w1.heap.size + 1, 0, none⟩ 1 1 (Tok.cs ⟨k1, s1, n1, p1⟩) rfl rfl hnw (by simp [Tok.cs, Value.oneCell']) (by omega) (by unfold maxLen; omega) (by omega) (by have := (hK.out.trans ky).size; omega) (w1.heap.size + 1 + 1) (by simp) ?_; intro gg cg w5 hown1 hgrow hat hlt5)
            | (go_at_call 97; refine hO.mono ?_; rintro e w1 ⟨v1, rfl, ⟨k1, s1, n1, p1, to1, ok1, rfl, hok, hm1, hm2⟩, hk1⟩; have HM1 : Hid _ := hm1; have HM2 : Hid _ := hm2; clear hm1 hm2; have ky := (Kept.alloc hk1 (.cells #[.int .i64 k1, .string s1, .int .i64 n1, .int .i64 p1] 107)).alloc (.cells #[.int .i64 k1, .string s1, .int .i64 n1, .int .i64 p1] 107); have hnw := news_of (w1.alloc (.cells #[.int .i64 k1, .string s1, .int .i64 n1, .int .i64 p1] 107)) 107 #[.int .i64 k1, .string s1, .int .i64 n1, .int .i64 p1]; simp only [World.size_alloc] at hnw))
          · rename_i hok1
            have OKF : nmB t = false := hV.out.bad hlt (k1 := k1) (by have h := HM2.out; simp at hok1; rw [hok1] at h; exact h)
            exact bodyPost_ret (v := .tuple #[.slice (some ⟨w1.heap.size + 1, 0, none⟩) 0 0, .int .i64 (k : Nat)]) (by simp [results, Tryz.results78, go_sem]) rfl ⟨_, _, rfl, ⟨_, _, _, rfl⟩, .inl ⟨by omega, by omega, OKF⟩, Kept.alloc (Kept.alloc (hK.out.trans hk1) _) _⟩
          · rename_i hok1
            obtain ⟨h1, h2, rfl, h3, h4, h5⟩ := hok (by simpa using hok1)
            have HST : Hid (TkInv t to1 (ts ++ [⟨k1, s1, n1, (k : Nat)⟩])) := hV.out.step hlt h3 h4 (HM1.out (by simpa using hok1)) (fun a b => (HM2.out a b).2)
            refine ⟨⟨to1, ts ++ [⟨k1, s1, n1, (k : Nat)⟩], rfl, h4, by simp; omega, ?_, ?_, ?_, HST⟩, by simp [intOf]; omega⟩
            · rw [Hid, TokRow, List.length_append, toksC, List.flatMap_append]
              simpa [toksC] using hown1
            · intro x hx
              rw [List.mem_append, List.mem_singleton] at hx
              rcases hx with hx | rfl
              · exact hX.out x hx
              · exact ⟨by simp; omega, h2, by simp, by simp; omega, h5⟩
            · refine Below.grown (hK.out.trans ky) hgrow (hK.out.trans ky).size (fun j ej => ?_)
              exact hR.out.block_ge j ej
      · have q2 : ¬ (k : Int) < (t.size : Int) := by omega
        obtain rfl : k = t.size := by omega
        have ky : Kept wr (wr.alloc (.cells #[.int .i64 0, .string ⟨#[]⟩, .int .i64 0, .int .i64 (t.size : Nat)] 107)) := Kept.alloc (Below.refl _ _) _
        have hnw := news_of wr 107 #[.int .i64 0, .string ⟨#[]⟩, .int .i64 0, .int .i64 (t.size : Nat)]
        go_wp2_with (at_builtin; refine wpList_append_lies _ rfl _ _ 103 rfl w.heap.size 107 i0 _ 4 40 Tryz.underlying103 hi hz0 hz1 hz2 rfl (by omega) (.slice ga gn gc) ts.length (toksC ts) rfl (World.ownsRow.kept hR.out ky.grown (Classical.em _)) ⟨wr.heap.size, 0, none⟩ 1 1 (Tok.cs ⟨0, ⟨#[]⟩, 0, (t.size : Nat)⟩) rfl rfl hnw (by simp [Tok.cs, Value.oneCell']) (by omega) (by unfold maxLen; omega) (by omega) (by have := (hK.out.trans ky).size; omega) (wr.heap.size + 1) (by simp) ?_; intro gg cg w5 hown1 hgrow hat hlt5)
        refine bodyPost_ret (v := .tuple #[.slice (some ⟨gg, 0, none⟩) (ts.length + 1) cg, .int .i64 (-1)]) (by simp [results, Tryz.results78, go_sem]) rfl ⟨_, _, rfl, ⟨_, _, _, rfl⟩, .inr ⟨rfl, ts, (t.size : Nat), ?_, by omega, hX.out, by omega, by omega, hV.out⟩, ?_⟩
        · rw [TokRow, List.length_append, toksC, List.flatMap_append]
          simpa [toksC] using hown1
        · refine Below.grown (hK.out.trans ky) hgrow (hK.out.trans ky).size (fun j ej => ?_)
          exact hR.out.block_ge j ej
theorem Tokens_ok (w : World) (t : ByteArray) (ht : t.size ≤ 1048576) :
    Calls Tryz.prog 78 #[.string t] w fun e w' => ∃ v p, e = .returned (.tuple #[v, .int .i64 p]) ∧ ((0 ≤ p ∧ p ≤ 1048576) ∨ (p = -1 ∧ ∃ ts a, TokRow w' w.heap.size v (ts ++ [⟨0, ⟨#[]⟩, 0, a⟩]) ∧ ts.length ≤ 800 ∧ (∀ x ∈ ts, x.ok) ∧ 0 ≤ a ∧ a ≤ 1048576)) ∧ Kept w w' := by
  refine (Tokens_nm w t ht).mono ?_
  rintro e w' ⟨v, p, rfl, _, ⟨h1, h2, _⟩ | ⟨h, ts, a, h1, h2, h3, h4, h5, _⟩, hk⟩
  · exact ⟨v, p, rfl, .inl ⟨h1, h2⟩, hk⟩
  · exact ⟨v, p, rfl, .inr ⟨h, ts, a, h1, h2, h3, h4, h5⟩, hk⟩
theorem TokRow.first {W : World} {base : Nat} {v : Value} {x : Tok} {r : List Tok} (h : TokRow W base v (x :: r)) : ∃ g cap, v = .slice (some ⟨g, 0, none⟩) (r.length + 1) cap ∧ W.cell? ⟨g, 0, none⟩ = some (.int .i64 x.k) ∧ W.cell? ⟨g, 1, none⟩ = some (.string x.s) ∧ W.cell? ⟨g, 2, none⟩ = some (.int .i64 x.n) ∧ W.cell? ⟨g, 3, none⟩ = some (.int .i64 x.a) := by
  obtain ⟨hl, ⟨rfl, e⟩ | ⟨g, cap, cur, rfl, hb, hg, h1, h2, h3, h4⟩⟩ := h
  · simp at e
  refine ⟨g, cap, by simp, ?_⟩
  have lk : ∀ j, j < 4 → cur[j]? = (toksC (x :: r))[j]? := fun j hj => by rw [← h4, List.getElem?_take, if_pos (by simp; omega)]; simp
  have z : Cells W g 107 cur := hg
  refine ⟨?_, ?_, ?_, ?_⟩
  · rw [z.cell 0, lk 0 (by omega)]; rfl
  · rw [z.cell 1, lk 1 (by omega)]; rfl
  · rw [z.cell 2, lk 2 (by omega)]; rfl
  · rw [z.cell 3, lk 3 (by omega)]; rfl
end Go.Proofs.YtejpjbfmjmfnmaaGreatDoor
