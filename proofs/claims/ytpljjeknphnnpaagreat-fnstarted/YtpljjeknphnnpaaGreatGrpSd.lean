/-
  A marking in memory (chapter 8's program): the contracts of put and shade.
  The contract of shade (chapter 8's program): the blocks to which values lead, and which were not met, are grey.
  Grey places in a row of one's own that is seen from an offset on (chapter 8's program): the contracts of put, take, empty.
  The contract of shade (chapter 8's program) where the grey places are seen from an offset on.
-/
import Derived.Maps.AppendAt
import Derived.Deep.RegionHeld3
import Derived.Test.YtpljjeknphnnpaaGreatGrpCo
import Derived.Test.YtpljjeknphnnpaaGreatGrpMa
import Derived.Test.YtpljjeknphnnpaaGreatGrpSQ
import Derived.Test.YtpljjeknphnnpaaGreatAppB
namespace Go.Proofs.YtpljjeknphnnpaaGreat
open Go.RowKit

/-- All that lay lies as it lay, but for two blocks. -/
structure But2 (B : Nat) (g : Option Nat) (w w' : World) : Prop where
  os : w'.os = w.os
  tape : w'.tape = w.tape
  output : w'.output = w.output
  size : w.heap.size ≤ w'.heap.size
  block : ∀ k, k < w.heap.size → k ≠ B → g ≠ some k → w'.heap[k]? = w.heap[k]?
theorem But2.refl (B : Nat) (g : Option Nat) (w : World) : But2 B g w w := ⟨rfl, rfl, rfl, Nat.le_refl _, fun _ _ _ _ => rfl⟩
theorem But2.of {B : Nat} {g : Option Nat} {w w' : World} (h : Kept w w') : But2 B g w w' := ⟨h.os, h.tape, h.output, h.size, fun k hk _ _ => h.block k hk⟩
theorem But2.trans {B : Nat} {g g' : Option Nat} {a b c : World} (h : But2 B g a b) (k : But2 B g' b c) (hg : ∀ j, g' = some j → g = some j ∨ a.heap.size ≤ j) : But2 B g a c :=
  ⟨k.os.trans h.os, k.tape.trans h.tape, k.output.trans h.output, Nat.le_trans h.size k.size, fun j hj h1 h2 => (k.block j (Nat.lt_of_lt_of_le hj h.size) h1 (fun e => by rcases hg j e with h3 | h3; exact h2 h3; omega)).trans (h.block j hj h1 h2)⟩
theorem But2.set {B : Nat} {g : Option Nat} {a b : World} (h : But2 B g a b) (j : Nat) (v : Value) : But2 B g a (b.setCell ⟨B, j, none⟩ v) :=
  ⟨h.os, h.tape, h.output, by simpa using h.size, fun k hk h1 h2 => (Below.heap_setCell _ _ _ _ (by exact h1)).trans (h.block k hk h1 h2)⟩
theorem But2.below {B base : Nat} {g : Option Nat} {a b : World} (h : But2 B g a b) (hB : base ≤ B) (hg : ∀ j, g = some j → base ≤ j) (hs : base ≤ a.heap.size) : Below base a b :=
  ⟨h.os, h.tape, h.output, h.size, fun k hk => h.block k (by omega) (by omega) (fun e => by have := hg k e; omega)⟩
theorem Ints.but {W W' : World} {ao : Option Addr} {l : List Int} {B : Nat} {g : Option Nat} (h : Ints W ao l) (hk : But2 B g W W') (hne : l ≠ [] → ∀ a, ao = some a → a.block ≠ B ∧ g ≠ some a.block) : Ints W' ao l := by
  refine ⟨h.1, ?_⟩
  rcases h.2 with h | ⟨b, off, e, hc⟩
  · exact .inl h
  · refine .inr ⟨b, off, e, fun j hj => ?_⟩
    have hn : l ≠ [] := List.ne_nil_of_length_pos (by omega)
    have hb : W'.heap[b]? = W.heap[b]? := hk.block b (World.block_lt_of_cell? _ _ (hc j hj)) (hne hn _ e).1 (hne hn _ e).2
    have := hc j hj
    simp only [World.cell?] at this ⊢
    rw [hb]
    exact this
theorem cell_same {w w5 : World} {B o : Nat} (h : w5.heap[B]? = w.heap[B]?) : w5.cell? ⟨B, o, none⟩ = w.cell? ⟨B, o, none⟩ := by simp [World.cell?, h]
theorem frozen_same {w w5 : World} {B o : Nat} (h : w5.heap[B]? = w.heap[B]?) : w5.frozen? ⟨B, o, none⟩ = w.frozen? ⟨B, o, none⟩ := by simp [World.frozen?, h]
theorem own_slice {w : World} {base : Nat} {e : TypeId} {v : Value} {n : Nat} {xs : List Value} (h : w.ownsRow base e 1 v n xs) : ∃ so sc, v = .slice so n sc := by
  rcases h.2 with ⟨rfl, rfl⟩ | ⟨g, cap, cur, rfl, _⟩
  · exact ⟨none, 0, rfl⟩
  · exact ⟨_, _, rfl⟩
set_option maxHeartbeats 4000000 in
set_option maxRecDepth 100000 in
theorem qput_ok (w : World) (B o base : Nat) (v : Value) (l : List Int) (x : Int) (hc : w.cell? ⟨B, o, none⟩ = some v) (hf : w.frozen? ⟨B, o, none⟩ = false) (hO : OwnL w base v l) (hl : l.length ≤ 1048576) (hbase : base ≤ w.heap.size) (hx : -9223372036854775808 ≤ x ∧ x ≤ 9223372036854775807) (hB : ∀ j, v.ownBlock = some j → j ≠ B) :
    Calls Tryz.prog 69 #[.pointer (some ⟨B, o, none⟩), .int .i64 x] w fun e w' => e = .returned (.tuple #[]) ∧ ∃ v' w5, w' = w5.setCell ⟨B, o, none⟩ v' ∧ OwnL w' base v' (l ++ [x]) ∧ But2 B v.ownBlock w w5 ∧ w5.heap[B]? = w.heap[B]? ∧ (∀ j, v'.ownBlock = some j → j ≠ B ∧ (v.ownBlock = some j ∨ w.heap.size ≤ j)) := by
  obtain ⟨i0, hi, hz0, hz1, hz2⟩ := info_parts infoI
  have hBl : B < w.heap.size := World.block_lt_of_cell? _ _ hc
  have hrow := hO.2
  obtain ⟨so, sc, rfl, _⟩ := hO.ints
  have hrow2 := hrow.alloc (.cells #[.int .i64 x] 3)
  have HBD : Hid (∀ z ∈ l ++ [x], -9223372036854775808 ≤ z ∧ z ≤ 9223372036854775807) := fun z hz' => by
    rcases List.mem_append.1 hz' with h | h
    · exact hO.1 z h
    · simp at h; subst h; exact hx
  obtain ⟨xs, hxs⟩ : ∃ xs, l.map (Value.int .i64) = xs := ⟨_, rfl⟩
  obtain ⟨n, hn⟩ : ∃ n, l.length = n := ⟨_, rfl⟩
  have HX : Hid _ := hxs
  have HN : Hid _ := hn
  rw [hn] at hl hB hc
  rw [hn, hxs] at hrow hrow2
  rw [hn]
  clear hO hxs hn
  have ka : Kept w (w.alloc (.cells #[.int .i64 x] 3)) := Kept.alloc (Below.refl _ _) _
  have hBa : ∀ j, (Value.slice so n sc).ownBlock = some j → j < w.heap.size := fun j hj => (hrow.lt j hj).2
  go_enter Tryz.func69, Tryz.ntmps69
  go_wp2_with (at_builtin; go_loud (refine wpList_append_own_at _ rfl _ _ 53 rfl base 3 i0 (.int .i64 0) 1 8 Tryz.underlying53 hi hz0 hz1 hz2 rfl (by decide) _ _ _ rfl hrow2 ⟨w.heap.size, 0, none⟩ 1 1 [.int .i64 x] rfl rfl (cell_one_new _ _ _) (by simp [Value.oneCell']) (by unfold maxLen; omega) (by omega) (by simp; omega) ?_); intro v' w5 hown' hgrow _ hat; obtain ⟨so', sc', rfl⟩ := own_slice hown'; have hb5 : w5.heap[B]? = w.heap[B]? := (hgrow.block B (by simp; omega) (fun e => hB B e.symm rfl)).trans (ka.block B hBl); have c5 := (cell_same (o := o) hb5).trans hc; have f5 := (frozen_same (o := o) hb5).trans hf)
  go_end0
  have hlv : ∀ j, (Value.slice so' (n + 1) sc').ownBlock = some j → j ≠ B ∧ ((Value.slice so n sc).ownBlock = some j ∨ w.heap.size ≤ j) := fun j hj => by
    rcases hat with h | h
    · have hj' : (Value.slice so n sc).ownBlock = some j := h.symm.trans hj
      exact ⟨hB j hj', .inl hj'⟩
    · have : some j = some (w.heap.size + 1) := hj.symm.trans (h.trans (by simp))
      injection this with this
      exact ⟨by omega, .inr (by omega)⟩
  refine ⟨rfl, _, w5, rfl, ?_, ⟨hgrow.os, hgrow.tape, hgrow.output, ?_, fun k hk h1 h2 => ?_⟩, hb5, hlv⟩
  · have e : n + 1 = (l ++ [x]).length := by rw [List.length_append, HN.out]; rfl
    have hO5 : OwnL w5 base (.slice so' (n + 1) sc') (l ++ [x]) := by
      refine ⟨HBD.out, ?_⟩
      rw [← HX.out] at hown'
      rw [← e, List.map_append]
      exact hown'
    refine OwnL.kept (row := some B) hO5 ⟨rfl, rfl, rfl, by simp, fun k _ hk => Below.heap_setCell _ _ _ _ (fun e => hk (by rw [e]))⟩ (fun k e j hj => by cases e; exact (hlv j hj).1)
  · have := hgrow.size; simp at this; omega
  · exact (hgrow.block k (by simp; omega) (fun e => h2 e.symm)).trans (ka.block k hk)
end Go.Proofs.YtpljjeknphnnpaaGreat
namespace Go.Proofs.YtpljjeknphnnpaaGreat
open Go.RowKit

/-- A marking that lies in block B: the slab's words, its layout, the colours, and the grey places of its own. -/
structure MkgS (W : World) (B base : Nat) (ao lo : Option Addr) (cap lc : Nat) (zs gs bs : List Int) (gv : Value) : Prop where
  c : Cells W B 55 (mkC (.slice ao zs.length cap) (.slice lo zs.length lc) (colL gs bs) gv)
  g : OwnL W base gv gs
  ly : Ints W lo (lyt zs)
  ws : Ints W ao zs
  lb : zs ≠ [] → ∀ a, lo = some a → a.block < base
  wb : zs ≠ [] → ∀ a, ao = some a → a.block < base
  bB : base ≤ B
  gB : ∀ j, gv.ownBlock = some j → j ≠ B
theorem MkgS.size {W : World} {B base : Nat} {ao lo : Option Addr} {cap lc : Nat} {zs gs bs : List Int} {gv : Value} (h : MkgS W B base ao lo cap lc zs gs bs gv) : base ≤ W.heap.size := by
  have := h.c.lt; have := h.bB; omega
theorem lyt_ne {zs : List Int} (h : lyt zs ≠ []) : zs ≠ [] := fun e => h (by subst e; rfl)
theorem MkgS.kept {W W' : World} {B base : Nat} {ao lo : Option Addr} {cap lc : Nat} {zs gs bs : List Int} {gv : Value} (h : MkgS W B base ao lo cap lc zs gs bs gv) (k : Kept W W') : MkgS W' B base ao lo cap lc zs gs bs gv :=
  ⟨h.c.kept k, OwnL.kept (row := none) h.g k.grown (fun k e => by cases e), h.ly.kept k, h.ws.kept k, h.lb, h.wb, h.bB, h.gB⟩
/-- One place more is met. -/
theorem MkgS.meet {W : World} {B base n : Nat} {ao lo : Option Addr} {cap lc : Nat} {zs gs bs : List Int} {gv : Value} (h : MkgS W B base ao lo cap lc zs gs bs gv) (hn : n < 2000) (hb : (n : Int) ∉ bs) :
    Cells (W.setCell ⟨B, 2 + n, none⟩ (.int .u8 1)) B 55 (mkC (.slice ao zs.length cap) (.slice lo zs.length lc) (colL (gs ++ [(n : Int)]) bs) gv) := by
  have h1 := h.c.set (2 + n) (.int .u8 1)
  rw [mkC_set 1 (by rw [colL_len]; exact hn), col_grey hn hb] at h1
  exact h1
def shdL (bs gs vs : List Int) : List Int := vs.foldl (fun g v => shadeL 1 g bs v) gs
theorem shdL_snoc (bs gs vs : List Int) (v : Int) : shdL bs gs (vs ++ [v]) = shadeL 1 (shdL bs gs vs) bs v := by simp [shdL]
def LeadsW (zs vs : List Int) : Prop := ∀ v ∈ vs, leadV zs v = decide (4 ≤ v % 8)
theorem shade_new {zs gs bs : List Int} {v : Int} (h : newV zs gs bs v = true) : ∃ n : Nat, v / 8 = n ∧ n < zs.length ∧ 1 ≤ kindAt zs (n : Int) ∧ (n : Int) ∉ gs ∧ (n : Int) ∉ bs ∧ shadeL 1 gs bs v = gs ++ [(n : Int)] := by
  unfold newV at h
  simp only [Bool.and_eq_true, Bool.not_eq_true', decide_eq_false_iff_not] at h
  obtain ⟨⟨h1, h2⟩, h3⟩ := h
  obtain ⟨h4, hk⟩ := lead_kind h1
  obtain ⟨n, hn, hnl, _⟩ := kind_nat hk
  rw [hn] at h2 h3 hk
  refine ⟨n, hn, hnl, hk, h2, h3, ?_⟩
  have hb : blkV v = n := by unfold blkV; rw [if_neg (by omega), hn]
  unfold shadeL
  rw [hb, if_pos ⟨rfl, by omega, h2, h3⟩]
theorem shade_old {zs gs bs : List Int} {v : Int} (h : newV zs gs bs v = false) (hl : leadV zs v = decide (4 ≤ v % 8)) : shadeL 1 gs bs v = gs := by
  unfold shadeL
  refine if_neg ?_
  rintro ⟨_, h0, h2, h3⟩
  unfold newV at h
  rw [hl] at h
  unfold blkV at h0 h2 h3
  by_cases h4 : v % 8 < 4
  · rw [if_pos h4] at h0; omega
  · rw [if_neg h4] at h2 h3
    simp [h2, h3] at h
    omega
theorem shade_met {zs gs bs : List Int} {v : Int} (hM : Met zs gs) (hl : leadV zs v = decide (4 ≤ v % 8)) : Met zs (shadeL 1 gs bs v) := by
  cases h : newV zs gs bs v with
  | false => rw [shade_old h hl]; exact hM
  | true =>
    obtain ⟨n, _, _, hk, h2, _, e⟩ := shade_new h
    rw [e]
    refine ⟨List.nodup_append.2 ⟨hM.1, by simp, fun a ha b hb e => by simp at hb; subst hb; subst e; exact h2 ha⟩, fun a ha => ?_⟩
    rcases List.mem_append.1 ha with h | h
    · exact hM.2 a h
    · simp at h; subst h; exact hk
theorem shades_met {zs bs : List Int} : ∀ {vs gs : List Int}, Met zs gs → LeadsW zs vs → Met zs (shdL bs gs vs)
  | [], _, h, _ => h
  | v :: vs, gs, h, hl => shades_met (vs := vs) (shade_met h (hl v (by simp))) (fun x hx => hl x (List.mem_cons_of_mem _ hx))
set_option maxHeartbeats 8000000 in
set_option maxRecDepth 100000 in
theorem shade_ok (w : World) (B base : Nat) (ao lo vo : Option Addr) (cap lc vc : Nat) (zs gs bs vs : List Int) (gv : Value) (h : MkgS w B base ao lo cap lc zs gs bs gv) (hok : slabOk zs = true) (hM : Met zs gs) (hV : Ints w vo vs) (hvl : vs.length ≤ 1048576) (hvn : vs ≠ [] → ∀ a, vo = some a → a.block ≠ B ∧ gv.ownBlock ≠ some a.block) (hL : LeadsW zs vs) :
    Calls Tryz.prog 33 #[.pointer (some ⟨B, 0, none⟩), .slice vo vs.length vc] w fun e w' => e = .returned (.tuple #[]) ∧ ∃ gv', MkgS w' B base ao lo cap lc zs (shdL bs gs vs) bs gv' ∧ But2 B gv.ownBlock w w' ∧ (∀ j, gv'.ownBlock = some j → gv.ownBlock = some j ∨ w.heap.size ≤ j) := by
  have hzl := (slabOk_iff.1 hok).1
  have H : Hid _ := h
  have HO : Hid _ := hok
  have HM : Hid _ := hM
  have HV : Hid _ := hV
  have HN : Hid _ := hvn
  have HL : Hid _ := hL
  have hbz := h.size
  clear h hok hM hV hvn hL
  go_enter Tryz.func33, Tryz.ntmps33
  go_wp2_with fail
  go_loopw [10] (fun i wr => ∃ (k : Nat) (gv' : Value), i = .int .i64 k ∧ k ≤ vs.length ∧ MkgS wr B base ao lo cap lc zs (shdL bs gs (vs.take k)) bs gv' ∧ But2 B gv.ownBlock w wr ∧ (∀ j, gv'.ownBlock = some j → gv.ownBlock = some j ∨ w.heap.size ≤ j)) (fun i _ => vs.length - (intOf i).toNat)
  case atStart => exact ⟨0, gv, rfl, Nat.zero_le _, H.out, But2.refl _ _ _, fun j hj => .inl hj⟩
  case round =>
    obtain ⟨k, gv', rfl, hk, hS, hB2, hG⟩ := hrel
    by_cases hlt : k < vs.length
    · have hVr : Ints wr vo vs := Ints.but HV.out hB2 HN.out
      have hMk : Met zs (shdL bs gs (vs.take k)) := shades_met HM.out (fun v hv => HL.out v (List.mem_of_mem_take hv))
      have hml := hMk.len
      have HT : Hid (shdL bs gs (vs.take (k + 1)) = shadeL 1 (shdL bs gs (vs.take k)) bs (hz vs k)) := by rw [Hid, take_hz hlt, shdL_snoc]
      have hLv := HL.out _ (hz_mem hlt)
      have hvb := HV.out.1 _ (hz_mem hlt)
      obtain ⟨b5, o5, e5, hc5⟩ := Ints.at hVr hlt
      have c5 := hc5 k hlt
      obtain ⟨g, hg⟩ : ∃ g, shdL bs gs (vs.take k) = g := ⟨_, rfl⟩
      obtain ⟨v, hv⟩ : ∃ v, hz vs k = v := ⟨_, rfl⟩
      rw [hg] at hS hml HT hMk
      rw [hv] at c5 HT hLv hvb
      have kd : Kept wr wr.drew := (Below.refl _ wr).drew
      have hSd := hS.kept kd
      have cl := hSd.c.cell 1
      rw [mkC_1] at cl
      have HSd : Hid _ := hSd
      have HB2 : Hid _ := hB2
      have HGr : Hid _ := hG
      have HLv : Hid _ := hLv
      have q1 : (k : Int) < (vs.length : Int) := by omega
      have q0 : (0 : Int) ≤ (k : Int) := by omega
      subst e5
      clear hc5 hVr hg hv hS hB2 hG hMk hLv hSd
      cases hnew : newV zs g bs v with
      | true =>
        obtain ⟨n, hn, hnl, hkn, hng, hnb, es⟩ := shade_new hnew
        have hn2 : n < 2000 := by omega
        have hcn := (HSd.out).c.cell (2 + n)
        rw [mkC_col (by rw [colL_len]; exact hn2)] at hcn
        have hMt := colMeet_yes wr.drew B 2 lo lc n zs g bs v hn hn2 hcn ((HSd.out).c.frozen _) (HSd.out).ly hvb.1 hvb.2 hnew
        have HE : Hid _ := es
        have HNB : Hid _ := hnb
        clear hnew hn hng hnb es hkn hcn
        go_wp2_with fail
        have cE := (HSd.out).meet hn2 HNB.out
        obtain ⟨W1, hW1⟩ : ∃ W1, wr.drew.setCell ⟨B, 2 + n, none⟩ (.int .u8 1) = W1 := ⟨_, rfl⟩
        rw [hW1] at cE hMt
        have cl2 := cE.cell 1
        rw [mkC_1] at cl2
        have cg := cE.cell 2002
        rw [mkC_g (by rw [colL_len])] at cg
        have hOg : OwnL W1 base gv' g := by
          rw [← hW1]
          exact OwnL.kept (row := some B) (HSd.out).g ⟨rfl, rfl, rfl, by simp, fun k _ hk => Below.heap_setCell _ _ _ _ (fun e => hk (by rw [e]))⟩ (fun k e j hj => by cases e; exact (HSd.out).gB j hj)
        have b1 : But2 B gv'.ownBlock wr W1 := by rw [← hW1]; exact (But2.of kd).set _ _
        have hs1 : W1.heap.size = wr.heap.size := by rw [← hW1]; simp
        have hgs1 := (HSd.out).size
        have hPut := qput_ok W1 B 2002 base gv' g (n : Int) cg (cE.frozen _) hOg (by omega) (by simp at hgs1; omega) (by omega) (HSd.out).gB
        have HcE : Hid _ := cE
        have Hb1 : Hid _ := b1
        have Hs1 : Hid _ := hs1
        have HW1 : Hid _ := hW1
        clear cE b1 hs1 hW1 hOg cg hgs1
        go_region_held3 (fun u => u.cell? ⟨B, 1, none⟩ = some (.slice lo zs.length lc))
          (first | assumption | go_keep)
          ((go_at_call 68; refine hMt.mono ?_; rintro e w1 ⟨rfl, rfl⟩))
        all_goals (
          go_wp2_with fail
          refine hPut.mono ?_
          rintro e w2 ⟨rfl, gv2, w5, rfl, hO2, hB5, hb5, hg2⟩
          go_wp2_with fail
          go_roundw
          case rel =>
            refine ⟨k + 1, gv2, by go_num, by omega, ?_, ?_, ?_⟩
            · rw [HT.out, HE.out]
              have hc2 : Cells (w5.setCell ⟨B, 2002, none⟩ gv2) B 55 (mkC (.slice ao zs.length cap) (.slice lo zs.length lc) (colL (g ++ [(n : Int)]) bs) gv2) := by
                have h5 : Cells w5 B 55 _ := hb5.trans HcE.out
                have h6 := h5.set 2002 gv2
                rw [mkC_setg (by rw [colL_len])] at h6
                exact h6
              have bb : But2 B gv'.ownBlock wr (w5.setCell ⟨B, 2002, none⟩ gv2) := (Hb1.out.trans hB5 (fun j hj => .inl hj)).set _ _
              have hd := HSd.out
              have hgl : ∀ j, gv'.ownBlock = some j → base ≤ j := fun j hj => (hd.g.2.lt j hj).1
              have bd : But2 B gv'.ownBlock wr.drew (w5.setCell ⟨B, 2002, none⟩ gv2) := ⟨bb.os, bb.tape, bb.output, bb.size, bb.block⟩
              have hbe : ∀ {a : Addr}, a.block < base → a.block ≠ B ∧ gv'.ownBlock ≠ some a.block := fun {a} ha => ⟨by have := hd.bB; omega, fun e => by have := hgl _ e; omega⟩
              exact ⟨hc2, hO2, hd.ly.but bd (fun hn a e => hbe (hd.lb (lyt_ne hn) a e)), hd.ws.but bd (fun hn a e => hbe (hd.wb hn a e)), hd.lb, hd.wb, hd.bB, fun j hj => (hg2 j hj).1⟩
            · exact HB2.out.trans ((Hb1.out.trans hB5 (fun j hj => .inl hj)).set _ _) HGr.out
            · intro j hj
              rcases (hg2 j hj).2 with h | h
              · exact HGr.out j h
              · have := HB2.out.size; have := Hs1.out; exact .inr (by omega)
          case measure => simp [intOf]; omega)
      | false =>
        have hMt := colMeet_no wr.drew B 2 lo lc zs g bs v (fun n hn => by have := (HSd.out).c.cell (2 + n); rw [mkC_col (by rw [colL_len]; exact hn)] at this; exact this) (HSd.out).ly HO.out hvb.1 hvb.2 hnew
        have HE : Hid _ := shade_old hnew HLv.out
        clear hnew
        go_wp2_with fail
        go_region_held3 (fun u => u.cell? ⟨B, 1, none⟩ = some (.slice lo zs.length lc))
          (first | assumption | go_keep)
          ((go_at_call 68; refine hMt.mono ?_; rintro e w1 ⟨rfl, rfl⟩))
        all_goals (
          go_wp2_with fail
          go_roundw
          case rel =>
            refine ⟨k + 1, gv', by go_num, by omega, ?_, ?_, HGr.out⟩
            · rw [HT.out, HE.out]; exact HSd.out
            · exact HB2.out.trans (But2.of (g := none) kd) (fun j hj => by cases hj)
          case measure => simp [intOf]; omega)
    · obtain rfl : k = vs.length := by omega
      rw [List.take_length] at hS
      have HS : Hid _ := hS
      have HB2 : Hid _ := hB2
      have HG : Hid _ := hG
      clear hS hB2 hG
      go_wp2_with fail
      go_end0
      exact ⟨rfl, gv', HS.out, HB2.out, HG.out⟩
end Go.Proofs.YtpljjeknphnnpaaGreat
namespace Go.Proofs.YtpljjeknphnnpaaGreat
open Go.RowKit

/-- A row of ints of one's own, seen from an offset on. -/
def OwnG (w : World) (base : Nat) (v : Value) (l : List Int) : Prop := (∀ z ∈ l, -9223372036854775808 ≤ z ∧ z ≤ 9223372036854775807) ∧ OwnAt w base 3 v (l.map (Value.int .i64))
theorem OwnG.of {w : World} {base : Nat} {v : Value} {l : List Int} (h : OwnL w base v l) : OwnG w base v l := ⟨h.1, OwnAt.of h.2⟩
theorem OwnG.kept {w w' : World} {base : Nat} {v : Value} {l : List Int} {row : Option Nat} (h : OwnG w base v l) (hg : w.grownBy w' row) (hne : ∀ k, row = some k → ∀ j, v.ownBlock = some j → j ≠ k) : OwnG w' base v l := ⟨h.1, h.2.kept hg (fun k hk e => hne k e k hk rfl)⟩
theorem OwnG.lt {w : World} {base : Nat} {v : Value} {l : List Int} (h : OwnG w base v l) : ∀ k, v.ownBlock = some k → base ≤ k ∧ k < w.heap.size := h.2.lt
theorem OwnG.ints {w : World} {base : Nat} {v : Value} {l : List Int} (h : OwnG w base v l) : ∃ so sc, v = .slice so l.length sc ∧ Ints w so l := by
  obtain ⟨hb, h⟩ := h
  rcases h with ⟨rfl, e⟩ | ⟨g, off, cap, cur, rfl, h1, h2, h3, h4, h5, ht⟩
  · rw [List.map_eq_nil_iff] at e; subst e
    exact ⟨none, 0, rfl, hb, .inl rfl⟩
  · refine ⟨some ⟨g, off, none⟩, cap, by rw [List.length_map], hb, .inr ⟨g, off, rfl, fun j hj => ?_⟩⟩
    have hc := OwnAt.cell (w := w) (base := base) (e := 3) (g := g) (off := off) (cap := cap) (xs := l.map (Value.int .i64)) (.inr ⟨g, off, cap, cur, rfl, h1, h2, h3, h4, h5, ht⟩) j (.int .i64 (hz l j)) (by rw [List.getElem?_map, List.getElem?_eq_getElem hj]; simp [hz, List.getElem?_eq_getElem hj])
    exact hc
theorem OwnG.slice {w : World} {base : Nat} {v : Value} {xs : List Value} (h : OwnAt w base 3 v xs) : ∃ so sc, v = .slice so xs.length sc := by
  rcases h with ⟨rfl, rfl⟩ | ⟨g, off, cap, cur, rfl, _⟩
  · exact ⟨none, 0, rfl⟩
  · exact ⟨_, _, rfl⟩
set_option maxHeartbeats 4000000 in
set_option maxRecDepth 100000 in
theorem qputG_ok (w : World) (B o base : Nat) (v : Value) (l : List Int) (x : Int) (hc : w.cell? ⟨B, o, none⟩ = some v) (hf : w.frozen? ⟨B, o, none⟩ = false) (hO : OwnG w base v l) (hl : l.length ≤ 1048576) (hbase : base ≤ w.heap.size) (hx : -9223372036854775808 ≤ x ∧ x ≤ 9223372036854775807) (hB : ∀ j, v.ownBlock = some j → j ≠ B) :
    Calls Tryz.prog 69 #[.pointer (some ⟨B, o, none⟩), .int .i64 x] w fun e w' => e = .returned (.tuple #[]) ∧ ∃ v' w5, w' = w5.setCell ⟨B, o, none⟩ v' ∧ OwnG w' base v' (l ++ [x]) ∧ But2 B v.ownBlock w w5 ∧ w5.heap[B]? = w.heap[B]? ∧ (∀ j, v'.ownBlock = some j → j ≠ B ∧ (v.ownBlock = some j ∨ w.heap.size ≤ j)) := by
  obtain ⟨i0, hi, hz0, hz1, hz2⟩ := info_parts infoI
  have hBl : B < w.heap.size := World.block_lt_of_cell? _ _ hc
  have hrow := hO.2
  have ka : Kept w (w.alloc (.cells #[.int .i64 x] 3)) := Kept.alloc (Below.refl _ _) _
  have hBa : ∀ j, v.ownBlock = some j → j < w.heap.size := fun j hj => (hrow.lt j hj).2
  have hrow2 : OwnAt (w.alloc (.cells #[.int .i64 x] 3)) base 3 v (l.map (Value.int .i64)) := hrow.kept (row := none) ka.grown (fun k _ e => by cases e)
  obtain ⟨so, sc, rfl, _⟩ := hO.ints
  have HBD : Hid (∀ z ∈ l ++ [x], -9223372036854775808 ≤ z ∧ z ≤ 9223372036854775807) := fun z hz' => by
    rcases List.mem_append.1 hz' with h | h
    · exact hO.1 z h
    · simp at h; subst h; exact hx
  have hxl : (l.map (Value.int .i64)).length = l.length := by simp
  obtain ⟨xs, hxs⟩ : ∃ xs, l.map (Value.int .i64) = xs := ⟨_, rfl⟩
  obtain ⟨n, hn⟩ : ∃ n, l.length = n := ⟨_, rfl⟩
  have HX : Hid _ := hxs
  have HN : Hid _ := hn
  rw [hn] at hl hB hc hBa hxl
  rw [hn, hxs] at hrow hrow2
  rw [hxs] at hxl
  rw [hn]
  have HXL : Hid _ := hxl
  clear hxl
  have hLs : Lies (w.alloc (.cells #[.int .i64 x] 3)) (.slice (some ⟨w.heap.size, 0, none⟩) 1 1) [.int .i64 x] := .inr ⟨⟨w.heap.size, 0, none⟩, 1, rfl, cell_one_new _ _ _⟩
  clear hO hxs hn
  go_enter Tryz.func69, Tryz.ntmps69
  go_wp2_with (at_builtin; go_loud (refine wpList_append_at2 rfl _ _ 53 rfl base 3 i0 (.int .i64 0) 8 Tryz.underlying53 hi hz0 hz1 hz2 rfl (.slice so n sc) xs rfl hrow2 (.slice (some ⟨w.heap.size, 0, none⟩) 1 1) [.int .i64 x] rfl hLs (by simp [Value.oneCell']) (by unfold maxLen; rw [HXL.out]; simp; omega) (by rw [HXL.out]; simp; omega) (by simp; omega) ?_); intro v' w5 hown' hgrow hat; obtain ⟨so', sc', hv'⟩ := OwnG.slice hown'; rw [List.length_append, List.length_singleton] at hv'; subst hv'; have hb5 : w5.heap[B]? = w.heap[B]? := (hgrow.block B (by simp; omega) (fun e => hB B e.symm rfl)).trans (ka.block B hBl); have c5 := (cell_same (o := o) hb5).trans hc; have f5 := (frozen_same (o := o) hb5).trans hf)
  go_end0
  have hlv : ∀ j, (Value.slice so' (xs.length + 1) sc').ownBlock = some j → j ≠ B ∧ ((Value.slice so n sc).ownBlock = some j ∨ w.heap.size ≤ j) := fun j hj => by
    rcases hat with h | h
    · have hj' : (Value.slice so n sc).ownBlock = some j := h.symm.trans hj
      exact ⟨hB j hj', .inl hj'⟩
    · have : some j = some (w.heap.size + 1) := hj.symm.trans (h.trans (by simp))
      injection this with this
      exact ⟨by omega, .inr (by omega)⟩
  refine ⟨rfl, _, w5, rfl, ?_, ⟨hgrow.os, hgrow.tape, hgrow.output, ?_, fun k hk h1 h2 => ?_⟩, hb5, hlv⟩
  · have hO5 : OwnG w5 base (.slice so' (xs.length + 1) sc') (l ++ [x]) := by
      refine ⟨HBD.out, ?_⟩
      rw [List.map_append, HX.out]
      exact hown'
    refine OwnG.kept (row := some B) hO5 ⟨rfl, rfl, rfl, by simp, fun k _ hk => Below.heap_setCell _ _ _ _ (fun e => hk (by rw [e]))⟩ (fun k e j hj => by cases e; exact (hlv j hj).1)
  · have := hgrow.size; simp at this; omega
  · exact (hgrow.block k (by simp; omega) (fun e => h2 e.symm)).trans (ka.block k hk)
set_option maxHeartbeats 4000000 in
set_option maxRecDepth 100000 in
theorem qtake_ok (w : World) (B o base : Nat) (v : Value) (x : Int) (l : List Int) (hc : w.cell? ⟨B, o, none⟩ = some v) (hf : w.frozen? ⟨B, o, none⟩ = false) (hO : OwnG w base v (x :: l)) (hl : l.length ≤ 1048576) (hB : ∀ j, v.ownBlock = some j → j ≠ B) :
    Calls Tryz.prog 82 #[.pointer (some ⟨B, o, none⟩)] w fun e w' => e = .returned (.int .i64 x) ∧ ∃ v', w' = w.setCell ⟨B, o, none⟩ v' ∧ OwnG w' base v' l ∧ v'.ownBlock = v.ownBlock := by
  obtain ⟨hb, hA⟩ := hO
  obtain ⟨g, off, cap, rfl, hcap, hO⟩ : ∃ g off cap, v = .slice (some ⟨g, off, none⟩) (l.length + 1) cap ∧ (l.length + 1 ≤ cap ∧ cap ≤ maxLen) ∧ OwnAt w base 3 (.slice (some ⟨g, off, none⟩) ((l.map (Value.int .i64)).length + 1) cap) (.int .i64 x :: l.map (Value.int .i64)) := by
    rcases hA with ⟨_, e⟩ | ⟨g, off, cap, cur, rfl, h1, h2, h3, h4, h5, ht⟩
    · cases e
    · simp only [List.map_cons, List.length_cons, List.length_map] at h3 ht
      exact ⟨g, off, cap, by simp, ⟨h3, h4⟩, .inr ⟨g, off, cap, cur, rfl, h1, h2, by simpa using h3, h4, h5, by simpa using ht⟩⟩
  have hc0 := OwnAt.cell (w := w) (base := base) (e := 3) (g := g) (off := off) (cap := cap) (xs := Value.int .i64 x :: l.map (Value.int .i64)) hO 0 (.int .i64 x) rfl
  rw [Nat.add_zero] at hc0
  have HO : Hid _ := hO
  have HBD : Hid _ := hb
  have HBB : Hid _ := hB
  obtain ⟨n, hn⟩ : ∃ n, l.length = n := ⟨_, rfl⟩
  have HN : Hid _ := hn
  rw [hn] at hc hcap hl
  rw [hn]
  obtain ⟨hc1, hc2⟩ := hcap
  have hq1 : (1 : Int) ≤ (n : Int) + 1 := by omega
  have hq2 : (n : Int) + 1 ≤ (cap : Int) := by omega
  have hq3 : (0 : Int) < (n : Int) + 1 := by omega
  clear hO hb hA hB hn
  have hgrown : ∀ v', w.grownBy (w.setCell ⟨B, o, none⟩ v') (some B) := fun v' => ⟨rfl, rfl, rfl, by simp, fun k _ hk => Below.heap_setCell _ _ _ _ (fun e => hk (by rw [show k = B from e]))⟩
  have HG : Hid _ := hgrown
  clear hgrown
  go_enter Tryz.func82, Tryz.ntmps82
  by_cases hcc : cap = 1
  · obtain rfl : n = 0 := by omega
    subst hcc
    go_wp2_with fail
    go_ret
    obtain rfl : l = [] := List.eq_nil_of_length_eq_zero HN.out
    exact ⟨rfl, _, rfl, OwnG.kept (row := some B) ⟨by simp, OwnAt.tail0 HO.out⟩ (HG.out _) (fun k e j hj => by cases e; exact HBB.out j hj), rfl⟩
  · have hq4 : (1 : Int) < (cap : Int) := by omega
    go_wp2_with fail
    go_ret
    have hT := OwnAt.tail HO.out
    rw [List.length_map, HN.out] at hT
    exact ⟨rfl, _, rfl, OwnG.kept (row := some B) ⟨fun z hz' => HBD.out z (List.mem_cons_of_mem _ hz'), hT⟩ (HG.out _) (fun k e j hj => by cases e; exact HBB.out j hj), rfl⟩
set_option maxHeartbeats 4000000 in
theorem qempty_ok (w : World) (so : Option Addr) (n sc : Nat) (hl : n ≤ 1048576) :
    Calls Tryz.prog 41 #[.slice so n sc] w fun e w' => e = .returned (.bool (decide (n = 0))) ∧ w = w' := by
  cases hd : decide (n = 0) with
  | true =>
    obtain rfl : n = 0 := of_decide_eq_true hd
    clear hd
    go_enter Tryz.func41, Tryz.ntmps41
    go_wp2_with fail
    go_ret
    exact ⟨rfl, rfl⟩
  | false =>
    have h0 : n ≠ 0 := of_decide_eq_false hd
    have hq : ((n : Int) == 0) = false := by simp; omega
    clear hd
    go_enter Tryz.func41, Tryz.ntmps41
    go_wp2_with fail
    go_ret
    exact ⟨rfl, rfl⟩
end Go.Proofs.YtpljjeknphnnpaaGreat
namespace Go.Proofs.YtpljjeknphnnpaaGreat
open Go.RowKit

/-- A marking that lies in block B: the slab's words, its layout, the colours, and the grey places of its own. -/
structure MkgG (W : World) (B base : Nat) (ao lo : Option Addr) (cap lc : Nat) (zs gs bs : List Int) (gv : Value) : Prop where
  c : Cells W B 55 (mkC (.slice ao zs.length cap) (.slice lo zs.length lc) (colL gs bs) gv)
  g : OwnG W base gv gs
  ly : Ints W lo (lyt zs)
  ws : Ints W ao zs
  lb : zs ≠ [] → ∀ a, lo = some a → a.block < base
  wb : zs ≠ [] → ∀ a, ao = some a → a.block < base
  bB : base ≤ B
  gB : ∀ j, gv.ownBlock = some j → j ≠ B
theorem MkgG.size {W : World} {B base : Nat} {ao lo : Option Addr} {cap lc : Nat} {zs gs bs : List Int} {gv : Value} (h : MkgG W B base ao lo cap lc zs gs bs gv) : base ≤ W.heap.size := by
  have := h.c.lt; have := h.bB; omega
theorem MkgG.kept {W W' : World} {B base : Nat} {ao lo : Option Addr} {cap lc : Nat} {zs gs bs : List Int} {gv : Value} (h : MkgG W B base ao lo cap lc zs gs bs gv) (k : Kept W W') : MkgG W' B base ao lo cap lc zs gs bs gv :=
  ⟨h.c.kept k, OwnG.kept (row := none) h.g k.grown (fun k e => by cases e), h.ly.kept k, h.ws.kept k, h.lb, h.wb, h.bB, h.gB⟩
/-- One place more is met. -/
theorem MkgG.meet {W : World} {B base n : Nat} {ao lo : Option Addr} {cap lc : Nat} {zs gs bs : List Int} {gv : Value} (h : MkgG W B base ao lo cap lc zs gs bs gv) (hn : n < 2000) (hb : (n : Int) ∉ bs) :
    Cells (W.setCell ⟨B, 2 + n, none⟩ (.int .u8 1)) B 55 (mkC (.slice ao zs.length cap) (.slice lo zs.length lc) (colL (gs ++ [(n : Int)]) bs) gv) := by
  have h1 := h.c.set (2 + n) (.int .u8 1)
  rw [mkC_set 1 (by rw [colL_len]; exact hn), col_grey hn hb] at h1
  exact h1
set_option maxHeartbeats 8000000 in
set_option maxRecDepth 100000 in
theorem shadeG_ok (w : World) (B base : Nat) (ao lo vo : Option Addr) (cap lc vc : Nat) (zs gs bs vs : List Int) (gv : Value) (h : MkgG w B base ao lo cap lc zs gs bs gv) (hok : slabOk zs = true) (hM : Met zs gs) (hV : Ints w vo vs) (hvl : vs.length ≤ 1048576) (hvn : vs ≠ [] → ∀ a, vo = some a → a.block ≠ B ∧ gv.ownBlock ≠ some a.block) (hL : LeadsW zs vs) :
    Calls Tryz.prog 33 #[.pointer (some ⟨B, 0, none⟩), .slice vo vs.length vc] w fun e w' => e = .returned (.tuple #[]) ∧ ∃ gv', MkgG w' B base ao lo cap lc zs (shdL bs gs vs) bs gv' ∧ But2 B gv.ownBlock w w' ∧ (∀ j, gv'.ownBlock = some j → gv.ownBlock = some j ∨ w.heap.size ≤ j) := by
  have hzl := (slabOk_iff.1 hok).1
  have H : Hid _ := h
  have HO : Hid _ := hok
  have HM : Hid _ := hM
  have HV : Hid _ := hV
  have HN : Hid _ := hvn
  have HL : Hid _ := hL
  have hbz := h.size
  clear h hok hM hV hvn hL
  go_enter Tryz.func33, Tryz.ntmps33
  go_wp2_with fail
  go_loopw [10] (fun i wr => ∃ (k : Nat) (gv' : Value), i = .int .i64 k ∧ k ≤ vs.length ∧ MkgG wr B base ao lo cap lc zs (shdL bs gs (vs.take k)) bs gv' ∧ But2 B gv.ownBlock w wr ∧ (∀ j, gv'.ownBlock = some j → gv.ownBlock = some j ∨ w.heap.size ≤ j)) (fun i _ => vs.length - (intOf i).toNat)
  case atStart => exact ⟨0, gv, rfl, Nat.zero_le _, H.out, But2.refl _ _ _, fun j hj => .inl hj⟩
  case round =>
    obtain ⟨k, gv', rfl, hk, hS, hB2, hG⟩ := hrel
    by_cases hlt : k < vs.length
    · have hVr : Ints wr vo vs := Ints.but HV.out hB2 HN.out
      have hMk : Met zs (shdL bs gs (vs.take k)) := shades_met HM.out (fun v hv => HL.out v (List.mem_of_mem_take hv))
      have hml := hMk.len
      have HT : Hid (shdL bs gs (vs.take (k + 1)) = shadeL 1 (shdL bs gs (vs.take k)) bs (hz vs k)) := by rw [Hid, take_hz hlt, shdL_snoc]
      have hLv := HL.out _ (hz_mem hlt)
      have hvb := HV.out.1 _ (hz_mem hlt)
      obtain ⟨b5, o5, e5, hc5⟩ := Ints.at hVr hlt
      have c5 := hc5 k hlt
      obtain ⟨g, hg⟩ : ∃ g, shdL bs gs (vs.take k) = g := ⟨_, rfl⟩
      obtain ⟨v, hv⟩ : ∃ v, hz vs k = v := ⟨_, rfl⟩
      rw [hg] at hS hml HT hMk
      rw [hv] at c5 HT hLv hvb
      have kd : Kept wr wr.drew := (Below.refl _ wr).drew
      have hSd := hS.kept kd
      have cl := hSd.c.cell 1
      rw [mkC_1] at cl
      have HSd : Hid _ := hSd
      have HB2 : Hid _ := hB2
      have HGr : Hid _ := hG
      have HLv : Hid _ := hLv
      have q1 : (k : Int) < (vs.length : Int) := by omega
      have q0 : (0 : Int) ≤ (k : Int) := by omega
      subst e5
      clear hc5 hVr hg hv hS hB2 hG hMk hLv hSd
      cases hnew : newV zs g bs v with
      | true =>
        obtain ⟨n, hn, hnl, hkn, hng, hnb, es⟩ := shade_new hnew
        have hn2 : n < 2000 := by omega
        have hcn := (HSd.out).c.cell (2 + n)
        rw [mkC_col (by rw [colL_len]; exact hn2)] at hcn
        have hMt := colMeet_yes wr.drew B 2 lo lc n zs g bs v hn hn2 hcn ((HSd.out).c.frozen _) (HSd.out).ly hvb.1 hvb.2 hnew
        have HE : Hid _ := es
        have HNB : Hid _ := hnb
        clear hnew hn hng hnb es hkn hcn
        go_wp2_with fail
        have cE := (HSd.out).meet hn2 HNB.out
        obtain ⟨W1, hW1⟩ : ∃ W1, wr.drew.setCell ⟨B, 2 + n, none⟩ (.int .u8 1) = W1 := ⟨_, rfl⟩
        rw [hW1] at cE hMt
        have cl2 := cE.cell 1
        rw [mkC_1] at cl2
        have cg := cE.cell 2002
        rw [mkC_g (by rw [colL_len])] at cg
        have hOg : OwnG W1 base gv' g := by
          rw [← hW1]
          exact OwnG.kept (row := some B) (HSd.out).g ⟨rfl, rfl, rfl, by simp, fun k _ hk => Below.heap_setCell _ _ _ _ (fun e => hk (by rw [e]))⟩ (fun k e j hj => by cases e; exact (HSd.out).gB j hj)
        have b1 : But2 B gv'.ownBlock wr W1 := by rw [← hW1]; exact (But2.of kd).set _ _
        have hs1 : W1.heap.size = wr.heap.size := by rw [← hW1]; simp
        have hgs1 := (HSd.out).size
        have hPut := qputG_ok W1 B 2002 base gv' g (n : Int) cg (cE.frozen _) hOg (by omega) (by simp at hgs1; omega) (by omega) (HSd.out).gB
        have HcE : Hid _ := cE
        have Hb1 : Hid _ := b1
        have Hs1 : Hid _ := hs1
        have HW1 : Hid _ := hW1
        clear cE b1 hs1 hW1 hOg cg hgs1
        go_region_held3 (fun u => u.cell? ⟨B, 1, none⟩ = some (.slice lo zs.length lc))
          (first | assumption | go_keep)
          ((go_at_call 68; refine hMt.mono ?_; rintro e w1 ⟨rfl, rfl⟩))
        all_goals (
          go_wp2_with fail
          refine hPut.mono ?_
          rintro e w2 ⟨rfl, gv2, w5, rfl, hO2, hB5, hb5, hg2⟩
          go_wp2_with fail
          go_roundw
          case rel =>
            refine ⟨k + 1, gv2, by go_num, by omega, ?_, ?_, ?_⟩
            · rw [HT.out, HE.out]
              have hc2 : Cells (w5.setCell ⟨B, 2002, none⟩ gv2) B 55 (mkC (.slice ao zs.length cap) (.slice lo zs.length lc) (colL (g ++ [(n : Int)]) bs) gv2) := by
                have h5 : Cells w5 B 55 _ := hb5.trans HcE.out
                have h6 := h5.set 2002 gv2
                rw [mkC_setg (by rw [colL_len])] at h6
                exact h6
              have bb : But2 B gv'.ownBlock wr (w5.setCell ⟨B, 2002, none⟩ gv2) := (Hb1.out.trans hB5 (fun j hj => .inl hj)).set _ _
              have hd := HSd.out
              have hgl : ∀ j, gv'.ownBlock = some j → base ≤ j := fun j hj => (hd.g.lt j hj).1
              have bd : But2 B gv'.ownBlock wr.drew (w5.setCell ⟨B, 2002, none⟩ gv2) := ⟨bb.os, bb.tape, bb.output, bb.size, bb.block⟩
              have hbe : ∀ {a : Addr}, a.block < base → a.block ≠ B ∧ gv'.ownBlock ≠ some a.block := fun {a} ha => ⟨by have := hd.bB; omega, fun e => by have := hgl _ e; omega⟩
              exact ⟨hc2, hO2, hd.ly.but bd (fun hn a e => hbe (hd.lb (lyt_ne hn) a e)), hd.ws.but bd (fun hn a e => hbe (hd.wb hn a e)), hd.lb, hd.wb, hd.bB, fun j hj => (hg2 j hj).1⟩
            · exact HB2.out.trans ((Hb1.out.trans hB5 (fun j hj => .inl hj)).set _ _) HGr.out
            · intro j hj
              rcases (hg2 j hj).2 with h | h
              · exact HGr.out j h
              · have := HB2.out.size; have := Hs1.out; exact .inr (by omega)
          case measure => simp [intOf]; omega)
      | false =>
        have hMt := colMeet_no wr.drew B 2 lo lc zs g bs v (fun n hn => by have := (HSd.out).c.cell (2 + n); rw [mkC_col (by rw [colL_len]; exact hn)] at this; exact this) (HSd.out).ly HO.out hvb.1 hvb.2 hnew
        have HE : Hid _ := shade_old hnew HLv.out
        clear hnew
        go_wp2_with fail
        go_region_held3 (fun u => u.cell? ⟨B, 1, none⟩ = some (.slice lo zs.length lc))
          (first | assumption | go_keep)
          ((go_at_call 68; refine hMt.mono ?_; rintro e w1 ⟨rfl, rfl⟩))
        all_goals (
          go_wp2_with fail
          go_roundw
          case rel =>
            refine ⟨k + 1, gv', by go_num, by omega, ?_, ?_, HGr.out⟩
            · rw [HT.out, HE.out]; exact HSd.out
            · exact HB2.out.trans (But2.of (g := none) kd) (fun j hj => by cases hj)
          case measure => simp [intOf]; omega)
    · obtain rfl : k = vs.length := by omega
      rw [List.take_length] at hS
      have HS : Hid _ := hS
      have HB2 : Hid _ := hB2
      have HG : Hid _ := hG
      clear hS hB2 hG
      go_wp2_with fail
      go_end0
      exact ⟨rfl, gv', HS.out, HB2.out, HG.out⟩
end Go.Proofs.YtpljjeknphnnpaaGreat
