/-
  To which block a value leads (chapter 8's program): the contract of meet.
  Arrays of colours that are held against one another; what is met by way of values (facts on lists).
  The contract of valuesAt at any place of a block of a right slab.
  The contract of closed (chapter 8's program): black blocks lead to such alone as were met.
-/
import Derived.Stop.BytesEq
import Derived.Deep.MidRow
import Derived.Test.YtgempjjnfpmndaaGreatDoorGrpCo
import Derived.Test.YtgempjjnfpmndaaGreatDoorZLdtA
import Derived.Test.YtgempjjnfpmndaaGreatDoorGrpKa
import Derived.Test.YtgempjjnfpmndaaGreatDoorAppA
import Derived.Test.YtgempjjnfpmndaaGreatDoorZShapeB
import Derived.Test.YtgempjjnfpmndaaGreatDoorGrpW
import Derived.Test.YtgempjjnfpmndaaGreatDoorGrpLs
namespace Go.Proofs.YtgempjjnfpmndaaGreatDoor
open Go.RowKit

/-- A value leads to a block that was not met. -/
def newV (zs gs bs : List Int) (v : Int) : Bool := leadV zs v && !decide (v / 8 ∈ gs) && !decide (v / 8 ∈ bs)
set_option maxHeartbeats 4000000 in
set_option maxRecDepth 100000 in
theorem colMeet_yes (w : World) (B o : Nat) (lo : Option Addr) (lc n : Nat) (zs gs bs : List Int) (v : Int) (hn : v / 8 = n) (hn2 : n < 2000) (hc : w.cell? ⟨B, o + n, none⟩ = some (.int .u8 (hz (colL gs bs) n))) (hf : w.frozen? ⟨B, o + n, none⟩ = false) (hI : Ints w lo (lyt zs)) (h0 : -9223372036854775808 ≤ v) (h1 : v ≤ 9223372036854775807) (hy : newV zs gs bs v = true) :
    Calls Tryz.prog 140 #[.pointer (some ⟨B, o, none⟩), .slice lo zs.length lc, .int .i64 v] w fun e w' => e = .returned (.tuple #[.int .i64 n, .bool true]) ∧ w' = w.setCell ⟨B, o + n, none⟩ (.int .u8 1) := by
  unfold newV at hy
  simp only [Bool.and_eq_true, Bool.not_eq_true', decide_eq_false_iff_not] at hy
  obtain ⟨⟨hy1, hy2⟩, hy3⟩ := hy
  have hw : hz (colL gs bs) n = 0 := (col_white hn2).2 ⟨by rw [← hn]; exact hy2, by rw [← hn]; exact hy3⟩
  rw [hw] at hc
  have hL := leadsTo_yes w lo lc zs v hI h0 h1 hy1
  rw [hn] at hL
  have p1 : (0 : Int) ≤ (n : Int) := by omega
  have p2 : (n : Int) < 2000 := by omega
  clear hy1 hy2 hy3 hw hI hn
  go_enter Tryz.func140, Tryz.ntmps140
  go_wp2_with fail
  refine hL.mono ?_
  rintro e w1 ⟨rfl, rfl⟩
  go_wp2_with fail
  go_ret2
  exact ⟨rfl, rfl⟩
set_option maxHeartbeats 4000000 in
set_option maxRecDepth 100000 in
theorem colMeet_no (w : World) (B o : Nat) (lo : Option Addr) (lc : Nat) (zs gs bs : List Int) (v : Int) (hc : ∀ n, n < 2000 → w.cell? ⟨B, o + n, none⟩ = some (.int .u8 (hz (colL gs bs) n))) (hI : Ints w lo (lyt zs)) (hok : slabOk zs = true) (h0 : -9223372036854775808 ≤ v) (h1 : v ≤ 9223372036854775807) (hy : newV zs gs bs v = false) :
    Calls Tryz.prog 140 #[.pointer (some ⟨B, o, none⟩), .slice lo zs.length lc, .int .i64 v] w fun e w' => e = .returned (.tuple #[.int .i64 0, .bool false]) ∧ w' = w := by
  cases hl : leadV zs v with
  | false =>
    have hL := leadsTo_no w lo lc zs v hI h0 h1 hl
    clear hl hy hI hok hc
    go_enter Tryz.func140, Tryz.ntmps140
    go_wp2_with fail
    refine hL.mono ?_
    rintro e w1 ⟨rfl, rfl⟩
    go_wp2_with fail
    go_ret2
    exact ⟨rfl, rfl⟩
  | true =>
    have hL := leadsTo_yes w lo lc zs v hI h0 h1 hl
    obtain ⟨n, hn, hnl, _⟩ := kind_nat (lead_kind hl).2
    have hzl := (slabOk_iff.1 hok).1
    have hn2 : n < 2000 := by omega
    have c0 := hc n hn2
    have hne : ¬ hz (colL gs bs) n = 0 := fun h => by
      have h2 := (col_white hn2).1 h
      rw [← hn] at h2
      unfold newV at hy
      simp [hl, h2.1, h2.2] at hy
    rw [hn] at hL
    have hb := colAt_bd gs bs n
    rw [← colL_at hn2] at hb
    obtain ⟨c, hcc⟩ : ∃ c, hz (colL gs bs) n = c := ⟨_, rfl⟩
    rw [hcc] at c0 hne hb
    have p1 : (0 : Int) ≤ (n : Int) := by omega
    have p2 : (n : Int) < 2000 := by omega
    clear hl hy hI hok hc hn hcc hnl hzl
    go_enter Tryz.func140, Tryz.ntmps140
    go_wp2_with fail
    refine hL.mono ?_
    rintro e w1 ⟨rfl, rfl⟩
    go_wp2_with fail
    go_ret2
    exact ⟨rfl, rfl⟩
end Go.Proofs.YtgempjjnfpmndaaGreatDoor
namespace Go.Proofs.YtgempjjnfpmndaaGreatDoor
open Go.RowKit

theorem exec_load_row {P : Program} {o : Oper} {a : Act} {w : World} (ty : TypeId) (x : Operand) (ho : o.op = .load ty x) (g : Nat) (hx : a.eval x = .pointer (some ⟨g, 0, none⟩)) (t : TypeId) (cs : Array Value) (d : TypeDesc) (hg : w.heap[g]? = some (.cells cs t (0, 0)))
    (hu : P.underlying ty = some d) (hd : (match d with | .struct _ | .array _ _ => true | _ => false) = true) (hi : (P.info? ty).map (·.size) = some cs.size) : (execOp a.eval o).run P w = .ok (.value (.agg cs)) w := by
  unfold execOp
  simp only [ho, hx, Instr.loadAt, Instr.sureAddr, Sem.run_bind, Sem.run_pure, Result.andThen_ok, run_loadVar_row w g t ty cs (0, 0) d hg hu hd hi]
theorem exec_load_mid {P : Program} {o : Oper} {a : Act} {w : World} (ty : TypeId) (x : Operand) (ho : o.op = .load ty x) (b off : Nat) (hx : a.eval x = .pointer (some ⟨b, off, none⟩)) (cs : List Value) (d : TypeDesc) (hc : w.rangeAt b off cs)
    (hu : P.underlying ty = some d) (hd : d.isRow = true) (hi : (P.info? ty).map (·.size) = some cs.length) : (execOp a.eval o).run P w = .ok (.value (.agg cs.toArray)) w := by
  unfold execOp
  simp only [ho, hx, Instr.loadAt, Instr.sureAddr, Sem.run_bind, Sem.run_pure, Result.andThen_ok, run_loadVar_mid w b off ty cs d hc hu hd hi]
theorem exec_load_arr {P : Program} {o : Oper} {a : Act} {w : World} (ty : TypeId) (x : Operand) (ho : o.op = .load ty x) (b off : Nat) (hx : a.eval x = .pointer (some ⟨b, off, none⟩)) (cs : Array Value) (d : TypeDesc) (hc : w.rangeAt b off cs.toList)
    (hu : P.underlying ty = some d) (hd : d.isRow = true) (hi : (P.info? ty).map (·.size) = some cs.toList.length) : (execOp a.eval o).run P w = .ok (.value (.agg cs)) w := by
  have h := exec_load_mid (P := P) ty x ho b off hx cs.toList d hc hu hd hi
  rw [Array.toArray_toList] at h
  exact h
def byteL (cs : List Int) : List UInt8 := cs.map (fun c => UInt8.ofNat c.toNat)
theorem byteL_cells {cs : List Int} (h : ∀ c ∈ cs, 0 ≤ c ∧ c ≤ 2) : colC cs = ((byteL cs).map Extern.Stop.cell).toArray := by
  unfold colC byteL
  rw [List.map_map]
  congr 1
  apply List.map_congr_left
  intro c hc
  have := h c hc
  simp only [Function.comp, Extern.Stop.cell, Value.int.injEq, true_and]
  rw [UInt8.toNat_ofNat_of_lt' (by simp [UInt8.size]; omega)]
  exact (Int.toNat_of_nonneg this.1).symm
theorem byteL_eq {a b : List Int} (ha : ∀ c ∈ a, 0 ≤ c ∧ c ≤ 2) (hb : ∀ c ∈ b, 0 ≤ c ∧ c ≤ 2) : (byteL a == byteL b) = decide (a = b) := by
  rw [Bool.eq_iff_iff]
  simp only [beq_iff_eq, decide_eq_true_eq]
  constructor
  · intro h
    have hl : a.length = b.length := by have := congrArg List.length h; simpa [byteL] using this
    apply List.ext_getElem hl
    intro i h1 h2
    have e : (byteL a)[i]? = (byteL b)[i]? := by rw [h]
    unfold byteL at e
    rw [List.getElem?_map, List.getElem?_map, List.getElem?_eq_getElem h1, List.getElem?_eq_getElem h2] at e
    simp only [Option.map_some, Option.some.injEq] at e
    have x1 := ha _ (List.getElem_mem h1)
    have x2 := hb _ (List.getElem_mem h2)
    have e' := congrArg UInt8.toNat e
    rw [UInt8.toNat_ofNat_of_lt' (by simp [UInt8.size]; omega), UInt8.toNat_ofNat_of_lt' (by simp [UInt8.size]; omega)] at e'
    omega
  · rintro rfl; rfl
theorem colL_vals (gs bs : List Int) : ∀ c ∈ colL gs bs, 0 ≤ c ∧ c ≤ 2 := by
  intro c hc
  obtain ⟨j, _, rfl⟩ := List.mem_map.1 hc
  exact colAt_bd gs bs j
theorem exec_eql_col {o : Oper} {a : Act} {w : World} (x y : Operand) (ho : o.op = .binOp .eql 120 x y 120) (g1 g2 bs : List Int) (hx : a.eval x = .agg (colC (colL g1 bs))) (hy : a.eval y = .agg (colC (colL g2 bs))) :
    (execOp a.eval o).run Tryz.prog w = .ok (.value (.bool (decide (colL g1 bs = colL g2 bs)))) w := by
  have h1 := run_eql_bytes (P := Tryz.prog) w 120 118 2000 Tryz.underlying120 Tryz.underlying118 Tryz.sizeOf118 (byteL (colL g1 bs)) (byteL (colL g2 bs)) (by simp [byteL, colL_len]) (by simp [byteL, colL_len])
  rw [← byteL_cells (colL_vals g1 bs), ← byteL_cells (colL_vals g2 bs), byteL_eq (colL_vals g1 bs) (colL_vals g2 bs)] at h1
  obtain ⟨c1, hc1⟩ : ∃ c1, colC (colL g1 bs) = c1 := ⟨_, rfl⟩
  obtain ⟨c2, hc2⟩ : ∃ c2, colC (colL g2 bs) = c2 := ⟨_, rfl⟩
  rw [hc1] at h1 hx
  rw [hc2] at h1 hy
  have hgd : (eqGuard .eql 120 x y (.agg c1) (.agg c2)).run Tryz.prog w = .ok () w := by
    simp [eqGuard, go_sem]
  unfold execOp
  simp only [ho, hx, hy, Sem.run_bind, hgd, Result.andThen_ok, h1, Sem.run_pure]
/-- What is met by way of values, beside what was met. -/
def growL (zs bs g vs : List Int) : List Int := vs.foldl (fun g v => if newV zs g bs v = true then g ++ [v / 8] else g) g
theorem growL_snoc (zs bs g vs : List Int) (v : Int) : growL zs bs g (vs ++ [v]) = if newV zs (growL zs bs g vs) bs v = true then growL zs bs g vs ++ [v / 8] else growL zs bs g vs := by
  unfold growL
  rw [List.foldl_append]
  rfl
theorem growL_app (zs bs g vs us : List Int) : growL zs bs g (vs ++ us) = growL zs bs (growL zs bs g vs) us := by simp [growL]
theorem new_place {zs g bs : List Int} {v : Int} (hok : slabOk zs = true) (h : newV zs g bs v = true) : ∃ n : Nat, v / 8 = n ∧ n < 2000 ∧ (n : Int) ∉ g ∧ (n : Int) ∉ bs := by
  unfold newV at h
  simp only [Bool.and_eq_true, Bool.not_eq_true', decide_eq_false_iff_not] at h
  obtain ⟨⟨h1, h2⟩, h3⟩ := h
  obtain ⟨n, hn, hnl, _⟩ := kind_nat (lead_kind h1).2
  have := (slabOk_iff.1 hok).1
  rw [hn] at h2 h3
  exact ⟨n, hn, by omega, h2, h3⟩
theorem new_sub {zs g g' bs : List Int} {v : Int} (h : newV zs g' bs v = true) (hs : ∀ x ∈ g, x ∈ g') : newV zs g bs v = true := by
  unfold newV at h ⊢
  simp only [Bool.and_eq_true, Bool.not_eq_true', decide_eq_false_iff_not] at h ⊢
  exact ⟨⟨h.1.1, fun hx => h.1.2 (hs _ hx)⟩, h.2⟩
theorem growL_ex0 {zs bs gs : List Int} (hok : slabOk zs = true) : ∀ (vs ex0 : List Int), (∀ x ∈ ex0, x ∉ gs ∧ x ∉ bs ∧ 0 ≤ x ∧ x < 2000) → ∃ ex, growL zs bs (gs ++ ex0) vs = gs ++ ex ∧ (∀ x ∈ ex, x ∉ gs ∧ x ∉ bs ∧ 0 ≤ x ∧ x < 2000) ∧ (ex = [] ↔ ex0 = [] ∧ ∀ v ∈ vs, newV zs gs bs v = false)
  | [], ex0, h0 => ⟨ex0, rfl, h0, by simp⟩
  | v :: vs, ex0, h0 => by
    have e0 : growL zs bs (gs ++ ex0) (v :: vs) = growL zs bs (if newV zs (gs ++ ex0) bs v = true then (gs ++ ex0) ++ [v / 8] else gs ++ ex0) vs := rfl
    cases hn : newV zs (gs ++ ex0) bs v with
    | true =>
      obtain ⟨n, hn1, hn2, hn3, hn4⟩ := new_place hok hn
      obtain ⟨ex, e1, e2, e3⟩ := growL_ex0 hok vs (ex0 ++ [v / 8]) (fun x hx => by
        rcases List.mem_append.1 hx with h | h
        · exact h0 x h
        · simp at h
          rw [h, hn1]
          exact ⟨fun h => hn3 (List.mem_append.2 (.inl h)), hn4, by omega, by omega⟩)
      refine ⟨ex, ?_, e2, ?_⟩
      · rw [e0, hn, if_pos rfl, List.append_assoc]; exact e1
      · rw [e3]
        constructor
        · rintro ⟨h, _⟩; simp at h
        · rintro ⟨_, h⟩
          have := h v (by simp)
          rw [new_sub hn (fun x hx => List.mem_append.2 (.inl hx))] at this
          cases this
    | false =>
      obtain ⟨ex, e1, e2, e3⟩ := growL_ex0 hok vs ex0 h0
      refine ⟨ex, ?_, e2, ?_⟩
      · rw [e0, hn, if_neg (by simp)]; exact e1
      · rw [e3]
        constructor
        · rintro ⟨h, h'⟩
          refine ⟨h, fun x hx => ?_⟩
          rcases List.mem_cons.1 hx with rfl | hx
          · rw [h, List.append_nil] at hn; exact hn
          · exact h' x hx
        · rintro ⟨h, h'⟩
          exact ⟨h, fun x hx => h' x (List.mem_cons_of_mem _ hx)⟩
theorem growL_ex {zs bs gs : List Int} (hok : slabOk zs = true) (vs : List Int) : ∃ ex, growL zs bs gs vs = gs ++ ex ∧ (∀ x ∈ ex, x ∉ gs ∧ x ∉ bs ∧ 0 ≤ x ∧ x < 2000) ∧ (ex = [] ↔ ∀ v ∈ vs, newV zs gs bs v = false) := by
  obtain ⟨ex, e1, e2, e3⟩ := growL_ex0 (bs := bs) (gs := gs) hok vs [] (by simp)
  rw [List.append_nil] at e1
  exact ⟨ex, e1, e2, by rw [e3]; simp⟩
/-- What closed tells. -/
def closedR (zs gs bs : List Int) : Bool := (bs.flatMap (slotV zs)).all (fun v => !newV zs gs bs v)
theorem closed_is {zs gs bs : List Int} (hok : slabOk zs = true) : decide (colL (growL zs bs gs (bs.flatMap (slotV zs))) bs = colL gs bs) = closedR zs gs bs := by
  obtain ⟨ex, e1, e2, e3⟩ := growL_ex (bs := bs) (gs := gs) hok (bs.flatMap (slotV zs))
  rw [e1, Bool.eq_iff_iff, decide_eq_true_eq, col_more e2, e3]
  unfold closedR
  rw [List.all_eq_true]
  simp
end Go.Proofs.YtgempjjnfpmndaaGreatDoor
namespace Go.Proofs.YtgempjjnfpmndaaGreatDoor
open Go.RowKit Go.Maps
attribute [local go_sem] Plain.and7

set_option maxHeartbeats 8000000 in
set_option maxRecDepth 100000 in
theorem valuesAt_any (w : World) (ao : Option Addr) (cap : Nat) (zs : List Int) (a : Int) (hI : Ints w ao zs) (hl : zs.length ≤ 1048576) (ha : 1 ≤ kindAt zs a) :
    Calls Tryz.prog 85 #[.slice ao zs.length cap, .int .i64 a] w fun e w' => ∃ v, e = .returned v ∧ OwnL w' w.heap.size v (slotV zs a) ∧ Kept w w' := by
  obtain ⟨i0, hi, hz0, hz1, hz2⟩ := info_parts infoI
  obtain ⟨n, en, hn, hg, esl, b, hbm, hbn⟩ := kind_nat ha
  have hls : True ∧ (slotsL zs a).length ≤ zs.length ∧ ∀ i, i < (slotsL zs a).length → ∃ p : Nat, hz (slotsL zs a) i = p ∧ p < zs.length := by
    rw [esl]
    have := slL_len n (kd zs n) (sz zs n)
    have := hg.le
    exact ⟨trivial, by omega, fun i hi => slL_at hg hi⟩
  have hL : zs.length * 8 ≤ 140737488351232 := by omega
  have hgl := hg.le
  have hg2 := hg.sz2
  have hgk := hg.kd5
  have HV : Hid (slotV zs a = (slL n (kd zs n) (sz zs n)).map (fun j => hz zs j.toNat)) := by rw [Hid, slotV, esl]
  rw [esl] at hls
  obtain ⟨ss, hss⟩ : ∃ ss, slL n (kd zs n) (sz zs n) = ss := ⟨_, rfl⟩
  rw [hss] at HV hls
  have hml := hls.2.1
  have HLS : Hid (∀ i, i < ss.length → ∃ p : Nat, hz ss i = p ∧ p < zs.length) := hls.2.2
  have hRB := readBlock_good w ao cap zs n hI hg hL
  have hSO := fun (u : World) (hu : Kept w u) => slotsOf_ok u ao cap zs n (sz zs n) (kd zs n) (hI.kept hu) hl hgl hg2 hgk
  rw [hss] at hSO
  have HI : Hid (Ints w ao zs) := hI
  subst en
  clear hI hls ha esl hss
  go_enter Tryz.func85, Tryz.ntmps85
  go_wp2_with (first
    | (go_at_call 39; refine hRB.mono ?_; rintro e w1 ⟨rfl, hk1⟩; have kb : Kept w1 (w1.alloc (.cells (bkC n (sz zs n) (kd zs n)) 74)) := Kept.alloc (Below.refl _ _) _; have hS1 := hSO _ (hk1.trans kb); have k1 := hk1.trans kb; have hw1 := k1.size)
    | (go_at_call 133; refine hS1.mono ?_; rintro e w2 ⟨v2, rfl, hO2, hk2⟩; obtain ⟨sa, sc, rfl, hIs⟩ := hO2.ints; have k2 := k1.trans hk2))
  go_loopw [7, 20] (fun v i wr => ∃ (k : Nat), i = .int .i64 k ∧ k ≤ ss.length ∧ wr.ownsRow w2.heap.size 3 1 v ((ss.take k).map (fun j => hz zs j.toNat)).length (((ss.take k).map (fun j => hz zs j.toNat)).map (Value.int .i64)) ∧ Kept w2 wr ∧ w2.heap.size ≤ wr.heap.size)
    (fun _ i _ => ss.length - (intOf i).toNat)
  case atStart => exact ⟨0, rfl, Nat.zero_le _, ⟨by simp, .inl ⟨rfl, rfl⟩⟩, Below.refl _ _, Nat.le_refl _⟩
  case round =>
    obtain ⟨k, rfl, hk, hrow, hK, hsz⟩ := hrel
    have hln : ((ss.take k).map (fun j => hz zs j.toNat)).length = k := by simp; omega
    by_cases hlt : k < ss.length
    · obtain ⟨p, hp, hpl⟩ := HLS.out k hlt
      obtain ⟨b1, o1, rfl, hc1⟩ := Ints.at (hIs.kept hK) hlt
      have c1 := hc1 k hlt
      rw [hp] at c1
      obtain ⟨b2, o2, rfl, hc2⟩ := Ints.at (Ints.kept HI.out (k2.trans hK)) hpl
      have c2 := hc2 p hpl
      have q1 : (k : Int) < (ss.length : Int) := by omega
      have q0 : (0 : Int) ≤ (k : Int) := by omega
      have q2 : (p : Int) < (zs.length : Int) := by omega
      have q3 : (0 : Int) ≤ (p : Int) := by omega
      have HT : Hid ((ss.take (k + 1)).map (fun j => hz zs j.toNat) = (ss.take k).map (fun j => hz zs j.toNat) ++ [hz zs p]) := by rw [Hid, take_hz hlt, List.map_append, hp]; simp
      obtain ⟨xs, hxs⟩ : ∃ xs, (ss.take k).map (fun j => hz zs j.toNat) = xs := ⟨_, rfl⟩
      rw [hxs] at hrow hln HT
      have HK : Hid _ := hK
      clear hc1 hc2 hp hxs hK
      go_wp2_with (first | (at_builtin; refine wpList_append_own _ rfl _ _ 26 rfl w2.heap.size 3 i0 (.int .i64 0) 1 8 Tryz.underlying26 hi hz0 hz1 hz2 rfl (by decide) _ _ _ rfl (hrow.alloc _) ⟨wr.heap.size, 0, none⟩ 1 1 [.int .i64 (hz zs p)] rfl rfl (cell_one_new _ _ _) (by simp [Value.oneCell']) (by unfold maxLen; omega) (by omega) (by simp; omega) ?_; intro v' w5 hown' hgrow _; have kk : Below w2.heap.size wr w5 := ((Below.refl _ wr).alloc hsz _).grown hgrow (by simp; omega) (fun j ej => (hrow.lt j ej).1)))
      go_roundw
      case rel => exact ⟨k + 1, by go_num, by omega, by rw [HT.out]; simpa using hown', Below.trans HK.out (kk.mono (by omega)), Nat.le_trans hsz kk.size⟩
      case measure => simp [intOf]; omega
    · obtain rfl : k = ss.length := by omega
      have HK : Hid _ := hK
      rw [List.take_length] at hrow
      clear hK
      go_wp2
      go_ret
      refine ⟨_, rfl, ?_, k2.trans HK.out⟩
      rw [HV.out]
      refine ⟨fun z hz' => ?_, ownsRow_base hrow k2.size⟩
      obtain ⟨j, hj, rfl⟩ := List.mem_map.1 hz'
      obtain ⟨i, hi', ei⟩ := List.getElem_of_mem hj
      obtain ⟨p, hp, hpl⟩ := HLS.out i hi'
      have e1 : j = p := by rw [← hp, ← ei]; unfold hz; rw [List.getElem?_eq_getElem hi']; rfl
      rw [e1, Int.toNat_natCast]
      exact HI.out.1 _ (hz_mem hpl)
end Go.Proofs.YtgempjjnfpmndaaGreatDoor
namespace Go.Proofs.YtgempjjnfpmndaaGreatDoor
open Go.RowKit

theorem MkgR.range {W : World} {B : Nat} {ao lo : Option Addr} {cap lc : Nat} {zs gs bs : List Int} {gv : Value} (h : MkgR W B ao lo cap lc zs gs bs gv) : W.rangeAt B 2 (colC (colL gs bs)).toList := by
  intro j v hv
  have hj : j < 2000 := by
    rcases Nat.lt_or_ge j 2000 with h | h
    · exact h
    · rw [List.getElem?_eq_none (by simp [colC, colL_len]; omega)] at hv; cases hv
  rw [h.col hj, ← hv, Array.getElem?_toList, colC_at (by rw [colL_len]; exact hj), colL_at hj]
theorem flat_snoc (zs bs : List Int) {k : Nat} (h : k < bs.length) : (bs.take (k + 1)).flatMap (slotV zs) = (bs.take k).flatMap (slotV zs) ++ slotV zs (hz bs k) := by
  rw [take_hz h, List.flatMap_append]
  simp
theorem slotV_le {zs : List Int} {a : Int} (ha : 1 ≤ kindAt zs a) : (slotV zs a).length ≤ zs.length := by
  rw [slotV_len]
  obtain ⟨n, en, hn, hg, esl, _⟩ := kind_nat ha
  rw [esl]
  have := slL_len n (kd zs n) (sz zs n)
  have := hg.le
  omega
theorem col_at {cs : List Int} {W : World} {M : Nat} {t : TypeId} (h : Cells W M t (colC cs)) {n : Nat} (hn : n < cs.length) : W.cell? ⟨M, 0 + n, none⟩ = some (.int .u8 (hz cs n)) := by
  rw [h.cell, Nat.zero_add, colC_at hn]
set_option maxHeartbeats 8000000 in
set_option maxRecDepth 100000 in
theorem closed_ok (w : World) (B : Nat) (ao lo : Option Addr) (cap lc : Nat) (zs gs bs : List Int) (gv : Value) (hM : MkgR w B ao lo cap lc zs gs bs gv) (hok : slabOk zs = true) (hbl : blacksL (colL gs bs) 2000 = bs) (hbk : ∀ a ∈ bs, 1 ≤ kindAt zs a) :
    Calls Tryz.prog 94 #[.pointer (some ⟨B, 0, none⟩)] w fun e w' => e = .returned (.bool (closedR zs gs bs)) ∧ Kept w w' := by
  have hzl := (slabOk_iff.1 hok).1
  have hBw := hM.c.lt
  have hcsz : (colC (colL gs bs)).size = 2000 := by rw [colC_size, colL_len]
  have hcl : (colC (colL gs bs)).toList.length = 2000 := by simpa using hcsz
  have HC : Hid (decide (colL (growL zs bs gs (bs.flatMap (slotV zs))) bs = colL gs bs) = closedR zs gs bs) := closed_is hok
  have hblen : bs.length ≤ 2000 := by rw [← hbl]; exact blacksL_len _ _
  have HM : Hid (∀ u, Kept w u → MkgR u B ao lo cap lc zs gs bs gv) := fun u hu => hM.kept hu
  have HOk : Hid _ := hok
  have HBk : Hid _ := hbk
  have hrg := hM.range
  have hcz := Cells.new w 120 Tryz.zeroCells120
  have hzs : Tryz.zeroCells120.size = 2000 := by rw [zeroCol, colC_size, List.length_replicate]
  clear hM hok hbk
  go_enter Tryz.func94, Tryz.ntmps94
  go_upto_region 2 with (first
    | (refine wpList_load_mid (by rfl) 120 _ (by rfl) B 2 (by rfl) _ _ hrg Tryz.underlying120 rfl (by rw [hcl]; exact infoCol) ?_)
    | (refine wpList_store_row (by rfl) 120 _ _ (by rfl) w.heap.size _ (by rfl) (by rfl) _ _ hcz (by rw [hcsz]; exact infoCol) (by rw [hcsz]; exact hzs) (colC_one _) ?_))
  rw [World.setRow_alloc_new]
  have k1 : Kept w (w.alloc (.cells (colC (colL gs bs)) 120)) := Kept.alloc (Below.refl _ _) _
  have m1 := Cells.new w 120 (colC (colL gs bs))
  have hs1 : (w.alloc (.cells (colC (colL gs bs)) 120)).heap.size = w.heap.size + 1 := by simp
  obtain ⟨W1, hW1⟩ : ∃ W1, w.alloc (.cells (colC (colL gs bs)) 120) = W1 := ⟨_, rfl⟩
  rw [hW1] at k1 m1 hs1
  simp only [hW1]
  have hrg1 := (HM.out W1 k1).range
  have hBl := blacks_ok W1 (colL gs bs) (colL_len _ _)
  rw [hbl] at hBl
  have HS1 : Hid _ := hs1
  have HK1 : Hid _ := k1
  have Hm1 : Hid _ := m1
  clear hW1 hrg hcz hzs hs1 k1 m1 hbl
  go_wp2_with (first
    | (refine wpList_load_mid (by rfl) 120 _ (by rfl) B 2 (by rfl) _ _ hrg1 Tryz.underlying120 rfl (by rw [hcl]; exact infoCol) ?_)
    | (go_at_call 139; refine hBl.mono ?_; rintro e w2 ⟨v2, rfl, hO2, hk2⟩; obtain ⟨la, lcap, rfl, hIb⟩ := hO2.ints))
  have HK2 : Hid (Kept w w2) := Kept.trans HK1.out hk2
  have Hm2 : Hid (Cells w2 w.heap.size 120 (colC (colL gs bs))) := Cells.kept Hm1.out hk2
  have HIb : Hid (∀ u, w2.grownBy u (some w.heap.size) → Ints u la bs) := fun u hu => by
    refine hIb.farC hu (fun hn a e => ?_)
    have h1 := hO2.2.lt a.block (by rw [e]; rfl)
    have := HS1.out
    omega
  have HBd : Hid _ := hIb.1
  have hsz2 : w.heap.size + 1 ≤ w2.heap.size := by have := hk2.size; have := HS1.out; omega
  clear hrg1 hBl hO2 hk2 hIb
  go_loopw [18] (fun i wr => ∃ k : Nat, i = .int .i64 k ∧ k ≤ bs.length ∧ Cells wr w.heap.size 120 (colC (colL (growL zs bs gs ((bs.take k).flatMap (slotV zs))) bs)) ∧ Kept w wr ∧ w2.grownBy wr (some w.heap.size)) (fun i _ => bs.length - (intOf i).toNat)
  case atStart => exact ⟨0, rfl, Nat.zero_le _, by simpa [growL] using Hm2.out, HK2.out, ⟨rfl, rfl, rfl, Nat.le_refl _, fun _ _ _ => rfl⟩⟩
  case round =>
    obtain ⟨k, rfl, hk, hCk, hK, hG⟩ := hrel
    by_cases hlt : k < bs.length
    · have HT : Hid (growL zs bs gs ((bs.take (k + 1)).flatMap (slotV zs)) = growL zs bs (growL zs bs gs ((bs.take k).flatMap (slotV zs))) (slotV zs (hz bs k))) := by rw [Hid, flat_snoc zs bs hlt, growL_app]
      obtain ⟨b5, o5, e5, hc5⟩ := Ints.at (HIb.out wr hG) hlt
      have c5 := hc5 k hlt
      have hMr := HM.out wr hK
      have cw := hMr.c0
      have ha := HBk.out _ (hz_mem hlt)
      obtain ⟨a, hav⟩ : ∃ a, hz bs k = a := ⟨_, rfl⟩
      obtain ⟨g, hg⟩ : ∃ g, growL zs bs gs ((bs.take k).flatMap (slotV zs)) = g := ⟨_, rfl⟩
      rw [hav] at c5 ha HT
      rw [hg] at HT hCk
      have hVa := valuesAt_any wr ao cap zs a hMr.ws (by omega) ha
      have hsll := slotV_le ha
      have q1 : (k : Int) < (bs.length : Int) := by omega
      have q0 : (0 : Int) ≤ (k : Int) := by omega
      have HK : Hid _ := hK
      have HG : Hid _ := hG
      have HCk : Hid _ := hCk
      subst e5
      clear hc5 hav hg hMr hK hG hCk ha
      go_wp2_with (go_at_call 85; refine hVa.mono ?_; rintro e w4 ⟨v4, rfl, hO4, hk4⟩; obtain ⟨va, vcap, rfl, hI4⟩ := hO4.ints)
      obtain ⟨sl, hsl⟩ : ∃ sl, slotV zs a = sl := ⟨_, rfl⟩
      rw [hsl] at hO4 hI4 HT hsll
      simp only [hsl]
      have HI4 : Hid (∀ u, w4.grownBy u (some w.heap.size) → Ints u va sl) := fun u hu => by
        refine hI4.farC hu (fun hn x e => ?_)
        have h1 := hO4.2.lt x.block (by rw [e]; rfl)
        have h2 := Below.size HK.out
        have h3 := (show Cells wr w.heap.size 120 _ from HCk.out).lt
        omega
      have HBd4 : Hid _ := hI4.1
      have HKw4 : Hid (Kept w w4) := Kept.trans HK.out hk4
      have Hk4 : Hid _ := hk4
      have Hm4 : Hid (Cells w4 w.heap.size 120 (colC (colL g bs))) := Cells.kept HCk.out hk4
      clear hsl hO4 hI4 hk4 hVa c5 cw
      go_loopw [29] (fun i wq => ∃ j : Nat, i = .int .i64 j ∧ j ≤ sl.length ∧ Cells wq w.heap.size 120 (colC (colL (growL zs bs g (sl.take j)) bs)) ∧ w4.grownBy wq (some w.heap.size)) (fun i _ => sl.length - (intOf i).toNat)
      case atStart => exact ⟨0, rfl, Nat.zero_le _, by simpa [growL] using Hm4.out, ⟨rfl, rfl, rfl, Nat.le_refl _, fun _ _ _ => rfl⟩⟩
      case round =>
        obtain ⟨j, rfl, hj, hCj, hGj⟩ := hrel
        have hKw : Kept w w4 := HKw4.out
        have hKr : Kept w _ := Below.grown hKw hGj hKw.size (fun k e => by cases e; exact Nat.le_refl _)
        by_cases hjl : j < sl.length
        · have HTj : Hid (growL zs bs g (sl.take (j + 1)) = if newV zs (growL zs bs g (sl.take j)) bs (hz sl j) = true then growL zs bs g (sl.take j) ++ [hz sl j / 8] else growL zs bs g (sl.take j)) := by rw [Hid, take_hz hjl, growL_snoc]
          obtain ⟨b6, o6, e6, hc6⟩ := Ints.at (HI4.out _ hGj) hjl
          have c6 := hc6 j hjl
          have hvb := HBd4.out _ (hz_mem hjl)
          have hMq := HM.out _ hKr
          have cl := hMq.c1
          have hLy := hMq.ly
          obtain ⟨v, hv⟩ : ∃ v, hz sl j = v := ⟨_, rfl⟩
          obtain ⟨g', hg'⟩ : ∃ g', growL zs bs g (sl.take j) = g' := ⟨_, rfl⟩
          rw [hv] at c6 HTj hvb
          rw [hg'] at HTj hCj
          have q3 : (j : Int) < (sl.length : Int) := by omega
          have q2 : (0 : Int) ≤ (j : Int) := by omega
          have HCj : Hid _ := hCj
          have HGj : Hid _ := hGj
          subst e6
          clear hc6 hv hg' hMq hKr hKw hGj
          cases hnew : newV zs g' bs v with
          | true =>
            obtain ⟨n, hn, hn2, _, hnb⟩ := new_place HOk.out hnew
            have hMt := colMeet_yes _ w.heap.size 0 lo lc n zs g' bs v hn hn2 (col_at hCj (by rw [colL_len]; exact hn2)) (hCj.frozen _) hLy hvb.1 hvb.2 hnew
            have HE : Hid (growL zs bs g (sl.take (j + 1)) = g' ++ [(n : Int)]) := by rw [Hid, HTj.out, hnew, if_pos rfl, hn]
            have HNB : Hid _ := hnb
            clear hnew hn hnb hCj hLy
            go_wp2_with fail
            refine hMt.mono ?_
            rintro e w7 ⟨rfl, rfl⟩
            go_wp2_with fail
            go_roundw
            case rel =>
              refine ⟨j + 1, by go_num, by omega, ?_, grown_set HGj.out _⟩
              rw [HE.out, ← col_grey hn2 HNB.out, ← colC_set]
              exact Cells.set n _ HCj.out
            case measure => simp [intOf]; omega
          | false =>
            have hMt := colMeet_no _ w.heap.size 0 lo lc zs g' bs v (fun n hn => col_at hCj (by rw [colL_len]; exact hn)) hLy HOk.out hvb.1 hvb.2 hnew
            have HE : Hid (growL zs bs g (sl.take (j + 1)) = g') := by rw [Hid, HTj.out, hnew, if_neg (by simp)]
            clear hnew hCj hLy
            go_wp2_with fail
            refine hMt.mono ?_
            rintro e w7 ⟨rfl, rfl⟩
            go_wp2_with fail
            go_roundw
            case rel => exact ⟨j + 1, by go_num, by omega, by rw [HE.out]; exact HCj.out, HGj.out⟩
            case measure => simp [intOf]; omega
        · obtain rfl : j = sl.length := by omega
          rw [List.take_length] at hCj
          have HCj : Hid _ := hCj
          have HGj : Hid _ := hGj
          have HKr : Hid _ := hKr
          clear hCj hGj hKr hKw
          go_wp2_with fail
          go_roundw
          case rel =>
            refine ⟨k + 1, by go_num, by omega, by rw [HT.out]; exact HCj.out, HKr.out, ?_⟩
            exact grown_trans (grown_kept HG.out Hk4.out) HGj.out
          case measure => simp [intOf]; omega
    · obtain rfl : k = bs.length := by omega
      rw [List.take_length] at hCk
      have hMr := HM.out wr hK
      have kd : Kept wr wr.drew := (Below.refl _ wr).drew
      obtain ⟨gF, hgF⟩ : ∃ gF, growL zs bs gs (bs.flatMap (slotV zs)) = gF := ⟨_, rfl⟩
      rw [hgF] at hCk HC
      have Y1 : Hid (∀ u, Kept wr.drew u → Cells u w.heap.size 120 (colC (colL gF bs))) := fun u hu => hCk.kept (kd.trans hu)
      have Y2 : Hid (∀ u, Kept wr.drew u → u.rangeAt B 2 (colC (colL gs bs)).toList) := fun u hu => (hMr.kept (kd.trans hu)).range
      have HK : Hid _ := hK
      have hszF : (colC (colL gF bs)).size = 2000 := by rw [colC_size, colL_len]
      clear hK hG hCk hMr hgF
      go_wp2_with fail
      refine wp_region_seqL (by kernel_rfl) (by kernel_rfl) ?_
      refine SeqL.pure (.agg (colC (colL gF bs))) (by rfl) (fun u hu => exec_load_row 120 _ (by rfl) w.heap.size (by rfl) _ _ _ (Y1.out u hu) Tryz.underlying120 rfl (by rw [hszF]; exact infoCol)) ?_
      simp only [Act.put, List.setIfInBounds_toArray, List.set_cons_zero, List.set_cons_succ]
      repeat (first
        | (refine SeqL.pure (.agg (colC (colL gs bs))) (by rfl) (fun u hu => exec_load_arr 120 _ (by rfl) B 2 (by rfl) _ _ (Y2.out u hu) Tryz.underlying120 rfl (by rw [hcl]; exact infoCol)) ?_; simp only [Act.put, List.setIfInBounds_toArray, List.set_cons_zero, List.set_cons_succ])
        | (refine SeqL.pure (.bool (decide (colL gF bs = colL gs bs))) (by rfl) (fun u hu => exec_eql_col _ _ (by rfl) gF gs bs (by rfl) (by rfl)) ?_; simp only [Act.put, List.setIfInBounds_toArray, List.set_cons_zero, List.set_cons_succ])
        | (refine SeqL.pure ?_ (by rfl) ?_ ?_; rotate_left; (focus (intro u hu; go_simp; first | done | exact rfl)); simp only [Act.put, List.setIfInBounds_toArray, List.set_cons_zero, List.set_cons_succ]))
      refine SeqL.nil ?_
      intro w8 hu8
      have K8 : Kept w w8 := Kept.trans HK.out (kd.trans hu8)
      obtain ⟨r, hr⟩ : ∃ r, decide (colL gF bs = colL gs bs) = r := ⟨_, rfl⟩
      rw [hr] at HC ⊢
      clear hr
      go_wp2_with fail
      go_ret
      exact ⟨by rw [← HC.out]; rfl, K8⟩
end Go.Proofs.YtgempjjnfpmndaaGreatDoor
