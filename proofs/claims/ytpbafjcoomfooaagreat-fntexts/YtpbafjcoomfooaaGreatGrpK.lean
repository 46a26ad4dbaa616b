/-
  The iterator runesOf: it yields the text in pieces that follow each other, none of them empty.
  The texts that stay when all pieces have been looked at are those with these bytes; the least of them is the first.
  textAt.
  The contract of the program's TextFind.
-/
import Derived.Lib.OthersKept
import Derived.WalkSmall
import Derived.Laws.RangeAny
import Derived.Test.YtpbafjcoomfooaaGreatSlabU
import Derived.Test.YtpbafjcoomfooaaGreatGrpJ
import Derived.Test.YtpbafjcoomfooaaGreatGrpF
namespace Go.Proofs.YtpbafjcoomfooaaGreat
open Go.RowKit Go.Shelf Go.Lib
attribute [local go_sem] Oper.semAt_some

abbrev PieceOf (n : Nat) := {x : Nat × Nat // x.1 < x.2 ∧ x.2 ≤ n}
/-- The pieces lie from 0 to e, one behind the other. -/
inductive Part {n : Nat} : Nat → List (PieceOf n) → Prop
  | nil : Part 0 []
  | snoc {ys : List (PieceOf n)} (x : PieceOf n) : Part x.1.1 ys → Part x.1.2 (ys ++ [x])
theorem Part.len {n e : Nat} {ys : List (PieceOf n)} (h : Part e ys) : ys.length ≤ e := by
  induction h with
  | nil => simp
  | snoc x _ ih => have := x.2; simp; omega
/-- From block B on what walks stays, and all cells but block X's. -/
def KeepR (B X : Nat) (W W' : World) : Prop := W.heap.size ≤ W'.heap.size ∧ ∀ k o, W.heap[k]? = some o → ((o.isCells = true ∧ k ≠ X) ∨ (B ≤ k ∧ o.isWalk = true)) → W'.heap[k]? = some o
theorem KeepR.t {B g : Nat} {X Y Z : World} (h : KeepR B g X Y) (k : KeepR B g Y Z) : KeepR B g X Z := ⟨Nat.le_trans h.1 k.1, fun j o e c => k.2 j o (h.2 j o e c) c⟩
theorem KeepR.b {B g : Nat} (W : World) (l : Nat) (o o' : Obj) (h : W.heap[l]? = some o) (h1 : o.isCells = false) (h2 : o.isWalk = false) : KeepR B g W (W.putObj l o') :=
  ⟨by simp, fun k q e c => by
    by_cases hkl : k = l
    · subst hkl; rw [h] at e; cases e; rw [h1, h2] at c; simp at c
    · rw [World.putObj_heap_other hkl]; exact e⟩
theorem KeepR.of {B g : Nat} {W W' : World} (h : Kept W W') : KeepR B g W W' := ⟨h.size, fun k _ e _ => (h.block k (Array.getElem?_eq_some_iff.1 e).1).trans e⟩
theorem rune_wide (s : ByteArray) (pos : Nat) (h : pos < s.size) : 1 ≤ (Utf8.decode s pos).2 := by
  by_cases ha : (s[pos]'h).toNat < 128
  · rw [decode_ascii s pos h ha]; simp
  · exact (decode_high s pos h (by omega)).2
theorem iterAt_grown (w : World) (k : Nat) (s : ByteArray) (pos : Nat) : w.grownBy (w.iterAt k s pos) (some k) := ⟨rfl, rfl, rfl, by rw [iterAt_size]; exact Nat.le_refl _, fun i _ hi => iterAt_other w k i s pos (fun e => hi (by rw [e]))⟩
def runeV (t : ByteArray) (x : PieceOf t.size) : Array Value := #[.int .i64 (x.1.1 : Nat), .string (t.extract x.1.1 x.1.2)]

theorem runesOf_ok (t : ByteArray) (w : World) :
    Calls Tryz.prog 76 #[.string t] w fun e w' => e = .returned (.func (.func 114) #[] #[.pointer (some ⟨w.heap.size, 0, none⟩)]) ∧ w' = w.alloc (.cells #[.string t] 9) := by
  go_enter Tryz.func76, Tryz.ntmps76
  go_wp2
  go_ret
  exact ⟨rfl, rfl⟩
set_option maxHeartbeats 2000000 in
set_option maxRecDepth 100000 in
theorem runesOf1_in (n : Nat) (hn : 1 ≤ n) (l Bs B X B0 : Nat) (t : ByteArray) (hB0 : B ≤ B0) (hXs : Bs ≠ X)
    (J Jx : List (PieceOf t.size) → World → Prop) (hA : AbidesFrom B0 J)
    (hY : ∀ pre x W, J pre W → pre.length < t.size → YieldAt Fence.wide (n - 1) Tryz.prog l (runeV t x) W fun e W' =>
      (e = .returned (.bool true) ∧ J (pre ++ [x]) W' ∧ KeepR B X W W') ∨ (e = .returned (.bool false) ∧ Jx (pre ++ [x]) W'))
    (W : World) (hW : W.heap.size = B0) (hBs : W.cell? ⟨Bs, 0, none⟩ = some (.string t)) (h0 : J [] W) :
    CallsIn Fence.wide n Tryz.prog 114 #[.func (.yield l) #[] #[], .pointer (some ⟨Bs, 0, none⟩)] W fun e W' => (∃ v, e = .returned v) ∧
      ((∃ ys, Part t.size ys ∧ J ys W') ∨ (∃ pre, (∃ e, e ≤ t.size ∧ Part e pre) ∧ Jx pre W')) := by
  have hrs := fun w => run_range_string (P := Tryz.prog) w 9 t Tryz.underlying9
  refine callsIn_of_wp Tryz.func114 rfl trivial ?_ rfl
  simp only [Tryz.ntmps114, List.size_toArray, List.length_cons, List.length_nil, Nat.reduceAdd, Nat.reduceSub, Array.replicate_succ, Array.replicate_zero, List.push_toArray, List.append_toArray, List.nil_append, List.cons_append]
  gi_wp2
  clear hrs
  gi_loopw [3] (fun i wr => ∃ (a pos : Nat) (pre : List (PieceOf t.size)), i = .int .i64 a ∧ Part a pre ∧ (a < pos ∨ (a = 0 ∧ pos = 0)) ∧ (a < t.size ∨ a = 0) ∧ J pre wr ∧ wr.heap[B0]? = some (.stringIter t pos) ∧ wr.cell? ⟨Bs, 0, none⟩ = some (.string t))
    (fun _ wr => t.size - wr.iterPos B0)
  case atStart =>
    subst hW
    exact ⟨0, 0, [], rfl, Part.nil, .inr ⟨rfl, rfl⟩, .inr rfl, hA _ _ _ none h0 (World.grownBy_alloc _ _ _) (fun _ h => by cases h), World.iter_heap _ _ _, ((Kept.alloc (Below.refl W.heap.size W) (.stringIter t 0)).cell (p := ⟨Bs, 0, none⟩) (World.block_lt_of_cell? _ _ hBs)).trans hBs⟩
  case round =>
    obtain ⟨a, pos, pre, rfl, hP, hap, has, hJ, hit, hcs⟩ := hrel
    clear hBs h0
    have hbB : Bs ≠ B0 := by
      rintro rfl
      have := hcs
      simp [World.cell?, hit] at this
    by_cases hp : pos < t.size
    · have hnx := fun ty => run_next_any_at (P := Tryz.prog) wr B0 t pos ty hit hp
      obtain ⟨wd, hwd⟩ : ∃ wd, (Utf8.decode t pos).2 = wd := ⟨_, rfl⟩
      have hw1 := rune_wide t pos hp
      rw [hwd] at hnx hw1
      have hJ1 := hA _ _ _ (some B0) hJ (iterAt_grown wr B0 t (pos + wd)) (fun r e => by cases e; exact ⟨Nat.le_refl _, _, hit, rfl⟩)
      have hi1 := iterAt_heap wr B0 t pos (pos + wd) hit
      have hc1 : (wr.iterAt B0 t (pos + wd)).cell? ⟨Bs, 0, none⟩ = some (.string t) := (World.cell?_of_block (w := wr) (iterAt_other wr B0 Bs t (pos + wd) hbB)).trans hcs
      obtain ⟨W1, hW1⟩ : ∃ W1, wr.iterAt B0 t (pos + wd) = W1 := ⟨_, rfl⟩
      have hip : wr.iterPos B0 = pos := iterPos_of hit
      rw [hW1] at hnx hJ1 hi1 hc1
      obtain ⟨rn, hrn⟩ : ∃ rn : Int, ((Utf8.decode t pos).1 : Int) = rn := ⟨_, rfl⟩
      rw [hrn] at hnx
      clear hit hcs hJ hwd hW1 hrn
      by_cases hlt : a < pos
      · have e1 : (pos : Int) > (a : Int) := by omega
        have q1 : (a : Int) ≤ (pos : Int) := by omega
        have q2 : (pos : Int) ≤ (t.size : Int) := by omega
        obtain ⟨fn, tmps, assign, body, hy, hR⟩ := hY pre ⟨(a, pos), hlt, by simp only; omega⟩ W1 hJ1 (by have := hP.len; omega)
        unfold runeV at hy
        dsimp only at hy
        gi_wp2
        refine hR.mono ?_
        rintro e W3 (⟨rfl, hJ3, hk3⟩ | ⟨rfl, hJx3⟩)
        · have hi3 := hk3.2 _ _ hi1 (.inr ⟨hB0, rfl⟩)
          have hc3 : W3.cell? ⟨Bs, 0, none⟩ = some (.string t) := by
            obtain ⟨o, ho, hi'⟩ := cells_of_cell hc1
            rw [World.cell?_of_block (w := W1) ((hk3.2 _ _ ho (.inl ⟨hi', hXs⟩)).trans ho.symm)]
            exact hc1
          clear hR hy hY hnx hJ1 hi1 hc1
          gi_wp2
          go_roundw
          case rel => exact ⟨pos, pos + wd, _, rfl, Part.snoc ⟨(a, pos), hlt, by simp only; omega⟩ hP, .inl (by omega), .inl hp, hJ3, hi3, hc3⟩
          case measure => rw [iterPos_of hi3, hip]; omega
        · clear hR hy hY hnx hJ1 hi1 hc1
          gi_wp2
          refine bodyPost_ret (results_none rfl _ _ _) rfl ?_
          exact ⟨⟨_, rfl⟩, .inr ⟨_, ⟨pos, by omega, Part.snoc ⟨(a, pos), hlt, by simp only; omega⟩ hP⟩, hJx3⟩⟩
      · obtain ⟨rfl, rfl⟩ : a = 0 ∧ pos = 0 := by omega
        gi_wp2
        repeat (refine ⟨fun _ _ => trivial, ?_⟩; gi_wp2)
        go_roundw
        case rel => exact ⟨0, 0 + wd, pre, rfl, hP, .inl (by omega), .inr rfl, hJ1, hi1, hc1⟩
        case measure => rw [iterPos_of hi1, hip]; omega
    · have hnx := fun ty => run_next_end_at (P := Tryz.prog) wr B0 t pos ty hit hp
      by_cases hlt : a < t.size
      · have e1 : (a : Int) < (t.size : Int) := by omega
        obtain ⟨fn, tmps, assign, body, hy, hR⟩ := hY pre ⟨(a, t.size), hlt, Nat.le_refl _⟩ wr hJ (by have := hP.len; omega)
        unfold runeV at hy
        dsimp only at hy
        gi_wp2
        refine hR.mono ?_
        rintro e W3 (⟨rfl, hJ3, hk3⟩ | ⟨rfl, hJx3⟩)
        · clear hR hy hY hnx hJ
          gi_wp2
          go_end0
          exact ⟨⟨_, rfl⟩, .inl ⟨_, Part.snoc ⟨(a, t.size), hlt, Nat.le_refl _⟩ hP, hJ3⟩⟩
        · clear hR hy hY hnx hJ
          gi_wp2
          go_end0
          exact ⟨⟨_, rfl⟩, .inr ⟨_, ⟨t.size, Nat.le_refl _, Part.snoc ⟨(a, t.size), hlt, Nat.le_refl _⟩ hP⟩, hJx3⟩⟩
      · obtain ⟨rfl, h0⟩ : a = 0 ∧ t.size = 0 := by omega
        have HJ : Hid (J pre wr) := hJ
        have HP : Hid (Part 0 pre) := hP
        clear hY
        gi_wp2
        go_end0
        exact ⟨⟨_, rfl⟩, .inl ⟨pre, HP.out, HJ.out⟩⟩
theorem runesOf_stops (n : Nat) (hn : 1 ≤ n) (Bs X : Nat) (hX : Bs ≠ X) (t : ByteArray) (w : World) (hB : Cells w Bs 9 #[.string t]) :
    SeqStopsK Fence.wide n Tryz.prog 114 #[.pointer (some ⟨Bs, 0, none⟩)] (runeV t) (KeepR w.heap.size X) (fun ys => Part t.size ys) (fun pre => ∃ e, e ≤ t.size ∧ Part e pre) t.size w := fun l J Jx W hW hA _ hY h0 =>
  runesOf1_in n hn l Bs w.heap.size X W.heap.size t hW.size hX J Jx hA hY W rfl ((hB.kept hW).cell 0) h0
end Go.Proofs.YtpbafjcoomfooaaGreat
namespace Go.Proofs.YtpbafjcoomfooaaGreat
open Go.RowKit Go.Maps

theorem str_is {xs : List Int} {t : ByteArray} (hx : ∀ i, i < xs.length → 0 ≤ xs.getD i 0 ∧ xs.getD i 0 ≤ 255) : strOfNums xs = t ↔ xs.length = t.size ∧ ∀ i, i < xs.length → xs.getD i 0 = byteN t i := by
  have hb : ∀ i, i < xs.length → byteN (strOfNums xs) i = xs.getD i 0 := fun i hi => by
    have h := hx i hi
    unfold byteN strOfNums
    simp only [List.getD_eq_getElem?_getD, List.getElem?_eq_getElem hi, Option.getD_some] at h ⊢
    simp [hi]
    omega
  constructor
  · rintro rfl
    exact ⟨(strOfNums_size xs).symm, fun i hi => (hb i hi).symm⟩
  · rintro ⟨h1, h2⟩
    have hs : (strOfNums xs).size = t.size := (strOfNums_size xs).trans h1
    apply WideShapes.bytes_inj
    apply List.ext_getElem
    · exact hs
    · intro i hi1 hi2
      have hi : i < xs.length := by
        have : i < (strOfNums xs).size := hi1
        rwa [strOfNums_size] at this
      have := (hb i hi).trans (h2 i hi)
      unfold byteN at this
      rw [Array.getD_eq_getD_getElem?, Array.getD_eq_getD_getElem?, Array.getElem?_eq_getElem (by simpa using hi1), Array.getElem?_eq_getElem (by simpa using hi2)] at this
      simp only [Option.getD_some] at this
      have h3 : ((strOfNums xs).data[i]'(by simpa using hi1)).toNat = (t.data[i]'(by simpa using hi2)).toNat := by omega
      simpa using UInt8.toNat_inj.1 h3
theorem sameAs_iff (g : Nat → Int) (t : ByteArray) (k : Nat) : sameAs g t k = true ↔ ∀ i, i < k → g i = byteN t i := by
  unfold sameAs
  rw [List.all_eq_true]
  constructor
  · intro h i hi
    simpa using h i (List.mem_range.2 hi)
  · intro h i hi
    simpa using h i (List.mem_range.1 hi)
theorem extract_size (t : ByteArray) (a b : Nat) (h : b ≤ t.size) : (t.extract a b).size = b - a := by
  rw [ByteArray.size_extract]; omega
theorem extract_byte (t : ByteArray) (a b i : Nat) (h : b ≤ t.size) (hi : i < b - a) : byteN (t.extract a b) i = byteN t (a + i) := by
  have h1 : i < (t.extract a b).size := by rw [extract_size t a b h]; exact hi
  rw [← byteN_get _ _ h1, ← byteN_get t (a + i) (by omega), ByteArray.getElem_extract]
def likeAll (zs : List Int) (t : ByteArray) (ys : List (PieceOf t.size)) (k : Nat) : Bool := ys.all (fun x => likeAt zs x.1.1 (t.extract x.1.1 x.1.2) k)
theorem likeAll_iff {zs : List Int} {t : ByteArray} {e : Nat} {ys : List (PieceOf t.size)} (h : Part e ys) (k : Nat) : likeAll zs t ys k = true ↔ ∀ i, i < e → hz zs (k + 2 + i) = byteN t i := by
  induction h with
  | nil => simp [likeAll]
  | @snoc ys x hp ih =>
    have hx := x.2
    have hl : likeAll zs t (ys ++ [x]) k = (likeAll zs t ys k && likeAt zs x.1.1 (t.extract x.1.1 x.1.2) k) := by simp [likeAll, List.all_append]
    rw [hl, Bool.and_eq_true, ih]
    unfold likeAt
    rw [sameAs_iff, extract_size t _ _ hx.2]
    constructor
    · rintro ⟨h1, h2⟩ i hi
      by_cases hlt : i < x.1.1
      · exact h1 i hlt
      · have := h2 (i - x.1.1) (by omega)
        rw [extract_byte t _ _ _ hx.2 (by omega)] at this
        rw [show x.1.1 + (i - x.1.1) = i by omega] at this
        rw [← this]
        congr 1
        omega
    · intro h
      refine ⟨fun i hi => h i (by omega), fun i hi => ?_⟩
      rw [extract_byte t _ _ _ hx.2 hi, ← h (x.1.1 + i) (by omega)]
      congr 1
      omega
theorem isThere_iff {L : Nat} (bs : List (BkOf L)) (k : Nat) : isThere bs k = true ↔ ∃ b ∈ bs, b.1.kind = 1 ∧ b.1.at' = k := by
  unfold isThere
  rw [List.any_eq_true]
  constructor
  · rintro ⟨b, hb, h⟩
    simp at h
    exact ⟨b, hb, h.1, h.2.symm⟩
  · rintro ⟨b, hb, h1, h2⟩
    exact ⟨b, hb, by simp [h1, h2]⟩
/-- Those that are left. -/
def leftT (zs : List Int) (t : ByteArray) (ys : List (PieceOf t.size)) (k : Nat) : Bool := (isThere (blocks zs) k && decide (hz zs (k + 1) = t.size)) && likeAll zs t ys k
theorem leftT_snoc (zs : List Int) (t : ByteArray) (ys : List (PieceOf t.size)) (x : PieceOf t.size) (k : Nat) : leftT zs t (ys ++ [x]) k = (leftT zs t ys k && likeAt zs x.1.1 (t.extract x.1.1 x.1.2) k) := by
  simp [leftT, likeAll, List.all_append, Bool.and_assoc]
theorem isText_iff {zs : List Int} {t : ByteArray} (hh : heapR zs = true) {b : BkOf zs.length} (hb : b ∈ blocks zs) : isText zs t b = true ↔ b.1.kind = 1 ∧ hz zs (b.1.at' + 1) = t.size ∧ ∀ i, i < t.size → hz zs (b.1.at' + 2 + i) = byteN t i := by
  unfold isText
  rw [decide_eq_true_eq]
  constructor
  · rintro ⟨hk, hs⟩
    obtain ⟨n, hn, hns, hby⟩ := text_facts hh hb hk
    have hT : textL zs b.1.at' = bytesL zs (b.1.at' + 2) n := by unfold textL; rw [hn]; simp
    rw [hT, str_is (fun i hi => by rw [bytesL_len] at hi; rw [bytesL_at hi]; exact hby i hi), bytesL_len] at hs
    refine ⟨hk, by omega, fun i hi => ?_⟩
    rw [← hs.2 i (by omega), bytesL_at (by omega)]
  · rintro ⟨hk, hz1, hs⟩
    obtain ⟨n, hn, hns, hby⟩ := text_facts hh hb hk
    obtain rfl : n = t.size := by omega
    have hT : textL zs b.1.at' = bytesL zs (b.1.at' + 2) t.size := by unfold textL; rw [hn]; simp
    refine ⟨hk, ?_⟩
    rw [hT, str_is (fun i hi => by rw [bytesL_len] at hi; rw [bytesL_at hi]; exact hby i hi), bytesL_len]
    refine ⟨rfl, fun i hi => ?_⟩
    rw [bytesL_at hi]
    exact hs i hi
theorem leftT_fits {zs : List Int} {t : ByteArray} (hh : heapR zs = true) {ys : List (PieceOf t.size)} {k : Nat} (h : leftT zs t ys k = true) : k + 2 + t.size ≤ zs.length := by
  unfold leftT at h
  simp only [Bool.and_eq_true, decide_eq_true_eq] at h
  obtain ⟨b, hb, h1, rfl⟩ := (isThere_iff _ _).1 h.1.1
  obtain ⟨n, hn, hns, hby⟩ := text_facts hh hb h1
  have := b.2.2.1
  omega
theorem leftT_iff {zs : List Int} {t : ByteArray} (hh : heapR zs = true) {ys : List (PieceOf t.size)} (h : Part t.size ys) (k : Nat) : leftT zs t ys k = true ↔ ∃ b ∈ blocks zs, b.1.at' = k ∧ isText zs t b = true := by
  unfold leftT
  simp only [Bool.and_eq_true, decide_eq_true_eq]
  rw [likeAll_iff h, isThere_iff]
  constructor
  · rintro ⟨⟨⟨b, hb, h1, rfl⟩, h2⟩, h3⟩
    exact ⟨b, hb, rfl, (isText_iff hh hb).2 ⟨h1, h2, h3⟩⟩
  · rintro ⟨b, hb, rfl, h1⟩
    have := (isText_iff hh hb).1 h1
    exact ⟨⟨⟨b, hb, this.1, rfl⟩, this.2.1⟩, this.2.2⟩
def atV {L : Nat} : Option (BkOf L) → Value
  | some b => .tuple #[.int .i64 ((b.1.at' : Nat) : Int), .bool true]
  | none => .tuple #[.int .i64 0, .bool false]
theorem least_find {zs : List Int} {t : ByteArray} (hh : heapR zs = true) {ys : List (PieceOf t.size)} (h : Part t.size ys) {l : Int} {f : Bool} (hL : Least (leftT zs t ys) (fun _ => false) l f) : (.tuple #[.int .i64 l, .bool f] : Value) = atV (findT zs t) := by
  rcases hL with ⟨rfl, rfl, h3⟩ | ⟨rfl, m, rfl, h3, h4⟩
  · have : findT zs t = none := findT_none (fun b hb => by
      cases hx : isText zs t b with
      | false => rfl
      | true =>
        have := h3 b.1.at' ((leftT_iff hh h _).2 ⟨b, hb, rfl, hx⟩)
        cases this)
    rw [this]; rfl
  · obtain ⟨c, hc, rfl, hx⟩ := (leftT_iff hh h m).1 h3
    have : findT zs t = some c := by
      unfold findT
      cases hf : (blocks zs).find? (isText zs t) with
      | none => exact absurd hx (by simpa using List.find?_eq_none.1 hf c hc)
      | some b =>
        have hb := List.mem_of_find?_eq_some hf
        have hbt := List.find?_some hf
        have hle := h4 b.1.at' ((leftT_iff hh h _).2 ⟨b, hb, rfl, hbt⟩) rfl
        obtain ⟨pre, post, e, hno⟩ := List.find?_eq_some_iff_append.1 hf |>.2
        have hs := blks_sorted zs 0
        rw [show blks zs 0 = blocks zs from rfl, e] at hs
        rw [e] at hc
        rcases List.mem_append.1 hc with hc | hc
        · have := hno c hc; rw [hx] at this; cases this
        · rcases List.mem_cons.1 hc with rfl | hc
          · rfl
          · have := (List.pairwise_cons.1 (List.pairwise_append.1 hs).2.1).1 c hc
            omega
    rw [this]; rfl
theorem none_find {zs : List Int} {t : ByteArray} (hh : heapR zs = true) {e : Nat} {ys : List (PieceOf t.size)} (he : e ≤ t.size) (h : Part e ys) (hno : ∀ k, leftT zs t ys k = false) : findT zs t = none :=
  findT_none (fun b hb => by
    cases hx : isText zs t b with
    | false => rfl
    | true =>
      have h1 := (isText_iff hh hb).1 hx
      have : leftT zs t ys b.1.at' = true := by
        unfold leftT
        simp only [Bool.and_eq_true, decide_eq_true_eq]
        exact ⟨⟨(isThere_iff _ _).2 ⟨b, hb, h1.1, rfl⟩, h1.2.1⟩, (likeAll_iff h _).2 (fun i hi => h1.2.2 i (by omega))⟩
      rw [hno] at this; cases this)
end Go.Proofs.YtpbafjcoomfooaaGreat
namespace Go.Proofs.YtpbafjcoomfooaaGreat
open Go.RowKit Go.Shelf Go.Maps
attribute [local go_sem] Oper.semAt_some

theorem TextMap.some_left {w : World} {b n : Nat} {zs : List Int} {p : Nat → Bool} {D : DataW Unit} (h1 : w.ownsMap Tryz.prog 3 (plainElem Tryz.prog 3) b n D) (h2 : MapIs zs D p) (hs : Maps.size D ≠ 0) : ∃ k, p k = true := by
  obtain ⟨es, rfl, _, hk⟩ := h1.entries lawI
  cases es with
  | nil => exact absurd rfl hs
  | cons e es =>
    have : Maps.has (.map (e :: es)) e.1 = true := by simp [Maps.has, WideAt.sameKey_self (hk e (by simp))]
    obtain ⟨k, hx⟩ := h2.only _ this
    exact ⟨k, by rw [← h2.has, ← hx]; exact this⟩
theorem grown_keepR {W W' : World} {b n B : Nat} {zs : List Int} {p : Nat → Bool} (h : TextMap W b n zs p) (hg : W.grownBy W' (some b)) (hb : b < B) : KeepR B b W W' :=
  ⟨hg.size, fun k o ek hc => (hg.block k (Array.getElem?_eq_some_iff.1 ek).1 (by
    intro e'
    cases e'
    obtain ⟨D, ⟨es, cl, hm, _⟩, _⟩ := h
    rw [hm] at ek
    cases ek
    rcases hc with hc | hc
    · cases hc.1
    · omega)).trans ek⟩
theorem Cells.grownB {W W' : World} {r B : Nat} {t : TypeId} {cs : Array Value} (h : Cells W r t cs) (hg : W.grownBy W' (some B)) (hne : r ≠ B) : Cells W' r t cs :=
  (hg.block r h.lt (by intro e; cases e; exact hne rfl)).trans h
theorem MapIs.none_left {zs : List Int} {p : Nat → Bool} {D : DataW Unit} (h2 : MapIs zs D p) (hm : IsMap D) (hs : Maps.size D = 0) (k : Nat) : p k = false := by
  obtain ⟨es, rfl⟩ := hm
  cases es with
  | nil => rw [← h2.has]; rfl
  | cons e es => simp [Maps.size] at hs

set_option maxHeartbeats 4000000 in
set_option maxRecDepth 100000 in
theorem textAt_ok (w : World) (ao : Option Addr) (cap : Nat) (zs : List Int) (t : ByteArray) (hI : Ints w ao zs) (hl : zs.length ≤ 1048576) (hcap : zs.length ≤ cap) (hh : heapR zs = true) :
    Calls Tryz.prog 35 #[.slice ao zs.length cap, .string t] w fun e w' => e = .returned (atV (findT zs t)) ∧ Kept w w' := by
  have b0 := Cells.new w 24 #[.slice ao zs.length cap]
  have k0 : Kept w (w.alloc (.cells #[.slice ao zs.length cap] 24)) := Kept.alloc (Below.refl _ _) _
  have hsz0 : (w.alloc (.cells #[.slice ao zs.length cap] 24)).heap.size = w.heap.size + 1 := by simp
  have hT := textsOf_ok _ ao cap zs (hI.kept k0) hl hh
  refine (callsIn_wide (n := 3)).1 ?_
  refine callsIn_of_wp_marks Tryz.func35 rfl trivial ?_ rfl
  simp only [Tryz.ntmps35, List.size_toArray, List.length_cons, List.length_nil, Nat.reduceAdd, Nat.reduceSub, Array.replicate_succ, Array.replicate_zero, List.push_toArray, List.append_toArray, List.nil_append, List.cons_append]
  refine wpIn_wide.2 ?_
  go_wp2_with fail
  refine hT.mono ?_
  rintro e w1 ⟨b, n, rfl, hb, hT1, hk1⟩
  have hs1 := hk1.size
  rw [hsz0] at hs1 hb
  have bW1 := b0.kept hk1
  have kW1 := k0.trans hk1
  have hb1 : b < w1.heap.size := by obtain ⟨D, h, _⟩ := hT1; exact h.lt
  have hT2 := hT1.kept (World.grownBy_alloc w1 (.cells #[.map (some b)] 89) none) (by simp)
  have hG := giveOther_ok _ b n zs _ t.size hT2
  have bT2 := Cells.new w1 89 #[.map (some b)]
  have bW2 := bW1.alloc (.cells #[.map (some b)] 89)
  have cT2 := bT2.cell 0
  have cW2 := bW2.cell 0
  clear hT hT1 hT2 b0
  go_wp2_with (first
    | (go_at_call 75; refine hG.mono ?_; rintro e w2 ⟨rfl, hT3, hg3⟩)
    | (go_at_call 76; refine (runesOf_ok _ _).mono ?_; rintro e w3 ⟨rfl, rfl⟩))
  have hs2 := hg3.size
  simp only [World.size_alloc] at hs2
  have kW2 : Kept w w2 := (kW1.alloc (.cells #[.map (some b)] 89)).grownRow hg3 (fun j e => by cases e; omega)
  have bT3 := (bT2.grownB hg3 (by omega)).alloc (.cells #[.string t] 9)
  have bW3 := (bW2.grownB hg3 (by omega)).alloc (.cells #[.string t] 9)
  have bB := Cells.new w2 9 #[.string t]
  have kW3 := kW2.alloc (.cells #[.string t] 9)
  have hT4 : TextMap (w2.alloc (.cells #[.string t] 9)) b n zs (leftT zs t []) := (hT3.kept (World.grownBy_alloc w2 (.cells #[.string t] 9) none) (by simp)).congr (fun k => by simp [leftT, likeAll])
  have hsz : (w2.alloc (.cells #[.string t] 9)).heap.size = w2.heap.size + 1 := by simp
  obtain ⟨W0, hW0⟩ : ∃ W0, w2.alloc (.cells #[.string t] 9) = W0 := ⟨_, rfl⟩
  rw [hW0] at bT3 bW3 bB kW3 hT4 hsz ⊢
  clear hW0 hG hT3 hg3 kW2 bT2 bW2 cT2 cW2 bW1 kW1 hk1 k0 hsz0
  refine (wpIn_wide (n := 3)).1 ?_
  refine wpIn_rangeFunc_ownH rfl (by omega) rfl trivial (enters_of Tryz.func114 (by kernel_rfl) rfl)
    (runesOf_stops (3 - 1) (by omega) w2.heap.size b (by omega) t W0 bB) KeepR.t (fun W l o o' _ h h1 h2 => KeepR.b W l o o' h h1 h2) (Below.refl _ _) (fun _ => rfl)
    (fun pre W => (TextMap W b n zs (leftT zs t pre) ∧ Cells W w1.heap.size 89 #[.map (some b)] ∧ Cells W w.heap.size 24 #[.slice ao zs.length cap]) ∧ Below w.heap.size w W)
    (fun c ys W => (c = .exit 0 ∧ ∃ pre x, ys = pre ++ [x] ∧ ∀ k, leftT zs t pre k = false) ∧ (TextMap W b n zs (fun _ => false) ∧ Cells W w1.heap.size 89 #[.map (some b)]) ∧ Below w.heap.size w W)
    (OwnFrom.and (OwnFrom.and (fun s Y Z row h hg hr => h.kept hg (fun e => by have := (hr _ e.symm).1; omega)) (OwnFrom.and (Own.from (Cells.own _ _ _) _) (Own.from (Cells.own _ _ _) _))) (ownFrom_below (Nat.le_refl _) (by omega)))
    (fun c => OwnFrom.and (fun s Y Z row h hg hr => h) (OwnFrom.and (OwnFrom.and (fun s Y Z row h hg hr => h.kept hg (fun e => by have := (hr _ e.symm).1; omega)) (Own.from (Cells.own _ _ _) _)) (ownFrom_below (Nat.le_refl _) (by omega))))
    ⟨⟨hT4, bT3, bW3⟩, kW3⟩
    (fun x a' _ => a' = { tmps := #[.slice ao zs.length cap, .string t, .pointer (some ⟨w.heap.size, 0, none⟩), undef, .int .i64 0, .bool false, .pointer (some ⟨w1.heap.size, 0, none⟩), .int .i64 (x.1.1 : Nat), .string (t.extract x.1.1 x.1.2), .slice ao zs.length cap, .map (some b), .map (some b), .string t, .int .i64 t.size, .tuple #[], .string t, .func (.func 114) #[] #[.pointer (some ⟨w2.heap.size, 0, none⟩)], .int .i64 (x.1.1 : Nat), .string (t.extract x.1.1 x.1.2), undef, undef, undef, undef, undef, undef, undef, undef, undef, undef, undef, undef], defers := [] })
    (fun x a' _ Y Z row hs _ _ => hs)
    ?assign ?body ?done ?stop
  case assign =>
    intro l pre x W K hi hK
    simp only [runeV, List.zip_toArray, List.zip_cons_cons, List.zip_nil_right, List.foldl_toArray, List.foldl_cons, List.foldl_nil, List.setIfInBounds_toArray, List.set_cons_succ, List.set_cons_zero]
    gi_wp2
    exact hK _ _ (KeepsFrom.refl _ _) (KeepR.of (Below.refl _ _)) hi rfl
  case body =>
    rintro l pre x a' W _ _ ⟨⟨⟨D, hown, hM⟩, bT5, bW5⟩, hB5⟩ rfl hlt
    have cT5 := bT5.cell 0
    have cW5 := bW5.cell 0
    have hx := x.2
    have hlen := fun ty => hown.len (t := 89) Tryz.underlying89 ty
    by_cases hs : Maps.size D = 0
    · have HN : Hid (∀ k, leftT zs t pre k = false) := fun k => hM.none_left hown.isMap hs k
      have HT : Hid (TextMap W b n zs (fun _ => false)) := (show TextMap W b n zs (leftT zs t pre) from ⟨D, hown, hM⟩).congr (fun k => HN.out k)
      rw [hs] at hlen
      clear hs hM hown hx hlt
      gi_wp2
      exact ⟨(KeepsOthers.refl _).from _, ⟨rfl, pre, x, rfl, HN.out⟩, ⟨HT.out, bT5⟩, hB5⟩
    · obtain ⟨k0, hk0⟩ := TextMap.some_left hown hM hs
      have hfit0 := leftT_fits hh hk0
      obtain ⟨bb, off, e, hc⟩ := hI.at (k := 0) (by omega)
      have hblt : bb < w.heap.size := World.block_lt_of_cell? _ _ (hc 0 (by omega))
      subst e
      have hex := extract_size t x.1.1 x.1.2 hx.2
      have hTm : TextMap W b n zs (leftT zs t pre) := ⟨D, hown, hM⟩
      have hU := giveUnlike_ok W b n zs (leftT zs t pre) bb off cap x.1.1 (t.extract x.1.1 x.1.2) hTm (hI.kept hB5) (by omega) hl hcap (by omega) (fun k hk => by have := leftT_fits hh hk; omega)
      have HT : Hid (TextMap W b n zs (leftT zs t pre)) := hTm
      have e0 : (((Maps.size D : Nat) : Int) == 0) = false := by simp; omega
      obtain ⟨sd, hsd⟩ : ∃ sd : Int, ((Maps.size D : Nat) : Int) = sd := ⟨_, rfl⟩
      rw [hsd] at hlen e0
      clear hs hM hown hk0 hfit0 hc hex hlt hTm hsd
      gi_wp2_with (refine ⟨trivial, ?_⟩; gi_at_call 77; refine (CallsIn.inRound l (callsIn_wide.2 hU)).mono ?_; rintro e w4 ⟨rfl, hT6, hg6⟩)
      refine ⟨KeepsFrom.of_grownBy hg6 (fun j e => by cases e; omega), grown_keepR HT.out hg6 (by omega), ⟨⟨hT6.congr (fun k => (leftT_snoc zs t pre x k).symm), bT5.grownB hg6 (by omega), bW5.grownB hg6 (by omega)⟩, hB5.grown hg6 hB5.size (fun j e => by cases e; omega)⟩⟩
  case done =>
    rintro D ys W hD hP ⟨⟨hT5, bT5, bW5⟩, hB5⟩ hK
    have cT5 := bT5.cell 0
    have hFi := first_ok W b n zs _ hT5
    go_wp2_with (go_at_call 78; refine hFi.mono ?_; rintro e w6 ⟨l, f, rfl, hL, hk6⟩)
    have hK' : w6.heap[D]? = some (.deferred (some [])) := (hk6.block D (Array.getElem?_eq_some_iff.1 hK).1).trans hK
    refine ⟨by simp, .inl ⟨_, _, rfl, run_takeDeferred hK', ?_⟩⟩
    refine ⟨.tuple #[.int .i64 l, .bool f], by simp [results, Tryz.results35, go_sem], by rw [least_find hh hP hL], ?_⟩
    exact (hB5.trans (hk6.mono hB5.size)).trans (belowK_b (w := w) (Nat.le_refl _) _ D _ _ (by omega) hK' rfl rfl)
  case stop =>
    rintro D c ys W hD ⟨e, he, hP⟩ ⟨⟨rfl, pre, x, rfl, hno⟩, ⟨hT5, bT5⟩, hB5⟩ hK
    have cT5 := bT5.cell 0
    have hFi := first_ok W b n zs _ hT5
    have HN : Hid (findT zs t = none) := none_find hh he hP (fun k => by rw [leftT_snoc, hno]; rfl)
    clear hno hP
    gi_wp2_with fail
    go_wp2_with (go_at_call 78; refine hFi.mono ?_; rintro e w6 ⟨l, f, rfl, hL, hk6⟩)
    have hK' : w6.heap[D]? = some (.deferred (some [])) := (hk6.block D (Array.getElem?_eq_some_iff.1 hK).1).trans hK
    refine ⟨by simp, .inl ⟨_, _, rfl, run_takeDeferred hK', ?_⟩⟩
    refine ⟨.tuple #[.int .i64 l, .bool f], by simp [results, Tryz.results35, go_sem], ?_, ?_⟩
    · rw [HN.out]
      rcases hL with ⟨rfl, rfl, _⟩ | ⟨_, m, _, h, _⟩
      · rfl
      · cases h
    exact (hB5.trans (hk6.mono hB5.size)).trans (belowK_b (w := w) (Nat.le_refl _) _ D _ _ (by omega) hK' rfl rfl)
end Go.Proofs.YtpbafjcoomfooaaGreat
namespace Go.Proofs.YtpbafjcoomfooaaGreat
open Go.RowKit

set_option maxHeartbeats 4000000 in
set_option maxRecDepth 100000 in
theorem impl_TextFind_ok (w : World) (ao : Option Addr) (cap : Nat) (zs : List Int) (t : ByteArray) (hI : Ints w ao zs) (hl : zs.length ≤ 1048576) (hcap : zs.length ≤ cap) :
    Calls Tryz.prog 13 #[.agg #[.slice ao zs.length cap], .string t] w fun e w' => e = .returned (textFindV zs t) ∧ Kept w w' := by
  have b0 := Cells.new w 26 #[.slice ao zs.length cap]
  have k0 : Kept w (w.alloc (.cells #[.slice ao zs.length cap] 26)) := Kept.alloc (Below.refl _ _) _
  have hH := impl_HeapOk_ok _ ao cap zs (hI.kept k0) hl
  cases hh : heapR zs with
  | false =>
    have HR : Hid (textFindV zs t = .tuple #[.int .i64 0, .bool false]) := by simp [Hid, textFindV, hh]
    rw [hh] at hH
    clear hh hI
    go_enter Tryz.func13, Tryz.ntmps13
    go_wp2_with (go_at_call 17; refine hH.mono ?_; rintro e w1 ⟨rfl, hk1⟩)
    go_ret2
    exact ⟨by rw [HR.out]; rfl, k0.trans hk1⟩
  | true =>
    rw [hh] at hH
    have hA := fun (u : World) (hu : Kept w u) => textAt_ok u ao cap zs t (hI.kept hu) hl hcap hh
    have hlen : zs.length ≤ 2000 := (slabOk_iff.1 (heapR_slab hh)).1
    cases hf : findT zs t with
    | none =>
      have HR : Hid (textFindV zs t = .tuple #[.int .i64 0, .bool false]) := by simp [Hid, textFindV, hh, hf, findV]
      rw [hf] at hA
      have HC : Hid (∀ u, Kept w u → Calls Tryz.prog 35 #[.slice ao zs.length cap, .string t] u fun e w' => e = .returned (.tuple #[.int .i64 0, .bool false]) ∧ Kept u w') := hA
      clear hh hI hA hf hcap
      go_enter Tryz.func13, Tryz.ntmps13
      go_wp2_with (first | (go_at_call 17; refine hH.mono ?_; rintro e w1 ⟨rfl, hk1⟩; have hk2 := k0.trans hk1; have hb1 := b0.kept hk1; have cb1 := hb1.cell 0) | (go_at_call 35; refine (HC.out _ hk2).mono ?_; rintro e w2 ⟨rfl, hk3⟩))
      go_ret2
      exact ⟨by rw [HR.out]; rfl, hk2.trans hk3⟩
    | some b =>
      have hb2 := b.2.2.1
      have hb3 := b.2.1
      obtain ⟨m, hm⟩ : ∃ m : Nat, b.1.at' = m := ⟨_, rfl⟩
      have HR : Hid (textFindV zs t = .tuple #[.int .i64 (8 * (m : Int) + 4), .bool true]) := by simp [Hid, textFindV, hh, hf, findV, hm]
      rw [hf] at hA
      have HC : Hid (∀ u, Kept w u → Calls Tryz.prog 35 #[.slice ao zs.length cap, .string t] u fun e w' => e = .returned (.tuple #[.int .i64 (m : Int), .bool true]) ∧ Kept u w') := fun u hu => (hA u hu).mono (fun e w' h => ⟨by rw [h.1]; simp [atV, hm], h.2⟩)
      have hm2 : m < 2000 := by omega
      clear hh hI hA hf hcap hb2 hb3 hm
      go_enter Tryz.func13, Tryz.ntmps13
      go_wp2_with (first | (go_at_call 17; refine hH.mono ?_; rintro e w1 ⟨rfl, hk1⟩; have hk2 := k0.trans hk1; have hb1 := b0.kept hk1; have cb1 := hb1.cell 0) | (go_at_call 35; refine (HC.out _ hk2).mono ?_; rintro e w2 ⟨rfl, hk3⟩) | (go_at_call 37; refine (impl_RefOf_ok _ _ _).mono ?_; rintro e wx ⟨rfl, rfl⟩))
      go_ret2
      exact ⟨by rw [HR.out, vRef_yes (by omega)]; rfl, hk2.trans hk3⟩
end Go.Proofs.YtpbafjcoomfooaaGreat
