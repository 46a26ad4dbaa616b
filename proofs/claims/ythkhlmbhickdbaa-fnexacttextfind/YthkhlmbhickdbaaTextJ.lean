/-
  The texts that stay when all pieces have been looked at are those with these bytes; the least of them is the first.
-/
import Derived.Test.YthkhlmbhickdbaaTextH
import Derived.Test.YthkhlmbhickdbaaTextI
import Derived.Test.YthkhlmbhickdbaaTextC
namespace Go.Proofs.Ythkhlmbhickdbaa
open Go.RowKit Go.Maps

theorem str_is {xs : List Int} {t : ByteArray} (hx : ∀ i, i < xs.length → 0 ≤ xs.getD i 0 ∧ xs.getD i 0 ≤ 255) : strOfNums xs = t ↔ xs.length = t.size ∧ ∀ i, i < xs.length → xs.getD i 0 = byteN t i := by
  have hb : ∀ i, i < xs.length → byteN (strOfNums xs) i = xs.getD i 0 := fun i hi => by
    have h := hx i hi
    unfold byteN strOfNums
    simp only [List.getD_eq_getElem?_getD, List.getElem?_eq_getElem hi, Option.getD_some] at h ⊢
    simp [hi]
    omega
  constructor
  · rintro rfl
    exact ⟨(strOfNums_size xs).symm, fun i hi => (hb i hi).symm⟩
  · rintro ⟨h1, h2⟩
    have hs : (strOfNums xs).size = t.size := (strOfNums_size xs).trans h1
    apply WideShapes.bytes_inj
    apply List.ext_getElem
    · exact hs
    · intro i hi1 hi2
      have hi : i < xs.length := by
        have : i < (strOfNums xs).size := hi1
        rwa [strOfNums_size] at this
      have := (hb i hi).trans (h2 i hi)
      unfold byteN at this
      rw [Array.getD_eq_getD_getElem?, Array.getD_eq_getD_getElem?, Array.getElem?_eq_getElem (by simpa using hi1), Array.getElem?_eq_getElem (by simpa using hi2)] at this
      simp only [Option.getD_some] at this
      have h3 : ((strOfNums xs).data[i]'(by simpa using hi1)).toNat = (t.data[i]'(by simpa using hi2)).toNat := by omega
      simpa using UInt8.toNat_inj.1 h3
theorem sameAs_iff (g : Nat → Int) (t : ByteArray) (k : Nat) : sameAs g t k = true ↔ ∀ i, i < k → g i = byteN t i := by
  unfold sameAs
  rw [List.all_eq_true]
  constructor
  · intro h i hi
    simpa using h i (List.mem_range.2 hi)
  · intro h i hi
    simpa using h i (List.mem_range.1 hi)
theorem extract_size (t : ByteArray) (a b : Nat) (h : b ≤ t.size) : (t.extract a b).size = b - a := by
  rw [ByteArray.size_extract]; omega
theorem extract_byte (t : ByteArray) (a b i : Nat) (h : b ≤ t.size) (hi : i < b - a) : byteN (t.extract a b) i = byteN t (a + i) := by
  have h1 : i < (t.extract a b).size := by rw [extract_size t a b h]; exact hi
  rw [← byteN_get _ _ h1, ← byteN_get t (a + i) (by omega), ByteArray.getElem_extract]
def likeAll (zs : List Int) (t : ByteArray) (ys : List (PieceOf t.size)) (k : Nat) : Bool := ys.all (fun x => likeAt zs x.1.1 (t.extract x.1.1 x.1.2) k)
theorem likeAll_iff {zs : List Int} {t : ByteArray} {e : Nat} {ys : List (PieceOf t.size)} (h : Part e ys) (k : Nat) : likeAll zs t ys k = true ↔ ∀ i, i < e → hz zs (k + 2 + i) = byteN t i := by
  induction h with
  | nil => simp [likeAll]
  | @snoc ys x hp ih =>
    have hx := x.2
    have hl : likeAll zs t (ys ++ [x]) k = (likeAll zs t ys k && likeAt zs x.1.1 (t.extract x.1.1 x.1.2) k) := by simp [likeAll, List.all_append]
    rw [hl, Bool.and_eq_true, ih]
    unfold likeAt
    rw [sameAs_iff, extract_size t _ _ hx.2]
    constructor
    · rintro ⟨h1, h2⟩ i hi
      by_cases hlt : i < x.1.1
      · exact h1 i hlt
      · have := h2 (i - x.1.1) (by omega)
        rw [extract_byte t _ _ _ hx.2 (by omega)] at this
        rw [show x.1.1 + (i - x.1.1) = i by omega] at this
        rw [← this]
        congr 1
        omega
    · intro h
      refine ⟨fun i hi => h i (by omega), fun i hi => ?_⟩
      rw [extract_byte t _ _ _ hx.2 hi, ← h (x.1.1 + i) (by omega)]
      congr 1
      omega
theorem isThere_iff {L : Nat} (bs : List (BkOf L)) (k : Nat) : isThere bs k = true ↔ ∃ b ∈ bs, b.1.kind = 1 ∧ b.1.at' = k := by
  unfold isThere
  rw [List.any_eq_true]
  constructor
  · rintro ⟨b, hb, h⟩
    simp at h
    exact ⟨b, hb, h.1, h.2.symm⟩
  · rintro ⟨b, hb, h1, h2⟩
    exact ⟨b, hb, by simp [h1, h2]⟩
/-- Those that are left. -/
def leftT (zs : List Int) (t : ByteArray) (ys : List (PieceOf t.size)) (k : Nat) : Bool := (isThere (blocks zs) k && decide (hz zs (k + 1) = t.size)) && likeAll zs t ys k
theorem leftT_snoc (zs : List Int) (t : ByteArray) (ys : List (PieceOf t.size)) (x : PieceOf t.size) (k : Nat) : leftT zs t (ys ++ [x]) k = (leftT zs t ys k && likeAt zs x.1.1 (t.extract x.1.1 x.1.2) k) := by
  simp [leftT, likeAll, List.all_append, Bool.and_assoc]
theorem isText_iff {zs : List Int} {t : ByteArray} (hh : heapR zs = true) {b : BkOf zs.length} (hb : b ∈ blocks zs) : isText zs t b = true ↔ b.1.kind = 1 ∧ hz zs (b.1.at' + 1) = t.size ∧ ∀ i, i < t.size → hz zs (b.1.at' + 2 + i) = byteN t i := by
  unfold isText
  rw [decide_eq_true_eq]
  constructor
  · rintro ⟨hk, hs⟩
    obtain ⟨n, hn, hns, hby⟩ := text_facts hh hb hk
    have hT : textL zs b.1.at' = bytesL zs (b.1.at' + 2) n := by unfold textL; rw [hn]; simp
    rw [hT, str_is (fun i hi => by rw [bytesL_len] at hi; rw [bytesL_at hi]; exact hby i hi), bytesL_len] at hs
    refine ⟨hk, by omega, fun i hi => ?_⟩
    rw [← hs.2 i (by omega), bytesL_at (by omega)]
  · rintro ⟨hk, hz1, hs⟩
    obtain ⟨n, hn, hns, hby⟩ := text_facts hh hb hk
    obtain rfl : n = t.size := by omega
    have hT : textL zs b.1.at' = bytesL zs (b.1.at' + 2) t.size := by unfold textL; rw [hn]; simp
    refine ⟨hk, ?_⟩
    rw [hT, str_is (fun i hi => by rw [bytesL_len] at hi; rw [bytesL_at hi]; exact hby i hi), bytesL_len]
    refine ⟨rfl, fun i hi => ?_⟩
    rw [bytesL_at hi]
    exact hs i hi
theorem leftT_fits {zs : List Int} {t : ByteArray} (hh : heapR zs = true) {ys : List (PieceOf t.size)} {k : Nat} (h : leftT zs t ys k = true) : k + 2 + t.size ≤ zs.length := by
  unfold leftT at h
  simp only [Bool.and_eq_true, decide_eq_true_eq] at h
  obtain ⟨b, hb, h1, rfl⟩ := (isThere_iff _ _).1 h.1.1
  obtain ⟨n, hn, hns, hby⟩ := text_facts hh hb h1
  have := b.2.2.1
  omega
theorem leftT_iff {zs : List Int} {t : ByteArray} (hh : heapR zs = true) {ys : List (PieceOf t.size)} (h : Part t.size ys) (k : Nat) : leftT zs t ys k = true ↔ ∃ b ∈ blocks zs, b.1.at' = k ∧ isText zs t b = true := by
  unfold leftT
  simp only [Bool.and_eq_true, decide_eq_true_eq]
  rw [likeAll_iff h, isThere_iff]
  constructor
  · rintro ⟨⟨⟨b, hb, h1, rfl⟩, h2⟩, h3⟩
    exact ⟨b, hb, rfl, (isText_iff hh hb).2 ⟨h1, h2, h3⟩⟩
  · rintro ⟨b, hb, rfl, h1⟩
    have := (isText_iff hh hb).1 h1
    exact ⟨⟨⟨b, hb, this.1, rfl⟩, this.2.1⟩, this.2.2⟩
def atV {L : Nat} : Option (BkOf L) → Value
  | some b => .tuple #[.int .i64 ((b.1.at' : Nat) : Int), .bool true]
  | none => .tuple #[.int .i64 0, .bool false]
theorem least_find {zs : List Int} {t : ByteArray} (hh : heapR zs = true) {ys : List (PieceOf t.size)} (h : Part t.size ys) {l : Int} {f : Bool} (hL : Least (leftT zs t ys) (fun _ => false) l f) : (.tuple #[.int .i64 l, .bool f] : Value) = atV (findT zs t) := by
  rcases hL with ⟨rfl, rfl, h3⟩ | ⟨rfl, m, rfl, h3, h4⟩
  · have : findT zs t = none := findT_none (fun b hb => by
      cases hx : isText zs t b with
      | false => rfl
      | true =>
        have := h3 b.1.at' ((leftT_iff hh h _).2 ⟨b, hb, rfl, hx⟩)
        cases this)
    rw [this]; rfl
  · obtain ⟨c, hc, rfl, hx⟩ := (leftT_iff hh h m).1 h3
    have : findT zs t = some c := by
      unfold findT
      cases hf : (blocks zs).find? (isText zs t) with
      | none => exact absurd hx (by simpa using List.find?_eq_none.1 hf c hc)
      | some b =>
        have hb := List.mem_of_find?_eq_some hf
        have hbt := List.find?_some hf
        have hle := h4 b.1.at' ((leftT_iff hh h _).2 ⟨b, hb, rfl, hbt⟩) rfl
        obtain ⟨pre, post, e, hno⟩ := List.find?_eq_some_iff_append.1 hf |>.2
        have hs := blks_sorted zs 0
        rw [show blks zs 0 = blocks zs from rfl, e] at hs
        rw [e] at hc
        rcases List.mem_append.1 hc with hc | hc
        · have := hno c hc; rw [hx] at this; cases this
        · rcases List.mem_cons.1 hc with rfl | hc
          · rfl
          · have := (List.pairwise_cons.1 (List.pairwise_append.1 hs).2.1).1 c hc
            omega
    rw [this]; rfl
theorem none_find {zs : List Int} {t : ByteArray} (hh : heapR zs = true) {e : Nat} {ys : List (PieceOf t.size)} (he : e ≤ t.size) (h : Part e ys) (hno : ∀ k, leftT zs t ys k = false) : findT zs t = none :=
  findT_none (fun b hb => by
    cases hx : isText zs t b with
    | false => rfl
    | true =>
      have h1 := (isText_iff hh hb).1 hx
      have : leftT zs t ys b.1.at' = true := by
        unfold leftT
        simp only [Bool.and_eq_true, decide_eq_true_eq]
        exact ⟨⟨(isThere_iff _ _).2 ⟨b, hb, h1.1, rfl⟩, h1.2.1⟩, (likeAll_iff h _).2 (fun i hi => h1.2.2 i (by omega))⟩
      rw [hno] at this; cases this)
end Go.Proofs.Ythkhlmbhickdbaa
