/-
  The contract of the laws' helper markText: a text for each number.
  The contracts of the laws' helpers markNodeS, markNode: a tree of one's own is marked, and nothing else is turned.
  The contracts of the laws' helpers heldNodeS, markNode: marks that were put are found.
-/
import Derived.Deep.LoopGhost
import Derived.OwnWalk
import Derived.Deep.CutRange
import Derived.Deep.RegionWith
import Derived.Test.YtlinbkgeahgkjaaGreatDoorNodP
import Derived.Test.YtlinbkgeahgkjaaGreatDoorGrpCp
namespace Go.Proofs.YtlinbkgeahgkjaaGreatDoor
open Go.RowKit
attribute [local go_sem] Plain.and7

theorem conv_oneN (W : World) (x : Int) : (convert 61 9 (.slice (some ⟨W.heap.size, 0, none⟩) 1 1)).run Tryz.prog (W.alloc (.cells #[.int .u8 x] 5)) = .ok (.string (strOfNums [x])) (W.alloc (.cells #[.int .u8 x] 5)) :=
  run_convert_bytes_arg (W.alloc (.cells #[.int .u8 x] 5)) 61 5 Tryz.underlying61 Tryz.underlying5 W.heap.size 0 1 1 [x] rfl (fun j hj => by
    obtain rfl : j = 0 := by omega
    rw [(Cells.new W 5 #[.int .u8 x]).cell]; rfl) 9 Tryz.underlying9
theorem str_oneN (x : Int) : (strOfNums [x]).size = 1 := rfl
def digM : Nat → Nat → ByteArray → ByteArray
  | 0, _, out => out
  | f + 1, n, out => if n = 0 then out else digM f (n / 10) (strOfNums [48 + (n : Int) % 10] ++ out)
def mkM (k : Nat) : ByteArray := (⟨#[109]⟩ : ByteArray) ++ digM k k ⟨#[]⟩
theorem digM_size : ∀ (f n : Nat) (out : ByteArray), n ≤ f → (digM f n out).size ≤ out.size + n
  | 0, n, out, h => by rw [digM]; omega
  | f + 1, n, out, h => by
    rw [digM]
    split
    · omega
    · have := digM_size f (n / 10) (strOfNums [48 + (n : Int) % 10] ++ out) (by omega)
      rw [ByteArray.size_append, str_oneN] at this
      omega
theorem mkM_size (k : Nat) : (mkM k).size ≤ 1 + k := by
  unfold mkM
  rw [ByteArray.size_append]
  have := digM_size k k ⟨#[]⟩ (Nat.le_refl _)
  have e : (⟨#[]⟩ : ByteArray).size = 0 := rfl
  have e2 : (⟨#[109]⟩ : ByteArray).size = 1 := rfl
  omega
set_option maxHeartbeats 4000000 in
set_option maxRecDepth 100000 in
theorem markTextN_ok (w : World) (k : Nat) (h1 : 1 ≤ k) (h2 : k ≤ 100000000) :
    Calls Tryz.prog 21 #[.int .i64 (k : Int)] w fun e w' => e = .returned (.string (mkM k)) ∧ Kept w w' := by
  have hp : ¬ (k : Int) ≤ 0 := by omega
  go_enter Tryz.func21, Tryz.ntmps21
  go_wp2_with fail
  go_loopw [0, 3] (fun i o wr => ∃ (n f : Nat) (out : ByteArray), i = .int .i64 n ∧ o = .string out ∧ n ≤ f ∧ out.size + n ≤ k ∧ digM f n out = digM k k ⟨#[]⟩ ∧ Kept w wr) (fun i _ _ => (intOf i).toNat)
  case atStart => exact ⟨k, k, _, rfl, rfl, Nat.le_refl _, by show 0 + k ≤ k; omega, rfl, Below.refl _ _⟩
  case round =>
    obtain ⟨n, f, out, rfl, rfl, hnf, hnk, hd, hK⟩ := hrel
    have HD : Hid _ := hd
    have HK : Hid _ := hK
    clear hd
    by_cases h0 : n = 0
    · subst h0
      have e0 : digM f 0 out = out := by cases f <;> simp [digM]
      have HE : Hid (out = digM k k ⟨#[]⟩) := e0.symm.trans HD.out
      have hno : ¬ 9223372036854775807 < 1 + out.size := by omega
      have hno2 : ¬ 9223372036854775807 < (⟨#[109]⟩ : ByteArray).size + out.size := hno
      clear hK e0
      go_wp2_with fail
      go_ret
      exact ⟨by rw [mkM, ← HE.out]; rfl, HK.out⟩
    · have hpos : (0 : Int) < (n : Int) := by omega
      have u8 := IntWalk.u8_in (48 + (n : Int) % 10) (by omega)
      have hcv := conv_oneN wr (48 + (n : Int) % 10)
      have hq : (n : Int).tdiv 10 = ((n / 10 : Nat) : Int) := by rw [Int.tdiv_eq_ediv_of_nonneg (by omega)]; omega
      have hr : (n : Int).tmod 10 = (n : Int) % 10 := by rw [Int.tmod_eq_emod_of_nonneg (by omega)]
      have kA : Kept wr (wr.alloc (.cells #[.int .u8 (48 + (n : Int) % 10)] 5)) := Kept.alloc (Below.refl _ _) _
      have hno : ¬ 9223372036854775807 < (strOfNums [48 + (n : Int) % 10]).size + out.size := by rw [str_oneN]; omega
      obtain ⟨f', rfl⟩ : ∃ f', f = f' + 1 := ⟨f - 1, by omega⟩
      have HD2 : Hid (digM f' (n / 10) (strOfNums [48 + (n : Int) % 10] ++ out) = digM k k ⟨#[]⟩) := by
        have := HD.out
        rw [digM, if_neg h0] at this
        exact this
      clear hK HD
      go_wp2_with fail
      go_roundw
      case rel => exact ⟨n / 10, f', _, by rw [show ((n / 10 : Nat) : Int) = (n : Int) / 10 by omega], rfl, by omega, by rw [ByteArray.size_append, str_oneN]; omega, HD2.out, Kept.trans HK.out kA⟩
      case measure => simp [intOf]; omega
end Go.Proofs.YtlinbkgeahgkjaaGreatDoor
namespace Go.Proofs.YtlinbkgeahgkjaaGreatDoor
open Go.RowKit
set_option linter.unusedSimpArgs false
set_option linter.unusedVariables false
attribute [local go_sem] Plain.and7

/-- Blocks from lo to hi alone have turned, and new ones came. -/
structure ButT (lo hi : Nat) (w w' : World) : Prop where
  low : Below lo w w'
  high : ∀ b, hi ≤ b → b < w.heap.size → w'.heap[b]? = w.heap[b]?
theorem ButT.refl (lo hi : Nat) (w : World) : ButT lo hi w w := ⟨Below.refl _ _, fun _ _ _ => rfl⟩
theorem ButT.trans {lo hi : Nat} {a b c : World} (h : ButT lo hi a b) (k : ButT lo hi b c) : ButT lo hi a c := ⟨h.low.trans k.low, fun i h1 h2 => (k.high i h1 (Nat.lt_of_lt_of_le h2 h.low.size)).trans (h.high i h1 h2)⟩
theorem ButT.mono {lo hi lo' hi' : Nat} {a b : World} (h : ButT lo hi a b) (h1 : lo' ≤ lo) (h2 : hi ≤ hi') : ButT lo' hi' a b := ⟨h.low.mono h1, fun i hi hlt => h.high i (by omega) hlt⟩
theorem ButT.set {lo hi : Nat} {a b : World} (h : ButT lo hi a b) {g j : Nat} (h1 : lo ≤ g) (h2 : g < hi) (u : Value) : ButT lo hi a (b.setCell ⟨g, j, none⟩ u) := ⟨h.low.setCell h1 u, fun i hi hlt => (Below.heap_setCell _ _ _ _ (by show i ≠ g; omega)).trans (h.high i hi hlt)⟩
theorem ButT.kept {lo hi : Nat} {a b c : World} (h : ButT lo hi a b) (hk : Kept b c) (hl : lo ≤ b.heap.size) : ButT lo hi a c := ⟨h.low.trans (hk.mono hl), fun i hi hlt => (hk.block i (Nat.lt_of_lt_of_le hlt h.low.size)).trans (h.high i hi hlt)⟩
theorem ButT.stay {lo hi : Nat} {w w' : World} (h : ButT lo hi w w') {b : Nat} (hb : b < lo ∨ hi ≤ b) (hl : b < w.heap.size) : w'.heap[b]? = w.heap[b]? := by
  rcases hb with h1 | h1
  · exact h.low.block b h1
  · exact h.high b h1 hl
theorem Cells.but {lo hi : Nat} {w w' : World} {B : Nat} {t : TypeId} {cs : Array Value} (h : Cells w B t cs) (hb : ButT lo hi w w') (hB : B < lo ∨ hi ≤ B) : Cells w' B t cs := (hb.stay hB h.lt).trans h
theorem FunG.but {W W' : World} {lo hi lo' hi' : Nat} {v : Value} {ks : List Nd} (h : FunG W lo hi v ks) (hb : ButT lo' hi' W W') (hd : hi ≤ lo' ∨ hi' ≤ lo) : FunG W' lo hi v ks := h.stay (fun b h1 h2 h3 => hb.stay (by omega) h3)
def MkOk (ks : List Nd) : Prop := ∀ (w : World) (lo hi : Nat) (v : Value) (K : Nat), FunG w lo hi v ks → 1 ≤ K → K + 3 * sizesN ks ≤ 50000000 →
    Calls Tryz.prog 11 #[v, .int .i64 (K : Nat)] w fun e w' => e = .returned (.int .i64 ((K + 3 * sizesN ks : Nat) : Int)) ∧ FunG w' lo hi v (mkNds mkM ks K) ∧ ButT lo hi w w'
set_option maxHeartbeats 16000000 in
set_option maxRecDepth 100000 in
theorem markNodeS_ok : ∀ (m : Nat) (ks : List Nd), sizesN ks ≤ m → MkOk ks := by
  intro m
  induction m with
  | zero =>
    intro ks hks w lo hi v K hF h1 h2
    have hl := len_sizes ks
    obtain rfl : ks = [] := List.length_eq_zero_iff.1 (by omega)
    obtain ⟨⟨ao, cap, rfl⟩, _⟩ := hF.slice
    have HF : Hid _ := hF
    go_enter Tryz.func11, Tryz.ntmps11
    go_wp2_with fail
    go_loopw [1, 5] (fun kv iv wr => kv = .int .i64 (K : Int) ∧ iv = .int .i64 0 ∧ wr = w) (fun _ _ _ => 0)
    case atStart => exact ⟨rfl, rfl, rfl⟩
    case round =>
      obtain ⟨rfl, rfl, rfl⟩ := hrel
      go_wp2_with fail
      go_ret
      exact ⟨by simp [sizesN], HF.out, ButT.refl _ _ _⟩
  | succ m ih =>
    intro ks hks w lo hi v K hF h1 h2
    obtain ⟨⟨ao, cap, rfl⟩, hml⟩ := hF.slice
    have hml' : ks.length ≤ 9223372036854775807 := by unfold maxLen at hml; omega
    have HIH : Hid (∀ ks : List Nd, sizesN ks ≤ m → MkOk ks) := ih
    have HF0 : Hid _ := hF
    have HS : Hid (sizesN ks ≤ m + 1 ∧ K + 3 * sizesN ks ≤ 50000000) := ⟨hks, h2⟩
    clear ih hF hml hks h2
    go_enter Tryz.func11, Tryz.ntmps11
    go_wp2_with fail
    go_loopw [1, 5] (fun kv iv wr => ∃ (q k : Nat), kv = .int .i64 (q : Int) ∧ iv = .int .i64 k ∧ k ≤ ks.length ∧ Hid (q = K + 3 * sizesN (ks.take k) ∧ FunG wr lo hi (.slice ao ks.length cap) (mixN mkM ks K k) ∧ ButT lo hi w wr)) (fun _ i _ => ks.length - (intOf i).toNat)
    case atStart => exact ⟨K, 0, rfl, rfl, Nat.zero_le _, by simp [sizesN], by rw [mixN_zero]; exact HF0.out, ButT.refl _ _ _⟩
    case round =>
      obtain ⟨q, k, rfl, rfl, hk, hR⟩ := hrel
      obtain ⟨hq, hF, hB⟩ := hR.out
      by_cases hlt : k < ks.length
      · obtain ⟨x, hx⟩ : ∃ x, ks[k]? = some x := ⟨ks[k], List.getElem?_eq_getElem hlt⟩
        have hst := sizes_take hx
        have hsl := sizes_le (ks := ks) (k + 1)
        obtain ⟨hs1, hs2⟩ := HS.out
        have hpos := x.size_pos
        have HM : Hid ((mixN mkM ks K k).set k (mkNd mkM x q) = mixN mkM ks K (k + 1)) := by rw [Hid, hq]; exact mixN_succ hx
        obtain ⟨op, s, n, kk⟩ := x
        have hx' : (mixN mkM ks K k)[k]? = some (.mk op s n kk) := by rw [mixN_at hlt]; exact hx
        obtain ⟨g, cap', kv, bl, bh, cur, e, hg1, hg2, hc, hcs, ⟨e0, e1, e2, e3⟩, hb1, hb2, hb3, hb4, hFk, hup⟩ := hF.upd hx'
        rw [mixN_len hk] at e
        simp at e
        obtain ⟨rfl, rfl⟩ := e
        obtain ⟨⟨a2, c2, rfl⟩, _⟩ := hFk.slice
        simp only [Nd.size] at hst hpos
        have hq1 : 1 ≤ q := by omega
        have hq2 : q + 3 * (1 + sizesN kk) ≤ 50000000 := by omega
        have hkm : sizesN kk ≤ m := by have := sizes_le (ks := ks) k; omega
        have HQ : Hid (q + 3 + 3 * sizesN kk = K + 3 * sizesN (ks.take (k + 1))) := by rw [Hid]; omega
        have hgl := hc.lt
        have c0 : wr.cell? ⟨g, k * 4, none⟩ = some (.int .i64 op) := by rw [hc.cell]; exact e0
        have f0 := hc.frozen (k * 4)
        have q1 : (k : Int) < (ks.length : Int) := by omega
        have q2 : (k : Int) + 1 ≤ 9223372036854775807 := by omega
        have q3 : (q : Int) + 3 ≤ 9223372036854775807 := by omega
        have HC : Hid (Cells wr g 29 cur ∧ k * 4 + 3 < cur.size ∧ cur[k * 4 + 1]? = some (.string s) ∧ cur[k * 4 + 2]? = some (.int .i64 n) ∧ cur[k * 4 + 3]? = some (.slice a2 kk.length c2)) := ⟨hc, hcs, e1, e2, e3⟩
        have HFk : Hid _ := hFk
        have HUp : Hid _ := hup
        have HB : Hid _ := hB
        have HBd : Hid (lo ≤ g ∧ g < hi ∧ lo ≤ bl ∧ bl ≤ bh ∧ bh ≤ hi ∧ (g < bl ∨ bh ≤ g) ∧ q + 3 * (1 + sizesN kk) ≤ 50000000 ∧ sizesN kk ≤ m) := ⟨hg1, hg2, hb1, hb2, hb3, hb4, hq2, hkm⟩
        have hT := fun u : World => markTextN_ok u (q + 1) (by omega) (by omega)
        have ec1 : ((q + 1 : Nat) : Int) = (q : Int) + 1 := by omega
        have ec3 : ((q + 3 : Nat) : Int) = (q : Int) + 1 + 1 + 1 := by omega
        simp only [ec1] at hT
        have hRec := fun (u : World) (hu : ∀ b, bl ≤ b → b < bh → b < wr.heap.size → u.heap[b]? = wr.heap[b]?) => HIH.out kk hkm u bl bh _ (q + 3) (hFk.stay hu) (by omega) (by omega)
        obtain ⟨r, hr⟩ : ∃ r : Nat, q + 3 + 3 * sizesN kk = r := ⟨_, rfl⟩
        rw [hr] at HQ
        simp only [ec3, hr] at hRec
        clear ec1 ec3 hr
        have HT : Hid _ := hT
        have HR : Hid _ := hRec
        clear hq hF hB hst hsl hs1 hs2 hpos hx hx' hc hcs e0 e1 e2 e3 hup hFk hT hRec hb1 hb2 hb3 hb4 hg1 hg2 hkm hq2 hR
        go_wp2_with fail
        refine (HT.out _).mono ?_
        rintro e w2 ⟨rfl, hk2⟩
        obtain ⟨hc, hcs, e1, e2, e3⟩ := HC.out
        obtain ⟨tm, htm⟩ : ∃ tm, mkM (q + 1) = tm := ⟨_, rfl⟩
        have x2 := (hc.set (k * 4) (.int .i64 (q : Int))).kept hk2
        have c1 : w2.cell? ⟨g, k * 4 + 1, none⟩ = some (.string s) := by rw [x2.cell, Array.getElem?_setIfInBounds_ne (by omega)]; exact e1
        have f1 := x2.frozen (k * 4 + 1)
        have x3 := x2.set (k * 4 + 1) (.string tm)
        have c2' : (w2.setCell ⟨g, k * 4 + 1, none⟩ (.string tm)).cell? ⟨g, k * 4 + 2, none⟩ = some (.int .i64 n) := by rw [x3.cell, Array.getElem?_setIfInBounds_ne (by omega), Array.getElem?_setIfInBounds_ne (by omega)]; exact e2
        have f2 := x3.frozen (k * 4 + 2)
        have x4 := x3.set (k * 4 + 2) (.int .i64 ((q : Int) + 1 + 1))
        have c3' : ((w2.setCell ⟨g, k * 4 + 1, none⟩ (.string tm)).setCell ⟨g, k * 4 + 2, none⟩ (.int .i64 ((q : Int) + 1 + 1))).cell? ⟨g, k * 4 + 3, none⟩ = some (.slice a2 kk.length c2) := by rw [x4.cell, Array.getElem?_setIfInBounds_ne (by omega), Array.getElem?_setIfInBounds_ne (by omega), Array.getElem?_setIfInBounds_ne (by omega)]; exact e3
        have HTM : Hid _ := htm
        have HK2 : Hid _ := hk2
        have l2 := x2.lt
        rw [htm]
        clear hc hcs e1 e2 e3 x2 x3 x4 htm hk2
        go_wp2_with (go_at_call 11; refine (HR.out _ (by
              intro b y1 y2 y3
              obtain ⟨_, _, _, _, _, y4, _⟩ := HBd.out
              have hne : b ≠ g := by omega
              exact (Below.heap_setCell _ _ _ _ hne).trans ((Below.heap_setCell _ _ _ _ hne).trans ((HK2.out.block b (by simp; omega)).trans (Below.heap_setCell _ _ _ _ hne))))).mono ?_; rintro e w5 ⟨rfl, hF5, hB5⟩)
        obtain ⟨hc, hcs, e1, e2, e3⟩ := HC.out
        obtain ⟨hg1, hg2, hb1, hb2, hb3, hb4, hq2, hkm⟩ := HBd.out
        have hk2 := HK2.out
        have hlow : lo ≤ wr.heap.size := by omega
        have hB4 : ButT lo hi w ((w2.setCell ⟨g, k * 4 + 1, none⟩ (.string tm)).setCell ⟨g, k * 4 + 2, none⟩ (.int .i64 ((q : Int) + 1 + 1))) := (((HB.out.set hg1 hg2 _).kept hk2 (by simpa using hlow)).set hg1 hg2 _).set hg1 hg2 _
        have x4 := (((hc.set (k * 4) (.int .i64 (q : Int))).kept hk2).set (k * 4 + 1) (.string tm)).set (k * 4 + 2) (.int .i64 ((q : Int) + 1 + 1))
        have x5 := x4.but hB5 hb4
        have hFin := HUp.out w5 (q : Int) ((q : Int) + 1 + 1) tm (mkNds mkM kk (q + 3)) _ (by rw [← HTM.out]; have := mkM_size (q + 1); unfold maxLen; omega) x5
          (by
            refine ⟨?_, ?_, ?_, ?_⟩
            · rw [Array.getElem?_setIfInBounds_ne (by omega), Array.getElem?_setIfInBounds_ne (by omega), Array.getElem?_setIfInBounds_self_of_lt (by omega)]
            · rw [Array.getElem?_setIfInBounds_ne (by omega), Array.getElem?_setIfInBounds_self_of_lt (by simp; omega)]
            · rw [Array.getElem?_setIfInBounds_self_of_lt (by simp; omega)]
            · rw [Array.getElem?_setIfInBounds_ne (by omega), Array.getElem?_setIfInBounds_ne (by omega), Array.getElem?_setIfInBounds_ne (by omega)]; exact e3)
          (by
            intro j hj
            rw [Array.getElem?_setIfInBounds_ne (by omega), Array.getElem?_setIfInBounds_ne (by omega), Array.getElem?_setIfInBounds_ne (by omega)])
          (by
            intro b y1 y2 y3 y4 y5
            exact (hB5.stay (by omega) (by simp; exact Nat.lt_of_lt_of_le y5 (by have := hk2.size; simpa using this))).trans ((Below.heap_setCell _ _ _ _ y3).trans ((Below.heap_setCell _ _ _ _ y3).trans ((hk2.block b (by simpa using y5)).trans (Below.heap_setCell _ _ _ _ y3)))))
          hF5
        have e9 : mkNd mkM (.mk op s n kk) q = .mk (q : Int) tm ((q : Int) + 1 + 1) (mkNds mkM kk (q + 3)) := by
          rw [mkNd, HTM.out, show ((q + 2 : Nat) : Int) = (q : Int) + 1 + 1 by omega]
        rw [← e9, HM.out] at hFin
        go_roundw
        case rel => exact ⟨r, k + 1, rfl, by go_num, by omega, HQ.out, hFin, hB4.trans (hB5.mono hb1 hb3)⟩
        case measure => simp [intOf]; omega
      · have q1 : ¬ (k : Int) < (ks.length : Int) := by omega
        obtain rfl : k = ks.length := by omega
        rw [List.take_length] at hq
        rw [mixN_all] at hF
        have HF : Hid _ := hF
        have HB : Hid _ := hB
        subst hq
        clear hF hB hR HS HF0
        go_wp2_with fail
        go_ret
        exact ⟨rfl, HF.out, HB.out⟩
end Go.Proofs.YtlinbkgeahgkjaaGreatDoor
namespace Go.Proofs.YtlinbkgeahgkjaaGreatDoor
open Go.RowKit
set_option linter.unusedSimpArgs false
set_option linter.unusedVariables false
attribute [local go_sem] Plain.and7

set_option maxHeartbeats 8000000 in
set_option maxRecDepth 100000 in
theorem markNode_ok (w : World) (lo hi : Nat) (op n : Int) (s : ByteArray) (ks : List Nd) (v : Value) (K : Nat) (hF : CpG w (.mk op s n ks) lo hi v) (h1 : 1 ≤ K) (h2 : K + 3 * sizesN ks ≤ 50000000) (hlo : lo ≤ w.heap.size) :
    Calls Tryz.prog 10 #[v, .int .i64 (K : Nat)] w fun e w' => e = .returned (.int .i64 ((K + 3 * sizesN ks : Nat) : Int)) ∧ ButT lo hi w w' := by
  obtain ⟨kv, rfl, hs, hK⟩ := hF.kids
  obtain ⟨⟨ao, cap, rfl⟩, hml⟩ := hK.slice
  have k0 : Kept w (w.alloc (.cells #[.int .i64 op, .string s, .int .i64 n, .slice ao ks.length cap] 29)) := Kept.alloc (Below.refl _ _) _
  have b0 := Cells.new w 29 #[.int .i64 op, .string s, .int .i64 n, .slice ao ks.length cap]
  have c3 := b0.cell 3
  have hM := markNodeS_ok _ ks (Nat.le_refl _) _ lo hi _ K (hK.kept k0) h1 h2
  have HL : Hid (ButT lo hi w (w.alloc (.cells #[.int .i64 op, .string s, .int .i64 n, .slice ao ks.length cap] 29))) := by
    refine ⟨⟨rfl, rfl, rfl, by simp, fun i hi' => ?_⟩, fun b h3 h4 => k0.block b h4⟩
    exact k0.block i (by omega)
  clear hF hK
  go_enter Tryz.func10, Tryz.ntmps10
  go_wp2_with (go_at_call 11; refine hM.mono ?_; rintro e w1 ⟨rfl, hF1, hB1⟩)
  go_ret
  exact ⟨rfl, HL.out.trans hB1⟩
def HdOk (ks : List Nd) : Prop := ∀ (w : World) (lo hi : Nat) (v : Value) (K : Nat), FunG w lo hi v (mkNds mkM ks K) → 1 ≤ K → K + 3 * sizesN ks ≤ 50000000 →
    Calls Tryz.prog 12 #[v, .int .i64 (K : Nat)] w fun e w' => e = .returned (.int .i64 ((K + 3 * sizesN ks : Nat) : Int)) ∧ Kept w w'
set_option maxHeartbeats 16000000 in
set_option maxRecDepth 100000 in
theorem heldNodeS_ok : ∀ (m : Nat) (ks : List Nd), sizesN ks ≤ m → HdOk ks := by
  intro m
  induction m with
  | zero =>
    intro ks hks w lo hi v K hF h1 h2
    have hl := len_sizes ks
    obtain rfl : ks = [] := List.length_eq_zero_iff.1 (by omega)
    rw [mkNds] at hF
    obtain ⟨⟨ao, cap, rfl⟩, _⟩ := hF.slice
    go_enter Tryz.func12, Tryz.ntmps12
    go_wp2_with fail
    go_loopw [1, 5] (fun kv iv wr => kv = .int .i64 (K : Int) ∧ iv = .int .i64 0 ∧ wr = w) (fun _ _ _ => 0)
    case atStart => exact ⟨rfl, rfl, rfl⟩
    case round =>
      obtain ⟨rfl, rfl, rfl⟩ := hrel
      go_wp2_with fail
      go_ret
      exact ⟨by simp [sizesN], Below.refl _ _⟩
  | succ m ih =>
    intro ks hks w lo hi v K hF h1 h2
    obtain ⟨⟨ao, cap, e⟩, hml⟩ := hF.slice
    rw [mkNds_len] at e hml
    subst e
    have hml' : ks.length ≤ 9223372036854775807 := by unfold maxLen at hml; omega
    have HIH : Hid (∀ ks : List Nd, sizesN ks ≤ m → HdOk ks) := ih
    have HF0 : Hid _ := hF
    have HS : Hid (sizesN ks ≤ m + 1 ∧ K + 3 * sizesN ks ≤ 50000000) := ⟨hks, h2⟩
    clear ih hF hml hks h2
    go_enter Tryz.func12, Tryz.ntmps12
    go_wp2_with fail
    go_loopw [1, 5] (fun kv iv wr => ∃ (q k : Nat), kv = .int .i64 (q : Int) ∧ iv = .int .i64 k ∧ k ≤ ks.length ∧ Hid (q = K + 3 * sizesN (ks.take k) ∧ Kept w wr)) (fun _ i _ => ks.length - (intOf i).toNat)
    case atStart => exact ⟨K, 0, rfl, rfl, Nat.zero_le _, by simp [sizesN], Below.refl _ _⟩
    case round =>
      obtain ⟨q, k, rfl, rfl, hk, hR⟩ := hrel
      obtain ⟨hq, hB⟩ := hR.out
      by_cases hlt : k < ks.length
      · obtain ⟨x, hx⟩ : ∃ x, ks[k]? = some x := ⟨ks[k], List.getElem?_eq_getElem hlt⟩
        have hst := sizes_take hx
        have hsl := sizes_le (ks := ks) (k + 1)
        obtain ⟨hs1, hs2⟩ := HS.out
        have hpos := x.size_pos
        have hx' := mkNds_at mkM ks K k
        rw [hx] at hx'
        simp only [Option.map_some] at hx'
        rw [← hq] at hx'
        obtain ⟨op, s, n, kk⟩ := x
        rw [mkNd] at hx'
        obtain ⟨g, cap', kv, bl, bh, cur, e, hg1, hg2, hc, hcs, ⟨e0, e1, e2, e3⟩, hb1, hb2, hb3, hb4, hFk, hup⟩ := FunG.upd (FunG.kept HF0.out hB) hx'
        rw [mkNds_len] at e
        simp at e
        obtain ⟨rfl, rfl⟩ := e
        obtain ⟨⟨a2, c2, e⟩, _⟩ := hFk.slice
        rw [mkNds_len] at e
        subst e
        simp only [Nd.size] at hst hpos
        have hkm : sizesN kk ≤ m := by have := sizes_le (ks := ks) k; omega
        have HQ : Hid (q + 3 + 3 * sizesN kk = K + 3 * sizesN (ks.take (k + 1))) := by rw [Hid]; omega
        obtain ⟨tm, htm⟩ : ∃ tm, mkM (q + 1) = tm := ⟨_, rfl⟩
        rw [htm] at e1
        rw [show ((q + 2 : Nat) : Int) = (q : Int) + 1 + 1 by omega] at e2
        have c0 : wr.cell? ⟨g, k * 4, none⟩ = some (.int .i64 (q : Int)) := by rw [hc.cell]; exact e0
        have c1 : wr.drew.cell? ⟨g, k * 4 + 1, none⟩ = some (.string tm) := by show wr.cell? _ = _; rw [hc.cell]; exact e1
        have HC : Hid (∀ u, Kept wr.drew u → u.cell? ⟨g, k * 4 + 1, none⟩ = some (.string tm) ∧ u.cell? ⟨g, k * 4 + 2, none⟩ = some (.int .i64 ((q : Int) + 1 + 1)) ∧ u.cell? ⟨g, k * 4 + 3, none⟩ = some (.slice a2 kk.length c2)) := by
          intro u hu
          have hc' := (hc.kept (Below.drew (Below.refl _ wr))).kept hu
          exact ⟨by rw [hc'.cell]; exact e1, by rw [hc'.cell]; exact e2, by rw [hc'.cell]; exact e3⟩
        have q1 : (k : Int) < (ks.length : Int) := by omega
        have q2 : (k : Int) + 1 ≤ 9223372036854775807 := by omega
        have q3 : (q : Int) + 3 ≤ 9223372036854775807 := by omega
        have hne : (tm != tm) = false := by simp [bne, beq_toListBytes]
        have hT := fun u : World => markTextN_ok u (q + 1) (by omega) (by omega)
        have ec1 : ((q + 1 : Nat) : Int) = (q : Int) + 1 := by omega
        have ec3 : ((q + 3 : Nat) : Int) = (q : Int) + 1 + 1 + 1 := by omega
        simp only [ec1, htm] at hT
        obtain ⟨r, hr⟩ : ∃ r : Nat, q + 3 + 3 * sizesN kk = r := ⟨_, rfl⟩
        rw [hr] at HQ
        have hRec := fun (u : World) (hu : Kept wr.drew u) => HIH.out kk hkm u bl bh _ (q + 3) ((hFk.kept (Below.drew (Below.refl _ wr))).kept hu) (by omega) (by omega)
        simp only [ec3, hr] at hRec
        have hrn : decide ((r : Int) < 0) = false := decide_eq_false (by omega)
        have HT : Hid _ := hT
        have HR : Hid _ := hRec
        have HB : Hid _ := hB
        clear hq hB hst hsl hs1 hs2 hpos hx hx' hc hcs e0 e1 e2 e3 hup hFk hT hRec hb1 hb2 hb3 hb4 hg1 hg2 hkm hR ec1 ec3 hr htm
        go_wp2_with fail
        go_region_with (go_at_call 21; refine (HT.out _).mono ?_; rintro e w2 ⟨rfl, hk2⟩; obtain ⟨c1, c2', c3'⟩ := HC.out _ hk2)
        all_goals (
          go_simp
          go_wp2_with (go_at_call 12; refine (HR.out _ hk2).mono ?_; rintro e w5 ⟨rfl, hk5⟩)
          go_roundw
          case rel => exact ⟨r, k + 1, rfl, by go_num, by omega, HQ.out, Kept.trans (Kept.trans (Below.drew HB.out) hk2) hk5⟩
          case measure => simp [intOf]; omega)
      · have q1 : ¬ (k : Int) < (ks.length : Int) := by omega
        obtain rfl : k = ks.length := by omega
        rw [List.take_length] at hq
        have HB : Hid _ := hB
        subst hq
        clear hB hR HS HF0
        go_wp2_with fail
        go_ret
        exact ⟨rfl, HB.out⟩
end Go.Proofs.YtlinbkgeahgkjaaGreatDoor
