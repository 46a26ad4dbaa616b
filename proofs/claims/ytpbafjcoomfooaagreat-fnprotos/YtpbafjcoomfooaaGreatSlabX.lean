/-
  Slabs as lists, with no program in sight: what becomes of the blocks where one is taken or given, and how much room is left.
-/
import Derived.Test.YtpbafjcoomfooaaGreatSlabP
namespace Go.Proofs.YtpbafjcoomfooaaGreat

/-- From k on there lie just these blocks, up to e. -/
inductive Seg (zs : List Int) : Nat → List Bk → Nat → Prop
  | nil (k : Nat) : Seg zs k [] k
  | cons {k e : Nat} {l : List Bk} : Good zs k → Seg zs (k + sz zs k) l e → Seg zs k (⟨k, sz zs k, kd zs k⟩ :: l) e

abbrev raw {L : Nat} (l : List (BkOf L)) : List Bk := l.map (·.1)

theorem Seg.of (zs : List Int) (k : Nat) : Seg zs k (raw (blks zs k)) (stop zs k) :=
  blks_ind zs (P := fun k => Seg zs k (raw (blks zs k)) (stop zs k)) (fun k h ih => by rw [blks_yes h, stop_yes h]; exact .cons h ih) (fun k h => by rw [blks_no h, stop_no h]; exact .nil k) k
theorem Seg.le {zs : List Int} {k e : Nat} {l : List Bk} (h : Seg zs k l e) : k ≤ e := by
  induction h with
  | nil => exact Nat.le_refl _
  | cons hg _ ih => omega
theorem Seg.blks {zs : List Int} {k e : Nat} {l : List Bk} (h : Seg zs k l e) : raw (blks zs k) = l ++ raw (blks zs e) ∧ stop zs k = stop zs e := by
  induction h with
  | nil => exact ⟨rfl, rfl⟩
  | cons hg _ ih => rw [blks_yes hg, stop_yes hg]; exact ⟨by simp only [raw, List.map_cons, List.cons_append] at ih ⊢; rw [ih.1], ih.2⟩
theorem Seg.same {zs zs' : List Int} {k e : Nat} {l : List Bk} (h : Seg zs k l e) (hl : zs'.length = zs.length) : (∀ j, k ≤ j → j < e → hz zs' j = hz zs j) → Seg zs' k l e := by
  induction h with
  | nil => intro _; exact .nil _
  | @cons k e l hg hs ih =>
    intro hj
    have hle := hs.le
    have h2 := hg.sz2
    have e1 : hz zs' k = hz zs k := hj k (Nat.le_refl _) (by omega)
    have hg' : Good zs' k := by unfold Good at hg ⊢; rw [e1, hl]; exact hg
    have es : sz zs' k = sz zs k := by unfold sz; rw [e1]
    have ek : kd zs' k = kd zs k := by unfold kd; rw [e1]
    have := ih (fun j h1 h2 => hj j (by omega) h2)
    rw [← es] at this
    have r := Seg.cons hg' this
    rw [es, ek] at r
    exact r
theorem Seg.app {zs : List Int} {k m e : Nat} {l l' : List Bk} (h : Seg zs k l m) (h' : Seg zs m l' e) : Seg zs k (l ++ l') e := by
  induction h with
  | nil => exact h'
  | cons hg _ ih => exact .cons hg (ih h')
theorem Seg.split {zs : List Int} {k e : Nat} {l l' : List Bk} (h : Seg zs k (l ++ l') e) : ∃ m, Seg zs k l m ∧ Seg zs m l' e := by
  induction l generalizing k with
  | nil => exact ⟨k, .nil k, h⟩
  | cons x l ih =>
    cases h with
    | cons hg hs =>
      obtain ⟨m, h1, h2⟩ := ih hs
      exact ⟨m, .cons hg h1, h2⟩
theorem Seg.head {zs : List Int} {k e : Nat} {x : Bk} {l : List Bk} (h : Seg zs k (x :: l) e) : x = ⟨k, sz zs k, kd zs k⟩ ∧ Good zs k ∧ Seg zs (k + sz zs k) l e := by
  cases h with
  | cons hg hs => exact ⟨rfl, hg, hs⟩
theorem Seg.end0 {zs : List Int} {k : Nat} {l : List Bk} (h : Seg zs k l k) : l = [] := by
  cases h with
  | nil => rfl
  | cons hg hs => have := hs.le; have := hg.sz2; omega
theorem Seg.endN {zs : List Int} {k e : Nat} (h : Seg zs k [] e) : k = e := by
  generalize hl : ([] : List Bk) = l at h
  cases h with
  | nil => rfl
  | cons => cases hl
theorem Seg.sub {zs : List Int} {m k a : Nat} {p p' : List Bk} (h : Seg zs m p k) (h' : Seg zs m p' a) (hk : k ≤ a) : ∃ q, p' = p ++ q ∧ Seg zs k q a := by
  induction h generalizing p' with
  | nil => exact ⟨p', rfl, h'⟩
  | cons hg hs ih =>
    cases h' with
    | nil => have := hs.le; have := hg.sz2; omega
    | cons hg' hs' =>
      obtain ⟨q, e, hq⟩ := ih hs' hk
      exact ⟨q, by rw [e]; rfl, hq⟩
theorem Seg.whole {zs : List Int} (hok : slabOk zs = true) : Seg zs 0 (raw (blocks zs)) zs.length := by
  have := Seg.of zs 0
  rw [(slabOk_iff.1 hok).2] at this
  exact this
theorem Seg.slab {zs : List Int} {l : List Bk} (h : Seg zs 0 l zs.length) (hl : zs.length ≤ 2000) : slabOk zs = true ∧ raw (blocks zs) = l := by
  have hn : ¬ Good zs zs.length := fun h => Nat.lt_irrefl _ h.lt
  have h1 := h.blks
  rw [blks_no hn, stop_no hn] at h1
  exact ⟨slabOk_iff.2 ⟨hl, h1.2⟩, h1.1.trans (List.append_nil l)⟩
theorem good_of {zs : List Int} {k s q : Nat} (hle : k + s ≤ zs.length) (h2 : 2 ≤ s) (hq : q ≤ 5) (e : hz zs k = 8 * (s : Int) + (q : Int)) : Good zs k ∧ sz zs k = s ∧ kd zs k = q := by
  unfold Good sz kd
  rw [e]
  omega
theorem Seg.one {zs : List Int} {k s q : Nat} (hle : k + s ≤ zs.length) (h2 : 2 ≤ s) (hq : q ≤ 5) (e : hz zs k = 8 * (s : Int) + (q : Int)) : Seg zs k [⟨k, s, q⟩] (k + s) := by
  obtain ⟨hg, hs, hk⟩ := good_of hle h2 hq e
  have := Seg.cons hg (.nil (k + sz zs k))
  rw [hs, hk] at this
  exact this
theorem Seg.bd {zs : List Int} {k e : Nat} {l : List Bk} (h : Seg zs k l e) : ∀ x ∈ l, k ≤ x.at' ∧ x.at' + x.size ≤ e ∧ 2 ≤ x.size ∧ x.kind ≤ 5 := by
  induction h with
  | nil => simp
  | cons hg hs ih =>
    intro x hx
    have := hs.le
    have := hg.sz2
    have := hg.kd5
    rcases List.mem_cons.1 hx with rfl | hx
    · exact ⟨Nat.le_refl _, by simp; omega, by simpa, by simpa⟩
    · have := ih x hx; omega
theorem Seg.at {zs : List Int} {k e : Nat} {l : List Bk} (h : Seg zs k l e) : At zs k → At zs e := by
  induction h with
  | nil => exact id
  | cons hg _ ih => exact fun hat => ih (hat.next hg)
theorem Seg.found {zs : List Int} {p r : List Bk} {x : Bk} (hok : slabOk zs = true) (h : Seg zs 0 (p ++ x :: r) zs.length) : kindAt zs x.at' = x.kind ∧ sizeAt zs x.at' = x.size ∧ x.at' < zs.length := by
  obtain ⟨m, h1, h2⟩ := h.split
  obtain ⟨rfl, hg, _⟩ := h2.head
  obtain ⟨_, hf⟩ := (h1.at (At.zero zs)).found hok hg.lt
  simp only [kindAt, sizeAt, hf]
  exact ⟨trivial, trivial, hg.lt⟩
theorem Seg.foundM {zs : List Int} {x : Bk} (hok : slabOk zs = true) (h : x ∈ raw (blocks zs)) : kindAt zs x.at' = x.kind ∧ sizeAt zs x.at' = x.size ∧ x.at' < zs.length := by
  obtain ⟨p, r, e⟩ := List.append_of_mem h
  exact Seg.found hok (by rw [← e]; exact Seg.whole hok)

def rroom : List Bk → Nat
  | [] => 0
  | b :: bs => (if b.kind = 0 then b.size else 0) + rroom bs
theorem rroom_app (as bs : List Bk) : rroom (as ++ bs) = rroom as + rroom bs := by
  induction as with
  | nil => simp [rroom]
  | cons a as ih => simp [rroom, ih]; omega
theorem rroom_raw {L : Nat} (l : List (BkOf L)) : roomOf l = rroom (raw l) := by
  induction l with
  | nil => rfl
  | cons a l ih => simp only [roomOf, List.map_cons, rroom, ih]
theorem room_raw {zs : List Int} (hok : slabOk zs = true) : room zs = rroom (raw (blocks zs)) := by rw [room, if_pos hok, rroom_raw]
def rsum : List Bk → Nat
  | [] => 0
  | b :: bs => b.size + rsum bs
theorem rsum_app (as bs : List Bk) : rsum (as ++ bs) = rsum as + rsum bs := by
  induction as with
  | nil => simp [rsum]
  | cons a as ih => simp [rsum, ih]; omega
theorem Seg.sum {zs : List Int} {k e : Nat} {l : List Bk} (h : Seg zs k l e) : k + rsum l = e := by
  induction h with
  | nil => simp [rsum]
  | cons hg _ ih => simp only [rsum]; omega

/-- A block b that is free is taken, s' words of it. -/
theorem take_seg {zs zs' : List Int} {b : Bk} {s' kind : Nat} (hok : slabOk zs = true) (hb : b ∈ raw (blocks zs)) (hfree : b.kind = 0) (hl : zs'.length = zs.length) (h2 : 2 ≤ s') (hs : s' = b.size ∨ s' + 2 ≤ b.size) (h5 : kind ≤ 5)
    (e1 : hz zs' b.at' = 8 * (s' : Int) + (kind : Int)) (e2 : s' + 2 ≤ b.size → hz zs' (b.at' + s') = 8 * ((b.size : Int) - (s' : Int))) (e3 : ∀ j, j < b.at' ∨ b.at' + b.size ≤ j → hz zs' j = hz zs j) (hk : kind ≠ 0) :
    slabOk zs' = true ∧ kindAt zs' b.at' = kind ∧ sizeAt zs' b.at' = s' ∧ kindAt zs b.at' = 0 ∧ room zs' + s' = room zs ∧ ⟨b.at', s', kind⟩ ∈ raw (blocks zs') := by
  have hw := Seg.whole hok
  have hlen := (slabOk_iff.1 hok).1
  obtain ⟨p, r, e⟩ := List.append_of_mem hb
  have hf := Seg.foundM hok hb
  rw [e] at hw
  obtain ⟨m, h1, hm⟩ := hw.split
  obtain ⟨eb, hg, hr⟩ := hm.head
  have ea : m = b.at' := by rw [eb]
  have es : sz zs m = b.size := by rw [eb]
  rw [es, ea] at hr
  rw [ea] at h1
  have hle := hg.le
  rw [es, ea] at hle
  have h1' : Seg zs' 0 p b.at' := h1.same hl (fun j _ hj => e3 j (.inl hj))
  have hr' : Seg zs' (b.at' + b.size) r zs'.length := by rw [hl]; exact hr.same hl (fun j hj _ => e3 j (.inr hj))
  rcases hs with rfl | hs
  · have hm' : Seg zs' b.at' [⟨b.at', b.size, kind⟩] (b.at' + b.size) := Seg.one (by omega) h2 h5 e1
    have hall := h1'.app (hm'.app hr')
    obtain ⟨ok', eb'⟩ := hall.slab (by omega)
    have hf' := Seg.found ok' hall
    refine ⟨ok', hf'.1, hf'.2.1, by rw [hf.1, hfree]; rfl, ?_, by rw [eb']; simp⟩
    rw [room_raw ok', room_raw hok, eb', e, rroom_app, rroom_app, rroom_app]
    simp only [rroom, if_neg hk, hfree, if_pos]
    omega
  · have hm' : Seg zs' b.at' [⟨b.at', s', kind⟩] (b.at' + s') := Seg.one (by omega) h2 h5 e1
    have hm2 : Seg zs' (b.at' + s') [⟨b.at' + s', b.size - s', 0⟩] (b.at' + s' + (b.size - s')) := Seg.one (by omega) (by omega) (by omega) (by rw [e2 hs]; omega)
    rw [show b.at' + s' + (b.size - s') = b.at' + b.size by omega] at hm2
    have hall := h1'.app (hm'.app (hm2.app hr'))
    obtain ⟨ok', eb'⟩ := hall.slab (by omega)
    have hf' := Seg.found ok' hall
    refine ⟨ok', hf'.1, hf'.2.1, by rw [hf.1, hfree]; rfl, ?_, by rw [eb']; simp⟩
    rw [room_raw ok', room_raw hok, eb', e, rroom_app, rroom_app, rroom_app, rroom_app]
    simp only [rroom, if_neg hk, hfree, if_pos]
    omega

/-- What the loop of freeAbout makes of what it has, at a block x. -/
def stp (a e : Nat) (f : Nat × Nat) (x : Bk) : Nat × Nat :=
  if x.kind = 0 ∧ x.at' = e then ((if x.kind = 0 ∧ x.at' + x.size = a then (x.at', f.2 + x.size) else f).1, (if x.kind = 0 ∧ x.at' + x.size = a then (x.at', f.2 + x.size) else f).2 + x.size)
  else if x.kind = 0 ∧ x.at' + x.size = a then (x.at', f.2 + x.size) else f
theorem stp_id {a e : Nat} (f : Nat × Nat) {x : Bk} (h1 : x.kind = 0 → x.at' ≠ e) (h2 : x.kind = 0 → x.at' + x.size ≠ a) : stp a e f x = f := by
  unfold stp
  rw [if_neg (fun h => h1 h.1 h.2), if_neg (fun h => h2 h.1 h.2)]
theorem stps_id {a e : Nat} (f : Nat × Nat) : ∀ (l : List Bk), (∀ x ∈ l, x.at' ≠ e ∧ x.at' + x.size ≠ a) → l.foldl (stp a e) f = f
  | [], _ => rfl
  | x :: l, h => by
    rw [List.foldl_cons, stp_id f (fun _ => (h x (by simp)).1) (fun _ => (h x (by simp)).2)]
    exact stps_id f l (fun y hy => h y (by simp [hy]))
/-- Where b reaches from, and how far, as free and one with the free ones about it. -/
def about (zs : List Int) (b : Bk) : Nat × Nat := (raw (blocks zs)).foldl (stp b.at' (b.at' + b.size)) (b.at', b.size)
def toB (zs : List Int) (e : Nat) : Nat := if e < zs.length ∧ kd zs e = 0 then e + sz zs e else e

theorem about_eq {zs : List Int} {b : Bk} (hok : slabOk zs = true) (hb : b ∈ raw (blocks zs)) (hk : b.kind ≠ 0) :
    ∃ pre p' l r', Seg zs 0 pre b.at' ∧ (about zs b).1 = (pre.foldl (stp b.at' (b.at' + b.size)) (b.at', b.size)).1 ∧ (about zs b).1 + (about zs b).2 = toB zs (b.at' + b.size) ∧ (about zs b).1 ≤ b.at' ∧ b.at' + b.size ≤ (about zs b).1 + (about zs b).2 ∧ (about zs b).1 + (about zs b).2 ≤ zs.length ∧
      raw (blocks zs) = p' ++ l ++ r' ∧ Seg zs 0 p' (about zs b).1 ∧ Seg zs ((about zs b).1 + (about zs b).2) r' zs.length ∧ (∀ x ∈ l, x.at' = b.at' ∨ x.kind = 0) ∧ rroom l + b.size = (about zs b).2 := by
  have hw := Seg.whole hok
  obtain ⟨p, r, e⟩ := List.append_of_mem hb
  rw [e] at hw
  obtain ⟨m, h1, hm⟩ := hw.split
  obtain ⟨eb, hg, hr⟩ := hm.head
  have ea : m = b.at' := by rw [eb]
  have es : sz zs m = b.size := by rw [eb]
  rw [es, ea] at hr
  rw [ea] at h1
  have hle := hg.le
  have hs2 := hg.sz2
  rw [es] at hle hs2
  rw [ea] at hle
  -- behind b
  have hpost : ∃ l2 r', r = l2 ++ r' ∧ (∀ f, r.foldl (stp b.at' (b.at' + b.size)) f = (f.1, f.2 + (toB zs (b.at' + b.size) - (b.at' + b.size)))) ∧ Seg zs (toB zs (b.at' + b.size)) r' zs.length ∧ (∀ x ∈ l2, x.kind = 0) ∧ rroom l2 = toB zs (b.at' + b.size) - (b.at' + b.size) ∧ b.at' + b.size ≤ toB zs (b.at' + b.size) ∧ toB zs (b.at' + b.size) ≤ zs.length := by
    cases r with
    | nil =>
      have hz : b.at' + b.size = zs.length := hr.endN
      have ht : toB zs (b.at' + b.size) = b.at' + b.size := if_neg (by omega)
      exact ⟨[], [], rfl, fun f => by simp [ht], by rw [ht]; exact hr, by simp, by simp [ht, rroom], by omega, by omega⟩
    | cons y r =>
      obtain ⟨ey, hgy, hry⟩ := hr.head
      have hy1 : y.at' = b.at' + b.size := by rw [ey]
      have hy2 : y.size = sz zs (b.at' + b.size) := by rw [ey]
      have hy3 : y.kind = kd zs (b.at' + b.size) := by rw [ey]
      have hlt := hgy.lt
      have hrest : ∀ f, r.foldl (stp b.at' (b.at' + b.size)) f = f := fun f => stps_id f r (fun x hx => by have := hry.bd x hx; have := hgy.sz2; omega)
      by_cases hky : kd zs (b.at' + b.size) = 0
      · have ht : toB zs (b.at' + b.size) = b.at' + b.size + sz zs (b.at' + b.size) := if_pos ⟨hlt, hky⟩
        refine ⟨[y], r, rfl, fun f => ?_, by rw [ht]; exact hry, by simp [hy3, hky], by simp [rroom, hy3, hky, hy2, ht], by omega, by rw [ht]; exact hgy.le⟩
        have hne : ¬ (y.kind = 0 ∧ y.at' + y.size = b.at') := by omega
        rw [List.foldl_cons, hrest, stp, if_pos ⟨by rw [hy3, hky], hy1⟩, if_neg hne, ht, hy2]
        congr 1
        omega
      · have ht : toB zs (b.at' + b.size) = b.at' + b.size := if_neg (fun h => hky h.2)
        refine ⟨[], y :: r, rfl, fun f => ?_, by rw [ht]; exact hr, by simp, by simp [rroom, ht], by omega, by omega⟩
        rw [List.foldl_cons, hrest, stp_id f (by omega) (by omega), ht]
        simp
  -- ahead of b
  have hpre : ∃ p' l1, p = p' ++ l1 ∧ Seg zs 0 p' (p.foldl (stp b.at' (b.at' + b.size)) (b.at', b.size)).1 ∧ (p.foldl (stp b.at' (b.at' + b.size)) (b.at', b.size)).1 ≤ b.at' ∧ (p.foldl (stp b.at' (b.at' + b.size)) (b.at', b.size)).2 = b.size + (b.at' - (p.foldl (stp b.at' (b.at' + b.size)) (b.at', b.size)).1) ∧ (∀ x ∈ l1, x.kind = 0) ∧ rroom l1 = b.at' - (p.foldl (stp b.at' (b.at' + b.size)) (b.at', b.size)).1 := by
    rcases List.eq_nil_or_concat p with rfl | ⟨p0, y, rfl⟩
    · exact ⟨[], [], rfl, by exact h1, Nat.le_refl _, by simp, by simp, by simp [rroom]⟩
    · rw [List.concat_eq_append] at h1 ⊢
      obtain ⟨k, hk1, hk2⟩ := h1.split
      obtain ⟨ey, hgy, hry⟩ := hk2.head
      have hend : k + sz zs k = b.at' := hry.endN
      have hy1 : y.at' = k := by rw [ey]
      have hy2 : y.size = sz zs k := by rw [ey]
      have hsy := hgy.sz2
      have hp0 : p0.foldl (stp b.at' (b.at' + b.size)) (b.at', b.size) = (b.at', b.size) := stps_id _ p0 (fun x hx => by have := hk1.bd x hx; omega)
      rw [List.foldl_append, hp0, List.foldl_cons, List.foldl_nil]
      by_cases hky : y.kind = 0
      · have hst : stp b.at' (b.at' + b.size) (b.at', b.size) y = (y.at', b.size + y.size) := by
          rw [stp, if_neg (by omega), if_pos ⟨hky, by omega⟩]
        rw [hst]
        exact ⟨p0, [y], rfl, by show Seg zs 0 p0 y.at'; rw [hy1]; exact hk1, by show y.at' ≤ _; omega, by show b.size + y.size = _ + (_ - y.at'); omega, by simpa using hky, by simp [rroom, hky]; omega⟩
      · rw [stp_id _ (fun h => absurd h hky) (fun h => absurd h hky)]
        exact ⟨p0 ++ [y], [], by simp, h1, Nat.le_refl _, by simp, by simp, by simp [rroom]⟩
  obtain ⟨l2, r', er, hf2, hs2', hl2, hr2, ht1, ht2⟩ := hpost
  obtain ⟨p', l1, ep, hs1', hfa, hfb, hl1, hr1⟩ := hpre
  have hab : about zs b = ((p.foldl (stp b.at' (b.at' + b.size)) (b.at', b.size)).1, (p.foldl (stp b.at' (b.at' + b.size)) (b.at', b.size)).2 + (toB zs (b.at' + b.size) - (b.at' + b.size))) := by
    unfold about
    rw [e, List.foldl_append, List.foldl_cons, stp_id _ (fun h => absurd h hk) (fun h => absurd h hk), hf2]
  have hsum : (about zs b).1 + (about zs b).2 = toB zs (b.at' + b.size) := by rw [hab]; simp only; omega
  refine ⟨p, p', l1 ++ b :: l2, r', h1, by rw [hab], hsum, by rw [hab]; exact hfa, by rw [hsum]; exact ht1, by rw [hsum]; exact ht2, by rw [e, ep, er]; simp, by rw [hab]; exact hs1', by rw [hsum]; exact hs2', ?_, ?_⟩
  · intro x hx
    rcases List.mem_append.1 hx with hx | hx
    · exact .inr (hl1 x hx)
    · rcases List.mem_cons.1 hx with rfl | hx
      · exact .inl rfl
      · exact .inr (hl2 x hx)
  · rw [rroom_app, rroom, if_neg hk, hr1, hr2]
    have h2 : (about zs b).2 = (p.foldl (stp b.at' (b.at' + b.size)) (b.at', b.size)).2 + (toB zs (b.at' + b.size) - (b.at' + b.size)) := by rw [hab]
    omega

/-- A block b that is not free is given. -/
theorem give_seg {zs zs' : List Int} {b : Bk} (hok : slabOk zs = true) (hb : b ∈ raw (blocks zs)) (hk : b.kind ≠ 0) (hl : zs'.length = zs.length)
    (e1 : hz zs' (about zs b).1 = 8 * ((about zs b).2 : Int)) (e3 : ∀ j, j < (about zs b).1 ∨ (about zs b).1 + (about zs b).2 ≤ j → hz zs' j = hz zs j) :
    slabOk zs' = true ∧ room zs' = room zs + b.size ∧ ∀ x ∈ raw (blocks zs), x.at' ≠ b.at' → x.kind ≠ 0 → x ∈ raw (blocks zs') := by
  have hlen := (slabOk_iff.1 hok).1
  have hb2 := (Seg.whole hok).bd b hb
  obtain ⟨_, p', l, r', _, _, _, h1, h2, h3, e, hp, hr, hm, hrm⟩ := about_eq hok hb hk
  have hp' : Seg zs' 0 p' (about zs b).1 := hp.same hl (fun j _ hj => e3 j (.inl hj))
  have hr' : Seg zs' ((about zs b).1 + (about zs b).2) r' zs'.length := by rw [hl]; exact hr.same hl (fun j hj _ => e3 j (.inr hj))
  have hm' : Seg zs' (about zs b).1 [⟨(about zs b).1, (about zs b).2, 0⟩] ((about zs b).1 + (about zs b).2) := Seg.one (by omega) (by omega) (by omega) (by rw [e1]; omega)
  have hall := hp'.app (hm'.app hr')
  obtain ⟨ok', eb'⟩ := hall.slab (by omega)
  refine ⟨ok', ?_, ?_⟩
  · rw [room_raw ok', room_raw hok, eb', e, rroom_app, rroom_app, rroom_app, rroom_app]
    simp only [rroom, if_true]
    omega
  · intro x hx hne hxk
    rw [e] at hx
    rw [eb']
    rcases List.mem_append.1 hx with hx | hx
    · rcases List.mem_append.1 hx with hx | hx
      · exact List.mem_append.2 (.inl hx)
      · rcases hm x hx with h | h
        · exact absurd h hne
        · exact absurd h hxk
    · exact List.mem_append.2 (.inr (List.mem_append.2 (.inr hx)))

end Go.Proofs.YtpbafjcoomfooaaGreat
