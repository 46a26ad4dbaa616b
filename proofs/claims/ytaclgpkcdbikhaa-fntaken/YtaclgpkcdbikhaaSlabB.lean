/-
  What Take, Give and SlabNew make of the words keeps the slab right; how much room there is then.
-/
import Derived.Test.YtaclgpkcdbikhaaSlabJ
import Derived.Test.YtaclgpkcdbikhaaSlabR
namespace Go.Proofs.Ytaclgpkcdbikhaa

theorem Seg.heads {zs zs' : List Int} {k e : Nat} {l : List Bk} (h : Seg zs k l e) (hl : zs'.length = zs.length) : (∀ x ∈ l, hz zs' x.at' = hz zs x.at') → Seg zs' k l e := by
  induction h with
  | nil => intro _; exact .nil _
  | @cons k e l hg hs ih =>
    intro hj
    have e1 : hz zs' k = hz zs k := hj ⟨k, sz zs k, kd zs k⟩ (by simp)
    have hg' : Good zs' k := by unfold Good at hg ⊢; rw [e1, hl]; exact hg
    have es : sz zs' k = sz zs k := by unfold sz; rw [e1]
    have ek : kd zs' k = kd zs k := by unfold kd; rw [e1]
    have := ih (fun x hx => hj x (by simp [hx]))
    rw [← es] at this
    have r := Seg.cons hg' this
    rw [es, ek] at r
    exact r
/-- A word of a block behind its first one is written. -/
theorem slabOk_set {zs : List Int} {b : Bk} (hok : slabOk zs = true) (hb : b ∈ raw (blocks zs)) (v : Int) : slabOk (zs.set (b.at' + 1) v) = true ∧ b.at' + 1 < zs.length := by
  have hw := Seg.whole hok
  have hlen := (slabOk_iff.1 hok).1
  have hbd := hw.bd b hb
  obtain ⟨p, r, e⟩ := List.append_of_mem hb
  rw [e] at hw
  obtain ⟨m, h1, hm⟩ := hw.split
  obtain ⟨eb, hg, hr⟩ := hm.head
  have ea : m = b.at' := by rw [eb]
  have es : sz zs m = b.size := by rw [eb]
  rw [es, ea] at hr
  rw [ea] at h1
  refine ⟨?_, by omega⟩
  have hall : Seg (zs.set (b.at' + 1) v) 0 (p ++ b :: r) zs.length := by
    refine hw.heads (by simp) (fun x hx => ?_)
    rw [hz_set (by omega), if_neg]
    rcases List.mem_append.1 hx with hx | hx
    · have := h1.bd x hx; omega
    · rcases List.mem_cons.1 hx with rfl | hx
      · omega
      · have := hr.bd x hx; omega
  rw [← List.length_set (i := b.at' + 1) (a := v)] at hall
  exact (hall.slab (by simpa using hlen)).1

theorem takeL_len (zs : List Int) (b : Bk) (kind n : Nat) : (takeL zs b kind n).length = zs.length := by unfold takeL; split <;> simp [layL_len]
theorem takeL_ok {zs : List Int} {b : BkOf zs.length} {kind n : Nat} (hok : slabOk zs = true) (hb : ffB zs n = some b) (h1 : 1 ≤ kind) (h5 : kind ≤ 5) (h2 : 2 ≤ n) :
    ∃ s' : Nat, n ≤ s' ∧ s' ≤ n + 1 ∧ slabOk (takeL zs b.1 kind n) = true ∧ kindAt (takeL zs b.1 kind n) b.1.at' = kind ∧ sizeAt (takeL zs b.1 kind n) b.1.at' = s' ∧ kindAt zs b.1.at' = 0 ∧ room (takeL zs b.1 kind n) + s' = room zs ∧ (⟨b.1.at', s', kind⟩ : Bk) ∈ raw (blocks (takeL zs b.1 kind n)) := by
  have hf : b.1.kind = 0 ∧ (n : Int) ≤ (b.1.size : Int) := by
    have := List.find?_some hb
    simpa [freeP] using this
  have hm : b.1 ∈ raw (blocks zs) := List.mem_map.2 ⟨b, List.mem_of_find?_eq_some hb, rfl⟩
  have hbs := b.2
  by_cases hs : n + 2 ≤ b.1.size
  · have eT : takeL zs b.1 kind n = layL (zs.set (b.1.at' + n) (8 * ((b.1.size : Int) - (n : Int)))) b.1.at' n (8 * (n : Int) + (kind : Int)) := if_pos hs
    have hz' : ∀ j, hz (takeL zs b.1 kind n) j = if j = b.1.at' then 8 * (n : Int) + (kind : Int) else if b.1.at' < j ∧ j < b.1.at' + n then 0 else if j = b.1.at' + n then 8 * ((b.1.size : Int) - (n : Int)) else hz zs j := fun j => by
      rw [eT, hz_layL (by simp; omega) (by omega), hz_set (by omega)]
    have := take_seg (s' := n) (kind := kind) hok hm hf.1 (takeL_len zs b.1 kind n) h2 (.inr hs) h5 (by rw [hz', if_pos rfl]) (fun _ => by rw [hz', if_neg (by omega), if_neg (by omega), if_pos rfl]) (fun j hj => by rw [hz', if_neg (by omega), if_neg (by omega), if_neg (by omega)]) (by omega)
    exact ⟨n, by omega, by omega, this⟩
  · have eT : takeL zs b.1 kind n = layL zs b.1.at' b.1.size (8 * (b.1.size : Int) + (kind : Int)) := if_neg hs
    have hz' : ∀ j, hz (takeL zs b.1 kind n) j = if j = b.1.at' then 8 * (b.1.size : Int) + (kind : Int) else if b.1.at' < j ∧ j < b.1.at' + b.1.size then 0 else hz zs j := fun j => by
      rw [eT, hz_layL (by omega) (by omega)]
    have := take_seg (s' := b.1.size) (kind := kind) hok hm hf.1 (takeL_len zs b.1 kind n) (by omega) (.inl rfl) h5 (by rw [hz', if_pos rfl]) (fun h => by omega) (fun j hj => by rw [hz', if_neg (by omega), if_neg (by omega)]) (by omega)
    exact ⟨b.1.size, by omega, by omega, this⟩

theorem giveB_ok {zs : List Int} {b : Bk} (hok : slabOk zs = true) (hb : b ∈ raw (blocks zs)) (hk : b.kind ≠ 0) :
    slabOk (giveB zs b) = true ∧ room (giveB zs b) = room zs + b.size ∧ ∀ x ∈ raw (blocks zs), x.at' ≠ b.at' → x.kind ≠ 0 → x ∈ raw (blocks (giveB zs b)) := by
  obtain ⟨_, _, _, _, _, _, _, h1, h2, h3, _⟩ := about_eq hok hb hk
  have hbd := (Seg.whole hok).bd b hb
  have hz' : ∀ j, hz (giveB zs b) j = if j = (about zs b).1 then 8 * ((about zs b).2 : Int) + ((0 : Nat) : Int) else if (about zs b).1 < j ∧ j < (about zs b).1 + (about zs b).2 then 0 else hz zs j := fun j => by
    unfold giveB
    rw [hz_layL (by omega) (by omega)]
  exact give_seg hok hb hk (giveB_len zs b) (by rw [hz', if_pos rfl]; simp) (fun j hj => by rw [hz', if_neg (by omega), if_neg (by omega)])
theorem giveL_same {zs : List Int} {a : Int} (h : ∀ b, atB zs a = some b → b.1.kind = 0) : giveL zs a = zs := by
  unfold giveL
  cases hb : atB zs a with
  | none => rfl
  | some b => exact if_pos (h b hb)
theorem giveL_b {zs : List Int} {a : Int} {b : BkOf zs.length} (hb : atB zs a = some b) (hk : b.1.kind ≠ 0) : giveL zs a = giveB zs b.1 := by
  unfold giveL
  rw [hb]
  exact if_neg hk
theorem giveL_ok {zs : List Int} (a : Int) (hok : slabOk zs = true) :
    slabOk (giveL zs a) = true ∧ ∀ x ∈ raw (blocks zs), (x.at' : Int) ≠ a → x.kind ≠ 0 → x ∈ raw (blocks (giveL zs a)) := by
  by_cases h : ∀ b, atB zs a = some b → b.1.kind = 0
  · rw [giveL_same h]
    exact ⟨hok, fun x hx _ _ => hx⟩
  · cases hb : atB zs a with
    | none => exact absurd (by simp [hb]) h
    | some b =>
      have hk : b.1.kind ≠ 0 := fun hk => h (fun b' h' => by rw [hb] at h'; cases h'; exact hk)
      rw [giveL_b hb hk]
      have h := atB_some hb
      have hg := giveB_ok hok (List.mem_map.2 ⟨b, h.2.2.2.2.2, rfl⟩) hk
      exact ⟨hg.1, fun x hx hne hxk => hg.2.2 x hx (by have := h.2.1; omega) hxk⟩
/-- What was taken and is given leaves as much room. -/
theorem give_back {zs : List Int} {a s' kind : Nat} (hok : slabOk zs = true) (hm : (⟨a, s', kind⟩ : Bk) ∈ raw (blocks zs)) (hk : kind ≠ 0) : slabOk (giveL zs a) = true ∧ room (giveL zs a) = room zs + s' := by
  obtain ⟨p, r, e⟩ := List.append_of_mem hm
  have hw := Seg.whole hok
  rw [e] at hw
  obtain ⟨m, h1, h2⟩ := hw.split
  obtain ⟨eb, hg, _⟩ := h2.head
  simp only [Bk.mk.injEq] at eb
  obtain ⟨rfl, rfl, rfl⟩ := eb
  obtain ⟨hp, hf⟩ := (h1.at (At.zero zs)).found hok hg.lt
  have hgv := giveB_ok hok hm hk
  rw [giveL_b hf hk]
  exact ⟨hgv.1, hgv.2.1⟩
theorem newL_ok {n : Nat} (h2 : 2 ≤ n) (hn : n ≤ 2000) : slabOk (newL n) = true ∧ room (newL n) = n := by
  have e : hz (newL n) 0 = 8 * (n : Int) + ((0 : Nat) : Int) := by rw [newL, hz_set (by simp; omega)]; simp
  have hs : Seg (newL n) 0 [⟨0, n, 0⟩] (0 + n) := Seg.one (by rw [newL_len]; omega) h2 (by omega) e
  have hs' : Seg (newL n) 0 [⟨0, n, 0⟩] (newL n).length := by rw [newL_len]; simpa using hs
  obtain ⟨ok, eb⟩ := hs'.slab (by rw [newL_len]; exact hn)
  exact ⟨ok, by rw [room_raw ok, eb]; simp [rroom]⟩
theorem blocks_pos {zs : List Int} (hok : slabOk zs = true) (h2 : 0 < zs.length) : 0 < (places zs).length := by
  rw [places_len hok]
  have := (At.zero zs).good hok h2
  unfold blocks
  rw [blks_yes this]
  simp
theorem room_le (zs : List Int) : room zs ≤ zs.length := by
  unfold room
  split
  · have := roomOf_le zs 0 (Nat.zero_le _)
    unfold blocks
    omega
  · exact Nat.zero_le _

end Go.Proofs.Ytaclgpkcdbikhaa
