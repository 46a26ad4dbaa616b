/-
  Pure: going through a tree by a stack and a map of what was met, each node once.
-/
import Derived.Test.YtlinbkgeahgkjaaGreatDoorGrpNu
namespace Go.Proofs.YtlinbkgeahgkjaaGreatDoor
open Go.RowKit

def doneA (f : Addr → Option (Nat × Nat)) (x : Nd) (q : Addr) : Prop := ofF f x q = some (x.size, x.deep)
def updF (f : Addr → Option (Nat × Nat)) (p : Addr) (v : Nat × Nat) : Addr → Option (Nat × Nat) := fun q => if q = p then some v else f q
def muF (f : Addr → Option (Nat × Nat)) (path : List (Nd × Addr)) : Nat := (path.map (fun x => if (f x.2).isNone then 2 * x.1.size else 1)).sum
structure ExtI (w0 : World) (T : Nd) (R : Addr) (f : Addr → Option (Nat × Nat)) (path : List (Nd × Addr)) : Prop where
  at_ : ∀ x ∈ path, NdAt w0 x.1 x.2
  val : ∀ q e, f q = some e → ∃ t, NdAt w0 t q ∧ kidsN t ≠ [] ∧ (e = (0, 0) ∨ e = (t.size, t.deep))
  prog : ∀ q, f q = some (0, 0) → ∃ t post pre, path = post ++ (t, q) :: pre ∧ (∀ x ∈ pre, x.1.size < t.size) ∧ ∀ k x q', (kidsN t)[k]? = some x → Kid w0 q k q' → doneA f x q' ∨ ∃ y, (y, q') ∈ pre
  root : doneA f T R ∨ (T, R) ∈ path
  small : ∀ x ∈ path, x.1.size ≤ T.size
theorem leaf_done {f : Addr → Option (Nat × Nat)} {x : Nd} {q : Addr} (h : kidsN x = []) : doneA f x q := by
  obtain ⟨op, s, n, ks⟩ := x
  simp only [kidsN] at h
  subst h
  simp [doneA, ofF, kidsN, Nd.size, Nd.deep, sizesN, deepsN]
theorem done_iff {f : Addr → Option (Nat × Nat)} {x : Nd} {q : Addr} (h : kidsN x ≠ []) : doneA f x q ↔ f q = some (x.size, x.deep) := by
  simp [doneA, ofF, h]
theorem muF_app (f : Addr → Option (Nat × Nat)) (a b : List (Nd × Addr)) : muF f (a ++ b) = muF f a + muF f b := by simp [muF, List.sum_append]
theorem muF_one_pos (f : Addr → Option (Nat × Nat)) (x : Nd × Addr) : 1 ≤ muF f [x] := by
  have := x.1.size_pos
  simp only [muF, List.map_cons, List.map_nil, List.sum_cons, List.sum_nil]
  split <;> omega
theorem muF_len (f : Addr → Option (Nat × Nat)) : ∀ l : List (Nd × Addr), l.length ≤ muF f l
  | [] => by simp
  | x :: l => by
    have h1 := muF_len f l
    have h2 := muF_one_pos f x
    have h3 := muF_app f [x] l
    simp only [List.singleton_append] at h3
    simp only [List.length_cons]
    omega
theorem muF_upd (f : Addr → Option (Nat × Nat)) (p : Addr) (v : Nat × Nat) : ∀ l : List (Nd × Addr), muF (updF f p v) l ≤ muF f l
  | [] => by simp [muF]
  | x :: l => by
    have h1 := muF_upd f p v l
    have h3 : muF (updF f p v) [x] ≤ muF f [x] := by
      by_cases hx : x.2 = p
      · have e1 : muF (updF f p v) [x] = 1 := by simp [muF, updF, hx]
        have := muF_one_pos f x
        omega
      · simp [muF, updF, hx]
    have h4 := muF_app (updF f p v) [x] l
    have h5 := muF_app f [x] l
    simp only [List.singleton_append] at h4 h5
    omega
theorem ExtI.split {α : Type} {a : List α} {n : α} {post : List α} {y : α} {pre : List α} (h : a ++ [n] = post ++ y :: pre) : (pre = [] ∧ y = n ∧ a = post) ∨ ∃ pre', pre = pre' ++ [n] ∧ a = post ++ y :: pre' := by
  rcases List.eq_nil_or_concat pre with rfl | ⟨l, b, rfl⟩
  · have := List.append_inj_right' h rfl
    have h2 := List.append_inj_left' h rfl
    simp at this
    exact .inl ⟨rfl, this.symm, h2⟩
  · rw [List.concat_eq_append] at h ⊢
    have e : post ++ y :: (l ++ [b]) = (post ++ y :: l) ++ [b] := by simp
    rw [e] at h
    have h1 := List.append_inj_right' h rfl
    have h2 := List.append_inj_left' h rfl
    simp at h1
    subst h1
    exact .inr ⟨l, rfl, h2⟩
theorem ExtI.start {w0 : World} {T : Nd} {R : Addr} (h : NdAt w0 T R) : ExtI w0 T R (fun _ => none) [(T, R)] :=
  ⟨fun x hx => by simp at hx; subst hx; exact h, fun q e he => by simp at he, fun q hq => by simp at hq, .inr (by simp), fun x hx => by simp at hx; subst hx; exact Nat.le_refl _⟩
/-- What is done goes off the stack. -/
theorem ExtI.pop {w0 : World} {T : Nd} {R : Addr} {f : Addr → Option (Nat × Nat)} {rest : List (Nd × Addr)} {n : Nd × Addr} (h : ExtI w0 T R f (rest ++ [n])) (hd : doneA f n.1 n.2) : ExtI w0 T R f rest where
  at_ x hx := h.at_ x (by simp [hx])
  val := h.val
  prog q hq := by
    obtain ⟨t, post, pre, e, hs, hc⟩ := h.prog q hq
    have hn := h.at_ n (by simp)
    rcases ExtI.split e with ⟨_, e2, _⟩ | ⟨pre', e1, e2⟩
    · exfalso
      subst e2
      obtain ⟨t', ht', hk, _⟩ := h.val q _ hq
      obtain rfl := NdAt.det hn ht'
      rw [done_iff hk, hq] at hd
      have := t.size_pos
      simp at hd
      omega
    · refine ⟨t, post, pre', e2, fun x hx => hs x (by simp [e1, hx]), fun k x q' hx hq' => ?_⟩
      rcases hc k x q' hx hq' with h1 | ⟨y, hy⟩
      · exact .inl h1
      · rw [e1] at hy
        simp only [List.mem_append, List.mem_singleton] at hy
        rcases hy with hy | rfl
        · exact .inr ⟨y, hy⟩
        · left
          have ht : NdAt w0 t q := h.at_ (t, q) (by rw [e]; simp)
          obtain ⟨op, s, m, ks⟩ := t
          obtain ⟨x2, hx2, hxa⟩ := ht.kid_at hq'
          simp only [kidsN] at hx
          rw [hx] at hx2
          cases hx2
          obtain rfl : x = y := NdAt.det hxa hn
          exact hd
  root := by
    rcases h.root with h1 | h1
    · exact .inl h1
    · simp only [List.mem_append, List.mem_singleton] at h1
      rcases h1 with h1 | rfl
      · exact .inr h1
      · exact .inl hd
  small x hx := h.small x (by simp [hx])
theorem ExtI.ready {w0 : World} {T : Nd} {R : Addr} {f : Addr → Option (Nat × Nat)} {rest : List (Nd × Addr)} {n : Nd × Addr} (h : ExtI w0 T R f (rest ++ [n])) (hf : f n.2 = some (0, 0)) : ∀ k x q', (kidsN n.1)[k]? = some x → Kid w0 n.2 k q' → doneA f x q' := by
  obtain ⟨t, post, pre, e, hs, hc⟩ := h.prog n.2 hf
  have hn := h.at_ n (by simp)
  have ht : NdAt w0 t n.2 := h.at_ (t, n.2) (by rw [e]; simp)
  obtain rfl := NdAt.det hn ht
  rcases ExtI.split e with ⟨e1, e2, _⟩ | ⟨pre', e1, e2⟩
  · subst e1
    intro k x q' hx hq'
    rcases hc k x q' hx hq' with h1 | ⟨y, hy⟩
    · exact h1
    · simp at hy
  · exfalso
    have := hs n (by simp [e1])
    omega
theorem done_upd {w0 : World} {f : Addr → Option (Nat × Nat)} {q : Addr} {t : Nd} (ht : NdAt w0 t q) (hf : ¬ doneA f t q) {x : Nd} {q' : Addr} (hx : NdAt w0 x q') (v : Nat × Nat) (h : doneA f x q') : doneA (updF f q v) x q' := by
  by_cases hk : kidsN x = []
  · exact leaf_done hk
  · rw [done_iff hk] at h ⊢
    by_cases e : q' = q
    · subst e
      obtain rfl := NdAt.det ht hx
      exact absurd ((done_iff hk).2 h) hf
    · simp [updF, e, h]
/-- What was gone through is told, and goes off the stack. -/
theorem ExtI.tell {w0 : World} {T : Nd} {R : Addr} {f : Addr → Option (Nat × Nat)} {rest : List (Nd × Addr)} {n : Nd × Addr} (h : ExtI w0 T R f (rest ++ [n])) (hf : f n.2 = some (0, 0)) : ExtI w0 T R (updF f n.2 (n.1.size, n.1.deep)) rest := by
  have hn := h.at_ n (by simp)
  have hk : kidsN n.1 ≠ [] := by
    obtain ⟨t', ht', hk, _⟩ := h.val n.2 _ hf
    obtain rfl := NdAt.det hn ht'
    exact hk
  have hnd : ¬ doneA f n.1 n.2 := by
    rw [done_iff hk, hf]
    have := n.1.size_pos
    simp
    omega
  have hd : doneA (updF f n.2 (n.1.size, n.1.deep)) n.1 n.2 := by rw [done_iff hk]; simp [updF]
  refine ⟨fun x hx => h.at_ x (by simp [hx]), fun q e he => ?_, fun q hq => ?_, ?_, fun x hx => h.small x (by simp [hx])⟩
  · by_cases e2 : q = n.2
    · subst e2
      simp [updF] at he
      exact ⟨n.1, hn, hk, .inr he.symm⟩
    · simp [updF, e2] at he
      exact h.val q e he
  · have hqn : q ≠ n.2 := by
      rintro rfl
      have := n.1.size_pos
      simp [updF] at hq
      omega
    simp [updF, hqn] at hq
    obtain ⟨t, post, pre, e, hs, hc⟩ := h.prog q hq
    rcases ExtI.split e with ⟨_, e2, _⟩ | ⟨pre', e1, e2⟩
    · exact absurd (congrArg Prod.snd e2) hqn
    · refine ⟨t, post, pre', e2, fun x hx => hs x (by simp [e1, hx]), fun k x q' hx hq' => ?_⟩
      have ht : NdAt w0 t q := h.at_ (t, q) (by rw [e]; simp)
      obtain ⟨op, s, m, ks⟩ := t
      obtain ⟨x2, hx2, hxa⟩ := ht.kid_at hq'
      simp only [kidsN] at hx
      rw [hx] at hx2
      cases hx2
      rcases hc k x q' (by simpa only [kidsN] using hx) hq' with h1 | ⟨y, hy⟩
      · exact .inl (done_upd hn hnd hxa _ h1)
      · rw [e1] at hy
        simp only [List.mem_append, List.mem_singleton] at hy
        rcases hy with hy | rfl
        · exact .inr ⟨y, hy⟩
        · left
          obtain rfl : x = y := NdAt.det hxa hn
          exact hd
  · rcases h.root with h1 | h1
    · by_cases e : (T, R) = n
      · subst e; exact .inl hd
      · left
        by_cases hkT : kidsN T = []
        · exact leaf_done hkT
        · rw [done_iff hkT] at h1 ⊢
          by_cases e2 : R = n.2
          · rw [e2, hf] at h1
            have := T.size_pos
            simp at h1
            omega
          · simp [updF, e2, h1]
    · simp only [List.mem_append, List.mem_singleton] at h1
      rcases h1 with h1 | rfl
      · exact .inr h1
      · exact .inl hd
theorem kid_size {t x : Nd} {k : Nat} (h : (kidsN t)[k]? = some x) : x.size < t.size := by
  obtain ⟨op, s, n, ks⟩ := t
  have := size_mem (ks := ks) h
  simp only [Nd.size]
  omega
/-- A kid is never on its way where its node begins. -/
theorem ExtI.kid {w0 : World} {T : Nd} {R : Addr} {f : Addr → Option (Nat × Nat)} {rest : List (Nd × Addr)} {n : Nd × Addr} (h : ExtI w0 T R f (rest ++ [n])) {k : Nat} {x : Nd} {q' : Addr} (hx : (kidsN n.1)[k]? = some x) (hq' : Kid w0 n.2 k q') (hxa : NdAt w0 x q') : ofF (updF f n.2 (0, 0)) x q' = none ∨ doneA (updF f n.2 (0, 0)) x q' := by
  have hn := h.at_ n (by simp)
  have hks := kid_size hx
  by_cases hk : kidsN x = []
  · exact .inr (leaf_done hk)
  · have hne : q' ≠ n.2 := by
      rintro rfl
      obtain rfl := NdAt.det hn hxa
      omega
    cases hq : f q' with
    | none => left; simp [ofF, hk, updF, hne, hq]
    | some e =>
      right
      rw [done_iff hk]
      simp only [updF, hne, if_false, hq]
      obtain ⟨t, ht, _, h1 | h1⟩ := h.val q' e hq
      · exfalso
        subst h1
        obtain ⟨t', post, pre, e, hs, _⟩ := h.prog q' hq
        have ht' : NdAt w0 t' q' := h.at_ (t', q') (by rw [e]; simp)
        obtain rfl := NdAt.det hxa ht'
        rcases ExtI.split e with ⟨_, e2, _⟩ | ⟨pre', e1, e2⟩
        · exact hne (congrArg Prod.snd e2)
        · have := hs n (by simp [e1])
          omega
      · obtain rfl := NdAt.det hxa ht
        rw [h1]
/-- A node begins: its kids that were not met go onto the stack. -/
theorem ExtI.push {w0 : World} {T : Nd} {R : Addr} {f : Addr → Option (Nat × Nat)} {rest : List (Nd × Addr)} {n : Nd × Addr} (h : ExtI w0 T R f (rest ++ [n])) (hf : ofF f n.1 n.2 = none) {ps : List (Nd × Addr)} (hps : ∀ y ∈ ps, ∃ k, (kidsN n.1)[k]? = some y.1 ∧ Kid w0 n.2 k y.2 ∧ NdAt w0 y.1 y.2)
    (hall : ∀ k x q', (kidsN n.1)[k]? = some x → Kid w0 n.2 k q' → NdAt w0 x q' → ofF (updF f n.2 (0, 0)) x q' = none → (x, q') ∈ ps) : ExtI w0 T R (updF f n.2 (0, 0)) (rest ++ [n] ++ ps) := by
  have hn := h.at_ n (by simp)
  have hk : kidsN n.1 ≠ [] := by
    intro e
    simp [ofF, e] at hf
  have hfn : f n.2 = none := by simpa [ofF, hk] using hf
  have hnd : ¬ doneA f n.1 n.2 := by rw [done_iff hk, hfn]; simp
  refine ⟨fun x hx => ?_, fun q e he => ?_, fun q hq => ?_, ?_, fun x hx => ?_⟩
  · rw [List.mem_append] at hx
    rcases hx with hx | hx
    · exact h.at_ x hx
    · obtain ⟨k, _, _, h3⟩ := hps x hx
      exact h3
  · by_cases e2 : q = n.2
    · subst e2
      simp [updF] at he
      exact ⟨n.1, hn, hk, .inl he.symm⟩
    · simp [updF, e2] at he
      exact h.val q e he
  · by_cases e2 : q = n.2
    · subst e2
      refine ⟨n.1, rest, ps, by simp, fun x hx => ?_, fun k x q' hx hq' => ?_⟩
      · obtain ⟨k, h1, _, _⟩ := hps x hx
        exact kid_size h1
      · have hxa : NdAt w0 x q' := by
          obtain ⟨⟨op, s, m, ks⟩, qn⟩ := n
          obtain ⟨x2, hx2, hxa⟩ := NdAt.kid_at hn hq'
          simp only [kidsN] at hx
          rw [hx] at hx2
          cases hx2
          exact hxa
        rcases h.kid hx hq' hxa with h1 | h1
        · exact .inr ⟨x, hall k x q' hx hq' hxa h1⟩
        · exact .inl h1
    · simp [updF, e2] at hq
      obtain ⟨t, post, pre, e, hs, hc⟩ := h.prog q hq
      rcases ExtI.split e with ⟨_, e3, _⟩ | ⟨pre', e1, e3⟩
      · exact absurd (congrArg Prod.snd e3) e2
      · have htn := hs n (by simp [e1])
        refine ⟨t, post, pre ++ ps, by rw [e]; simp, fun x hx => ?_, fun k x q' hx hq' => ?_⟩
        · rw [List.mem_append] at hx
          rcases hx with hx | hx
          · exact hs x hx
          · obtain ⟨k, h1, _, _⟩ := hps x hx
            have := kid_size h1
            omega
        · have ht : NdAt w0 t q := h.at_ (t, q) (by rw [e]; simp)
          obtain ⟨op, s, m, ks⟩ := t
          obtain ⟨x2, hx2, hxa⟩ := ht.kid_at hq'
          simp only [kidsN] at hx
          rw [hx] at hx2
          cases hx2
          rcases hc k x q' (by simpa only [kidsN] using hx) hq' with h1 | ⟨y, hy⟩
          · exact .inl (done_upd hn hnd hxa _ h1)
          · exact .inr ⟨y, by simp [hy]⟩
  · rcases h.root with h1 | h1
    · left
      by_cases hkT : kidsN T = []
      · exact leaf_done hkT
      · rw [done_iff hkT] at h1 ⊢
        by_cases e2 : R = n.2
        · rw [e2, hfn] at h1; cases h1
        · simp [updF, e2, h1]
    · exact .inr (by rw [List.mem_append]; exact .inl h1)
  · rw [List.mem_append] at hx
    rcases hx with hx | hx
    · exact h.small x hx
    · obtain ⟨k, h1, _, _⟩ := hps x hx
      have := kid_size h1
      have := h.small n (by simp)
      omega
theorem muF_push {f : Addr → Option (Nat × Nat)} {rest : List (Nd × Addr)} {n : Nd × Addr} (hf : ofF f n.1 n.2 = none) {ps : List (Nd × Addr)} (hs : (ps.map (fun y => y.1.size)).sum ≤ sizesN (kidsN n.1)) : muF (updF f n.2 (0, 0)) (rest ++ [n] ++ ps) < muF f (rest ++ [n]) := by
  have hk : kidsN n.1 ≠ [] := by
    intro e
    simp [ofF, e] at hf
  have hfn : f n.2 = none := by simpa [ofF, hk] using hf
  have h1 := muF_upd f n.2 (0, 0) rest
  have h2 : muF (updF f n.2 (0, 0)) [n] = 1 := by simp [muF, updF]
  have h3 : muF f [n] = 2 * n.1.size := by simp [muF, hfn]
  have h4 : ∀ l : List (Nd × Addr), muF (updF f n.2 (0, 0)) l ≤ 2 * (l.map (fun y => y.1.size)).sum := by
    intro l
    induction l with
    | nil => simp [muF]
    | cons x l ih =>
      have := x.1.size_pos
      simp only [muF, List.map_cons, List.sum_cons] at ih ⊢
      split <;> omega
  have h5 := h4 ps
  have h6 : n.1.size = 1 + sizesN (kidsN n.1) := by
    obtain ⟨⟨op, s, m, ks⟩, q⟩ := n
    simp [Nd.size, kidsN]
  rw [muF_app, muF_app, muF_app, h2, h3]
  omega
theorem muF_pop {f : Addr → Option (Nat × Nat)} {rest : List (Nd × Addr)} {n : Nd × Addr} : muF f rest < muF f (rest ++ [n]) := by
  have := muF_one_pos f n
  rw [muF_app]
  omega
theorem muF_tell {f : Addr → Option (Nat × Nat)} {rest : List (Nd × Addr)} {n : Nd × Addr} (v : Nat × Nat) : muF (updF f n.2 v) rest < muF f (rest ++ [n]) := by
  have h1 := muF_one_pos f n
  have h2 := muF_upd f n.2 v rest
  rw [muF_app]
  omega
end Go.Proofs.YtlinbkgeahgkjaaGreatDoor
