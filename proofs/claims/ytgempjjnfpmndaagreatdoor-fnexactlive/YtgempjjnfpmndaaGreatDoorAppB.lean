/-
  Append on a row that is seen from an offset on, and where what it makes lies; such a row without its first.
-/
import Derived.Test.YtgempjjnfpmndaaGreatDoorAppA
import Derived.Maps.AppendAt
namespace Go.Proofs.YtgempjjnfpmndaaGreatDoor

theorem run_append_at2 {P : Program} (w : World) (base : Nat) (t ty e : TypeId) (i : TypeInfo) (z : Value) (bytes : Nat) (ht : P.underlying t = some (.slice e)) (hi : P.info? e = some i) (hz : i.zero = some z)
    (hsize : i.size = 1) (hby : i.bytes = bytes) (hzs : z.cells.size = 1) (v : Value) (xs : List Value) (hown : OwnAt w base e v xs) (x : Value) (news : List Value) (hx : Lies w x news) (h1 : ∀ u ∈ news, u.oneCell' = true)
    (h63 : xs.length + news.length ≤ maxLen) (hbytes : (xs.length + news.length) * bytes ≤ 140737488355328) (hbase : base ≤ w.heap.size) :
    ∃ v' w', (Builtin.append_ #[t, t] ty #[v, x]).run P w = .ok v' w' ∧ OwnAt w' base e v' (xs ++ news) ∧ w.grownBy w' v.ownBlock ∧ (v'.ownBlock = v.ownBlock ∨ v'.ownBlock = some w.heap.size) := by
  subst hby
  have hsmall : xs.length + news.length ≤ 9223372036854775807 := by simp only [maxLen] at h63; omega
  rcases hx with ⟨rfl, rfl⟩ | ⟨a, c, rfl, hnews⟩
  · refine ⟨v, w, ?_, by simpa using hown, ⟨rfl, rfl, rfl, Nat.le_refl _, fun _ _ _ => rfl⟩, .inl rfl⟩
    rcases hown with ⟨rfl, rfl⟩ | ⟨g, off, cap, cur, rfl, _, _, hnc, _⟩
    · simp [Builtin.append_, run_underlying ht, sizeOf, typeInfo, hi, Builtin.lenOf, Builtin.firstCells]
    · simp [Builtin.append_, run_underlying ht, sizeOf, typeInfo, hi, Builtin.lenOf, Builtin.firstCells, hnc, storeCells]
  · rcases hown with ⟨rfl, rfl⟩ | ⟨g, off, cap, cur, rfl, hbg, hg, hnc, hcm, hcs, htake⟩
    · obtain ⟨v', w', hr, h2, h3, _, h4⟩ := run_append_own_at (P := P) w base t ty e i z 1 i.bytes ht hi hz hsize rfl hzs (by omega) (.slice none 0 0) 0 [] (World.ownsRow_nil w base e 1) a news.length c news (by simp) hnews h1 (by simpa using h63) (by simpa using hbytes) hbase
      refine ⟨v', w', hr, ?_, h3, h4⟩
      have := OwnAt.of h2
      simpa using this
    · by_cases hroom : xs.length + news.length ≤ cap
      · have hf := run_firstCells_some (P := P) w 1 news.length a news.length c news (by simp) hnews
        have hst := run_storeCells_at P g (off + xs.length) e news 0 cur w hg (by omega) h1
        simp only [Nat.add_zero] at hst
        refine ⟨.slice (some ⟨g, off, none⟩) (xs.length + news.length) cap, w.setRow g (cur.toList.take (off + xs.length) ++ news ++ cur.toList.drop (off + xs.length + news.length)).toArray, ?_, ?_, ⟨rfl, rfl, rfl, by simp, fun k _ hk => setRow_other w g k _ (fun e => hk (by simp [Value.ownBlock, e]))⟩, .inl rfl⟩
        · simp [Builtin.append_, run_underlying ht, sizeOf, typeInfo, hi, hsize, Builtin.lenOf, hroom, hf, Addr.add_lit, hst]
        · refine .inr ⟨g, off, cap, _, by rw [List.length_append], hbg, setRow_heap w g cur _ e _ hg, by rw [List.length_append]; exact hroom, hcm, ?_, ?_⟩
          · have hq : cur.toList.length = cur.size := by simp
            simp only [List.size_toArray, List.length_append, List.length_take, List.length_drop]
            omega
          · have hd : (cur.toList.take (off + xs.length)).drop off = xs := by
              rw [List.drop_take, show off + xs.length - off = xs.length by omega]
              exact htake
            have hlen : off ≤ (cur.toList.take (off + xs.length)).length := by
              have hq : cur.toList.length = cur.size := by simp
              rw [List.length_take]; omega
            rw [List.append_assoc, List.drop_append_of_le_length hlen, hd, ← List.append_assoc, List.take_left]
      · have holds : ∀ j u, xs[j]? = some u → w.cell? ((⟨g, off, none⟩ : Addr).add j) = some u := by
          intro j u hu
          have hc := OwnAt.cell (w := w) (base := base) (e := e) (g := g) (off := off) (cap := cap) (xs := xs) (.inr ⟨g, off, cap, cur, rfl, hbg, hg, hnc, hcm, hcs, htake⟩) j u hu
          rw [Addr.add_lit]
          exact hc
        have hr := run_append_grow (P := P) w t ty e i z ht hi hz ⟨g, off, none⟩ xs.length cap xs (by rw [hsize]; omega) holds a news.length c news (by rw [hsize]; omega) hnews (by omega) (by omega) (growslice_fits (by omega) hbytes)
        have hge := grownCap_ge w (xs.length + news.length) cap e
        have hcm := grownCap_le_maxLen w (xs.length + news.length) cap e h63
        refine ⟨_, _, hr, .inr ⟨w.heap.size, 0, _, _, by rw [List.length_append], hbase, heap_alloc_new w.drew _, by rw [List.length_append]; exact hge, hcm, ?_, ?_⟩, ⟨rfl, rfl, rfl, by simp, fun k hk _ => heap_alloc_old w.drew _ k hk⟩, .inr rfl⟩
        · simp only [Array.size_append, List.size_toArray, size_zeroCells, hzs]
          omega
        · simp only [Array.toList_append, List.append_assoc, List.drop_zero]
          rw [← List.append_assoc]
          exact List.take_left
theorem wpList_append_at2 {P : Program} {w : World} {ops : Array Oper} {rest : List Oper} {o : Oper} {a : Act} {Q : Exit → Act → World → Prop} (hgd : o.guard = none) (s x : Operand) (t : TypeId)
    (ho : o.op = .call { callee := .builtin .append, args := #[s, x], argTypes := #[t, t] })
    (base : Nat) (e : TypeId) (i : TypeInfo) (z : Value) (bytes : Nat) (ht : P.underlying t = some (.slice e)) (hi : P.info? e = some i) (hz : i.zero = some z)
    (hsize : i.size = 1) (hby : i.bytes = bytes) (hzs : z.cells.size = 1)
    (v : Value) (xs : List Value) (hs : a.eval s = v) (hown : OwnAt w base e v xs)
    (xv : Value) (news : List Value) (hx : a.eval x = xv) (hnews : Lies w xv news) (h1 : ∀ u ∈ news, u.oneCell' = true)
    (h63 : xs.length + news.length ≤ maxLen) (hbytes : (xs.length + news.length) * bytes ≤ 140737488355328) (hbase : base ≤ w.heap.size)
    (h : ∀ v' w', OwnAt w' base e v' (xs ++ news) → w.grownBy w' v.ownBlock → (v'.ownBlock = v.ownBlock ∨ v'.ownBlock = some w.heap.size) → wpList P ops Q rest (a.put o.dst v') w') : wpList P ops Q (o :: rest) a w := by
  obtain ⟨v', w', hr, h2, h3, h4⟩ := run_append_at2 (P := P) w base t o.type e i z bytes ht hi hz hsize hby hzs v xs hown xv news hnews h1 h63 hbytes hbase
  refine wpList_plain hgd fun _ hK => ?_
  unfold Oper.wp execOp
  simp only [ho, resolve, invoke, builtin, Sem.run_bind, Sem.run_pure, Result.andThen_ok, List.map_toArray, List.map_cons, List.map_nil, hs, hx, hr]
  exact hK _ _ (h v' w' h2 h3 h4)
theorem OwnAt.tail {w : World} {base : Nat} {e : TypeId} {g off cap : Nat} {x : Value} {xs : List Value} (h : OwnAt w base e (.slice (some ⟨g, off, none⟩) (xs.length + 1) cap) (x :: xs)) :
    OwnAt w base e (.slice (some ⟨g, off + 1, none⟩) xs.length (cap - 1)) xs := by
  rcases h with ⟨h, _⟩ | ⟨g', off', cap', cur, e1, hb, hgg, h1, h2, h3, ht⟩
  · cases h
  · cases e1
    simp only [List.length_cons] at h1 ht
    refine .inr ⟨g, off + 1, cap - 1, cur, rfl, hb, hgg, by omega, by omega, by omega, ?_⟩
    rw [← List.drop_drop]
    have h4 := congrArg (List.drop 1) ht
    rw [List.drop_take] at h4
    simpa using h4
theorem OwnAt.tail0 {w : World} {base : Nat} {e : TypeId} {g off : Nat} {x : Value} (h : OwnAt w base e (.slice (some ⟨g, off, none⟩) 1 1) [x]) :
    OwnAt w base e (.slice (some ⟨g, off, none⟩) 0 0) [] := by
  rcases h with ⟨h, _⟩ | ⟨g', off', cap', cur, e1, hb, hgg, h1, h2, h3, ht⟩
  · cases h
  · cases e1
    exact .inr ⟨g, off, 0, cur, rfl, hb, hgg, by simp, by simp, by omega, by simp⟩
end Go.Proofs.YtgempjjnfpmndaaGreatDoor
