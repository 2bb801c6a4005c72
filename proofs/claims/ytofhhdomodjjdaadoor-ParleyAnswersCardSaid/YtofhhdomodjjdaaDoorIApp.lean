/- Rows of bytes of one's own whose mark freezes none of their cells: what []byte(text) leaves; an append of a text to such a row. No program. -/
import Derived.Test.YtofhhdomodjjdaaDoorMem
import Derived.Lib.FrozenHead
import Derived.Lib.ConvBytes
namespace Go.Proofs.YtofhhdomodjjdaaDoor
open Go.RowKit Go.Lib

/-- The value v owns the bytes xs, and no cell of its row is frozen. -/
def OwnZ (w : World) (base : Nat) (e : TypeId) (v : Value) (n : Nat) (xs : List Value) : Prop :=
  xs.length = n ∧ ((v = .slice none 0 0 ∧ n = 0) ∨ ∃ g cap cur fz, v = .slice (some ⟨g, 0, none⟩) n cap ∧ base ≤ g ∧ w.heap[g]? = some (.cells cur e fz) ∧ (∀ i, i < cur.size → ¬ (fz.1 ≤ i ∧ i < fz.2)) ∧ n ≤ cap ∧ cap ≤ maxLen ∧ cur.size = cap ∧ cur.toList.take n = xs)
section
variable {w w' : World} {base : Nat} {e : TypeId} {v : Value} {n : Nat} {xs : List Value}
theorem OwnZ.lt (h : OwnZ w base e v n xs) : ∀ k, v.ownBlock = some k → base ≤ k ∧ k < w.heap.size := by
  intro k hk
  rcases h.2 with ⟨rfl, _⟩ | ⟨g, cap, cur, fz, rfl, hb, hg, _⟩
  · simp [Value.ownBlock] at hk
  · simp [Value.ownBlock] at hk
    subst hk
    exact ⟨hb, (Array.getElem?_eq_some_iff.1 hg).1⟩
theorem OwnZ.bel (h : OwnZ w base e v n xs) (hb : Below w.heap.size w w') : OwnZ w' base e v n xs := by
  refine ⟨h.1, h.2.imp id ?_⟩
  rintro ⟨g, cap, cur, fz, rfl, h1, hg, r⟩
  exact ⟨g, cap, cur, fz, rfl, h1, by rw [hb.block g (Array.getElem?_eq_some_iff.1 hg).1]; exact hg, r⟩
theorem OwnZ.shape (h : OwnZ w base e v n xs) : ∃ A c, v = .slice A n c ∧ n ≤ c ∧ Seg w A xs := by
  rcases h.2 with ⟨rfl, rfl⟩ | ⟨g, cap, cur, fz, rfl, _, hg, _, hnc, _, hcs, htk⟩
  · exact ⟨none, 0, rfl, Nat.le_refl _, fun hx => absurd (List.eq_nil_of_length_eq_zero h.1) hx⟩
  · refine ⟨_, cap, rfl, hnc, fun _ => ⟨g, 0, rfl, (Array.getElem?_eq_some_iff.1 hg).1, fun i hi => ?_⟩⟩
    rw [Nat.zero_add, cell_of_row w g i cur e fz hg, ← htk, List.getElem?_take, if_pos (by have := h.1; omega), Array.getElem?_toList]
theorem OwnZ.cells (h : OwnZ w base e v n xs) {g : Nat} (hg : v.ownBlock = some g) : ∀ j u, xs[j]? = some u → w.cell? ((⟨g, 0, none⟩ : Addr).add j) = some u := by
  intro j u hu
  rcases h.2 with ⟨rfl, _⟩ | ⟨g', cap, cur, fz, rfl, _, hgg, _, _, _, _, htake⟩
  · simp [Value.ownBlock] at hg
  · simp [Value.ownBlock] at hg
    subst hg
    have hadd : (⟨g', 0, none⟩ : Addr).add j = ⟨g', j, none⟩ := by unfold Addr.add; split <;> simp_all
    rw [hadd, cell_of_row w g' j cur e fz hgg]
    rw [← htake, List.getElem?_take] at hu
    split at hu
    · simpa using hu
    · cases hu
theorem OwnZ.of (h : w.ownsRow base e 1 v n xs) : OwnZ w base e v n xs := by
  refine ⟨by simpa using h.1, h.2.imp id ?_⟩
  rintro ⟨g, cap, cur, rfl, h1, hg, h2, h3, h4, h5⟩
  exact ⟨g, cap, cur, (0, 0), rfl, h1, hg, fun i _ k => absurd k.2 (Nat.not_lt_zero _), h2, h3, by simpa using h4, by simpa using h5⟩
end
theorem grownCap_zero_le (w : World) (s : ByteArray) (e : TypeId) (h : s.size ≤ maxLen) : grownCap w s.size 0 e ≤ maxLen := grownCap_le_maxLen w s.size 0 e h
/-- What []byte(text) leaves. -/
theorem own_bytes (w : World) (e : TypeId) (s : ByteArray) (h : s.size ≤ maxLen) : OwnZ (bytesWorld w e s) w.heap.size e (.slice (some ⟨w.heap.size, 0, none⟩) s.size (grownCap w s.size 0 e)) s.size (strCells s) := by
  have hge := grownCap_ge w s.size 0 e
  refine ⟨strCells_length s, .inr ⟨w.heap.size, _, _, _, rfl, Nat.le_refl _, bytesWorld_at_new w e s, fun i hi k => by dsimp only at k; omega, hge, grownCap_zero_le w s e h, ?_, ?_⟩⟩
  · unfold bytesCells
    rw [Array.size_append, Array.size_map, Array.size_replicate]
    show s.size + _ = _
    omega
  · unfold bytesCells
    rw [Array.toList_append, List.take_append_of_le_length (by rw [Array.length_toList, Array.size_map]; exact Nat.le_refl s.data.size), List.take_of_length_le (by rw [Array.length_toList, Array.size_map]; exact Nat.le_refl s.data.size), Array.toList_map]
    rfl
theorem below_bytes (w : World) (e : TypeId) (s : ByteArray) : Below w.heap.size w (bytesWorld w e s) :=
  ⟨rfl, rfl, rfl, by rw [bytesWorld_size]; omega, fun k hk => bytesWorld_at_old w e s k hk⟩
/-- One cell after the other written into a row none of whose cells is frozen. -/
theorem run_storeZ (P : Program) (g o : Nat) (t : TypeId) (fz : Nat × Nat) (vs : List Value) : ∀ (k : Nat) (C : Array Value) (W : World), W.heap[g]? = some (.cells C t fz) → (∀ j, j < C.size → ¬ (fz.1 ≤ j ∧ j < fz.2)) → o + k + vs.length ≤ C.size → (∀ u ∈ vs, u.oneCell' = true) →
    (storeCells ⟨g, o, none⟩ vs k).run P W = .ok () (W.setRow g (C.toList.take (o + k) ++ vs ++ C.toList.drop (o + k + vs.length)).toArray) := by
  induction vs with
  | nil =>
    intro k C W hW _ _ _
    rw [List.length_nil, Nat.add_zero, List.append_nil, List.take_append_drop, Array.toArray_toList, setRow_self W g C t fz hW]
    rfl
  | cons u us ih =>
    intro k C W hW hfz hfit hone
    rw [List.length_cons] at hfit
    have hk : o + k < C.size := by omega
    have nf : W.frozen? ⟨g, o + k, none⟩ = false := by
      obtain ⟨p, q⟩ := fz
      have := hfz (o + k) hk
      dsimp only at this
      simp only [World.frozen?, hW, Bool.and_eq_false_iff, decide_eq_false_iff_not]
      omega
    have one : (store ((⟨g, o, none⟩ : Addr).add k) u).run P W = .ok () (W.setRow g (C.setIfInBounds (o + k) u)) := by
      rw [show ((⟨g, o, none⟩ : Addr).add k) = ⟨g, o + k, none⟩ by unfold Addr.add; split <;> simp_all, run_store P W _ u _ (hone u (List.mem_cons_self ..)), show W.cell? ⟨g, o + k, none⟩ = some C[o + k] by simp [World.cell?, hW, hk]]
      simp [nf, setCell_eq_setRow W g (o + k) C t fz u hW]
    have more := ih (k + 1) (C.setIfInBounds (o + k) u) _ (setRow_heap W g C _ t _ hW) (by simpa using hfz) (by rw [Array.size_setIfInBounds]; omega) (fun x hx => hone x (List.mem_cons_of_mem _ hx))
    simp only [storeCells, Sem.run_bind, one, Result.andThen_ok, more, setRow_setRow]
    congr 3
    have hs := list_seg_step C.toList (o + k) u us (by simp; omega)
    simpa [Array.toList_setIfInBounds, Nat.add_assoc] using hs
section
variable {P : Program} (w : World)
theorem run_append_roomZ (t u ty e : TypeId) (i : TypeInfo) (ht : P.underlying t = some (.slice e)) (hu : P.underlying u = some .string) (hi : P.info? e = some i) (hs1 : i.size = 1)
    (g sLen sCap : Nat) (cur : Array Value) (fz : Nat × Nat) (hg : w.heap[g]? = some (.cells cur e fz)) (hfz : ∀ j, j < cur.size → ¬ (fz.1 ≤ j ∧ j < fz.2)) (s : ByteArray)
    (hroom : sLen + s.size ≤ sCap) (hfit : sLen + s.size ≤ cur.size) :
    (Builtin.append_ #[t, u] ty #[.slice (some ⟨g, 0, none⟩) sLen sCap, .string s]).run P w =
      .ok (.slice (some ⟨g, 0, none⟩) (sLen + s.size) sCap) (w.setRow g (cur.toList.take sLen ++ strCells s ++ cur.toList.drop (sLen + s.size)).toArray) := by
  have hf := run_firstCells_string (P := P) w 1 s
  have hst := run_storeZ P g sLen e fz (strCells s) 0 cur w hg hfz (by simpa [strCells_length] using hfit) (strCells_oneCell s)
  simp only [Nat.add_zero, strCells_length] at hst
  simp [Builtin.append_, run_underlying ht, run_underlying hu, sizeOf, typeInfo, hi, hs1, Builtin.lenOf, hroom, hf, Addr.add_lit, hst]
theorem run_append_ownZ (base : Nat) (t u ty e : TypeId) (i : TypeInfo) (ht : P.underlying t = some (.slice e)) (hu : P.underlying u = some .string) (hi : P.info? e = some i) (hz : i.zero = some (.int .u8 0))
    (hsize : i.size = 1) (hby : i.bytes = 1)
    (v : Value) (n : Nat) (xs : List Value) (hown : OwnZ w base e v n xs) (s : ByteArray)
    (h63 : n + s.size ≤ maxLen) (hbytes : n + s.size ≤ 140737488355328) (hbase : base ≤ w.heap.size) :
    ∃ v' w', (Builtin.append_ #[t, u] ty #[v, .string s]).run P w = .ok v' w' ∧ OwnZ w' base e v' (n + s.size) (xs ++ strCells s) ∧ Below base w w' := by
  rcases hown.2 with ⟨rfl, rfl⟩ | ⟨g, cap, cur, fz, rfl, hbg, hg, hfz, hnc, hcm, hcs, htake⟩
  · obtain ⟨v', w', h1, h2, h3, h4⟩ := run_append_own_string (P := P) w base t u ty e i ht hu hi hz hsize hby (.slice none 0 0) 0 xs ⟨by simpa using hown.1, .inl ⟨rfl, rfl⟩⟩ s h63 hbytes hbase
    exact ⟨v', w', h1, OwnZ.of h2, (Below.refl base w).grown h3 hbase (fun k hk => by simp [Value.ownBlock] at hk)⟩
  · have hsmall : n + s.size ≤ 9223372036854775807 := by simp only [maxLen] at h63; omega
    have hxl : xs.length = n := hown.1
    have hlen : (xs ++ strCells s).length = n + s.size := by rw [List.length_append, hxl, strCells_length]
    by_cases hroom : n + s.size ≤ cap
    · have hr := run_append_roomZ (P := P) w t u ty e i ht hu hi hsize g n cap cur fz hg hfz s hroom (by omega)
      have hb : Below base w (w.setRow g (cur.toList.take n ++ strCells s ++ cur.toList.drop (n + s.size)).toArray) :=
        (Below.refl base w).grown (row := some g) ⟨rfl, rfl, rfl, by simp, fun k _ hk => setRow_other w g k _ (fun e => hk (by rw [e]))⟩ hbase (fun k hk => by injection hk with hk; omega)
      have hsz : (cur.toList.take n ++ strCells s ++ cur.toList.drop (n + s.size)).toArray.size = cur.size := by
        simp only [List.size_toArray, List.length_append, List.length_take, List.length_drop, Array.length_toList, strCells_length]
        omega
      refine ⟨_, _, hr, ⟨hlen, .inr ⟨g, cap, _, fz, rfl, hbg, setRow_heap w g cur _ e _ hg, fun j hj => hfz j (by rw [hsz] at hj; exact hj), hroom, hcm, by rw [hsz]; exact hcs, ?_⟩⟩, hb⟩
      rw [htake, ← hlen]
      exact List.take_left
    · have holds : ∀ j u, xs[j]? = some u → w.cell? ((⟨g, 0, none⟩ : Addr).add j) = some u := hown.cells (g := g) rfl
      have hr := run_append_grow_string (P := P) w t u ty e i (.int .u8 0) ht hu hi hz ⟨g, 0, none⟩ n cap xs (by rw [hsize]; omega) holds s (by omega) (by omega) (by rw [hby]; exact growslice_fits (by omega) (by omega))
      have hge := grownCap_ge w (n + s.size) cap e
      have hcm2 : grownCap w (n + s.size) cap e ≤ maxLen := grownCap_le_maxLen w (n + s.size) cap e h63
      refine ⟨_, _, hr, ⟨hlen, .inr ⟨w.heap.size, _, _, (0, 0), rfl, hbase, heap_alloc_new w.drew _, fun i _ k => absurd k.2 (Nat.not_lt_zero _), hge, hcm2, ?_, ?_⟩⟩, ((Below.refl base w).drew).alloc hbase _⟩
      · have hz1 : (Value.int IntKind.u8 0).cells.size = 1 := rfl
        simp only [Array.size_append, List.size_toArray, size_zeroCells, hz1, hxl, strCells_length]
        omega
      · simp only [Array.toList_append, List.append_assoc]
        rw [← List.append_assoc, ← hlen]
        exact List.take_left
end
theorem strCells_append (a b : ByteArray) : strCells (a ++ b) = strCells a ++ strCells b := by
  unfold strCells
  rw [ByteArray.data_append, Array.toList_append, List.map_append]
end Go.Proofs.YtofhhdomodjjdaaDoor
