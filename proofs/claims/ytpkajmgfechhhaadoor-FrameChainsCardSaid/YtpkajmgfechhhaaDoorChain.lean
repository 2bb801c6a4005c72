/- The walk of following a run of framed blocks. Conditions: the blocks lie in memory; the table of the cyclic sum is laid. -/
import Derived.Test.YtpkajmgfechhhaaDoorRefDec
import Derived.RegionTactic
import Derived.Deep.AppendLies
import Derived.Deep.RegionHeld3
import Derived.Deep.QuietTactic
import Derived.BigQuiet
import Derived.IntWalk
namespace Go.Proofs.YtpkajmgfechhhaaDoor
open Go.RowKit

/-- What the k-th block says. -/
def qAt (bs : List (List Nat)) (i : Nat) : Nat × Nat × List Nat := sayN (bs.getD i [])
def okAt (bs : List (List Nat)) (place : Int) (i : Nat) : Prop := okF (bs.getD i []) (place + (i : Int))
def folQ (q r : Nat × Nat × List Nat) : Prop := q.1 = r.1 ∧ q.2.1 = (r.2.1 + 1) % 18446744073709551616
instance folQDec (q r : Nat × Nat × List Nat) : Decidable (folQ q r) := inferInstanceAs (Decidable (q.1 = r.1 ∧ q.2.1 = (r.2.1 + 1) % 18446744073709551616))
def goes (bs : List (List Nat)) (place : Int) (i : Nat) : Prop := okAt bs place i ∧ (0 < i → folQ (qAt bs i) (qAt bs (i - 1)))
def firstQ (bs : List (List Nat)) (k : Nat) : List (Nat × Nat × List Nat) := (List.range k).map (qAt bs)
theorem firstQ_length (bs : List (List Nat)) (k : Nat) : (firstQ bs k).length = k := by simp [firstQ]
theorem firstQ_get (bs : List (List Nat)) (k i : Nat) (h : i < k) : (firstQ bs k)[i]'(by rw [firstQ_length]; exact h) = qAt bs i := by simp [firstQ]
theorem firstQ_succ (bs : List (List Nat)) (k : Nat) : firstQ bs (k + 1) = firstQ bs k ++ [qAt bs k] := by simp [firstQ, List.range_succ]
/-- How far a run goes on. -/
def stops (bs : List (List Nat)) (place : Int) (k : Nat) : Prop := k ≤ bs.length ∧ (∀ i, i < k → goes bs place i) ∧ (k = bs.length ∨ ¬ goes bs place k)
theorem stops_one {bs : List (List Nat)} {place : Int} {k m : Nat} (h : stops bs place k) (h' : stops bs place m) : k = m := by
  obtain ⟨a1, a2, a3⟩ := h
  obtain ⟨b1, b2, b3⟩ := h'
  rcases Nat.lt_trichotomy k m with h | h | h
  · rcases a3 with a3 | a3
    · omega
    · exact absurd (b2 k h) a3
  · exact h
  · rcases b3 with b3 | b3
    · omega
    · exact absurd (a2 m h) b3
/-- Rows of bytes in memory. -/
def RowsIn (w : World) (A : Option Addr) (bs : List (List Nat)) : Prop :=
  ∃ vs : List Value, vs.length = bs.length ∧ Seg w A vs ∧ ∀ i (_h : i < bs.length), ∃ B n c, vs[i]? = some (.slice B n c) ∧ n = (bs.getD i []).length ∧ n ≤ c ∧ n ≤ 140737488355000 ∧ Seg w B (u8s (bs.getD i [])) ∧ ∀ x ∈ bs.getD i [], x < 256
theorem RowsIn.bel {w w' : World} {A : Option Addr} {bs : List (List Nat)} (h : RowsIn w A bs) (hb : Below w.heap.size w w') : RowsIn w' A bs := by
  obtain ⟨vs, h1, h2, h3⟩ := h
  refine ⟨vs, h1, h2.bel hb, fun i hi => ?_⟩
  obtain ⟨B, n, c, a1, a2, a3, a4, a5, a6⟩ := h3 i hi
  exact ⟨B, n, c, a1, a2, a3, a4, a5.bel hb, a6⟩
theorem RowsIn.at {w : World} {A : Option Addr} {bs : List (List Nat)} (h : RowsIn w A bs) (i : Nat) (hi : i < bs.length) :
    ∃ b off B n c, A = some ⟨b, off, none⟩ ∧ w.cell? ⟨b, off + i, none⟩ = some (.slice B n c) ∧ n = (bs.getD i []).length ∧ n ≤ c ∧ n ≤ 140737488355000 ∧ Seg w B (u8s (bs.getD i [])) ∧ ∀ x ∈ bs.getD i [], x < 256 := by
  obtain ⟨vs, h1, h2, h3⟩ := h
  obtain ⟨B, n, c, a1, a2, a3, a4, a5, a6⟩ := h3 i hi
  obtain ⟨b, off, rfl, _, _, hc⟩ := h2.pick (k := i) (by omega)
  rw [List.getElem?_eq_getElem (by omega)] at a1
  injection a1 with a1
  rw [a1] at hc
  exact ⟨b, off, B, n, c, rfl, hc, a2, a3, a4, a5, a6⟩
theorem own_bel3 {w w' : World} {base size : Nat} {e : TypeId} {v : Value} {n : Nat} {xs : List Value} (h : w.ownsRow base e size v n xs) (hb : Below w.heap.size w w') : w'.ownsRow base e size v n xs := by
  refine ⟨h.1, ?_⟩
  rcases h.2 with hn | ⟨g, cap, cur, rfl, hg, hgg, rest⟩
  · exact .inl hn
  · refine .inr ⟨g, cap, cur, rfl, hg, ?_, rest⟩
    rw [hb.block g (Array.getElem?_eq_some_iff.1 hgg).1]
    exact hgg
/-- Values in memory, apart from a row. -/
def SegF (w : World) (v : Value) (A : Option Addr) (xs : List Value) : Prop :=
  xs ≠ [] → ∃ b off, A = some ⟨b, off, none⟩ ∧ b < w.heap.size ∧ v.ownBlock ≠ some b ∧ ∀ i, i < xs.length → w.cell? ⟨b, off + i, none⟩ = xs[i]?
theorem SegF.seg {w : World} {v : Value} {A : Option Addr} {xs : List Value} (h : SegF w v A xs) : Seg w A xs := fun hn => by
  obtain ⟨b, off, h1, h2, _, h4⟩ := h hn
  exact ⟨b, off, h1, h2, h4⟩
theorem SegF.bel {w w' : World} {v : Value} {A : Option Addr} {xs : List Value} (h : SegF w v A xs) (hb : Below w.heap.size w w') : SegF w' v A xs := fun hn => by
  obtain ⟨b, off, h1, h2, h3, h4⟩ := h hn
  exact ⟨b, off, h1, Nat.lt_of_lt_of_le h2 hb.size, h3, fun i hi => by rw [hb.cell (p := ⟨b, off + i, none⟩) h2]; exact h4 i hi⟩
theorem SegF.grow {w w' : World} {v : Value} {A : Option Addr} {xs : List Value} {g n c : Nat} (h : SegF w v A xs) (hg : w.grownBy w' v.ownBlock) (hgg : v.ownBlock = some g ∨ g = w.heap.size) : SegF w' (.slice (some ⟨g, 0, none⟩) n c) A xs := fun hn => by
  obtain ⟨b, off, h1, h2, h3, h4⟩ := h hn
  refine ⟨b, off, h1, Nat.lt_of_lt_of_le h2 hg.size, ?_, fun i hi => ?_⟩
  · intro e
    have e' : g = b := Option.some.inj e
    subst e'
    rcases hgg with hgg | hgg
    · exact h3 hgg
    · omega
  · rw [hg.cell_far ⟨b, off + i, none⟩ h2 (fun e => h3 e.symm)]
    exact h4 i hi
theorem SegF.fresh {w w' : World} {v : Value} {A : Option Addr} {xs : List Value} (h : Seg w' A xs) (hf : ∀ a, A = some a → w.heap.size ≤ a.block) (hv : ∀ k, v.ownBlock = some k → k < w.heap.size) : SegF w' v A xs := fun hn => by
  obtain ⟨b, off, rfl, h2, h4⟩ := h hn
  refine ⟨b, off, rfl, h2, fun e => ?_, h4⟩
  have h5 := hv b e
  have h6 : w.heap.size ≤ b := hf _ rfl
  omega
/-- A row of frames of one's own. -/
def frAll (w : World) (v : Value) (qs : List (Nat × Nat × List Nat)) (xs : List Value) : Prop :=
  ∀ i (h : i < qs.length), ∃ A c, xs[i * 3]? = some (.int .i64 (qs[i].1 : Int)) ∧ xs[i * 3 + 1]? = some (.int .u64 (qs[i].2.1 : Int)) ∧ xs[i * 3 + 2]? = some (.slice A qs[i].2.2.length c) ∧ SegF w v A (u8s qs[i].2.2)
def FrIn (w : World) (base : Nat) (ty : TypeId) (v : Value) (qs : List (Nat × Nat × List Nat)) : Prop :=
  ∃ xs : List Value, w.ownsRow base ty 3 v qs.length xs ∧ frAll w v qs xs
theorem frAll.bel {w w' : World} {v : Value} {qs : List (Nat × Nat × List Nat)} {xs : List Value} (h : frAll w v qs xs) (hb : Below w.heap.size w w') : frAll w' v qs xs := fun i hi => by
  obtain ⟨A, c, a1, a2, a3, a4⟩ := h i hi
  exact ⟨A, c, a1, a2, a3, a4.bel hb⟩
theorem FrIn.bel {w w' : World} {base : Nat} {ty : TypeId} {v : Value} {qs : List (Nat × Nat × List Nat)} (h : FrIn w base ty v qs) (hb : Below w.heap.size w w') : FrIn w' base ty v qs := by
  obtain ⟨xs, h1, h2⟩ := h
  exact ⟨xs, own_bel3 h1 hb, h2.bel hb⟩
theorem FrIn.push {w w' : World} {base : Nat} {ty : TypeId} {v : Value} {qs : List (Nat × Nat × List Nat)} {xs : List Value} {q : Nat × Nat × List Nat} {A : Option Addr} {c g cap k : Nat} (hk : qs.length = k) (hx : xs.length = k * 3) (h2 : frAll w v qs xs) (hs : SegF w v A (u8s q.2.2))
    (h1 : w'.ownsRow base ty 3 (.slice (some ⟨g, 0, none⟩) (k + 1) cap) (k + 1) (xs ++ [.int .i64 (q.1 : Int), .int .u64 (q.2.1 : Int), .slice A q.2.2.length c])) (hg : w.grownBy w' v.ownBlock) (hgg : v.ownBlock = some g ∨ g = w.heap.size) : FrIn w' base ty (.slice (some ⟨g, 0, none⟩) (k + 1) cap) (qs ++ [q]) := by
  subst hk
  refine ⟨_, by rw [List.length_append]; exact h1, fun i hi => ?_⟩
  rw [List.length_append, List.length_singleton] at hi
  by_cases hlt : i < qs.length
  · obtain ⟨A, c, a1, a2, a3, a4⟩ := h2 i hlt
    refine ⟨A, c, ?_, ?_, ?_, ?_⟩
    · rw [List.getElem?_append_left (by omega), List.getElem_append_left hlt]; exact a1
    · rw [List.getElem?_append_left (by omega), List.getElem_append_left hlt]; exact a2
    · rw [List.getElem?_append_left (by omega), List.getElem_append_left hlt]; exact a3
    · rw [List.getElem_append_left hlt]; exact a4.grow hg hgg
  · obtain rfl : i = qs.length := by omega
    have e : (qs ++ [q])[qs.length]'(by simp) = q := by simp
    rw [e]
    refine ⟨A, c, ?_, ?_, ?_, hs.grow hg hgg⟩
    · rw [List.getElem?_append_right (by omega), hx, Nat.sub_self]; rfl
    · rw [List.getElem?_append_right (by omega), hx, show qs.length * 3 + 1 - qs.length * 3 = 1 by omega]; rfl
    · rw [List.getElem?_append_right (by omega), hx, show qs.length * 3 + 2 - qs.length * 3 = 2 by omega]; rfl
theorem FrIn.shape {w : World} {base : Nat} {ty : TypeId} {v : Value} {qs : List (Nat × Nat × List Nat)} (h : FrIn w base ty v qs) : ∃ A c, v = .slice A qs.length c ∧ qs.length ≤ c := by
  obtain ⟨xs, h1, _⟩ := h
  rcases h1.2 with ⟨rfl, h0⟩ | ⟨g, cap, cur, rfl, _, _, hc, _⟩
  · exact ⟨none, 0, by rw [h0], by omega⟩
  · exact ⟨_, _, rfl, hc⟩
theorem FrIn.at {w : World} {base : Nat} {ty : TypeId} {A : Option Addr} {n c : Nat} {qs : List (Nat × Nat × List Nat)} (h : FrIn w base ty (.slice A n c) qs) (i : Nat) (hi : i < qs.length) :
    ∃ g B d, A = some ⟨g, 0, none⟩ ∧ base ≤ g ∧ g < w.heap.size ∧ w.cell? ⟨g, i * 3, none⟩ = some (.int .i64 (qs[i].1 : Int)) ∧ w.cell? ⟨g, i * 3 + 1, none⟩ = some (.int .u64 (qs[i].2.1 : Int)) ∧ w.cell? ⟨g, i * 3 + 2, none⟩ = some (.slice B qs[i].2.2.length d) ∧ Seg w B (u8s qs[i].2.2) := by
  obtain ⟨xs, h1, h2⟩ := h
  obtain ⟨B, d, a1, a2, a3, a4⟩ := h2 i hi
  have hn : n = qs.length := by
    rcases h1.2 with ⟨hv, h0⟩ | ⟨g, cap, cur, hv, _⟩
    · injection hv with _ e _; omega
    · injection hv
  subst hn
  obtain ⟨g, cap, hv, hb, hl⟩ := h1.form (by omega)
  injection hv with e1 e2 e3
  subst e1
  refine ⟨g, B, d, rfl, hb, hl, ?_, ?_, ?_, a4.seg⟩
  · rw [h1.cellAt _ (by omega)]; exact a1
  · rw [h1.cellAt _ (by omega)]; exact a2
  · rw [h1.cellAt _ (by omega)]; exact a3
/-- An append of elements of several cells that lie in memory. -/
theorem run_append_els {P : Program} (w : World) (base : Nat) (t ty e : TypeId) (i : TypeInfo) (z : Value) (size bytes : Nat) (ht : P.underlying t = some (.slice e)) (hi : P.info? e = some i) (hz : i.zero = some z)
    (hsize : i.size = size) (hby : i.bytes = bytes) (hzs : z.cells.size = size) (h0 : 0 < size)
    (v : Value) (n : Nat) (xs : List Value) (hown : w.ownsRow base e size v n xs) (b off : Nat) (m c : Nat) (news : List Value) (hm : news.length = m * size) (hr : ∀ j u, news[j]? = some u → w.cell? ⟨b, off + j, none⟩ = some u) (h1 : ∀ u ∈ news, u.oneCell' = true)
    (h63 : n + m ≤ maxLen) (hbytes : (n + m) * bytes ≤ 140737488355328) (hbase : base ≤ w.heap.size) :
    ∃ v' w', (Builtin.append_ #[t, t] ty #[v, .slice (some ⟨b, off, none⟩) m c]).run P w = .ok v' w' ∧ w'.ownsRow base e size v' (n + m) (xs ++ news) ∧ Below base w w' := by
  obtain ⟨v', w', hrun, h2, h3, _⟩ := run_append_own (P := P) w base t ty e i z size bytes ht hi hz hsize hby hzs h0 v n xs hown ⟨b, off, none⟩ m c news (by omega) (fun j u hj => by
    rw [show ((⟨b, off, none⟩ : Addr).add j) = ⟨b, off + j, none⟩ by unfold Addr.add; split <;> simp_all]
    exact hr j u hj) h1 h63 hbytes hbase
  exact ⟨v', w', hrun, h2, (Below.refl base w).grown h3 hbase (fun k hk => (hown.lt k hk).1)⟩
theorem wpList_append_els {P : Program} (w : World) {ops : Array Oper} {rest : List Oper} {o : Oper} {a : Act} {Q : Exit → Act → World → Prop} (hgd : o.guard = none) (s x : Operand) (t : TypeId)
    (ho : o.op = .call { callee := .builtin .append, args := #[s, x], argTypes := #[t, t] })
    (base : Nat) (e : TypeId) (i : TypeInfo) (z : Value) (size bytes : Nat) (ht : P.underlying t = some (.slice e)) (hi : P.info? e = some i) (hz : i.zero = some z)
    (hsize : i.size = size) (hby : i.bytes = bytes) (hzs : z.cells.size = size) (h0 : 0 < size)
    (v : Value) (n : Nat) (xs : List Value) (hs : a.eval s = v) (hown : w.ownsRow base e size v n xs) (b off m c : Nat) (news : List Value) (hx : a.eval x = .slice (some ⟨b, off, none⟩) m c) (hm : news.length = m * size) (hr : ∀ j u, news[j]? = some u → w.cell? ⟨b, off + j, none⟩ = some u)
    (h1 : ∀ u ∈ news, u.oneCell' = true) (h63 : n + m ≤ maxLen) (hbytes : (n + m) * bytes ≤ 140737488355328) (hbase : base ≤ w.heap.size)
    (h : ∀ v' w', w'.ownsRow base e size v' (n + m) (xs ++ news) → Below base w w' → wpList P ops Q rest (a.put o.dst v') w') : wpList P ops Q (o :: rest) a w := by
  obtain ⟨v', w', hrun, h2, h3⟩ := run_append_els (P := P) w base t o.type e i z size bytes ht hi hz hsize hby hzs h0 v n xs hown b off m c news hm hr h1 h63 hbytes hbase
  refine wpList_plain hgd fun K hK => ?_
  unfold Oper.wp execOp
  simp only [ho, resolve, invoke, builtin, Sem.run_bind, Sem.run_pure, Result.andThen_ok, List.map_toArray, List.map_cons, List.map_nil, hs, hx, hrun]
  exact hK _ _ (h v' w' h2 h3)
theorem lit_at (w : World) (cs : Array Value) (e : TypeId) (j : Nat) (u : Value) (h : cs.toList[j]? = some u) : (w.alloc (.cells cs e)).cell? ⟨w.heap.size, 0 + j, none⟩ = some u := by
  rw [Nat.zero_add, cell_of_row _ _ j cs e (0, 0) (heap_alloc_new w _)]
  simpa using h
theorem own_drewN3 {w : World} {base size : Nat} {e : TypeId} {v : Value} {n : Nat} {xs : List Value} (h : w.ownsRow base e size v n xs) (k : Nat) : (w.drewN k).ownsRow base e size v n xs := h
theorem info_frame : (Tryd.prog.info? 34).map (fun i => (i.zero, i.size, i.bytes)) = some (some (.agg #[.int .i64 0, .int .u64 0, .slice none 0 0]), 3, 40) := by kernel_rfl
theorem info_rframe : (Tryd.prog.info? 30).map (fun i => (i.zero, i.size, i.bytes)) = some (some (.agg #[.int .i64 0, .int .u64 0, .slice none 0 0]), 3, 40) := by kernel_rfl
theorem three_one (a b : Int) (A : Option Addr) (n c : Nat) : ∀ u ∈ [Value.int .i64 a, Value.int .u64 b, Value.slice A n c], u.oneCell' = true := by
  intro u hu
  simp only [List.mem_cons, List.not_mem_nil, or_false] at hu
  rcases hu with rfl | rfl | rfl <;> rfl
set_option maxRecDepth 100000 in
theorem follows_any (k1 k2 : Int) (s1 s2 : Nat) (A B : Option Addr) (n c m d : Nat) (h1 : s1 < 18446744073709551616) (w : World) :
    Calls Tryd.prog 10 #[.agg #[.int .i64 k1, .int .u64 (s1 : Int), .slice A n c], .agg #[.int .i64 k2, .int .u64 (s2 : Int), .slice B m d]] w fun e w' => e = .returned (.bool (decide (k1 = k2 ∧ s1 = (s2 + 1) % 18446744073709551616))) ∧ Below w.heap.size w w' := by
  have HB := Lib.hid (((Below.refl w.heap.size w).alloc (Nat.le_refl _) (.cells #[.int .i64 k1, .int .u64 (s1 : Int), .slice A n c] 34)).alloc (by simp) (.cells #[.int .i64 k2, .int .u64 (s2 : Int), .slice B m d] 34))
  by_cases hk : k1 = k2
  · have hk' : (k1 == k2) = true := by rw [beq_iff_eq]; exact hk
    have hv : ((s1 : Int) == IntKind.u64.wrap ((s2 : Int) + 1)) = decide (k1 = k2 ∧ s1 = (s2 + 1) % 18446744073709551616) := by
      rw [IntKind.wrap_u64, Bool.eq_iff_iff, beq_iff_eq, decide_eq_true_iff]
      constructor
      · intro h; exact ⟨hk, by omega⟩
      · rintro ⟨_, h⟩; omega
    have HV := Lib.hid hv
    clear hk hv
    generalize decide (k1 = k2 ∧ s1 = (s2 + 1) % 18446744073709551616) = b at *
    go_enter Tryd.func10, Tryd.ntmps10
    go_wp2_with fail
    go_ret
    exact ⟨by rw [← HV.out]; rfl, HB.out⟩
  · have hk' : (k1 == k2) = false := by rw [beq_eq_false_iff_ne]; exact hk
    have hd : decide (k1 = k2 ∧ s1 = (s2 + 1) % 18446744073709551616) = false := by rw [decide_eq_false_iff_not]; exact fun h => hk h.1
    rw [hd]
    clear hk hd
    go_enter Tryd.func10, Tryd.ntmps10
    go_wp2_with fail
    go_ret
    exact ⟨rfl, HB.out⟩
theorem dec_any (A : Option Addr) (n c : Nat) (l : List Nat) (hn : n = l.length) (hnc : n ≤ c) (place : Int) (w : World) (hA : Seg w A (u8s l)) (hl : ∀ x ∈ l, x < 256) (hT : Tab w) :
    Calls Tryd.prog 9 #[.slice A n c, .int .i64 place] w (RDec l place w) := by
  by_cases h256 : n = 256
  · subst h256
    obtain ⟨b, off, rfl, _, _, _⟩ := hA.pick (k := 0) (by rw [u8s_length]; omega)
    by_cases h232 : leGet ((l.drop 4).take 2) ≤ 232
    · refine (decode_main b off c l hn hnc place w hA hl hT h232).mono ?_
      rintro e w' (⟨hf, A', c', hfr, rfl, hc, hs, hb⟩ | ⟨hf, rfl, hb⟩)
      · exact .inl ⟨⟨hn.symm, hf⟩, A', c', hfr, rfl, hc, hs, hb⟩
      · exact RDec.no (fun h => hf h.2) (by omega) hb
    · refine (decode_long b off c l hn hnc place w hA hl (by omega)).mono ?_
      rintro e w' ⟨rfl, hb⟩
      refine RDec.no (fun h => ?_) (by omega) hb
      obtain ⟨_, a, _, _, h2, _⟩ := h
      exact h232 h2
  · refine (decode_short A n c place h256 w).mono ?_
    rintro e w' ⟨rfl, hb⟩
    exact RDec.no (fun h => h256 (hn.trans h.1)) (by omega) hb
theorem say_lt (l : List Nat) (hl : ∀ x ∈ l, x < 256) : (sayN l).2.1 < 18446744073709551616 := leGet_take_lt _ (fun x hx => hl x (List.mem_of_mem_drop hx)) 8 (by omega)
theorem own_at3 {w : World} {base size n c : Nat} {e : TypeId} {A : Option Addr} {xs : List Value} (h : w.ownsRow base e size (.slice A n c) n xs) (hn : 0 < n) : ∃ g, A = some ⟨g, 0, none⟩ ∧ base ≤ g ∧ g < w.heap.size := by
  obtain ⟨g, cap, hv, hb, hl⟩ := h.form hn
  injection hv with h1 h2 h3
  exact ⟨g, h1, hb, hl⟩
/-- What stands in memory where a block is held against the one before. -/
structure ChW (base : Nat) (w0 : World) (gf : Nat) (box : Array Value) (v : Value) (n : Nat) (xs : List Value) (A : Option Addr) (pl : List Value) (qs : List (Nat × Nat × List Nat)) (w' : World) : Prop where
  box : Bk w' gf 34 box
  own : w'.ownsRow base 34 3 v n xs
  all : frAll w' v qs xs
  seg : SegF w' v A pl
  bel : Below w0.heap.size w0 w'
theorem ChW.step {base gf n : Nat} {w0 w' w'' : World} {box : Array Value} {v : Value} {xs pl : List Value} {A : Option Addr} {qs : List (Nat × Nat × List Nat)} (h : ChW base w0 gf box v n xs A pl qs w') (hb : Below w'.heap.size w' w'') : ChW base w0 gf box v n xs A pl qs w'' :=
  ⟨h.box.bel hb, own_bel3 h.own hb, h.all.bel hb, h.seg.bel hb, h.bel.trans (hb.mono h.bel.size)⟩
theorem ChW.drew {base gf n : Nat} {w0 w' : World} {box : Array Value} {v : Value} {xs pl : List Value} {A : Option Addr} {qs : List (Nat × Nat × List Nat)} (h : ChW base w0 gf box v n xs A pl qs w') : ChW base w0 gf box v n xs A pl qs w'.drew := h.step (Below.refl _ _).drew
theorem ChW.S {base gf gc n cv : Nat} {w0 w' : World} {x y z : Value} {xs pl : List Value} {A : Option Addr} {qs : List (Nat × Nat × List Nat)} (h : ChW base w0 gf #[x, y, z] (.slice (some ⟨gc, 0, none⟩) n cv) n xs A pl qs w') (j : Nat) (r : Nat × Nat × List Nat) (B : Option Addr) (d : Nat) (hj : j < n) (e0 : xs[j * 3]? = some (.int .i64 (r.1 : Int))) (e1 : xs[j * 3 + 1]? = some (.int .u64 (r.2.1 : Int))) (e2 : xs[j * 3 + 2]? = some (.slice B r.2.2.length d)) :
    w'.cell? ⟨gf, 0, none⟩ = some x ∧ w'.cell? ⟨gf, 1, none⟩ = some y ∧ w'.cell? ⟨gf, 2, none⟩ = some z ∧ w'.cell? ⟨gc, j * 3, none⟩ = some (.int .i64 (r.1 : Int)) ∧ w'.cell? ⟨gc, j * 3 + 1, none⟩ = some (.int .u64 (r.2.1 : Int)) ∧ w'.cell? ⟨gc, j * 3 + 2, none⟩ = some (.slice B r.2.2.length d) ∧ ChW base w0 gf #[x, y, z] (.slice (some ⟨gc, 0, none⟩) n cv) n xs A pl qs w' :=
  ⟨h.box.cell 0, h.box.cell 1, h.box.cell 2, by rw [h.own.cellAt _ (by omega)]; exact e0, by rw [h.own.cellAt _ (by omega)]; exact e1, by rw [h.own.cellAt _ (by omega)]; exact e2, h⟩
set_option maxRecDepth 100000 in
set_option maxHeartbeats 1000000 in
theorem chain_any (A : Option Addr) (m d : Nat) (bs : List (List Nat)) (hm : m = bs.length) (hm40 : m ≤ 40) (place : Int) (hp1 : -1152921504606846976 ≤ place) (hp2 : place ≤ 1152921504606846976) (w : World) (hA : RowsIn w A bs) (hT : Tab w) :
    Calls Tryd.prog 5 #[.slice A m d, .int .i64 place] w fun e w' => ∃ v k, e = .returned v ∧ stops bs place k ∧ FrIn w' w.heap.size 34 v (firstQ bs k) ∧ Below w.heap.size w w' := by
  obtain ⟨i0, hi0, hz0, hz1, hz2⟩ := info_parts info_frame
  have HM := Lib.hid hm
  have HA := Lib.hid hA
  have HT := Lib.hid hT
  clear hm hA hT
  go_enter Tryd.func5, Tryd.ntmps5
  go_wp2_with fail
  go_loopw [5, 12] (fun v i wr => ∃ k : Nat, k ≤ m ∧ i = .int .i64 k ∧ (∀ j, j < k → goes bs place j) ∧ FrIn wr w.heap.size 34 v (firstQ bs k) ∧ Below w.heap.size w wr) (fun _ i _ => m - (intOf i).toNat)
  case atStart => exact ⟨0, by omega, rfl, fun j h => by omega, ⟨[], ⟨rfl, .inl ⟨rfl, rfl⟩⟩, fun i h => by simp [firstQ] at h⟩, Below.refl _ _⟩
  case round =>
    obtain ⟨k, hk, rfl, hgo, hf, hb⟩ := hrel
    obtain ⟨Av, cv, rfl, hcv⟩ := hf.shape
    rw [firstQ_length] at hcv hf ⊢
    by_cases hlt : k < m
    · have hkl : k < bs.length := by rw [← HM.out]; exact hlt
      obtain ⟨b, off, B, n, c, rfl, hc, hn, hnc, hnz, hSB, hBl⟩ := (HA.out.bel hb).at k hkl
      have i1 : (0 : Int) ≤ (k : Int) := by omega
      have i2 : (k : Int) < (m : Int) := by omega
      have HDec := Lib.hid (dec_any B n c (bs.getD k []) hn hnc (place + (k : Int)) wr hSB hBl (HT.out.below hb))
      have HF := Lib.hid hf
      have HB := Lib.hid hb
      have HGo := Lib.hid hgo
      have hsl := say_lt _ hBl
      have HQ := Lib.hid (show qAt bs k = sayN (bs.getD k []) from rfl)
      have HOk := Lib.hid (show okAt bs place k ↔ okF (bs.getD k []) (place + (k : Int)) from Iff.rfl)
      clear hf hb hgo hSB hBl hn
      generalize bs.getD k [] = L at *
      unfold RDec noFrame at HDec
      generalize sayN L = q at *
      go_wp2_with fail
      refine HDec.out.mono ?_
      rintro e w2 (⟨hok, A2, c2, hfr2, rfl, hc2, hs2, b2⟩ | ⟨hno, er, her, rfl, b2⟩)
      · have hfr2 := hfr2
        have HOkk := Lib.hid (HOk.out.2 hok)
        have hz31 := hcv
        obtain ⟨xs, ho, hfa⟩ := HF.out
        rw [firstQ_length] at ho
        have HXL := Lib.hid (show xs.length = k * 3 from ho.1)
        have hvl := ho.lt
        have SQ0 := SegF.fresh (v := .slice Av k cv) hs2 hfr2 (fun j hj => (hvl j hj).2)
        have a3 : Below w2.heap.size w2 (w2.alloc (.cells #[.int .i64 (q.1 : Int), .int .u64 (q.2.1 : Int), .slice A2 q.2.2.length c2] 34)) := (Below.refl _ _).alloc (Nat.le_refl _) _
        have b3 := below_step b2 a3
        have OW3 := Lib.hid (own_bel3 ho b3)
        have FA3 := Lib.hid (hfa.bel b3)
        have SQ3 := Lib.hid (SQ0.bel a3)
        have BW3 := Lib.hid (below_step HB.out b3)
        have X3 := Lib.hid (Bk.new w2 34 #[.int .i64 (q.1 : Int), .int .u64 (q.2.1 : Int), .slice A2 q.2.2.length c2])
        clear hs2 hfr2 SQ0 a3 b3 ho hvl b2 hok
        by_cases hk0 : 0 < k
        · obtain ⟨j, hjk⟩ : ∃ j, j + 1 = k := ⟨k - 1, by omega⟩
          obtain ⟨B, d, e0, e1, e2, hsg⟩ := hfa j (by rw [firstQ_length]; omega)
          rw [firstQ_get _ _ _ (by omega)] at e0 e1 e2
          obtain ⟨gc, rfl, hg1, hg2⟩ := own_at3 OW3.out (by omega)
          have hk1 : (0 : Int) < (k : Int) := by omega
          have hk2 : decide ((0 : Int) < (k : Int)) = true := by simp; omega
          clear hsg
          have E0 := Lib.hid e0
          have E1 := Lib.hid e1
          have E2 := Lib.hid e2
          have hfol : decide (((q.1 : Nat) : Int) = (((qAt bs j).1 : Nat) : Int) ∧ q.2.1 = ((qAt bs j).2.1 + 1) % 18446744073709551616) = decide (folQ q (qAt bs j)) := by
            rw [decide_eq_decide]
            unfold folQ
            omega
          obtain ⟨bo, hbo⟩ : ∃ bo, decide (folQ q (qAt bs j)) = bo := ⟨_, rfl⟩
          rw [hbo] at hfol
          have HFol := Lib.hid hfol
          have HGoes := Lib.hid (show goes bs place k ↔ folQ q (qAt bs j) from by
            unfold goes
            rw [HQ.out, show k - 1 = j by omega]
            exact ⟨fun h => h.2 (by omega), fun h => ⟨HOkk.out, fun _ => h⟩⟩)
          generalize qAt bs j = r at *
          have HBo := Lib.hid hbo
          clear hbo
          have C0' : ChW w.heap.size w w2.heap.size #[.int .i64 (q.1 : Int), .int .u64 (q.2.1 : Int), .slice A2 q.2.2.length c2] (.slice (some ⟨gc, 0, none⟩) k cv) k xs A2 (u8s q.2.2) (firstQ bs k) (w2.alloc (.cells #[.int .i64 (q.1 : Int), .int .u64 (q.2.1 : Int), .slice A2 q.2.2.length c2] 34)) := ⟨X3.out, OW3.out, FA3.out, SQ3.out, BW3.out⟩
          clear e0 e1 e2 hfol hfa OW3 FA3 SQ3 BW3 X3
          go_wp2_with fail
          generalize w2.alloc (.cells #[.int .i64 (q.1 : Int), .int .u64 (q.2.1 : Int), .slice A2 q.2.2.length c2] 34) = w3 at *
          have hS := C0'.S j r B d (by omega) E0.out E1.out E2.out
          have C0 := Lib.hid C0'
          clear C0'
          have t2 : IntKind.i64.wrap ((k : Int) - 1) = (j : Int) := by rw [IntWalk.i64_in _ (by omega)]; omega
          have t3 : (0 : Int) ≤ (j : Int) := by omega
          have t4 : (j : Int) < (k : Int) := by omega
          have hjl : j < k := by omega
          have HJK := Lib.hid hjk
          clear hjk
          go_region_held3 (fun w' => w'.cell? ⟨w2.heap.size, 0, none⟩ = some (.int .i64 (q.1 : Int)) ∧ w'.cell? ⟨w2.heap.size, 1, none⟩ = some (.int .u64 (q.2.1 : Int)) ∧ w'.cell? ⟨w2.heap.size, 2, none⟩ = some (.slice A2 q.2.2.length c2) ∧ w'.cell? ⟨gc, j * 3, none⟩ = some (.int .i64 (r.1 : Int)) ∧ w'.cell? ⟨gc, j * 3 + 1, none⟩ = some (.int .u64 (r.2.1 : Int)) ∧ w'.cell? ⟨gc, j * 3 + 2, none⟩ = some (.slice B r.2.2.length d) ∧ ChW w.heap.size w w2.heap.size #[.int .i64 (q.1 : Int), .int .u64 (q.2.1 : Int), .slice A2 q.2.2.length c2] (.slice (some ⟨gc, 0, none⟩) k cv) k xs A2 (u8s q.2.2) (firstQ bs k) w')
            (first
              | (with_reducible assumption)
              | (with_reducible exact (C0.out.drew).S j r B d hjl E0.out E1.out E2.out)
              | (with_reducible exact ((C0.out.drew).step ba).S j r B d hjl E0.out E1.out E2.out))
            ((go_at_call 10; refine (follows_any (q.1 : Int) (r.1 : Int) q.2.1 r.2.1 A2 B q.2.2.length c2 r.2.2.length d hsl _).mono ?_; rintro e wa ⟨rfl, ba⟩; rw [HFol.out]))
          have CA := Lib.hid ((C0.out.drew).step ba)
          rename_i hHeld
          clear hHeld hS t2 t3 t4
          cases bo
          case true =>
            have hfq := of_decide_eq_true HBo.out
            have HGoN := Lib.hid (show ∀ i, i < k + 1 → goes bs place i from fun i hi => by
              by_cases e : i = k
              · subst e; exact HGoes.out.2 hfq
              · exact HGo.out i (by omega))
            have OW := Lib.hid CA.out.own
            have FA := Lib.hid CA.out.all
            have SQ := Lib.hid CA.out.seg
            have BWW := Lib.hid CA.out.bel
            have XW := CA.out.box
            have x0 := XW.cell 0
            have x1 := XW.cell 1
            have x2 := XW.cell 2
            clear CA C0 ba hfq
            have HX5 := Lib.hid XW
            go_wp2_with (at_builtin; refine wpList_append_lies _ rfl _ _ _ rfl w.heap.size 34 i0 _ 3 40 Tryd.underlying25 hi0 hz0 hz1 hz2 rfl (by omega) _ k xs rfl (OW.out.alloc _) _ 1 1 [.int .i64 (q.1 : Int), .int .u64 (q.2.1 : Int), .slice A2 q.2.2.length c2] rfl rfl (World.news_of_block (heap_alloc_new _ _)) (three_one _ _ _ _ _) (by omega) (by simp only [maxLen]; omega) (by omega) (by have := BWW.out.size; simp; omega) _ rfl ?_; intro g9 cap9 w9 hown hgr hgg hlt9; have HF9 := Lib.hid (FrIn.push (firstQ_length bs k) HXL.out (FA.out.bel ((Below.refl _ _).alloc (Nat.le_refl _) _)) (SQ.out.bel ((Below.refl _ _).alloc (Nat.le_refl _) _)) hown hgr hgg); have HB9 := Lib.hid ((BWW.out.alloc BWW.out.size _).grown hgr (by have := BWW.out.size; simp; omega) (fun k hk => (OW.out.lt k hk).1)); clear hown hgr hgg hlt9)
            go_roundw
            case rel => exact ⟨k + 1, by omega, by go_num, HGoN.out, by rw [firstQ_succ, HQ.out]; exact HF9.out, HB9.out⟩
            case measure => simp [intOf]; omega
          case false =>
            have hfq := of_decide_eq_false HBo.out
            have HSt := Lib.hid (show stops bs place k from ⟨by omega, HGo.out, .inr (fun h => hfq (HGoes.out.1 h))⟩)
            have HFin := Lib.hid (show FrIn wa w.heap.size 34 (.slice (some ⟨gc, 0, none⟩) k cv) (firstQ bs k) from ⟨xs, by rw [firstQ_length]; exact CA.out.own, CA.out.all⟩)
            have HBf := Lib.hid CA.out.bel
            clear CA C0 ba hfq
            go_wp2_with fail
            go_ret
            exact ⟨_, k, rfl, HSt.out, HFin.out, HBf.out⟩
        · have hk1 : ¬ (0 : Int) < (k : Int) := by omega
          have HGoN := Lib.hid (show ∀ j, j < k + 1 → goes bs place j from fun j hj => by
            by_cases e : j = k
            · subst e; exact ⟨HOkk.out, fun h => absurd h hk0⟩
            · exact HGo.out j (by omega))
          clear hfa
          go_wp2_with fail
          generalize w2.alloc (.cells #[.int .i64 (q.1 : Int), .int .u64 (q.2.1 : Int), .slice A2 q.2.2.length c2] 34) = w3 at *
          go_quiet (fail)
          have OW := Lib.hid (own_drewN3 OW3.out nq)
          have FA := Lib.hid (FA3.out.bel (below_drewN (Below.refl _ _) nq))
          have SQ := Lib.hid (SQ3.out.bel (below_drewN (Below.refl _ _) nq))
          have BWW := Lib.hid (below_drewN BW3.out nq)
          have XW := X3.out.drewN nq
          have x0 := XW.cell 0
          have x1 := XW.cell 1
          have x2 := XW.cell 2
          clear OW3 FA3 SQ3 BW3 X3
          generalize w3.drewN nq = w4 at *
          have HX5 := Lib.hid XW
          go_wp2_with (at_builtin; refine wpList_append_lies _ rfl _ _ _ rfl w.heap.size 34 i0 _ 3 40 Tryd.underlying25 hi0 hz0 hz1 hz2 rfl (by omega) _ k xs rfl (OW.out.alloc _) _ 1 1 [.int .i64 (q.1 : Int), .int .u64 (q.2.1 : Int), .slice A2 q.2.2.length c2] rfl rfl (World.news_of_block (heap_alloc_new _ _)) (three_one _ _ _ _ _) (by omega) (by simp only [maxLen]; omega) (by omega) (by have := BWW.out.size; simp; omega) _ rfl ?_; intro g9 cap9 w9 hown hgr hgg hlt9; have HF9 := Lib.hid (FrIn.push (firstQ_length bs k) HXL.out (FA.out.bel ((Below.refl _ _).alloc (Nat.le_refl _) _)) (SQ.out.bel ((Below.refl _ _).alloc (Nat.le_refl _) _)) hown hgr hgg); have HB9 := Lib.hid ((BWW.out.alloc BWW.out.size _).grown hgr (by have := BWW.out.size; simp; omega) (fun k hk => (OW.out.lt k hk).1)); clear hown hgr hgg hlt9)
          go_roundw
          case rel => exact ⟨k + 1, by omega, by go_num, HGoN.out, by rw [firstQ_succ, HQ.out]; exact HF9.out, HB9.out⟩
          case measure => simp [intOf]; omega
      · have HSt := Lib.hid (show stops bs place k from ⟨by omega, HGo.out, .inr (fun h => hno (HOk.out.1 h.1))⟩)
        have her' : (er != 0) = true := by rw [bne_iff_ne]; exact her
        have a3 : Below w2.heap.size w2 (w2.alloc (.cells #[.int .i64 0, .int .u64 0, .slice none 0 0] 34)) := (Below.refl _ _).alloc (Nat.le_refl _) _
        have HFin := Lib.hid (fun n => ((HF.out.bel (below_step b2 a3)).bel (below_drewN (Below.refl _ _) n)))
        have HBf := Lib.hid (fun n => below_drewN (below_step HB.out (below_step b2 a3)) n)
        clear hno her b2 a3
        go_wp2_with fail
        generalize w2.alloc (.cells #[.int .i64 0, .int .u64 0, .slice none 0 0] 34) = w3 at *
        go_quiet (fail)
        go_wp2_with fail
        go_ret
        exact ⟨_, k, rfl, HSt.out, HFin.out _, HBf.out _⟩
    · obtain rfl : k = m := by omega
      have HSt := Lib.hid (show stops bs place k from ⟨by rw [← HM.out]; exact Nat.le_refl _, hgo, .inl HM.out⟩)
      have HF := Lib.hid hf
      have HB := Lib.hid hb
      clear hgo hf hb
      go_wp2_with fail
      go_ret
      exact ⟨_, k, rfl, HSt.out, HF.out, HB.out⟩
end Go.Proofs.YtpkajmgfechhhaaDoor
