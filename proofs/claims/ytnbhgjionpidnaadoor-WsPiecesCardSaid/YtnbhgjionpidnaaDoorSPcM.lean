/- Bytes in pieces: what the pieces come to, and an append to a row in whose block no byte lies. No condition. -/
import Derived.Test.YtnbhgjionpidnaaDoorSReadsM
import Derived.Test.YtnbhgjionpidnaaDoorTwo
namespace Go.Proofs.YtnbhgjionpidnaaDoor
open Go.RowKit

/-- Piece by piece is at once. -/
theorem feedN_step (mk : Bool) (L M : List Nat) : feedN mk st0 (L ++ M) = ((feedN mk st0 L).1 ++ (feedN mk (feedN mk st0 L).2 M).1, (feedN mk (feedN mk st0 L).2 M).2) := by
  rw [feedN_0, feedN_0]
  have h := runN_append mk (L.length + 1) 0 ⟨#[]⟩ L M (Nat.lt_succ_self _)
  rw [show (L ++ M).length + 1 = L.length + 1 + M.length by rw [List.length_append]; omega, h]
  cases hr : (runN mk (L.length + 1) 0 ⟨#[]⟩ L).2 with
  | none =>
    show runN mk (L.length + 1) 0 ⟨#[]⟩ L = ((runN mk (L.length + 1) 0 ⟨#[]⟩ L).1 ++ [], none)
    rw [List.append_nil, ← hr]
  | some q =>
    obtain ⟨k, t, r⟩ := q
    show _ = ((runN mk (L.length + 1) 0 ⟨#[]⟩ L).1 ++ (runN mk ((r ++ M).length + 1) k t (r ++ M)).1, (runN mk ((r ++ M).length + 1) k t (r ++ M)).2)
    rw [List.length_append]
theorem feedN_st (mk : Bool) (L : List Nat) (hz : L.length ≤ 10000) (hl : ∀ x ∈ L, x < 256) : StB 10000 (feedN mk st0 L).2 := by
  intro k t l e
  rw [feedN_0] at e
  obtain ⟨h1, h2, d, rfl⟩ := runN_st mk _ 0 ⟨#[]⟩ L (by decide) (by decide) k t l e
  exact ⟨h1, h2, by rw [List.length_drop]; omega, fun x hx => hl x (List.mem_of_mem_drop hx)⟩
def NotU8 (x : Value) : Prop := ∀ k, x ≠ .int .u8 k
theorem itsL_not (l : List ItM) : ∀ x ∈ itsL l, NotU8 x := by
  intro x hx k e
  unfold itsL at hx
  rw [List.mem_flatten] at hx
  obtain ⟨y, hy, hxy⟩ := hx
  rw [List.mem_map] at hy
  obtain ⟨i, _, rfl⟩ := hy
  simp only [List.mem_cons, List.not_mem_nil, or_false] at hxy
  rcases hxy with rfl | rfl | rfl <;> cases e
theorem itsL_cell (l : List ItM) : ∀ u ∈ itsL l, u.oneCell' = true := by
  intro x hx
  unfold itsL at hx
  rw [List.mem_flatten] at hx
  obtain ⟨y, hy, hxy⟩ := hx
  rw [List.mem_map] at hy
  obtain ⟨i, _, rfl⟩ := hy
  simp only [List.mem_cons, List.not_mem_nil, or_false] at hxy
  rcases hxy with rfl | rfl | rfl <;> rfl
theorem zeroCells_all (Pc : Value → Prop) (z : Array Value) (n : Nat) (h : ∀ x ∈ z.toList, Pc x) : ∀ x ∈ (Builtin.zeroCells z n).toList, Pc x := by
  intro x hx
  unfold Builtin.zeroCells at hx
  simp only [Array.toList_map, List.mem_map] at hx
  obtain ⟨i, hi, rfl⟩ := hx
  have hr : i < n * z.size := by simpa using hi
  have hz : 0 < z.size := by
    rcases Nat.eq_zero_or_pos z.size with h0 | h0
    · rw [h0, Nat.mul_zero] at hr; omega
    · exact h0
  have hm : i % z.size < z.size := Nat.mod_lt _ hz
  rw [getElem!_pos z (i % z.size) hm]
  exact h _ (by rw [← Array.getElem_toList]; exact List.getElem_mem _)
/-- An append of some elements: where the row lies then, and that each of its block's cells still is of the kind. -/
theorem run_append_pred {P : Program} (Pc : Value → Prop) (w : World) (base : Nat) (t ty e : TypeId) (i : TypeInfo) (z : Value) (size bytes : Nat) (ht : P.underlying t = some (.slice e)) (hi : P.info? e = some i) (hz : i.zero = some z)
    (hsize : i.size = size) (hby : i.bytes = bytes) (hzs : z.cells.size = size) (hPz : ∀ x ∈ z.cells.toList, Pc x) (g n cap : Nat) (xs : List Value) (hown : w.ownsRow base e size (.slice (some ⟨g, 0, none⟩) n cap) n xs) (hPr : ∃ cur, w.heap[g]? = some (.cells cur e (0, 0)) ∧ ∀ x ∈ cur.toList, Pc x) (a : Addr) (m c : Nat) (news : List Value) (hl : news.length = m * size) (hnews : ∀ j u, news[j]? = some u → w.cell? (a.add j) = some u) (h1 : ∀ u ∈ news, u.oneCell' = true) (hPn : ∀ u ∈ news, Pc u)
    (h63 : n + m ≤ maxLen) (hbytes : (n + m) * bytes ≤ 140737488355328) (hbase : base ≤ w.heap.size) :
    ∃ g' cap' w', (Builtin.append_ #[t, t] ty #[.slice (some ⟨g, 0, none⟩) n cap, .slice (some a) m c]).run P w = .ok (.slice (some ⟨g', 0, none⟩) (n + m) cap') w' ∧ w'.ownsRow base e size (.slice (some ⟨g', 0, none⟩) (n + m) cap') (n + m) (xs ++ news) ∧ (∃ cur, w'.heap[g']? = some (.cells cur e (0, 0)) ∧ ∀ x ∈ cur.toList, Pc x) ∧ Kept1 g w w' ∧ Below base w w' ∧ base ≤ g' := by
  subst hsize
  subst hby
  have hsmall : n + m ≤ 9223372036854775807 := by simp only [maxLen] at h63; omega
  have hlen : (xs ++ news).length = (n + m) * i.size := by rw [List.length_append, hown.1, hl, Nat.add_mul]
  obtain ⟨cur0, hg0, hP0⟩ := hPr
  obtain ⟨g', cap', cur, h, hbg, hg, hnc, hcm, hcs, htake⟩ : ∃ g' cap' cur, (Value.slice (some ⟨g, 0, none⟩) n cap) = .slice (some ⟨g', 0, none⟩) n cap' ∧ base ≤ g' ∧ w.heap[g']? = some (.cells cur e (0, 0)) ∧ n ≤ cap' ∧ cap' ≤ maxLen ∧ cur.size = cap' * i.size ∧ cur.toList.take (n * i.size) = xs := by
    rcases hown.2 with ⟨h, _⟩ | h
    · cases h
    · exact h
  simp only [Value.slice.injEq, Option.some.injEq, Addr.mk.injEq, and_true, true_and] at h
  obtain ⟨rfl, rfl⟩ := h
  have hcc : cur0 = cur := by
    rw [hg0] at hg
    simp only [Option.some.injEq, Obj.cells.injEq, and_true] at hg
    exact hg
  subst hcc
  by_cases hroom : n + m ≤ cap
  · have hfit : n * i.size + news.length ≤ cur0.size := by rw [hl, hcs, ← Nat.add_mul]; exact Nat.mul_le_mul_right _ hroom
    have hr := run_append_room (P := P) w t ty e i ht hi g n cap cur0 hg a m c news hl hnews h1 hroom hfit
    have hsz : (cur0.toList.take (n * i.size) ++ news ++ cur0.toList.drop (n * i.size + news.length)).toArray.size = cap * i.size := by
      simp only [List.size_toArray, List.length_append, List.length_take, List.length_drop, Array.length_toList]
      omega
    refine ⟨g, cap, _, hr, ⟨hlen, .inr ⟨g, cap, _, rfl, hbg, setRow_heap w g cur0 _ e _ hg, hroom, hcm, hsz, ?_⟩⟩, ⟨_, setRow_heap w g cur0 _ e _ hg, fun x hx => ?_⟩, ⟨by simp [World.setRow], fun b hb hn => ?_⟩, below_setRow_ (Below.refl _ _) hbg _, hbg⟩
    · rw [htake, ← hlen]
      exact List.take_left
    · simp only [List.mem_append] at hx
      rcases hx with (hx | hx) | hx
      · exact hP0 x (List.mem_of_mem_take hx)
      · exact hPn x hx
      · exact hP0 x (List.mem_of_mem_drop hx)
    · simp [World.setRow, Array.getElem?_modify, Ne.symm hn]
  · have holds : ∀ j u, xs[j]? = some u → w.cell? ((⟨g, 0, none⟩ : Addr).add j) = some u := hown.cells (g := g) rfl
    have hr := run_append_grow (P := P) w t ty e i z ht hi hz ⟨g, 0, none⟩ n cap xs hown.1 holds a m c news hl hnews (by omega) (by omega) (growslice_fits (by omega) hbytes)
    have hb : Below w.heap.size w (w.drew.alloc (.cells (xs.toArray ++ news.toArray ++ Builtin.zeroCells z.cells (grownCap w (n + m) cap e - (n + m))) e)) := (Below.refl _ _).drew.alloc (Nat.le_refl _) _
    have hge := grownCap_ge w (n + m) cap e
    have hcm2 : grownCap w (n + m) cap e ≤ maxLen := grownCap_le_maxLen w (n + m) cap e h63
    refine ⟨w.heap.size, _, _, hr, ⟨hlen, .inr ⟨w.heap.size, _, _, rfl, hbase, heap_alloc_new w.drew _, hge, hcm2, ?_, ?_⟩⟩, ⟨_, heap_alloc_new w.drew _, fun x hx => ?_⟩, ⟨hb.size, fun b hb' _ => hb.block b hb'⟩, hb.mono hbase, hbase⟩
    · simp only [Array.size_append, List.size_toArray, size_zeroCells, hzs, hown.1, hl, ← Nat.add_mul]
      congr 1
      omega
    · simp only [Array.toList_append, List.append_assoc]
      rw [← List.append_assoc, ← hlen]
      exact List.take_left
    · simp only [Array.toList_append, List.mem_append] at hx
      rcases hx with (hx | hx) | hx
      · exact hP0 x (by rw [← htake] at hx; exact List.mem_of_mem_take hx)
      · exact hPn x hx
      · exact zeroCells_all Pc _ _ hPz x hx
/-- The reader, the bytes, the items so far. -/
structure PcI (w : World) (gr z : Nat) (mk : Bool) (A : Option Addr) (l : List Nat) (g cap : Nat) (X : List ItM) (st : Option (Nat × ByteArray × List Nat)) (w1 : World) : Prop where
  bel : Below w.heap.size w w1
  seg : Seg w1 A (u8s l)
  ne : ∀ a, A = some a → a.block < gr
  rd : ∃ B, RdS B gr mk st w1
  own : w1.ownsRow z 46 3 (.slice (some ⟨g, 0, none⟩) X.length cap) X.length (itsL X)
  cur : ∃ cs, w1.heap[g]? = some (.cells cs 46 (0, 0)) ∧ ∀ x ∈ cs.toList, NotU8 x
  le : w.heap.size ≤ gr ∧ gr < z ∧ z ≤ g ∧ z ≤ w1.heap.size
section
variable {w w1 w2 : World} {gr z g cap : Nat} {mk : Bool} {A : Option Addr} {l : List Nat} {X Y : List ItM} {st st2 : Option (Nat × ByteArray × List Nat)}
theorem PcI.next (h : PcI w gr z mk A l g cap X st w1) (hb : Below w1.heap.size w1 w2) : PcI w gr z mk A l g cap X st w2 := by
  obtain ⟨B, hr⟩ := h.rd
  obtain ⟨cs, h1, h2⟩ := h.cur
  exact ⟨h.bel.trans (hb.mono h.bel.size), h.seg.bel hb, h.ne, ⟨B, rds_kept hr hb⟩, own_belS h.own hb, ⟨cs, Bk.bel (t := 46) h1 hb, h2⟩, h.le.1, h.le.2.1, h.le.2.2.1, Nat.le_trans h.le.2.2.2 hb.size⟩
theorem PcI.tab (h : PcI w gr z mk A l g cap X st w1) (hT : Tabs w) : TabG w1 gr := ⟨w, hT, h.bel, h.le.1⟩
theorem PcI.feed (h : PcI w gr z mk A l g cap X st w1) (hk : KQ gr w1 w2) (hr : ∃ B, RdS B gr mk st2 w2) : PcI w gr z mk A l g cap X st2 w2 := by
  obtain ⟨h1, h2, h3, h4⟩ := h.le
  obtain ⟨cs, c1, c2⟩ := h.cur
  exact ⟨h.bel.trans (hk.bel.mono h1), h.seg.kept hk.kept (fun a e => by have := h.ne a e; omega), h.ne, hr, own_keptS h.own (fun e => by have := (h.own.lt gr e).1; omega) hk.kept, ⟨cs, bk_kept (t := 46) c1 (by omega) hk.kept, c2⟩, h1, h2, h3, Nat.le_trans h4 hk.kept.size⟩
theorem PcI.apart (h : PcI w gr z mk A l g cap X st w1) {A' : Option Addr} {l' : List Nat} (hs : Seg w1 A' (u8s l')) (hl : l' ≠ []) : ∀ a, A' = some a → a.block ≠ g := by
  intro a e hg
  obtain ⟨b, off, e', hb, hc⟩ := hs (by intro e2; have := congrArg List.length e2; rw [u8s_length] at this; exact hl (List.eq_nil_of_length_eq_zero this))
  rw [e'] at e
  injection e with e
  subst e
  have hg : b = g := hg
  subst hg
  obtain ⟨cs, c1, c2⟩ := h.cur
  have hlen : 0 < (u8s l').length := by
    rw [u8s_length]
    exact List.length_pos_iff.2 hl
  have h0 := hc 0 hlen
  rw [Nat.add_zero] at h0
  have hx : w1.cell? ⟨b, off, none⟩ = cs[off]? := by
    have := cell_of_row w1 b off cs 46 (0, 0) c1
    exact this
  rw [hx] at h0
  obtain ⟨x, r, rfl⟩ : ∃ x r, l' = x :: r := by
    cases l' with
    | nil => exact absurd rfl hl
    | cons x r => exact ⟨x, r, rfl⟩
  have h0 : cs[off]? = some (.int .u8 (x : Int)) := h0
  obtain ⟨ho, he⟩ := Array.getElem?_eq_some_iff.1 h0
  exact c2 cs[off] (by rw [← Array.getElem_toList]; exact List.getElem_mem _) _ he
theorem PcI.push (h : PcI w gr z mk A l g cap X st w1) (A4 : Option Addr) (c4 : Nat) (hs : Seg w1 A4 (itsL Y)) (hz : X.length + Y.length ≤ 100000) (i : TypeInfo) (hi : Tryd.prog.info? 46 = some i) (hiz : i.zero = some (.agg #[.int .i64 0, .string ⟨#[]⟩, .int .i64 0])) (his : i.size = 3) (hib : i.bytes = 32) :
    ∃ g' cap' w2, (Builtin.append_ #[40, 40] 40 #[.slice (some ⟨g, 0, none⟩) X.length cap, .slice A4 Y.length c4]).run Tryd.prog w1 = .ok (.slice (some ⟨g', 0, none⟩) (X ++ Y).length cap') w2 ∧ PcI w gr z mk A l g' cap' (X ++ Y) st w2 := by
  obtain ⟨h1, h2, h3, h4⟩ := h.le
  by_cases hY : Y = []
  · subst hY
    refine ⟨g, cap, w1, ?_, by rw [List.append_nil]; exact h⟩
    rw [List.append_nil]
    exact run_append_none (P := Tryd.prog) w1 z 40 40 46 i Tryd.underlying40 hi _ X.length 3 (itsL X) h.own A4 c4
  · have hp : 0 < Y.length := List.length_pos_iff.2 hY
    obtain ⟨b, off, e, hb, hc⟩ := hs (by intro e; have := congrArg List.length e; rw [itsL_length] at this; simp only [List.length_nil] at this; omega)
    subst e
    obtain ⟨g', cap', w2, r1, r2, r3, r4, r5, r6⟩ := run_append_pred (P := Tryd.prog) NotU8 w1 z 40 40 46 i _ 3 32 Tryd.underlying40 hi hiz his hib rfl (by
      intro x hx k e
      subst e
      simp [Value.cells] at hx) g X.length cap (itsL X) h.own h.cur ⟨b, off, none⟩ Y.length c4 (itsL Y) (itsL_length Y) (fun j u hu => by
        have hj : j < (itsL Y).length := by
          rcases Nat.lt_or_ge j (itsL Y).length with h | h
          · exact h
          · rw [List.getElem?_eq_none h] at hu; cases hu
        rw [show ((⟨b, off, none⟩ : Addr).add j) = ⟨b, off + j, none⟩ by unfold Addr.add; split <;> simp_all, hc j hj]
        exact hu) (itsL_cell Y) (itsL_not Y) (by unfold maxLen; omega) (by omega) h4
    have e3 : itsL X ++ itsL Y = itsL (X ++ Y) := by unfold itsL; rw [List.map_append, List.flatten_append]
    rw [e3, show X.length + Y.length = (X ++ Y).length by rw [List.length_append]] at r2
    refine ⟨g', cap', w2, by rw [List.length_append]; exact r1, ⟨h.bel.trans (r5.mono (by omega)), h.seg.kept r4 (fun a e => by have := h.ne a e; omega), h.ne, ?_, r2, r3, h1, h2, r6, Nat.le_trans h4 r5.size⟩⟩
    obtain ⟨B, hr⟩ := h.rd
    refine ⟨B, ?_⟩
    cases st with
    | none => exact bk_kept (show Bk w1 gr 59 endC from hr) (by omega) r4
    | some q =>
      obtain ⟨k, t, l'⟩ := q
      obtain ⟨A', c', d1, d2, d3, d4⟩ := (show RdL B gr mk k t l' w1 from hr)
      refine ⟨A', c', bk_kept d1 (by omega) r4, d2, ?_, d4⟩
      by_cases hl : l' = []
      · subst hl
        exact Seg.nil _ _
      · exact d3.kept r4 (h.apart d3 hl)
end
end Go.Proofs.YtnbhgjionpidnaaDoor
