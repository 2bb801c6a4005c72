/- At most 300 calls, in a row of one's own; a new pager; its pages' numbers. Condition: the rows lie in memory. -/
import Derived.Test.YtfbpagbfdccgfaaGDo
import Derived.Laws.MakeOwn
namespace Go.Proofs.Ytfbpagbfdccgfaa
open Go.RowKit

/-- The empty row just made: nothing is put behind it. -/
theorem run_append_nothing {P : Program} (w : World) (base : Nat) (t ty e : TypeId) (i : TypeInfo) (ht : P.underlying t = some (.slice e)) (hi : P.info? e = some i) (v : Value) (n size : Nat) (xs : List Value) (hown : w.ownsRow base e size v n xs) (A : Option Addr) (c : Nat) :
    (Builtin.append_ #[t, t] ty #[v, .slice A 0 c]).run P w = .ok v w := by
  rcases A with _ | a
  · rcases hown.2 with ⟨rfl, rfl⟩ | ⟨g, cap, cur, rfl, _, _, hnc, _⟩
    · simp [Builtin.append_, run_underlying ht, sizeOf, typeInfo, hi, Builtin.lenOf, Builtin.firstCells]
    · simp [Builtin.append_, run_underlying ht, sizeOf, typeInfo, hi, Builtin.lenOf, Builtin.firstCells, hnc, storeCells]
  · rcases hown.2 with ⟨rfl, rfl⟩ | ⟨g, cap, cur, rfl, _, _, hnc, _⟩
    · simp [Builtin.append_, run_underlying ht, sizeOf, typeInfo, hi, Builtin.lenOf, Builtin.firstCells, loadCells, loadCellsFrom]
    · simp [Builtin.append_, run_underlying ht, sizeOf, typeInfo, hi, Builtin.lenOf, Builtin.firstCells, storeCells, loadCells, loadCellsFrom, hnc]
def opV (o : Int × Int) : List Value := [.int .i64 o.1, .int .i64 o.2]
def opsV (l : List (Int × Int)) : List Value := l.flatMap opV
theorem opsV_length (l : List (Int × Int)) : (opsV l).length = l.length * 2 := by
  induction l with
  | nil => rfl
  | cons h l ih => show (opV h ++ opsV l).length = _; rw [List.length_append, ih, List.length_cons]; show 2 + _ = _; omega
theorem opsV_append (a b : List (Int × Int)) : opsV (a ++ b) = opsV a ++ opsV b := by unfold opsV; rw [List.flatMap_append]
theorem opsV_take (l : List (Int × Int)) (i : Nat) (hi : i ≤ l.length) : (opsV l).take (i * 2) = opsV (l.take i) := by
  have h := opsV_append (l.take i) (l.drop i)
  rw [List.take_append_drop] at h
  rw [h, List.take_append_of_le_length (by rw [opsV_length, List.length_take]; omega), List.take_of_length_le (by rw [opsV_length, List.length_take]; omega)]
theorem opsV_at {l : List (Int × Int)} {i k : Nat} (hi : i < l.length) (hk : k < 2) : (opsV l)[i * 2 + k]? = (opV l[i])[k]? := by
  have h := opsV_append (l.take i) (l.drop i)
  rw [List.take_append_drop] at h
  rw [h, List.getElem?_append_right (by rw [opsV_length, List.length_take]; omega), opsV_length, List.length_take, show i * 2 + k - min i l.length * 2 = k by omega, List.drop_eq_getElem_cons hi]
  show (opV l[i] ++ opsV _)[k]? = _
  rw [List.getElem?_append_left (by show k < 2; exact hk)]
theorem opsV_one (l : List (Int × Int)) : ∀ u ∈ opsV l, u.oneCell' = true := by
  intro u hu
  obtain ⟨o, _, hu⟩ := List.mem_flatMap.1 hu
  unfold opV at hu
  simp only [List.mem_cons, List.not_mem_nil, or_false] at hu
  rcases hu with rfl | rfl <;> rfl
theorem info_op : (Try.prog.info? 31).map (fun i => (i.zero, i.size, i.bytes)) = some (some (.agg #[.int .i64 0, .int .i64 0]), 2, 16) := by kernel_rfl
theorem seg_cells {w : World} {b off : Nat} {xs : List Value} (h : Seg w (some ⟨b, off, none⟩) xs) : ∀ j u, xs[j]? = some u → w.cell? ((⟨b, off, none⟩ : Addr).add j) = some u := fun j u hu => by
  have hj := (List.getElem?_eq_some_iff.1 hu).1
  obtain ⟨b', off', e, _, hc⟩ := h (by intro e; rw [e] at hj; simp at hj)
  simp only [Option.some.injEq, Addr.mk.injEq, and_true] at e
  obtain ⟨rfl, rfl⟩ := e
  rw [show ((⟨b, off, none⟩ : Addr).add j) = ⟨b, off + j, none⟩ by unfold Addr.add; split <;> simp_all, hc j hj]
  exact hu
theorem own_someS {w : World} {B n size : Nat} {e : TypeId} {v : Value} {xs : List Value} (h : w.ownsRow B e size v n xs) (hv : v ≠ .slice none 0 0) : ∃ g c, v = .slice (some ⟨g, 0, none⟩) n c ∧ n ≤ c ∧ Seg w (some ⟨g, 0, none⟩) xs ∧ B ≤ g := by
  rcases h.2 with ⟨h1, _⟩ | ⟨g, cap, cur, h1, hB, hc, hn, _, hs, ht⟩
  · exact absurd h1 hv
  · refine ⟨g, cap, h1, hn, fun _ => ⟨g, 0, rfl, Bk.lt (show Bk w g e cur from hc), fun i hi => ?_⟩, hB⟩
    have hb : Bk w g e cur := hc
    rw [Nat.zero_add, hb.cell i, ← ht, List.getElem?_take, if_pos (by rw [← h.1]; exact hi), Array.getElem?_toList]
set_option maxRecDepth 100000 in
theorem copy_ops (w : World) (A : Option Addr) (n c : Nat) (l : List (Int × Int)) (hn : n = l.length) (hA : Seg w A (opsV l)) (hz : n ≤ 300) (w1 : World) (hw : w1.heap.size = w.heap.size + 1) (hb : Below w.heap.size w w1) (ho : w1.ownsRow w.heap.size 31 2 (.slice (some ⟨w.heap.size, 0, none⟩) 0 0) 0 []) :
    ∃ v' w', (Builtin.append_ #[22, 22] 22 #[.slice (some ⟨w.heap.size, 0, none⟩) 0 0, .slice A n c]).run Try.prog w1 = .ok v' w' ∧ w'.ownsRow w.heap.size 31 2 v' n (opsV l) ∧ Below w.heap.size w w' ∧ v' ≠ .slice none 0 0 := by
  obtain ⟨i0, hi0, hz0, hz1, hz2⟩ := info_parts info_op
  by_cases h0 : n = 0
  · subst h0
    have hl : l = [] := List.eq_nil_of_length_eq_zero hn.symm
    subst hl
    exact ⟨_, _, run_append_nothing w1 w.heap.size 22 _ 31 i0 Try.underlying22 hi0 _ 0 2 [] ho A c, ho, hb, fun e => by cases e⟩
  · obtain ⟨b, off, rfl, hbl, hc⟩ := hA (by intro e; have := congrArg List.length e; rw [opsV_length] at this; simp only [List.length_nil] at this; omega)
    have hA1 := hA.bel hb
    obtain ⟨v', w', hr, h2, h3, h4, _⟩ := run_append_own_at (P := Try.prog) w1 w.heap.size 22 22 31 i0 _ 2 16 Try.underlying22 hi0 hz0 hz1 hz2 rfl (by decide) _ 0 [] ho ⟨b, off, none⟩ n c (opsV l) (by rw [opsV_length, hn]) (seg_cells hA1) (opsV_one l) (by simp only [maxLen]; omega) (by omega) (by omega)
    rw [Nat.zero_add, List.nil_append] at h2
    exact ⟨v', w', hr, h2, hb.grown h3 (by omega) (fun j hj => by
      have h9 : w.heap.size = j := by simpa [Value.ownBlock] using hj
      exact Nat.le_of_eq h9), fun e => by have := (h4.1 e).1; cases this⟩
set_option maxRecDepth 100000 in
set_option maxHeartbeats 1000000 in
/-- At most 300 calls. -/
theorem few_any (w : World) (A : Option Addr) (n c : Nat) (l : List (Int × Int)) (hn : n = l.length) (hA : Seg w A (opsV l)) (hc : n ≤ c) (hz : n ≤ 9223372036854775807) :
    Calls Try.prog 7 #[.slice A n c] w fun e w' => (∃ g d, e = .returned (.slice (some ⟨g, 0, none⟩) (l.take 300).length d) ∧ (l.take 300).length ≤ d ∧ Seg w' (some ⟨g, 0, none⟩) (opsV (l.take 300)) ∧ w.heap.size ≤ g) ∧ Below w.heap.size w w' := by
  have hb1 : Below w.heap.size w (w.alloc (.cells #[] 31)) := (Below.refl _ _).alloc (Nat.le_refl _) _
  have ho1 := World.ownsRow_lit (size := 2) w #[] 0 (e := 31) (base := w.heap.size) (Nat.le_refl _) (by decide) rfl
  by_cases h300 : 300 < n
  · obtain ⟨b, off, rfl, hbl, hcell⟩ := hA (by intro e; have := congrArg List.length e; rw [opsV_length] at this; simp only [List.length_nil] at this; omega)
    have hS : Seg w (some ⟨b, off, none⟩) (opsV (l.take 300)) := by
      intro _
      refine ⟨b, off, rfl, hbl, fun i hi => ?_⟩
      rw [opsV_length, List.length_take] at hi
      rw [hcell i (by rw [opsV_length]; omega), ← opsV_take l 300 (by omega), List.getElem?_take, if_pos (by omega)]
    have hl3 : (l.take 300).length = 300 := by rw [List.length_take]; omega
    obtain ⟨v', w', hr, ho, hb, hnn⟩ := copy_ops w (some ⟨b, off, none⟩) 300 c (l.take 300) hl3.symm hS (Nat.le_refl _) (w.alloc (.cells #[] 31)) (by simp) hb1 ho1
    rw [hl3]
    have i1 : decide ((300 : Int) < (n : Int)) = true := by simp; omega
    have i2 : (300 : Int) < (n : Int) := by omega
    have i3 : 300 ≤ c := by omega
    have i4 : ¬ c = 0 := by omega
    obtain ⟨gg, d, rfl, hd, hsg, hgg⟩ := own_someS ho hnn
    have HO := Lib.hid hsg
    have HB := Lib.hid hb
    have HR := Lib.hid hr
    clear hb1 ho1 hcell hS hA hr ho hb hnn hsg hl3
    go_enter Try.func7, Try.ntmps7
    go_wp2_with (at_builtin; refine Lib.wpList_append_run _ rfl _ _ _ _ rfl _ _ rfl rfl _ _ HR.out ?_)
    go_ret
    exact ⟨⟨gg, d, rfl, hd, HO.out, hgg⟩, HB.out⟩
  · have hl3 : l.take 300 = l := List.take_of_length_le (by omega)
    rw [hl3, ← hn]
    obtain ⟨v', w', hr, ho, hb, hnn⟩ := copy_ops w A n c l hn hA (by omega) (w.alloc (.cells #[] 31)) (by simp) hb1 ho1
    have i1 : decide ((300 : Int) < (n : Int)) = false := by simp; omega
    have i2 : ¬ (300 : Int) < (n : Int) := by omega
    obtain ⟨gg, d, rfl, hd, hsg, hgg⟩ := own_someS ho hnn
    have HO := Lib.hid hsg
    have HB := Lib.hid hb
    have HR := Lib.hid hr
    clear hb1 ho1 hA hr ho hb hnn hsg hl3 hn
    go_enter Try.func7, Try.ntmps7
    go_wp2_with (at_builtin; refine Lib.wpList_append_run _ rfl _ _ _ _ rfl _ _ rfl rfl _ _ HR.out ?_)
    go_ret
    exact ⟨⟨gg, d, rfl, hd, HO.out, hgg⟩, HB.out⟩
/-- A new pager. -/
theorem new_no (room : Int) (w : World) (h : room < 1 ∨ 64 < room) : Calls Try.prog 14 #[.int .i64 room] w fun e w' => e = .returned (.tuple #[.pointer none, .int .i64 1]) ∧ w' = w := by
  by_cases h1 : room < 1
  · have i1 : decide (room < 1) = true := decide_eq_true h1
    go_enter Try.func14, Try.ntmps14
    go_wp2_with fail
    go_ret2
    exact ⟨rfl, rfl⟩
  · have h2 : 64 < room := by omega
    have i1 : decide (room < 1) = false := decide_eq_false h1
    have i2 : decide (64 < room) = true := decide_eq_true h2
    go_enter Try.func14, Try.ntmps14
    go_wp2_with fail
    go_ret2
    exact ⟨rfl, rfl⟩
theorem new_ok (room : Int) (w : World) (h1 : 1 ≤ room) (h2 : room ≤ 64) : Calls Try.prog 14 #[.int .i64 room] w fun e w' => e = .returned (.tuple #[.pointer (some ⟨w.heap.size, 0, none⟩), .int .i64 0]) ∧ PgA w.heap.size w.heap.size room [] (.slice none 0 0) w' ∧ Below w.heap.size w w' := by
  have i1 : decide (room < 1) = false := decide_eq_false (by omega)
  have i2 : decide (64 < room) = false := decide_eq_false (by omega)
  have i3 : ¬ room < 1 := by omega
  have i4 : ¬ 64 < room := by omega
  have HA := Lib.hid ((Below.refl w.heap.size w).alloc (Nat.le_refl _) (.cells #[.int .i64 room, .slice none 0 0] 56))
  have HB := Lib.hid (Bk.new w 56 #[.int .i64 room, .slice none 0 0])
  go_enter Try.func14, Try.ntmps14
  go_wp2_with fail
  go_ret2
  exact ⟨rfl, ⟨HB.out, World.ownsRow_nil _ _ _ _, Nat.le_refl _, by simp⟩, HA.out⟩
/-- The pages' numbers. -/
def pagesN (l : List HeldM) : List Int := l.map (·.page)
structure PgI (B gp g0 n : Nat) (room : Int) (l : List HeldM) (v : Value) (i : Nat) (w wr : World) : Prop where
  bel : Below w.heap.size w wr
  pg : PgA B gp room l v wr
  row : ∃ cells, Bk wr g0 3 cells ∧ cells.size = n ∧ ∀ j (hj : j < l.length), j < i → cells[j]? = some (.int .i64 l[j].page)
set_option maxRecDepth 100000 in
set_option maxHeartbeats 1000000 in
theorem pages_any (B gp : Nat) (room : Int) (l : List HeldM) (v : Value) (w : World) (h : PgA B gp room l v w) (hl : l.length ≤ 1000000) :
    Calls Try.prog 16 #[.pointer (some ⟨gp, 0, none⟩)] w fun e w' => (∃ A c, e = .returned (.slice A l.length c) ∧ l.length ≤ c ∧ w'.ownsRow w.heap.size 3 1 (.slice A l.length c) l.length (intV (pagesN l))) ∧ Below w.heap.size w w' := by
  obtain ⟨j0, hj0, hj1, hj2, hj3⟩ := info_parts info_int
  obtain ⟨n, hn⟩ : ∃ n, n = l.length := ⟨_, rfl⟩
  have hmk : (Instr.makeSlice 24 (.int .i64 (n : Int)) (.int .i64 (n : Int))).run Try.prog w = .ok (.slice (some ⟨w.heap.size, 0, none⟩) n n) (w.alloc (.cells (madeCells #[.int .i64 0] n) 3)) := by
    have := run_make (P := Try.prog) w 24 3 j0 (.int .i64 0) Try.underlying24 hj0 hj1 .i64 .i64 n n (by omega) (by omega) (by rw [hj3]; omega) (by omega)
    simpa [hj2, Value.cells] using this
  obtain ⟨w1, hw1⟩ : ∃ w1, w1 = w.alloc (.cells (madeCells #[.int .i64 0] n) 3) := ⟨_, rfl⟩
  have al : Below w.heap.size w w1 := by rw [hw1]; exact (Below.refl _ _).alloc (Nat.le_refl _) _
  have HS := Lib.hid (show PgI B gp w.heap.size n room l v 0 w w1 from ⟨al, h.bel al, madeCells #[.int .i64 0] n, by rw [hw1]; exact Bk.new w _ _, size_madeCells _ _, fun j _ hj => by omega⟩)
  have HW1 := Lib.hid hw1
  have HN := Lib.hid hn
  have y1 := h.bk.cell 1
  have z1 := HS.out.pg.bk.cell 1
  have hgp := Lib.hid h.bk.lt
  have hn6 : n ≤ 1000000 := by omega
  rw [← hn]
  obtain ⟨Av, cv, hv, hnil⟩ : ∃ A c, v = .slice A n c ∧ (0 < n → ∃ g, A = some ⟨g, 0, none⟩) := by
    rcases own_shapeH h.row with ⟨h1, h2⟩ | ⟨g, cap, h1, _⟩
    · rw [h2] at hn
      have h0 : n = 0 := hn
      exact ⟨none, 0, by rw [h1, h0], fun h => by omega⟩
    · rw [← hn] at h1
      exact ⟨_, _, h1, fun _ => ⟨g, rfl⟩⟩
  subst hv
  have HNIL := Lib.hid hnil
  clear h al hw1 hn hnil
  go_enter Try.func16, Try.ntmps16
  go_upto_region 2 with fail
  rw [← HW1.out]
  clear y1
  go_wp2_with fail
  go_loopw [17] (fun s wr => ∃ i : Nat, i ≤ n ∧ s = .int .i64 i ∧ Hid (PgI B gp w.heap.size n room l (.slice Av n cv) i w wr)) (fun s _ => n - (intOf s).toNat)
  case atStart => exact ⟨0, by omega, rfl, HS⟩
  case round =>
    clear z1 HS HW1 hmk
    obtain ⟨i, hin, rfl, hS⟩ := hrel
    by_cases hlt : i < n
    · have hil : i < l.length := by have := HN.out; omega
      obtain ⟨g, rfl⟩ := HNIL.out (by omega)
      obtain ⟨cells, hb, hcs, hcj⟩ := hS.out.row
      have hrow : wr.ownsRow B 61 3 (.slice (some ⟨g, 0, none⟩) n cv) n (rowH l) := by have := hS.out.pg.row; rwa [← HN.out] at this
      obtain ⟨s, hs⟩ : ∃ s, s = l[i] := ⟨_, rfl⟩
      have c0 : wr.cell? ⟨g, i * 3, none⟩ = some (.int .i64 s.page) := by have := own_cellH hrow hil 0 (by omega); rw [← hs, Nat.add_zero] at this; exact this
      have c1 : wr.cell? ⟨g, i * 3 + 1, none⟩ = some (.int .i64 (s.pins : Int)) := by have := own_cellH hrow hil 1 (by omega); rw [← hs] at this; exact this
      have c2 : wr.cell? ⟨g, i * 3 + 2, none⟩ = some (.bool s.turned) := by have := own_cellH hrow hil 2 (by omega); rw [← hs] at this; exact this
      obtain ⟨pa, pb, pc⟩ := s
      dsimp only at c0 c1 c2
      have al := (Below.refl wr.heap.size wr).alloc (Nat.le_refl _) (.cells #[.int .i64 pa, .int .i64 (pb : Int), .bool pc] 61)
      obtain ⟨u0, hu0⟩ : ∃ u, wr.cell? ⟨w.heap.size, i, none⟩ = some u := ⟨cells[i]'(by omega), by rw [hb.cell i]; exact Array.getElem?_eq_getElem _⟩
      have hf0 := hb.frozen i
      have hbl := hb.lt
      have E1 := Lib.hid (show ((i : Int) + 1) = ((i + 1 : Nat) : Int) by omega)
      have MM := Lib.hid (show n - (intOf (.int .i64 ((i + 1 : Nat) : Int))).toNat < n - (intOf (.int .i64 (i : Int))).toNat by simp only [intOf]; omega)
      have i1 : (0 : Int) ≤ (i : Int) := by omega
      have i2 : (i : Int) < (n : Int) := by omega
      have NX := Lib.hid (show PgI B gp w.heap.size n room l (.slice (some ⟨g, 0, none⟩) n cv) (i + 1) w ((wr.setCell ⟨w.heap.size, i, none⟩ (.int .i64 pa)).alloc (.cells #[.int .i64 pa, .int .i64 (pb : Int), .bool pc] 61)) by
        rw [← World.setCell_alloc_past _ _ _ _ hbl]
        have hp := hS.out.pg.bel al
        have ngp : ¬ gp = w.heap.size := fun e => by have := hgp.out; omega
        refine ⟨(hS.out.bel.trans (al.mono hS.out.bel.size)).setCell (p := ⟨w.heap.size, i, none⟩) (Nat.le_refl _) _, ⟨bk_set2 hp.bk ngp, own_setB hp.row (own_block_ne hp.row (hb.bel al) (by decide)), hp.ge, by simpa [World.setCell] using hp.base⟩, cells.setIfInBounds i (.int .i64 pa), (hb.bel al).put i _, by simpa using hcs, fun j hj hji => ?_⟩
        rw [Array.getElem?_setIfInBounds]
        by_cases hij : i = j
        · subst hij
          rw [if_pos rfl, if_pos (by omega), ← hs]
        · rw [if_neg hij]
          exact hcj j hj (by omega))
      clear hb hcs hcj hrow hs al hS
      go_wp2_with fail
      rw [E1.out]
      exact ⟨⟨i + 1, by omega, rfl, NX⟩, MM.out⟩
    · have hii : i = n := by omega
      have FIN := Lib.hid (show wr.ownsRow w.heap.size 3 1 (.slice (some ⟨w.heap.size, 0, none⟩) n n) n (intV (pagesN l)) by
        obtain ⟨cells, hb, hcs, hcj⟩ := hS.out.row
        have hpl : (pagesN l).length = n := by unfold pagesN; rw [List.length_map]; exact HN.out.symm
        refine ⟨by rw [intV_length, hpl]; omega, Or.inr ⟨w.heap.size, n, cells, rfl, Nat.le_refl _, hb, Nat.le_refl _, by simp only [maxLen]; omega, by omega, ?_⟩⟩
        apply List.ext_getElem?
        intro j
        by_cases hj : j < n
        · have hjl : j < l.length := by have := HN.out; omega
          rw [List.getElem?_take, if_pos (by omega), Array.getElem?_toList, hcj j hjl (by omega)]
          simp [intV, pagesN, hjl]
        · rw [List.getElem?_eq_none (by rw [List.length_take]; omega), List.getElem?_eq_none (by rw [intV_length]; omega)])
      have HB := Lib.hid hS.out.bel
      clear hS hii
      go_wp2_with fail
      go_ret
      exact ⟨⟨_, _, rfl, Nat.le_refl _, FIN.out⟩, HB.out⟩
end Go.Proofs.Ytfbpagbfdccgfaa
