/- The walk of the copy of at most so many bytes. Conditions: the bytes lie in memory. -/
import Derived.Test.YtfoajcphlanleaaDoorSha
namespace Go.Proofs.YtfoajcphlanleaaDoor
open Go.RowKit

/-- An append that has room behind. -/
theorem wpList_append_in {P : Program} (w : World) {ops : Array Oper} {rest : List Oper} {o : Oper} {a : Act} {Q : Exit → Act → World → Prop} (hgd : o.guard = none) (s x : Operand) (t : TypeId)
    (ho : o.op = .call { callee := .builtin .append, args := #[s, x], argTypes := #[t, t] })
    (e : TypeId) (i : TypeInfo) (ht : P.underlying t = some (.slice e)) (hi : P.info? e = some i) (hsize : i.size = 1)
    (g n cap : Nat) (cur : Array Value) (hs : a.eval s = .slice (some ⟨g, 0, none⟩) n cap) (hg : w.heap[g]? = some (.cells cur e (0, 0)))
    (A : Option Addr) (m c : Nat) (news : List Value) (hx : a.eval x = .slice A m c) (hm : m = news.length) (hr : Seg w A news)
    (h1 : ∀ u ∈ news, u.oneCell' = true) (hroom : n + m ≤ cap) (hfit : n + m ≤ cur.size)
    (h : ∀ w', w'.heap[g]? = some (.cells (cur.toList.take n ++ news ++ cur.toList.drop (n + m)).toArray e (0, 0)) → Below g w w' → wpList P ops Q rest (a.put o.dst (.slice (some ⟨g, 0, none⟩) (n + m) cap)) w') : wpList P ops Q (o :: rest) a w := by
  have main : ∃ w', (Builtin.append_ #[t, t] o.type #[.slice (some ⟨g, 0, none⟩) n cap, .slice A m c]).run P w = .ok (.slice (some ⟨g, 0, none⟩) (n + m) cap) w' ∧ w'.heap[g]? = some (.cells (cur.toList.take n ++ news ++ cur.toList.drop (n + m)).toArray e (0, 0)) ∧ Below g w w' := by
    rcases A with _ | ad
    · have hn : news = [] := by
        rcases news with _ | ⟨u, us⟩
        · rfl
        · obtain ⟨b, off, h, _⟩ := hr (by simp)
          cases h
      subst hn
      subst hm
      refine ⟨w, ?_, ?_, Below.refl _ _⟩
      · simp [Builtin.append_, run_underlying ht, sizeOf, typeInfo, hi, Builtin.lenOf, Builtin.firstCells]
        rw [if_pos (by simp only [List.length_nil, Nat.add_zero] at hroom; exact hroom)]
        simp [storeCells]
      · simp [hg]
    · have hc : ∀ j u, news[j]? = some u → w.cell? (ad.add j) = some u := by
        intro j u hj
        have hj' := (List.getElem?_eq_some_iff.1 hj).1
        obtain ⟨b, off, h, hl, hcc⟩ := hr (by intro e; subst e; simp at hj')
        injection h with h
        subst h
        have := hcc j hj'
        rw [show ((⟨b, off, none⟩ : Addr).add j) = ⟨b, off + j, none⟩ by unfold Addr.add; split <;> simp_all]
        rw [this, hj]
      have hrun := run_append_room (P := P) w t o.type e i ht hi g n cap cur hg ad m c news (by rw [hsize]; omega) hc h1 hroom (by rw [hsize]; omega)
      rw [hsize, Nat.mul_one, ← hm] at hrun
      exact ⟨_, hrun, setRow_heap w g cur _ e _ hg, below_setRow_ (Below.refl _ _) (Nat.le_refl _) _⟩
  obtain ⟨w', hrun, h2, h3⟩ := main
  refine wpList_plain hgd fun K hK => ?_
  unfold Oper.wp execOp
  simp only [ho, resolve, invoke, builtin, Sem.run_bind, Sem.run_pure, Result.andThen_ok, List.map_toArray, List.map_cons, List.map_nil, hs, hx, hrun]
  exact hK _ _ (h w' h2 h3)

/-- An append of what is read in memory, as a step of a region that draws its order. -/
theorem step_append_seg {P : Program} (w : World) {ops : Array Oper} {o : Oper} {a : Act} {K : Act → World → Prop} {Q : Exit → Act → World → Prop} {E : Prop} (hgd : o.guard = none) (s x : Operand) (t : TypeId)
    (ho : o.op = .call { callee := .builtin .append, args := #[s, x], argTypes := #[t, t] })
    (base : Nat) (e : TypeId) (i : TypeInfo) (z : Value) (bytes : Nat) (ht : P.underlying t = some (.slice e)) (hi : P.info? e = some i) (hz : i.zero = some z)
    (hsize : i.size = 1) (hby : i.bytes = bytes) (hzs : z.cells.size = 1)
    (v : Value) (n : Nat) (xs : List Value) (hs : a.eval s = v) (hown : w.ownsRow base e 1 v n xs) (A : Option Addr) (m c : Nat) (news : List Value) (hx : a.eval x = .slice A m c) (hm : m = news.length) (hr : Seg w A news)
    (h1 : ∀ u ∈ news, u.oneCell' = true) (h63 : n + m ≤ maxLen) (hbytes : (n + m) * bytes ≤ 140737488355328) (hbase : base ≤ w.heap.size)
    (h : ∀ v' w', w'.ownsRow base e 1 v' (n + m) (xs ++ news) → Below base w w' → K (a.put o.dst v') w') :
    if Region.wanted o (yielded ops a.tmps) = true then Oper.wp P o a w K Q else E := by
  have hw : Region.wanted o (yielded ops a.tmps) = true := by simp [Region.wanted, hgd]
  rw [if_pos hw]
  obtain ⟨v', w', hrun, h2, h3⟩ := run_append_seg (P := P) w base t o.type e i z bytes ht hi hz hsize hby hzs v n xs hown A m c news hm hr h1 h63 hbytes hbase
  unfold Oper.wp execOp
  simp only [ho, resolve, invoke, builtin, Sem.run_bind, Sem.run_pure, Result.andThen_ok, List.map_toArray, List.map_cons, List.map_nil, hs, hx, hrun]
  exact h v' w' h2 h3

def pad3 (l : List Nat) : Array Value := (u8s l ++ List.replicate 3 (Value.int .u8 0)).toArray
theorem seg_pad {w : World} {g : Nat} {l : List Nat} (h : Bk w g 5 (pad3 l)) : Seg w (some ⟨g, 0, none⟩) (u8s l) :=
  Seg.of_block h (fun i hi => by simp [pad3, List.getElem?_append_left hi])

set_option maxRecDepth 100000 in
theorem few_any (A : Option Addr) (n c N : Nat) (l : List Nat) (hn : n = l.length) (hnc : n ≤ c) (hN : N ≤ 100000) (w : World) (hA : Seg w A (u8s l)) :
    Calls Tryd.prog 8 #[.slice A n c, .int .i64 N] w fun e w' => e = .returned (.slice (some ⟨w.heap.size, 0, none⟩) (l.take N).length ((l.take N).length + 3)) ∧ Bk w' w.heap.size 5 (pad3 (l.take N)) ∧ Below w.heap.size w w' := by
  obtain ⟨i0, hi0, hz0, hz1, hz2⟩ := info_parts info5
  have hmk : ∀ (m : Nat) (w : World), m ≤ 100000 → (Instr.makeSlice 22 (.int .i64 0) (.int .i64 ((m : Int) + 3))).run Tryd.prog w = .ok (.slice (some ⟨w.heap.size, 0, none⟩) 0 (m + 3)) (w.alloc (.cells (madeCells #[.int .u8 0] (m + 3)) 5)) := fun m w hm => by
    have := run_make (P := Tryd.prog) w 22 5 i0 (.int .u8 0) Tryd.underlying22 hi0 hz0 .i64 .i64 0 (m + 3) (by omega) (by omega) (by rw [hz2]; omega) (by omega)
    rw [hz1, show ((m : Int) + 3).toNat = m + 3 by omega, Nat.mul_one] at this
    exact this
  have hsz0 : ∀ (w : World) o, (w.alloc o).heap.size = w.heap.size + 1 := by simp
  obtain ⟨m, hm⟩ : ∃ m, m = (l.take N).length := ⟨_, rfl⟩
  have hmN : m ≤ 100000 := by rw [hm, List.length_take]; omega
  have hml : m = min N n := by rw [hm, List.length_take, hn]
  have HM := Lib.hid (hmk m w hmN)
  have hT : Seg w A (u8s (l.take N)) := by
    have := hA.take N
    rw [show (u8s l).take N = u8s (l.take N) by simp [u8s, List.map_take]] at this
    exact this
  have HT := Lib.hid (hT.bel ((Below.refl _ _).alloc (Nat.le_refl _) (.cells (madeCells #[.int .u8 0] (m + 3)) 5)))
  have HG := Lib.hid (heap_alloc_new w (.cells (madeCells #[.int .u8 0] (m + 3)) 5))
  have HB := Lib.hid ((Below.refl w.heap.size w).alloc (Nat.le_refl _) (.cells (madeCells #[.int .u8 0] (m + 3)) 5))
  have HMm := Lib.hid hm
  have hcz : (madeCells #[Value.int .u8 0] (m + 3)).toList = List.replicate (m + 3) (Value.int .u8 0) := toList_madeCells_one _ _
  have hcs : (madeCells #[Value.int .u8 0] (m + 3)).size = m + 3 := by rw [← Array.length_toList, hcz]; simp
  have hpad : ((madeCells #[Value.int .u8 0] (m + 3)).toList.take 0 ++ u8s (l.take N) ++ (madeCells #[Value.int .u8 0] (m + 3)).toList.drop (0 + m)).toArray = pad3 (l.take N) := by
    rw [hcz]; simp [pad3, List.drop_replicate]
  rw [← hm]
  have HP := Lib.hid hpad
  clear hpad hcz hm hT hA
  generalize l.take N = L at *
  by_cases hlt : N < n
  · obtain rfl : m = N := by omega
    clear hml hn
    have i1 : (m : Int) < (n : Int) := by omega
    go_enter Tryd.func8, Tryd.ntmps8
    have hk := HM.out
    go_wp2_with (at_builtin; refine wpList_append_in _ rfl _ _ _ rfl 5 i0 Tryd.underlying22 hi0 hz1 w.heap.size 0 (m + 3) _ rfl HG.out A m c (u8s L) rfl (by rw [u8s_length, HMm.out]) HT.out (u8s_one _) (by omega) (by omega) ?_; intro w1 hb1 hw1; rw [HP.out] at hb1; have Q1 := Lib.hid hb1; have Q2 := Lib.hid (HB.out.trans hw1); clear hb1 hw1)
    go_ret
    exact ⟨by simp, Q1.out, Q2.out⟩
  · obtain rfl : m = n := by omega
    clear hml hn
    have i1 : ¬ (N : Int) < (m : Int) := by omega
    go_enter Tryd.func8, Tryd.ntmps8
    have hk := HM.out
    go_wp2_with (at_builtin; refine wpList_append_in _ rfl _ _ _ rfl 5 i0 Tryd.underlying22 hi0 hz1 w.heap.size 0 (m + 3) _ rfl HG.out A m c (u8s L) rfl (by rw [u8s_length, HMm.out]) HT.out (u8s_one _) (by omega) (by omega) ?_; intro w1 hb1 hw1; rw [HP.out] at hb1; have Q1 := Lib.hid hb1; have Q2 := Lib.hid (HB.out.trans hw1); clear hb1 hw1)
    go_ret
    exact ⟨by simp, Q1.out, Q2.out⟩
end Go.Proofs.YtfoajcphlanleaaDoor
