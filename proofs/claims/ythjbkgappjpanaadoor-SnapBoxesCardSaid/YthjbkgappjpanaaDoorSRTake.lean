/- What the reference's Take answers. Condition: the pieces lie in memory. -/
import Derived.Test.YthjbkgappjpanaaDoorSRMiss
import Derived.Test.YthjbkgappjpanaaDoorStable
import Derived.Test.YthjbkgappjpanaaDoorSCheck
namespace Go.Proofs.YthjbkgappjpanaaDoor
open Go.RowKit

set_option maxRecDepth 100000 in
set_option maxHeartbeats 1000000 in
theorem rtake_bad (A : Option Addr) (n cc : Nat) (i t : Int) (c : Nat) (d : ByteArray) (w : World) (h : argBad i t d.size) :
    Calls Tryd.prog 12 #[.slice A n cc, .agg #[.int .i64 i, .int .i64 t, .int .u32 (c : Int), .string d]] w fun e w' => e = .returned (.tuple #[.slice A n cc, .bool false, .int .i64 1]) ∧ Below w.heap.size w w' := by
  have X1 := Bk.new w 33 #[.int .i64 i, .int .i64 t, .int .u32 (c : Int), .string d]
  have x0 := X1.cell 0
  have x1 := X1.cell 1
  have x3 := X1.cell 3
  simp only [List.getElem?_toArray, List.getElem?_cons_zero, List.getElem?_cons_succ] at x0 x1 x3
  have HB := Lib.hid ((Below.refl w.heap.size w).alloc (Nat.le_refl _) (.cells #[.int .i64 i, .int .i64 t, .int .u32 (c : Int), .string d] 33))
  clear X1
  unfold argBad at h
  by_cases h1 : t < 1
  · clear h
    go_enter Tryd.func12, Tryd.ntmps12
    go_wp2_with fail
    go_ret3
    exact ⟨rfl, HB.out⟩
  by_cases h2 : 100 < t
  · clear h
    go_enter Tryd.func12, Tryd.ntmps12
    go_wp2_with fail
    go_ret3
    exact ⟨rfl, HB.out⟩
  by_cases h3 : i < 0
  · clear h
    go_enter Tryd.func12, Tryd.ntmps12
    go_wp2_with fail
    go_ret3
    exact ⟨rfl, HB.out⟩
  by_cases h4 : t ≤ i
  · clear h
    go_enter Tryd.func12, Tryd.ntmps12
    go_wp2_with fail
    go_ret3
    exact ⟨rfl, HB.out⟩
  have h5 : (4000 : Int) < (d.size : Int) := by omega
  clear h
  go_enter Tryd.func12, Tryd.ntmps12
  go_wp2_with fail
  go_ret3
  exact ⟨rfl, HB.out⟩
def rtF (w0 : World) (_B n m cc : Nat) (A : Option Addr) (R : List PcM) (q : PcM) (i : Nat) (v _u : Value) (w : World) : Prop := match i with
  | 0 => ∃ g, w0.heap.size ≤ g ∧ v = .slice (some ⟨g, 0, none⟩) 0 0 ∧ w.ownsRow w0.heap.size 33 4 v 0 []
  | 1 => v = .slice A n cc
  | 2 => ∃ g c2, v = .slice (some ⟨g, 0, none⟩) n c2 ∧ w.ownsRow w0.heap.size 33 4 v n (rpV R)
  | 3 => v = .agg #[.int .i64 (q.i : Int), .int .i64 (q.t : Int), .int .u32 (q.c : Int), .string q.d]
  | 4 => ∃ b, v = .slice (some ⟨b, 0, none⟩) 1 1 ∧ Bk w b 33 q.cl.toArray
  | 5 => w.ownsRow w0.heap.size 33 4 v m (rpV (R ++ [q]))
  | 6 => w.ownsRow w0.heap.size 33 4 v m (rpV (R ++ [q]))
  | _ => True
theorem rtF_bel {w0 : World} {B n m cc : Nat} {A : Option Addr} {R : List PcM} {q : PcM} {w w' : World} (hb : Below w.heap.size w w') : ∀ j u u', rtF w0 B n m cc A R q j u u' w → rtF w0 B n m cc A R q j u u' w' := by
  intro j u u' h
  unfold rtF at *
  split at h <;> first | exact h | exact own_belS h hb | skip
  · obtain ⟨g, hg, hv, ho⟩ := h
    exact ⟨g, hg, hv, own_belS ho hb⟩
  · obtain ⟨g, c2, hv, ho⟩ := h
    exact ⟨g, c2, hv, own_belS ho hb⟩
  · obtain ⟨b, hv, hc⟩ := h
    exact ⟨b, hv, hc.bel hb⟩
theorem own_at2 {w w' : World} {base n c g size : Nat} {e : TypeId} {xs : List Value} (h : w.ownsRow base e size (.slice (some ⟨g, 0, none⟩) n c) n xs) (hh : w'.heap[g]? = w.heap[g]?) : w'.ownsRow base e size (.slice (some ⟨g, 0, none⟩) n c) n xs := by
  refine ⟨h.1, ?_⟩
  rcases h.2 with ⟨hv, _⟩ | ⟨g', cap, cur, hv, hg, hgg, rest⟩
  · cases hv
  · refine .inr ⟨g', cap, cur, hv, hg, ?_, rest⟩
    obtain rfl : g = g' := by injection hv with h1; injection h1 with h1; injection h1
    exact hh.trans hgg
theorem own_cur {w : World} {base n c g size : Nat} {e : TypeId} {xs : List Value} {cur : Array Value} {mk : Nat × Nat} (h : w.ownsRow base e size (.slice (some ⟨g, 0, none⟩) n c) n xs) (hh : w.heap[g]? = some (.cells cur e mk)) : cur.size = c * size := by
  rcases h.2 with ⟨hv, _⟩ | ⟨g', cap, cur', hv, hg, hgg, _, _, hs, _⟩
  · cases hv
  · injection hv with h1 h2 h3
    injection h1 with h1
    injection h1 with h1
    subst h1
    subst h3
    rw [hh] at hgg
    injection hgg with hgg
    injection hgg with hgg
    rw [hgg]; exact hs
/-- What stays where the one piece is put behind the others in place. -/
theorem rtF_two {w0 : World} {B n m cc g2 c2 : Nat} {A : Option Addr} {R : List PcM} {q : PcM} {w w' : World} {cur : Array Value} (hk : Kept2 g2 w w') (hroom : n + 1 ≤ c2) (hcur : w.heap[g2]? = some (.cells cur 33 (0, 0))) (hcs : cur.size = c2 * 4)
    (hnew : w'.heap[g2]? = some (.cells (cur.toList.take (n * 4) ++ q.cl ++ cur.toList.drop (n * 4 + q.cl.length)).toArray 33 (0, 0))) (hold : ∀ xs, w.ownsRow w0.heap.size 33 4 (.slice (some ⟨g2, 0, none⟩) n c2) n xs → w'.ownsRow w0.heap.size 33 4 (.slice (some ⟨g2, 0, none⟩) n c2) n xs) :
    ∀ j, j ≠ 5 → j ≠ 6 → ∀ u u', rtF w0 B n m cc A R q j u u' w → rtF w0 B n m cc A R q j u u' w' := by
  intro j h5 h6 u u' h
  have lt_of : ∀ {g : Nat} {o : Obj}, w.heap[g]? = some o → g < w.heap.size := fun {g o} h => by
    rcases Nat.lt_or_ge g w.heap.size with h1 | h1
    · exact h1
    · rw [Array.getElem?_eq_none h1] at h; cases h
  unfold rtF at *
  split at h <;> first | exact h | exact absurd rfl h5 | exact absurd rfl h6 | skip
  · obtain ⟨g, hg, rfl, ho⟩ := h
    refine ⟨g, hg, rfl, ?_⟩
    by_cases e : g = g2
    · subst e
      have := own_cur ho hcur
      omega
    · refine own_at2 ho (hk.block g ?_ e)
      rcases ho.2 with ⟨hv, _⟩ | ⟨g', cap, cur', hv, _, hgg, _⟩
      · cases hv
      · injection hv with h1; injection h1 with h1; injection h1 with h1; subst h1; exact lt_of hgg
  · obtain ⟨g, c3, rfl, ho⟩ := h
    refine ⟨g, c3, rfl, ?_⟩
    by_cases e : g = g2
    · subst e
      have := own_cur ho hcur
      obtain rfl : c3 = c2 := by omega
      exact hold _ ho
    · refine own_at2 ho (hk.block g ?_ e)
      rcases ho.2 with ⟨hv, _⟩ | ⟨g', cap, cur', hv, _, hgg, _⟩
      · cases hv
      · injection hv with h1; injection h1 with h1; injection h1 with h1; subst h1; exact lt_of hgg
  · obtain ⟨b, rfl, hb⟩ := h
    refine ⟨b, rfl, ?_⟩
    by_cases e : b = g2
    · subst e
      have e1 := hb
      unfold Bk at e1
      rw [hcur] at e1
      injection e1 with e1
      injection e1 with e1
      subst e1
      have h4 : c2 * 4 = 4 := by rw [← hcs]; rfl
      obtain rfl : n = 0 := by omega
      unfold Bk
      rw [hnew]
      rfl
    · exact (hk.block b hb.lt e).trans hb
set_option maxRecDepth 100000 in
set_option maxHeartbeats 2000000 in
theorem rtake_good (A : Option Addr) (n cc B : Nat) (R : List PcM) (q : PcM) (w : World) (hn : n = R.length) (ho : w.ownsRow B 33 4 (.slice A n cc) n (rpV R)) (hs : n ≤ 1000) (_hB : B ≤ w.heap.size) (h1 : 1 ≤ q.t) (h2 : q.t ≤ 100) (h3 : q.i < q.t) (h4 : q.d.size ≤ 4000) :
    Calls Tryd.prog 12 #[.slice A n cc, .agg #[.int .i64 (q.i : Int), .int .i64 (q.t : Int), .int .u32 (q.c : Int), .string q.d]] w fun e w' => Below w.heap.size w w' ∧
      ((∃ r, e = .returned (.tuple #[.slice A n cc, .bool false, .int .i64 (r : Int)]) ∧ ((r = 4 ∧ ((∃ p R', R = p :: R' ∧ (p.t ≠ q.t ∨ p.c ≠ q.c)) ∨ ((∀ p R', R = p :: R' → p.t = q.t ∧ p.c = q.c) ∧ ∃ m, fnd R q.i = some m ∧ m.d ≠ q.d))) ∨ (r = 7 ∧ (∀ p R', R = p :: R' → p.t = q.t ∧ p.c = q.c) ∧ ∃ m, fnd R q.i = some m ∧ m.d = q.d))) ∨
       (fnd R q.i = none ∧ (∀ p R', R = p :: R' → p.t = q.t ∧ p.c = q.c) ∧ ∃ A' c', e = .returned (.tuple #[.slice A' (n + 1) c', .bool (decide (n + 1 = q.t)), .int .i64 0]) ∧ w'.ownsRow w.heap.size 33 4 (.slice A' (n + 1) c') (n + 1) (rpV (R ++ [q])))) := by
  obtain ⟨i0, hi0, hz0, hz1, hzb⟩ := info_parts info_rpiece
  have X1 := Bk.new w 33 #[.int .i64 (q.i : Int), .int .i64 (q.t : Int), .int .u32 (q.c : Int), .string q.d]
  obtain ⟨w1, hw1⟩ : ∃ w1, w1 = w.alloc (.cells #[.int .i64 (q.i : Int), .int .i64 (q.t : Int), .int .u32 (q.c : Int), .string q.d] 33) := ⟨_, rfl⟩
  have hbw : Below w.heap.size w w1 := by rw [hw1]; exact (Below.refl _ _).alloc (Nat.le_refl _) _
  rw [← hw1] at X1
  have HB := Lib.hid hbw
  have HX := Lib.hid X1
  have HO := Lib.hid (own_belS ho hbw)
  have HOW := Lib.hid ho
  have HN := Lib.hid hn
  have x0 := X1.cell 0
  have x1 := X1.cell 1
  have x2 := X1.cell 2
  have x3 := X1.cell 3
  simp only [List.getElem?_toArray, List.getElem?_cons_zero, List.getElem?_cons_succ] at x0 x1 x2 x3
  have g1 : ¬ (q.t : Int) < 1 := by omega
  have g2 : ¬ (100 : Int) < (q.t : Int) := by omega
  have g3 : ¬ (q.i : Int) < 0 := by omega
  have g4 : ¬ (q.t : Int) ≤ (q.i : Int) := by omega
  have g5 : ¬ (4000 : Int) < (q.d.size : Int) := by omega
  have HW := Lib.hid hw1
  clear hbw X1 hw1 ho hn
  by_cases hun : ∃ p R', R = p :: R' ∧ (p.t ≠ q.t ∨ p.c ≠ q.c)
  · obtain ⟨p0, R', rfl, hne⟩ := hun
    have hn0 : 0 < n := by rw [HN.out]; simp
    obtain ⟨g, p1, R1, rfl, _, hlt, hR, c1, c2⟩ := row_head HN.out HO.out hn0
    obtain ⟨rfl, rfl⟩ : p0 = p1 ∧ R' = R1 := by injection hR with h1 h2; exact ⟨h1, h2⟩
    have hn1 : decide (0 < n) = true := decide_eq_true hn0
    have hnI : (0 : Int) < (n : Int) := by omega
    have HNE := Lib.hid hne
    by_cases ht : p0.t = q.t
    · have d1 : ((p0.t : Int) != (q.t : Int)) = false := by rw [ht]; simp
      have d2 : ((p0.c : Int) != (q.c : Int)) = true := by rw [bne_iff_ne]; omega
      clear hR hne ht hn0
      go_enter Tryd.func12, Tryd.ntmps12
      go_wp2_with fail
      rw [← HW.out]
      go_quiet (fail)
      have HB2 := Lib.hid (below_drewN HB.out nq)
      go_wp2_with fail
      go_ret3
      exact ⟨HB2.out, .inl ⟨4, rfl, .inl ⟨rfl, .inl ⟨_, _, rfl, HNE.out⟩⟩⟩⟩
    · have d1 : ((p0.t : Int) != (q.t : Int)) = true := by rw [bne_iff_ne]; omega
      clear hR hne ht hn0
      go_enter Tryd.func12, Tryd.ntmps12
      go_wp2_with fail
      rw [← HW.out]
      go_quiet (fail)
      have HB2 := Lib.hid (below_drewN HB.out nq)
      go_wp2_with fail
      go_ret3
      exact ⟨HB2.out, .inl ⟨4, rfl, .inl ⟨rfl, .inl ⟨_, _, rfl, HNE.out⟩⟩⟩⟩
  · have hall : ∀ p R', R = p :: R' → p.t = q.t ∧ p.c = q.c := fun p R' h => by
      refine ⟨?_, ?_⟩
      · exact Classical.byContradiction fun h2 => hun ⟨p, R', h, .inl h2⟩
      · exact Classical.byContradiction fun h2 => hun ⟨p, R', h, .inr h2⟩
    have HAL := Lib.hid hall
    by_cases hn0 : 0 < n
    · obtain ⟨g, p0, R', rfl, _, hlt, rfl, c1, c2⟩ := row_head HN.out HO.out hn0
      obtain ⟨ht, hc⟩ := hall p0 R' rfl
      have hn1 : decide (0 < n) = true := decide_eq_true hn0
      have hnI : (0 : Int) < (n : Int) := by omega
      have d1 : ((p0.t : Int) != (q.t : Int)) = false := by rw [ht]; simp
      have d2 : ((p0.c : Int) != (q.c : Int)) = false := by rw [hc]; simp
      obtain ⟨R, hRR⟩ : ∃ R, R = p0 :: R' := ⟨_, rfl⟩
      rw [← hRR] at HN HO HOW HAL ⊢
      clear ht hc hall hun hn0 hRR
      go_enter Tryd.func12, Tryd.ntmps12
      go_wp2_with fail
      rw [← HW.out]
      go_quiet (fail)
      have HB2 := Lib.hid (below_drewN HB.out nq)
      have HX2 := Lib.hid (HX.out.drewN nq)
      have HO2 := Lib.hid (own_belS HO.out (below_drewN (Below.refl _ _) nq))
      clear x0 x1 x2 x3 HX HO HB HW c1 c2
      generalize w1.drewN nq = w2 at *
      have x0 := HX2.out.cell 0
      have x3 := HX2.out.cell 3
      simp only [List.getElem?_toArray, List.getElem?_cons_zero, List.getElem?_cons_succ] at x0 x3
      have CF := Lib.hid (find_any _ n cc R B q.i w2 HN.out HO2.out (by omega))
      cases hf : fnd R q.i with
      | some m =>
        rw [hf] at CF
        have HF := Lib.hid hf
        clear hf
        go_wp2_with fail
        refine CF.out.mono ?_
        rintro e w3 ⟨rfl, hb3⟩
        have HB3 := Lib.hid (below_step HB2.out hb3)
        have X3 := HX2.out.bel hb3
        unfold pcO
        obtain ⟨w4, hw4⟩ : ∃ w4, w4 = w3.alloc (.cells #[.int .i64 (m.i : Int), .int .i64 (m.t : Int), .int .u32 (m.c : Int), .string m.d] 33) := ⟨_, rfl⟩
        have Y4 : Bk w4 w3.heap.size 33 #[.int .i64 (m.i : Int), .int .i64 (m.t : Int), .int .u32 (m.c : Int), .string m.d] := by rw [hw4]; exact Bk.new w3 _ _
        have X4 : Bk w4 w.heap.size 33 #[.int .i64 (q.i : Int), .int .i64 (q.t : Int), .int .u32 (q.c : Int), .string q.d] := by rw [hw4]; exact X3.alloc _
        have HB4 := Lib.hid (show Below w.heap.size w w4 by rw [hw4]; exact HB3.out.alloc HB3.out.size _)
        have y3 := Y4.cell 3
        have z3 := X4.cell 3
        simp only [List.getElem?_toArray, List.getElem?_cons_zero, List.getElem?_cons_succ] at y3 z3
        have HW4 := Lib.hid hw4
        clear hw4 Y4 X4 X3 hb3 x0 x3
        go_upto_region 6 with fail
        rw [← HW4.out]
        by_cases hd : m.d = q.d
        · have hd2 : (m.d.toList == q.d.toList) = true := by rw [hd]; simp
          have HD := Lib.hid hd
          clear hd
          go_wp2_with fail
          go_ret3
          exact ⟨HB4.out, .inl ⟨7, rfl, .inr ⟨rfl, HAL.out, m, HF.out, HD.out⟩⟩⟩
        · have hd2 : (m.d.toList == q.d.toList) = false := by rw [beq_eq_false_iff_ne]; exact fun h => hd (by rw [ByteArray.toList_eq, ByteArray.toList_eq] at h; exact ByteArray.ext (Array.toList_inj.1 h))
          have HD := Lib.hid hd
          clear hd
          go_wp2_with fail
          go_ret3
          exact ⟨HB4.out, .inl ⟨4, rfl, .inl ⟨rfl, .inr ⟨HAL.out, m, HF.out, HD.out⟩⟩⟩⟩
      | none =>
        rw [hf] at CF
        have HF := Lib.hid hf
        clear hf
        go_wp2_with fail
        refine CF.out.mono ?_
        rintro e w3 ⟨rfl, hb3⟩
        have HB3 := Lib.hid (below_step HB2.out hb3)
        unfold pcO
        obtain ⟨w4, hw4⟩ : ∃ w4, w4 = w3.alloc (.cells #[.int .i64 0, .int .i64 0, .int .u32 0, .string ⟨#[]⟩] 33) := ⟨_, rfl⟩
        have HB4 := Lib.hid (show Below w.heap.size w w4 by rw [hw4]; exact HB3.out.alloc HB3.out.size _)
        have X4 := Lib.hid (show Bk w4 w.heap.size 33 #[.int .i64 (q.i : Int), .int .i64 (q.t : Int), .int .u32 (q.c : Int), .string q.d] by rw [hw4]; exact (HX2.out.bel hb3).alloc _)
        have O4 := Lib.hid (show w4.ownsRow B 33 4 (.slice (some ⟨g, 0, none⟩) n cc) n (rpV R) by rw [hw4]; exact (own_belS HO2.out hb3).alloc _)
        have HW4 := Lib.hid hw4
        clear hw4 hb3 x0 x3
        go_upto_region 10 with fail
        rw [← HW4.out]
        have hw4 : w.heap.size < w4.heap.size := X4.out.lt
        have G0 := Lib.hid (show Below w4.heap.size w4 w4.drew from (Below.refl _ _).drew)
        go_wp2_with fail
        refine wp_region_list [some 77, some 78, some 79, some 80, some 81, some 82, some 9] (fun _ => 0) (rtF w4 B n (n + 1) cc (some ⟨g, 0, none⟩) R q) (fun w1 => Below w4.heap.size w4 w1) (by kernel_rfl) G0.out rfl (by kernel_rfl) (by kernel_rfl) (by kernel_rfl) (by kernel_rfl) (fun T hT => ?_)
        simp only [List.filterMap_cons, List.filterMap_nil, id, putsS, Act.put, List.setIfInBounds_toArray, List.set_cons_zero, List.set_cons_succ] at hT
        subst hT
        refine ⟨⟨?_, ?_, ?_, ?_, ?_, ?_, ?_, trivial⟩, ?_⟩
        · -- 0: Op.buildSlice 26 0 #[]
          refine StepL.act ?_
          intro f w1 hG hF K hK
          clear hF
          dsimp only at hK ⊢
          go_simp
          exact hK.out _ _ (hG.alloc hG.size _) ⟨w1.heap.size, hG.size, rfl, World.ownsRow_lit w1 #[] 0 hG.size (by decide) rfl⟩ (fun j _ u u' h => rtF_bel ((Below.refl _ _).alloc (Nat.le_refl _) _) j u u' h)
        · -- 1: Op.move t0
          refine StepL.act ?_
          intro f w1 hG hF K hK
          clear hF
          dsimp only at hK ⊢
          go_simp
          exact hK.out _ _ hG rfl (fun _ _ _ _ h => h)
        · -- 2: Op.call ( builtin append, args := #[t77, t78], argTypes := #[26, 26] )
          refine StepL.act ?_
          intro f w1 hG hF K hK
          have d0 : (rtF w4 B n (n + 1) cc (some ⟨g, 0, none⟩) R q) 0 (f 77) (f 0) w1 := hF 0 (by kernel_rfl)
          have d1 : (rtF w4 B n (n + 1) cc (some ⟨g, 0, none⟩) R q) 1 (f 78) (f 0) w1 := hF 1 (by kernel_rfl)
          clear hF
          dsimp only at hK ⊢
          generalize f 77 = v77 at *
          generalize f 78 = v78 at *
          have d1 : v78 = .slice (some ⟨g, 0, none⟩) n cc := d1
          subst d1
          obtain ⟨g0, hg0, rfl, ho0⟩ := d0
          by_cases hz : n = 0
          · have hR : R = [] := List.eq_nil_of_length_eq_zero (by rw [← HN.out, hz])
            have hrun := run_append_none (P := Tryd.prog) w1 w4.heap.size 26 26 33 i0 Tryd.underlying26 hi0 (.slice (some ⟨g0, 0, none⟩) 0 0) 0 4 [] ho0 (some ⟨g, 0, none⟩) cc
            refine Lib.wp_append_run w1 _ _ _ _ rfl _ _ rfl (show _ = Value.slice (some ⟨g, 0, none⟩) 0 cc by rw [← hz]; rfl) _ w1 hrun (hK.out _ _ hG ⟨g0, 0, by rw [hz]; rfl, by rw [hz, hR]; exact ho0⟩ (fun _ _ _ _ h => h))
          · have hpos : 0 < n := by omega
            have hoA := own_belS O4.out hG
            obtain ⟨gA, cA, hvA, _, hltA⟩ := hoA.form hpos
            have hcA := hoA.cells (g := gA) (by rw [hvA]; rfl)
            injection hvA with hvA
            have hl4 : (rpV R).length = n * 4 := by rw [rpV_length, HN.out]
            obtain ⟨v', w2', hrun, hown, _, _, hbb, hor⟩ := run_append_two (P := Tryd.prog) w1 w4.heap.size 26 26 33 i0 _ 4 40 Tryd.underlying26 hi0 hz0 hz1 hzb rfl g0 0 0 [] ho0 ⟨gA, 0, none⟩ n cc (rpV R) hl4 hcA (rpV_one R) hpos (by simp only [maxLen]; omega) (by omega) hG.size
            have hb2 : Below w1.heap.size w1 w2' := by
              rcases hor with h | ⟨h, _⟩
              · exact h
              · omega
            rw [Nat.zero_add, List.nil_append] at hown
            obtain ⟨g2, c2, rfl, _, _⟩ := hown.form hpos
            exact Lib.wp_append_run w1 _ _ _ _ rfl _ _ rfl (by rw [← hvA]; rfl) _ w2' hrun (hK.out _ _ (hG.trans hbb) ⟨g2, c2, rfl, hown⟩ (fun j _ u u' h => rtF_bel hb2 j u u' h))
        · -- 3: Op.load 33 t3
          refine StepL.act ?_
          intro f w1 hG hF K hK
          clear hF
          dsimp only at hK ⊢
          have X1 := X4.out.bel hG
          have z0 := X1.cell 0
          have z1 := X1.cell 1
          have z2 := X1.cell 2
          have z3 := X1.cell 3
          simp only [List.getElem?_toArray, List.getElem?_cons_zero, List.getElem?_cons_succ] at z0 z1 z2 z3
          go_simp
          exact hK.out _ _ hG rfl (fun _ _ _ _ h => h)
        · -- 4: Op.buildSlice 26 1 #[(0, t80)]
          refine StepL.act ?_
          intro f w1 hG hF K hK
          have d3 : (rtF w4 B n (n + 1) cc (some ⟨g, 0, none⟩) R q) 3 (f 80) (f 0) w1 := hF 3 (by kernel_rfl)
          clear hF
          dsimp only at hK ⊢
          generalize f 80 = v80 at *
          have d3 : v80 = .agg #[.int .i64 (q.i : Int), .int .i64 (q.t : Int), .int .u32 (q.c : Int), .string q.d] := d3
          subst d3
          go_simp
          exact hK.out _ _ (hG.alloc hG.size _) ⟨w1.heap.size, rfl, Bk.new w1 _ _⟩ (fun j _ u u' h => rtF_bel ((Below.refl _ _).alloc (Nat.le_refl _) _) j u u' h)
        · -- 5: Op.call ( builtin append, args := #[t79, t81], argTypes := #[26, 26] )
          intro f w1 hG hF K hK
          have d2 : (rtF w4 B n (n + 1) cc (some ⟨g, 0, none⟩) R q) 2 (f 79) (f 0) w1 := hF 2 (by kernel_rfl)
          have d4 : (rtF w4 B n (n + 1) cc (some ⟨g, 0, none⟩) R q) 4 (f 81) (f 0) w1 := hF 4 (by kernel_rfl)
          clear hF
          dsimp only at hK ⊢
          generalize hf79 : f 79 = v79 at *
          generalize hf81 : f 81 = v81 at *
          obtain ⟨g2, c2, rfl, hown2⟩ := d2
          obtain ⟨b, rfl, hbk⟩ := d4
          have hcb : ∀ j u, q.cl[j]? = some u → w1.cell? ((⟨b, 0, none⟩ : Addr).add j) = some u := fun j u hu => by
            rw [show ((⟨b, 0, none⟩ : Addr).add j) = ⟨b, j, none⟩ by unfold Addr.add; split <;> simp_all]
            rw [hbk.cell j]; simpa using hu
          obtain ⟨v', w2', hrun, hown, hold, hkept, hbb, hor⟩ := run_append_two (P := Tryd.prog) w1 w4.heap.size 26 26 33 i0 _ 4 40 Tryd.underlying26 hi0 hz0 hz1 hzb rfl g2 n c2 (rpV R) hown2 ⟨b, 0, none⟩ 1 1 q.cl rfl hcb (cl_one q) (by omega) (by simp only [maxLen]; omega) (by omega) hG.size
          have hown9 : w2'.ownsRow w4.heap.size 33 4 v' (n + 1) (rpV (R ++ [q])) := by rw [rpV_append]; show w2'.ownsRow _ _ _ _ _ (rpV R ++ (q.cl ++ [])); rw [List.append_nil]; exact hown
          have HK := hK.out v' w2' (hG.trans hbb) hown9
          refine Lib.wp_append_run w1 _ _ _ _ rfl _ _ rfl rfl _ w2' hrun (HK ?_)
          intro j hj hdep h
          rcases hor with hb2 | ⟨hroom, cur, hcur, hcs, hnew⟩
          · exact rtF_bel hb2 j _ _ h
          · by_cases h6 : j = 6
            · subst h6
              exact absurd hdep (by rw [show depS _ 6 5 = true by kernel_rfl]; decide)
            · refine rtF_two hkept hroom hcur hcs hnew (fun xs hx => ?_) j hj h6 _ _ h
              obtain ⟨ho1, ho2⟩ := hx
              refine ⟨ho1, ?_⟩
              rcases ho2 with ⟨hv, _⟩ | ⟨g', cap, cur', hv, hb', hgg, hnc, hcm, hs, htk⟩
              · cases hv
              · injection hv with e1 _ e3
                injection e1 with e1
                injection e1 with e1
                subst e1
                subst e3
                rw [hcur] at hgg
                injection hgg with hgg
                injection hgg with hgg
                subst hgg
                refine .inr ⟨g2, c2, _, rfl, hb', hnew, hnc, hcm, ?_, ?_⟩
                · simp only [List.size_toArray, List.length_append, List.length_take, List.length_drop, Array.length_toList, PcM.cl, List.length_cons, List.length_nil]; omega
                · rw [htk]
                  show (xs ++ q.cl ++ _).take (n * 4) = xs
                  rw [List.append_assoc, ← ho1]
                  exact List.take_left
        · -- 6: Op.assign t82
          refine StepL.act ?_
          intro f w1 hG hF K hK
          have d5 : (rtF w4 B n (n + 1) cc (some ⟨g, 0, none⟩) R q) 5 (f 82) (f 0) w1 := hF 5 (by kernel_rfl)
          clear hF
          dsimp only at hK ⊢
          generalize f 82 = v82 at *
          obtain ⟨A6, c6, rfl, _⟩ := own_shape4 d5
          go_simp
          exact hK.out _ _ hG d5 (fun _ _ _ _ h => h)
        intro f w5 hG hF
        have f6 : w5.ownsRow w4.heap.size 33 4 (f 9) (n + 1) (rpV (R ++ [q])) := hF 6 (by decide)
        have HG := Lib.hid hG
        clear hF hG
        dsimp only
        generalize f 77 = v77
        generalize f 78 = v78
        generalize f 79 = v79
        generalize f 80 = v80
        generalize f 81 = v81
        generalize f 82 = v82
        generalize f 9 = v9 at *
        obtain ⟨A5, c5, rfl, hc5⟩ := own_shape4 f6
        have HO5 := Lib.hid (own_low f6 (Nat.le_of_lt hw4))
        have X5 := X4.out.bel HG.out
        have x1 := X5.cell 1
        simp only [List.getElem?_toArray, List.getElem?_cons_zero, List.getElem?_cons_succ] at x1
        have HB5 := Lib.hid (below_step HB4.out HG.out)
        obtain ⟨M, hM⟩ : ∃ M, M = n + 1 := ⟨_, rfl⟩
        rw [← hM] at HO5 hc5 ⊢
        have HM := Lib.hid hM
        clear f6 X5 hM
        by_cases hw : M = q.t
        · have hwI : ((M : Int) == (q.t : Int)) = true := by rw [hw]; simp
          have hdd : decide (M = q.t) = true := decide_eq_true hw
          have HDD := Lib.hid hdd
          clear hw hdd
          go_wp2_with fail
          go_quiet (fail)
          have HB6 := Lib.hid (below_drewN HB5.out nq)
          have HO6 := Lib.hid (own_belS HO5.out (below_drewN (Below.refl _ _) nq))
          go_wp2_with fail
          go_ret3
          exact ⟨HB6.out, .inr ⟨HF.out, HAL.out, A5, c5, by rw [← HM.out, HDD.out]; rfl, by rw [← HM.out]; exact HO6.out⟩⟩
        · have hwI : ((M : Int) == (q.t : Int)) = false := by rw [beq_eq_false_iff_ne]; omega
          have hdd : decide (M = q.t) = false := decide_eq_false hw
          have HDD := Lib.hid hdd
          clear hw hdd
          go_wp2_with fail
          go_quiet (fail)
          have HB6 := Lib.hid (below_drewN HB5.out nq)
          have HO6 := Lib.hid (own_belS HO5.out (below_drewN (Below.refl _ _) nq))
          go_wp2_with fail
          go_ret3
          exact ⟨HB6.out, .inr ⟨HF.out, HAL.out, A5, c5, by rw [← HM.out, HDD.out]; rfl, by rw [← HM.out]; exact HO6.out⟩⟩
    · have hn1 : decide (0 < n) = false := decide_eq_false hn0
      clear hall hun hn0
      go_enter Tryd.func12, Tryd.ntmps12
      go_wp2_with fail
      rw [← HW.out]
      go_quiet (fail)
      have HB2 := Lib.hid (below_drewN HB.out nq)
      have HX2 := Lib.hid (HX.out.drewN nq)
      have HO2 := Lib.hid (own_belS HO.out (below_drewN (Below.refl _ _) nq))
      clear x0 x1 x2 x3 HX HO HB HW
      generalize w1.drewN nq = w2 at *
      have x0 := HX2.out.cell 0
      have x3 := HX2.out.cell 3
      simp only [List.getElem?_toArray, List.getElem?_cons_zero, List.getElem?_cons_succ] at x0 x3
      have CF := Lib.hid (find_any _ n cc R B q.i w2 HN.out HO2.out (by omega))
      cases hf : fnd R q.i with
      | some m =>
        rw [hf] at CF
        have HF := Lib.hid hf
        clear hf
        go_wp2_with fail
        refine CF.out.mono ?_
        rintro e w3 ⟨rfl, hb3⟩
        have HB3 := Lib.hid (below_step HB2.out hb3)
        have X3 := HX2.out.bel hb3
        unfold pcO
        obtain ⟨w4, hw4⟩ : ∃ w4, w4 = w3.alloc (.cells #[.int .i64 (m.i : Int), .int .i64 (m.t : Int), .int .u32 (m.c : Int), .string m.d] 33) := ⟨_, rfl⟩
        have Y4 : Bk w4 w3.heap.size 33 #[.int .i64 (m.i : Int), .int .i64 (m.t : Int), .int .u32 (m.c : Int), .string m.d] := by rw [hw4]; exact Bk.new w3 _ _
        have X4 : Bk w4 w.heap.size 33 #[.int .i64 (q.i : Int), .int .i64 (q.t : Int), .int .u32 (q.c : Int), .string q.d] := by rw [hw4]; exact X3.alloc _
        have HB4 := Lib.hid (show Below w.heap.size w w4 by rw [hw4]; exact HB3.out.alloc HB3.out.size _)
        have y3 := Y4.cell 3
        have z3 := X4.cell 3
        simp only [List.getElem?_toArray, List.getElem?_cons_zero, List.getElem?_cons_succ] at y3 z3
        have HW4 := Lib.hid hw4
        clear hw4 Y4 X4 X3 hb3 x0 x3
        go_upto_region 6 with fail
        rw [← HW4.out]
        by_cases hd : m.d = q.d
        · have hd2 : (m.d.toList == q.d.toList) = true := by rw [hd]; simp
          have HD := Lib.hid hd
          clear hd
          go_wp2_with fail
          go_ret3
          exact ⟨HB4.out, .inl ⟨7, rfl, .inr ⟨rfl, HAL.out, m, HF.out, HD.out⟩⟩⟩
        · have hd2 : (m.d.toList == q.d.toList) = false := by rw [beq_eq_false_iff_ne]; exact fun h => hd (by rw [ByteArray.toList_eq, ByteArray.toList_eq] at h; exact ByteArray.ext (Array.toList_inj.1 h))
          have HD := Lib.hid hd
          clear hd
          go_wp2_with fail
          go_ret3
          exact ⟨HB4.out, .inl ⟨4, rfl, .inl ⟨rfl, .inr ⟨HAL.out, m, HF.out, HD.out⟩⟩⟩⟩
      | none =>
        rw [hf] at CF
        have HF := Lib.hid hf
        clear hf
        go_wp2_with fail
        refine CF.out.mono ?_
        rintro e w3 ⟨rfl, hb3⟩
        have HB3 := Lib.hid (below_step HB2.out hb3)
        unfold pcO
        obtain ⟨w4, hw4⟩ : ∃ w4, w4 = w3.alloc (.cells #[.int .i64 0, .int .i64 0, .int .u32 0, .string ⟨#[]⟩] 33) := ⟨_, rfl⟩
        have HB4 := Lib.hid (show Below w.heap.size w w4 by rw [hw4]; exact HB3.out.alloc HB3.out.size _)
        have X4 := Lib.hid (show Bk w4 w.heap.size 33 #[.int .i64 (q.i : Int), .int .i64 (q.t : Int), .int .u32 (q.c : Int), .string q.d] by rw [hw4]; exact (HX2.out.bel hb3).alloc _)
        have O4 := Lib.hid (show w4.ownsRow B 33 4 (.slice A n cc) n (rpV R) by rw [hw4]; exact (own_belS HO2.out hb3).alloc _)
        have HW4 := Lib.hid hw4
        clear hw4 hb3 x0 x3
        go_upto_region 10 with fail
        rw [← HW4.out]
        have hw4 : w.heap.size < w4.heap.size := X4.out.lt
        have G0 := Lib.hid (show Below w4.heap.size w4 w4.drew from (Below.refl _ _).drew)
        go_wp2_with fail
        refine wp_region_list [some 77, some 78, some 79, some 80, some 81, some 82, some 9] (fun _ => 0) (rtF w4 B n (n + 1) cc A R q) (fun w1 => Below w4.heap.size w4 w1) (by kernel_rfl) G0.out rfl (by kernel_rfl) (by kernel_rfl) (by kernel_rfl) (by kernel_rfl) (fun T hT => ?_)
        simp only [List.filterMap_cons, List.filterMap_nil, id, putsS, Act.put, List.setIfInBounds_toArray, List.set_cons_zero, List.set_cons_succ] at hT
        subst hT
        refine ⟨⟨?_, ?_, ?_, ?_, ?_, ?_, ?_, trivial⟩, ?_⟩
        · -- 0: Op.buildSlice 26 0 #[]
          refine StepL.act ?_
          intro f w1 hG hF K hK
          clear hF
          dsimp only at hK ⊢
          go_simp
          exact hK.out _ _ (hG.alloc hG.size _) ⟨w1.heap.size, hG.size, rfl, World.ownsRow_lit w1 #[] 0 hG.size (by decide) rfl⟩ (fun j _ u u' h => rtF_bel ((Below.refl _ _).alloc (Nat.le_refl _) _) j u u' h)
        · -- 1: Op.move t0
          refine StepL.act ?_
          intro f w1 hG hF K hK
          clear hF
          dsimp only at hK ⊢
          go_simp
          exact hK.out _ _ hG rfl (fun _ _ _ _ h => h)
        · -- 2: Op.call ( builtin append, args := #[t77, t78], argTypes := #[26, 26] )
          refine StepL.act ?_
          intro f w1 hG hF K hK
          have d0 : (rtF w4 B n (n + 1) cc A R q) 0 (f 77) (f 0) w1 := hF 0 (by kernel_rfl)
          have d1 : (rtF w4 B n (n + 1) cc A R q) 1 (f 78) (f 0) w1 := hF 1 (by kernel_rfl)
          clear hF
          dsimp only at hK ⊢
          generalize f 77 = v77 at *
          generalize f 78 = v78 at *
          have d1 : v78 = .slice A n cc := d1
          subst d1
          obtain ⟨g0, hg0, rfl, ho0⟩ := d0
          by_cases hz : n = 0
          · have hR : R = [] := List.eq_nil_of_length_eq_zero (by rw [← HN.out, hz])
            have hrun := run_append_none (P := Tryd.prog) w1 w4.heap.size 26 26 33 i0 Tryd.underlying26 hi0 (.slice (some ⟨g0, 0, none⟩) 0 0) 0 4 [] ho0 A cc
            refine Lib.wp_append_run w1 _ _ _ _ rfl _ _ rfl (show _ = Value.slice A 0 cc by rw [← hz]; rfl) _ w1 hrun (hK.out _ _ hG ⟨g0, 0, by rw [hz]; rfl, by rw [hz, hR]; exact ho0⟩ (fun _ _ _ _ h => h))
          · have hpos : 0 < n := by omega
            have hoA := own_belS O4.out hG
            obtain ⟨gA, cA, hvA, _, hltA⟩ := hoA.form hpos
            have hcA := hoA.cells (g := gA) (by rw [hvA]; rfl)
            injection hvA with hvA
            have hl4 : (rpV R).length = n * 4 := by rw [rpV_length, HN.out]
            obtain ⟨v', w2', hrun, hown, _, _, hbb, hor⟩ := run_append_two (P := Tryd.prog) w1 w4.heap.size 26 26 33 i0 _ 4 40 Tryd.underlying26 hi0 hz0 hz1 hzb rfl g0 0 0 [] ho0 ⟨gA, 0, none⟩ n cc (rpV R) hl4 hcA (rpV_one R) hpos (by simp only [maxLen]; omega) (by omega) hG.size
            have hb2 : Below w1.heap.size w1 w2' := by
              rcases hor with h | ⟨h, _⟩
              · exact h
              · omega
            rw [Nat.zero_add, List.nil_append] at hown
            obtain ⟨g2, c2, rfl, _, _⟩ := hown.form hpos
            exact Lib.wp_append_run w1 _ _ _ _ rfl _ _ rfl (by rw [← hvA]; rfl) _ w2' hrun (hK.out _ _ (hG.trans hbb) ⟨g2, c2, rfl, hown⟩ (fun j _ u u' h => rtF_bel hb2 j u u' h))
        · -- 3: Op.load 33 t3
          refine StepL.act ?_
          intro f w1 hG hF K hK
          clear hF
          dsimp only at hK ⊢
          have X1 := X4.out.bel hG
          have z0 := X1.cell 0
          have z1 := X1.cell 1
          have z2 := X1.cell 2
          have z3 := X1.cell 3
          simp only [List.getElem?_toArray, List.getElem?_cons_zero, List.getElem?_cons_succ] at z0 z1 z2 z3
          go_simp
          exact hK.out _ _ hG rfl (fun _ _ _ _ h => h)
        · -- 4: Op.buildSlice 26 1 #[(0, t80)]
          refine StepL.act ?_
          intro f w1 hG hF K hK
          have d3 : (rtF w4 B n (n + 1) cc A R q) 3 (f 80) (f 0) w1 := hF 3 (by kernel_rfl)
          clear hF
          dsimp only at hK ⊢
          generalize f 80 = v80 at *
          have d3 : v80 = .agg #[.int .i64 (q.i : Int), .int .i64 (q.t : Int), .int .u32 (q.c : Int), .string q.d] := d3
          subst d3
          go_simp
          exact hK.out _ _ (hG.alloc hG.size _) ⟨w1.heap.size, rfl, Bk.new w1 _ _⟩ (fun j _ u u' h => rtF_bel ((Below.refl _ _).alloc (Nat.le_refl _) _) j u u' h)
        · -- 5: Op.call ( builtin append, args := #[t79, t81], argTypes := #[26, 26] )
          intro f w1 hG hF K hK
          have d2 : (rtF w4 B n (n + 1) cc A R q) 2 (f 79) (f 0) w1 := hF 2 (by kernel_rfl)
          have d4 : (rtF w4 B n (n + 1) cc A R q) 4 (f 81) (f 0) w1 := hF 4 (by kernel_rfl)
          clear hF
          dsimp only at hK ⊢
          generalize hf79 : f 79 = v79 at *
          generalize hf81 : f 81 = v81 at *
          obtain ⟨g2, c2, rfl, hown2⟩ := d2
          obtain ⟨b, rfl, hbk⟩ := d4
          have hcb : ∀ j u, q.cl[j]? = some u → w1.cell? ((⟨b, 0, none⟩ : Addr).add j) = some u := fun j u hu => by
            rw [show ((⟨b, 0, none⟩ : Addr).add j) = ⟨b, j, none⟩ by unfold Addr.add; split <;> simp_all]
            rw [hbk.cell j]; simpa using hu
          obtain ⟨v', w2', hrun, hown, hold, hkept, hbb, hor⟩ := run_append_two (P := Tryd.prog) w1 w4.heap.size 26 26 33 i0 _ 4 40 Tryd.underlying26 hi0 hz0 hz1 hzb rfl g2 n c2 (rpV R) hown2 ⟨b, 0, none⟩ 1 1 q.cl rfl hcb (cl_one q) (by omega) (by simp only [maxLen]; omega) (by omega) hG.size
          have hown9 : w2'.ownsRow w4.heap.size 33 4 v' (n + 1) (rpV (R ++ [q])) := by rw [rpV_append]; show w2'.ownsRow _ _ _ _ _ (rpV R ++ (q.cl ++ [])); rw [List.append_nil]; exact hown
          have HK := hK.out v' w2' (hG.trans hbb) hown9
          refine Lib.wp_append_run w1 _ _ _ _ rfl _ _ rfl rfl _ w2' hrun (HK ?_)
          intro j hj hdep h
          rcases hor with hb2 | ⟨hroom, cur, hcur, hcs, hnew⟩
          · exact rtF_bel hb2 j _ _ h
          · by_cases h6 : j = 6
            · subst h6
              exact absurd hdep (by rw [show depS _ 6 5 = true by kernel_rfl]; decide)
            · refine rtF_two hkept hroom hcur hcs hnew (fun xs hx => ?_) j hj h6 _ _ h
              obtain ⟨ho1, ho2⟩ := hx
              refine ⟨ho1, ?_⟩
              rcases ho2 with ⟨hv, _⟩ | ⟨g', cap, cur', hv, hb', hgg, hnc, hcm, hs, htk⟩
              · cases hv
              · injection hv with e1 _ e3
                injection e1 with e1
                injection e1 with e1
                subst e1
                subst e3
                rw [hcur] at hgg
                injection hgg with hgg
                injection hgg with hgg
                subst hgg
                refine .inr ⟨g2, c2, _, rfl, hb', hnew, hnc, hcm, ?_, ?_⟩
                · simp only [List.size_toArray, List.length_append, List.length_take, List.length_drop, Array.length_toList, PcM.cl, List.length_cons, List.length_nil]; omega
                · rw [htk]
                  show (xs ++ q.cl ++ _).take (n * 4) = xs
                  rw [List.append_assoc, ← ho1]
                  exact List.take_left
        · -- 6: Op.assign t82
          refine StepL.act ?_
          intro f w1 hG hF K hK
          have d5 : (rtF w4 B n (n + 1) cc A R q) 5 (f 82) (f 0) w1 := hF 5 (by kernel_rfl)
          clear hF
          dsimp only at hK ⊢
          generalize f 82 = v82 at *
          obtain ⟨A6, c6, rfl, _⟩ := own_shape4 d5
          go_simp
          exact hK.out _ _ hG d5 (fun _ _ _ _ h => h)
        intro f w5 hG hF
        have f6 : w5.ownsRow w4.heap.size 33 4 (f 9) (n + 1) (rpV (R ++ [q])) := hF 6 (by decide)
        have HG := Lib.hid hG
        clear hF hG
        dsimp only
        generalize f 77 = v77
        generalize f 78 = v78
        generalize f 79 = v79
        generalize f 80 = v80
        generalize f 81 = v81
        generalize f 82 = v82
        generalize f 9 = v9 at *
        obtain ⟨A5, c5, rfl, hc5⟩ := own_shape4 f6
        have HO5 := Lib.hid (own_low f6 (Nat.le_of_lt hw4))
        have X5 := X4.out.bel HG.out
        have x1 := X5.cell 1
        simp only [List.getElem?_toArray, List.getElem?_cons_zero, List.getElem?_cons_succ] at x1
        have HB5 := Lib.hid (below_step HB4.out HG.out)
        obtain ⟨M, hM⟩ : ∃ M, M = n + 1 := ⟨_, rfl⟩
        rw [← hM] at HO5 hc5 ⊢
        have HM := Lib.hid hM
        clear f6 X5 hM
        by_cases hw : M = q.t
        · have hwI : ((M : Int) == (q.t : Int)) = true := by rw [hw]; simp
          have hdd : decide (M = q.t) = true := decide_eq_true hw
          have HDD := Lib.hid hdd
          clear hw hdd
          go_wp2_with fail
          go_quiet (fail)
          have HB6 := Lib.hid (below_drewN HB5.out nq)
          have HO6 := Lib.hid (own_belS HO5.out (below_drewN (Below.refl _ _) nq))
          go_wp2_with fail
          go_ret3
          exact ⟨HB6.out, .inr ⟨HF.out, HAL.out, A5, c5, by rw [← HM.out, HDD.out]; rfl, by rw [← HM.out]; exact HO6.out⟩⟩
        · have hwI : ((M : Int) == (q.t : Int)) = false := by rw [beq_eq_false_iff_ne]; omega
          have hdd : decide (M = q.t) = false := decide_eq_false hw
          have HDD := Lib.hid hdd
          clear hw hdd
          go_wp2_with fail
          go_quiet (fail)
          have HB6 := Lib.hid (below_drewN HB5.out nq)
          have HO6 := Lib.hid (own_belS HO5.out (below_drewN (Below.refl _ _) nq))
          go_wp2_with fail
          go_ret3
          exact ⟨HB6.out, .inr ⟨HF.out, HAL.out, A5, c5, by rw [← HM.out, HDD.out]; rfl, by rw [← HM.out]; exact HO6.out⟩⟩
end Go.Proofs.YthjbkgappjpanaaDoor
