/- told, Same and few of layer 22's statements. Condition: what is handed in lies in memory. -/
import Derived.Test.YtnbhgjionpidnaaDoorSFeed
import Derived.Laws.StructEq
namespace Go.Proofs.YtnbhgjionpidnaaDoor
open Go.RowKit

theorem itsL_cons (i : ItM) (l : List ItM) : itsL (i :: l) = .int .i64 (i.kind : Nat) :: .string i.text :: .int .i64 (i.code : Nat) :: itsL l := rfl
theorem itsL_length : ∀ l : List ItM, (itsL l).length = l.length * 3
  | [] => rfl
  | i :: l => by rw [itsL_cons]; simp only [List.length_cons]; rw [itsL_length l]; omega
theorem itsL_at : ∀ (l : List ItM) (k : Nat) (hk : k < l.length), (itsL l)[k * 3]? = some (.int .i64 (l[k].kind : Nat)) ∧ (itsL l)[k * 3 + 1]? = some (.string l[k].text) ∧ (itsL l)[k * 3 + 2]? = some (.int .i64 (l[k].code : Nat))
  | i :: l, 0, _ => ⟨rfl, rfl, rfl⟩
  | i :: l, k + 1, hk => by
    have := itsL_at l k (by simpa using hk)
    rw [itsL_cons, show (k + 1) * 3 = k * 3 + 3 by omega]
    simpa using this
theorem itsL_take : ∀ (l : List ItM) (k : Nat), (itsL l).take (k * 3) = itsL (l.take k)
  | [], k => by simp [itsL]
  | i :: l, 0 => by simp [itsL]
  | i :: l, k + 1 => by
    rw [show (k + 1) * 3 = k * 3 + 1 + 1 + 1 by omega, itsL_cons]
    simp only [List.take_succ_cons]
    rw [itsL_take l k, itsL_cons]
theorem its_at {w : World} {A : Option Addr} {l : List ItM} (h : Seg w A (itsL l)) {k : Nat} (hk : k < l.length) : ∃ b off, A = some ⟨b, off, none⟩ ∧ b < w.heap.size ∧ w.cell? ⟨b, off + k * 3, none⟩ = some (.int .i64 (l[k].kind : Nat)) ∧ w.cell? ⟨b, off + k * 3 + 1, none⟩ = some (.string l[k].text) ∧ w.cell? ⟨b, off + k * 3 + 2, none⟩ = some (.int .i64 (l[k].code : Nat)) := by
  obtain ⟨b, off, e, hb, hc⟩ := h (by intro e; have := congrArg List.length e; rw [itsL_length] at this; simp only [List.length_nil] at this; omega)
  have hl := itsL_length l
  obtain ⟨h0, h1, h2⟩ := itsL_at l k hk
  refine ⟨b, off, e, hb, ?_, ?_, ?_⟩
  · rw [hc (k * 3) (by omega), h0]
  · rw [Nat.add_assoc, hc (k * 3 + 1) (by omega), h1]
  · rw [Nat.add_assoc, hc (k * 3 + 2) (by omega), h2]
theorem its_take {w : World} {A : Option Addr} {l : List ItM} (h : Seg w A (itsL l)) (k : Nat) : Seg w A (itsL (l.take k)) := by
  rw [← itsL_take]
  exact h.take (k * 3)
/-- A row of one's own lies in memory. -/
theorem own_seg {w : World} {B n size : Nat} {e : TypeId} {v : Value} {xs : List Value} (h : w.ownsRow B e size v n xs) : ∃ A c, v = .slice A n c ∧ n ≤ c ∧ Seg w A xs ∧ ∀ a, A = some a → B ≤ a.block ∧ a.block < w.heap.size := by
  rcases h.2 with ⟨rfl, rfl⟩ | ⟨g, cap, cur, rfl, hb, hg, hnc, hcm, hcs, htake⟩
  · refine ⟨none, 0, rfl, Nat.le_refl _, ?_, fun a e => by cases e⟩
    have : xs = [] := List.eq_nil_of_length_eq_zero (by rw [h.1, Nat.zero_mul])
    subst this
    exact Seg.nil _ _
  · have hlt : g < w.heap.size := by
      rcases Nat.lt_or_ge g w.heap.size with h | h
      · exact h
      · rw [Array.getElem?_eq_none h] at hg; cases hg
    refine ⟨_, _, rfl, hnc, fun _ => ⟨g, 0, rfl, hlt, fun i hi => ?_⟩, fun a e => by injection e with e; subst e; exact ⟨hb, hlt⟩⟩
    have hx := h.cells (g := g) rfl i
    have : xs[i]? = some xs[i] := List.getElem?_eq_getElem hi
    have h2 := hx _ this
    rw [addr_add] at h2
    rw [Nat.zero_add, h2, this]
theorem info_ritem : (Tryd.prog.info? 46).map (fun i => (i.zero, i.size, i.bytes)) = some (some (.agg #[.int .i64 0, .string ⟨#[]⟩, .int .i64 0]), 3, 32) := by kernel_rfl
set_option maxRecDepth 100000 in
set_option maxHeartbeats 1000000 in
theorem told_any (l : List ItM) (A : Option Addr) (n c : Nat) (hn : n = l.length) (hz : n ≤ 100000) (w : World) (hA : Seg w A (itsL l)) :
    Calls Tryd.prog 18 #[.slice A n c] w fun e w' => ∃ v, e = .returned v ∧ w'.ownsRow w.heap.size 46 3 v n (itsL l) ∧ Below w.heap.size w w' := by
  obtain ⟨j0, hj0, hz0, hz1, hz2⟩ := info_parts info_ritem
  have HN := Lib.hid hn
  have HA := Lib.hid hA
  obtain ⟨w0, hw0⟩ : ∃ x, x = w.alloc (.cells #[] 46) := ⟨_, rfl⟩
  have HB0 := Lib.hid (show Below w.heap.size w w0 by rw [hw0]; exact (Below.refl _ _).alloc (Nat.le_refl _) _)
  have HO0 := Lib.hid (show w0.ownsRow w.heap.size 46 3 (.slice (some ⟨w.heap.size, 0, none⟩) 0 0) 0 (itsL (l.take 0)) by
    rw [hw0]
    exact World.ownsRow_lit (size := 3) w #[] 0 (Nat.le_refl _) (by decide) rfl)
  have HW0 := Lib.hid hw0
  clear hn hA hw0
  go_enter Tryd.func18, Tryd.ntmps18
  go_upto_region 2 with fail
  rw [← HW0.out]
  go_wp2_with fail
  go_loopw [3, 5, 9] (fun s3 s5 i wr => ∃ k : Nat, k ≤ n ∧ i = .int .i64 k ∧ Hid (wr.ownsRow w.heap.size 46 3 s3 k (itsL (l.take k))) ∧ Hid (Below w.heap.size w wr)) (fun _ _ i _ => n - (intOf i).toNat)
  case atStart => exact ⟨0, Nat.zero_le _, rfl, HO0, HB0⟩
  case round =>
    clear HO0 HB0 HW0
    obtain ⟨k, hk, rfl, HO, HB⟩ := hrel
    by_cases hlt : k < n
    · have hkl : k < l.length := by have := HN.out; omega
      obtain ⟨b, off, hAe, hbl, c0, c1, c2⟩ := its_at (HA.out.bel HB.out) hkl
      subst hAe
      have i1 : (0 : Int) ≤ (k : Int) := by omega
      have i2 : (k : Int) < (n : Int) := by omega
      obtain ⟨ik, hik⟩ : ∃ x, x = l[k].kind := ⟨_, rfl⟩
      obtain ⟨it, hit⟩ : ∃ x, x = l[k].text := ⟨_, rfl⟩
      obtain ⟨ic, hic⟩ : ∃ x, x = l[k].code := ⟨_, rfl⟩
      rw [← hik] at c0
      rw [← hit] at c1
      rw [← hic] at c2
      obtain ⟨w1, hw1⟩ : ∃ x, x = wr.alloc (.cells #[.int .i64 (ik : Nat), .string it, .int .i64 (ic : Nat)] 56) := ⟨_, rfl⟩
      have hX : Bk w1 wr.heap.size 56 #[.int .i64 (ik : Nat), .string it, .int .i64 (ic : Nat)] := by rw [hw1]; exact Bk.new wr _ _
      have hb1 : Below wr.heap.size wr w1 := by
        rw [hw1]
        exact (Below.refl _ _).alloc (Nat.le_refl _) _
      obtain ⟨g, hg⟩ : ∃ x, x = wr.heap.size := ⟨_, rfl⟩
      rw [← hg] at hX
      have x0 : w1.cell? ⟨g, 0, none⟩ = some (.int .i64 (ik : Nat)) := hX.cell 0
      have x1 : w1.cell? ⟨g, 1, none⟩ = some (.string it) := hX.cell 1
      have x2 : w1.cell? ⟨g, 2, none⟩ = some (.int .i64 (ic : Nat)) := hX.cell 2
      obtain ⟨w2, hw2⟩ : ∃ x, x = w1.alloc (.cells #[.int .i64 (ik : Nat), .string it, .int .i64 (ic : Nat)] 46) := ⟨_, rfl⟩
      have hb2 : Below wr.heap.size wr w2 := by rw [hw2]; exact hb1.alloc hb1.size _
      obtain ⟨q, hq⟩ : ∃ x, x = w1.heap.size := ⟨_, rfl⟩
      have HNW := Lib.hid (show ∀ j u, ([.int .i64 (ik : Nat), .string it, .int .i64 (ic : Nat)] : List Value)[j]? = some u → w2.cell? ((⟨q, 0, none⟩ : Addr).add j) = some u by
        rw [hw2, hq]
        exact World.news_of_block (cs := #[.int .i64 (ik : Nat), .string it, .int .i64 (ic : Nat)]) (t := 46) (fr := (0, 0)) (Bk.new w1 _ _))
      have HOW := Lib.hid (own_belS HO.out hb2)
      have HBW := Lib.hid (HB.out.trans (hb2.mono HB.out.size))
      have HIT := Lib.hid (show itsL (l.take (k + 1)) = itsL (l.take k) ++ [.int .i64 (ik : Nat), .string it, .int .i64 (ic : Nat)] by
        rw [List.take_succ_eq_append_getElem hkl, itsL_one, ← hik, ← hit, ← hic])
      have HG := Lib.hid hg
      have HQ := Lib.hid hq
      have HW1 := Lib.hid hw1
      have HW2 := Lib.hid hw2
      have k1 : k + 1 ≤ 100000 := by omega
      clear hik hit hic hw1 hX hb1 hg hw2 hb2 hq HO HB
      go_upto_region 5 with fail
      rw [← HG.out, ← HW1.out]
      clear c0 c1 c2
      go_wp2_with (at_builtin; rw [← HW2.out, ← HQ.out]; refine wpList_append_lies _ rfl _ _ _ rfl w.heap.size 46 j0 _ 3 32 Tryd.underlying40 hj0 hz0 hz1 hz2 rfl (by omega) _ k (itsL (l.take k)) rfl HOW.out ⟨q, 0, none⟩ 1 1 [.int .i64 (ik : Nat), .string it, .int .i64 (ic : Nat)] rfl rfl HNW.out (it_one _ _ _) (by omega) (by unfold maxLen; omega) (by omega) HBW.out.size _ rfl ?_; intro g cap w5 hown hgrow hat hlt3; have HO5 := Lib.hid hown; have HB5 := Lib.hid (HBW.out.grown hgrow HBW.out.size (fun b hb => (HOW.out.lt b hb).1)); clear hown hgrow hat hlt3)
      go_roundw
      case rel => exact ⟨k + 1, by omega, rfl, Lib.hid (by rw [HIT.out]; exact HO5.out), HB5⟩
      case measure => simp [intOf]; omega
    · obtain rfl : k = n := by omega
      have HO2 := Lib.hid (show wr.ownsRow w.heap.size 46 3 u3 k (itsL l) by
        have := HO.out
        rw [List.take_of_length_le (by have := HN.out; omega)] at this
        exact this)
      have i1 : ¬ (k : Int) < (k : Int) := by omega
      clear HO
      go_wp2_with fail
      go_ret
      exact ⟨_, rfl, HO2.out, HB.out⟩
theorem item_fields : (Tryd.prog.fieldsOf 46).toList.map (fun f => (f.name, f.type, f.offset)) = [("Kind", 3, 0), ("Text", 9, 1), ("Code", 3, 2)] := by kernel_rfl
theorem item_eq (a b : Int) (d : ByteArray) (w : World) : (Op.equalIn 10000 46 (.agg #[.int .i64 a, .string d, .int .i64 b]) (.agg #[.int .i64 a, .string d, .int .i64 b])).run Tryd.prog w = .ok true w := by
  rw [show (10000 : Nat) = 9998 + 1 + 1 from rfl, run_equalIn_struct w (9998 + 1) 46 _ _ (by kernel_rfl) (by kernel_rfl)]
  have hm := item_fields
  generalize (Tryd.prog.fieldsOf 46).toList = fs at hm
  rcases fs with _ | ⟨f0, _ | ⟨f1, _ | ⟨f2, _ | ⟨f3, fs⟩⟩⟩⟩ <;> simp only [List.map_nil, List.map_cons, List.cons.injEq, reduceCtorEq, and_false, and_true, Prod.mk.injEq] at hm
  obtain ⟨⟨n0, t0, o0⟩, ⟨n1, t1, o1⟩, n2, t2, o2⟩ := hm
  have u3 := Tryd.underlying3
  have u9 := Tryd.underlying9
  have a3 := Tryd.isAgg3
  have a9 := Tryd.isAgg9
  have z3 := Tryd.sizeOf3
  have z9 := Tryd.sizeOf9
  simp only [Op.eqFields, n0, t0, o0, n1, t1, o1, n2, t2, o2]
  go_simp
set_option maxRecDepth 100000 in
theorem isame_any (l : List ItM) (A B : Option Addr) (n c d : Nat) (hn : n = l.length) (hz : n ≤ 100000) (w : World) (hA : Seg w A (itsL l)) (hB : Seg w B (itsL l)) :
    Calls Tryd.prog 21 #[.slice A n c, .slice B n d] w fun e w' => e = .returned (.bool true) ∧ Below w.heap.size w w' := by
  have HN := Lib.hid hn
  have HA := Lib.hid hA
  have HB := Lib.hid hB
  have hne : ((n : Int) != (n : Int)) = false := by simp
  clear hA hB hn
  go_enter Tryd.func21, Tryd.ntmps21
  go_wp2_with fail
  go_loopw [5, 13] (fun _ i wr => ∃ k : Nat, k ≤ n ∧ i = .int .i64 k ∧ Hid (Below w.heap.size w wr)) (fun _ i _ => n - (intOf i).toNat)
  case atStart => exact ⟨0, by omega, rfl, Lib.hid (Below.refl _ _)⟩
  case round =>
    obtain ⟨k, hk, rfl, HW⟩ := hrel
    by_cases hlt : k < n
    · have hkl : k < l.length := by have := HN.out; omega
      obtain ⟨b, off, rfl, hbl, c1, c2, c3⟩ := its_at (HA.out.bel HW.out) hkl
      obtain ⟨b', off', rfl, hbl', c4, c5, c6⟩ := its_at (HB.out.bel HW.out) hkl
      have i1 : (0 : Int) ≤ (k : Int) := by omega
      have i2 : (k : Int) < (n : Int) := by omega
      generalize l[k].kind = Z at *
      generalize l[k].text = T at *
      generalize l[k].code = Y at *
      have hpe : ∀ w : World, (binOp .neq 46 (.agg #[.int .i64 (Z : Nat), .string T, .int .i64 (Y : Nat)]) (.agg #[.int .i64 (Z : Nat), .string T, .int .i64 (Y : Nat)])).run Tryd.prog w = .ok (.bool false) w := fun w => by
        rw [run_neq_struct, item_eq]
        simp
      have hgd : Tryd.prog.eqGuardType Tryd.prog.depth 46 = false := by kernel_rfl
      go_wp2_with fail
      go_quiet (fail)
      go_wp2_with fail
      go_roundw
      case rel => exact ⟨k + 1, by omega, by go_num, Lib.hid (below_drewN HW.out _)⟩
      case measure => simp [intOf]; omega
    · have i1 : ¬ (k : Int) < (n : Int) := by omega
      go_wp2_with fail
      go_ret
      exact ⟨rfl, HW.out⟩
set_option maxRecDepth 100000 in
theorem few_any (l : List Nat) (A : Option Addr) (n c : Nat) (hn : n = l.length) (hc : n ≤ c) (hz : n ≤ 140737488355328) (w : World) (hA : Seg w A (u8s l)) :
    Calls Tryd.prog 17 #[.slice A n c] w fun e w' => ∃ v, e = .returned v ∧ w'.ownsRow w.heap.size 5 1 v (l.take 6000).length (u8s (l.take 6000)) ∧ Below w.heap.size w w' := by
  obtain ⟨i0, hi0, hz0, hz1, hz2⟩ := info_parts info5
  have hb1 : Below w.heap.size w (w.alloc (.cells #[] 5)) := (Below.refl _ _).alloc (Nat.le_refl _) _
  have HO1 := Lib.hid (World.ownsRow_lit (size := 1) w #[] 0 (e := 5) (base := w.heap.size) (Nat.le_refl _) (by decide) rfl)
  have HB1 := Lib.hid hb1
  by_cases h6 : 6000 < n
  · have HS := Lib.hid (show Seg w A (u8s (l.take 6000)) by
      have := hA.take 6000
      rwa [show (u8s l).take 6000 = u8s (l.take 6000) by simp [u8s, List.map_take]] at this)
    obtain ⟨b, off, hA2⟩ : ∃ b off, A = some ⟨b, off, none⟩ := by
      obtain ⟨b, off, e, _⟩ := hA.pick (k := 0) (by rw [u8s_length]; omega)
      exact ⟨b, off, e⟩
    subst hA2
    have HL := Lib.hid (show (l.take 6000).length = 6000 by rw [List.length_take]; omega)
    have i1 : decide ((6000 : Int) < (n : Int)) = true := by simp; omega
    have i2 : (6000 : Int) < (n : Int) := by omega
    have i3 : 6000 ≤ c := by omega
    have i4 : ¬ c = 0 := by omega
    obtain ⟨T, hT⟩ : ∃ T, T = l.take 6000 := ⟨_, rfl⟩
    rw [← hT] at HS HL ⊢
    clear hA hb1 hn hT
    go_enter Tryd.func17, Tryd.ntmps17
    go_wp2_with (at_builtin; refine wpList_append_seg _ rfl _ _ _ rfl w.heap.size 5 i0 _ 1 Tryd.underlying25 hi0 hz0 hz1 hz2 rfl _ 0 _ rfl HO1.out _ 6000 _ (u8s T) rfl (by rw [u8s_length, HL.out]) (HS.out.bel HB1.out) (u8s_one _) (by unfold maxLen; omega) (by omega) (by simp) ?_; intro v' w' hown' hb'; have HO := Lib.hid hown'; have HB := Lib.hid (HB1.out.trans hb'); clear hown' hb')
    go_ret
    refine ⟨_, rfl, ?_, HB.out⟩
    rw [HL.out]
    have := HO.out
    rwa [Nat.zero_add, List.nil_append] at this
  · have i1 : decide ((6000 : Int) < (n : Int)) = false := by simp; omega
    have i2 : ¬ (6000 : Int) < (n : Int) := by omega
    rw [List.take_of_length_le (show l.length ≤ 6000 by omega)]
    rw [← hn]
    have HN := Lib.hid hn
    have HS := Lib.hid hA
    clear hA hb1 hn
    go_enter Tryd.func17, Tryd.ntmps17
    go_wp2_with (at_builtin; refine wpList_append_seg _ rfl _ _ _ rfl w.heap.size 5 i0 _ 1 Tryd.underlying25 hi0 hz0 hz1 hz2 rfl _ 0 _ rfl HO1.out A n c (u8s l) rfl (by rw [u8s_length, HN.out]) (HS.out.bel HB1.out) (u8s_one _) (by unfold maxLen; omega) (by omega) (by simp) ?_; intro v' w' hown' hb'; have HO := Lib.hid hown'; have HB := Lib.hid (HB1.out.trans hb'); clear hown' hb')
    go_ret
    refine ⟨_, rfl, ?_, HB.out⟩
    have := HO.out
    rwa [Nat.zero_add, List.nil_append] at this
end Go.Proofs.YtnbhgjionpidnaaDoor
