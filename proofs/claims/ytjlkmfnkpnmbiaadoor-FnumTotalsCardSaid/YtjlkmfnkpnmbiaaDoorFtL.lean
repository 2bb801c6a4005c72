/- FnumTotals' walk. Condition: the words lie in memory. -/
import Derived.Test.YtjlkmfnkpnmbiaaDoorFtT
import Derived.Test.YtjlkmfnkpnmbiaaDoorStableG
import Derived.Deep.Cut
namespace Go.Proofs.YtjlkmfnkpnmbiaaDoor
open Go.RowKit

def fF (c : List Value) (KB KR : Nat) (i : Nat) (v _u : Value) (_w : World) : Prop :=
  if i = 3 ∨ i = 14 then ∃ b, v = .float .f64 b ∧ b < 18446744073709551616 ∧ bitsN b = KB
  else if i = 26 then ∃ b, v = .float .f64 b ∧ b < 18446744073709551616 ∧ bitsN b = KR
  else match c[i]? with
  | some x => v = x
  | none => True
set_option maxRecDepth 100000 in
set_option maxHeartbeats 8000000 in
theorem totals_any (A : Option Addr) (n c : Nat) (l : List Nat) (hn : n = l.length) (x y : Int) (w : World) (hA : Seg w A (u64s l)) (hl : ∀ x ∈ l, x < 18446744073709551616) (hreach : n ≤ 1000000000000000) (hnc : n ≤ c) :
    Calls Tryd.prog 7 #[.slice A n c, .int .i64 x, .int .i64 y] w fun e w' => e = .returned (.bool true) ∧ Below w.heap.size w w' := by
  obtain ⟨i0, hi0, hz0, hz1, hz2⟩ := info_parts info25
  have hlt : ∀ x ∈ l.take 60, x < 18446744073709551616 := fun x hx => hl x (List.mem_of_mem_take hx)
  have h60 : (l.take 60).length ≤ 60 := by rw [List.length_take]; omega
  have hle : (l.take 60).length ≤ n := by rw [List.length_take, hn]; omega
  have HF := Lib.hid (floats_any A n c l hn w hA hreach)
  have hAt : Seg w A (u64s (l.take (l.take 60).length)) := by rw [← u64s_take]; exact hA.take _
  have htt : l.take (l.take 60).length = l.take 60 := by rw [List.length_take]; by_cases h : 60 ≤ l.length; (rw [Nat.min_eq_left h]); (rw [Nat.min_eq_right (by omega), List.take_length, List.take_of_length_le (by omega)])
  rw [htt] at hAt
  generalize l.take 60 = t at *
  obtain ⟨m, hm⟩ : ∃ m, m = t.length := ⟨_, rfl⟩
  rw [← hm] at h60 hle HF
  have HM := Lib.hid hm
  have HAT := Lib.hid hAt
  have HT := Lib.hid hlt
  have hmc : m ≤ c := by omega
  have hfl := run_floatbits
  clear hlt hAt hA hl hn hm htt
  go_enter Tryd.func7, Tryd.ntmps7
  go_wp2_with fail
  refine HF.out.mono ?_
  rintro e w1 ⟨A1, c1, rfl, hc1, s1, b1⟩
  have S1 := Lib.hid s1
  have B1 := Lib.hid b1
  have HA1 := Lib.hid (HAT.out.bel b1)
  clear s1 b1 HF HAT
  have hzz : IntKind.i64.wrap ((m : Int) - 1) = (m : Int) - 1 := by rw [IntKind.wrap_i64]; omega
  go_wp2
  go_loopw [8, 9] (fun bv iv wr => ∃ (j : Nat) (z : Int), j ≤ m ∧ Hid (z = (j : Int) - 1) ∧ iv = .int .i64 z ∧ wr.ownsRow w1.heap.size 25 1 bv (m - j) (f64s (t.drop j).reverse) ∧ Below w1.heap.size w1 wr) (fun _ iv _ => (intOf iv + 1).toNat)
  case atStart =>
    refine ⟨m, (m : Int) - 1, Nat.le_refl _, Lib.hid rfl, rfl, ?_, (Below.refl _ _).alloc (Nat.le_refl _) _⟩
    rw [Nat.sub_self, List.drop_eq_nil_of_le (by rw [← HM.out]; exact Nat.le_refl _)]
    exact World.ownsRow_lit (w := w1) (base := w1.heap.size) (e := 25) (size := 1) #[] 0 (Nat.le_refl _) (by decide) rfl
  case round =>
    obtain ⟨j, z, hj, HZ, rfl, ho, hbr⟩ := hrel
    have HO := Lib.hid ho
    have HBR := Lib.hid hbr
    cases j with
    | succ q =>
      obtain rfl : z = (q : Int) := by have := HZ.out; omega
      have hqt : q < t.length := by rw [← HM.out]; omega
      obtain ⟨p, o, rfl, hpl, _, hc⟩ := (S1.out.bel hbr).pick (k := q) (by rw [f64s_length]; exact hqt)
      rw [f64s_get t q hqt] at hc
      have hdr : f64s (t.drop q).reverse = f64s (t.drop (q + 1)).reverse ++ [.float .f64 t[q]] := by rw [List.drop_eq_getElem_cons hqt, List.reverse_cons]; simp [f64s]
      generalize t[q] = X at *
      have HDR := Lib.hid hdr
      have hws := hbr.size
      have i1 : (0 : Int) ≤ (q : Int) := by omega
      have i2 : (q : Int) < (m : Int) := by omega
      have i3 : IntKind.i64.wrap ((q : Int) - 1) = (q : Int) - 1 := by rw [IntKind.wrap_i64]; omega
      clear hdr ho hbr
      go_wp2_with (first
        | (at_builtin; refine wpList_append_seg _ rfl _ _ _ rfl w1.heap.size 25 i0 _ 8 Tryd.underlying37 hi0 hz0 hz1 hz2 rfl _ (m - (q + 1)) _ rfl (own_alloc HO.out _) (some ⟨wr.heap.size, 0, none⟩) 1 1 [.float .f64 X] rfl rfl (seg_new _ _ _) (by simp [Value.oneCell']) (by simp only [maxLen]; omega) (by omega) (by simp only [World.size_alloc]; omega) ?_; intro v' w2 hown1 hb1)
        | go_in)
      go_roundw
      case rel => exact ⟨q, (q : Int) - 1, by omega, Lib.hid rfl, by go_num, by rw [HDR.out, show m - q = m - (q + 1) + 1 by omega]; exact hown1, (HBR.out.alloc hws _).trans hb1⟩
      case measure => simp [intOf]
    | zero =>
      obtain rfl : z = -1 := by have := HZ.out; omega
      rw [Nat.sub_zero, List.drop_zero] at ho
      obtain ⟨BB, cb, rfl, hcb, hseg⟩ := own_shape ho
      have HRV := Lib.hid (show m = t.reverse.length by rw [List.length_reverse]; exact HM.out)
      have HRT := Lib.hid (show ∀ x ∈ t.reverse, x < 18446744073709551616 from fun x hx => HT.out x (List.mem_reverse.1 hx))
      have SB := Lib.hid hseg
      have S1' := Lib.hid (S1.out.bel hbr)
      have HA2 := Lib.hid (HA1.out.bel hbr)
      have B2 := Lib.hid (below_step B1.out hbr)
      have hsr : bitsN (sumF (sortN t.reverse)) = bitsN (sumF (sortN t)) := sums_like (sortN_sorted _) (sortN_sorted _) (sortN_perm _) ((sortN_perm t).trans (List.reverse_perm t).symm) HRT.out
      have HSR := Lib.hid hsr
      clear ho hbr hseg hsr HO HBR S1 HA1 B1
      cases hq : divN (floatOfInt .f64 x) (floatOfInt .f64 y) with
      | some qb =>
        have hqr := fun w => run_div_some (P := Tryd.prog) w 25 (floatOfInt .f64 x) (floatOfInt .f64 y) qb hq
        have hqb := div_lt' hq
        have HKR := Lib.hid (show bitsN qb = bitsN (ratN x y) by unfold ratN; rw [hq])
        clear hq
        go_upto_region 8 with go_in
        obtain ⟨W8, hW8⟩ : ∃ x, x = wr := ⟨_, rfl⟩
        subst hW8
        have S8 := Lib.hid S1'.out
        have SB8 := Lib.hid SB.out
        have HA8 := Lib.hid HA2.out
        have B8 := Lib.hid B2.out
        clear S1' SB HA2 B2 hqr
        obtain ⟨KB, hKB⟩ : ∃ K, K = bitsN (sumF (sortN t)) := ⟨_, rfl⟩
        obtain ⟨KR, hKR⟩ : ∃ K, K = bitsN (ratN x y) := ⟨_, rfl⟩
        have CA : Hid (∀ W, Below W8.heap.size W8 W → Calls Tryd.prog 15 #[] W fun e w' => e = .returned (.bool true) ∧ Below W.heap.size W w') := Lib.hid fun W _ => awake_bel W
        have CT1 : Hid (∀ W, Below W8.heap.size W8 W → Calls Tryd.prog 30 #[.slice A1 m c1] W fun e w' => ∃ b, e = .returned (.float .f64 b) ∧ b < 18446744073709551616 ∧ bitsN b = KB ∧ Below W.heap.size W w') := Lib.hid fun W hW => by
          have := total_any' A1 m c1 t HM.out W (S8.out.bel hW) HT.out h60
          rw [← hKB] at this
          exact this
        have CT2 : Hid (∀ W, Below W8.heap.size W8 W → Calls Tryd.prog 30 #[.slice BB m cb] W fun e w' => ∃ b, e = .returned (.float .f64 b) ∧ b < 18446744073709551616 ∧ bitsN b = KB ∧ Below W.heap.size W w') := Lib.hid fun W hW => by
          have := total_any' BB m cb t.reverse HRV.out W (SB8.out.bel hW) HRT.out h60
          rw [HSR.out, ← hKB] at this
          exact this
        have CR : Hid (∀ W, Below W8.heap.size W8 W → Calls Tryd.prog 31 #[.slice A m c] W fun e w' => e = .returned (.int .u64 KB) ∧ Below W.heap.size W w') := Lib.hid fun W hW => by
          have := rtotal_any A m c t HM.out W (HA8.out.bel hW) HT.out h60
          rw [← hKB] at this
          exact this
        have CQ : Hid (∀ W, Below W8.heap.size W8 W → Calls Tryd.prog 32 #[.int .i64 x, .int .i64 y] W fun e w' => ∃ b, e = .returned (.float .f64 b) ∧ b < 18446744073709551616 ∧ bitsN b = KR ∧ Below W.heap.size W w') := Lib.hid fun W _ => by
          have := ratio_any x y W
          rw [← hKR] at this
          exact this
        have CW : Hid (∀ W, Calls Tryd.prog 17 #[.int .u64 qb] W fun e w' => e = .returned (.int .u64 KR) ∧ w' = W) := Lib.hid fun W => by
          have := refbits_q qb hqb W
          rw [HKR.out, ← hKR] at this
          exact this
        have hkb : ((KB : Int) == (KB : Int)) = true := by simp
        have hkr : ((KR : Int) == (KR : Int)) = true := by simp
        clear hKB hKR S8 SB8 HA8
        refine wp_region_guarded [some 33, some 34, some 35, some 36, some 37, some 38, some 39, some 40, some 41, some 42, some 43, some 44, some 45, some 46, some 47, some 48, some 49, some 50, some 51, some 52, some 53, some 54, some 55, some 56, some 57, some 58, some 59, some 60, some 61, some 62, some 63, some 64, some 65, some 6] (fun _ => 0) (fF [.bool true, .bool true, .slice A1 m c1, undef, .int .u64 (KB : Int), .slice A n c, .slice A1 m c1, .int .i64 (m : Int), .slice A m c, .int .u64 (KB : Int), .bool true, .bool true, .bool true, .slice BB m cb, undef, .int .u64 (KB : Int), .slice A n c, .slice A1 m c1, .int .i64 (m : Int), .slice A m c, .int .u64 (KB : Int), .bool true, .bool true, .bool true, .int .i64 x, .int .i64 y, undef, .int .u64 (KR : Int), .float .f64 qb, .int .u64 (qb : Int), .int .u64 (KR : Int), .bool true, .bool true, .bool true] KB KR) (fun w' => Below W8.heap.size W8 w') (by kernel_rfl) (bel_drew (Below.refl _ _)) rfl (by kernel_rfl) (by kernel_rfl) (by kernel_rfl) (fun T hT => ?_)
        simp only [List.filterMap_cons, List.filterMap_nil, id, putsS, Act.put, List.setIfInBounds_toArray, List.set_cons_zero, List.set_cons_succ] at hT
        subst hT
        refine ⟨⟨?_, ?_, ?_, ?_, ?_, ?_, ?_, ?_, ?_, ?_, ?_, ?_, ?_, ?_, ?_, ?_, ?_, ?_, ?_, ?_, ?_, ?_, ?_, ?_, ?_, ?_, ?_, ?_, ?_, ?_, ?_, ?_, ?_, ?_, trivial⟩, ?_⟩
        · refine StepA.guarded rfl ?_
          intro f w1 hG hF K hK
          clear hF
          dsimp only at hK ⊢
          go_simp
          refine (CA.out _ hG).mono ?_
          rintro e w20 ⟨rfl, hb20⟩
          exact hK.out _ _ (hG.trans (hb20.mono hG.size)) rfl (fun _ _ _ h => h)
        · refine StepA.guarded rfl ?_
          intro f w1 hG hF K hK
          have d0 : f 33 = .bool true := hF 0 (by kernel_rfl)
          clear hF
          dsimp only at hK ⊢
          generalize f 33 = v33 at *
          subst d0
          go_simp
          exact hK.out _ _ hG rfl (fun _ _ _ h => h)
        · intro f w1 hG hF K hK
          have d1 : f 34 = .bool true := hF 1 (by kernel_rfl)
          clear hF
          rw [if_pos (by rw [wanted_val (g := 1) (d := 34) (b := true) (c := true) rfl (by kernel_rfl) (show some (f 34) = some (.bool true) from congrArg some d1)]; rfl)]
          dsimp only at hK ⊢
          generalize f 34 = v34 at *
          subst d1
          go_simp
          exact hK.out _ _ hG rfl (fun _ _ _ h => h)
        · intro f w1 hG hF K hK
          have d1 : f 34 = .bool true := hF 1 (by kernel_rfl)
          have d2 : f 35 = .slice A1 m c1 := hF 2 (by kernel_rfl)
          clear hF
          rw [if_pos (by rw [wanted_val (g := 1) (d := 34) (b := true) (c := true) rfl (by kernel_rfl) (show some (f 34) = some (.bool true) from congrArg some d1)]; rfl)]
          dsimp only at hK ⊢
          generalize f 34 = v34 at *
          generalize f 35 = v35 at *
          subst d1
          subst d2
          go_simp
          refine (CT1.out _ hG).mono ?_
          rintro e w20 ⟨b, rfl, hbl, hbe, hb20⟩
          exact hK.out _ _ (hG.trans (hb20.mono hG.size)) ⟨b, rfl, hbl, hbe⟩ (fun _ _ _ h => h)
        · intro f w1 hG hF K hK
          have d1 : f 34 = .bool true := hF 1 (by kernel_rfl)
          obtain ⟨b3, d3, l3, e3⟩ : ∃ b, f 36 = .float .f64 b ∧ b < 18446744073709551616 ∧ bitsN b = KB := hF 3 (by kernel_rfl)
          clear hF
          rw [if_pos (by rw [wanted_val (g := 1) (d := 34) (b := true) (c := true) rfl (by kernel_rfl) (show some (f 34) = some (.bool true) from congrArg some d1)]; rfl)]
          dsimp only at hK ⊢
          generalize f 34 = v34 at *
          generalize f 36 = v36 at *
          subst d1
          subst d3
          go_simp
          refine (bits_q _ l3 _).mono ?_
          rintro e w20 ⟨rfl, rfl⟩
          rw [e3]
          exact hK.out _ _ hG rfl (fun _ _ _ h => h)
        · intro f w1 hG hF K hK
          have d1 : f 34 = .bool true := hF 1 (by kernel_rfl)
          clear hF
          rw [if_pos (by rw [wanted_val (g := 1) (d := 34) (b := true) (c := true) rfl (by kernel_rfl) (show some (f 34) = some (.bool true) from congrArg some d1)]; rfl)]
          dsimp only at hK ⊢
          generalize f 34 = v34 at *
          subst d1
          go_simp
          exact hK.out _ _ hG rfl (fun _ _ _ h => h)
        · intro f w1 hG hF K hK
          have d1 : f 34 = .bool true := hF 1 (by kernel_rfl)
          clear hF
          rw [if_pos (by rw [wanted_val (g := 1) (d := 34) (b := true) (c := true) rfl (by kernel_rfl) (show some (f 34) = some (.bool true) from congrArg some d1)]; rfl)]
          dsimp only at hK ⊢
          generalize f 34 = v34 at *
          subst d1
          go_simp
          exact hK.out _ _ hG rfl (fun _ _ _ h => h)
        · intro f w1 hG hF K hK
          have d1 : f 34 = .bool true := hF 1 (by kernel_rfl)
          have d6 : f 39 = .slice A1 m c1 := hF 6 (by kernel_rfl)
          clear hF
          rw [if_pos (by rw [wanted_val (g := 1) (d := 34) (b := true) (c := true) rfl (by kernel_rfl) (show some (f 34) = some (.bool true) from congrArg some d1)]; rfl)]
          dsimp only at hK ⊢
          generalize f 34 = v34 at *
          generalize f 39 = v39 at *
          subst d1
          subst d6
          go_simp
          exact hK.out _ _ hG rfl (fun _ _ _ h => h)
        · intro f w1 hG hF K hK
          have d1 : f 34 = .bool true := hF 1 (by kernel_rfl)
          have d5 : f 38 = .slice A n c := hF 5 (by kernel_rfl)
          have d7 : f 40 = .int .i64 (m : Int) := hF 7 (by kernel_rfl)
          clear hF
          rw [if_pos (by rw [wanted_val (g := 1) (d := 34) (b := true) (c := true) rfl (by kernel_rfl) (show some (f 34) = some (.bool true) from congrArg some d1)]; rfl)]
          dsimp only at hK ⊢
          generalize f 34 = v34 at *
          generalize f 38 = v38 at *
          generalize f 40 = v40 at *
          subst d1
          subst d5
          subst d7
          go_simp
          exact hK.out _ _ hG rfl (fun _ _ _ h => h)
        · intro f w1 hG hF K hK
          have d1 : f 34 = .bool true := hF 1 (by kernel_rfl)
          have d8 : f 41 = .slice A m c := hF 8 (by kernel_rfl)
          clear hF
          rw [if_pos (by rw [wanted_val (g := 1) (d := 34) (b := true) (c := true) rfl (by kernel_rfl) (show some (f 34) = some (.bool true) from congrArg some d1)]; rfl)]
          dsimp only at hK ⊢
          generalize f 34 = v34 at *
          generalize f 41 = v41 at *
          subst d1
          subst d8
          go_simp
          refine (CR.out _ hG).mono ?_
          rintro e w20 ⟨rfl, hb20⟩
          exact hK.out _ _ (hG.trans (hb20.mono hG.size)) rfl (fun _ _ _ h => h)
        · intro f w1 hG hF K hK
          have d1 : f 34 = .bool true := hF 1 (by kernel_rfl)
          have d4 : f 37 = .int .u64 (KB : Int) := hF 4 (by kernel_rfl)
          have d9 : f 42 = .int .u64 (KB : Int) := hF 9 (by kernel_rfl)
          clear hF
          rw [if_pos (by rw [wanted_val (g := 1) (d := 34) (b := true) (c := true) rfl (by kernel_rfl) (show some (f 34) = some (.bool true) from congrArg some d1)]; rfl)]
          dsimp only at hK ⊢
          generalize f 34 = v34 at *
          generalize f 37 = v37 at *
          generalize f 42 = v42 at *
          subst d1
          subst d4
          subst d9
          go_simp
          exact hK.out _ _ hG rfl (fun _ _ _ h => h)
        · refine StepA.guarded rfl ?_
          intro f w1 hG hF K hK
          have d1 : f 34 = .bool true := hF 1 (by kernel_rfl)
          have d10 : f 43 = .bool true := hF 10 (by kernel_rfl)
          clear hF
          dsimp only at hK ⊢
          generalize f 34 = v34 at *
          generalize f 43 = v43 at *
          subst d1
          subst d10
          go_simp
          exact hK.out _ _ hG rfl (fun _ _ _ h => h)
        · refine StepA.guarded rfl ?_
          intro f w1 hG hF K hK
          have d11 : f 44 = .bool true := hF 11 (by kernel_rfl)
          clear hF
          dsimp only at hK ⊢
          generalize f 44 = v44 at *
          subst d11
          go_simp
          exact hK.out _ _ hG rfl (fun _ _ _ h => h)
        · intro f w1 hG hF K hK
          have d12 : f 45 = .bool true := hF 12 (by kernel_rfl)
          clear hF
          rw [if_pos (by rw [wanted_val (g := 12) (d := 45) (b := true) (c := true) rfl (by kernel_rfl) (show some (f 45) = some (.bool true) from congrArg some d12)]; rfl)]
          dsimp only at hK ⊢
          generalize f 45 = v45 at *
          subst d12
          go_simp
          exact hK.out _ _ hG rfl (fun _ _ _ h => h)
        · intro f w1 hG hF K hK
          have d12 : f 45 = .bool true := hF 12 (by kernel_rfl)
          have d13 : f 46 = .slice BB m cb := hF 13 (by kernel_rfl)
          clear hF
          rw [if_pos (by rw [wanted_val (g := 12) (d := 45) (b := true) (c := true) rfl (by kernel_rfl) (show some (f 45) = some (.bool true) from congrArg some d12)]; rfl)]
          dsimp only at hK ⊢
          generalize f 45 = v45 at *
          generalize f 46 = v46 at *
          subst d12
          subst d13
          go_simp
          refine (CT2.out _ hG).mono ?_
          rintro e w20 ⟨b, rfl, hbl, hbe, hb20⟩
          exact hK.out _ _ (hG.trans (hb20.mono hG.size)) ⟨b, rfl, hbl, hbe⟩ (fun _ _ _ h => h)
        · intro f w1 hG hF K hK
          have d12 : f 45 = .bool true := hF 12 (by kernel_rfl)
          obtain ⟨b14, d14, l14, e14⟩ : ∃ b, f 47 = .float .f64 b ∧ b < 18446744073709551616 ∧ bitsN b = KB := hF 14 (by kernel_rfl)
          clear hF
          rw [if_pos (by rw [wanted_val (g := 12) (d := 45) (b := true) (c := true) rfl (by kernel_rfl) (show some (f 45) = some (.bool true) from congrArg some d12)]; rfl)]
          dsimp only at hK ⊢
          generalize f 45 = v45 at *
          generalize f 47 = v47 at *
          subst d12
          subst d14
          go_simp
          refine (bits_q _ l14 _).mono ?_
          rintro e w20 ⟨rfl, rfl⟩
          rw [e14]
          exact hK.out _ _ hG rfl (fun _ _ _ h => h)
        · intro f w1 hG hF K hK
          have d12 : f 45 = .bool true := hF 12 (by kernel_rfl)
          clear hF
          rw [if_pos (by rw [wanted_val (g := 12) (d := 45) (b := true) (c := true) rfl (by kernel_rfl) (show some (f 45) = some (.bool true) from congrArg some d12)]; rfl)]
          dsimp only at hK ⊢
          generalize f 45 = v45 at *
          subst d12
          go_simp
          exact hK.out _ _ hG rfl (fun _ _ _ h => h)
        · intro f w1 hG hF K hK
          have d12 : f 45 = .bool true := hF 12 (by kernel_rfl)
          clear hF
          rw [if_pos (by rw [wanted_val (g := 12) (d := 45) (b := true) (c := true) rfl (by kernel_rfl) (show some (f 45) = some (.bool true) from congrArg some d12)]; rfl)]
          dsimp only at hK ⊢
          generalize f 45 = v45 at *
          subst d12
          go_simp
          exact hK.out _ _ hG rfl (fun _ _ _ h => h)
        · intro f w1 hG hF K hK
          have d12 : f 45 = .bool true := hF 12 (by kernel_rfl)
          have d17 : f 50 = .slice A1 m c1 := hF 17 (by kernel_rfl)
          clear hF
          rw [if_pos (by rw [wanted_val (g := 12) (d := 45) (b := true) (c := true) rfl (by kernel_rfl) (show some (f 45) = some (.bool true) from congrArg some d12)]; rfl)]
          dsimp only at hK ⊢
          generalize f 45 = v45 at *
          generalize f 50 = v50 at *
          subst d12
          subst d17
          go_simp
          exact hK.out _ _ hG rfl (fun _ _ _ h => h)
        · intro f w1 hG hF K hK
          have d12 : f 45 = .bool true := hF 12 (by kernel_rfl)
          have d16 : f 49 = .slice A n c := hF 16 (by kernel_rfl)
          have d18 : f 51 = .int .i64 (m : Int) := hF 18 (by kernel_rfl)
          clear hF
          rw [if_pos (by rw [wanted_val (g := 12) (d := 45) (b := true) (c := true) rfl (by kernel_rfl) (show some (f 45) = some (.bool true) from congrArg some d12)]; rfl)]
          dsimp only at hK ⊢
          generalize f 45 = v45 at *
          generalize f 49 = v49 at *
          generalize f 51 = v51 at *
          subst d12
          subst d16
          subst d18
          go_simp
          exact hK.out _ _ hG rfl (fun _ _ _ h => h)
        · intro f w1 hG hF K hK
          have d12 : f 45 = .bool true := hF 12 (by kernel_rfl)
          have d19 : f 52 = .slice A m c := hF 19 (by kernel_rfl)
          clear hF
          rw [if_pos (by rw [wanted_val (g := 12) (d := 45) (b := true) (c := true) rfl (by kernel_rfl) (show some (f 45) = some (.bool true) from congrArg some d12)]; rfl)]
          dsimp only at hK ⊢
          generalize f 45 = v45 at *
          generalize f 52 = v52 at *
          subst d12
          subst d19
          go_simp
          refine (CR.out _ hG).mono ?_
          rintro e w20 ⟨rfl, hb20⟩
          exact hK.out _ _ (hG.trans (hb20.mono hG.size)) rfl (fun _ _ _ h => h)
        · intro f w1 hG hF K hK
          have d12 : f 45 = .bool true := hF 12 (by kernel_rfl)
          have d15 : f 48 = .int .u64 (KB : Int) := hF 15 (by kernel_rfl)
          have d20 : f 53 = .int .u64 (KB : Int) := hF 20 (by kernel_rfl)
          clear hF
          rw [if_pos (by rw [wanted_val (g := 12) (d := 45) (b := true) (c := true) rfl (by kernel_rfl) (show some (f 45) = some (.bool true) from congrArg some d12)]; rfl)]
          dsimp only at hK ⊢
          generalize f 45 = v45 at *
          generalize f 48 = v48 at *
          generalize f 53 = v53 at *
          subst d12
          subst d15
          subst d20
          go_simp
          exact hK.out _ _ hG rfl (fun _ _ _ h => h)
        · refine StepA.guarded rfl ?_
          intro f w1 hG hF K hK
          have d12 : f 45 = .bool true := hF 12 (by kernel_rfl)
          have d21 : f 54 = .bool true := hF 21 (by kernel_rfl)
          clear hF
          dsimp only at hK ⊢
          generalize f 45 = v45 at *
          generalize f 54 = v54 at *
          subst d12
          subst d21
          go_simp
          exact hK.out _ _ hG rfl (fun _ _ _ h => h)
        · refine StepA.guarded rfl ?_
          intro f w1 hG hF K hK
          have d22 : f 55 = .bool true := hF 22 (by kernel_rfl)
          clear hF
          dsimp only at hK ⊢
          generalize f 55 = v55 at *
          subst d22
          go_simp
          exact hK.out _ _ hG rfl (fun _ _ _ h => h)
        · intro f w1 hG hF K hK
          have d23 : f 56 = .bool true := hF 23 (by kernel_rfl)
          clear hF
          rw [if_pos (by rw [wanted_val (g := 23) (d := 56) (b := true) (c := true) rfl (by kernel_rfl) (show some (f 56) = some (.bool true) from congrArg some d23)]; rfl)]
          dsimp only at hK ⊢
          generalize f 56 = v56 at *
          subst d23
          go_simp
          exact hK.out _ _ hG rfl (fun _ _ _ h => h)
        · intro f w1 hG hF K hK
          have d23 : f 56 = .bool true := hF 23 (by kernel_rfl)
          clear hF
          rw [if_pos (by rw [wanted_val (g := 23) (d := 56) (b := true) (c := true) rfl (by kernel_rfl) (show some (f 56) = some (.bool true) from congrArg some d23)]; rfl)]
          dsimp only at hK ⊢
          generalize f 56 = v56 at *
          subst d23
          go_simp
          exact hK.out _ _ hG rfl (fun _ _ _ h => h)
        · intro f w1 hG hF K hK
          have d23 : f 56 = .bool true := hF 23 (by kernel_rfl)
          have d24 : f 57 = .int .i64 x := hF 24 (by kernel_rfl)
          have d25 : f 58 = .int .i64 y := hF 25 (by kernel_rfl)
          clear hF
          rw [if_pos (by rw [wanted_val (g := 23) (d := 56) (b := true) (c := true) rfl (by kernel_rfl) (show some (f 56) = some (.bool true) from congrArg some d23)]; rfl)]
          dsimp only at hK ⊢
          generalize f 56 = v56 at *
          generalize f 57 = v57 at *
          generalize f 58 = v58 at *
          subst d23
          subst d24
          subst d25
          go_simp
          refine (CQ.out _ hG).mono ?_
          rintro e w20 ⟨b, rfl, hbl, hbe, hb20⟩
          exact hK.out _ _ (hG.trans (hb20.mono hG.size)) ⟨b, rfl, hbl, hbe⟩ (fun _ _ _ h => h)
        · intro f w1 hG hF K hK
          have d23 : f 56 = .bool true := hF 23 (by kernel_rfl)
          obtain ⟨b26, d26, l26, e26⟩ : ∃ b, f 59 = .float .f64 b ∧ b < 18446744073709551616 ∧ bitsN b = KR := hF 26 (by kernel_rfl)
          clear hF
          rw [if_pos (by rw [wanted_val (g := 23) (d := 56) (b := true) (c := true) rfl (by kernel_rfl) (show some (f 56) = some (.bool true) from congrArg some d23)]; rfl)]
          dsimp only at hK ⊢
          generalize f 56 = v56 at *
          generalize f 59 = v59 at *
          subst d23
          subst d26
          go_simp
          refine (bits_q _ l26 _).mono ?_
          rintro e w20 ⟨rfl, rfl⟩
          rw [e26]
          exact hK.out _ _ hG rfl (fun _ _ _ h => h)
        · intro f w1 hG hF K hK
          have d23 : f 56 = .bool true := hF 23 (by kernel_rfl)
          clear hF
          rw [if_pos (by rw [wanted_val (g := 23) (d := 56) (b := true) (c := true) rfl (by kernel_rfl) (show some (f 56) = some (.bool true) from congrArg some d23)]; rfl)]
          dsimp only at hK ⊢
          generalize f 56 = v56 at *
          subst d23
          go_simp
          exact hK.out _ _ hG rfl (fun _ _ _ h => h)
        · intro f w1 hG hF K hK
          have d23 : f 56 = .bool true := hF 23 (by kernel_rfl)
          have d28 : f 61 = .float .f64 qb := hF 28 (by kernel_rfl)
          clear hF
          rw [if_pos (by rw [wanted_val (g := 23) (d := 56) (b := true) (c := true) rfl (by kernel_rfl) (show some (f 56) = some (.bool true) from congrArg some d23)]; rfl)]
          dsimp only at hK ⊢
          generalize f 56 = v56 at *
          generalize f 61 = v61 at *
          subst d23
          subst d28
          go_simp
          exact hK.out _ _ hG rfl (fun _ _ _ h => h)
        · intro f w1 hG hF K hK
          have d23 : f 56 = .bool true := hF 23 (by kernel_rfl)
          have d29 : f 62 = .int .u64 (qb : Int) := hF 29 (by kernel_rfl)
          clear hF
          rw [if_pos (by rw [wanted_val (g := 23) (d := 56) (b := true) (c := true) rfl (by kernel_rfl) (show some (f 56) = some (.bool true) from congrArg some d23)]; rfl)]
          dsimp only at hK ⊢
          generalize f 56 = v56 at *
          generalize f 62 = v62 at *
          subst d23
          subst d29
          go_simp
          refine (CW.out _).mono ?_
          rintro e w20 ⟨rfl, rfl⟩
          exact hK.out _ _ hG rfl (fun _ _ _ h => h)
        · intro f w1 hG hF K hK
          have d23 : f 56 = .bool true := hF 23 (by kernel_rfl)
          have d27 : f 60 = .int .u64 (KR : Int) := hF 27 (by kernel_rfl)
          have d30 : f 63 = .int .u64 (KR : Int) := hF 30 (by kernel_rfl)
          clear hF
          rw [if_pos (by rw [wanted_val (g := 23) (d := 56) (b := true) (c := true) rfl (by kernel_rfl) (show some (f 56) = some (.bool true) from congrArg some d23)]; rfl)]
          dsimp only at hK ⊢
          generalize f 56 = v56 at *
          generalize f 60 = v60 at *
          generalize f 63 = v63 at *
          subst d23
          subst d27
          subst d30
          go_simp
          exact hK.out _ _ hG rfl (fun _ _ _ h => h)
        · refine StepA.guarded rfl ?_
          intro f w1 hG hF K hK
          have d23 : f 56 = .bool true := hF 23 (by kernel_rfl)
          have d31 : f 64 = .bool true := hF 31 (by kernel_rfl)
          clear hF
          dsimp only at hK ⊢
          generalize f 56 = v56 at *
          generalize f 64 = v64 at *
          subst d23
          subst d31
          go_simp
          exact hK.out _ _ hG rfl (fun _ _ _ h => h)
        · refine StepA.guarded rfl ?_
          intro f w1 hG hF K hK
          have d32 : f 65 = .bool true := hF 32 (by kernel_rfl)
          clear hF
          dsimp only at hK ⊢
          generalize f 65 = v65 at *
          subst d32
          go_simp
          exact hK.out _ _ hG rfl (fun _ _ _ h => h)
        · intro f w20 hG hF
          have e6 : f 6 = .bool true := hF 33 (by decide)
          have H1 := Lib.hid (below_step B8.out hG)
          clear hF hG
          dsimp only
          generalize f 33 = v33
          generalize f 34 = v34
          generalize f 35 = v35
          generalize f 36 = v36
          generalize f 37 = v37
          generalize f 38 = v38
          generalize f 39 = v39
          generalize f 40 = v40
          generalize f 41 = v41
          generalize f 42 = v42
          generalize f 43 = v43
          generalize f 44 = v44
          generalize f 45 = v45
          generalize f 46 = v46
          generalize f 47 = v47
          generalize f 48 = v48
          generalize f 49 = v49
          generalize f 50 = v50
          generalize f 51 = v51
          generalize f 52 = v52
          generalize f 53 = v53
          generalize f 54 = v54
          generalize f 55 = v55
          generalize f 56 = v56
          generalize f 57 = v57
          generalize f 58 = v58
          generalize f 59 = v59
          generalize f 60 = v60
          generalize f 61 = v61
          generalize f 62 = v62
          generalize f 63 = v63
          generalize f 64 = v64
          generalize f 65 = v65
          generalize f 6 = v6 at *
          subst e6
          go_wp2_with fail
          go_ret
          exact ⟨rfl, H1.out⟩
      | none =>
        obtain ⟨W8, hW8⟩ : ∃ x, x = wr.drew := ⟨_, rfl⟩
        obtain ⟨qb, hqe⟩ : ∃ q, q = (Question.nanBits .f64 (floatOfInt .f64 x) (floatOfInt .f64 y)).cut (wr.tape wr.drawn (Question.nanBits .f64 (floatOfInt .f64 x) (floatOfInt .f64 y))) := ⟨_, rfl⟩
        have hqr := run_div_none (P := Tryd.prog) wr 25 (floatOfInt .f64 x) (floatOfInt .f64 y) hq
        rw [← hqe, ← hW8] at hqr
        have hqb : qb < 18446744073709551616 := by rw [hqe]; exact (cut_nan _ _ _).2
        have HKR := Lib.hid (show bitsN qb = bitsN (ratN x y) by unfold ratN; rw [hq, hqe, bits_nan _ (cut_nan _ _ _).1, bits_cNaN]; rfl)
        have hbd : Below wr.heap.size wr W8 := by rw [hW8]; exact bel_drew (Below.refl _ _)
        have S8 := Lib.hid (S1'.out.bel hbd)
        have SB8 := Lib.hid (SB.out.bel hbd)
        have HA8 := Lib.hid (HA2.out.bel hbd)
        have B8 := Lib.hid (below_step B2.out hbd)
        clear hq hbd hW8 hqe S1' SB HA2 B2
        go_upto_region 8 with go_in
        clear hqr
        obtain ⟨KB, hKB⟩ : ∃ K, K = bitsN (sumF (sortN t)) := ⟨_, rfl⟩
        obtain ⟨KR, hKR⟩ : ∃ K, K = bitsN (ratN x y) := ⟨_, rfl⟩
        have CA : Hid (∀ W, Below W8.heap.size W8 W → Calls Tryd.prog 15 #[] W fun e w' => e = .returned (.bool true) ∧ Below W.heap.size W w') := Lib.hid fun W _ => awake_bel W
        have CT1 : Hid (∀ W, Below W8.heap.size W8 W → Calls Tryd.prog 30 #[.slice A1 m c1] W fun e w' => ∃ b, e = .returned (.float .f64 b) ∧ b < 18446744073709551616 ∧ bitsN b = KB ∧ Below W.heap.size W w') := Lib.hid fun W hW => by
          have := total_any' A1 m c1 t HM.out W (S8.out.bel hW) HT.out h60
          rw [← hKB] at this
          exact this
        have CT2 : Hid (∀ W, Below W8.heap.size W8 W → Calls Tryd.prog 30 #[.slice BB m cb] W fun e w' => ∃ b, e = .returned (.float .f64 b) ∧ b < 18446744073709551616 ∧ bitsN b = KB ∧ Below W.heap.size W w') := Lib.hid fun W hW => by
          have := total_any' BB m cb t.reverse HRV.out W (SB8.out.bel hW) HRT.out h60
          rw [HSR.out, ← hKB] at this
          exact this
        have CR : Hid (∀ W, Below W8.heap.size W8 W → Calls Tryd.prog 31 #[.slice A m c] W fun e w' => e = .returned (.int .u64 KB) ∧ Below W.heap.size W w') := Lib.hid fun W hW => by
          have := rtotal_any A m c t HM.out W (HA8.out.bel hW) HT.out h60
          rw [← hKB] at this
          exact this
        have CQ : Hid (∀ W, Below W8.heap.size W8 W → Calls Tryd.prog 32 #[.int .i64 x, .int .i64 y] W fun e w' => ∃ b, e = .returned (.float .f64 b) ∧ b < 18446744073709551616 ∧ bitsN b = KR ∧ Below W.heap.size W w') := Lib.hid fun W _ => by
          have := ratio_any x y W
          rw [← hKR] at this
          exact this
        have CW : Hid (∀ W, Calls Tryd.prog 17 #[.int .u64 qb] W fun e w' => e = .returned (.int .u64 KR) ∧ w' = W) := Lib.hid fun W => by
          have := refbits_q qb hqb W
          rw [HKR.out, ← hKR] at this
          exact this
        have hkb : ((KB : Int) == (KB : Int)) = true := by simp
        have hkr : ((KR : Int) == (KR : Int)) = true := by simp
        clear hKB hKR S8 SB8 HA8
        refine wp_region_guarded [some 33, some 34, some 35, some 36, some 37, some 38, some 39, some 40, some 41, some 42, some 43, some 44, some 45, some 46, some 47, some 48, some 49, some 50, some 51, some 52, some 53, some 54, some 55, some 56, some 57, some 58, some 59, some 60, some 61, some 62, some 63, some 64, some 65, some 6] (fun _ => 0) (fF [.bool true, .bool true, .slice A1 m c1, undef, .int .u64 (KB : Int), .slice A n c, .slice A1 m c1, .int .i64 (m : Int), .slice A m c, .int .u64 (KB : Int), .bool true, .bool true, .bool true, .slice BB m cb, undef, .int .u64 (KB : Int), .slice A n c, .slice A1 m c1, .int .i64 (m : Int), .slice A m c, .int .u64 (KB : Int), .bool true, .bool true, .bool true, .int .i64 x, .int .i64 y, undef, .int .u64 (KR : Int), .float .f64 qb, .int .u64 (qb : Int), .int .u64 (KR : Int), .bool true, .bool true, .bool true] KB KR) (fun w' => Below W8.heap.size W8 w') (by kernel_rfl) (bel_drew (Below.refl _ _)) rfl (by kernel_rfl) (by kernel_rfl) (by kernel_rfl) (fun T hT => ?_)
        simp only [List.filterMap_cons, List.filterMap_nil, id, putsS, Act.put, List.setIfInBounds_toArray, List.set_cons_zero, List.set_cons_succ] at hT
        subst hT
        refine ⟨⟨?_, ?_, ?_, ?_, ?_, ?_, ?_, ?_, ?_, ?_, ?_, ?_, ?_, ?_, ?_, ?_, ?_, ?_, ?_, ?_, ?_, ?_, ?_, ?_, ?_, ?_, ?_, ?_, ?_, ?_, ?_, ?_, ?_, ?_, trivial⟩, ?_⟩
        · refine StepA.guarded rfl ?_
          intro f w1 hG hF K hK
          clear hF
          dsimp only at hK ⊢
          go_simp
          refine (CA.out _ hG).mono ?_
          rintro e w20 ⟨rfl, hb20⟩
          exact hK.out _ _ (hG.trans (hb20.mono hG.size)) rfl (fun _ _ _ h => h)
        · refine StepA.guarded rfl ?_
          intro f w1 hG hF K hK
          have d0 : f 33 = .bool true := hF 0 (by kernel_rfl)
          clear hF
          dsimp only at hK ⊢
          generalize f 33 = v33 at *
          subst d0
          go_simp
          exact hK.out _ _ hG rfl (fun _ _ _ h => h)
        · intro f w1 hG hF K hK
          have d1 : f 34 = .bool true := hF 1 (by kernel_rfl)
          clear hF
          rw [if_pos (by rw [wanted_val (g := 1) (d := 34) (b := true) (c := true) rfl (by kernel_rfl) (show some (f 34) = some (.bool true) from congrArg some d1)]; rfl)]
          dsimp only at hK ⊢
          generalize f 34 = v34 at *
          subst d1
          go_simp
          exact hK.out _ _ hG rfl (fun _ _ _ h => h)
        · intro f w1 hG hF K hK
          have d1 : f 34 = .bool true := hF 1 (by kernel_rfl)
          have d2 : f 35 = .slice A1 m c1 := hF 2 (by kernel_rfl)
          clear hF
          rw [if_pos (by rw [wanted_val (g := 1) (d := 34) (b := true) (c := true) rfl (by kernel_rfl) (show some (f 34) = some (.bool true) from congrArg some d1)]; rfl)]
          dsimp only at hK ⊢
          generalize f 34 = v34 at *
          generalize f 35 = v35 at *
          subst d1
          subst d2
          go_simp
          refine (CT1.out _ hG).mono ?_
          rintro e w20 ⟨b, rfl, hbl, hbe, hb20⟩
          exact hK.out _ _ (hG.trans (hb20.mono hG.size)) ⟨b, rfl, hbl, hbe⟩ (fun _ _ _ h => h)
        · intro f w1 hG hF K hK
          have d1 : f 34 = .bool true := hF 1 (by kernel_rfl)
          obtain ⟨b3, d3, l3, e3⟩ : ∃ b, f 36 = .float .f64 b ∧ b < 18446744073709551616 ∧ bitsN b = KB := hF 3 (by kernel_rfl)
          clear hF
          rw [if_pos (by rw [wanted_val (g := 1) (d := 34) (b := true) (c := true) rfl (by kernel_rfl) (show some (f 34) = some (.bool true) from congrArg some d1)]; rfl)]
          dsimp only at hK ⊢
          generalize f 34 = v34 at *
          generalize f 36 = v36 at *
          subst d1
          subst d3
          go_simp
          refine (bits_q _ l3 _).mono ?_
          rintro e w20 ⟨rfl, rfl⟩
          rw [e3]
          exact hK.out _ _ hG rfl (fun _ _ _ h => h)
        · intro f w1 hG hF K hK
          have d1 : f 34 = .bool true := hF 1 (by kernel_rfl)
          clear hF
          rw [if_pos (by rw [wanted_val (g := 1) (d := 34) (b := true) (c := true) rfl (by kernel_rfl) (show some (f 34) = some (.bool true) from congrArg some d1)]; rfl)]
          dsimp only at hK ⊢
          generalize f 34 = v34 at *
          subst d1
          go_simp
          exact hK.out _ _ hG rfl (fun _ _ _ h => h)
        · intro f w1 hG hF K hK
          have d1 : f 34 = .bool true := hF 1 (by kernel_rfl)
          clear hF
          rw [if_pos (by rw [wanted_val (g := 1) (d := 34) (b := true) (c := true) rfl (by kernel_rfl) (show some (f 34) = some (.bool true) from congrArg some d1)]; rfl)]
          dsimp only at hK ⊢
          generalize f 34 = v34 at *
          subst d1
          go_simp
          exact hK.out _ _ hG rfl (fun _ _ _ h => h)
        · intro f w1 hG hF K hK
          have d1 : f 34 = .bool true := hF 1 (by kernel_rfl)
          have d6 : f 39 = .slice A1 m c1 := hF 6 (by kernel_rfl)
          clear hF
          rw [if_pos (by rw [wanted_val (g := 1) (d := 34) (b := true) (c := true) rfl (by kernel_rfl) (show some (f 34) = some (.bool true) from congrArg some d1)]; rfl)]
          dsimp only at hK ⊢
          generalize f 34 = v34 at *
          generalize f 39 = v39 at *
          subst d1
          subst d6
          go_simp
          exact hK.out _ _ hG rfl (fun _ _ _ h => h)
        · intro f w1 hG hF K hK
          have d1 : f 34 = .bool true := hF 1 (by kernel_rfl)
          have d5 : f 38 = .slice A n c := hF 5 (by kernel_rfl)
          have d7 : f 40 = .int .i64 (m : Int) := hF 7 (by kernel_rfl)
          clear hF
          rw [if_pos (by rw [wanted_val (g := 1) (d := 34) (b := true) (c := true) rfl (by kernel_rfl) (show some (f 34) = some (.bool true) from congrArg some d1)]; rfl)]
          dsimp only at hK ⊢
          generalize f 34 = v34 at *
          generalize f 38 = v38 at *
          generalize f 40 = v40 at *
          subst d1
          subst d5
          subst d7
          go_simp
          exact hK.out _ _ hG rfl (fun _ _ _ h => h)
        · intro f w1 hG hF K hK
          have d1 : f 34 = .bool true := hF 1 (by kernel_rfl)
          have d8 : f 41 = .slice A m c := hF 8 (by kernel_rfl)
          clear hF
          rw [if_pos (by rw [wanted_val (g := 1) (d := 34) (b := true) (c := true) rfl (by kernel_rfl) (show some (f 34) = some (.bool true) from congrArg some d1)]; rfl)]
          dsimp only at hK ⊢
          generalize f 34 = v34 at *
          generalize f 41 = v41 at *
          subst d1
          subst d8
          go_simp
          refine (CR.out _ hG).mono ?_
          rintro e w20 ⟨rfl, hb20⟩
          exact hK.out _ _ (hG.trans (hb20.mono hG.size)) rfl (fun _ _ _ h => h)
        · intro f w1 hG hF K hK
          have d1 : f 34 = .bool true := hF 1 (by kernel_rfl)
          have d4 : f 37 = .int .u64 (KB : Int) := hF 4 (by kernel_rfl)
          have d9 : f 42 = .int .u64 (KB : Int) := hF 9 (by kernel_rfl)
          clear hF
          rw [if_pos (by rw [wanted_val (g := 1) (d := 34) (b := true) (c := true) rfl (by kernel_rfl) (show some (f 34) = some (.bool true) from congrArg some d1)]; rfl)]
          dsimp only at hK ⊢
          generalize f 34 = v34 at *
          generalize f 37 = v37 at *
          generalize f 42 = v42 at *
          subst d1
          subst d4
          subst d9
          go_simp
          exact hK.out _ _ hG rfl (fun _ _ _ h => h)
        · refine StepA.guarded rfl ?_
          intro f w1 hG hF K hK
          have d1 : f 34 = .bool true := hF 1 (by kernel_rfl)
          have d10 : f 43 = .bool true := hF 10 (by kernel_rfl)
          clear hF
          dsimp only at hK ⊢
          generalize f 34 = v34 at *
          generalize f 43 = v43 at *
          subst d1
          subst d10
          go_simp
          exact hK.out _ _ hG rfl (fun _ _ _ h => h)
        · refine StepA.guarded rfl ?_
          intro f w1 hG hF K hK
          have d11 : f 44 = .bool true := hF 11 (by kernel_rfl)
          clear hF
          dsimp only at hK ⊢
          generalize f 44 = v44 at *
          subst d11
          go_simp
          exact hK.out _ _ hG rfl (fun _ _ _ h => h)
        · intro f w1 hG hF K hK
          have d12 : f 45 = .bool true := hF 12 (by kernel_rfl)
          clear hF
          rw [if_pos (by rw [wanted_val (g := 12) (d := 45) (b := true) (c := true) rfl (by kernel_rfl) (show some (f 45) = some (.bool true) from congrArg some d12)]; rfl)]
          dsimp only at hK ⊢
          generalize f 45 = v45 at *
          subst d12
          go_simp
          exact hK.out _ _ hG rfl (fun _ _ _ h => h)
        · intro f w1 hG hF K hK
          have d12 : f 45 = .bool true := hF 12 (by kernel_rfl)
          have d13 : f 46 = .slice BB m cb := hF 13 (by kernel_rfl)
          clear hF
          rw [if_pos (by rw [wanted_val (g := 12) (d := 45) (b := true) (c := true) rfl (by kernel_rfl) (show some (f 45) = some (.bool true) from congrArg some d12)]; rfl)]
          dsimp only at hK ⊢
          generalize f 45 = v45 at *
          generalize f 46 = v46 at *
          subst d12
          subst d13
          go_simp
          refine (CT2.out _ hG).mono ?_
          rintro e w20 ⟨b, rfl, hbl, hbe, hb20⟩
          exact hK.out _ _ (hG.trans (hb20.mono hG.size)) ⟨b, rfl, hbl, hbe⟩ (fun _ _ _ h => h)
        · intro f w1 hG hF K hK
          have d12 : f 45 = .bool true := hF 12 (by kernel_rfl)
          obtain ⟨b14, d14, l14, e14⟩ : ∃ b, f 47 = .float .f64 b ∧ b < 18446744073709551616 ∧ bitsN b = KB := hF 14 (by kernel_rfl)
          clear hF
          rw [if_pos (by rw [wanted_val (g := 12) (d := 45) (b := true) (c := true) rfl (by kernel_rfl) (show some (f 45) = some (.bool true) from congrArg some d12)]; rfl)]
          dsimp only at hK ⊢
          generalize f 45 = v45 at *
          generalize f 47 = v47 at *
          subst d12
          subst d14
          go_simp
          refine (bits_q _ l14 _).mono ?_
          rintro e w20 ⟨rfl, rfl⟩
          rw [e14]
          exact hK.out _ _ hG rfl (fun _ _ _ h => h)
        · intro f w1 hG hF K hK
          have d12 : f 45 = .bool true := hF 12 (by kernel_rfl)
          clear hF
          rw [if_pos (by rw [wanted_val (g := 12) (d := 45) (b := true) (c := true) rfl (by kernel_rfl) (show some (f 45) = some (.bool true) from congrArg some d12)]; rfl)]
          dsimp only at hK ⊢
          generalize f 45 = v45 at *
          subst d12
          go_simp
          exact hK.out _ _ hG rfl (fun _ _ _ h => h)
        · intro f w1 hG hF K hK
          have d12 : f 45 = .bool true := hF 12 (by kernel_rfl)
          clear hF
          rw [if_pos (by rw [wanted_val (g := 12) (d := 45) (b := true) (c := true) rfl (by kernel_rfl) (show some (f 45) = some (.bool true) from congrArg some d12)]; rfl)]
          dsimp only at hK ⊢
          generalize f 45 = v45 at *
          subst d12
          go_simp
          exact hK.out _ _ hG rfl (fun _ _ _ h => h)
        · intro f w1 hG hF K hK
          have d12 : f 45 = .bool true := hF 12 (by kernel_rfl)
          have d17 : f 50 = .slice A1 m c1 := hF 17 (by kernel_rfl)
          clear hF
          rw [if_pos (by rw [wanted_val (g := 12) (d := 45) (b := true) (c := true) rfl (by kernel_rfl) (show some (f 45) = some (.bool true) from congrArg some d12)]; rfl)]
          dsimp only at hK ⊢
          generalize f 45 = v45 at *
          generalize f 50 = v50 at *
          subst d12
          subst d17
          go_simp
          exact hK.out _ _ hG rfl (fun _ _ _ h => h)
        · intro f w1 hG hF K hK
          have d12 : f 45 = .bool true := hF 12 (by kernel_rfl)
          have d16 : f 49 = .slice A n c := hF 16 (by kernel_rfl)
          have d18 : f 51 = .int .i64 (m : Int) := hF 18 (by kernel_rfl)
          clear hF
          rw [if_pos (by rw [wanted_val (g := 12) (d := 45) (b := true) (c := true) rfl (by kernel_rfl) (show some (f 45) = some (.bool true) from congrArg some d12)]; rfl)]
          dsimp only at hK ⊢
          generalize f 45 = v45 at *
          generalize f 49 = v49 at *
          generalize f 51 = v51 at *
          subst d12
          subst d16
          subst d18
          go_simp
          exact hK.out _ _ hG rfl (fun _ _ _ h => h)
        · intro f w1 hG hF K hK
          have d12 : f 45 = .bool true := hF 12 (by kernel_rfl)
          have d19 : f 52 = .slice A m c := hF 19 (by kernel_rfl)
          clear hF
          rw [if_pos (by rw [wanted_val (g := 12) (d := 45) (b := true) (c := true) rfl (by kernel_rfl) (show some (f 45) = some (.bool true) from congrArg some d12)]; rfl)]
          dsimp only at hK ⊢
          generalize f 45 = v45 at *
          generalize f 52 = v52 at *
          subst d12
          subst d19
          go_simp
          refine (CR.out _ hG).mono ?_
          rintro e w20 ⟨rfl, hb20⟩
          exact hK.out _ _ (hG.trans (hb20.mono hG.size)) rfl (fun _ _ _ h => h)
        · intro f w1 hG hF K hK
          have d12 : f 45 = .bool true := hF 12 (by kernel_rfl)
          have d15 : f 48 = .int .u64 (KB : Int) := hF 15 (by kernel_rfl)
          have d20 : f 53 = .int .u64 (KB : Int) := hF 20 (by kernel_rfl)
          clear hF
          rw [if_pos (by rw [wanted_val (g := 12) (d := 45) (b := true) (c := true) rfl (by kernel_rfl) (show some (f 45) = some (.bool true) from congrArg some d12)]; rfl)]
          dsimp only at hK ⊢
          generalize f 45 = v45 at *
          generalize f 48 = v48 at *
          generalize f 53 = v53 at *
          subst d12
          subst d15
          subst d20
          go_simp
          exact hK.out _ _ hG rfl (fun _ _ _ h => h)
        · refine StepA.guarded rfl ?_
          intro f w1 hG hF K hK
          have d12 : f 45 = .bool true := hF 12 (by kernel_rfl)
          have d21 : f 54 = .bool true := hF 21 (by kernel_rfl)
          clear hF
          dsimp only at hK ⊢
          generalize f 45 = v45 at *
          generalize f 54 = v54 at *
          subst d12
          subst d21
          go_simp
          exact hK.out _ _ hG rfl (fun _ _ _ h => h)
        · refine StepA.guarded rfl ?_
          intro f w1 hG hF K hK
          have d22 : f 55 = .bool true := hF 22 (by kernel_rfl)
          clear hF
          dsimp only at hK ⊢
          generalize f 55 = v55 at *
          subst d22
          go_simp
          exact hK.out _ _ hG rfl (fun _ _ _ h => h)
        · intro f w1 hG hF K hK
          have d23 : f 56 = .bool true := hF 23 (by kernel_rfl)
          clear hF
          rw [if_pos (by rw [wanted_val (g := 23) (d := 56) (b := true) (c := true) rfl (by kernel_rfl) (show some (f 56) = some (.bool true) from congrArg some d23)]; rfl)]
          dsimp only at hK ⊢
          generalize f 56 = v56 at *
          subst d23
          go_simp
          exact hK.out _ _ hG rfl (fun _ _ _ h => h)
        · intro f w1 hG hF K hK
          have d23 : f 56 = .bool true := hF 23 (by kernel_rfl)
          clear hF
          rw [if_pos (by rw [wanted_val (g := 23) (d := 56) (b := true) (c := true) rfl (by kernel_rfl) (show some (f 56) = some (.bool true) from congrArg some d23)]; rfl)]
          dsimp only at hK ⊢
          generalize f 56 = v56 at *
          subst d23
          go_simp
          exact hK.out _ _ hG rfl (fun _ _ _ h => h)
        · intro f w1 hG hF K hK
          have d23 : f 56 = .bool true := hF 23 (by kernel_rfl)
          have d24 : f 57 = .int .i64 x := hF 24 (by kernel_rfl)
          have d25 : f 58 = .int .i64 y := hF 25 (by kernel_rfl)
          clear hF
          rw [if_pos (by rw [wanted_val (g := 23) (d := 56) (b := true) (c := true) rfl (by kernel_rfl) (show some (f 56) = some (.bool true) from congrArg some d23)]; rfl)]
          dsimp only at hK ⊢
          generalize f 56 = v56 at *
          generalize f 57 = v57 at *
          generalize f 58 = v58 at *
          subst d23
          subst d24
          subst d25
          go_simp
          refine (CQ.out _ hG).mono ?_
          rintro e w20 ⟨b, rfl, hbl, hbe, hb20⟩
          exact hK.out _ _ (hG.trans (hb20.mono hG.size)) ⟨b, rfl, hbl, hbe⟩ (fun _ _ _ h => h)
        · intro f w1 hG hF K hK
          have d23 : f 56 = .bool true := hF 23 (by kernel_rfl)
          obtain ⟨b26, d26, l26, e26⟩ : ∃ b, f 59 = .float .f64 b ∧ b < 18446744073709551616 ∧ bitsN b = KR := hF 26 (by kernel_rfl)
          clear hF
          rw [if_pos (by rw [wanted_val (g := 23) (d := 56) (b := true) (c := true) rfl (by kernel_rfl) (show some (f 56) = some (.bool true) from congrArg some d23)]; rfl)]
          dsimp only at hK ⊢
          generalize f 56 = v56 at *
          generalize f 59 = v59 at *
          subst d23
          subst d26
          go_simp
          refine (bits_q _ l26 _).mono ?_
          rintro e w20 ⟨rfl, rfl⟩
          rw [e26]
          exact hK.out _ _ hG rfl (fun _ _ _ h => h)
        · intro f w1 hG hF K hK
          have d23 : f 56 = .bool true := hF 23 (by kernel_rfl)
          clear hF
          rw [if_pos (by rw [wanted_val (g := 23) (d := 56) (b := true) (c := true) rfl (by kernel_rfl) (show some (f 56) = some (.bool true) from congrArg some d23)]; rfl)]
          dsimp only at hK ⊢
          generalize f 56 = v56 at *
          subst d23
          go_simp
          exact hK.out _ _ hG rfl (fun _ _ _ h => h)
        · intro f w1 hG hF K hK
          have d23 : f 56 = .bool true := hF 23 (by kernel_rfl)
          have d28 : f 61 = .float .f64 qb := hF 28 (by kernel_rfl)
          clear hF
          rw [if_pos (by rw [wanted_val (g := 23) (d := 56) (b := true) (c := true) rfl (by kernel_rfl) (show some (f 56) = some (.bool true) from congrArg some d23)]; rfl)]
          dsimp only at hK ⊢
          generalize f 56 = v56 at *
          generalize f 61 = v61 at *
          subst d23
          subst d28
          go_simp
          exact hK.out _ _ hG rfl (fun _ _ _ h => h)
        · intro f w1 hG hF K hK
          have d23 : f 56 = .bool true := hF 23 (by kernel_rfl)
          have d29 : f 62 = .int .u64 (qb : Int) := hF 29 (by kernel_rfl)
          clear hF
          rw [if_pos (by rw [wanted_val (g := 23) (d := 56) (b := true) (c := true) rfl (by kernel_rfl) (show some (f 56) = some (.bool true) from congrArg some d23)]; rfl)]
          dsimp only at hK ⊢
          generalize f 56 = v56 at *
          generalize f 62 = v62 at *
          subst d23
          subst d29
          go_simp
          refine (CW.out _).mono ?_
          rintro e w20 ⟨rfl, rfl⟩
          exact hK.out _ _ hG rfl (fun _ _ _ h => h)
        · intro f w1 hG hF K hK
          have d23 : f 56 = .bool true := hF 23 (by kernel_rfl)
          have d27 : f 60 = .int .u64 (KR : Int) := hF 27 (by kernel_rfl)
          have d30 : f 63 = .int .u64 (KR : Int) := hF 30 (by kernel_rfl)
          clear hF
          rw [if_pos (by rw [wanted_val (g := 23) (d := 56) (b := true) (c := true) rfl (by kernel_rfl) (show some (f 56) = some (.bool true) from congrArg some d23)]; rfl)]
          dsimp only at hK ⊢
          generalize f 56 = v56 at *
          generalize f 60 = v60 at *
          generalize f 63 = v63 at *
          subst d23
          subst d27
          subst d30
          go_simp
          exact hK.out _ _ hG rfl (fun _ _ _ h => h)
        · refine StepA.guarded rfl ?_
          intro f w1 hG hF K hK
          have d23 : f 56 = .bool true := hF 23 (by kernel_rfl)
          have d31 : f 64 = .bool true := hF 31 (by kernel_rfl)
          clear hF
          dsimp only at hK ⊢
          generalize f 56 = v56 at *
          generalize f 64 = v64 at *
          subst d23
          subst d31
          go_simp
          exact hK.out _ _ hG rfl (fun _ _ _ h => h)
        · refine StepA.guarded rfl ?_
          intro f w1 hG hF K hK
          have d32 : f 65 = .bool true := hF 32 (by kernel_rfl)
          clear hF
          dsimp only at hK ⊢
          generalize f 65 = v65 at *
          subst d32
          go_simp
          exact hK.out _ _ hG rfl (fun _ _ _ h => h)
        · intro f w20 hG hF
          have e6 : f 6 = .bool true := hF 33 (by decide)
          have H1 := Lib.hid (below_step B8.out hG)
          clear hF hG
          dsimp only
          generalize f 33 = v33
          generalize f 34 = v34
          generalize f 35 = v35
          generalize f 36 = v36
          generalize f 37 = v37
          generalize f 38 = v38
          generalize f 39 = v39
          generalize f 40 = v40
          generalize f 41 = v41
          generalize f 42 = v42
          generalize f 43 = v43
          generalize f 44 = v44
          generalize f 45 = v45
          generalize f 46 = v46
          generalize f 47 = v47
          generalize f 48 = v48
          generalize f 49 = v49
          generalize f 50 = v50
          generalize f 51 = v51
          generalize f 52 = v52
          generalize f 53 = v53
          generalize f 54 = v54
          generalize f 55 = v55
          generalize f 56 = v56
          generalize f 57 = v57
          generalize f 58 = v58
          generalize f 59 = v59
          generalize f 60 = v60
          generalize f 61 = v61
          generalize f 62 = v62
          generalize f 63 = v63
          generalize f 64 = v64
          generalize f 65 = v65
          generalize f 6 = v6 at *
          subst e6
          go_wp2_with fail
          go_ret
          exact ⟨rfl, H1.out⟩
end Go.Proofs.YtjlkmfnkpnmbiaaDoor
