/- The walk of the statement that a map's form, free blocks and runs are told rightly. Condition: the bytes lie in memory. -/
import Derived.Test.YtpkajmgfechhhaaGives
import Derived.Test.YtpkajmgfechhhaaNewM
namespace Go.Proofs.Ytpkajmgfechhhaa
open Go.RowKit

theorem Seg.seg_pair {w : World} {base : Nat} {e : TypeId} {A : Option Addr} {c : Nat} {R : List (Nat × Nat)} (h : w.ownsRow base e 2 (.slice A R.length c) R.length (prs R)) : Seg w A (prs R) := fun hn => by
  have h0 : 0 < R.length := by
    rcases R with _ | ⟨r, R⟩
    · exact absurd rfl hn
    · simp
  obtain ⟨g, rfl, _, hl⟩ := own_at h h0
  refine ⟨g, 0, rfl, hl, fun i hi => ?_⟩
  rw [prs_length] at hi
  rw [Nat.zero_add]
  exact h.cellAt i hi
theorem seg_at {w : World} {A : Option Addr} {R : List (Nat × Nat)} (h : Seg w A (prs R)) (k : Nat) (hk : k < R.length) :
    ∃ b o, A = some ⟨b, o, none⟩ ∧ w.cell? ⟨b, o + k * 2, none⟩ = some (.int .i64 (R[k].1 : Int)) ∧ w.cell? ⟨b, o + k * 2 + 1, none⟩ = some (.int .i64 (R[k].2 : Int)) := by
  obtain ⟨h1, h2⟩ := prs_get R k hk
  obtain ⟨b, o, rfl, _, hc, _⟩ := h.pick (k := 0) (by rw [prs_length]; omega)
  refine ⟨b, o, rfl, ?_, ?_⟩
  · rw [hc (k * 2) (by rw [prs_length]; omega), Nat.mul_comm]; exact h1
  · rw [Nat.add_assoc, hc (k * 2 + 1) (by rw [prs_length]; omega), Nat.mul_comm]; exact h2
theorem eq_pair (a b c d : Int) (w : World) : (Op.equalIn 10000 45 (.agg #[.int .i64 a, .int .i64 b]) (.agg #[.int .i64 c, .int .i64 d])).run Try.prog w = .ok (a == c && b == d) w := by
  have u3 := Try.underlying3
  have a3 := Try.isAgg3
  have z3 := Try.sizeOf3
  rw [show (10000 : Nat) = 9999 + 1 from rfl, Op.equalIn]
  simp only [Sem.run_bind, run_underlying Try.underlying45, Result.andThen_ok]
  simp only [Std.Legacy.Range.forIn_eq_forIn_range', Std.Legacy.Range.size, Nat.sub_zero, Nat.add_sub_cancel, Nat.div_one, List.range'_succ, List.range'_zero, List.forIn_cons, List.forIn_nil]
  go_simp
  by_cases h1 : a = c <;> by_cases h2 : b = d <;> simp [h1, h2]
theorem bls_false (T : Nat) : bls (fun _ => false) T = List.replicate T (.bool false) := by
  apply List.ext_getElem (by rw [bls_length, List.length_replicate])
  intro k h1 h2
  rw [bls_length] at h1
  rw [bls_get _ _ _ h1, List.getElem_replicate]
set_option maxRecDepth 100000 in
set_option maxHeartbeats 4000000 in
theorem maps_any (T : Int) (A : Option Addr) (n c : Nat) (l : List Nat) (hn : n = l.length) (hz : n ≤ 140737488355000) (w : World) (hA : Seg w A (u8s l)) (hl : ∀ x ∈ l, x < 256) :
    Calls Try.prog 3 #[.int .i64 T, .slice A n c] w fun e w' => e = .returned (.bool true) ∧ Below w.heap.size w w' := by
  obtain ⟨i0, hi0, hz0, hz1, hz2⟩ := info_parts info_bool
  have HN := Lib.hid hn
  have HL := Lib.hid hl
  have HA := Lib.hid hA
  have HSm := Lib.hid (fun A1 c1 w (h : Seg w A1 (u8s l)) (h2 : Seg w A (u8s l)) => same_u8 A1 A n n c1 c l l hn hn w h h2 (by omega) (by omega))
  rw [show decide (l = l) = true by simp] at HSm
  have hle := chk_le T l
  have HCk := Lib.hid (fun A1 c1 w (h : Seg w A1 (u8s l)) => check_any T A1 n c1 l hn hz hl w h)
  clear hn hl hA
  go_enter Try.func3, Try.ntmps3
  go_wp2_with fail
  refine (of_ref T A n c l HN.out hz HL.out _ HA.out).mono ?_
  rintro e w1 (⟨hE, v, rfl, o1, b1⟩ | ⟨hE, rfl, b1⟩)
  · obtain ⟨A0, c0, rfl, hc0, s1⟩ := own_shape o1
    obtain ⟨t, rfl⟩ : ∃ t : Nat, T = (t : Int) := ⟨T.toNat, by have := (chk_pk T l HL.out hE).1; omega⟩
    rw [Int.toNat_natCast] at s1 ⊢
    have ht : t ≤ 2048 := by have := (chk_pk _ l HL.out hE).2.1; omega
    have HE0 := Lib.hid hE
    have B1 := Lib.hid b1
    have S1 := Lib.hid s1
    obtain ⟨f, hf⟩ : ∃ f, f = fOf t l := ⟨_, rfl⟩
    rw [← hf] at S1
    have HFf := Lib.hid hf.symm
    have hd1 : decide ((t : Int) < 0) = false := by rw [decide_eq_false_iff_not]; omega
    have hd2 : decide ((2048 : Int) < (t : Int)) = false := by rw [decide_eq_false_iff_not]; omega
    clear hE o1 b1 s1 hf hle
    go_wp2_with fail
    refine (of_map (t : Int) A n c l HN.out hz _ (HA.out.bel B1.out)).mono ?_
    rintro e w2 ⟨A2, c2, rfl, hc2, s2, b2⟩
    have a3 : Below w2.heap.size w2 (w2.alloc (.cells #[.int .i64 (t : Int), .slice A2 n c2] 27)) := (Below.refl _ _).alloc (Nat.le_refl _) _
    have B3 := Lib.hid (below_step (below_step B1.out b2) a3)
    have S3 := Lib.hid (s2.bel a3)
    have X3 := Lib.hid (Bk.new w2 27 #[.int .i64 (t : Int), .slice A2 n c2])
    have A13 := Lib.hid (below_step b2 a3)
    clear s2 b2 a3
    have x0 := X3.out.cell 0
    have x1 := X3.out.cell 1
    go_wp2_with fail
    generalize w2.alloc (.cells #[.int .i64 (t : Int), .slice A2 n c2] 27) = w3 at *
    generalize w2.heap.size = gx at *
    have hM3 := (MapIn.of_chk HN.out hc2 HL.out S3.out HE0.out).1
    rw [Int.toNat_natCast, HFf.out] at hM3
    have M3 := Lib.hid hM3
    clear hM3
    refine (free_ok t f A2 n c2 _ M3.out).mono ?_
    rintro e w4 ⟨rfl, b4⟩
    have B4 := Lib.hid (below_step B3.out b4)
    have M4 := Lib.hid (M3.out.bel b4)
    have X4 := Lib.hid (X3.out.bel b4)
    have S4 := Lib.hid (S3.out.bel b4)
    have A14 := Lib.hid (below_step A13.out b4)
    clear b4 x0 x1
    have x0 := X4.out.cell 0
    have x1 := X4.out.cell 1
    go_wp2_with fail
    refine (runs_ok t f A2 n c2 _ M4.out).mono ?_
    rintro e w5 ⟨v5, rfl, o5, b5⟩
    obtain ⟨A5, c5, rfl, hc5⟩ := own_slice o5
    have B5 := Lib.hid (below_step B4.out b5)
    have X5 := Lib.hid (X4.out.bel b5)
    have S5 := Lib.hid (S4.out.bel b5)
    have A15 := Lib.hid (below_step A14.out b5)
    have R5 := Lib.hid (Seg.seg_pair o5)
    have hlen := runsN_length f t
    have hfl := frees_length f t
    clear b5 o5 x0 x1
    obtain ⟨R, hR⟩ : ∃ R, R = runsN f t := ⟨_, rfl⟩
    rw [← hR] at R5 hlen hc5
    have HRR := Lib.hid hR
    clear hR
    go_wp2_with fail
    rw [← HRR.out]
    refine (new_ok t n ht M4.out.len _).mono ?_
    rintro e w6 ⟨A6, c6, rfl, m6, b6⟩
    have a7 : Below w6.heap.size w6 (w6.alloc (.cells #[.int .i64 (t : Int), .slice A6 n c6] 27)) := (Below.refl _ _).alloc (Nat.le_refl _) _
    have B7 := Lib.hid (below_step (below_step B5.out b6) a7)
    have X7 := Lib.hid ((X5.out.bel b6).bel a7)
    have S7 := Lib.hid ((S5.out.bel b6).bel a7)
    have R7 := Lib.hid ((R5.out.bel b6).bel a7)
    have A17 := Lib.hid (below_step (below_step A15.out b6) a7)
    have M7 := Lib.hid (m6.bel a7)
    have N7 := Lib.hid (Bk.new w6 27 #[.int .i64 (t : Int), .slice A6 n c6])
    clear b6 a7 m6
    go_wp2_with fail
    generalize w6.alloc (.cells #[.int .i64 (t : Int), .slice A6 n c6] 27) = w7 at *
    generalize w6.heap.size = gn at *
    go_wp2_with fail
    refine (awake_map _).mono ?_
    rintro e w8 ⟨rfl, b8⟩
    have B8 := Lib.hid (below_step B7.out b8)
    have S8 := Lib.hid (S7.out.bel b8)
    have X8 := Lib.hid (X7.out.bel b8)
    have x0 := X8.out.cell 0
    have x1 := X8.out.cell 1
    have A78 := Lib.hid b8
    clear b8
    go_wp2_with fail
    refine (HCk.out A2 c2 _ S8.out).mono ?_
    rintro e w9 ⟨rfl, b9⟩
    rw [HE0.out]
    have B9 := Lib.hid (below_step B8.out b9)
    have S9 := Lib.hid (S8.out.bel b9)
    have y1 := (X8.out.bel b9).cell 1
    have A79 := Lib.hid (below_step A78.out b9)
    clear b9 x0 x1
    go_wp2_with fail
    refine (HSm.out A2 c2 _ S9.out (HA.out.bel B9.out)).mono ?_
    rintro e w10 ⟨rfl, b10⟩
    have B10 := Lib.hid (below_step B9.out b10)
    have A710 := Lib.hid (below_step A79.out b10)
    clear b10 y1
    have hmk : ∀ w : World, (Instr.makeSlice 23 (.int .i64 (t : Int)) (.int .i64 (t : Int))).run Try.prog w = .ok (.slice (some ⟨w.heap.size, 0, none⟩) t t) (w.alloc (.cells (madeCells #[.bool false] t) 4)) := fun w => by
      have := run_make (P := Try.prog) w 23 4 i0 (.bool false) Try.underlying23 hi0 hz0 .i64 .i64 t t (by omega) (by omega) (by rw [hz2]; omega) (by omega)
      simpa [hz1, Value.cells] using this
    have hS0 : GvW w gn #[.int .i64 (t : Int), .slice A6 n c6] none [] A6 (u8s (pk (fun _ => false) n)) w10 := ⟨N7.out.bel A710.out, Seg.nil _ _, M7.out.seg.bel A710.out, B10.out⟩
    have H0' := Lib.hid hS0
    have hS := GvW.S hS0
    have HP := Lib.hid (fun (w' : World) (h : GvW w gn #[.int .i64 (t : Int), .slice A6 n c6] none [] A6 (u8s (pk (fun _ => false) n)) w') => (⟨M7.out.le, M7.out.len, M7.out.flat, h.segx, M7.out.cap⟩ : MapIn w' t (fun _ => false) A6 n c6))
    have HMd := Lib.hid (fun (w : World) => show Seg (w.alloc (.cells (madeCells #[.bool false] t) 4)) (some ⟨w.heap.size, 0, none⟩) (bls (fun _ => false) t) by
      have h := seg_lit w (madeCells #[.bool false] t) 4 (0, 0)
      rwa [toList_madeCells_one, ← bls_false] at h)
    have HAl := Lib.hid (fun (w : World) => show Below w.heap.size w (w.alloc (.cells (madeCells #[.bool false] t) 4)) from (Below.refl _ _).alloc (Nat.le_refl _) _)
    clear hS0
    go_wp2_with fail
    go_region_held3 (fun w' => w'.cell? ⟨gn, 0, none⟩ = some (.int .i64 (t : Int)) ∧ w'.cell? ⟨gn, 1, none⟩ = some (.slice A6 n c6) ∧ GvW w gn #[.int .i64 (t : Int), .slice A6 n c6] none [] A6 (u8s (pk (fun _ => false) n)) w')
      (first
        | (with_reducible assumption)
        | (with_reducible exact GvW.S (H0'.out.drew))
        | (with_reducible exact GvW.S (H0'.out.drew.step (HAl.out _)))
        | (with_reducible exact GvW.S ((H0'.out.step (HAl.out _)).drew))
        | (with_reducible exact GvW.S (H0'.out.drew.step bb)))
      (first
        | (go_at_call 17; refine (is_map t (fun _ => false) (fun _ => false) A6 _ n c6 _ (fun i _ => rfl) _ (HP.out _ (H0'.out.drew.step (HAl.out _))) (HMd.out _)).mono ?_; rintro e wc ⟨rfl, bc⟩; have bb := below_step (HAl.out _) bc; clear bc))
    have BA := Lib.hid ((H0'.out.drew.step bb).bel)
    have A1A := Lib.hid (below_step (below_step (below_step A17.out A710.out) ((Below.refl _ _).drew)) bb)
    have S1A := Lib.hid (S1.out.bel A1A.out)
    have RA := Lib.hid ((R7.out.bel A710.out).bel (below_step ((Below.refl _ w10).drew) bb))
    rename_i hHeld
    clear hHeld hS H0' HP bb hmk HMd HAl
    go_wp2_with fail
    refine (runs_ref f t A0 c0 ht _ S1A.out).mono ?_
    rintro e w11 ⟨v11, rfl, o11, b11⟩
    rw [← HRR.out] at o11
    obtain ⟨A11, c11, rfl, hc11⟩ := own_slice o11
    have B11 := Lib.hid (below_step BA.out b11)
    have S11 := Lib.hid (S1A.out.bel b11)
    have RB := Lib.hid (RA.out.bel b11)
    have RC := Lib.hid (Seg.seg_pair o11)
    clear b11 o11
    go_wp2_with fail
    refine (free_ref f t A0 c0 ht _ S11.out).mono ?_
    rintro e w12 ⟨v12, rfl, o12, b12⟩
    obtain ⟨A12, c12, rfl, hc12⟩ := own_slice o12
    have B12 := Lib.hid (below_step B11.out b12)
    have RD := Lib.hid (RB.out.bel b12)
    have RE := Lib.hid (RC.out.bel b12)
    clear b12 o12
    generalize hFF : (frees f t).length = F at *
    go_wp2_with fail
    go_loopw [112] (fun i wr => ∃ k : Nat, k ≤ R.length ∧ i = .int .i64 k ∧ Below w12.heap.size w12 wr) (fun i _ => R.length - (intOf i).toNat)
    case atStart => exact ⟨0, by omega, rfl, Below.refl _ _⟩
    case round =>
      obtain ⟨k, hk, rfl, hb⟩ := hrel
      by_cases hlt : k < R.length
      · obtain ⟨bA, oA, rfl, ca0, ca1⟩ := seg_at (RD.out.bel hb) k hlt
        obtain ⟨bB, oB, rfl, cb0, cb1⟩ := seg_at (RE.out.bel hb) k hlt
        have i1 : (0 : Int) ≤ (k : Int) := by omega
        have i2 : (k : Int) < (R.length : Int) := by omega
        have HB := Lib.hid hb
        clear hb
        generalize R[k] = r at *
        have hpe : ∀ w : World, (binOp .neq 45 (.agg #[.int .i64 ((r.1 : Nat) : Int), .int .i64 ((r.2 : Nat) : Int)]) (.agg #[.int .i64 ((r.1 : Nat) : Int), .int .i64 ((r.2 : Nat) : Int)])).run Try.prog w = .ok (.bool false) w := fun w => by
          rw [run_neq_struct, eq_pair]
          simp
        have hgd : Try.prog.eqGuardType Try.prog.depth 45 = false := by kernel_rfl
        go_wp2_with fail
        go_quiet (fail)
        go_wp2_with fail
        go_roundw
        case rel => exact ⟨k + 1, by omega, by go_num, below_drewN HB.out _⟩
        case measure => simp [intOf]; omega
      · have BF := Lib.hid (below_step B12.out hb)
        clear hb
        have hkl : k = R.length := by omega
        subst hkl
        go_wp2_with fail
        go_ret
        exact ⟨rfl, BF.out⟩
  · have hne : (((chk T l : Nat) : Int) != 0) = true := by rw [bne_iff_ne]; omega
    have hnn : (((chk T l : Nat) : Int) != ((chk T l : Nat) : Int)) = false := by simp
    have H0 := Lib.hid hE
    have B1 := Lib.hid b1
    have HFn := Lib.hid (fun w A c hS => free_no T A n c _ l HN.out hz HL.out w hS rfl hE)
    have HRn := Lib.hid (fun w A c hS => runs_no T A n c _ l HN.out hz HL.out w hS rfl hE)
    have A11 := Lib.hid (Below.refl w1.heap.size w1)
    clear hE b1
    by_cases hT : 0 ≤ T ∧ T ≤ 2048
    · obtain ⟨t, rfl⟩ : ∃ t : Nat, T = (t : Int) := ⟨T.toNat, by omega⟩
      have ht : t ≤ 2048 := by omega
      obtain ⟨n6, hn6⟩ : ∃ n6, n6 = (t + 7) / 8 := ⟨_, rfl⟩
      have HN6 := Lib.hid hn6
      have hd1 : decide ((t : Int) < 0) = false := by rw [decide_eq_false_iff_not]; omega
      have hd2 : decide ((2048 : Int) < (t : Int)) = false := by rw [decide_eq_false_iff_not]; omega
      clear hT hn6
      generalize chk (t : Int) l = E at *
      go_wp2_with fail
      refine (of_map (t : Int) A n c l HN.out hz _ (HA.out.bel B1.out)).mono ?_
      rintro e w2 ⟨A2, c2, rfl, hc2, s2, b2⟩
      have a3 : Below w2.heap.size w2 (w2.alloc (.cells #[.int .i64 (t : Int), .slice A2 n c2] 27)) := (Below.refl _ _).alloc (Nat.le_refl _) _
      have B3 := Lib.hid (below_step (below_step B1.out b2) a3)
      have S3 := Lib.hid (s2.bel a3)
      have X3 := Lib.hid (Bk.new w2 27 #[.int .i64 (t : Int), .slice A2 n c2])
      have A13 := Lib.hid (below_step b2 a3)
      clear s2 b2 a3
      have x0 := X3.out.cell 0
      have x1 := X3.out.cell 1
      go_wp2_with fail
      generalize w2.alloc (.cells #[.int .i64 (t : Int), .slice A2 n c2] 27) = w3 at *
      generalize w2.heap.size = gx at *
      refine (HFn.out _ A2 c2 S3.out).mono ?_
      rintro e w4 ⟨rfl, b4⟩
      have B4 := Lib.hid (below_step B3.out b4)
      have X4 := Lib.hid (X3.out.bel b4)
      have S4 := Lib.hid (S3.out.bel b4)
      clear b4 x0 x1
      have x0 := X4.out.cell 0
      have x1 := X4.out.cell 1
      go_wp2_with fail
      refine (HRn.out _ A2 c2 S4.out).mono ?_
      rintro e w5 ⟨rfl, b5⟩
      have B5 := Lib.hid (below_step B4.out b5)
      have X5 := Lib.hid (X4.out.bel b5)
      have S5 := Lib.hid (S4.out.bel b5)
      clear b5 x0 x1
      go_wp2_with fail
      refine (new_ok t n6 ht HN6.out _).mono ?_
      rintro e w6 ⟨A6, c6, rfl, m6, b6⟩
      have a7 : Below w6.heap.size w6 (w6.alloc (.cells #[.int .i64 (t : Int), .slice A6 n6 c6] 27)) := (Below.refl _ _).alloc (Nat.le_refl _) _
      have B7 := Lib.hid (below_step (below_step B5.out b6) a7)
      have X7 := Lib.hid ((X5.out.bel b6).bel a7)
      have S7 := Lib.hid ((S5.out.bel b6).bel a7)
      have M7 := Lib.hid (m6.bel a7)
      have N7 := Lib.hid (Bk.new w6 27 #[.int .i64 (t : Int), .slice A6 n6 c6])
      clear b6 a7 m6
      go_wp2_with fail
      generalize w6.alloc (.cells #[.int .i64 (t : Int), .slice A6 n6 c6] 27) = w7 at *
      generalize w6.heap.size = gn at *
      go_wp2_with fail
      refine (awake_map _).mono ?_
      rintro e w8 ⟨rfl, b8⟩
      have B8 := Lib.hid (below_step B7.out b8)
      have S8 := Lib.hid (S7.out.bel b8)
      have X8 := Lib.hid (X7.out.bel b8)
      have x0 := X8.out.cell 0
      have x1 := X8.out.cell 1
      have A78 := Lib.hid b8
      clear b8
      go_wp2_with fail
      refine (HCk.out A2 c2 _ S8.out).mono ?_
      rintro e w9 ⟨rfl, b9⟩
      have B9 := Lib.hid (below_step B8.out b9)
      have S9 := Lib.hid (S8.out.bel b9)
      have y1 := (X8.out.bel b9).cell 1
      have A79 := Lib.hid (below_step A78.out b9)
      clear b9 x0 x1
      go_wp2_with fail
      refine (HSm.out A2 c2 _ S9.out (HA.out.bel B9.out)).mono ?_
      rintro e w10 ⟨rfl, b10⟩
      have B10 := Lib.hid (below_step B9.out b10)
      have A710 := Lib.hid (below_step A79.out b10)
      clear b10 y1
      have hmk : ∀ w : World, (Instr.makeSlice 23 (.int .i64 (t : Int)) (.int .i64 (t : Int))).run Try.prog w = .ok (.slice (some ⟨w.heap.size, 0, none⟩) t t) (w.alloc (.cells (madeCells #[.bool false] t) 4)) := fun w => by
        have := run_make (P := Try.prog) w 23 4 i0 (.bool false) Try.underlying23 hi0 hz0 .i64 .i64 t t (by omega) (by omega) (by rw [hz2]; omega) (by omega)
        simpa [hz1, Value.cells] using this
      have hS0 : GvW w gn #[.int .i64 (t : Int), .slice A6 n6 c6] none [] A6 (u8s (pk (fun _ => false) n6)) w10 := ⟨N7.out.bel A710.out, Seg.nil _ _, M7.out.seg.bel A710.out, B10.out⟩
      have H0' := Lib.hid hS0
      have hS := GvW.S hS0
      have HP := Lib.hid (fun (w' : World) (h : GvW w gn #[.int .i64 (t : Int), .slice A6 n6 c6] none [] A6 (u8s (pk (fun _ => false) n6)) w') => (⟨M7.out.le, M7.out.len, M7.out.flat, h.segx, M7.out.cap⟩ : MapIn w' t (fun _ => false) A6 n6 c6))
      have HMd := Lib.hid (fun (w : World) => show Seg (w.alloc (.cells (madeCells #[.bool false] t) 4)) (some ⟨w.heap.size, 0, none⟩) (bls (fun _ => false) t) by
        have h := seg_lit w (madeCells #[.bool false] t) 4 (0, 0)
        rwa [toList_madeCells_one, ← bls_false] at h)
      have HAl := Lib.hid (fun (w : World) => show Below w.heap.size w (w.alloc (.cells (madeCells #[.bool false] t) 4)) from (Below.refl _ _).alloc (Nat.le_refl _) _)
      clear hS0
      go_wp2_with fail
      go_region_held3 (fun w' => w'.cell? ⟨gn, 0, none⟩ = some (.int .i64 (t : Int)) ∧ w'.cell? ⟨gn, 1, none⟩ = some (.slice A6 n6 c6) ∧ GvW w gn #[.int .i64 (t : Int), .slice A6 n6 c6] none [] A6 (u8s (pk (fun _ => false) n6)) w')
        (first
          | (with_reducible assumption)
          | (with_reducible exact GvW.S (H0'.out.drew))
          | (with_reducible exact GvW.S (H0'.out.drew.step (HAl.out _)))
          | (with_reducible exact GvW.S ((H0'.out.step (HAl.out _)).drew))
          | (with_reducible exact GvW.S (H0'.out.drew.step bb)))
        (first
          | (go_at_call 17; refine (is_map t (fun _ => false) (fun _ => false) A6 _ n6 c6 _ (fun i _ => rfl) _ (HP.out _ (H0'.out.drew.step (HAl.out _))) (HMd.out _)).mono ?_; rintro e wc ⟨rfl, bc⟩; have bb := below_step (HAl.out _) bc; clear bc))
      have BA := Lib.hid ((H0'.out.drew.step bb).bel)
      clear hS
      go_wp2_with fail
      go_ret
      exact ⟨rfl, BA.out⟩
    · have HNo := Lib.hid (fun w => new_no T hT w)
      have hTT : T < 0 ∨ ¬ T < 0 ∧ 2048 < T := by omega
      clear hT
      generalize chk T l = E at *
      go_wp2_with fail
      refine (of_map T A n c l HN.out hz _ (HA.out.bel B1.out)).mono ?_
      rintro e w2 ⟨A2, c2, rfl, hc2, s2, b2⟩
      have a3 : Below w2.heap.size w2 (w2.alloc (.cells #[.int .i64 T, .slice A2 n c2] 27)) := (Below.refl _ _).alloc (Nat.le_refl _) _
      have B3 := Lib.hid (below_step (below_step B1.out b2) a3)
      have S3 := Lib.hid (s2.bel a3)
      have X3 := Lib.hid (Bk.new w2 27 #[.int .i64 T, .slice A2 n c2])
      have A13 := Lib.hid (below_step b2 a3)
      clear s2 b2 a3
      have x0 := X3.out.cell 0
      have x1 := X3.out.cell 1
      go_wp2_with fail
      generalize w2.alloc (.cells #[.int .i64 T, .slice A2 n c2] 27) = w3 at *
      generalize w2.heap.size = gx at *
      refine (HFn.out _ A2 c2 S3.out).mono ?_
      rintro e w4 ⟨rfl, b4⟩
      have B4 := Lib.hid (below_step B3.out b4)
      have X4 := Lib.hid (X3.out.bel b4)
      have S4 := Lib.hid (S3.out.bel b4)
      clear b4 x0 x1
      have x0 := X4.out.cell 0
      have x1 := X4.out.cell 1
      go_wp2_with fail
      refine (HRn.out _ A2 c2 S4.out).mono ?_
      rintro e w5 ⟨rfl, b5⟩
      have B5 := Lib.hid (below_step B4.out b5)
      have X5 := Lib.hid (X4.out.bel b5)
      have S5 := Lib.hid (S4.out.bel b5)
      clear b5 x0 x1
      go_wp2_with fail
      refine (HNo.out _).mono ?_
      rintro e w6 ⟨rfl, b6⟩
      have a7 : Below w6.heap.size w6 (w6.alloc (.cells #[.int .i64 0, .slice none 0 0] 27)) := (Below.refl _ _).alloc (Nat.le_refl _) _
      have B7 := Lib.hid (below_step (below_step B5.out b6) a7)
      have X7 := Lib.hid ((X5.out.bel b6).bel a7)
      have S7 := Lib.hid ((S5.out.bel b6).bel a7)
      have N7 := Lib.hid (Bk.new w6 27 #[.int .i64 0, .slice none 0 0])
      clear b6 a7
      go_wp2_with fail
      generalize w6.alloc (.cells #[.int .i64 0, .slice none 0 0] 27) = w7 at *
      generalize w6.heap.size = gn at *
      go_wp2_with fail
      refine (awake_map _).mono ?_
      rintro e w8 ⟨rfl, b8⟩
      have B8 := Lib.hid (below_step B7.out b8)
      have S8 := Lib.hid (S7.out.bel b8)
      have X8 := Lib.hid (X7.out.bel b8)
      have x0 := X8.out.cell 0
      have x1 := X8.out.cell 1
      have A78 := Lib.hid b8
      clear b8
      go_wp2_with fail
      refine (HCk.out A2 c2 _ S8.out).mono ?_
      rintro e w9 ⟨rfl, b9⟩
      have B9 := Lib.hid (below_step B8.out b9)
      have S9 := Lib.hid (S8.out.bel b9)
      have y1 := (X8.out.bel b9).cell 1
      have A79 := Lib.hid (below_step A78.out b9)
      clear b9 x0 x1
      go_wp2_with fail
      refine (HSm.out A2 c2 _ S9.out (HA.out.bel B9.out)).mono ?_
      rintro e w10 ⟨rfl, b10⟩
      have B10 := Lib.hid (below_step B9.out b10)
      have A710 := Lib.hid (below_step A79.out b10)
      clear b10 y1
      have z0 := (N7.out.bel A710.out).cell 0
      have z1 := (N7.out.bel A710.out).cell 1
      rcases hTT with h1 | ⟨h1, h2⟩
      all_goals
        go_wp2_with fail
        refine (zero_any _).mono ?_
        rintro e w11 ⟨rfl, b11⟩
        have B11 := Lib.hid (below_step B10.out b11)
        clear b11 z0 z1
        go_wp2_with fail
        go_ret
        exact ⟨rfl, B11.out⟩
end Go.Proofs.Ytpkajmgfechhhaa
