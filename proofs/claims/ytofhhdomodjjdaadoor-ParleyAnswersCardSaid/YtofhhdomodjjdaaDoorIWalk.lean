/- ParleyAnswers' walk. Condition: the table of powers of ten is laid. -/
import Derived.Test.YtofhhdomodjjdaaDoorIWrite
namespace Go.Proofs.YtofhhdomodjjdaaDoor
open Go.RowKit

theorem ext_left (x y : ByteArray) : (x ++ y).extract 0 x.size = x := ByteArray.extract_append_eq_left rfl
theorem ext_mid (x y z : ByteArray) : (x ++ y ++ z).extract x.size (x.size + y.size) = y := by
  rw [ByteArray.append_assoc]
  have h : (x ++ (y ++ z)).extract x.size (x.size + (y ++ z).size) = y ++ z := ByteArray.extract_append_eq_right rfl rfl
  have h2 : (y ++ z).extract 0 y.size = y := ext_left y z
  rw [← h, ByteArray.extract_extract] at h2
  have e : min (x.size + y.size) (x.size + (y ++ z).size) = x.size + y.size := by rw [ByteArray.size_append]; omega
  rw [e, Nat.add_zero] at h2
  exact h2
theorem ext_right (x y : ByteArray) : (x ++ y).extract x.size (x.size + y.size) = y := ByteArray.extract_append_eq_right rfl rfl
theorem run_back (w : World) (A : Option Addr) (n c : Nat) (s : ByteArray) (hn : n = s.size) (hA : Seg w A (Lib.strCells s)) : (convert 23 9 (.slice A n c)).run Tryd.prog w = .ok (.string s) w := by
  have hs : (⟨s.data.toList.toArray⟩ : ByteArray) = s := by rw [Array.toArray_toList]
  have hl : s.data.toList.length = n := by rw [hn, Array.length_toList]; rfl
  rcases hd : s.data.toList with _ | ⟨x, r⟩
  · rw [hd] at hl hs
    simp only [List.length_nil] at hl
    subst hl
    rw [← hs]
    cases A with
    | none => exact run_convert_bytes_nil (P := Tryd.prog) (w := w) 23 5 Tryd.underlying23 Tryd.underlying5 0 c 9 Tryd.underlying9
    | some ad => exact run_convert_bytes_back (P := Tryd.prog) w 23 9 5 ad c [] Tryd.underlying23 Tryd.underlying5 Tryd.underlying9 (fun j hj => absurd hj (by simp))
  · obtain ⟨b, off, rfl, hb, hc⟩ := hA (by unfold Lib.strCells; rw [hd]; simp)
    have := run_convert_bytes_back (P := Tryd.prog) w 23 9 5 ⟨b, off, none⟩ c s.data.toList Tryd.underlying23 Tryd.underlying5 Tryd.underlying9 (fun j hj => by
      rw [show ((⟨b, off, none⟩ : Addr).add j) = ⟨b, off + j, none⟩ by unfold Addr.add; split <;> simp_all]
      rw [hc j (by rw [Lib.strCells_length]; exact hj)]
      unfold Lib.strCells
      rw [List.getElem?_map, List.getElem?_eq_getElem hj]
      rfl)
    rw [hl, hs] at this
    exact this
/-- The head that the statement says. -/
def hdS (code : Int) (n : Nat) : ByteArray := httpS ++ intS code ++ ⟨#[32]⟩ ++ reasonN code ++ ⟨#[13, 10, 99, 111, 110, 116, 101, 110, 116, 45, 108, 101, 110, 103, 116, 104, 58, 32]⟩ ++ intS (n : Int) ++ ⟨#[13, 10, 13, 10]⟩
theorem ans_false (code : Int) (a : ByteArray) : ansS code a false = hdS code a.size ++ a := by
  have e1 : (⟨#[13, 10, 99, 111, 110, 116, 101, 110, 116, 45, 108, 101, 110, 103, 116, 104, 58, 32]⟩ : ByteArray) = ⟨#[13, 10]⟩ ++ lenS ++ ⟨#[58, 32]⟩ := by decide +kernel
  have e2 : (⟨#[13, 10, 13, 10]⟩ : ByteArray) = ⟨#[13, 10]⟩ ++ ⟨#[13, 10]⟩ := by decide +kernel
  have e3 : (⟨#[]⟩ : ByteArray) = ByteArray.empty := rfl
  unfold ansS hdS firstS fieldS
  rw [if_neg (by decide), e1, e2, e3]
  simp only [ByteArray.append_empty, ByteArray.append_assoc]
theorem ans_size (code : Int) (h0 : -9223372036854775808 ≤ code) (h1 : code ≤ 9223372036854775807) (a : ByteArray) (ha : a.size ≤ 2000) (s : Bool) : (ansS code a s).size ≤ 3000 ∧ 0 < (ansS code a s).size := by
  have := first_size code h0 h1
  have := intS_size (a.size : Int) (by omega) (by omega)
  have hq : (if s then fieldS conS cloS else ⟨#[]⟩ : ByteArray).size ≤ 30 := by cases s <;> decide +kernel
  unfold ansS
  rw [ByteArray.size_append, ByteArray.size_append, ByteArray.size_append, ByteArray.size_append, field_size]
  have e1 : (⟨#[13, 10]⟩ : ByteArray).size = 2 := rfl
  have e2 : lenS.size = 14 := rfl
  rw [e1, e2]
  omega
set_option maxRecDepth 100000 in
set_option maxHeartbeats 4000000 in
theorem answers_any (code : Int) (hc0 : -9223372036854775808 ≤ code) (hc1 : code ≤ 9223372036854775807) (a b : ByteArray) (w : World) (hP : Pows w) :
    Calls Tryd.prog 3 #[.int .i64 code, .string a, .string b] w fun e w' => e = .returned (.bool true) ∧ Below w.heap.size w w' := by
  have R200 := Lib.hid (show reasonN 200 = ⟨#[79, 75]⟩ from rfl)
  by_cases ha : 2000 < a.size
  · have j1 : (2000 : Int) < (a.size : Int) := by omega
    clear hP
    go_enter Tryd.func3, Tryd.ntmps3
    go_wp2_with fail
    refine (reason_any 200 w).mono ?_
    rintro e w1 ⟨rfl, rfl⟩
    rw [R200.out]
    go_wp2_with fail
    go_ret
    exact ⟨rfl, Below.refl _ _⟩
  have ja : ¬ (2000 : Int) < (a.size : Int) := by omega
  by_cases hb : 2000 < b.size
  · have j1 : (2000 : Int) < (b.size : Int) := by omega
    clear hP
    go_enter Tryd.func3, Tryd.ntmps3
    go_wp2_with fail
    refine (reason_any 200 w).mono ?_
    rintro e w1 ⟨rfl, rfl⟩
    rw [R200.out]
    go_wp2_with fail
    go_ret
    exact ⟨rfl, Below.refl _ _⟩
  have jb : ¬ (2000 : Int) < (b.size : Int) := by omega
  by_cases hc : code = 101
  · subst hc
    clear hP
    go_enter Tryd.func3, Tryd.ntmps3
    go_wp2_with fail
    refine (reason_any 200 w).mono ?_
    rintro e w1 ⟨rfl, rfl⟩
    rw [R200.out]
    go_wp2_with fail
    go_ret
    exact ⟨rfl, Below.refl _ _⟩
  have jc : (code == 101) = false := by simpa using hc
  have HC := Lib.hid hc
  clear hc
  obtain ⟨hx1, hx2⟩ := ans_size code hc0 hc1 a (by omega) false
  obtain ⟨hy1, hy2⟩ := ans_size code hc0 hc1 b (by omega) true
  have CX := Lib.hid (fun w1 (h : Pows w1) => write_any code hc0 hc1 HC.out a (by omega) false w1 h)
  have CY := Lib.hid (fun w1 (h : Pows w1) => write_any code hc0 hc1 HC.out b (by omega) true w1 h)
  have HA := Lib.hid (ans_false code a)
  obtain ⟨X, hX⟩ : ∃ X, X = ansS code a false := ⟨_, rfl⟩
  obtain ⟨Y, hY⟩ : ∃ Y, Y = ansS code b true := ⟨_, rfl⟩
  rw [← hX] at CX HA hx1 hx2
  rw [← hY] at CY hy1 hy2
  have HP := Lib.hid hP
  have CD := Lib.hid (fun w1 => digits_any code hc0 hc1 w1)
  have CR := Lib.hid (fun w1 => rreason_any code w1)
  have CL := Lib.hid (fun w1 => digits_any (a.size : Int) (by omega) (by omega) w1)
  have his := intS_size code hc0 hc1
  have hrs := reason_size code
  have hls := intS_size (a.size : Int) (by omega) (by omega)
  obtain ⟨D, hD⟩ : ∃ D, D = intS code := ⟨_, rfl⟩
  obtain ⟨R, hR⟩ : ∃ R, R = reasonN code := ⟨_, rfl⟩
  obtain ⟨E, hE⟩ : ∃ E, E = intS (a.size : Int) := ⟨_, rfl⟩
  have HH := Lib.hid (show hdS code a.size = httpS ++ D ++ ⟨#[32]⟩ ++ R ++ ⟨#[13, 10, 99, 111, 110, 116, 101, 110, 116, 45, 108, 101, 110, 103, 116, 104, 58, 32]⟩ ++ E ++ ⟨#[13, 10, 13, 10]⟩ by rw [hD, hR, hE]; rfl)
  rw [← hD] at CD his
  rw [← hR] at CR hrs
  rw [← hE] at CL hls
  obtain ⟨H, hH⟩ : ∃ H, H = hdS code a.size := ⟨_, rfl⟩
  rw [← hH] at HA HH
  clear hX hY hP HC hD hR hE hH
  have k1 : ∀ w' : World, (Op.stringOp .add ⟨#[72, 84, 84, 80, 47, 49, 46, 49, 32]⟩ D).run Tryd.prog w' = .ok (.string (httpS ++ D)) w' := fun w' => run_string_add_sum (P := Tryd.prog) w' _ _ (by show 9 + _ ≤ _; omega)
  have s1 : (httpS ++ D).size ≤ 30 := by rw [ByteArray.size_append]; show 9 + _ ≤ _; omega
  obtain ⟨S1, hS1⟩ : ∃ S, S = httpS ++ D := ⟨_, rfl⟩
  rw [← hS1] at k1 s1 HH
  have k2 : ∀ w' : World, (Op.stringOp .add S1 ⟨#[32]⟩).run Tryd.prog w' = .ok (.string (S1 ++ ⟨#[32]⟩)) w' := fun w' => run_string_add_sum (P := Tryd.prog) w' _ _ (by show _ + 1 ≤ _; omega)
  have s2 : (S1 ++ ⟨#[32]⟩).size ≤ 31 := by rw [ByteArray.size_append]; show _ + 1 ≤ _; omega
  obtain ⟨S2, hS2⟩ : ∃ S, S = S1 ++ ⟨#[32]⟩ := ⟨_, rfl⟩
  rw [← hS2] at k2 s2 HH
  have k3 : ∀ w' : World, (Op.stringOp .add S2 R).run Tryd.prog w' = .ok (.string (S2 ++ R)) w' := fun w' => run_string_add_sum (P := Tryd.prog) w' _ _ (by omega)
  have s3 : (S2 ++ R).size ≤ 62 := by rw [ByteArray.size_append]; omega
  obtain ⟨S3, hS3⟩ : ∃ S, S = S2 ++ R := ⟨_, rfl⟩
  rw [← hS3] at k3 s3 HH
  have k4 : ∀ w' : World, (Op.stringOp .add S3 ⟨#[13, 10, 99, 111, 110, 116, 101, 110, 116, 45, 108, 101, 110, 103, 116, 104, 58, 32]⟩).run Tryd.prog w' = .ok (.string (S3 ++ ⟨#[13, 10, 99, 111, 110, 116, 101, 110, 116, 45, 108, 101, 110, 103, 116, 104, 58, 32]⟩)) w' := fun w' => run_string_add_sum (P := Tryd.prog) w' _ _ (by show _ + 18 ≤ _; omega)
  have s4 : (S3 ++ ⟨#[13, 10, 99, 111, 110, 116, 101, 110, 116, 45, 108, 101, 110, 103, 116, 104, 58, 32]⟩).size ≤ 80 := by rw [ByteArray.size_append]; show _ + 18 ≤ _; omega
  obtain ⟨S4, hS4⟩ : ∃ S, S = S3 ++ ⟨#[13, 10, 99, 111, 110, 116, 101, 110, 116, 45, 108, 101, 110, 103, 116, 104, 58, 32]⟩ := ⟨_, rfl⟩
  rw [← hS4] at k4 s4 HH
  have k5 : ∀ w' : World, (Op.stringOp .add S4 E).run Tryd.prog w' = .ok (.string (S4 ++ E)) w' := fun w' => run_string_add_sum (P := Tryd.prog) w' _ _ (by omega)
  have s5 : (S4 ++ E).size ≤ 101 := by rw [ByteArray.size_append]; omega
  obtain ⟨S5, hS5⟩ : ∃ S, S = S4 ++ E := ⟨_, rfl⟩
  rw [← hS5] at k5 s5 HH
  have k6 : ∀ w' : World, (Op.stringOp .add S5 ⟨#[13, 10, 13, 10]⟩).run Tryd.prog w' = .ok (.string H) w' := fun w' => by rw [HH.out]; exact run_string_add_sum (P := Tryd.prog) w' _ _ (by show _ + 4 ≤ _; omega)
  have k7 : ∀ w' : World, (Op.stringOp .add X Y).run Tryd.prog w' = .ok (.string (X ++ Y)) w' := fun w' => run_string_add_sum (P := Tryd.prog) w' _ _ (by omega)
  clear hS1 hS2 hS3 hS4 hS5 HH s1 s2 s3 s4 s5 his hrs hls
  have hxs : X.size = H.size + a.size := by rw [HA.out, ByteArray.size_append]
  obtain ⟨Z, hZ⟩ : ∃ Z, Z = X ++ Y := ⟨_, rfl⟩
  have hzs : Z.size = X.size + Y.size := by rw [hZ, ByteArray.size_append]
  rw [← hZ] at k7
  have e1 : Z.extract 0 H.size = H := by rw [hZ, HA.out, ByteArray.append_assoc]; exact ext_left H _
  have e2 : Z.extract H.size (H.size + a.size) = a := by rw [hZ, HA.out]; exact ext_mid H a Y
  have e3 : Z.extract X.size Z.size = Y := by rw [hzs, hZ]; exact ext_right X Y
  have l1 : ∀ w' : World, (Instr.slice 9 (.string Z) none (some (.int .i64 (H.size : Int))) none).run Tryd.prog w' = .ok (.string H) w' := fun w' => by
    rw [run_slice_string_h w' 9 Z Tryd.underlying9 .i64 (H.size : Int) (by omega) (by omega), Int.toNat_natCast, e1]
  have l2 : ∀ w' : World, (Instr.slice 9 (.string Z) (some (.int .i64 (H.size : Int))) (some (.int .i64 ((H.size : Int) + (a.size : Int)))) none).run Tryd.prog w' = .ok (.string a) w' := fun w' => by
    rw [run_slice_string w' 9 Z .i64 .i64 (H.size : Int) ((H.size : Int) + (a.size : Int)) Tryd.underlying9 (by omega) (by omega) (by omega), Int.toNat_natCast, show ((H.size : Int) + (a.size : Int)).toNat = H.size + a.size by omega, e2]
  have l3 : ∀ w' : World, (Instr.slice 9 (.string Z) (some (.int .i64 ((H.size : Int) + (a.size : Int)))) none none).run Tryd.prog w' = .ok (.string Y) w' := fun w' => by
    rw [run_slice_string_l w' 9 Z Tryd.underlying9 .i64 ((H.size : Int) + (a.size : Int)) (by omega) (by omega), show ((H.size : Int) + (a.size : Int)).toNat = X.size by omega, e3]
  have g1 : (H.size : Int) + (a.size : Int) < (Z.size : Int) := by omega
  have hzb : Z.size ≤ 6000 := by omega
  have hhb : H.size ≤ 3000 := by omega
  have hab : a.size ≤ 2000 := by omega
  clear hxs hzs hZ e1 e2 e3 HA hx1 hx2 hy1 hy2 ha hb
  go_enter Tryd.func3, Tryd.ntmps3
  go_wp2_with fail
  refine (reason_any 200 w).mono ?_
  rintro e w0 ⟨rfl, rfl⟩
  rw [R200.out]
  go_wp2_with fail
  refine (CX.out w0 HP.out).mono ?_
  rintro e w1 ⟨⟨v1, rfl, o1⟩, b1⟩
  obtain ⟨A1, c1, rfl, _, hsg1⟩ := o1.shape
  have HS1 := Lib.hid hsg1
  have HB1 := Lib.hid b1
  have HP1 := Lib.hid (HP.out.bel b1)
  clear o1 b1 hsg1
  go_wp2_with fail
  refine (CY.out w1 HP1.out).mono ?_
  rintro e w2 ⟨⟨v2, rfl, o2⟩, b2⟩
  obtain ⟨A2, c2, rfl, _, hsg2⟩ := o2.shape
  have HS2 := Lib.hid hsg2
  have HB2 := Lib.hid (HB1.out.trans (b2.mono HB1.out.size))
  have cv1 := run_back w2 A1 X.size c1 X rfl (HS1.out.bel b2)
  have cv2 := run_back w2 A2 Y.size c2 Y rfl hsg2
  clear o2 b2 hsg2 HB1 HP1 HS1
  go_upto_region 8 with fail
  clear cv1 cv2
  go_wp2_with fail
  refine (CD.out w2).mono ?_
  rintro e w3 ⟨rfl, b3⟩
  have HB3 := Lib.hid (HB2.out.trans (b3.mono HB2.out.size))
  have HS3 := Lib.hid (HS2.out.bel b3)
  clear b3 HB2 HS2
  go_wp2_with fail
  refine (CR.out w3).mono ?_
  rintro e w4 ⟨rfl, b4⟩
  have HB4 := Lib.hid (HB3.out.trans (b4.mono HB3.out.size))
  have HS4 := Lib.hid (HS3.out.bel b4)
  clear b4 HB3 HS3
  go_wp2_with fail
  refine (CL.out w4).mono ?_
  rintro e w5 ⟨rfl, b5⟩
  have HB5 := Lib.hid (HB4.out.trans (b5.mono HB4.out.size))
  have cvd : ∀ k, (convert 23 9 (.slice A2 Y.size c2)).run Tryd.prog (w5.drewN k) = .ok (.string Y) (w5.drewN k) := fun k => run_back (w5.drewN k) A2 Y.size c2 Y rfl (HS4.out.bel (below_drewN b5 k))
  have cve := cvd 0
  clear b5 HB4 HS4
  have t1 : (H.toList == H.toList) = true := beq_self_eq_true _
  have t2 : (a.toList == a.toList) = true := beq_self_eq_true _
  have t3 : (Y.toList == Y.toList) = true := beq_self_eq_true _
  go_wp2_with fail
  go_quiet (fail)
  go_wp2_with fail
  go_ret
  exact ⟨rfl, below_drewN HB5.out _⟩
end Go.Proofs.YtofhhdomodjjdaaDoor
