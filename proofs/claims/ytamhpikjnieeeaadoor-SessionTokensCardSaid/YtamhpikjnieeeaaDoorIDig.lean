/- The reference's Digits: a number's decimal numeral. No condition. -/
import Derived.Test.YtamhpikjnieeeaaDoorTkS
import Derived.Test.YtamhpikjnieeeaaDoorMem
import Derived.Test.YtamhpikjnieeeaaDoorStable
import Derived.Lib.ItoaMem
import Derived.BigQuiet
namespace Go.Proofs.YtamhpikjnieeeaaDoor
open Go.RowKit

def digS (d : Nat) : ByteArray := ⟨#[UInt8.ofNat (48 + d)]⟩
def decS (u : Nat) : ByteArray := ⟨(Lib.decDigits u).toArray⟩
def intS (n : Int) : ByteArray := ⟨(Lib.itoa n).toArray⟩
def dgs : ByteArray := ⟨#[48, 49, 50, 51, 52, 53, 54, 55, 56, 57]⟩
theorem decS_one {u : Nat} (h : u < 10) : decS u = digS u := by unfold decS; rw [Lib.decDigits, dif_pos h]; rfl
theorem ba_append (a b : List UInt8) : (⟨(a ++ b).toArray⟩ : ByteArray) = ⟨a.toArray⟩ ++ ⟨b.toArray⟩ := by
  apply ByteArray.ext
  rw [ByteArray.data_append]
  simp
theorem decS_two {u : Nat} (h : ¬ u < 10) : decS u = decS (u / 10) ++ digS (u % 10) := by
  unfold decS
  rw [Lib.decDigits, dif_neg h, ba_append]; rfl
theorem decS_size (u : Nat) (h : u < 10000000000000000000) : (decS u).size ≤ 20 := by
  have gen : ∀ (k u : Nat), u < 10 ^ (k + 1) → (decS u).size ≤ k + 1 := by
    intro k
    induction k with
    | zero => intro u h; rw [decS_one (by omega)]; exact Nat.le_refl _
    | succ k ih =>
      intro u h
      by_cases h1 : u < 10
      · rw [decS_one h1]; show 1 ≤ _; omega
      · rw [decS_two h1, ByteArray.size_append]
        have := ih (u / 10) (by rw [Nat.pow_succ] at h; omega)
        show _ + 1 ≤ _
        omega
  exact gen 19 u (by omega)
theorem intS_nat (u : Nat) : intS (u : Int) = decS u := by unfold intS; rw [Lib.itoa_nonneg]; rfl
theorem intS_neg {u : Nat} (h : 1 ≤ u) : intS (-(u : Int)) = ⟨#[45]⟩ ++ decS u := by
  unfold intS
  rw [Lib.itoa_neg u h, show (45 :: Lib.decDigits u) = [45] ++ Lib.decDigits u from rfl, ba_append]; rfl
theorem intS_size (n : Int) (h0 : -9223372036854775808 ≤ n) (h1 : n ≤ 9223372036854775807) : (intS n).size ≤ 21 := by
  rcases Int.le_total 0 n with h | h
  · obtain ⟨u, rfl⟩ : ∃ u : Nat, n = u := ⟨n.toNat, by omega⟩
    rw [intS_nat]
    have := decS_size u (by omega)
    omega
  · by_cases h2 : n = 0
    · subst h2; decide +kernel
    · obtain ⟨u, rfl⟩ : ∃ u : Nat, n = -(u : Int) := ⟨(-n).toNat, by omega⟩
      rw [intS_neg (by omega), ByteArray.size_append]
      have := decS_size u (by omega)
      show 1 + _ ≤ _
      omega
set_option maxRecDepth 100000 in
theorem run_dig (d : Nat) (hd : d < 10) (w : World) : (Instr.slice 9 (.string dgs) (some (.int .i64 (d : Int))) (some (.int .i64 ((d : Int) + 1))) none).run Tryd.prog w = .ok (.string (digS d)) w := by
  have h : d = 0 ∨ d = 1 ∨ d = 2 ∨ d = 3 ∨ d = 4 ∨ d = 5 ∨ d = 6 ∨ d = 7 ∨ d = 8 ∨ d = 9 := by omega
  rcases h with rfl | rfl | rfl | rfl | rfl | rfl | rfl | rfl | rfl | rfl <;> rfl
/-- Each operation's fact. -/
def idF (u q r : Nat) (j : Nat) (v _u : Value) (_w : World) : Prop := match j with
  | 0 => v = .int .i64 (u : Int)
  | 1 => v = .int .i64 (q : Int)
  | 2 => v = .string (decS q)
  | 3 => v = .int .i64 (u : Int)
  | 4 => v = .int .i64 (r : Int)
  | 5 => v = .int .i64 (u : Int)
  | 6 => v = .int .i64 (r : Int)
  | 7 => v = .int .i64 ((r : Int) + 1)
  | 8 => v = .string (digS r)
  | 9 => v = .string (decS u)
  | 10 => v = .string (decS u)
  | _ => True
set_option maxRecDepth 100000 in
set_option maxHeartbeats 1000000 in
theorem digits_nat (u : Nat) : u ≤ 9223372036854775808 → u < 9223372036854775808 → ∀ w, Calls Tryd.prog 20 #[.int .i64 (u : Int)] w fun e w' => e = .returned (.string (decS u)) ∧ Below w.heap.size w w' := by
  induction u using Nat.strongRecOn with
  | _ u ih =>
    intro _ hu w
    have j0 : ¬ (u : Int) < 0 := by omega
    have j1 : (0 : Int) ≤ (u : Int) := by omega
    have j2 : (u : Int) < 9223372036854775808 := by omega
    by_cases h : u < 10
    · have RES := Lib.hid (decS_one h)
      have hsl : ∀ w', (Instr.slice 9 (.string ⟨#[48, 49, 50, 51, 52, 53, 54, 55, 56, 57]⟩) (some (.int .i64 (u : Int))) (some (.int .i64 ((u : Int) + 1))) none).run Tryd.prog w' = .ok (.string (digS u)) w' := fun w' => run_dig u h w'
      have j3 : (u : Int) < 10 := by omega
      clear ih h
      go_enter Tryd.func20, Tryd.ntmps20
      go_wp2_with fail
      go_ret
      exact ⟨by rw [RES.out]; rfl, Below.refl _ _⟩
    · have IH := Lib.hid (ih (u / 10) (by omega) (by omega) (by omega))
      have HD := Lib.hid (decS_two h)
      obtain ⟨q, hq⟩ : ∃ q, q = u / 10 := ⟨_, rfl⟩
      obtain ⟨r, hr⟩ : ∃ r, r = u % 10 := ⟨_, rfl⟩
      have hq2 : q * 10 + r = u := by omega
      have hr10 : r < 10 := by omega
      rw [← hq] at IH HD
      rw [← hr] at HD
      have e1 : (u : Int) / 10 = (q : Int) := by omega
      have e2 : (u : Int) % 10 = (r : Int) := by omega
      have e3 : (u : Int).tdiv 10 = (q : Int) := by rw [Int.tdiv_eq_ediv_of_nonneg (by omega)]; omega
      have e4 : (u : Int).tmod 10 = (r : Int) := by rw [Int.tmod_eq_emod_of_nonneg (by omega)]; omega
      have e5 : IntKind.i64.wrap (q : Int) = (q : Int) := by rw [IntKind.wrap_i64]; omega
      have e6 : IntKind.i64.wrap (r : Int) = (r : Int) := by rw [IntKind.wrap_i64]; omega
      have e7 : IntKind.i64.wrap ((r : Int) + 1) = (r : Int) + 1 := by rw [IntKind.wrap_i64]; omega
      have hsl : ∀ w', (Instr.slice 9 (.string ⟨#[48, 49, 50, 51, 52, 53, 54, 55, 56, 57]⟩) (some (.int .i64 (r : Int))) (some (.int .i64 ((r : Int) + 1))) none).run Tryd.prog w' = .ok (.string (digS r)) w' := fun w' => run_dig r hr10 w'
      have hadd : ∀ w' : World, (Op.stringOp .add (decS q) (digS r)).run Tryd.prog w' = .ok (.string (decS q ++ digS r)) w' := fun w' => run_string_add_sum (P := Tryd.prog) w' _ _ (by have := decS_size q (by omega); show _ + 1 ≤ _; omega)
      have j3 : ¬ (u : Int) < 10 := by omega
      clear ih h hq hr hq2
      go_enter Tryd.func20, Tryd.ntmps20
      go_wp2_with fail
      refine wp_region_list [some 29, some 30, some 31, some 32, some 33, some 34, some 35, some 36, some 37, some 38, some 2] (fun _ => 0) (idF u q r) (fun w1 => Below w.heap.size w w1) (by kernel_rfl) (Below.refl _ _).drew rfl (by kernel_rfl) (by kernel_rfl) (by kernel_rfl) (by kernel_rfl) (fun T hT => ?_)
      simp only [List.filterMap_cons, List.filterMap_nil, id, putsS, Act.put, List.setIfInBounds_toArray, List.set_cons_zero, List.set_cons_succ] at hT
      subst hT
      refine ⟨⟨?_, ?_, ?_, ?_, ?_, ?_, ?_, ?_, ?_, ?_, ?_, trivial⟩, ?_⟩
      · -- 0: Op.move t0
        refine StepL.act ?_
        intro f w1 hG hF K hK
        clear hF
        dsimp only at hK ⊢
        go_simp
        exact hK.out _ _ hG rfl (fun _ _ _ _ h => h)
      · -- 1: Op.binOp BinOp.quo 3 t29 (const (10:i64)) 3
        refine StepL.act ?_
        intro f w1 hG hF K hK
        have d0 : (idF u q r) 0 (f 29) (f 0) w1 := hF 0 (by kernel_rfl)
        clear hF
        dsimp only at hK ⊢
        generalize f 29 = v29 at *
        subst d0
        go_simp
        exact hK.out _ _ hG rfl (fun _ _ _ _ h => h)
      · -- 2: Op.call ( value (Operand.func 6), args := #[t30], argTypes := #[3] )
        refine StepL.act ?_
        intro f w1 hG hF K hK
        have d1 : (idF u q r) 1 (f 30) (f 0) w1 := hF 1 (by kernel_rfl)
        clear hF
        dsimp only at hK ⊢
        generalize f 30 = v30 at *
        subst d1
        go_simp
        refine (IH.out w1).mono ?_
        rintro e w2 ⟨rfl, b2⟩
        exact hK.out _ _ (hG.trans (b2.mono hG.size)) rfl (fun _ _ _ _ h => h)
      · -- 3: Op.move t0
        refine StepL.act ?_
        intro f w1 hG hF K hK
        clear hF
        dsimp only at hK ⊢
        go_simp
        exact hK.out _ _ hG rfl (fun _ _ _ _ h => h)
      · -- 4: Op.binOp BinOp.rem 3 t32 (const (10:i64)) 3
        refine StepL.act ?_
        intro f w1 hG hF K hK
        have d3 : (idF u q r) 3 (f 32) (f 0) w1 := hF 3 (by kernel_rfl)
        clear hF
        dsimp only at hK ⊢
        generalize f 32 = v32 at *
        subst d3
        go_simp
        exact hK.out _ _ hG rfl (fun _ _ _ _ h => h)
      · -- 5: Op.move t0
        refine StepL.act ?_
        intro f w1 hG hF K hK
        clear hF
        dsimp only at hK ⊢
        go_simp
        exact hK.out _ _ hG rfl (fun _ _ _ _ h => h)
      · -- 6: Op.binOp BinOp.rem 3 t34 (const (10:i64)) 3
        refine StepL.act ?_
        intro f w1 hG hF K hK
        have d5 : (idF u q r) 5 (f 34) (f 0) w1 := hF 5 (by kernel_rfl)
        clear hF
        dsimp only at hK ⊢
        generalize f 34 = v34 at *
        subst d5
        go_simp
        exact hK.out _ _ hG rfl (fun _ _ _ _ h => h)
      · -- 7: Op.binOp BinOp.add 3 t35 (const (1:i64)) 3
        refine StepL.act ?_
        intro f w1 hG hF K hK
        have d6 : (idF u q r) 6 (f 35) (f 0) w1 := hF 6 (by kernel_rfl)
        clear hF
        dsimp only at hK ⊢
        generalize f 35 = v35 at *
        subst d6
        go_simp
        exact hK.out _ _ hG rfl (fun _ _ _ _ h => h)
      · -- 8: Op.slice 9 (const (Value.string ( data := #[48, 49, 50, 51, 52, 53, 54, 55, 56, 
        refine StepL.act ?_
        intro f w1 hG hF K hK
        have d4 : (idF u q r) 4 (f 33) (f 0) w1 := hF 4 (by kernel_rfl)
        have d7 : (idF u q r) 7 (f 36) (f 0) w1 := hF 7 (by kernel_rfl)
        clear hF
        dsimp only at hK ⊢
        generalize f 33 = v33 at *
        generalize f 36 = v36 at *
        subst d4
        subst d7
        go_simp
        exact hK.out _ _ hG rfl (fun _ _ _ _ h => h)
      · -- 9: Op.binOp BinOp.add 9 t31 t37 9
        refine StepL.act ?_
        intro f w1 hG hF K hK
        have d2 : (idF u q r) 2 (f 31) (f 0) w1 := hF 2 (by kernel_rfl)
        have d8 : (idF u q r) 8 (f 37) (f 0) w1 := hF 8 (by kernel_rfl)
        clear hF
        dsimp only at hK ⊢
        generalize f 31 = v31 at *
        generalize f 37 = v37 at *
        subst d2
        subst d8
        go_simp
        exact hK.out _ _ hG (show Value.string (decS q ++ digS r) = Value.string (decS u) by rw [HD.out]) (fun _ _ _ _ h => h)
      · -- 10: Op.assign t38
        refine StepL.act ?_
        intro f w1 hG hF K hK
        have d9 : (idF u q r) 9 (f 38) (f 0) w1 := hF 9 (by kernel_rfl)
        clear hF
        dsimp only at hK ⊢
        generalize f 38 = v38 at *
        subst d9
        go_simp
        exact hK.out _ _ hG rfl (fun _ _ _ _ h => h)
      · intro f w2 hG hF
        have R : f 2 = .string (decS u) := hF 10 (by decide)
        have HG := Lib.hid hG
        clear hF hG
        dsimp only
        generalize f 2 = v2 at *
        subst R
        generalize f 29 = v29
        generalize f 30 = v30
        generalize f 31 = v31
        generalize f 32 = v32
        generalize f 33 = v33
        generalize f 34 = v34
        generalize f 35 = v35
        generalize f 36 = v36
        generalize f 37 = v37
        generalize f 38 = v38
        go_wp2_with fail
        go_ret
        exact ⟨rfl, HG.out⟩
theorem intS_step {m : Nat} (h : ¬ m < 10) : intS (-((m / 10 : Nat) : Int)) ++ digS (m % 10) = intS (-(m : Int)) := by
  rw [intS_neg (by omega), intS_neg (by omega), decS_two h, ByteArray.append_assoc]
set_option maxRecDepth 100000 in
set_option maxHeartbeats 1000000 in
theorem digits_neg (m : Nat) : 1 ≤ m → m ≤ 9223372036854775808 → ∀ w, Calls Tryd.prog 20 #[.int .i64 (-(m : Int))] w fun e w' => e = .returned (.string (intS (-(m : Int)))) ∧ Below w.heap.size w w' := by
  induction m using Nat.strongRecOn with
  | _ m ih =>
    intro h1 hm w
    have j0 : (-(m : Int)) < 0 := by omega
    have j1 : (-9223372036854775808 : Int) ≤ -(m : Int) := by omega
    by_cases h : m < 10
    · have C := Lib.hid (digits_nat m (by omega) (by omega))
      have RES := Lib.hid (intS_neg h1)
      have e1 : -(-(m : Int)) = (m : Int) := by omega
      have j3 : (-(m : Int)) > -10 := by omega
      have j4 : (m : Int) < 10 := by omega
      have hadd : ∀ w' : World, (Op.stringOp .add ⟨#[45]⟩ (decS m)).run Tryd.prog w' = .ok (.string (⟨#[45]⟩ ++ decS m)) w' := fun w' => run_string_add_sum (P := Tryd.prog) w' _ _ (by have := decS_size m (by omega); show 1 + _ ≤ _; omega)
      clear ih h
      go_enter Tryd.func20, Tryd.ntmps20
      go_wp2_with fail
      refine (C.out w).mono ?_
      rintro e w1 ⟨rfl, b1⟩
      have B1 := Lib.hid b1
      clear b1
      go_wp2_with fail
      go_ret
      exact ⟨by rw [RES.out]; rfl, B1.out⟩
    · have IH := Lib.hid (ih (m / 10) (by omega) (by omega) (by omega))
      have HD := Lib.hid (intS_step h)
      have C := Lib.hid (digits_nat (m % 10) (by omega) (by omega))
      rw [decS_one (by omega)] at C
      obtain ⟨q, hq⟩ : ∃ q, q = m / 10 := ⟨_, rfl⟩
      obtain ⟨r, hr⟩ : ∃ r, r = m % 10 := ⟨_, rfl⟩
      have hq2 : q * 10 + r = m := by omega
      have hr10 : r < 10 := by omega
      rw [← hq] at IH HD
      rw [← hr] at HD C
      have e3 : (-(m : Int)).tdiv 10 = -(q : Int) := by rw [Int.neg_tdiv, Int.tdiv_eq_ediv_of_nonneg (by omega)]; omega
      have e4 : (-(m : Int)).tmod 10 = -(r : Int) := by rw [Int.neg_tmod, Int.tmod_eq_emod_of_nonneg (by omega)]; omega
      have e5 : IntKind.i64.wrap (-(q : Int)) = -(q : Int) := by rw [IntKind.wrap_i64]; omega
      have e6 : IntKind.i64.wrap (-(r : Int)) = -(r : Int) := by rw [IntKind.wrap_i64]; omega
      have e7 : IntKind.i64.wrap (r : Int) = (r : Int) := by rw [IntKind.wrap_i64]; omega
      have e8 : -(-(r : Int)) = (r : Int) := by omega
      have hz := intS_size (-(q : Int)) (by omega) (by omega)
      have hadd : ∀ w' : World, (Op.stringOp .add (intS (-(q : Int))) (digS r)).run Tryd.prog w' = .ok (.string (intS (-(q : Int)) ++ digS r)) w' := fun w' => run_string_add_sum (P := Tryd.prog) w' _ _ (by show _ + 1 ≤ _; omega)
      have j3 : ¬ (-(m : Int)) > -10 := by omega
      clear ih h hq hr hq2 hz
      go_enter Tryd.func20, Tryd.ntmps20
      go_wp2_with fail
      refine (IH.out w).mono ?_
      rintro e w1 ⟨rfl, b1⟩
      have B1 := Lib.hid b1
      clear b1
      go_wp2_with fail
      refine (C.out w1).mono ?_
      rintro e w2 ⟨rfl, b2⟩
      have B2 := Lib.hid (B1.out.trans (b2.mono B1.out.size))
      clear b2 B1
      go_wp2_with fail
      go_ret
      exact ⟨by rw [← HD.out]; rfl, B2.out⟩
theorem digits_any (n : Int) (h0 : -9223372036854775808 ≤ n) (h1 : n ≤ 9223372036854775807) (w : World) :
    Calls Tryd.prog 20 #[.int .i64 n] w fun e w' => e = .returned (.string (intS n)) ∧ Below w.heap.size w w' := by
  rcases Int.lt_or_le n 0 with h | h
  · obtain ⟨m, rfl⟩ : ∃ m : Nat, n = -(m : Int) := ⟨(-n).toNat, by omega⟩
    exact digits_neg m (by omega) (by omega) w
  · obtain ⟨u, rfl⟩ : ∃ u : Nat, n = u := ⟨n.toNat, by omega⟩
    rw [intS_nat]
    exact digits_nat u (by omega) (by omega) w
end Go.Proofs.YtamhpikjnieeeaaDoor
