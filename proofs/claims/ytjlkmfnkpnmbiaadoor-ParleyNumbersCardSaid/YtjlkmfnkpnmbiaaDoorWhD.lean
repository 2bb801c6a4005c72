/- The reference's digits and Show. No condition but that a word has 64 bits. -/
import Derived.Test.YtjlkmfnkpnmbiaaDoorWhR
import Derived.Test.YtjlkmfnkpnmbiaaDoorMem
import Derived.BigQuiet
namespace Go.Proofs.YtjlkmfnkpnmbiaaDoor
open Go.RowKit

def digS (d : Nat) : ByteArray := ⟨#[UInt8.ofNat (digC d)]⟩
def decS (u : Nat) : ByteArray := ⟨(Lib.decDigits u).toArray⟩
theorem digS_ten {d : Nat} (h : d < 10) : digS d = ⟨#[UInt8.ofNat (48 + d)]⟩ := by unfold digS digC; rw [if_pos h]
theorem decS_one {u : Nat} (h : u < 10) : decS u = digS u := by rw [digS_ten h]; unfold decS; rw [Lib.decDigits, dif_pos h]
theorem ba_append (a b : List UInt8) : (⟨(a ++ b).toArray⟩ : ByteArray) = ⟨a.toArray⟩ ++ ⟨b.toArray⟩ := by
  apply ByteArray.ext
  rw [ByteArray.data_append]
  simp
theorem decS_two {u : Nat} (h : ¬ u < 10) : decS u = decS (u / 10) ++ digS (u % 10) := by
  rw [digS_ten (by omega)]
  unfold decS
  rw [Lib.decDigits, dif_neg h, ba_append]
theorem decS_size (u : Nat) (h : u < 100000000000000000) : (decS u).size ≤ 17 := by
  have gen : ∀ (k u : Nat), u < 10 ^ (k + 1) → (decS u).size ≤ k + 1 := by
    intro k
    induction k with
    | zero => intro u h; rw [decS_one (by omega)]; exact Nat.le_refl _
    | succ k ih =>
      intro u h
      by_cases h1 : u < 10
      · rw [decS_one h1]; show 1 ≤ _; omega
      · rw [decS_two h1, ByteArray.size_append]
        have := ih (u / 10) (by rw [Nat.pow_succ] at h; omega)
        show _ + 1 ≤ _
        omega
  exact gen 16 u (by omega)
set_option maxRecDepth 100000 in
theorem run_dig (d : Nat) (hd : d < 16) (w : World) : (Instr.slice 9 (.string ⟨#[48, 49, 50, 51, 52, 53, 54, 55, 56, 57, 97, 98, 99, 100, 101, 102]⟩) (some (.int .i64 (d : Int))) (some (.int .i64 ((d : Int) + 1))) none).run Tryd.prog w = .ok (.string (digS d)) w := by
  have h : d = 0 ∨ d = 1 ∨ d = 2 ∨ d = 3 ∨ d = 4 ∨ d = 5 ∨ d = 6 ∨ d = 7 ∨ d = 8 ∨ d = 9 ∨ d = 10 ∨ d = 11 ∨ d = 12 ∨ d = 13 ∨ d = 14 ∨ d = 15 := by omega
  rcases h with rfl | rfl | rfl | rfl | rfl | rfl | rfl | rfl | rfl | rfl | rfl | rfl | rfl | rfl | rfl | rfl <;> rfl
set_option maxRecDepth 100000 in
set_option maxHeartbeats 1000000 in
theorem digit_one (B d : Nat) (hB : B = 10 ∨ B = 16) (hd : d < B) (s : ByteArray) (hs : s.size ≤ 100) (w : World) :
    Calls Tryd.prog 50 #[.int .i64 (d : Int), .int .i64 (B : Int), .string s] w fun e w' => e = .returned (.string (s ++ digS d)) ∧ Below w.heap.size w w' := by
  have hd16 : d < 16 := by omega
  have hsl := fun w' => run_dig d hd16 w'
  have hadd : ∀ w' : World, (Op.stringOp .add s (digS d)).run Tryd.prog w' = .ok (.string (s ++ digS d)) w' := fun w' => run_string_add_sum (P := Tryd.prog) w' _ _ (by show s.size + 1 ≤ _; omega)
  have hrefl := Lib.hid (Below.refl w.heap.size w)
  rcases hB with rfl | rfl
  · have e2 : (d : Int) % 10 = (d : Int) := by omega
    have e4 : (d : Int).tmod 10 = (d : Int) := by rw [Int.tmod_eq_emod_of_nonneg (by omega)]; omega
    have j3 : (d : Int) < 10 := by omega
    clear hd hd16
    go_enter Tryd.func50, Tryd.ntmps50
    go_wp2_with fail
    go_quiet (fail)
    go_wp2_with fail
    go_ret
    exact ⟨rfl, below_drewN hrefl.out _⟩
  · have e2 : (d : Int) % 16 = (d : Int) := by omega
    have e4 : (d : Int).tmod 16 = (d : Int) := by rw [Int.tmod_eq_emod_of_nonneg (by omega)]; omega
    have j3 : (d : Int) < 16 := by omega
    clear hd
    go_enter Tryd.func50, Tryd.ntmps50
    go_wp2_with fail
    go_quiet (fail)
    go_wp2_with fail
    go_ret
    exact ⟨rfl, below_drewN hrefl.out _⟩
set_option maxRecDepth 100000 in
set_option maxHeartbeats 1000000 in
theorem digits_nat (u : Nat) : u < 100000000000000000 → ∀ w, Calls Tryd.prog 50 #[.int .i64 (u : Int), .int .i64 10, .string ⟨#[]⟩] w fun e w' => e = .returned (.string (decS u)) ∧ Below w.heap.size w w' := by
  induction u using Nat.strongRecOn with
  | _ u ih =>
    intro hu w
    by_cases h : u < 10
    · have := digit_one 10 u (Or.inl rfl) h ⟨#[]⟩ (by decide) w
      rw [decS_one h]
      refine this.mono fun e w' ⟨he, hb⟩ => ⟨?_, hb⟩
      rw [he, show (⟨#[]⟩ : ByteArray) ++ digS u = digS u by apply ByteArray.ext; rw [ByteArray.data_append]; simp]
    · have IH := Lib.hid (ih (u / 10) (by omega) (by omega))
      have HD := Lib.hid (decS_two h)
      obtain ⟨q, hq⟩ : ∃ q, q = u / 10 := ⟨_, rfl⟩
      obtain ⟨r, hr⟩ : ∃ r, r = u % 10 := ⟨_, rfl⟩
      have hq2 : q * 10 + r = u := by omega
      have hr10 : r < 10 := by omega
      rw [← hq] at IH HD
      rw [← hr] at HD
      have e1 : (u : Int) / 10 = (q : Int) := by omega
      have e2 : (u : Int) % 10 = (r : Int) := by omega
      have e3 : (u : Int).tdiv 10 = (q : Int) := by rw [Int.tdiv_eq_ediv_of_nonneg (by omega)]; omega
      have e4 : (u : Int).tmod 10 = (r : Int) := by rw [Int.tmod_eq_emod_of_nonneg (by omega)]; omega
      have hsl := fun w' => run_dig r (by omega) w'
      have hadd : ∀ w' : World, (Op.stringOp .add (decS q) (digS r)).run Tryd.prog w' = .ok (.string (decS q ++ digS r)) w' := fun w' => run_string_add_sum (P := Tryd.prog) w' _ _ (by have := decS_size q (by omega); show _ + 1 ≤ _; omega)
      have j3 : ¬ (u : Int) < 10 := by omega
      have hq1 : q < 100000000000000000 := by omega
      clear ih h hq hr hq2
      go_enter Tryd.func50, Tryd.ntmps50
      go_wp2_with fail
      refine (IH.out w).mono ?_
      rintro e w1 ⟨rfl, b1⟩
      have B1 := Lib.hid b1
      clear b1
      go_wp2_with fail
      go_quiet (fail)
      go_wp2_with fail
      go_ret
      exact ⟨by rw [HD.out]; rfl, below_drewN B1.out _⟩
end Go.Proofs.YtjlkmfnkpnmbiaaDoor
