/- Whole numbers and texts of floats: what the layer's Whole and Show answer. Condition: the table of powers of ten is laid. -/
import Derived.Test.YtjlkmfnkpnmbiaaDoorWhS
import Derived.Test.YtjlkmfnkpnmbiaaDoorScal
import Derived.Test.YtjlkmfnkpnmbiaaDoorHex
import Derived.Lib.Hide
import Derived.Laws.Strings3
namespace Go.Proofs.YtjlkmfnkpnmbiaaDoor
open Go.RowKit

def wholeV (b : Nat) : Int := (wholeN b).getD 0
theorem run_to_int {b : Nat} {n : Int} (h : floatToIntVal .f64 b .i64 = some n) (w : World) : (convert 25 3 (.float .f64 b)).run Tryd.prog w = .ok (.int .i64 n) w :=
  run_convert_float_int w 25 3 .f64 .i64 b n (by rw [Tryd.underlying25]; rfl) Tryd.underlying3 h
theorem run_of_int (n : Int) (w : World) : (convert 3 25 (.int .i64 n)).run Tryd.prog w = .ok (.float .f64 (floatOfInt .f64 n)) w :=
  run_convert_int_float w 3 25 .i64 .f64 n (by rw [Tryd.underlying3]; rfl) Tryd.underlying25
theorem whole_any (b : Nat) (hb : b < 18446744073709551616) (w : World) :
    Calls Tryd.prog 34 #[.float .f64 b] w fun e w' => e = .returned (.tuple #[.int .i64 (wholeV b), .bool (wholeN b).isSome]) ∧ w = w' := by
  have HB := Lib.hid hb
  cases hn : nanB b
  · have hw := (wh_ways hb hn).ways
    rcases hw with ⟨h1, h2⟩ | ⟨h1, h2, h3⟩ | ⟨h1, h2, n, n0, n1, hv, h4⟩
    · have HR := Lib.hid (show wholeV b = 0 ∧ (wholeN b).isSome = false by unfold wholeV; rw [h2]; exact ⟨rfl, rfl⟩)
      rw [HR.out.1, HR.out.2]
      clear HR h2 hb
      go_enter Tryd.func34, Tryd.ntmps34
      go_wp2_with (go_at_call 43; refine (isnan_any _ HB.out _).mono ?_; rintro e w' ⟨rfl, rfl⟩; rw [hn])
      go_ret2
      exact ⟨rfl, rfl⟩
    · have HR := Lib.hid (show wholeV b = 0 ∧ (wholeN b).isSome = false by unfold wholeV; rw [h3]; exact ⟨rfl, rfl⟩)
      rw [HR.out.1, HR.out.2]
      clear HR h3 hb
      go_enter Tryd.func34, Tryd.ntmps34
      go_wp2_with (go_at_call 43; refine (isnan_any _ HB.out _).mono ?_; rintro e w' ⟨rfl, rfl⟩; rw [hn])
      go_ret2
      exact ⟨rfl, rfl⟩
    · have hti := run_to_int hv
      have hof := run_of_int n
      rcases h4 with ⟨h4, h5⟩ | ⟨h4, h5⟩
      · have HR := Lib.hid (show wholeV b = 0 ∧ (wholeN b).isSome = false by unfold wholeV; rw [h5]; exact ⟨rfl, rfl⟩)
        rw [HR.out.1, HR.out.2]
        clear HR h5 hb hv
        go_enter Tryd.func34, Tryd.ntmps34
        go_wp2_with (go_at_call 43; refine (isnan_any _ HB.out _).mono ?_; rintro e w' ⟨rfl, rfl⟩; rw [hn])
        go_ret2
        exact ⟨rfl, rfl⟩
      · have HR := Lib.hid (show wholeV b = n ∧ (wholeN b).isSome = true by unfold wholeV; rw [h5]; exact ⟨rfl, rfl⟩)
        rw [HR.out.1, HR.out.2]
        clear HR h5 hb hv
        go_enter Tryd.func34, Tryd.ntmps34
        go_wp2_with (go_at_call 43; refine (isnan_any _ HB.out _).mono ?_; rintro e w' ⟨rfl, rfl⟩; rw [hn])
        go_ret2
        exact ⟨rfl, rfl⟩
  · have HR := Lib.hid (show wholeV b = 0 ∧ (wholeN b).isSome = false by unfold wholeV wholeN; rw [if_pos hn]; exact ⟨rfl, rfl⟩)
    rw [HR.out.1, HR.out.2]
    clear HR hb
    go_enter Tryd.func34, Tryd.ntmps34
    go_wp2_with (go_at_call 43; refine (isnan_any _ HB.out _).mono ?_; rintro e w' ⟨rfl, rfl⟩; rw [hn])
    go_ret2
    exact ⟨rfl, rfl⟩

set_option maxHeartbeats 1600000 in
theorem show_any (b : Nat) (hb : b < 18446744073709551616) (w : World) (hT : Pows w) :
    Calls Tryd.prog 36 #[.float .f64 b] w fun e w' => e = .returned (.string (showS b)) ∧ Below w.heap.size w w' := by
  have HB := Lib.hid hb
  have HT := Lib.hid hT
  clear hT
  have hrefl := Lib.hid (fun (w' : World) => Below.refl w'.heap.size w')
  cases hn : nanB b
  · have hk := kind_num b hb hn
    have hg := neg_num b hn
    by_cases hi : b % 9223372036854775808 = 9218868437227405312
    · rw [if_pos hi] at hk
      have Hk := Lib.hid hk
      cases hs : negB b
      · have HR := Lib.hid (show showS b = ⟨#[105, 110, 102]⟩ by unfold showS; rw [hn, if_neg (by decide), if_pos hi, hs]; rfl)
        have Hg := Lib.hid (hg.trans hs)
        rw [HR.out]
        clear hk hg hi hs hn HR hb
        go_enter Tryd.func36, Tryd.ntmps36
        go_wp2_with (go_at_call 12; refine (class_any _ HB.out _).mono ?_; rintro e w' ⟨rfl, rfl⟩; rw [Hk.out, Hg.out])
        go_ret
        exact ⟨rfl, hrefl.out _⟩
      · have HR := Lib.hid (show showS b = ⟨#[45, 105, 110, 102]⟩ by unfold showS; rw [hn, if_neg (by decide), if_pos hi, hs]; rfl)
        have Hg := Lib.hid (hg.trans hs)
        rw [HR.out]
        clear hk hg hi hs hn HR hb
        go_enter Tryd.func36, Tryd.ntmps36
        go_wp2_with (go_at_call 12; refine (class_any _ HB.out _).mono ?_; rintro e w' ⟨rfl, rfl⟩; rw [Hk.out, Hg.out])
        go_ret
        exact ⟨rfl, hrefl.out _⟩
    · rw [if_neg hi] at hk
      by_cases hz : b = 9223372036854775808
      · rw [if_pos (by omega)] at hk
        have Hk := Lib.hid hk
        have Hg := Lib.hid (hg.trans (show negB b = true by unfold negB; exact decide_eq_true (by omega)))
        have HR := Lib.hid (show showS b = ⟨#[45, 48]⟩ by unfold showS; rw [hn, if_neg (by decide), if_neg hi, if_pos hz])
        rw [HR.out]
        clear hk hg hi hn HR hb hz
        go_enter Tryd.func36, Tryd.ntmps36
        go_wp2_with (go_at_call 12; refine (class_any _ HB.out _).mono ?_; rintro e w' ⟨rfl, rfl⟩; rw [Hk.out, Hg.out])
        go_ret
        exact ⟨rfl, hrefl.out _⟩
      · -- a number or nought without a sign
        obtain ⟨K, G, hK, hG, k3, k4, kz⟩ : ∃ (K : Int) (G : Bool), kindN (bitsN b) = K ∧ negB (bitsN b) = G ∧ (K == 3) = false ∧ (K == 4) = false ∧ ((K == 0) = true → G = false) := by
          refine ⟨_, _, hk, hg, ?_, ?_, ?_⟩
          · split
            · decide
            · split <;> decide
          · split
            · decide
            · split <;> decide
          · split
            · intro _; unfold negB; exact decide_eq_false (by omega)
            · split <;> (intro h; exact absurd h (by decide))
        have Hk := Lib.hid (And.intro hK hG)
        have hRW : showS b = textW (⟨#[126]⟩ ++ hexS b) (wholeN b) := by unfold showS; rw [hn, if_neg (by decide), if_neg hi, if_neg hz]
        have HBB := Lib.hid (bits_num b hn)
        have hkk : (K == 0) = true ∧ G = false ∨ (K == 0) = false := by
          cases h : (K == 0)
          · exact Or.inr rfl
          · exact Or.inl ⟨rfl, kz h⟩
        clear hk hg hi hn hK hG kz
        cases hw : wholeN b with
        | some n =>
          rw [hw] at hRW
          have HR := Lib.hid (hRW.trans (show _ = (⟨(Lib.itoa n).toArray⟩ : ByteArray) from rfl))
          rw [HR.out]
          have hbd := whole_bound hw
          have HN := Lib.hid (show (-9223372036854775808 ≤ n ∧ n ≤ 9223372036854775807) by omega)
          have HW := Lib.hid (show wholeV b = n ∧ (wholeN b).isSome = true by unfold wholeV; rw [hw]; exact ⟨rfl, rfl⟩)
          clear hRW hw HR hbd hb
          rcases hkk with ⟨hk0, rfl⟩ | hk0
          all_goals
            go_enter Tryd.func36, Tryd.ntmps36
            go_wp2_with (first
              | (go_at_call 12; refine (class_any _ HB.out _).mono ?_; rintro e w' ⟨rfl, rfl⟩; rw [Hk.out.1, Hk.out.2])
              | (go_at_call 34; refine (whole_any _ HB.out _).mono ?_; rintro e w' ⟨rfl, rfl⟩; rw [HW.out.1, HW.out.2])
              | (go_at_call 47; refine (itoa_any _ HN.out.1 HN.out.2 _ HT.out).mono ?_; rintro e w1 ⟨rfl, hb1⟩))
            go_ret
            exact ⟨rfl, hb1⟩
        | none =>
          rw [hw] at hRW
          have HR := Lib.hid (hRW.trans (show _ = (⟨#[126]⟩ ++ hexS b : ByteArray) from rfl))
          rw [HR.out]
          have HW := Lib.hid (show wholeV b = 0 ∧ (wholeN b).isSome = false by unfold wholeV; rw [hw]; exact ⟨rfl, rfl⟩)
          have hadd : ∀ w' : World, (Op.stringOp .add ⟨#[126]⟩ (hexS b)).run Tryd.prog w' = .ok (.string (⟨#[126]⟩ ++ hexS b)) w' := fun w' => run_string_add_sum (P := Tryd.prog) w' _ _ (by show 1 + (hexS b).data.size ≤ _; simp [hexS, hexL])
          clear hRW hw HR hb
          rcases hkk with ⟨hk0, rfl⟩ | hk0
          all_goals
            go_enter Tryd.func36, Tryd.ntmps36
            go_wp2_with (first
              | (go_at_call 12; refine (class_any _ HB.out _).mono ?_; rintro e w' ⟨rfl, rfl⟩; rw [Hk.out.1, Hk.out.2])
              | (go_at_call 34; refine (whole_any _ HB.out _).mono ?_; rintro e w' ⟨rfl, rfl⟩; rw [HW.out.1, HW.out.2])
              | (go_at_call 16; refine (bits_any _ HB.out _).mono ?_; rintro e w' ⟨rfl, rfl⟩; rw [HBB.out])
              | (go_at_call 48; refine (hex_any b HB.out _).mono ?_; rintro e w' ⟨rfl, rfl⟩))
            go_ret
            exact ⟨rfl, (hrefl.out _).alloc (Nat.le_refl _) _⟩
  · have HR := Lib.hid (show showS b = ⟨#[110, 97, 110]⟩ by unfold showS; rw [if_pos hn])
    rw [HR.out]
    have Hk := Lib.hid (And.intro (kind_nan b hb hn) (neg_nan b hb hn))
    clear hn HR hb
    go_enter Tryd.func36, Tryd.ntmps36
    go_wp2_with (go_at_call 12; refine (class_any _ HB.out _).mono ?_; rintro e w' ⟨rfl, rfl⟩; rw [Hk.out.1, Hk.out.2])
    go_ret
    exact ⟨rfl, hrefl.out _⟩
end Go.Proofs.YtjlkmfnkpnmbiaaDoor
