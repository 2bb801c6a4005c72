/- The reference's Show. No condition but that a word has 64 bits. -/
import Derived.Test.YtjlkmfnkpnmbiaaDoorWhD
namespace Go.Proofs.YtjlkmfnkpnmbiaaDoor
open Go.RowKit

theorem whole_sign {b : Nat} (hb : b < 18446744073709551616) {n : Int} (h : wholeN b = some n) : (negB b = false → 0 ≤ n) ∧ (negB b = true → b ≠ 9223372036854775808 → n < 0) ∧ (b = 9223372036854775808 → n = 0) := by
  unfold wholeN at h
  rw [sign_is b hb, sign_is b hb] at h
  have hneg : negB b = true → 9223372036854775808 ≤ b := by unfold negB; simp
  split at h
  · cases h
  split at h
  · rename_i h0
    cases h
    exact ⟨fun _ => by omega, fun h1 h2 => absurd (hneg h1) (by omega), fun _ => rfl⟩
  rename_i h0
  have hz : b ≠ 9223372036854775808 := by omega
  split at h
  · cases h
  split at h
  · split at h
    · rename_i hq
      cases h
      have hp0 : partW b ≠ 0 := by intro e; rw [e] at hq; omega
      exact ⟨fun h => by rw [h, if_neg (by decide)]; omega, fun h _ => by rw [if_pos h]; omega, fun h => absurd h hz⟩
    · cases h
  split at h
  · cases h
    exact ⟨fun h => by rw [h, if_neg (by decide)]; decide, fun h _ => by rw [if_pos h]; decide, fun h => absurd h hz⟩
  · cases h
theorem show_form {b : Nat} (hn : nanB b = false) (hi : ¬ b % 9223372036854775808 = 9218868437227405312) : showS b = if b = 9223372036854775808 then ⟨#[45, 48]⟩ else textW (⟨#[126]⟩ ++ hexS b) (wholeN b) := by
  unfold showS; rw [hn, if_neg (by decide), if_neg hi]
theorem nil_add (s : ByteArray) : (⟨#[]⟩ : ByteArray) ++ s = s := by apply ByteArray.ext; rw [ByteArray.data_append]; simp
theorem text_pos {b : Nat} (hb : b < 18446744073709551616) (hn : nanB b = false) (hi : ¬ b % 9223372036854775808 = 9218868437227405312) {n : Int} (h : wholeN b = some n) (hs : negB b = false) : ∃ m : Nat, n = (m : Int) ∧ showS b = decS m := by
  have h1 := (whole_sign hb h).1 hs
  refine ⟨n.toNat, by omega, ?_⟩
  rw [show_form hn hi, if_neg (by intro e; rw [e] at hs; revert hs; decide +kernel), h]
  show (⟨(Lib.itoa n).toArray⟩ : ByteArray) = _
  unfold Lib.itoa; rw [if_neg (by omega)]; rfl
theorem text_neg {b : Nat} (hb : b < 18446744073709551616) (hn : nanB b = false) (hi : ¬ b % 9223372036854775808 = 9218868437227405312) {n : Int} (h : wholeN b = some n) (hs : negB b = true) (hz : b ≠ 9223372036854775808) : ∃ m : Nat, n = -(m : Int) ∧ 0 < m ∧ showS b = ⟨#[45]⟩ ++ decS m := by
  have h2 := (whole_sign hb h).2.1 hs hz
  refine ⟨n.natAbs, by omega, by omega, ?_⟩
  rw [show_form hn hi, if_neg hz, h]
  show (⟨(Lib.itoa n).toArray⟩ : ByteArray) = _
  unfold Lib.itoa; rw [if_pos h2, show (45 :: Lib.decDigits n.natAbs) = [45] ++ Lib.decDigits n.natAbs from rfl, ba_append]; rfl
/-- The beginning of the long form. -/
def hexP (b i : Nat) : ByteArray := ⟨(126 :: (hexL b).take i).toArray⟩
theorem hexP_zero (b : Nat) : hexP b 0 = ⟨#[126]⟩ := by unfold hexP; simp
theorem hexP_all (b : Nat) : hexP b 16 = ⟨#[126]⟩ ++ hexS b := by
  rw [hex_list]; unfold hexP; rw [List.take_of_length_le (by simp [hexL])]
theorem hexP_size (b i : Nat) (h : i ≤ 16) : (hexP b i).size ≤ 17 := by
  show (126 :: (hexL b).take i).toArray.size ≤ 17
  simp [hexL]; omega
theorem hexP_step (b i : Nat) (h : i < 16) : hexP b i ++ digS (b / 2 ^ (4 * (15 - i)) % 16) = hexP b (i + 1) := by
  have hl : i < (hexL b).length := by simpa [hexL] using h
  have e : (hexL b).take (i + 1) = (hexL b).take i ++ [UInt8.ofNat (hexAt b i)] := by
    rw [List.take_succ_eq_append_getElem hl]
    congr 2
    simp [hexL]
  unfold hexP
  rw [e, show (126 :: ((hexL b).take i ++ [UInt8.ofNat (hexAt b i)])) = (126 :: (hexL b).take i) ++ [UInt8.ofNat (hexAt b i)] from rfl, ba_append]
  rfl
set_option maxHeartbeats 1000000 in
set_option maxRecDepth 100000 in
theorem rshow_any (b : Nat) (hb : b < 18446744073709551616) (w : World) :
    Calls Tryd.prog 38 #[.int .u64 b] w fun e w' => e = .returned (.string (showS b)) ∧ Below w.heap.size w w' := by
  have HB := Lib.hid hb
  have hrefl := Lib.hid (Below.refl w.heap.size w)
  cases hn : nanB b
  · have hk := kind_num b hb hn
    have hg := neg_num b hn
    by_cases hi : b % 9223372036854775808 = 9218868437227405312
    · rw [if_pos hi] at hk
      have Hk := Lib.hid hk
      cases hs : negB b
      · have HR := Lib.hid (show showS b = ⟨#[105, 110, 102]⟩ by unfold showS; rw [hn, if_neg (by decide), if_pos hi, hs]; rfl)
        have Hg := Lib.hid (hg.trans hs)
        rw [HR.out]
        have hadd : ∀ w' : World, (Op.stringOp .add ⟨#[]⟩ ⟨#[105, 110, 102]⟩).run Tryd.prog w' = .ok (.string ⟨#[105, 110, 102]⟩) w' := fun w' => run_string_add_sum (P := Tryd.prog) w' _ _ (by decide)
        clear hk hg hi hs hn HR hb
        go_enter Tryd.func38, Tryd.ntmps38
        go_wp2_with (go_at_call 14; refine (refclass_any _ HB.out _).mono ?_; rintro e w' ⟨rfl, rfl⟩; rw [Hk.out, Hg.out])
        go_ret
        exact ⟨rfl, hrefl.out⟩
      · have HR := Lib.hid (show showS b = ⟨#[45, 105, 110, 102]⟩ by unfold showS; rw [hn, if_neg (by decide), if_pos hi, hs]; rfl)
        have Hg := Lib.hid (hg.trans hs)
        rw [HR.out]
        have hadd : ∀ w' : World, (Op.stringOp .add ⟨#[45]⟩ ⟨#[105, 110, 102]⟩).run Tryd.prog w' = .ok (.string ⟨#[45, 105, 110, 102]⟩) w' := fun w' => run_string_add_sum (P := Tryd.prog) w' _ _ (by decide)
        clear hk hg hi hs hn HR hb
        go_enter Tryd.func38, Tryd.ntmps38
        go_wp2_with (go_at_call 14; refine (refclass_any _ HB.out _).mono ?_; rintro e w' ⟨rfl, rfl⟩; rw [Hk.out, Hg.out])
        go_ret
        exact ⟨rfl, hrefl.out⟩
    · rw [if_neg hi] at hk
      obtain ⟨K, G, hK, hG, hG2, k3, k4⟩ : ∃ (K : Int) (G : Bool), kindN (bitsN b) = K ∧ negB (bitsN b) = G ∧ negB b = G ∧ (K == 3) = false ∧ (K == 4) = false := by
        refine ⟨_, _, hk, hg, rfl, ?_, ?_⟩
        · split
          · decide
          · split <;> decide
        · split
          · decide
          · split <;> decide
      have Hk := Lib.hid (And.intro hK hG)
      cases hw : wholeN b with
      | some n =>
        have hbd := whole_bound hw
        cases G
        · obtain ⟨m, rfl, hR⟩ := text_pos hb hn hi hw hG2
          have HR := Lib.hid hR
          rw [HR.out]
          have HW := Lib.hid (show wholeV b = (m : Int) ∧ (wholeN b).isSome = true by unfold wholeV; rw [hw]; exact ⟨rfl, rfl⟩)
          have hm1 : m < 100000000000000000 := by omega
          have hmax : max (m : Int) (-(m : Int)) = (m : Int) := by omega
          have hadd : ∀ w' : World, (Op.stringOp .add ⟨#[]⟩ (decS m)).run Tryd.prog w' = .ok (.string (decS m)) w' := fun w' => by
            have h := run_string_add_sum (P := Tryd.prog) w' ⟨#[]⟩ (decS m) (by have := decS_size m hm1; show 0 + _ ≤ _; omega)
            rw [h, nil_add]
          have HC := Lib.hid (digits_nat m hm1)
          have hm53 : (m : Int) ≤ 9007199254740992 := hbd.2
          clear hbd hw HR hR hk hg hi hn hb hK hG hG2 hm1
          go_enter Tryd.func38, Tryd.ntmps38
          go_wp2_with (first
            | (go_at_call 14; refine (refclass_any _ HB.out _).mono ?_; rintro e w' ⟨rfl, rfl⟩; rw [Hk.out.1, Hk.out.2])
            | (go_at_call 35; refine (rwhole_any _ HB.out _).mono ?_; rintro e w' ⟨rfl, rfl⟩; rw [HW.out.1, HW.out.2])
            | (go_at_call 50; refine (HC.out _).mono ?_; rintro e w1 ⟨rfl, hb1⟩))
          go_ret
          exact ⟨rfl, hb1⟩
        · by_cases hz : b = 9223372036854775808
          · have HR := Lib.hid (show showS b = ⟨#[45, 48]⟩ by rw [show_form hn hi, if_pos hz])
            rw [HR.out]
            have HW := Lib.hid (show wholeV b = 0 ∧ (wholeN b).isSome = true by unfold wholeV; rw [hw, (whole_sign hb hw).2.2 hz]; exact ⟨rfl, rfl⟩)
            have HC := Lib.hid (digits_nat 0 (by decide))
            rw [show decS 0 = ⟨#[48]⟩ by decide +kernel, show ((0 : Nat) : Int) = 0 from rfl] at HC
            have hadd : ∀ w' : World, (Op.stringOp .add ⟨#[45]⟩ ⟨#[48]⟩).run Tryd.prog w' = .ok (.string ⟨#[45, 48]⟩) w' := fun w' => run_string_add_sum (P := Tryd.prog) w' _ _ (by decide)
            clear hbd hw HR hk hg hi hn hb hK hG hG2 hz
            go_enter Tryd.func38, Tryd.ntmps38
            go_wp2_with (first
              | (go_at_call 14; refine (refclass_any _ HB.out _).mono ?_; rintro e w' ⟨rfl, rfl⟩; rw [Hk.out.1, Hk.out.2])
              | (go_at_call 35; refine (rwhole_any _ HB.out _).mono ?_; rintro e w' ⟨rfl, rfl⟩; rw [HW.out.1, HW.out.2])
              | (go_at_call 50; refine (HC.out _).mono ?_; rintro e w1 ⟨rfl, hb1⟩))
            go_ret
            exact ⟨rfl, hb1⟩
          · obtain ⟨m, rfl, hm0, hR⟩ := text_neg hb hn hi hw hG2 hz
            have HR := Lib.hid hR
            rw [HR.out]
            have HW := Lib.hid (show wholeV b = -(m : Int) ∧ (wholeN b).isSome = true by unfold wholeV; rw [hw]; exact ⟨rfl, rfl⟩)
            have hm1 : m < 100000000000000000 := by omega
            have hm53 : (m : Int) ≤ 9007199254740992 := by omega
            have hadd : ∀ w' : World, (Op.stringOp .add ⟨#[45]⟩ (decS m)).run Tryd.prog w' = .ok (.string (⟨#[45]⟩ ++ decS m)) w' := fun w' => run_string_add_sum (P := Tryd.prog) w' ⟨#[45]⟩ (decS m) (by have := decS_size m hm1; show 1 + _ ≤ _; omega)
            have HC := Lib.hid (digits_nat m hm1)
            have hnn : -(-(m : Int)) = (m : Int) := by omega
            have hmax : max (-(m : Int)) (m : Int) = (m : Int) := by omega
            clear hbd hw HR hR hk hg hi hn hb hK hG hG2 hz hm1 hm0
            go_enter Tryd.func38, Tryd.ntmps38
            go_wp2_with (first
              | (go_at_call 14; refine (refclass_any _ HB.out _).mono ?_; rintro e w' ⟨rfl, rfl⟩; rw [Hk.out.1, Hk.out.2])
              | (go_at_call 35; refine (rwhole_any _ HB.out _).mono ?_; rintro e w' ⟨rfl, rfl⟩; rw [HW.out.1, HW.out.2])
              | (go_at_call 50; refine (HC.out _).mono ?_; rintro e w1 ⟨rfl, hb1⟩))
            go_ret
            exact ⟨rfl, hb1⟩
      | none =>
        have hz : ¬ b = 9223372036854775808 := by
          intro hz; rw [hz] at hw; revert hw; decide +kernel
        have HR := Lib.hid (show showS b = hexP b 16 by rw [show_form hn hi, if_neg hz, hw, hexP_all]; rfl)
        rw [HR.out]
        have HW := Lib.hid (show wholeV b = 0 ∧ (wholeN b).isSome = false by unfold wholeV; rw [hw]; exact ⟨rfl, rfl⟩)
        have H0 := Lib.hid (hexP_zero b)
        clear hw HR hk hg hi hn hb hK hG hG2 hz
        cases G
        all_goals
          go_enter Tryd.func38, Tryd.ntmps38
          go_wp2_with (first
            | (go_at_call 14; refine (refclass_any _ HB.out _).mono ?_; rintro e w' ⟨rfl, rfl⟩; rw [Hk.out.1, Hk.out.2])
            | (go_at_call 35; refine (rwhole_any _ HB.out _).mono ?_; rintro e w' ⟨rfl, rfl⟩; rw [HW.out.1, HW.out.2]))
          go_loopw [5, 8] (fun vs vi wr => ∃ i : Nat, vs = .string (hexP b i) ∧ vi = .int .i64 (i : Int) ∧ i ≤ 16 ∧ Below w.heap.size w wr) (fun _ vi _ => 16 - (intOf vi).toNat)
          case atStart => exact ⟨0, by rw [H0.out], rfl, by omega, hrefl.out⟩
          case round =>
            obtain ⟨i, rfl, rfl, hi, hbw⟩ := hrel
            have HBW := Lib.hid hbw
            clear hbw
            by_cases hlt : i < 16
            · have en := nibble b i HB.out
              have HS := Lib.hid (hexP_step b i hlt)
              obtain ⟨D, hD⟩ : ∃ D, D = b / 2 ^ (4 * (15 - i)) % 16 := ⟨_, rfl⟩
              rw [← hD] at en HS
              have e60 : 4 * (15 - i) = 60 - 4 * i := by omega
              rw [e60] at en
              have hD16 : D < 16 := by omega
              have HDD := Lib.hid hD16
              have HSZ := Lib.hid (hexP_size b i (by omega))
              have hsh : ((60 : Int) - 4 * (i : Int)).toNat = 60 - 4 * i := by omega
              clear hD e60
              go_wp2_with (go_at_call 50; refine (digit_one 16 D (Or.inr rfl) HDD.out _ (Nat.le_trans HSZ.out (by decide)) _).mono ?_; rintro e w1 ⟨rfl, hb1⟩)
              go_roundw
              case rel => exact ⟨i + 1, by rw [HS.out], by go_num, by omega, HBW.out.trans (hb1.mono HBW.out.size)⟩
              case measure => simp [intOf]; omega
            · obtain rfl : i = 16 := by omega
              go_wp2
              go_ret
              exact ⟨rfl, HBW.out⟩
  · have HR := Lib.hid (show showS b = ⟨#[110, 97, 110]⟩ by unfold showS; rw [if_pos hn])
    rw [HR.out]
    have Hk := Lib.hid (And.intro (kind_nan b hb hn) (neg_nan b hb hn))
    clear hn HR hb
    go_enter Tryd.func38, Tryd.ntmps38
    go_wp2_with (go_at_call 14; refine (refclass_any _ HB.out _).mono ?_; rintro e w' ⟨rfl, rfl⟩; rw [Hk.out.1, Hk.out.2])
    go_ret
    exact ⟨rfl, hrefl.out⟩
end Go.Proofs.YtjlkmfnkpnmbiaaDoor
