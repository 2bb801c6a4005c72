/- What the reference's class and order of two words, and the layer's clamping, answer. No condition but that a word has 64 bits. -/
import Derived.Test.YtjlkmfnkpnmbiaaDoorScal
namespace Go.Proofs.YtjlkmfnkpnmbiaaDoor
open Go.RowKit

theorem ne_low (b : Nat) (hb : b < 18446744073709551616) : ((b : Int) != ((b % 9223372036854775808 : Nat) : Int)) = negB b := by
  unfold negB
  by_cases h : 9223372036854775808 ≤ b <;> simp [h] <;> omega
set_option maxRecDepth 100000 in
theorem refclass_any (b : Nat) (hb : b < 18446744073709551616) (w : World) :
    Calls Tryd.prog 14 #[.int .u64 b] w fun e w' => e = .returned (.tuple #[.bool (negB (bitsN b)), .int .i64 (kindN (bitsN b))]) ∧ w = w' := by
  have e1 := and_low b hb
  have e2 := ne_low b hb
  have hk := kind_num b hb
  have hn : nanB b = decide (9218868437227405312 < b % 9223372036854775808) := rfl
  have Hkn := Lib.hid (kind_nan b hb)
  have Hnn := Lib.hid (neg_nan b hb)
  have Hnu := Lib.hid (neg_num b)
  generalize hs : b % 9223372036854775808 = s at *
  have hlt : s < 9223372036854775808 := by omega
  clear hs hb
  generalize negB b = ng at *
  by_cases c1 : 9218868437227405312 < s
  · have h : nanB b = true := by rw [hn]; simp [c1]
    have HA := Lib.hid (Hkn.out h)
    have HB := Lib.hid (Hnn.out h)
    clear hn hk h Hkn Hnn Hnu
    go_enter Tryd.func14, Tryd.ntmps14
    go_wp2
    go_ret2
    exact ⟨by rw [HA.out, HB.out]; rfl, rfl⟩
  · have h : nanB b = false := by rw [hn]; simp [c1]
    have HB := Lib.hid (Hnu.out h)
    replace hk := hk h
    by_cases c2 : s = 9218868437227405312
    · have HA := Lib.hid (show kindN (bitsN b) = 3 by rw [hk, if_pos c2])
      have t : ((s : Int) == 9218868437227405312) = true := by simp; omega
      clear hn hk h Hkn Hnn Hnu c2
      go_enter Tryd.func14, Tryd.ntmps14
      go_wp2
      go_ret2
      exact ⟨by rw [HA.out, HB.out]; rfl, rfl⟩
    · by_cases c3 : s = 0
      · have HA := Lib.hid (show kindN (bitsN b) = 0 by rw [hk, if_neg c2, if_pos c3])
        have t : ((s : Int) == 9218868437227405312) = false := by simp; omega
        have t2 : ((s : Int) == 0) = true := by simp; omega
        clear hn hk h Hkn Hnn Hnu c3 c2
        go_enter Tryd.func14, Tryd.ntmps14
        go_wp2
        go_ret2
        exact ⟨by rw [HA.out, HB.out]; rfl, rfl⟩
      · by_cases c4 : s < 4503599627370496
        · have HA := Lib.hid (show kindN (bitsN b) = 1 by rw [hk, if_neg c2, if_neg c3, if_pos c4])
          have t : ((s : Int) == 9218868437227405312) = false := by simp; omega
          have t2 : ((s : Int) == 0) = false := by simp; omega
          have t3 : decide ((s : Int) < 4503599627370496) = true := by simp; omega
          have t1 : decide ((9218868437227405312 : Int) < (s : Int)) = false := by simp; omega
          clear hn hk h Hkn Hnn Hnu c3 c2 c1 c4 hlt
          go_enter Tryd.func14, Tryd.ntmps14
          go_wp2
          go_ret2
          exact ⟨by rw [HA.out, HB.out]; rfl, rfl⟩
        · have HA := Lib.hid (show kindN (bitsN b) = 2 by rw [hk, if_neg c2, if_neg c3, if_neg c4])
          have t : ((s : Int) == 9218868437227405312) = false := by simp; omega
          have t2 : ((s : Int) == 0) = false := by simp; omega
          have t3 : decide ((s : Int) < 4503599627370496) = false := by simp; omega
          have t1 : decide ((9218868437227405312 : Int) < (s : Int)) = false := by simp; omega
          clear hn hk h Hkn Hnn Hnu c3 c2 c1 c4 hlt
          go_enter Tryd.func14, Tryd.ntmps14
          go_wp2
          go_ret2
          exact ⟨by rw [HA.out, HB.out]; rfl, rfl⟩
theorem refcmp_any (a b : Nat) (ha : a < 18446744073709551616) (hb : b < 18446744073709551616) (w : World) :
    Calls Tryd.prog 18 #[.int .u64 a, .int .u64 b] w fun e w' => e = .returned (.int .i64 (cmpN a b)) ∧ w = w' := by
  have HA := Lib.hid ha
  have HB := Lib.hid hb
  clear ha hb
  cases na : nanB a <;> cases nb : nanB b
  · have HR := Lib.hid (cmp_num a b HA.out HB.out na nb)
    have ka : (kindN (bitsN a) == 4) = false := by simpa using kind_ne_nan a HA.out na
    have kb : (kindN (bitsN b) == 4) = false := by simpa using kind_ne_nan b HB.out nb
    have sa := neg_num a na
    have sb := neg_num b nb
    clear na nb
    cases ga : negB a <;> cases gb : negB b <;> rw [ga] at sa <;> rw [gb] at sb
    · have HR2 := Lib.hid (HR.out.trans (by rw [ga, gb, if_pos rfl] : _ = if a = b then 0 else if decide (a < b) = false then 1 else -1))
      clear HR ga gb
      by_cases hab : a = b
      · have HR3 := Lib.hid (HR2.out.trans (if_pos hab))
        subst hab
        clear HR2
        go_enter Tryd.func18, Tryd.ntmps18
        go_wp2_with (go_at_call 14; refine (refclass_any _ (by first | exact HA.out | exact HB.out) _).mono ?_; rintro e w' ⟨rfl, rfl⟩)
        go_ret
        exact ⟨by rw [HR3.out]; rfl, rfl⟩
      · by_cases hlt : a < b
        · have HR3 := Lib.hid (HR2.out.trans (by rw [if_neg hab, if_neg (by simpa using hlt)] : _ = (-1 : Int)))
          clear HR2
          go_enter Tryd.func18, Tryd.ntmps18
          go_wp2_with (go_at_call 14; refine (refclass_any _ (by first | exact HA.out | exact HB.out) _).mono ?_; rintro e w' ⟨rfl, rfl⟩)
          go_ret
          exact ⟨by rw [HR3.out]; rfl, rfl⟩
        · have HR3 := Lib.hid (HR2.out.trans (by rw [if_neg hab, if_pos (by simpa using hlt)] : _ = (1 : Int)))
          clear HR2
          go_enter Tryd.func18, Tryd.ntmps18
          go_wp2_with (go_at_call 14; refine (refclass_any _ (by first | exact HA.out | exact HB.out) _).mono ?_; rintro e w' ⟨rfl, rfl⟩)
          go_ret
          exact ⟨by rw [HR3.out]; rfl, rfl⟩
    · have HR2 := Lib.hid (HR.out.trans (by rw [ga, gb]; rfl : _ = (1 : Int)))
      clear HR ga gb
      go_enter Tryd.func18, Tryd.ntmps18
      go_wp2_with (go_at_call 14; refine (refclass_any _ (by first | exact HA.out | exact HB.out) _).mono ?_; rintro e w' ⟨rfl, rfl⟩)
      go_ret
      exact ⟨by rw [HR2.out]; rfl, rfl⟩
    · have HR2 := Lib.hid (HR.out.trans (by rw [ga, gb]; rfl : _ = (-1 : Int)))
      clear HR ga gb
      go_enter Tryd.func18, Tryd.ntmps18
      go_wp2_with (go_at_call 14; refine (refclass_any _ (by first | exact HA.out | exact HB.out) _).mono ?_; rintro e w' ⟨rfl, rfl⟩)
      go_ret
      exact ⟨by rw [HR2.out]; rfl, rfl⟩
    · have HR2 := Lib.hid (HR.out.trans (by rw [ga, gb, if_pos rfl] : _ = if a = b then 0 else if decide (a < b) = true then 1 else -1))
      clear HR ga gb
      by_cases hab : a = b
      · have HR3 := Lib.hid (HR2.out.trans (if_pos hab))
        subst hab
        clear HR2
        go_enter Tryd.func18, Tryd.ntmps18
        go_wp2_with (go_at_call 14; refine (refclass_any _ (by first | exact HA.out | exact HB.out) _).mono ?_; rintro e w' ⟨rfl, rfl⟩)
        go_ret
        exact ⟨by rw [HR3.out]; rfl, rfl⟩
      · by_cases hlt : a < b
        · have HR3 := Lib.hid (HR2.out.trans (by rw [if_neg hab, if_pos (by simpa using hlt)] : _ = (1 : Int)))
          clear HR2
          go_enter Tryd.func18, Tryd.ntmps18
          go_wp2_with (go_at_call 14; refine (refclass_any _ (by first | exact HA.out | exact HB.out) _).mono ?_; rintro e w' ⟨rfl, rfl⟩)
          go_ret
          exact ⟨by rw [HR3.out]; rfl, rfl⟩
        · have HR3 := Lib.hid (HR2.out.trans (by rw [if_neg hab, if_neg (by simpa using hlt)] : _ = (-1 : Int)))
          clear HR2
          go_enter Tryd.func18, Tryd.ntmps18
          go_wp2_with (go_at_call 14; refine (refclass_any _ (by first | exact HA.out | exact HB.out) _).mono ?_; rintro e w' ⟨rfl, rfl⟩)
          go_ret
          exact ⟨by rw [HR3.out]; rfl, rfl⟩
  · have HR := Lib.hid (cmp_num_nan a b HA.out na nb)
    have ka : (kindN (bitsN a) == 4) = false := by simpa using kind_ne_nan a HA.out na
    have kb := kind_nan b HB.out nb
    clear na nb
    go_enter Tryd.func18, Tryd.ntmps18
    go_wp2_with (go_at_call 14; refine (refclass_any _ (by first | exact HA.out | exact HB.out) _).mono ?_; rintro e w' ⟨rfl, rfl⟩)
    go_ret
    exact ⟨by rw [HR.out]; rfl, rfl⟩
  · have HR := Lib.hid (cmp_nan_num a b HB.out na nb)
    have ka := kind_nan a HA.out na
    have kb : (kindN (bitsN b) == 4) = false := by simpa using kind_ne_nan b HB.out nb
    have kc : (4 == kindN (bitsN b)) = false := by simpa using Ne.symm (kind_ne_nan b HB.out nb)
    clear na nb
    go_enter Tryd.func18, Tryd.ntmps18
    go_wp2_with (go_at_call 14; refine (refclass_any _ (by first | exact HA.out | exact HB.out) _).mono ?_; rintro e w' ⟨rfl, rfl⟩)
    go_ret
    exact ⟨by rw [HR.out]; rfl, rfl⟩
  · have HR := Lib.hid (cmp_nan_nan a b na nb)
    have ka := kind_nan a HA.out na
    have kb := kind_nan b HB.out nb
    clear na nb
    go_enter Tryd.func18, Tryd.ntmps18
    go_wp2_with (go_at_call 14; refine (refclass_any _ (by first | exact HA.out | exact HB.out) _).mono ?_; rintro e w' ⟨rfl, rfl⟩)
    go_ret
    exact ⟨by rw [HR.out]; rfl, rfl⟩
end Go.Proofs.YtjlkmfnkpnmbiaaDoor
