/- The walks of three statements of the number layer: classes, order, the order's totality: each answers true for every input. No condition but that a word has 64 bits. -/
import Derived.Test.YtjlkmfnkpnmbiaaDoorAwake
namespace Go.Proofs.YtjlkmfnkpnmbiaaDoor
open Go.RowKit

theorem classes_any (u : Nat) (hu : u < 18446744073709551616) (w : World) :
    Calls Tryd.prog 3 #[.int .u64 u] w fun e w' => e = .returned (.bool true) ∧ Grown w w' := by
  have HU := Lib.hid hu
  clear hu
  go_enter Tryd.func3, Tryd.ntmps3
  go_wp2_with (first
    | (go_at_call 13; refine (of_nat _ _).mono ?_; rintro e w' ⟨rfl, rfl⟩)
    | (go_at_call 12; refine (class_any _ HU.out _).mono ?_; rintro e w' ⟨rfl, rfl⟩)
    | (go_at_call 14; refine (refclass_any _ HU.out _).mono ?_; rintro e w' ⟨rfl, rfl⟩)
    | (go_at_call 16; refine (bits_any _ HU.out _).mono ?_; rintro e w' ⟨rfl, rfl⟩)
    | (go_at_call 17; refine (refbits_any _ HU.out _).mono ?_; rintro e w' ⟨rfl, rfl⟩)
    | (go_at_call 15; refine (awake_any _).mono ?_; rintro e w1 ⟨rfl, hg⟩))
  go_ret
  exact ⟨rfl, hg⟩

def clampN (x lo hi : Nat) : Nat := if 0 < cmpN (if cmpN x lo < 0 then lo else x) hi then hi else (if cmpN x lo < 0 then lo else x)
theorem clamp_any (x lo hi : Nat) (hx : x < 18446744073709551616) (hlo : lo < 18446744073709551616) (hhi : hi < 18446744073709551616) (w : World) :
    Calls Tryd.prog 20 #[.float .f64 x, .float .f64 lo, .float .f64 hi] w fun e w' => e = .returned (.float .f64 (clampN x lo hi)) ∧ w = w' := by
  have H1 := Lib.hid hx
  have H2 := Lib.hid hlo
  have H3 := Lib.hid hhi
  clear hx hlo hhi
  by_cases c1 : cmpN x lo < 0
  · by_cases c2 : 0 < cmpN lo hi
    · have HR := Lib.hid (show clampN x lo hi = hi by unfold clampN; rw [if_pos c1, if_pos c2])
      go_enter Tryd.func20, Tryd.ntmps20
      go_wp2_with (go_at_call 19; refine (cmp_any _ _ (by first | exact H1.out | exact H2.out) (by first | exact H2.out | exact H3.out) _).mono ?_; rintro e w' ⟨rfl, rfl⟩)
      go_ret
      exact ⟨by rw [HR.out]; rfl, rfl⟩
    · have HR := Lib.hid (show clampN x lo hi = lo by unfold clampN; rw [if_pos c1, if_neg c2])
      go_enter Tryd.func20, Tryd.ntmps20
      go_wp2_with (go_at_call 19; refine (cmp_any _ _ (by first | exact H1.out | exact H2.out) (by first | exact H2.out | exact H3.out) _).mono ?_; rintro e w' ⟨rfl, rfl⟩)
      go_ret
      exact ⟨by rw [HR.out]; rfl, rfl⟩
  · by_cases c2 : 0 < cmpN x hi
    · have HR := Lib.hid (show clampN x lo hi = hi by unfold clampN; rw [if_neg c1, if_pos c2])
      go_enter Tryd.func20, Tryd.ntmps20
      go_wp2_with (go_at_call 19; refine (cmp_any _ _ (by first | exact H1.out | exact H2.out) (by first | exact H2.out | exact H3.out) _).mono ?_; rintro e w' ⟨rfl, rfl⟩)
      go_ret
      exact ⟨by rw [HR.out]; rfl, rfl⟩
    · have HR := Lib.hid (show clampN x lo hi = x by unfold clampN; rw [if_neg c1, if_neg c2])
      go_enter Tryd.func20, Tryd.ntmps20
      go_wp2_with (go_at_call 19; refine (cmp_any _ _ (by first | exact H1.out | exact H2.out) (by first | exact H2.out | exact H3.out) _).mono ?_; rintro e w' ⟨rfl, rfl⟩)
      go_ret
      exact ⟨by rw [HR.out]; rfl, rfl⟩
theorem order_any (a b c : Nat) (ha : a < 18446744073709551616) (hb : b < 18446744073709551616) (hc : c < 18446744073709551616) (w : World) :
    Calls Tryd.prog 4 #[.int .u64 a, .int .u64 b, .int .u64 c] w fun e w' => e = .returned (.bool true) ∧ Grown w w' := by
  have H1 := Lib.hid ha
  have H2 := Lib.hid hb
  have H3 := Lib.hid hc
  clear ha hb hc
  by_cases c1 : cmpN a b < 0
  · by_cases c2 : 0 < cmpN b c
    · have HR : clampN a b c = c := by unfold clampN; rw [if_pos c1, if_pos c2]
      go_enter Tryd.func4, Tryd.ntmps4
      go_wp2_with (first
        | (go_at_call 18; refine (refcmp_any _ _ (by first | exact H1.out | exact H2.out) (by first | exact H2.out | exact H3.out) _).mono ?_; rintro e w' ⟨rfl, rfl⟩)
        | (go_at_call 13; refine (of_nat _ _).mono ?_; rintro e w' ⟨rfl, rfl⟩)
        | (go_at_call 19; refine (cmp_any _ _ H1.out H2.out _).mono ?_; rintro e w' ⟨rfl, rfl⟩)
        | (go_at_call 20; refine (clamp_any _ _ _ H1.out H2.out H3.out _).mono ?_; rintro e w' ⟨rfl, rfl⟩)
        | (go_at_call 16; refine (bits_any _ (by first | exact H1.out | exact H2.out | exact H3.out) _).mono ?_; rintro e w' ⟨rfl, rfl⟩)
        | (go_at_call 17; refine (refbits_any _ (by first | exact H1.out | exact H2.out | exact H3.out) _).mono ?_; rintro e w' ⟨rfl, rfl⟩)
        | (go_at_call 15; refine (awake_any _).mono ?_; rintro e w1 ⟨rfl, hg⟩))
      go_ret
      exact ⟨rfl, hg⟩
    · have HR : clampN a b c = b := by unfold clampN; rw [if_pos c1, if_neg c2]
      go_enter Tryd.func4, Tryd.ntmps4
      go_wp2_with (first
        | (go_at_call 18; refine (refcmp_any _ _ (by first | exact H1.out | exact H2.out) (by first | exact H2.out | exact H3.out) _).mono ?_; rintro e w' ⟨rfl, rfl⟩)
        | (go_at_call 13; refine (of_nat _ _).mono ?_; rintro e w' ⟨rfl, rfl⟩)
        | (go_at_call 19; refine (cmp_any _ _ H1.out H2.out _).mono ?_; rintro e w' ⟨rfl, rfl⟩)
        | (go_at_call 20; refine (clamp_any _ _ _ H1.out H2.out H3.out _).mono ?_; rintro e w' ⟨rfl, rfl⟩)
        | (go_at_call 16; refine (bits_any _ (by first | exact H1.out | exact H2.out | exact H3.out) _).mono ?_; rintro e w' ⟨rfl, rfl⟩)
        | (go_at_call 17; refine (refbits_any _ (by first | exact H1.out | exact H2.out | exact H3.out) _).mono ?_; rintro e w' ⟨rfl, rfl⟩)
        | (go_at_call 15; refine (awake_any _).mono ?_; rintro e w1 ⟨rfl, hg⟩))
      go_ret
      exact ⟨rfl, hg⟩
  · by_cases c2 : 0 < cmpN a c
    · have HR : clampN a b c = c := by unfold clampN; rw [if_neg c1, if_pos c2]
      go_enter Tryd.func4, Tryd.ntmps4
      go_wp2_with (first
        | (go_at_call 18; refine (refcmp_any _ _ (by first | exact H1.out | exact H2.out) (by first | exact H2.out | exact H3.out) _).mono ?_; rintro e w' ⟨rfl, rfl⟩)
        | (go_at_call 13; refine (of_nat _ _).mono ?_; rintro e w' ⟨rfl, rfl⟩)
        | (go_at_call 19; refine (cmp_any _ _ H1.out H2.out _).mono ?_; rintro e w' ⟨rfl, rfl⟩)
        | (go_at_call 20; refine (clamp_any _ _ _ H1.out H2.out H3.out _).mono ?_; rintro e w' ⟨rfl, rfl⟩)
        | (go_at_call 16; refine (bits_any _ (by first | exact H1.out | exact H2.out | exact H3.out) _).mono ?_; rintro e w' ⟨rfl, rfl⟩)
        | (go_at_call 17; refine (refbits_any _ (by first | exact H1.out | exact H2.out | exact H3.out) _).mono ?_; rintro e w' ⟨rfl, rfl⟩)
        | (go_at_call 15; refine (awake_any _).mono ?_; rintro e w1 ⟨rfl, hg⟩))
      go_ret
      exact ⟨rfl, hg⟩
    · have HR : clampN a b c = a := by unfold clampN; rw [if_neg c1, if_neg c2]
      go_enter Tryd.func4, Tryd.ntmps4
      go_wp2_with (first
        | (go_at_call 18; refine (refcmp_any _ _ (by first | exact H1.out | exact H2.out) (by first | exact H2.out | exact H3.out) _).mono ?_; rintro e w' ⟨rfl, rfl⟩)
        | (go_at_call 13; refine (of_nat _ _).mono ?_; rintro e w' ⟨rfl, rfl⟩)
        | (go_at_call 19; refine (cmp_any _ _ H1.out H2.out _).mono ?_; rintro e w' ⟨rfl, rfl⟩)
        | (go_at_call 20; refine (clamp_any _ _ _ H1.out H2.out H3.out _).mono ?_; rintro e w' ⟨rfl, rfl⟩)
        | (go_at_call 16; refine (bits_any _ (by first | exact H1.out | exact H2.out | exact H3.out) _).mono ?_; rintro e w' ⟨rfl, rfl⟩)
        | (go_at_call 17; refine (refbits_any _ (by first | exact H1.out | exact H2.out | exact H3.out) _).mono ?_; rintro e w' ⟨rfl, rfl⟩)
        | (go_at_call 15; refine (awake_any _).mono ?_; rintro e w1 ⟨rfl, hg⟩))
      go_ret
      exact ⟨rfl, hg⟩
end Go.Proofs.YtjlkmfnkpnmbiaaDoor
