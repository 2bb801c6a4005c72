/- The walks of the sum's parts: turning a word, blending, spreading a chunk to eighty words. Condition: the bytes lie in memory. -/
import Derived.Test.YtbpclifgafafdaaDoorBts
import Derived.Laws.BitsAllLaws
import Derived.Test.YtbpclifgafafdaaDoorLaws
import Derived.Test.YtbpclifgafafdaaDoorShaM
import Derived.StillTailTactics
namespace Go.Proofs.YtbpclifgafafdaaDoor
open Go.RowKit

theorem not_u32 (C : Nat) (hbd : C < 4294967296) : bits .xor .u32 (C : Int) 4294967295 = ((4294967295 - C : Nat) : Int) := by
  rw [show (4294967295 : Int) = ((4294967295 : Nat) : Int) from rfl, u32_xor_nat _ _ hbd (by omega), Nat.xor_comm]
  congr 1
  have h : 4294967295 ^^^ C = (BitVec.allOnes 32 ^^^ BitVec.ofNat 32 C).toNat := by
    rw [BitVec.toNat_xor, BitVec.toNat_ofNat, Nat.mod_eq_of_lt (by omega : C < 2 ^ 32)]; rfl
  rw [h, BitVec.allOnes_xor, BitVec.toNat_not, BitVec.toNat_ofNat, Nat.mod_eq_of_lt (by omega : C < 2 ^ 32)]
theorem low1 (c : Nat) (hc : c < 4294967296) : bits .and .u32 (c : Int) 1 = ((c % 2 : Nat) : Int) := by
  rw [show (1 : Int) = ((1 : Nat) : Int) from rfl, u32_and_nat _ _ hc (by omega), nat_mask1]
theorem rot_eq (n x : Nat) (hx : x < 4294967296) : bits .or .u32 (((x * 2 ^ n % 4294967296 : Nat) : Int)) (((x / 2 ^ (32 - n) : Nat)) : Int) = ((rotN n x : Nat) : Int) := by
  have h2 := Nat.div_le_self x (2 ^ (32 - n))
  rw [u32_or_nat _ _ (by omega) (by omega)]; rfl
theorem rot1 (x : Nat) (hx : x < 4294967296) (w : World) :
    Calls Tryd.prog 49 #[.int .u32 x, .int .i64 1] w fun e w' => e = .returned (.int .u32 ((rotN 1 x : Nat) : Int)) ∧ w = w' := by
  have e5 : bits .and .u64 1 31 = 1 := by decide +kernel
  have h := rot_eq 1 x hx
  simp at h
  go_enter Tryd.func49, Tryd.ntmps49
  go_wp2
  go_ret
  exact ⟨rfl, rfl⟩
theorem rot5 (x : Nat) (hx : x < 4294967296) (w : World) :
    Calls Tryd.prog 49 #[.int .u32 x, .int .i64 5] w fun e w' => e = .returned (.int .u32 ((rotN 5 x : Nat) : Int)) ∧ w = w' := by
  have e5 : bits .and .u64 5 31 = 5 := by decide +kernel
  have h := rot_eq 5 x hx
  simp at h
  go_enter Tryd.func49, Tryd.ntmps49
  go_wp2
  go_ret
  exact ⟨rfl, rfl⟩
theorem rot30 (x : Nat) (hx : x < 4294967296) (w : World) :
    Calls Tryd.prog 49 #[.int .u32 x, .int .i64 30] w fun e w' => e = .returned (.int .u32 ((rotN 30 x : Nat) : Int)) ∧ w = w' := by
  have e5 : bits .and .u64 30 31 = 30 := by decide +kernel
  have h := rot_eq 30 x hx
  simp at h
  go_enter Tryd.func49, Tryd.ntmps49
  go_wp2
  go_ret
  exact ⟨rfl, rfl⟩
theorem not_max (b : Nat) (hb : b < 4294967296) : bits .xor .u32 IntKind.u32.max (b : Int) = ((4294967295 - b : Nat) : Int) := by
  have := not_u32 b hb
  rw [show IntKind.u32.max = ((4294967295 : Nat) : Int) from rfl, u32_xor_nat _ _ (by omega) hb, Nat.xor_comm, ← u32_xor_nat _ _ hb (by omega)]
  exact this
theorem blend_any (i b c d : Nat) (hb : b < 4294967296) (hc : c < 4294967296) (hd : d < 4294967296) (w : World) :
    Calls Tryd.prog 48 #[.int .i64 i, .int .u32 b, .int .u32 c, .int .u32 d] w fun e w' => e = .returned (.tuple #[.int .u32 ((fN i b c d : Nat) : Int), .int .u32 ((kN i : Nat) : Int)]) ∧ w = w' := by
  by_cases h1 : i < 20
  · have HF := Lib.hid (show fN i b c d = (b &&& c) ||| ((4294967295 - b) &&& d) by unfold fN; rw [if_pos h1])
    have HK := Lib.hid (show kN i = 1518500249 by unfold kN; rw [if_pos h1])
    have e1 := u32_and_nat b c hb hc
    have e2 := not_max b hb
    have e3 := u32_and_nat (4294967295 - b) d (by omega) hd
    have e4 := u32_or_nat (b &&& c) ((4294967295 - b) &&& d) (Nat.and_lt_two_pow (n := 32) _ hc) (Nat.and_lt_two_pow (n := 32) _ hd)
    generalize 4294967295 - b = nb at *
    clear hb hc hd
    go_enter Tryd.func48, Tryd.ntmps48
    go_wp2
    go_ret2
    exact ⟨by rw [HF.out, HK.out]; rfl, rfl⟩
  · by_cases h2 : i < 40
    · have HF := Lib.hid (show fN i b c d = b ^^^ c ^^^ d by unfold fN; rw [if_neg h1, if_pos h2])
      have HK := Lib.hid (show kN i = 1859775393 by unfold kN; rw [if_neg h1, if_pos h2])
      have e1 := u32_xor_nat b c hb hc
      have e2 := u32_xor_nat (b ^^^ c) d (Nat.xor_lt_two_pow (n := 32) hb hc) hd
      clear hb hc hd
      go_enter Tryd.func48, Tryd.ntmps48
      go_wp2
      go_ret2
      exact ⟨by rw [HF.out, HK.out]; rfl, rfl⟩
    · by_cases h3 : i < 60
      · have HF := Lib.hid (show fN i b c d = (b &&& c) ||| (b &&& d) ||| (c &&& d) by unfold fN; rw [if_neg h1, if_neg h2, if_pos h3])
        have HK := Lib.hid (show kN i = 2400959708 by unfold kN; rw [if_neg h1, if_neg h2, if_pos h3])
        have e1 := u32_and_nat b c hb hc
        have e2 := u32_and_nat b d hb hd
        have e3 := u32_and_nat c d hc hd
        have l1 := Nat.and_lt_two_pow (n := 32) b hc
        have l2 := Nat.and_lt_two_pow (n := 32) b hd
        have l3 := Nat.and_lt_two_pow (n := 32) c hd
        have e4 := u32_or_nat (b &&& c) (b &&& d) l1 l2
        have e5 := u32_or_nat ((b &&& c) ||| (b &&& d)) (c &&& d) (Nat.or_lt_two_pow (n := 32) l1 l2) l3
        clear hb hc hd l1 l2 l3
        go_enter Tryd.func48, Tryd.ntmps48
        go_wp2
        go_ret2
        exact ⟨by rw [HF.out, HK.out]; rfl, rfl⟩
      · have HF := Lib.hid (show fN i b c d = b ^^^ c ^^^ d by unfold fN; rw [if_neg h1, if_neg h2, if_neg h3])
        have HK := Lib.hid (show kN i = 3395469782 by unfold kN; rw [if_neg h1, if_neg h2, if_neg h3])
        have e1 := u32_xor_nat b c hb hc
        have e2 := u32_xor_nat (b ^^^ c) d (Nat.xor_lt_two_pow (n := 32) hb hc) hd
        clear hb hc hd
        go_enter Tryd.func48, Tryd.ntmps48
        go_wp2
        go_ret2
        exact ⟨by rw [HF.out, HK.out]; rfl, rfl⟩

def wArr (l : List Nat) : Array Value := ((List.range 80).map fun i => Value.int .u32 ((l.getD i 0 : Nat) : Int)).toArray
theorem wArr_size (l : List Nat) : (wArr l).size = 80 := by simp [wArr]
theorem wArr_get (l : List Nat) (i : Nat) (h : i < 80) : (wArr l)[i]? = some (.int .u32 ((l.getD i 0 : Nat) : Int)) := by simp [wArr, h]
theorem wArr_set (l : List Nat) (v : Int) (x : Nat) (hv : v = (x : Int)) (hl : l.length < 80) : (wArr l).setIfInBounds l.length (.int .u32 v) = wArr (l ++ [x]) := by
  subst hv
  apply Array.ext_getElem?
  intro j
  rw [Array.getElem?_setIfInBounds, wArr_size]
  simp only [wArr, List.getElem?_toArray, List.getElem?_map]
  by_cases hj : l.length = j
  · subst hj
    simp [hl]
  · rw [if_neg hj]
    by_cases h80 : j < 80
    · simp only [h80, List.getElem?_range]
      by_cases h2 : j < l.length
      · simp [List.getD, List.getElem?_append_left h2]
      · simp [List.getD, List.getElem?_eq_none (by omega : l.length ≤ j), List.getElem?_eq_none (by simp; omega : (l ++ [x]).length ≤ j)]
    · simp [h80]
theorem zero47 (w : World) : (zeroValue 94).run Tryd.prog w = .ok (.agg (wArr [])) w := by kernel_rfl

theorem word_eq (p0 p1 p2 p3 : Nat) (h0 : p0 < 256) (h1 : p1 < 256) (h2 : p2 < 256) (h3 : p3 < 256) :
    bits .or .u32 ((p0 : Int) * 16777216) ((p1 : Int) * 65536) = ((p0 * 16777216 + p1 * 65536 : Nat) : Int) ∧
    bits .or .u32 ((p0 * 16777216 + p1 * 65536 : Nat) : Int) ((p2 : Int) * 256) = ((p0 * 16777216 + p1 * 65536 + p2 * 256 : Nat) : Int) ∧
    bits .or .u32 ((p0 * 16777216 + p1 * 65536 + p2 * 256 : Nat) : Int) (p3 : Int) = ((p0 * 16777216 + p1 * 65536 + p2 * 256 + p3 : Nat) : Int) := by
  refine ⟨?_, ?_, ?_⟩
  · rw [show (p0 : Int) * 16777216 = ((p0 * 16777216 : Nat) : Int) by simp, show (p1 : Int) * 65536 = ((p1 * 65536 : Nat) : Int) by simp, u32_or_nat _ _ (by omega) (by omega)]
    congr 1
    have := Nat.two_pow_add_eq_or_of_lt (i := 24) (b := p1 * 65536) (by omega) p0
    rw [show (2 : Nat) ^ 24 * p0 = p0 * 16777216 by omega] at this
    exact this.symm
  · rw [show (p2 : Int) * 256 = ((p2 * 256 : Nat) : Int) by simp, u32_or_nat _ _ (by omega) (by omega)]
    congr 1
    have := Nat.two_pow_add_eq_or_of_lt (i := 16) (b := p2 * 256) (by omega) (p0 * 256 + p1)
    rw [show (2 : Nat) ^ 16 * (p0 * 256 + p1) = p0 * 16777216 + p1 * 65536 by omega] at this
    exact this.symm
  · rw [u32_or_nat _ _ (by omega) (by omega)]
    congr 1
    have := Nat.two_pow_add_eq_or_of_lt (i := 8) (b := p3) (by omega) (p0 * 65536 + p1 * 256 + p2)
    rw [show (2 : Nat) ^ 8 * (p0 * 65536 + p1 * 256 + p2) = p0 * 16777216 + p1 * 65536 + p2 * 256 by omega] at this
    exact this.symm
end Go.Proofs.YtbpclifgafafdaaDoor
