/- The walks of keys: made, read back, and the reference's. Conditions: the bytes lie in memory. -/
import Derived.Test.YtjlkmfnkpnmbiaaDoorScal
import Derived.Test.YtjlkmfnkpnmbiaaDoorSame
import Derived.Test.YtjlkmfnkpnmbiaaDoorKeyM
namespace Go.Proofs.YtjlkmfnkpnmbiaaDoor
open Go.RowKit

def u8s (l : List Nat) : List Value := (l.map fun (x : Nat) => (x : Int)).map (Value.int .u8)
theorem u8s_length (l : List Nat) : (u8s l).length = l.length := by simp [u8s]
theorem u8s_get (l : List Nat) (i : Nat) (h : i < l.length) : (u8s l)[i]'(by rw [u8s_length]; exact h) = .int .u8 ((l[i] : Nat) : Int) := by simp [u8s]
theorem u8s_one (l : List Nat) : ∀ u ∈ u8s l, u.oneCell' = true := by
  intro u hu
  simp only [u8s, List.map_map, List.mem_map] at hu
  obtain ⟨x, _, rfl⟩ := hu
  rfl
def keyA (r k : Nat) : Array Value := ((List.range 8).map fun i => if i < k then Value.int .u8 ((dig8 r i : Nat) : Int) else Value.int .u8 0).toArray
theorem keyA_zero (r : Nat) : madeCells #[Value.int .u8 0] 8 = keyA r 0 := by
  apply Array.toList_inj.1
  rw [toList_madeCells_one]; simp [keyA, List.range, List.range.loop, List.replicate]
theorem keyA_at (r k : Nat) (hk : k < 8) : (keyA r k)[k]? = some (.int .u8 0) := by simp [keyA, hk]
theorem keyA_set (r k : Nat) (v : Int) (hv : v = (dig8 r k : Nat)) : (keyA r k).setIfInBounds k (.int .u8 v) = keyA r (k + 1) := by
  subst hv
  apply Array.ext_getElem?
  intro j
  rw [Array.getElem?_setIfInBounds, show (keyA r k).size = 8 by simp [keyA]]
  simp only [keyA, List.getElem?_toArray, List.getElem?_map, List.getElem?_range]
  by_cases hj : k = j
  · subst hj
    by_cases h16 : k < 8 <;> simp [h16]
  · rw [if_neg hj]
    by_cases h16 : j < 8
    · by_cases h2 : j < k
      · simp [h16, h2, show j < k + 1 by omega]
      · simp [h16, h2, show ¬ j < k + 1 by omega]
    · simp [h16]
theorem keyA_full (r i : Nat) (hi : i < (u8s (digs r)).length) : (keyA r 8)[i]? = (u8s (digs r))[i]? := by
  have h8 : i < 8 := by simpa [u8s, digs] using hi
  simp [keyA, u8s, digs, h8]

theorem xor_top (i m : Nat) (h : m < 2 ^ i) : (2 ^ i + m) ^^^ 2 ^ i = m := by
  have h1 := Nat.two_pow_add_eq_or_of_lt (i := i) (b := m) h 1
  rw [Nat.mul_one] at h1
  rw [h1]
  apply Nat.eq_of_testBit_eq
  intro j
  rw [Nat.testBit_xor, Nat.testBit_or, Nat.testBit_two_pow]
  by_cases hj : i = j
  · subst hj
    have : m.testBit i = false := Nat.testBit_lt_two_pow h
    simp [this]
  · simp [hj]

theorem xor_top63 (r T : Nat) (hT : T = 2 ^ 63) (h1 : T ≤ r) (h2 : r < 2 * T) : r ^^^ T = r - T := by
  have := xor_top 63 (r - T) (by omega)
  rw [← hT] at this
  rwa [show T + (r - T) = r by omega] at this

set_option maxRecDepth 100000 in
theorem key_any (b : Nat) (hb : b < 18446744073709551616) (w : World) :
    Calls Tryd.prog 25 #[.float .f64 b] w fun e w' => e = .returned (.slice (some ⟨w.heap.size, 0, none⟩) 8 8) ∧ w' = w.alloc (.cells (keyA (rankN b) 8) 5) := by
  have hmk := run_make_row' (P := Tryd.prog) 44 5 (.int .u8 0) 1 Tryd.underlying44 (by kernel_rfl) rfl .i64 .i64 8 (by omega) (by omega)
  rw [show ((8 : Nat) : Int) = 8 from rfl, keyA_zero (rankN b)] at hmk
  have HB := Lib.hid hb
  clear hb
  generalize hr : rankN b = r at *
  go_enter Tryd.func25, Tryd.ntmps25
  go_wp2_with (go_at_call 44; refine (rank_any _ HB.out _).mono ?_; rintro e w' ⟨rfl, rfl⟩; rw [hr])
  go_loopw [11] (fun i wr => ∃ k : Nat, k ≤ 8 ∧ i = .int .i64 k ∧ wr = w.alloc (.cells (keyA r k) 5)) (fun i _ => 8 - (intOf i).toNat)
  case atStart => exact ⟨0, by omega, rfl, rfl⟩
  case round =>
    obtain ⟨k, hk, rfl, rfl⟩ := hrel
    by_cases hlt : k < 8
    · have hold := keyA_at r k hlt
      have HS := Lib.hid (keyA_set r k)
      go_wp2
      go_roundw
      case rel => exact ⟨k + 1, by omega, by go_num, by rw [HS.out _ (by simp [dig8])]⟩
      case measure => simp [intOf]; omega
    · obtain rfl : k = 8 := by omega
      go_wp2
      go_ret
      exact ⟨rfl, rfl⟩
theorem key_seg (w : World) (r : Nat) : Seg (w.alloc (.cells (keyA r 8) 5)) (some ⟨w.heap.size, 0, none⟩) (u8s (digs r)) :=
  Seg.of_block (heap_alloc_new w _) (fun i hi => keyA_full r i hi)

set_option maxRecDepth 100000 in
theorem unrank_any (r : Nat) (hr : r < 18446744073709551616) (w : World) :
    Calls Tryd.prog 46 #[.int .u64 r] w fun e w' => e = .returned (.tuple #[.float .f64 (if rankN (unrankB r) = r then unrankB r else 0), .bool (decide (rankN (unrankB r) = r))]) ∧ w = w' := by
  have hfb := run_frombits
  have hs := and_sign r hr
  have HL := Lib.hid (unrankB_lt r hr)
  have hx := not_u64 r hr
  have e2 : negB r = true → bits .xor .u64 (r : Int) 9223372036854775808 = ((r - 9223372036854775808 : Nat) : Int) := by
    intro h
    unfold negB at h
    simp only [decide_eq_true_eq] at h
    rw [show (9223372036854775808 : Int) = ((9223372036854775808 : Nat) : Int) from rfl, u64_xor_nat _ _ hr (by omega)]
    exact congrArg (fun n : Nat => (n : Int)) (xor_top63 r 9223372036854775808 (by decide +kernel) h (by omega))
  have hb : unrankB r = if negB r = true then r - 9223372036854775808 else 18446744073709551615 - r := by unfold unrankB negB; simp
  clear hr
  cases hn : negB r
  · rw [hn] at hs hb
    simp only [Bool.false_eq_true, if_false] at hb
    rw [← hb] at hx
    clear e2 hb hn
    obtain ⟨u, hu⟩ : ∃ u, u = unrankB r := ⟨_, rfl⟩
    rw [← hu] at hx HL ⊢
    have hra := Lib.hid (rank_any u HL.out)
    clear HL
    by_cases hq : rankN u = r
    · have ht : ((rankN u : Int) != (r : Int)) = false := by simp [hq]
      have HQ := Lib.hid hq
      clear hq hu
      go_enter Tryd.func46, Tryd.ntmps46
      go_wp2_with fail
      refine (hra.out w).mono ?_
      rintro e w' ⟨rfl, rfl⟩
      go_wp2
      go_ret2
      exact ⟨by first | (rw [if_pos HQ.out, decide_eq_true HQ.out]; rfl) | rfl, rfl⟩
    · have ht : ((rankN u : Int) != (r : Int)) = true := by rw [bne_iff_ne]; omega
      have HQ := Lib.hid hq
      clear hq hu
      go_enter Tryd.func46, Tryd.ntmps46
      go_wp2_with fail
      refine (hra.out w).mono ?_
      rintro e w' ⟨rfl, rfl⟩
      go_wp2
      go_ret2
      exact ⟨by first | (rw [if_neg HQ.out, decide_eq_false HQ.out]; rfl) | rfl, rfl⟩
  · rw [hn] at hs hb
    simp only [if_true] at hb
    have e2 := e2 hn
    rw [← hb] at e2
    clear hb hn
    obtain ⟨u, hu⟩ : ∃ u, u = unrankB r := ⟨_, rfl⟩
    rw [← hu] at e2 HL ⊢
    have hra := Lib.hid (rank_any u HL.out)
    clear HL
    by_cases hq : rankN u = r
    · have ht : ((rankN u : Int) != (r : Int)) = false := by simp [hq]
      have HQ := Lib.hid hq
      clear hq hu
      go_enter Tryd.func46, Tryd.ntmps46
      go_wp2_with fail
      refine (hra.out w).mono ?_
      rintro e w' ⟨rfl, rfl⟩
      go_wp2
      go_ret2
      exact ⟨by first | (rw [if_pos HQ.out, decide_eq_true HQ.out]; rfl) | rfl, rfl⟩
    · have ht : ((rankN u : Int) != (r : Int)) = true := by rw [bne_iff_ne]; omega
      have HQ := Lib.hid hq
      clear hq hu
      go_enter Tryd.func46, Tryd.ntmps46
      go_wp2_with fail
      refine (hra.out w).mono ?_
      rintro e w' ⟨rfl, rfl⟩
      go_wp2
      go_ret2
      exact ⟨by first | (rw [if_neg HQ.out, decide_eq_false HQ.out]; rfl) | rfl, rfl⟩
def unrankF (r : Nat) : Nat := if rankN (unrankB r) = r then unrankB r else 0
def unrankOk (r : Nat) : Bool := decide (rankN (unrankB r) = r)
theorem unrank_calls (r : Nat) (hr : r < 18446744073709551616) (w : World) :
    Calls Tryd.prog 46 #[.int .u64 r] w fun e w' => e = .returned (.tuple #[.float .f64 (unrankF r), .bool (unrankOk r)]) ∧ w = w' := unrank_any r hr w
end Go.Proofs.YtjlkmfnkpnmbiaaDoor
