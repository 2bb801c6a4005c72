/- The reference's Whole, digits and Show. No condition but that a word has 64 bits. -/
import Derived.Test.YtjlkmfnkpnmbiaaDoorWhW
import Derived.Test.YtjlkmfnkpnmbiaaDoorRef
import Derived.BigQuiet
namespace Go.Proofs.YtjlkmfnkpnmbiaaDoor
open Go.RowKit

theorem exp_is (u : Nat) : u / 4503599627370496 % 2048 = u % 9223372036854775808 / 4503599627370496 := by omega
theorem or_top (f : Nat) (h : f < 4503599627370496) : bits .or .u64 (f : Int) 4503599627370496 = ((f + 4503599627370496 : Nat) : Int) := by
  rw [show (4503599627370496 : Int) = ((4503599627370496 : Nat) : Int) from rfl, u64_or_nat _ _ (by omega) (by decide)]
  congr 1
  have h2 := Nat.two_pow_add_eq_or_of_lt (i := 52) (b := f) (by simpa using h) 1
  rw [Nat.mul_one] at h2
  rw [Nat.or_comm, show (4503599627370496 : Nat) = 2 ^ 52 from rfl, ← h2, Nat.add_comm]
theorem half_odd {m i : Nat} (h : m % 2 = 1) : halfN m (i + 1) = none := by unfold halfN; rw [if_neg (by omega)]
theorem half_even {m i : Nat} (h : m % 2 = 0) : halfN m (i + 1) = halfN (m / 2) i := by rw [halfN, if_pos h]
/-- What the halvings come to. -/
def wholeE (b : Nat) (o : Option Nat) : Prop := wholeV b = (match o with | some n => if negB b = true then -(n : Int) else (n : Int) | none => 0) ∧ (wholeN b).isSome = o.isSome
theorem sign_is (b : Nat) (hb : b < 18446744073709551616) (n : Nat) : Ieee.signed (b / 9223372036854775808 % 2 == 1) n 0 = if negB b = true then -(n : Int) else (n : Int) := by
  unfold Ieee.signed negB
  rw [Nat.shiftLeft_zero]
  by_cases h : 9223372036854775808 ≤ b
  · rw [show b / 9223372036854775808 % 2 = 1 by omega]; simp [h]
  · rw [show b / 9223372036854775808 % 2 = 0 by omega]; simp [h]
theorem whole_half' {b : Nat} (hb : b < 18446744073709551616) (hn : nanB b = false) (h0 : b % 9223372036854775808 ≠ 0) (h1 : 1023 ≤ b % 9223372036854775808 / 4503599627370496) (h5 : b % 9223372036854775808 / 4503599627370496 ≤ 1075) :
    wholeE b (halfN (b % 4503599627370496 + 4503599627370496) (1075 - b % 9223372036854775808 / 4503599627370496)) := by
  have hp : partW b = (b % 4503599627370496 + 4503599627370496) / 2 ^ (1075 - b % 9223372036854775808 / 4503599627370496) := by unfold partW; rw [if_neg (by omega), Nat.add_comm]
  have hw : wholeN b = if partW b * 2 ^ (1075 - b % 9223372036854775808 / 4503599627370496) = 4503599627370496 + b % 4503599627370496 then some (Ieee.signed (b / 9223372036854775808 % 2 == 1) (partW b) 0) else none := by
    unfold wholeN
    rw [hn, if_neg (by decide), if_neg h0, if_neg (by omega), if_pos h5]
  rw [half_is, ← hp]
  unfold wholeE wholeV
  by_cases h : partW b * 2 ^ (1075 - b % 9223372036854775808 / 4503599627370496) = 4503599627370496 + b % 4503599627370496
  · rw [hw, if_pos h, if_pos (by rw [h, Nat.add_comm]), sign_is b hb]
    exact ⟨rfl, rfl⟩
  · rw [hw, if_neg h, if_neg (by rw [Nat.add_comm (b % _)]; exact h)]
    exact ⟨rfl, rfl⟩
set_option maxHeartbeats 4000000 in
set_option maxRecDepth 100000 in
theorem rwhole_any (b : Nat) (hb : b < 18446744073709551616) (w : World) :
    Calls Tryd.prog 35 #[.int .u64 b] w fun e w' => e = .returned (.tuple #[.int .i64 (wholeV b), .bool (wholeN b).isSome]) ∧ w = w' := by
  have HB := Lib.hid hb
  have he := and_exp b hb
  have hf := and_frac b hb
  have ho := or_top (b % 4503599627370496) (Nat.mod_lt _ (by decide))
  have hex := exp_is b
  have hEb : b / 4503599627370496 % 2048 < 2048 := Nat.mod_lt _ (by decide)
  have hFb : b % 4503599627370496 < 4503599627370496 := Nat.mod_lt _ (by decide)
  cases hn : nanB b
  · have hk := kind_num b hb hn
    have hg := neg_num b hn
    by_cases h0 : b % 9223372036854775808 = 0
    · rw [if_neg (by omega), if_pos h0] at hk
      have HR := Lib.hid (show wholeV b = 0 ∧ (wholeN b).isSome = true by unfold wholeV wholeN; rw [hn, if_neg (by decide), if_pos h0]; exact ⟨rfl, rfl⟩)
      rw [HR.out.1, HR.out.2]
      have Hk := Lib.hid hk
      clear hk hg h0 HR hn he hf ho hex hEb hFb hb
      go_enter Tryd.func35, Tryd.ntmps35
      go_wp2_with (go_at_call 14; refine (refclass_any _ HB.out _).mono ?_; rintro e w' ⟨rfl, rfl⟩; rw [Hk.out])
      go_ret2
      exact ⟨rfl, rfl⟩
    · have hnb : ¬ 9218868437227405312 < b % 9223372036854775808 := by simpa [nanB] using hn
      by_cases hlow : b % 9223372036854775808 / 4503599627370496 < 1023 ∨ 1076 < b % 9223372036854775808 / 4503599627370496
      · have HR := Lib.hid (show wholeV b = 0 ∧ (wholeN b).isSome = false by
          unfold wholeV wholeN
          rw [hn, if_neg (by decide), if_neg h0]
          rcases hlow with h | h
          · rw [if_pos h]; exact ⟨rfl, rfl⟩
          · rw [if_neg (by omega), if_neg (by omega), if_neg (by omega)]; exact ⟨rfl, rfl⟩)
        rw [HR.out.1, HR.out.2]
        obtain ⟨K, hK, hK0, hK2⟩ : ∃ K : Int, kindN (bitsN b) = K ∧ (K == 0) = false ∧ (K = 2 ∨ (K != 2) = true) := by
          refine ⟨_, hk, ?_, ?_⟩
          · rw [if_neg h0]; split
            · decide
            · split <;> decide
          · rw [if_neg h0]; split
            · exact Or.inr (by decide)
            · split
              · exact Or.inr (by decide)
              · exact Or.inl rfl
        have Hk := Lib.hid hK
        obtain ⟨E, hE⟩ : ∃ E, E = b / 4503599627370496 % 2048 := ⟨_, rfl⟩
        rw [← hE] at he hex hEb
        rw [← hex] at hlow
        generalize b % 4503599627370496 = F at hf ho hFb
        clear hE hk hg h0 HR hn hnb hb hK hex
        rcases hK2 with rfl | hK2
        · rcases hlow with h | h
          all_goals
            go_enter Tryd.func35, Tryd.ntmps35
            go_wp2_with (go_at_call 14; refine (refclass_any _ HB.out _).mono ?_; rintro e w' ⟨rfl, rfl⟩; rw [Hk.out])
            go_ret2
            exact ⟨rfl, rfl⟩
        · clear hlow
          go_enter Tryd.func35, Tryd.ntmps35
          go_wp2_with (go_at_call 14; refine (refclass_any _ HB.out _).mono ?_; rintro e w' ⟨rfl, rfl⟩; rw [Hk.out])
          go_ret2
          exact ⟨rfl, rfl⟩
      · rw [if_neg (by omega), if_neg h0, if_neg (by omega)] at hk
        have Hk := Lib.hid hk
        have Hg := Lib.hid hg
        by_cases h76 : b % 9223372036854775808 / 4503599627370496 = 1076
        · have hw : wholeN b = if b % 4503599627370496 = 0 then some (Ieee.signed (b / 9223372036854775808 % 2 == 1) 9007199254740992 0) else none := by
            unfold wholeN
            rw [hn, if_neg (by decide), if_neg h0, if_neg (by omega), if_neg (by omega)]
            by_cases hF : b % 4503599627370496 = 0
            · rw [if_pos ⟨h76, hF⟩, if_pos hF]
            · rw [if_neg (fun h => hF h.2), if_neg hF]
          rw [sign_is b hb] at hw
          obtain ⟨E, hE⟩ : ∃ E, E = b / 4503599627370496 % 2048 := ⟨_, rfl⟩
          rw [← hE] at he hex hEb
          obtain ⟨F, hF⟩ : ∃ F, F = b % 4503599627370496 := ⟨_, rfl⟩
          rw [← hF] at hf ho hFb hw
          have hE76 : E = 1076 := by omega
          clear hE hF hk hg hn hnb hb hlow h0 hex h76
          subst hE76
          by_cases hF0 : F = 0
          · subst hF0
            rw [if_pos rfl] at hw
            clear ho
            have ho : bits .or .u64 0 4503599627370496 = 4503599627370496 := by decide +kernel
            cases hs : negB b
            · rw [hs] at hw Hg
              have HR := Lib.hid (show wholeV b = 9007199254740992 ∧ (wholeN b).isSome = true by unfold wholeV; rw [hw]; exact ⟨rfl, rfl⟩)
              rw [HR.out.1, HR.out.2]
              clear hw HR hs
              go_enter Tryd.func35, Tryd.ntmps35
              go_wp2_with (go_at_call 14; refine (refclass_any _ HB.out _).mono ?_; rintro e w' ⟨rfl, rfl⟩; rw [Hk.out, Hg.out])
              go_loop [6, 8] (fun ve vn => ve = .int .i64 1 ∧ vn = .int .i64 9007199254740992) (fun _ _ => 0)
              case atStart => exact ⟨rfl, rfl⟩
              case round =>
                obtain ⟨rfl, rfl⟩ := hrel
                go_wp2
                go_ret2
                exact ⟨rfl, rfl⟩
            · rw [hs] at hw Hg
              have HR := Lib.hid (show wholeV b = -9007199254740992 ∧ (wholeN b).isSome = true by unfold wholeV; rw [hw]; exact ⟨rfl, rfl⟩)
              rw [HR.out.1, HR.out.2]
              clear hw HR hs
              go_enter Tryd.func35, Tryd.ntmps35
              go_wp2_with (go_at_call 14; refine (refclass_any _ HB.out _).mono ?_; rintro e w' ⟨rfl, rfl⟩; rw [Hk.out, Hg.out])
              go_loop [6, 8] (fun ve vn => ve = .int .i64 1 ∧ vn = .int .i64 9007199254740992) (fun _ _ => 0)
              case atStart => exact ⟨rfl, rfl⟩
              case round =>
                obtain ⟨rfl, rfl⟩ := hrel
                go_wp2
                go_ret2
                exact ⟨rfl, rfl⟩
          · rw [if_neg hF0] at hw
            have HR := Lib.hid (show wholeV b = 0 ∧ (wholeN b).isSome = false by unfold wholeV; rw [hw]; exact ⟨rfl, rfl⟩)
            rw [HR.out.1, HR.out.2]
            obtain ⟨m, hm⟩ : ∃ m, m = F + 4503599627370496 := ⟨_, rfl⟩
            rw [← hm] at ho
            have hmi : ((m : Int) != 4503599627370496) = true := by simp; omega
            have hm1 : m < 9007199254740992 := by omega
            clear hw HR hm hF0
            go_enter Tryd.func35, Tryd.ntmps35
            go_wp2_with (go_at_call 14; refine (refclass_any _ HB.out _).mono ?_; rintro e w' ⟨rfl, rfl⟩; rw [Hk.out])
            go_ret2
            exact ⟨rfl, rfl⟩
        · have HW := whole_half' hb hn h0 (by omega) (by omega)
          obtain ⟨E, hE⟩ : ∃ E, E = b / 4503599627370496 % 2048 := ⟨_, rfl⟩
          rw [← hE] at he hex hEb
          rw [← hex] at HW
          obtain ⟨F, hF⟩ : ∃ F, F = b % 4503599627370496 := ⟨_, rfl⟩
          rw [← hF] at hf ho hFb HW
          obtain ⟨k, hk5⟩ : ∃ k, E + k = 1075 := ⟨1075 - E, by omega⟩
          have hEk : (E : Int) = 1075 - (k : Int) := by omega
          rw [show 1075 - E = k by omega] at HW
          have hk52 : k ≤ 52 := by omega
          rw [hEk] at he
          have HWH := Lib.hid HW
          clear hE hF hk hg hn hnb hb hlow h0 hex h76 HW hEb hk5 hEk
          obtain ⟨sg, hsg⟩ : ∃ sg, sg = negB b := ⟨_, rfl⟩
          rw [← hsg] at Hg
          have Hsg := Lib.hid hsg
          clear hsg
          obtain ⟨m, hm⟩ : ∃ m, m = F + 4503599627370496 := ⟨_, rfl⟩
          have hm1 : m < 9007199254740992 := by omega
          rw [← hm] at ho HWH
          have hm0 : 4503599627370496 ≤ m := by omega
          have hmi : ((m : Int) != 4503599627370496) = decide (F ≠ 0) := by
            by_cases h : F = 0 <;> simp [h, hm]
            omega
          clear hm hmi
          go_enter Tryd.func35, Tryd.ntmps35
          go_wp2_with (go_at_call 14; refine (refclass_any _ HB.out _).mono ?_; rintro e w' ⟨rfl, rfl⟩; rw [Hk.out, Hg.out])
          go_loop [6, 8] (fun ve vn => ∃ (i n : Nat), ve = .int .i64 (-(i : Int)) ∧ vn = .int .i64 (n : Int) ∧ i ≤ 52 ∧ n < 9007199254740992 ∧ Hid (halfN n i = halfN m k))
            (fun ve _ => (-(intOf ve)).toNat)
          case atStart => exact ⟨k, m, by go_num, rfl, hk52, hm1, rfl⟩
          case round =>
            obtain ⟨i, n, rfl, rfl, hi, hn1, hh⟩ := hrel
            cases i with
            | zero =>
              have hH := HWH.out
              rw [← hh.out] at hH
              unfold wholeE at hH
              simp only [halfN] at hH
              obtain ⟨r1, r2⟩ := hH
              rw [← Hsg.out] at r1
              have HR := Lib.hid (And.intro r1 r2)
              clear r1 r2
              cases sg
              · go_wp2
                go_ret2
                exact ⟨by rw [HR.out.1, HR.out.2]; rfl, rfl⟩
              · go_wp2
                go_ret2
                exact ⟨by rw [HR.out.1, HR.out.2]; rfl, rfl⟩
            | succ i =>
              have q1 : (n : Int) % 2 = ((n % 2 : Nat) : Int) := by omega
              have q2 : (n : Int) / 2 = ((n / 2 : Nat) : Int) := by omega
              have q3 : (n : Int).tmod 2 = ((n % 2 : Nat) : Int) := by rw [Int.tmod_eq_emod_of_nonneg (by omega)]; omega
              have q4 : (n : Int).tdiv 2 = ((n / 2 : Nat) : Int) := by rw [Int.tdiv_eq_ediv_of_nonneg (by omega)]; omega
              by_cases hodd : n % 2 = 1
              · have hH := HWH.out
                rw [← hh.out, half_odd hodd] at hH
                have HR := Lib.hid hH
                rw [hodd] at q1 q3
                clear hH hodd hh
                go_wp2
                go_ret2
                exact ⟨by rw [HR.out.1, HR.out.2]; rfl, rfl⟩
              · have hev : n % 2 = 0 := by omega
                have HN := Lib.hid ((half_even (i := i) hev).symm.trans hh.out)
                rw [hev] at q1 q3
                obtain ⟨n2, hn2⟩ : ∃ n2, n2 = n / 2 := ⟨_, rfl⟩
                rw [← hn2] at q2 q4 HN
                have hn2b : n2 < 9007199254740992 := by omega
                clear hev hh hodd hn2
                go_wp2
                refine ⟨⟨i, n2, by go_num, rfl, by omega, hn2b, HN⟩, by simp [intOf]; omega⟩
  · have HR := Lib.hid (show wholeV b = 0 ∧ (wholeN b).isSome = false by unfold wholeV wholeN; rw [if_pos hn]; exact ⟨rfl, rfl⟩)
    rw [HR.out.1, HR.out.2]
    have Hk := Lib.hid (kind_nan b hb hn)
    generalize b / 4503599627370496 % 2048 = E at he hEb
    generalize b % 4503599627370496 = F at hf ho hFb
    clear hn HR hb hex
    go_enter Tryd.func35, Tryd.ntmps35
    go_wp2_with (go_at_call 14; refine (refclass_any _ HB.out _).mono ?_; rintro e w' ⟨rfl, rfl⟩; rw [Hk.out])
    go_ret2
    exact ⟨rfl, rfl⟩
end Go.Proofs.YtjlkmfnkpnmbiaaDoor
