/- The width of the code point with which a text begins; is a text UTF-8? Condition: the text is no longer than Go's. -/
import Derived.Test.YtahpiminhlineaaDoorRuneM
import Derived.Test.YtahpiminhlineaaDoorUtfQ
namespace Go.Proofs.YtahpiminhlineaaDoor
open Go.RowKit Go.Shelf Go.PlainAid

theorem acc_step {s : ByteArray} {c0 c : Int} {j : Nat} (h : c = accZ s c0 j) : 64 * c + bt s (j + 1) - 128 = accZ s c0 (j + 1) := by rw [h]; rfl
set_option maxRecDepth 100000 in
set_option maxHeartbeats 2000000 in
theorem rune_c2 (s : ByteArray) (hs : s.size ≤ 9223372036854775807) (h0 : 0 < s.size) (hb0 : 194 ≤ bt s 0 ∧ bt s 0 < 224) (w : World) :
    Calls Tryd.prog 36 #[.string s] w fun e w' => e = .returned (.int .i64 (runeN s.data.toList)) ∧ w' = w := by
  have hb := get_bt s
  have hR := rune_2 s hb0 h0
  obtain ⟨v, hv⟩ : ∃ v, v = runeN s.data.toList := ⟨_, rfl⟩
  rw [← hv] at hR ⊢
  have HR := Lib.hid hR
  clear hR hv
  obtain ⟨q1, q2⟩ := hb0
  have z0 : (0 : Int) < (s.size : Int) := by omega
  by_cases hk : s.size < 2
  · have HV := Lib.hid (HR.out.short hk)
    clear HR
    go_enter Tryd.func36, Tryd.ntmps36
    go_wp2
    go_ret
    exact ⟨by rw [HV.out]; rfl, rfl⟩
  · go_enter Tryd.func36, Tryd.ntmps36
    go_wp2
    go_loopw [3, 6] (fun cv iv wr => ∃ (j i : Nat) (c : Int), Hid (i = j + 1) ∧ i ≤ 2 ∧ cv = .int .i64 c ∧ iv = .int .i64 i ∧ Hid (c = accZ s (bt s 0 - 192) j) ∧ Hid (∀ n, n < j → contB (bt s (n + 1)) = true) ∧ Hid (0 ≤ c ∧ (j = 0 → c ≤ 31) ∧ (j = 1 → c ≤ 2047) ∧ (j = 2 → c ≤ 131071) ∧ (j = 3 → c ≤ 8388607)) ∧ wr = w) (fun _ iv _ => 2 - (intOf iv).toNat)
    case atStart => exact ⟨0, 1, bt s 0 - 192, Lib.hid rfl, by omega, rfl, rfl, Lib.hid rfl, Lib.hid (fun n hn => absurd hn (Nat.not_lt_zero _)), Lib.hid ⟨by omega, fun _ => by omega, fun h => by omega, fun h => by omega, fun h => by omega⟩, rfl⟩
    case round =>
      obtain ⟨j, i, c, HI, hi, rfl, rfl, HC, HA, HB, rfl⟩ := hrel
      have hcl : 0 ≤ c ∧ c ≤ 8388607 := by
        have := HB.out
        have := HI.out
        omega
      by_cases hik : i < 2
      · have i1 : (i : Int) < 2 := by omega
        have i2 : i < s.size := by omega
        have hby := bt_byte s i
        have HJ := Lib.hid (show contB (bt s i) = false → v = 0 from fun h => HR.out.cont j (by have := HI.out; omega) (by omega) (by rw [← HI.out]; exact h))
        by_cases b1 : bt s i < 128
        · have HV := Lib.hid (HJ.out (by unfold contB; exact decide_eq_false (by omega)))
          go_wp2
          go_ret
          exact ⟨by rw [HV.out]; rfl, rfl⟩
        · by_cases b2 : 191 < bt s i
          · have HV := Lib.hid (HJ.out (by unfold contB; exact decide_eq_false (by omega)))
            go_wp2
            go_ret
            exact ⟨by rw [HV.out]; rfl, rfl⟩
          · have HC2 := Lib.hid (show 64 * c + bt s i - 128 = accZ s (bt s 0 - 192) i by rw [HC.out, HI.out]; rfl)
            have HA2 := Lib.hid (show ∀ n, n < i → contB (bt s (n + 1)) = true from fun n hn => by
              by_cases hnj : n < j
              · exact HA.out n hnj
              · obtain rfl : n = j := by have := HI.out; omega
                rw [← HI.out]
                unfold contB
                exact decide_eq_true (by omega))
            have HB2 := Lib.hid (show 0 ≤ 64 * c + bt s i - 128 ∧ (i = 0 → 64 * c + bt s i - 128 ≤ 31) ∧ (i = 1 → 64 * c + bt s i - 128 ≤ 2047) ∧ (i = 2 → 64 * c + bt s i - 128 ≤ 131071) ∧ (i = 3 → 64 * c + bt s i - 128 ≤ 8388607) by
              have := HB.out
              have := HI.out
              omega)
            have m1 : IntKind.i64.wrap (64 * c) = 64 * c := by rw [IntKind.wrap_i64]; omega
            have m2 : IntKind.i64.wrap (64 * c + bt s i) = 64 * c + bt s i := by rw [IntKind.wrap_i64]; omega
            have m3 : IntKind.i64.wrap (64 * c + bt s i - 128) = 64 * c + bt s i - 128 := by rw [IntKind.wrap_i64]; omega
            clear HJ
            go_wp2
            go_roundw
            case rel => exact ⟨i, i + 1, 64 * c + bt s i - 128, Lib.hid rfl, by omega, by go_num, by go_num, HC2, HA2, HB2, trivial⟩
            case measure => simp [intOf]; omega
      · have hie : i = 2 := by omega
        have HV := Lib.hid (HR.out.good (by omega) (fun n hn => HA.out n (by have := HI.out; omega)))
        have HV2 := Lib.hid (show v = if goodB 128 c = true then 2 else 0 by rw [HV.out, show 2 - 1 = j by have := HI.out; omega, ← HC.out])
        subst hie
        clear HR HV
        by_cases g1 : c < 128
        · have HE := Lib.hid (show v = 0 by rw [HV2.out, if_neg]; unfold goodB; simp only [decide_eq_true_eq]; omega)
          go_wp2
          go_ret
          exact ⟨by rw [HE.out]; rfl, rfl⟩
        · by_cases g2 : 1114111 < c
          · have HE := Lib.hid (show v = 0 by rw [HV2.out, if_neg]; unfold goodB; simp only [decide_eq_true_eq]; omega)
            go_wp2
            go_ret
            exact ⟨by rw [HE.out]; rfl, rfl⟩
          · by_cases g3 : 55296 ≤ c
            · by_cases g4 : c < 57344
              · have HE := Lib.hid (show v = 0 by rw [HV2.out, if_neg]; unfold goodB; simp only [decide_eq_true_eq]; omega)
                go_wp2
                go_ret
                exact ⟨by rw [HE.out]; rfl, rfl⟩
              · have HE := Lib.hid (show v = 2 by rw [HV2.out, if_pos]; unfold goodB; exact decide_eq_true (by omega))
                go_wp2
                go_ret
                exact ⟨by rw [HE.out]; rfl, rfl⟩
            · have HE := Lib.hid (show v = 2 by rw [HV2.out, if_pos]; unfold goodB; exact decide_eq_true (by omega))
              go_wp2
              go_ret
              exact ⟨by rw [HE.out]; rfl, rfl⟩
set_option maxRecDepth 100000 in
set_option maxHeartbeats 2000000 in
theorem rune_c3 (s : ByteArray) (hs : s.size ≤ 9223372036854775807) (h0 : 0 < s.size) (hb0 : 224 ≤ bt s 0 ∧ bt s 0 < 240) (w : World) :
    Calls Tryd.prog 36 #[.string s] w fun e w' => e = .returned (.int .i64 (runeN s.data.toList)) ∧ w' = w := by
  have hb := get_bt s
  have hR := rune_3 s hb0 h0
  obtain ⟨v, hv⟩ : ∃ v, v = runeN s.data.toList := ⟨_, rfl⟩
  rw [← hv] at hR ⊢
  have HR := Lib.hid hR
  clear hR hv
  obtain ⟨q1, q2⟩ := hb0
  have z0 : (0 : Int) < (s.size : Int) := by omega
  by_cases hk : s.size < 3
  · have HV := Lib.hid (HR.out.short hk)
    clear HR
    go_enter Tryd.func36, Tryd.ntmps36
    go_wp2
    go_ret
    exact ⟨by rw [HV.out]; rfl, rfl⟩
  · go_enter Tryd.func36, Tryd.ntmps36
    go_wp2
    go_loopw [3, 6] (fun cv iv wr => ∃ (j i : Nat) (c : Int), Hid (i = j + 1) ∧ i ≤ 3 ∧ cv = .int .i64 c ∧ iv = .int .i64 i ∧ Hid (c = accZ s (bt s 0 - 224) j) ∧ Hid (∀ n, n < j → contB (bt s (n + 1)) = true) ∧ Hid (0 ≤ c ∧ (j = 0 → c ≤ 31) ∧ (j = 1 → c ≤ 2047) ∧ (j = 2 → c ≤ 131071) ∧ (j = 3 → c ≤ 8388607)) ∧ wr = w) (fun _ iv _ => 3 - (intOf iv).toNat)
    case atStart => exact ⟨0, 1, bt s 0 - 224, Lib.hid rfl, by omega, rfl, rfl, Lib.hid rfl, Lib.hid (fun n hn => absurd hn (Nat.not_lt_zero _)), Lib.hid ⟨by omega, fun _ => by omega, fun h => by omega, fun h => by omega, fun h => by omega⟩, rfl⟩
    case round =>
      obtain ⟨j, i, c, HI, hi, rfl, rfl, HC, HA, HB, rfl⟩ := hrel
      have hcl : 0 ≤ c ∧ c ≤ 8388607 := by
        have := HB.out
        have := HI.out
        omega
      by_cases hik : i < 3
      · have i1 : (i : Int) < 3 := by omega
        have i2 : i < s.size := by omega
        have hby := bt_byte s i
        have HJ := Lib.hid (show contB (bt s i) = false → v = 0 from fun h => HR.out.cont j (by have := HI.out; omega) (by omega) (by rw [← HI.out]; exact h))
        by_cases b1 : bt s i < 128
        · have HV := Lib.hid (HJ.out (by unfold contB; exact decide_eq_false (by omega)))
          go_wp2
          go_ret
          exact ⟨by rw [HV.out]; rfl, rfl⟩
        · by_cases b2 : 191 < bt s i
          · have HV := Lib.hid (HJ.out (by unfold contB; exact decide_eq_false (by omega)))
            go_wp2
            go_ret
            exact ⟨by rw [HV.out]; rfl, rfl⟩
          · have HC2 := Lib.hid (show 64 * c + bt s i - 128 = accZ s (bt s 0 - 224) i by rw [HC.out, HI.out]; rfl)
            have HA2 := Lib.hid (show ∀ n, n < i → contB (bt s (n + 1)) = true from fun n hn => by
              by_cases hnj : n < j
              · exact HA.out n hnj
              · obtain rfl : n = j := by have := HI.out; omega
                rw [← HI.out]
                unfold contB
                exact decide_eq_true (by omega))
            have HB2 := Lib.hid (show 0 ≤ 64 * c + bt s i - 128 ∧ (i = 0 → 64 * c + bt s i - 128 ≤ 31) ∧ (i = 1 → 64 * c + bt s i - 128 ≤ 2047) ∧ (i = 2 → 64 * c + bt s i - 128 ≤ 131071) ∧ (i = 3 → 64 * c + bt s i - 128 ≤ 8388607) by
              have := HB.out
              have := HI.out
              omega)
            have m1 : IntKind.i64.wrap (64 * c) = 64 * c := by rw [IntKind.wrap_i64]; omega
            have m2 : IntKind.i64.wrap (64 * c + bt s i) = 64 * c + bt s i := by rw [IntKind.wrap_i64]; omega
            have m3 : IntKind.i64.wrap (64 * c + bt s i - 128) = 64 * c + bt s i - 128 := by rw [IntKind.wrap_i64]; omega
            clear HJ
            go_wp2
            go_roundw
            case rel => exact ⟨i, i + 1, 64 * c + bt s i - 128, Lib.hid rfl, by omega, by go_num, by go_num, HC2, HA2, HB2, trivial⟩
            case measure => simp [intOf]; omega
      · have hie : i = 3 := by omega
        have HV := Lib.hid (HR.out.good (by omega) (fun n hn => HA.out n (by have := HI.out; omega)))
        have HV2 := Lib.hid (show v = if goodB 2048 c = true then 3 else 0 by rw [HV.out, show 3 - 1 = j by have := HI.out; omega, ← HC.out])
        subst hie
        clear HR HV
        by_cases g1 : c < 2048
        · have HE := Lib.hid (show v = 0 by rw [HV2.out, if_neg]; unfold goodB; simp only [decide_eq_true_eq]; omega)
          go_wp2
          go_ret
          exact ⟨by rw [HE.out]; rfl, rfl⟩
        · by_cases g2 : 1114111 < c
          · have HE := Lib.hid (show v = 0 by rw [HV2.out, if_neg]; unfold goodB; simp only [decide_eq_true_eq]; omega)
            go_wp2
            go_ret
            exact ⟨by rw [HE.out]; rfl, rfl⟩
          · by_cases g3 : 55296 ≤ c
            · by_cases g4 : c < 57344
              · have HE := Lib.hid (show v = 0 by rw [HV2.out, if_neg]; unfold goodB; simp only [decide_eq_true_eq]; omega)
                go_wp2
                go_ret
                exact ⟨by rw [HE.out]; rfl, rfl⟩
              · have HE := Lib.hid (show v = 3 by rw [HV2.out, if_pos]; unfold goodB; exact decide_eq_true (by omega))
                go_wp2
                go_ret
                exact ⟨by rw [HE.out]; rfl, rfl⟩
            · have HE := Lib.hid (show v = 3 by rw [HV2.out, if_pos]; unfold goodB; exact decide_eq_true (by omega))
              go_wp2
              go_ret
              exact ⟨by rw [HE.out]; rfl, rfl⟩
set_option maxRecDepth 100000 in
set_option maxHeartbeats 2000000 in
theorem rune_c4 (s : ByteArray) (hs : s.size ≤ 9223372036854775807) (h0 : 0 < s.size) (hb0 : 240 ≤ bt s 0 ∧ bt s 0 < 245) (w : World) :
    Calls Tryd.prog 36 #[.string s] w fun e w' => e = .returned (.int .i64 (runeN s.data.toList)) ∧ w' = w := by
  have hb := get_bt s
  have hR := rune_4 s hb0 h0
  obtain ⟨v, hv⟩ : ∃ v, v = runeN s.data.toList := ⟨_, rfl⟩
  rw [← hv] at hR ⊢
  have HR := Lib.hid hR
  clear hR hv
  obtain ⟨q1, q2⟩ := hb0
  have z0 : (0 : Int) < (s.size : Int) := by omega
  by_cases hk : s.size < 4
  · have HV := Lib.hid (HR.out.short hk)
    clear HR
    go_enter Tryd.func36, Tryd.ntmps36
    go_wp2
    go_ret
    exact ⟨by rw [HV.out]; rfl, rfl⟩
  · go_enter Tryd.func36, Tryd.ntmps36
    go_wp2
    go_loopw [3, 6] (fun cv iv wr => ∃ (j i : Nat) (c : Int), Hid (i = j + 1) ∧ i ≤ 4 ∧ cv = .int .i64 c ∧ iv = .int .i64 i ∧ Hid (c = accZ s (bt s 0 - 240) j) ∧ Hid (∀ n, n < j → contB (bt s (n + 1)) = true) ∧ Hid (0 ≤ c ∧ (j = 0 → c ≤ 31) ∧ (j = 1 → c ≤ 2047) ∧ (j = 2 → c ≤ 131071) ∧ (j = 3 → c ≤ 8388607)) ∧ wr = w) (fun _ iv _ => 4 - (intOf iv).toNat)
    case atStart => exact ⟨0, 1, bt s 0 - 240, Lib.hid rfl, by omega, rfl, rfl, Lib.hid rfl, Lib.hid (fun n hn => absurd hn (Nat.not_lt_zero _)), Lib.hid ⟨by omega, fun _ => by omega, fun h => by omega, fun h => by omega, fun h => by omega⟩, rfl⟩
    case round =>
      obtain ⟨j, i, c, HI, hi, rfl, rfl, HC, HA, HB, rfl⟩ := hrel
      have hcl : 0 ≤ c ∧ c ≤ 8388607 := by
        have := HB.out
        have := HI.out
        omega
      by_cases hik : i < 4
      · have i1 : (i : Int) < 4 := by omega
        have i2 : i < s.size := by omega
        have hby := bt_byte s i
        have HJ := Lib.hid (show contB (bt s i) = false → v = 0 from fun h => HR.out.cont j (by have := HI.out; omega) (by omega) (by rw [← HI.out]; exact h))
        by_cases b1 : bt s i < 128
        · have HV := Lib.hid (HJ.out (by unfold contB; exact decide_eq_false (by omega)))
          go_wp2
          go_ret
          exact ⟨by rw [HV.out]; rfl, rfl⟩
        · by_cases b2 : 191 < bt s i
          · have HV := Lib.hid (HJ.out (by unfold contB; exact decide_eq_false (by omega)))
            go_wp2
            go_ret
            exact ⟨by rw [HV.out]; rfl, rfl⟩
          · have HC2 := Lib.hid (show 64 * c + bt s i - 128 = accZ s (bt s 0 - 240) i by rw [HC.out, HI.out]; rfl)
            have HA2 := Lib.hid (show ∀ n, n < i → contB (bt s (n + 1)) = true from fun n hn => by
              by_cases hnj : n < j
              · exact HA.out n hnj
              · obtain rfl : n = j := by have := HI.out; omega
                rw [← HI.out]
                unfold contB
                exact decide_eq_true (by omega))
            have HB2 := Lib.hid (show 0 ≤ 64 * c + bt s i - 128 ∧ (i = 0 → 64 * c + bt s i - 128 ≤ 31) ∧ (i = 1 → 64 * c + bt s i - 128 ≤ 2047) ∧ (i = 2 → 64 * c + bt s i - 128 ≤ 131071) ∧ (i = 3 → 64 * c + bt s i - 128 ≤ 8388607) by
              have := HB.out
              have := HI.out
              omega)
            have m1 : IntKind.i64.wrap (64 * c) = 64 * c := by rw [IntKind.wrap_i64]; omega
            have m2 : IntKind.i64.wrap (64 * c + bt s i) = 64 * c + bt s i := by rw [IntKind.wrap_i64]; omega
            have m3 : IntKind.i64.wrap (64 * c + bt s i - 128) = 64 * c + bt s i - 128 := by rw [IntKind.wrap_i64]; omega
            clear HJ
            go_wp2
            go_roundw
            case rel => exact ⟨i, i + 1, 64 * c + bt s i - 128, Lib.hid rfl, by omega, by go_num, by go_num, HC2, HA2, HB2, trivial⟩
            case measure => simp [intOf]; omega
      · have hie : i = 4 := by omega
        have HV := Lib.hid (HR.out.good (by omega) (fun n hn => HA.out n (by have := HI.out; omega)))
        have HV2 := Lib.hid (show v = if goodB 65536 c = true then 4 else 0 by rw [HV.out, show 4 - 1 = j by have := HI.out; omega, ← HC.out])
        subst hie
        clear HR HV
        by_cases g1 : c < 65536
        · have HE := Lib.hid (show v = 0 by rw [HV2.out, if_neg]; unfold goodB; simp only [decide_eq_true_eq]; omega)
          go_wp2
          go_ret
          exact ⟨by rw [HE.out]; rfl, rfl⟩
        · by_cases g2 : 1114111 < c
          · have HE := Lib.hid (show v = 0 by rw [HV2.out, if_neg]; unfold goodB; simp only [decide_eq_true_eq]; omega)
            go_wp2
            go_ret
            exact ⟨by rw [HE.out]; rfl, rfl⟩
          · by_cases g3 : 55296 ≤ c
            · by_cases g4 : c < 57344
              · have HE := Lib.hid (show v = 0 by rw [HV2.out, if_neg]; unfold goodB; simp only [decide_eq_true_eq]; omega)
                go_wp2
                go_ret
                exact ⟨by rw [HE.out]; rfl, rfl⟩
              · have HE := Lib.hid (show v = 4 by rw [HV2.out, if_pos]; unfold goodB; exact decide_eq_true (by omega))
                go_wp2
                go_ret
                exact ⟨by rw [HE.out]; rfl, rfl⟩
            · have HE := Lib.hid (show v = 4 by rw [HV2.out, if_pos]; unfold goodB; exact decide_eq_true (by omega))
              go_wp2
              go_ret
              exact ⟨by rw [HE.out]; rfl, rfl⟩
theorem runeN_nil : runeN [] = 0 := rfl
set_option maxRecDepth 100000 in
set_option maxHeartbeats 1000000 in
theorem rune_any (s : ByteArray) (hs : s.size ≤ 9223372036854775807) (w : World) :
    Calls Tryd.prog 36 #[.string s] w fun e w' => e = .returned (.int .i64 (runeN s.data.toList)) ∧ w' = w := by
  have hb := get_bt s
  by_cases h0 : 0 < s.size
  · have hby := bt_byte s 0
    have z0 : (0 : Int) < (s.size : Int) := by omega
    by_cases c1 : bt s 0 < 128
    · have HV := Lib.hid (rune_1 s h0 c1)
      go_enter Tryd.func36, Tryd.ntmps36
      go_wp2
      go_ret
      exact ⟨by rw [HV.out]; rfl, rfl⟩
    · by_cases c2 : 194 ≤ bt s 0 ∧ bt s 0 < 224
      · exact rune_c2 s hs h0 c2 w
      · by_cases c3 : 224 ≤ bt s 0 ∧ bt s 0 < 240
        · exact rune_c3 s hs h0 c3 w
        · by_cases c4 : 240 ≤ bt s 0 ∧ bt s 0 < 245
          · exact rune_c4 s hs h0 c4 w
          · have HV := Lib.hid (rune_bad s h0 (by omega))
            by_cases c5 : bt s 0 < 194
            · clear c2 c3 c4
              go_enter Tryd.func36, Tryd.ntmps36
              go_wp2
              go_ret
              exact ⟨by rw [HV.out]; rfl, rfl⟩
            · have c6 : 245 ≤ bt s 0 := by omega
              clear c2 c3 c4
              go_enter Tryd.func36, Tryd.ntmps36
              go_wp2
              go_ret
              exact ⟨by rw [HV.out]; rfl, rfl⟩
  · have hz : s.size = 0 := by omega
    have HV := Lib.hid (show runeN s.data.toList = 0 by rw [empty_of hz]; rfl)
    go_enter Tryd.func36, Tryd.ntmps36
    go_wp2
    go_ret
    exact ⟨by rw [HV.out]; rfl, rfl⟩
theorem drop_list (s : ByteArray) (k : Nat) : (s.extract k s.size).data.toList = s.data.toList.drop k := by
  rw [ByteArray.data_extract, Array.toList_extract]
  show (s.data.toList.drop k).take (s.data.size - k) = _
  rw [List.take_of_length_le (by simp)]
theorem runeN_le (l : List UInt8) : runeN l ≤ l.length := by
  unfold runeN
  split
  · exact Nat.zero_le _
  · rename_i hne
    have hl : 0 < l.length := List.length_pos_iff.2 hne
    split
    · exact Nat.zero_le _
    · obtain ⟨r, w, hrw⟩ : ∃ r w, Lib.decodeL l = (r, w) := ⟨_, _, rfl⟩
      rw [hrw]
      have hN := hrw
      rw [Lib.decodeL_N] at hN
      exact (decodeN_conts hN hl).1
set_option maxRecDepth 100000 in
set_option maxHeartbeats 1000000 in
theorem utf8_any (s : ByteArray) (hs : s.size ≤ 9223372036854775807) (w : World) :
    Calls Tryd.prog 18 #[.string s] w fun e w' => e = .returned (.bool (Lib.validD s.data.toList)) ∧ w' = w := by
  obtain ⟨v, hv⟩ : ∃ v, v = Lib.validD s.data.toList := ⟨_, rfl⟩
  rw [← hv]
  have HV := Lib.hid hv
  clear hv
  go_enter Tryd.func18, Tryd.ntmps18
  go_wp2
  go_loopw [0] (fun sv wr => ∃ t : ByteArray, sv = .string t ∧ t.size ≤ s.size ∧ Hid (Lib.validD t.data.toList = v) ∧ wr = w) (fun sv _ => match sv with | .string t => t.size | _ => 0)
  case atStart => exact ⟨s, rfl, Nat.le_refl _, Lib.hid HV.out.symm, rfl⟩
  case round =>
    obtain ⟨t, rfl, ht, HT, rfl⟩ := hrel
    by_cases h0 : 0 < t.size
    · have hne : t.data.toList ≠ [] := by
        intro e
        have := congrArg List.length e
        have h' : 0 < t.data.size := h0
        simp at this
        have h2 : t.data.size = 0 := by rw [this]; rfl
        omega
      have hvr := valid_rune _ hne
      rw [HT.out] at hvr
      have hle := runeN_le t.data.toList
      have hlz : t.data.toList.length = t.size := rfl
      have CR := Lib.hid (rune_any t (by omega) wr)
      obtain ⟨n, hn⟩ : ∃ n, n = runeN t.data.toList := ⟨_, rfl⟩
      rw [← hn] at hvr hle CR
      have HVR := Lib.hid hvr
      have hnt : n ≤ t.size := by omega
      have i0 : (0 : Int) < (t.size : Int) := by omega
      clear hvr hn hle hlz hne
      by_cases hn0 : n = 0
      · have HF := Lib.hid (show v = false by rw [HVR.out, if_pos hn0])
        subst hn0
        go_wp2_with (first | (go_at_call 36; refine CR.out.mono ?_; rintro e w1 ⟨rfl, rfl⟩) | go_in)
        go_ret
        exact ⟨by rw [HF.out]; rfl, rfl⟩
      · have HF := Lib.hid (show Lib.validD (t.extract n t.size).data.toList = v by rw [HVR.out, if_neg hn0, drop_list])
        have hz : (t.extract n t.size).size = t.size - n := by rw [ByteArray.size_extract]; omega
        go_wp2_with (first | (go_at_call 36; refine CR.out.mono ?_; rintro e w1 ⟨rfl, rfl⟩) | go_in)
        go_roundw
        case rel => exact ⟨t.extract n t.size, rfl, by omega, HF, trivial⟩
        case measure => show (t.extract n t.size).size < t.size; omega
    · have hz : t.size = 0 := by omega
      have HF := Lib.hid (show v = true by rw [← HT.out, empty_of hz]; rfl)
      go_wp2
      go_ret
      exact ⟨by rw [HF.out]; rfl, rfl⟩
end Go.Proofs.YtahpiminhlineaaDoor
