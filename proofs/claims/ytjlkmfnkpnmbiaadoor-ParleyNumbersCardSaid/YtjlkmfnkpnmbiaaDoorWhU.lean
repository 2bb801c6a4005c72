/- The library's ParseUint at base 16 and 64 bits, over any program that lays it. No condition but the text's length. -/
import Derived.Test.YtjlkmfnkpnmbiaaDoorWhT
import Derived.Shelf.Pu.Lays
import Derived.Shelf.Pu.Lower
import Derived.Lib.Strings
import Derived.Lib.Walk
import Derived.Lib.ConvBytes
import Derived.Lib.AtoiAllMem
import Derived.Lib.Hide
import Derived.Laws.Strings3
import Derived.Laws.Closers25
import Derived.Laws.Closers25b
import Derived.WalkKit
import Derived.BigCall
import Derived.BigGuard
namespace Go.Proofs.YtjlkmfnkpnmbiaaDoor
open Go.Shelf Go.RowKit
variable {P : Program} {ρ : Ren}

theorem low_fin : ∀ n : Fin 256, bits .or .u8 (n.val : Int) 32 = ((if 97 ≤ n.val ∧ n.val ≤ 122 then n.val else if 65 ≤ n.val ∧ n.val ≤ 90 then n.val + 32 else (n.val ||| 32) : Nat) : Int) := by decide +kernel
theorem low_other : ∀ n : Fin 256, ¬ (97 ≤ n.val ∧ n.val ≤ 122) → ¬ (65 ≤ n.val ∧ n.val ≤ 90) → (n.val ||| 32) < 97 ∨ 122 < (n.val ||| 32) := by decide +kernel
theorem low_lt : ∀ n : Fin 256, (n.val ||| 32) < 256 := by decide +kernel
theorem low_small {c : Nat} (hc : c < 256) (h : 97 ≤ c ∧ c ≤ 122) : bits .or .u8 (c : Int) 32 = (c : Int) := by
  have := low_fin ⟨c, hc⟩
  dsimp only at this
  rw [if_pos h] at this; exact this
theorem low_great {c : Nat} (hc : c < 256) (h : 65 ≤ c ∧ c ≤ 90) : bits .or .u8 (c : Int) 32 = (c : Int) + 32 := by
  have := low_fin ⟨c, hc⟩
  dsimp only at this
  rw [if_neg (by omega), if_pos h] at this; rw [this]; omega
theorem low_none {c : Nat} (hc : c < 256) (h1 : ¬ (97 ≤ c ∧ c ≤ 122)) (h2 : ¬ (65 ≤ c ∧ c ≤ 90)) : ∃ k : Int, bits .or .u8 (c : Int) 32 = k ∧ 0 ≤ k ∧ k < 256 ∧ (k < 97 ∨ 122 < k) := by
  have := low_fin ⟨c, hc⟩
  dsimp only at this
  rw [if_neg h1, if_neg h2] at this
  have h3 := low_other ⟨c, hc⟩ h1 h2
  have h4 := low_lt ⟨c, hc⟩
  dsimp only at h3 h4
  exact ⟨_, this, by omega, by omega, by omega⟩

set_option maxHeartbeats 32000000 in
set_option maxRecDepth 100000 in
theorem parseU16_inner (L : LaysPu.n16 P ρ) (t : ByteArray) (hne : t.size ≠ 0) (hmax : t.size ≤ 9223372036854775806) (w : World) :
    Calls P (ρ.f 16) #[.string t, .int .i64 16, .int .i64 64] w fun e w' => e = .returned (Lib.uintTuple (ρ.t 34) (parse16 0 t.data.toList)) ∧ w' = Lib.bytesWorld w (ρ.t 5) t := by
  have mixed := L.mixed
  have t9 := L.t9; have a9 := L.a9; have z9 := L.z9; have v9 := L.v9
  have t3 := L.t3; have a3 := L.a3; have z3 := L.z3; have v3 := L.v3
  have t22 := L.t22; have a22 := L.a22; have z22 := L.z22; have v22 := L.v22
  have t24 := L.t24; have a24 := L.a24; have z24 := L.z24; have v24 := L.v24
  have t4 := L.t4; have a4 := L.a4; have z4 := L.z4; have v4 := L.v4
  have t34 := L.t34; have a34 := L.a34; have z34 := L.z34; have v34 := L.v34
  have t5 := L.t5; have a5 := L.a5; have z5 := L.z5; have v5 := L.v5
  have t36 := L.t36; have a36 := L.a36; have z36 := L.z36; have v36 := L.v36
  have t37 := L.t37; have a37 := L.a37; have z37 := L.z37; have v37 := L.v37
  have t0 := L.t0; have a0 := L.a0; have z0 := L.z0; have v0 := L.v0
  have e19 : ∀ args w, (callFunc (ρ.f 19) args).run P w = .ok (.enter (ρ.f 19) args) w := enters_of L.f19 (by kernel_rfl) rfl
  have hemp : t.toList.isEmpty = false := by
    rw [← decide_eq_emptyBytes]
    exact decide_eq_false (fun h => hne (by rw [h]; rfl))
  have hcv := Lib.run_convert_string_bytes (P := P) w (ρ.t 9) (ρ.t 37) (ρ.t 5) t (u := .string) L.t9 L.t37 L.t5
  have hB : ∀ j, j < t.size → (Lib.bytesWorld w (ρ.t 5) t).cell? ⟨w.heap.size, j, none⟩ = some (.int .u8 (t.data.toList.getD j 0).toNat) := fun j hj => Lib.bytesWorld_cell w (ρ.t 5) t j hj
  obtain ⟨W1, hW1⟩ : ∃ W1, W1 = Lib.bytesWorld w (ρ.t 5) t := ⟨_, rfl⟩
  rw [← hW1] at hcv hB ⊢
  clear hW1
  obtain ⟨bs, hL⟩ : ∃ bs, bs = t.data.toList := ⟨_, rfl⟩
  have hLn : bs.length = t.size := by rw [hL, Lib.size_eq]
  rw [← hL] at hB ⊢
  clear hL
  have hmv : IntKind.u64.wrap (IntKind.u64.wrap 18446744073709551616 - 1) = 18446744073709551615 := by
    rw [IntKind.wrap_u64, IntKind.wrap_u64]
    decide
  go_enter L.f16, BodyPu.n16_ntmps ρ
  go_wp2
  go_loop [12, 13, 101] (fun vu vn vi => ∃ (k acc : Nat) (a : Int), vu = .bool false ∧ vn = .int .u64 a ∧ vi = .int .i64 k ∧ k ≤ t.size ∧ Hid (a = (acc : Int) ∧ acc < 18446744073709551616 ∧ parse16 0 bs = parse16 acc (bs.drop k)))
    (fun _ _ vi => t.size - (intOf vi).toNat)
  case atStart => exact ⟨0, 0, 0, rfl, rfl, rfl, by omega, rfl, by omega, rfl⟩
  case round =>
    obtain ⟨k, acc, a, rfl, rfl, rfl, hk, hh⟩ := hrel
    obtain ⟨ha, hacc, hdec⟩ := hh.out
    clear hh
    have a0 : 0 ≤ a := by omega
    have a1 : a < 18446744073709551616 := by omega
    by_cases hkn : k < t.size
    · have hc := hB k hkn
      have hdrop : bs.drop k = bs[k]'(by omega) :: bs.drop (k + 1) := List.drop_eq_getElem_cons (by omega)
      have hget : bs.getD k 0 = bs[k]'(by omega) := by simp [List.getD, List.getElem?_eq_getElem (show k < bs.length by omega)]
      rw [hdrop] at hdec
      rw [hget] at hc
      generalize bs[k]'(by omega) = c at hc hdec
      have hc256 : c.toNat < 256 := c.toNat_lt
      clear hB hdrop hget
      cases hdg : dig16 c.toNat with
      | some d =>
        have hd16 := dig16_lt hdg
        by_cases hcut : 1152921504606846976 ≤ acc
        · have hF : parse16 acc (c :: bs.drop (k + 1)) = .range := by simp only [parse16, hdg]; rw [if_pos hcut]
          rw [hF] at hdec
          have icut : 1152921504606846976 ≤ a := by omega
          clear hcut hacc hF ha
          unfold dig16 at hdg
          split at hdg
          · rename_i hr
            obtain ⟨hr0, hr1⟩ := hr
            clear hdg hd16
            go_wp2
            go_ret2
            first | exact ⟨rfl, rfl⟩ | exact ⟨by rw [hdec]; rfl, rfl⟩
          split at hdg
          · rename_i hn hr
            have hlow := low_small hc256 ⟨hr.1, by omega⟩
            obtain ⟨hr0, hr1⟩ := hr
            clear hdg hd16 hn
            go_wp2_with (go_at_fn (ρ.f 19); refine (AnyPu.internal_strconv_lower { L with } _ _).mono ?_; rintro e w' ⟨rfl, rfl⟩)
            go_ret2
            first | exact ⟨rfl, rfl⟩ | exact ⟨by rw [hdec]; rfl, rfl⟩
          split at hdg
          · rename_i hn hn2 hr
            have hlow := low_great hc256 ⟨hr.1, by omega⟩
            obtain ⟨hr0, hr1⟩ := hr
            clear hdg hd16 hn hn2
            go_wp2_with (go_at_fn (ρ.f 19); refine (AnyPu.internal_strconv_lower { L with } _ _).mono ?_; rintro e w' ⟨rfl, rfl⟩)
            go_ret2
            first | exact ⟨rfl, rfl⟩ | exact ⟨by rw [hdec]; rfl, rfl⟩
          · cases hdg
        · have hF : parse16 acc (c :: bs.drop (k + 1)) = parse16 (acc * 16 + d) (bs.drop (k + 1)) := by simp only [parse16, hdg]; rw [if_neg hcut]
          have icut : a < 1152921504606846976 := by omega
          unfold dig16 at hdg
          split at hdg
          · rename_i hr
            obtain ⟨hr0, hr1⟩ := hr
            cases hdg
            have HN : Hid (a * 16 + ((c.toNat : Int) - 48) = ((acc * 16 + (c.toNat - 48) : Nat) : Int) ∧ acc * 16 + (c.toNat - 48) < 18446744073709551616 ∧ parse16 0 bs = parse16 (acc * 16 + (c.toNat - 48)) (bs.drop (k + 1))) := Lib.hid ⟨by omega, by omega, hdec.trans hF⟩
            clear hcut hacc hF hdec ha hd16
            go_wp2
            refine ⟨⟨k + 1, acc * 16 + (c.toNat - 48), a * 16 + ((c.toNat : Int) - 48), rfl, (by first | rfl | (congr 1; omega)), (by first | rfl | (congr 1; omega)), by omega, HN⟩, by simp [intOf]; omega⟩
          split at hdg
          · rename_i hn hr
            have hlow := low_small hc256 ⟨hr.1, by omega⟩
            obtain ⟨hr0, hr1⟩ := hr
            cases hdg
            have HN : Hid (a * 16 + ((c.toNat : Int) - 97 + 10) = ((acc * 16 + (c.toNat - 87) : Nat) : Int) ∧ acc * 16 + (c.toNat - 87) < 18446744073709551616 ∧ parse16 0 bs = parse16 (acc * 16 + (c.toNat - 87)) (bs.drop (k + 1))) := Lib.hid ⟨by omega, by omega, hdec.trans hF⟩
            clear hcut hacc hF hdec ha hd16 hn
            go_wp2_with (go_at_fn (ρ.f 19); refine (AnyPu.internal_strconv_lower { L with } _ _).mono ?_; rintro e w' ⟨rfl, rfl⟩)
            refine ⟨⟨k + 1, acc * 16 + (c.toNat - 87), a * 16 + ((c.toNat : Int) - 97 + 10), rfl, (by first | rfl | (congr 1; omega)), (by first | rfl | (congr 1; omega)), by omega, HN⟩, by simp [intOf]; omega⟩
          split at hdg
          · rename_i hn hn2 hr
            have hlow := low_great hc256 ⟨hr.1, by omega⟩
            obtain ⟨hr0, hr1⟩ := hr
            cases hdg
            have HN : Hid (a * 16 + ((c.toNat : Int) + 32 - 97 + 10) = ((acc * 16 + (c.toNat - 55) : Nat) : Int) ∧ acc * 16 + (c.toNat - 55) < 18446744073709551616 ∧ parse16 0 bs = parse16 (acc * 16 + (c.toNat - 55)) (bs.drop (k + 1))) := Lib.hid ⟨by omega, by omega, hdec.trans hF⟩
            clear hcut hacc hF hdec ha hd16 hn hn2
            go_wp2_with (go_at_fn (ρ.f 19); refine (AnyPu.internal_strconv_lower { L with } _ _).mono ?_; rintro e w' ⟨rfl, rfl⟩)
            refine ⟨⟨k + 1, acc * 16 + (c.toNat - 55), a * 16 + ((c.toNat : Int) + 32 - 97 + 10), rfl, (by first | rfl | (congr 1; omega)), (by first | rfl | (congr 1; omega)), by omega, HN⟩, by simp [intOf]; omega⟩
          · cases hdg
      | none =>
        have hF : parse16 acc (c :: bs.drop (k + 1)) = Lib.NumEnd.syntax := by simp only [parse16, hdg]
        rw [hF] at hdec
        clear hacc hF ha
        unfold dig16 at hdg
        split at hdg
        · cases hdg
        split at hdg
        · cases hdg
        split at hdg
        · cases hdg
        rename_i hn1 hn2 hn3
        clear hdg
        by_cases hA : 97 ≤ c.toNat ∧ c.toNat ≤ 122
        · have hlow := low_small hc256 hA
          have hA0 : 103 ≤ c.toNat := by omega
          have hA1 := hA.2
          clear hn1 hn2 hn3 hA
          go_wp2_with (go_at_fn (ρ.f 19); refine (AnyPu.internal_strconv_lower { L with } _ _).mono ?_; rintro e w' ⟨rfl, rfl⟩)
          all_goals go_ret2
          all_goals first | exact ⟨rfl, rfl⟩ | exact ⟨by rw [hdec]; rfl, rfl⟩
        · by_cases hG : 65 ≤ c.toNat ∧ c.toNat ≤ 90
          · have hlow := low_great hc256 hG
            have hG0 : 71 ≤ c.toNat := by omega
            have hG1 := hG.2
            clear hn1 hn2 hn3 hA hG
            go_wp2_with (go_at_fn (ρ.f 19); refine (AnyPu.internal_strconv_lower { L with } _ _).mono ?_; rintro e w' ⟨rfl, rfl⟩)
            all_goals go_ret2
            all_goals first | exact ⟨rfl, rfl⟩ | exact ⟨by rw [hdec]; rfl, rfl⟩
          · obtain ⟨lk, hlow, k0, k1, hk3⟩ := low_none hc256 hA hG
            have hd : c.toNat < 48 ∨ 57 < c.toNat := by omega
            have hu0 := bits_lo_u8 .or 95 32
            have hu1 := bits_hi_u8 .or 95 32
            clear hn1 hn2 hn3 hA hG
            rcases hk3 with hk3 | hk3 <;> rcases hd with hd | hd
            all_goals go_wp2_with (go_at_fn (ρ.f 19); refine (AnyPu.internal_strconv_lower { L with } _ _).mono ?_; rintro e w' ⟨rfl, rfl⟩)
            all_goals go_ret2
            all_goals first | exact ⟨rfl, rfl⟩ | exact ⟨by rw [hdec]; rfl, rfl⟩
    · have hkk : k = t.size := by omega
      subst hkk
      have hF : parse16 acc (bs.drop t.size) = .ok acc := by rw [List.drop_eq_nil_of_le (by omega)]; rfl
      rw [hF] at hdec
      subst ha
      clear hacc hF a0 a1
      go_wp2
      go_ret2
      first | exact ⟨rfl, rfl⟩ | exact ⟨by rw [hdec]; rfl, rfl⟩
end Go.Proofs.YtjlkmfnkpnmbiaaDoor
