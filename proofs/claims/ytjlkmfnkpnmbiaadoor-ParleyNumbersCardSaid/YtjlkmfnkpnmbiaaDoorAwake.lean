/- The fixed answers at the head of each statement of the number layer are given. No condition. -/
import Derived.Test.YtjlkmfnkpnmbiaaDoorRef
import Derived.Test.YtjlkmfnkpnmbiaaDoorHex
namespace Go.Proofs.YtjlkmfnkpnmbiaaDoor
open Go.RowKit

theorem grown_hex (w : World) (C : Array Value) (t : TypeId) : Grown w (w.alloc (.cells C t)) := (Grown.refl w).alloc _ _
theorem whole_half (w : World) :
    Calls Tryd.prog 34 #[.float .f64 4602678819172646912] w fun e w' => e = .returned (.tuple #[.int .i64 0, .bool false]) ∧ w = w' := by
  have h1 : (FloatKind.f64.format.order 4602678819172646912 4602678819172646912 != some Ordering.eq) = false := by decide +kernel
  have h2 : (FloatKind.f64.format.order 4602678819172646912 14069245235905429504 == some Ordering.lt) = false := by decide +kernel
  have h3 : (FloatKind.f64.format.order 4602678819172646912 4845873199050653696 == some Ordering.gt) = false := by decide +kernel
  have h4 : ∀ w : World, (convert 25 3 (.float .f64 4602678819172646912)).run Tryd.prog w = .ok (.int .i64 0) w := fun w =>
    run_convert_float_int w 25 3 .f64 .i64 4602678819172646912 0 (by rw [Tryd.underlying25]; rfl) Tryd.underlying3 (by decide +kernel)
  have h5 : ∀ w : World, (convert 3 25 (.int .i64 0)).run Tryd.prog w = .ok (.float .f64 0) w := fun w =>
    run_convert_int_float w 3 25 .i64 .f64 0 (by rw [Tryd.underlying3]; rfl) Tryd.underlying25
  have h6 : (FloatKind.f64.format.order 0 4602678819172646912 != some Ordering.eq) = true := by decide +kernel
  go_enter Tryd.func34, Tryd.ntmps34
  go_wp2_with (go_at_call 43; refine (isnan_any _ (by decide) _).mono ?_; rintro e w' ⟨rfl, rfl⟩)
  go_ret2
  exact ⟨rfl, rfl⟩
theorem hexS_half : (({ data := #[126] } : ByteArray) ++ hexS 4602678819172646912) = { data := #[126, 51, 102, 101, 48, 48, 48, 48, 48, 48, 48, 48, 48, 48, 48, 48, 48] } := by decide +kernel
theorem show_half (w : World) :
    Calls Tryd.prog 36 #[.float .f64 4602678819172646912] w fun e w' => e = .returned (.string { data := #[126, 51, 102, 101, 48, 48, 48, 48, 48, 48, 48, 48, 48, 48, 48, 48, 48] }) ∧ Grown w w' := by
  have hb : bitsN 4602678819172646912 = 4602678819172646912 := by decide +kernel
  have hk : kindN 4602678819172646912 = 2 := by decide +kernel
  have hn : negB 4602678819172646912 = false := by decide +kernel
  have HS := Lib.hid hexS_half
  go_enter Tryd.func36, Tryd.ntmps36
  go_wp2_with (first
    | (go_at_call 12; refine (class_any _ (by decide) _).mono ?_; rintro e w' ⟨rfl, rfl⟩)
    | (go_at_call 34; refine (whole_half _).mono ?_; rintro e w' ⟨rfl, rfl⟩)
    | (go_at_call 16; refine (bits_any _ (by decide) _).mono ?_; rintro e w' ⟨rfl, rfl⟩)
    | (go_at_call 48; refine (hex_any 4602678819172646912 (by decide) _).mono ?_; rintro e w' ⟨rfl, rfl⟩))
  go_ret
  exact ⟨by rw [← HS.out]; rfl, grown_hex _ _ _⟩
theorem awake_any (w : World) :
    Calls Tryd.prog 15 #[] w fun e w' => e = .returned (.bool true) ∧ Grown w w' := by
  have hc : cmpN 9223372036854775808 0 = -1 := by decide +kernel
  have hb : bitsN 9218868437227405319 = 9221120237041090561 := by decide +kernel
  go_enter Tryd.func15, Tryd.ntmps15
  go_wp2_with (first
    | (go_at_call 13; refine (of_any _ _).mono ?_; rintro e w' ⟨rfl, rfl⟩)
    | (go_at_call 19; refine (cmp_any _ _ (by decide) (by decide) _).mono ?_; rintro e w' ⟨rfl, rfl⟩)
    | (go_at_call 16; refine (bits_any _ (by decide) _).mono ?_; rintro e w' ⟨rfl, rfl⟩)
    | (go_at_call 36; refine (show_half _).mono ?_; rintro e w1 ⟨rfl, hg⟩))
  go_ret
  exact ⟨rfl, hg⟩
end Go.Proofs.YtjlkmfnkpnmbiaaDoor
