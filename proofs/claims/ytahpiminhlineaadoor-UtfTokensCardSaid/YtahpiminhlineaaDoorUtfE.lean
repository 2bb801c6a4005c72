/- What the statements ask of the program at fixed inputs; UtfPoints. Condition: the library's tables are laid. -/
import Derived.Test.YtahpiminhlineaaDoorUtfD
import Derived.Test.YtahpiminhlineaaDoorRows
import Derived.PinnedBridge
import Derived.LaidMore
import Derived.Lib.LaidU8T
namespace Go.Proofs.YtahpiminhlineaaDoor
open Go.RowKit Go.Shelf Go.PlainAid

/-- The tables out of what the row lists. -/
theorem utabs_of_laid (W : World) (h : laidMetH Tryd.prog [("unicode/utf8.acceptRanges", Rows.laid_unicode_utf8_acceptRanges), ("unicode/utf8.first", Rows.laid_unicode_utf8_first)] W) : Tabs W := by
  rw [MakeChecks.laidMetH_plain _ _ _ (by kernel_rfl)] at h
  have h3 : Lib.VarReads Tryd.prog W "unicode/utf8.first" Lib.firstData := by
    have := Lib.laidMet.reads h (.tail _ (.head _))
    rwa [show Rows.laid_unicode_utf8_first = Lib.firstData from Pinned.utf8First_eq] at this
  have h4 : Lib.VarReads Tryd.prog W "unicode/utf8.acceptRanges" Lib.acceptData := by
    have := Lib.laidMet.reads h (.head _)
    rwa [show (Rows.laid_unicode_utf8_acceptRanges : DataW Unit) = Lib.acceptData by kernel_rfl] at this
  exact utf8Tabs_of_readsT (ρ := uRen) (U8Types.of196 lays196) ⟨by kernel_rfl, by kernel_rfl, by kernel_rfl, by kernel_rfl, by kernel_rfl, by kernel_rfl, by kernel_rfl⟩ h3 h4
def aw1 : ByteArray := ⟨#[195, 132, 206, 163, 207, 130]⟩
def aw2 : ByteArray := ⟨#[97, 95, 49]⟩
def aw3 : ByteArray := ⟨#[64, 97, 110, 110, 44, 32, 120, 64, 98, 111, 98]⟩
theorem aw1_valid : Lib.validD aw1.data.toList = true := by decide +kernel
theorem aw1_fold : foldS aw1 = ⟨#[195, 164, 207, 131, 207, 131]⟩ := by decide +kernel
theorem aw2_name : nameB aw2 = true := by decide +kernel
theorem aw3_ment : (mentL aw3).length = 1 := by decide +kernel
theorem lowerZ_i32 {r : Int} (h : -2147483648 ≤ r ∧ r ≤ 2147483647) : -2147483648 ≤ lowerZ r ∧ lowerZ r ≤ 2147483647 := by
  unfold lowerZ
  split
  · omega
  · split
    · omega
    · split <;> omega
set_option maxRecDepth 100000 in
set_option maxHeartbeats 1000000 in
theorem awake_any (w : World) (hT : Tabs w) :
    Calls Tryd.prog 9 #[] w fun e w' => e = .returned (.bool true) ∧ Below w.heap.size w w' := by
  have C1 := Lib.hid (fold_ok aw1 (by decide) aw1_valid w hT)
  rw [aw1_fold] at C1
  clear hT
  go_enter Tryd.func9, Tryd.ntmps9
  go_wp2_with fail
  refine C1.out.mono ?_
  rintro e w1 ⟨rfl, hb1⟩
  have C2 := name_any aw2 (by decide) w1
  rw [aw2_name] at C2
  have HB1 := Lib.hid hb1
  have C3 := mentions_any aw3 (by decide) w1
  rw [aw3_ment] at C3
  have HC3 := Lib.hid C3
  clear hb1 C1 C3
  go_wp2_with fail
  refine C2.mono ?_
  rintro e w2 ⟨rfl, rfl⟩
  go_wp2_with fail
  refine HC3.out.mono ?_
  rintro e w3 ⟨⟨v, rfl, hv⟩, hb3⟩
  obtain ⟨A, c, rfl, _, _⟩ := own_shape hv
  have HB3 := Lib.hid (HB1.out.trans (hb3.mono HB1.out.size))
  clear hv hb3
  go_wp2_with fail
  go_ret
  exact ⟨rfl, HB3.out⟩
theorem tmod_wide (r : Int) : -2147483648 < r.tmod 2147483648 ∧ r.tmod 2147483648 < 2147483648 :=
  ⟨Int.lt_tmod_of_pos r (by decide), Int.tmod_lt_of_pos r (by decide)⟩
set_option maxRecDepth 100000 in
set_option maxHeartbeats 1000000 in
theorem points_any (r : Int) (_ : -9223372036854775808 ≤ r ∧ r ≤ 9223372036854775807) (w : World) (hT : Tabs w) :
    Calls Tryd.prog 3 #[.int .i64 r] w fun e w' => e = .returned (.bool true) ∧ Below w.heap.size w w' := by
  have CA := Lib.hid (awake_any w hT)
  have hm := tmod_wide r
  clear hT
  obtain ⟨m, hm0⟩ : ∃ m, m = r.tmod 2147483648 := ⟨_, rfl⟩
  rw [← hm0] at hm
  have h1 : wrap32 m = m := by unfold wrap32; omega
  have h2 : IntKind.i32.wrap m = m := by rw [IntKind.wrap_i32]; omega
  have hl := lowerZ_i32 (r := m) (by omega)
  have h3 : IntKind.i64.wrap (lowerZ m) = lowerZ m := by rw [IntKind.wrap_i64]; omega
  have h4 : wrap64 (lowerZ m) = lowerZ m := by unfold wrap64; omega
  have h5 : IntKind.i64.wrap m = m := by rw [IntKind.wrap_i64]; omega
  have hrem : r.tmod 2147483648 = m := hm0.symm
  clear hm0
  go_enter Tryd.func3, Tryd.ntmps3
  go_wp2_with fail
  refine CA.out.mono ?_
  rintro e w1 ⟨rfl, hb1⟩
  have HB1 := Lib.hid hb1
  clear hb1 CA
  go_wp2_with fail
  refine (lower_any m (by omega) w1).mono ?_
  rintro e w2 ⟨rfl, rfl⟩
  go_wp2_with fail
  refine (rlower_any m (by omega) _).mono ?_
  rintro e w3 ⟨rfl, rfl⟩
  go_wp2_with fail
  refine (letter_any m (by omega) _).mono ?_
  rintro e w4 ⟨rfl, rfl⟩
  go_wp2_with fail
  refine (rletter_any m (by omega) _).mono ?_
  rintro e w5 ⟨rfl, rfl⟩
  go_wp2_with fail
  go_ret
  exact ⟨rfl, HB1.out⟩
end Go.Proofs.YtahpiminhlineaaDoor
