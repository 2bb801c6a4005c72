/- UtfTokens' walk. Condition: the library's tables are laid. -/
import Derived.Test.YtahpiminhlineaaDoorRTok
namespace Go.Proofs.YtahpiminhlineaaDoor
open Go.RowKit Go.Shelf Go.PlainAid Go.Lib

theorem fold_err (s : ByteArray) (hs : s.size ≤ 100000) (hv : Lib.validD s.data.toList = false) (w : World) (hT : Tabs w) :
    Calls Tryd.prog 15 #[.string s] w fun e w' => e = .returned (.tuple #[.string ⟨#[]⟩, .int .i64 3]) ∧ Below w.heap.size w w' := by
  have CV := Lib.hid (valid_any s w (by omega) hT)
  rw [hv] at CV
  clear hT hv
  go_enter Tryd.func15, Tryd.ntmps15
  go_wp2_with fail
  refine CV.out.mono ?_
  rintro e w1 ⟨rfl, hb1⟩
  have HB1 := Lib.hid hb1
  clear hb1 CV
  go_wp2_with fail
  exact bodyPost_ret (v := .tuple #[.string ⟨#[]⟩, .int .i64 3]) (by simp [results, Tryd.results15, go_sem]) rfl ⟨rfl, HB1.out⟩
theorem tokens_err (s : ByteArray) (hs : s.size ≤ 100000) (hv : Lib.validD s.data.toList = false) (w : World) (hT : Tabs w) :
    Calls Tryd.prog 16 #[.string s] w fun e w' => e = .returned (.tuple #[.slice none 0 0, .int .i64 3]) ∧ Below w.heap.size w w' := by
  have CF := Lib.hid (fold_err s hs hv w hT)
  clear hT hv
  go_enter Tryd.func16, Tryd.ntmps16
  go_wp2_with fail
  refine CF.out.mono ?_
  rintro e w1 ⟨rfl, hb1⟩
  have HB1 := Lib.hid hb1
  clear hb1 CF
  go_wp2_with fail
  exact bodyPost_ret (v := .tuple #[.slice none 0 0, .int .i64 3]) (by simp [results, Tryd.results16, go_sem]) rfl ⟨rfl, HB1.out⟩
set_option maxRecDepth 100000 in
set_option maxHeartbeats 2000000 in
theorem toks_any (s : ByteArray) (hs : s.size ≤ 9223372036854775807) (w : World) (hT : Tabs w) :
    Calls Tryd.prog 4 #[.string s] w fun e w' => e = .returned (.bool true) ∧ Below w.heap.size w w' := by
  have CF := few_any s hs w
  have htz := fewS_size s
  obtain ⟨t, ht⟩ : ∃ t, t = fewS s := ⟨_, rfl⟩
  rw [← ht] at CF htz
  have HT := Lib.hid hT
  clear hT ht hs
  cases hv : Lib.validD t.data.toList
  · have C1 := Lib.hid (fold_err t (by omega) hv w HT.out)
    have C2 := Lib.hid (fun w hT => tokens_err t (by omega) hv w hT)
    have C3 := Lib.hid (fun w hT => valid_any t w (by omega) hT)
    have C4 := Lib.hid (fun w => utf8_any t (by omega) w)
    rw [hv] at C3 C4
    clear hv
    go_enter Tryd.func4, Tryd.ntmps4
    go_wp2_with fail
    refine CF.mono ?_
    rintro e w0 ⟨rfl, rfl⟩
    go_wp2_with fail
    refine C1.out.mono ?_
    rintro e w1 ⟨rfl, hb1⟩
    have HB1 := Lib.hid hb1
    clear hb1 C1 CF
    go_wp2_with fail
    refine (C2.out _ (Utf8Tabs_below HT.out HB1.out)).mono ?_
    rintro e w2 ⟨rfl, hb2⟩
    have HB2 := Lib.hid (below_step HB1.out hb2)
    clear hb2 HB1 C2
    go_wp2_with fail
    refine (awake_any _ (Utf8Tabs_below HT.out HB2.out)).mono ?_
    rintro e w3 ⟨rfl, hb3⟩
    have HB3 := Lib.hid (below_step HB2.out hb3)
    clear hb3 HB2
    go_wp2_with fail
    refine (C3.out _ (Utf8Tabs_below HT.out HB3.out)).mono ?_
    rintro e w4 ⟨rfl, hb4⟩
    have HB4 := Lib.hid (below_step HB3.out hb4)
    clear hb4 HB3 C3
    go_wp2_with fail
    refine (C4.out _).mono ?_
    rintro e w5 ⟨rfl, rfl⟩
    go_wp2_with fail
    refine (C4.out _).mono ?_
    rintro e w6 ⟨rfl, rfl⟩
    go_wp2_with fail
    go_ret
    exact ⟨rfl, HB4.out⟩
  · have C1 := fold_ok t (by omega) hv w HT.out
    have C2 := fun w hT => tokens_ok t (by omega) hv w hT
    have C3 := Lib.hid (fun w hT => valid_any t w (by omega) hT)
    have C4 := Lib.hid (fun w => utf8_any t (by omega) w)
    rw [hv] at C3 C4
    have C6 := fun w => rfold_any t htz hv w
    have C7 := fun w => rtok_any t htz hv w
    have hfz := foldS_size t
    have hf2 := foldS_twice hv
    have hvf := foldS_valid hv
    have hkl := tokL_len t
    obtain ⟨f, hf⟩ : ∃ f, f = foldS t := ⟨_, rfl⟩
    rw [← hf] at C1 hfz hf2 hvf
    simp only [← hf] at C6
    have C5 := fun w hT => fold_ok f (by omega) hvf w hT
    simp only [hf2] at C5
    obtain ⟨K, hK⟩ : ∃ K, K = tokL t := ⟨_, rfl⟩
    rw [← hK] at hkl
    simp only [← hK] at C2 C7
    obtain ⟨k, hk⟩ : ∃ k, k = K.length := ⟨_, rfl⟩
    simp only [← hk] at C2 C7
    rw [← hk] at hkl
    have HC1 := Lib.hid C1
    have HC2 := Lib.hid C2
    have HC5 := Lib.hid C5
    have HC6 := Lib.hid C6
    have HC7 := Lib.hid C7
    have HK := Lib.hid hk
    have hk4 : k ≤ 1601 := by omega
    have hff : (f.toList == f.toList) = true := by simp
    clear hv C1 C2 C5 C6 C7 hf2 hvf hf hK hk hkl
    go_enter Tryd.func4, Tryd.ntmps4
    go_wp2_with fail
    refine CF.mono ?_
    rintro e w0 ⟨rfl, rfl⟩
    go_wp2_with fail
    refine HC1.out.mono ?_
    rintro e w1 ⟨rfl, hb1⟩
    have HB1 := Lib.hid hb1
    clear hb1 HC1 CF
    go_wp2_with fail
    refine (HC2.out _ (Utf8Tabs_below HT.out HB1.out)).mono ?_
    rintro e w2 ⟨⟨A, c, rfl, hc, hs2⟩, hb2⟩
    have HS2 := Lib.hid hs2
    have HB2 := Lib.hid (below_step HB1.out hb2)
    clear hs2 hb2 HB1 HC2
    go_wp2_with fail
    refine (awake_any _ (Utf8Tabs_below HT.out HB2.out)).mono ?_
    rintro e w3 ⟨rfl, hb3⟩
    have HS3 := Lib.hid (HS2.out.bel hb3)
    have HB3 := Lib.hid (below_step HB2.out hb3)
    clear hb3 HB2 HS2
    go_wp2_with fail
    refine (C3.out _ (Utf8Tabs_below HT.out HB3.out)).mono ?_
    rintro e w4 ⟨rfl, hb4⟩
    have HS4 := Lib.hid (HS3.out.bel hb4)
    have HB4 := Lib.hid (below_step HB3.out hb4)
    clear hb4 HB3 C3 HS3
    go_wp2_with fail
    refine (C4.out _).mono ?_
    rintro e w5 ⟨rfl, rfl⟩
    go_wp2_with fail
    refine (C4.out _).mono ?_
    rintro e w6 ⟨rfl, rfl⟩
    clear C4
    go_wp2_with fail
    refine (HC5.out _ (Utf8Tabs_below HT.out HB4.out)).mono ?_
    rintro e w7 ⟨rfl, hb7⟩
    have HS7 := Lib.hid (HS4.out.bel hb7)
    have HB7 := Lib.hid (below_step HB4.out hb7)
    clear hb7 HB4 HC5 HS4
    go_wp2_with fail
    refine (HC6.out _).mono ?_
    rintro e w8 ⟨rfl, hb8⟩
    have HS8 := Lib.hid (HS7.out.bel hb8)
    have HB8 := Lib.hid (below_step HB7.out hb8)
    clear hb8 HB7 HC6 HS7
    go_wp2_with fail
    refine (HC7.out _).mono ?_
    rintro e w9 ⟨⟨v9, rfl, hown9⟩, hb9⟩
    obtain ⟨A9, c9, rfl, hc9, hs9⟩ := own_shape hown9
    have HS9 := Lib.hid hs9
    have HT9 := Lib.hid (HS8.out.bel hb9)
    have HB9 := Lib.hid (below_step HB8.out hb9)
    clear hown9 hs9 hb9 HB8 HC7 HS8
    go_wp2_with fail
    refine (same_any K _ _ k _ _ HK.out (by omega) w9 HT9.out HS9.out).mono ?_
    rintro e w10 ⟨rfl, hb10⟩
    have HB10 := Lib.hid (below_step HB9.out hb10)
    clear hb10 HB9
    go_wp2_with fail
    go_ret
    exact ⟨rfl, HB10.out⟩
end Go.Proofs.YtahpiminhlineaaDoor
