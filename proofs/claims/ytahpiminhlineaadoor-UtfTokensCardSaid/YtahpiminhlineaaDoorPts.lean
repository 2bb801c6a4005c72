/- The reference's code points of a valid text. Condition: the text is not too long. -/
import Derived.Test.YtahpiminhlineaaDoorPtsN
import Derived.Test.YtahpiminhlineaaDoorUtfJ
namespace Go.Proofs.YtahpiminhlineaaDoor
open Go.RowKit Go.Shelf Go.PlainAid Go.Lib

def numV (D : List (Nat × ByteArray)) : List Value := D.map fun x => Value.int .i64 (x.1 : Int)
def bytV (D : List (Nat × ByteArray)) : List Value := D.map fun x => Value.string x.2
theorem numV_one (c : Int) : ∀ u ∈ [Value.int .i64 c], u.oneCell' = true := by intro u hu; simp at hu; subst hu; rfl
theorem info_int : (Tryd.prog.info? 3).map (fun i => (i.zero, i.size, i.bytes)) = some (some (.int .i64 0), 1, 8) := by kernel_rfl
theorem numV_app (D : List (Nat × ByteArray)) (r : Nat) (b : ByteArray) : numV (D ++ [(r, b)]) = numV D ++ [.int .i64 (r : Int)] := by simp [numV]
theorem bytV_app (D : List (Nat × ByteArray)) (r : Nat) (b : ByteArray) : bytV (D ++ [(r, b)]) = bytV D ++ [.string b] := by simp [bytV]
theorem ext_take (t : ByteArray) (k : Nat) : t.extract 0 k = ⟨(t.data.toList.take k).toArray⟩ := by
  apply ba_ext
  rw [cut_list]
theorem own_types {w : World} {B C : Nat} {e t : TypeId} {v u : Value} {n m : Nat} {xs ys : List Value} (h : w.ownsRow B e 1 v n xs) (k : w.ownsRow C t 1 u m ys) (hne : e ≠ t) : v.ownBlock = none ∨ v.ownBlock ≠ u.ownBlock := by
  rcases h.2 with ⟨rfl, _⟩ | ⟨g, cap, cur, rfl, _, hg, _⟩
  · exact .inl rfl
  · rcases k.2 with ⟨rfl, _⟩ | ⟨g', cap', cur', rfl, _, hg', _⟩
    · right; intro e; cases e
    · right
      intro he
      injection he with he
      subst he
      rw [hg] at hg'
      injection hg' with h1
      injection h1 with _ h2
      exact hne h2
set_option maxRecDepth 100000 in
set_option maxHeartbeats 2000000 in
theorem rpoints_any (s : ByteArray) (hs : s.size ≤ 100000) (hv : Lib.validD s.data.toList = true) (w : World) :
    Calls Tryd.prog 37 #[.string s] w fun e w' => (∃ A B c d, e = .returned (.tuple #[.slice A (pts s.data.toList).length c, .slice B (pts s.data.toList).length d]) ∧ Seg w' A (numV (pts s.data.toList)) ∧ Seg w' B (bytV (pts s.data.toList)) ∧ w'.ownsRow w.heap.size 3 1 (.slice A (pts s.data.toList).length c) (pts s.data.toList).length (numV (pts s.data.toList)) ∧ w'.ownsRow w.heap.size 9 1 (.slice B (pts s.data.toList).length d) (pts s.data.toList).length (bytV (pts s.data.toList))) ∧ Below w.heap.size w w' := by
  obtain ⟨i0, hi, hz0, hz1, hz2⟩ := info_parts info_str
  obtain ⟨j0, hj, hy0, hy1, hy2⟩ := info_parts info_int
  go_enter Tryd.func37, Tryd.ntmps37
  go_wp2
  go_loopw [0, 4, 5] (fun sv v1 v2 wr => ∃ (t : ByteArray) (D : List (Nat × ByteArray)), sv = .string t ∧ t.size ≤ s.size ∧ Lib.validD t.data.toList = true ∧ D ++ pts t.data.toList = pts s.data.toList ∧ D.length + t.size ≤ s.size ∧
      wr.ownsRow w.heap.size 3 1 v1 D.length (numV D) ∧ wr.ownsRow w.heap.size 9 1 v2 D.length (bytV D) ∧ Below w.heap.size w wr)
    (fun sv _ _ _ => match sv with | .string t => t.size | _ => 0)
  case atStart =>
    refine ⟨s, [], rfl, Nat.le_refl _, hv, rfl, by simp, ?_, ?_, ?_⟩
    · exact (World.ownsRow_lit w #[] 0 (by omega) (by decide) rfl).alloc _
    · have h : ((w.alloc (.cells #[] 3)).alloc (.cells #[] 9)).ownsRow w.heap.size 9 1 (.slice (some ⟨(w.alloc (.cells #[] 3)).heap.size, 0, none⟩) 0 0) 0 [] := World.ownsRow_lit _ #[] 0 (by rw [World.size_alloc]; omega) (by decide) rfl
      rw [World.size_alloc] at h
      exact h
    · exact ((Below.refl w.heap.size w).alloc (Nat.le_refl _) (.cells #[] 3)).alloc (by rw [World.size_alloc]; omega) _
  case round =>
    obtain ⟨t, D, rfl, ht, hvt, hD, hDl, ho1, ho2, hb⟩ := hrel
    by_cases h0 : 0 < t.size
    · have hne : t.data.toList ≠ [] := by
        intro e
        have := congrArg List.length e
        rw [len_list, List.length_nil] at this
        omega
      have hn0 : runeN t.data.toList ≠ 0 := by
        intro e
        have := valid_rune _ hne
        rw [hvt, if_pos e] at this
        cases this
      obtain ⟨h1, h2, h3, h4, h5, h6, h7, h8, _⟩ := rune_code t h0 hn0
      have hstep := pts_step hne
      have hvd := (valid_first hne hvt).2.2.1
      obtain hrn | hrn | hrn | hrn : runeN t.data.toList = 1 ∨ runeN t.data.toList = 2 ∨ runeN t.data.toList = 3 ∨ runeN t.data.toList = 4 := by omega
      · have hby := bt_byte t 0
        have z0 : (0 : Int) < (t.size : Int) := by omega
        have CR := rune_any t (by omega) wr
        rw [hrn] at CR
        have hkt : 1 ≤ t.size := by omega
        have hkt' : (1 : Int) ≤ (t.size : Int) := by omega
        rw [hrn, show baseN 1 = 0 from rfl] at h5 h7 h8
        rw [hrn] at h4 h6
        have HCR := Lib.hid CR
        have HV := Lib.hid h5
        have H6 := Lib.hid h6
        have HS := Lib.hid hstep
        rw [h4] at HS
        have HR1 := Lib.hid ho1
        have HR2 := Lib.hid ho2
        have HB := Lib.hid hb
        have hc0 : 0 ≤ bt t 0 - 0 ∧ bt t 0 - 0 ≤ 255 := by omega
        have hgb := get_bt t
        have HD := Lib.hid hD
        have HVD := Lib.hid hvd
        rw [h4] at HVD
        clear CR h4 h5 h6 h7 h8 hrn hstep ho1 ho2 hb hD hvt hvd
        go_wp2_with (first | (go_at_call 36; refine HCR.out.mono ?_; rintro e w1 ⟨rfl, rfl⟩) | go_in)
        go_loopw [7, 8] (fun cv iv wx => ∃ (j i : Nat) (c : Int), Hid (i = j + 1) ∧ i ≤ 1 ∧ cv = .int .i64 c ∧ iv = .int .i64 i ∧ Hid (c = accZ t (bt t 0 - 0) j) ∧ Hid (0 ≤ c ∧ (j = 0 → c ≤ 255) ∧ (j = 1 → c ≤ 2047) ∧ (j = 2 → c ≤ 131071) ∧ (j = 3 → c ≤ 8388607)) ∧ wx = w1) (fun _ iv _ => 1 - (intOf iv).toNat)
        case atStart => exact ⟨0, 1, bt t 0, Lib.hid rfl, by omega, rfl, rfl, Lib.hid (show bt t 0 = accZ t (bt t 0 - 0) 0 by show bt t 0 = bt t 0 - 0; omega), Lib.hid ⟨by omega, fun _ => by omega, fun h => by omega, fun h => by omega, fun h => by omega⟩, rfl⟩
        case round =>
          obtain ⟨j, i, c, HI, hi', rfl, rfl, HC, HBD, rfl⟩ := hrel
          have hcl : 0 ≤ c ∧ c ≤ 8388607 := by
            have := HBD.out
            have := HI.out
            omega
          by_cases hik : i < 1
          · have i1 : (i : Int) < 1 := by omega
            have i2 : i < t.size := by omega
            have hbi := bt_byte t i
            have hct : 128 ≤ bt t i ∧ bt t i ≤ 191 := by
              have := H6.out j (by have := HI.out; omega)
              rw [← HI.out] at this
              exact of_decide_eq_true this
            have HC2 := Lib.hid (show 64 * c + bt t i - 128 = accZ t (bt t 0 - 0) i by rw [HC.out, HI.out]; rfl)
            have HB2 := Lib.hid (show 0 ≤ 64 * c + bt t i - 128 ∧ (i = 0 → 64 * c + bt t i - 128 ≤ 255) ∧ (i = 1 → 64 * c + bt t i - 128 ≤ 2047) ∧ (i = 2 → 64 * c + bt t i - 128 ≤ 131071) ∧ (i = 3 → 64 * c + bt t i - 128 ≤ 8388607) by
              have := HBD.out
              have := HI.out
              omega)
            have m1 : IntKind.i64.wrap (64 * c) = 64 * c := by rw [IntKind.wrap_i64]; omega
            have m2 : IntKind.i64.wrap (64 * c + bt t i) = 64 * c + bt t i := by rw [IntKind.wrap_i64]; omega
            have m3 : IntKind.i64.wrap (64 * c + bt t i - 128) = 64 * c + bt t i - 128 := by rw [IntKind.wrap_i64]; omega
            go_wp2
            go_roundw
            case rel => exact ⟨i, i + 1, 64 * c + bt t i - 128, Lib.hid rfl, by omega, by go_num, by go_num, HC2, HB2, trivial⟩
            case measure => simp [intOf]; omega
          · have hie : i = 1 := by omega
            have HX := Lib.hid (show c = ((decodeL t.data.toList).1 : Int) by rw [HV.out, HC.out, show 1 - 1 = j by have := HI.out; omega])
            subst hie
            have hws := HB.out.size
            have HXT := Lib.hid (ext_take t 1)
            go_wp2_with (first
              | (at_builtin; refine wpList_append_own _ rfl _ _ 47 rfl w.heap.size 3 j0 (.int .i64 0) 1 8 Tryd.underlying47 hj hy0 hy1 hy2 rfl (by decide) _ _ _ rfl (HR1.out.alloc _) ⟨wr.heap.size, 0, none⟩ 1 1 [.int .i64 c] rfl rfl (cell_one_new _ _ _) (numV_one c) (by simp only [maxLen]; omega) (by omega) (by rw [World.size_alloc]; omega) ?_; intro v1' w4 hown4 hgrow4 _)
              | (at_builtin; refine wpList_append_own _ rfl _ _ 31 rfl w.heap.size 9 i0 (.string ⟨#[]⟩) 1 16 Tryd.underlying31 hi hz0 hz1 hz2 rfl (by decide) _ _ _ rfl (((HR2.out.alloc (.cells #[.int .i64 c] 3)).kept hgrow4 (own_types (HR2.out.alloc (.cells #[.int .i64 c] 3)) (HR1.out.alloc (.cells #[.int .i64 c] 3)) (by decide))).alloc _) ⟨w4.heap.size, 0, none⟩ 1 1 [.string (t.extract 0 1)] rfl rfl (cell_one_new _ _ _) (strV_one [t.extract 0 1]) (by simp only [maxLen]; omega) (by omega) (by rw [World.size_alloc]; have := hgrow4.size; rw [World.size_alloc] at this; omega) ?_; intro v2' w5 hown5 hgrow5 _)
              | go_in)
            have HF1 := Lib.hid ((hown4.alloc (.cells #[.string (t.extract 0 1)] 9)).kept hgrow5 (own_types (hown4.alloc (.cells #[.string (t.extract 0 1)] 9)) (((HR2.out.alloc (.cells #[.int .i64 c] 3)).kept hgrow4 (own_types (HR2.out.alloc (.cells #[.int .i64 c] 3)) (HR1.out.alloc (.cells #[.int .i64 c] 3)) (by decide))).alloc (.cells #[.string (t.extract 0 1)] 9)) (by decide)))
            have hg4 := hgrow4.size
            rw [World.size_alloc] at hg4
            have HF3 := Lib.hid ((((HB.out.alloc hws (.cells #[.int .i64 c] 3)).grown hgrow4 (by rw [World.size_alloc]; omega) (fun j hj => (HR1.out.lt j hj).1)).alloc (by omega) (.cells #[.string (t.extract 0 1)] 9)).grown hgrow5 (by rw [World.size_alloc]; omega) (fun j hj => (HR2.out.lt j hj).1))
            have HF2 := Lib.hid hown5
            have hz5 : (t.extract 1 t.size).size = t.size - 1 := by rw [ByteArray.size_extract]; omega
            clear hgrow4 hgrow5 hown4 hown5
            go_roundw
            case rel =>
              refine ⟨t.extract 1 t.size, D ++ [((decodeL t.data.toList).1, ⟨(t.data.toList.take 1).toArray⟩)], rfl, by omega, by rw [drop_list]; exact HVD.out, ?_, by rw [List.length_append]; simp; omega, ?_, ?_, HF3.out⟩
              · rw [drop_list, List.append_assoc, ← HD.out, HS.out]
                rfl
              · rw [List.length_append, numV_app, ← HX.out]
                exact HF1.out
              · rw [List.length_append, bytV_app, ← HXT.out]
                exact HF2.out
            case measure => show (t.extract 1 t.size).size < t.size; omega
      · have hby := bt_byte t 0
        have z0 : (0 : Int) < (t.size : Int) := by omega
        have CR := rune_any t (by omega) wr
        rw [hrn] at CR
        have hkt : 2 ≤ t.size := by omega
        have hkt' : (2 : Int) ≤ (t.size : Int) := by omega
        rw [hrn, show baseN 2 = 192 from rfl] at h5 h7 h8
        rw [hrn] at h4 h6
        have HCR := Lib.hid CR
        have HV := Lib.hid h5
        have H6 := Lib.hid h6
        have HS := Lib.hid hstep
        rw [h4] at HS
        have HR1 := Lib.hid ho1
        have HR2 := Lib.hid ho2
        have HB := Lib.hid hb
        have hc0 : 0 ≤ bt t 0 - 192 ∧ bt t 0 - 192 ≤ 31 := by omega
        have hgb := get_bt t
        have HD := Lib.hid hD
        have HVD := Lib.hid hvd
        rw [h4] at HVD
        clear CR h4 h5 h6 h7 h8 hrn hstep ho1 ho2 hb hD hvt hvd
        go_wp2_with (first | (go_at_call 36; refine HCR.out.mono ?_; rintro e w1 ⟨rfl, rfl⟩) | go_in)
        go_loopw [7, 8] (fun cv iv wx => ∃ (j i : Nat) (c : Int), Hid (i = j + 1) ∧ i ≤ 2 ∧ cv = .int .i64 c ∧ iv = .int .i64 i ∧ Hid (c = accZ t (bt t 0 - 192) j) ∧ Hid (0 ≤ c ∧ (j = 0 → c ≤ 31) ∧ (j = 1 → c ≤ 2047) ∧ (j = 2 → c ≤ 131071) ∧ (j = 3 → c ≤ 8388607)) ∧ wx = w1) (fun _ iv _ => 2 - (intOf iv).toNat)
        case atStart => exact ⟨0, 1, bt t 0 - 192, Lib.hid rfl, by omega, rfl, rfl, Lib.hid (show bt t 0 - 192 = accZ t (bt t 0 - 192) 0 by show bt t 0 - 192 = bt t 0 - 192; omega), Lib.hid ⟨by omega, fun _ => by omega, fun h => by omega, fun h => by omega, fun h => by omega⟩, rfl⟩
        case round =>
          obtain ⟨j, i, c, HI, hi', rfl, rfl, HC, HBD, rfl⟩ := hrel
          have hcl : 0 ≤ c ∧ c ≤ 8388607 := by
            have := HBD.out
            have := HI.out
            omega
          by_cases hik : i < 2
          · have i1 : (i : Int) < 2 := by omega
            have i2 : i < t.size := by omega
            have hbi := bt_byte t i
            have hct : 128 ≤ bt t i ∧ bt t i ≤ 191 := by
              have := H6.out j (by have := HI.out; omega)
              rw [← HI.out] at this
              exact of_decide_eq_true this
            have HC2 := Lib.hid (show 64 * c + bt t i - 128 = accZ t (bt t 0 - 192) i by rw [HC.out, HI.out]; rfl)
            have HB2 := Lib.hid (show 0 ≤ 64 * c + bt t i - 128 ∧ (i = 0 → 64 * c + bt t i - 128 ≤ 31) ∧ (i = 1 → 64 * c + bt t i - 128 ≤ 2047) ∧ (i = 2 → 64 * c + bt t i - 128 ≤ 131071) ∧ (i = 3 → 64 * c + bt t i - 128 ≤ 8388607) by
              have := HBD.out
              have := HI.out
              omega)
            have m1 : IntKind.i64.wrap (64 * c) = 64 * c := by rw [IntKind.wrap_i64]; omega
            have m2 : IntKind.i64.wrap (64 * c + bt t i) = 64 * c + bt t i := by rw [IntKind.wrap_i64]; omega
            have m3 : IntKind.i64.wrap (64 * c + bt t i - 128) = 64 * c + bt t i - 128 := by rw [IntKind.wrap_i64]; omega
            go_wp2
            go_roundw
            case rel => exact ⟨i, i + 1, 64 * c + bt t i - 128, Lib.hid rfl, by omega, by go_num, by go_num, HC2, HB2, trivial⟩
            case measure => simp [intOf]; omega
          · have hie : i = 2 := by omega
            have HX := Lib.hid (show c = ((decodeL t.data.toList).1 : Int) by rw [HV.out, HC.out, show 2 - 1 = j by have := HI.out; omega])
            subst hie
            have hws := HB.out.size
            have HXT := Lib.hid (ext_take t 2)
            go_wp2_with (first
              | (at_builtin; refine wpList_append_own _ rfl _ _ 47 rfl w.heap.size 3 j0 (.int .i64 0) 1 8 Tryd.underlying47 hj hy0 hy1 hy2 rfl (by decide) _ _ _ rfl (HR1.out.alloc _) ⟨wr.heap.size, 0, none⟩ 1 1 [.int .i64 c] rfl rfl (cell_one_new _ _ _) (numV_one c) (by simp only [maxLen]; omega) (by omega) (by rw [World.size_alloc]; omega) ?_; intro v1' w4 hown4 hgrow4 _)
              | (at_builtin; refine wpList_append_own _ rfl _ _ 31 rfl w.heap.size 9 i0 (.string ⟨#[]⟩) 1 16 Tryd.underlying31 hi hz0 hz1 hz2 rfl (by decide) _ _ _ rfl (((HR2.out.alloc (.cells #[.int .i64 c] 3)).kept hgrow4 (own_types (HR2.out.alloc (.cells #[.int .i64 c] 3)) (HR1.out.alloc (.cells #[.int .i64 c] 3)) (by decide))).alloc _) ⟨w4.heap.size, 0, none⟩ 1 1 [.string (t.extract 0 2)] rfl rfl (cell_one_new _ _ _) (strV_one [t.extract 0 2]) (by simp only [maxLen]; omega) (by omega) (by rw [World.size_alloc]; have := hgrow4.size; rw [World.size_alloc] at this; omega) ?_; intro v2' w5 hown5 hgrow5 _)
              | go_in)
            have HF1 := Lib.hid ((hown4.alloc (.cells #[.string (t.extract 0 2)] 9)).kept hgrow5 (own_types (hown4.alloc (.cells #[.string (t.extract 0 2)] 9)) (((HR2.out.alloc (.cells #[.int .i64 c] 3)).kept hgrow4 (own_types (HR2.out.alloc (.cells #[.int .i64 c] 3)) (HR1.out.alloc (.cells #[.int .i64 c] 3)) (by decide))).alloc (.cells #[.string (t.extract 0 2)] 9)) (by decide)))
            have hg4 := hgrow4.size
            rw [World.size_alloc] at hg4
            have HF3 := Lib.hid ((((HB.out.alloc hws (.cells #[.int .i64 c] 3)).grown hgrow4 (by rw [World.size_alloc]; omega) (fun j hj => (HR1.out.lt j hj).1)).alloc (by omega) (.cells #[.string (t.extract 0 2)] 9)).grown hgrow5 (by rw [World.size_alloc]; omega) (fun j hj => (HR2.out.lt j hj).1))
            have HF2 := Lib.hid hown5
            have hz5 : (t.extract 2 t.size).size = t.size - 2 := by rw [ByteArray.size_extract]; omega
            clear hgrow4 hgrow5 hown4 hown5
            go_roundw
            case rel =>
              refine ⟨t.extract 2 t.size, D ++ [((decodeL t.data.toList).1, ⟨(t.data.toList.take 2).toArray⟩)], rfl, by omega, by rw [drop_list]; exact HVD.out, ?_, by rw [List.length_append]; simp; omega, ?_, ?_, HF3.out⟩
              · rw [drop_list, List.append_assoc, ← HD.out, HS.out]
                rfl
              · rw [List.length_append, numV_app, ← HX.out]
                exact HF1.out
              · rw [List.length_append, bytV_app, ← HXT.out]
                exact HF2.out
            case measure => show (t.extract 2 t.size).size < t.size; omega
      · have hby := bt_byte t 0
        have z0 : (0 : Int) < (t.size : Int) := by omega
        have CR := rune_any t (by omega) wr
        rw [hrn] at CR
        have hkt : 3 ≤ t.size := by omega
        have hkt' : (3 : Int) ≤ (t.size : Int) := by omega
        rw [hrn, show baseN 3 = 224 from rfl] at h5 h7 h8
        rw [hrn] at h4 h6
        have HCR := Lib.hid CR
        have HV := Lib.hid h5
        have H6 := Lib.hid h6
        have HS := Lib.hid hstep
        rw [h4] at HS
        have HR1 := Lib.hid ho1
        have HR2 := Lib.hid ho2
        have HB := Lib.hid hb
        have hc0 : 0 ≤ bt t 0 - 224 ∧ bt t 0 - 224 ≤ 31 := by omega
        have hgb := get_bt t
        have HD := Lib.hid hD
        have HVD := Lib.hid hvd
        rw [h4] at HVD
        clear CR h4 h5 h6 h7 h8 hrn hstep ho1 ho2 hb hD hvt hvd
        go_wp2_with (first | (go_at_call 36; refine HCR.out.mono ?_; rintro e w1 ⟨rfl, rfl⟩) | go_in)
        go_loopw [7, 8] (fun cv iv wx => ∃ (j i : Nat) (c : Int), Hid (i = j + 1) ∧ i ≤ 3 ∧ cv = .int .i64 c ∧ iv = .int .i64 i ∧ Hid (c = accZ t (bt t 0 - 224) j) ∧ Hid (0 ≤ c ∧ (j = 0 → c ≤ 31) ∧ (j = 1 → c ≤ 2047) ∧ (j = 2 → c ≤ 131071) ∧ (j = 3 → c ≤ 8388607)) ∧ wx = w1) (fun _ iv _ => 3 - (intOf iv).toNat)
        case atStart => exact ⟨0, 1, bt t 0 - 224, Lib.hid rfl, by omega, rfl, rfl, Lib.hid (show bt t 0 - 224 = accZ t (bt t 0 - 224) 0 by show bt t 0 - 224 = bt t 0 - 224; omega), Lib.hid ⟨by omega, fun _ => by omega, fun h => by omega, fun h => by omega, fun h => by omega⟩, rfl⟩
        case round =>
          obtain ⟨j, i, c, HI, hi', rfl, rfl, HC, HBD, rfl⟩ := hrel
          have hcl : 0 ≤ c ∧ c ≤ 8388607 := by
            have := HBD.out
            have := HI.out
            omega
          by_cases hik : i < 3
          · have i1 : (i : Int) < 3 := by omega
            have i2 : i < t.size := by omega
            have hbi := bt_byte t i
            have hct : 128 ≤ bt t i ∧ bt t i ≤ 191 := by
              have := H6.out j (by have := HI.out; omega)
              rw [← HI.out] at this
              exact of_decide_eq_true this
            have HC2 := Lib.hid (show 64 * c + bt t i - 128 = accZ t (bt t 0 - 224) i by rw [HC.out, HI.out]; rfl)
            have HB2 := Lib.hid (show 0 ≤ 64 * c + bt t i - 128 ∧ (i = 0 → 64 * c + bt t i - 128 ≤ 31) ∧ (i = 1 → 64 * c + bt t i - 128 ≤ 2047) ∧ (i = 2 → 64 * c + bt t i - 128 ≤ 131071) ∧ (i = 3 → 64 * c + bt t i - 128 ≤ 8388607) by
              have := HBD.out
              have := HI.out
              omega)
            have m1 : IntKind.i64.wrap (64 * c) = 64 * c := by rw [IntKind.wrap_i64]; omega
            have m2 : IntKind.i64.wrap (64 * c + bt t i) = 64 * c + bt t i := by rw [IntKind.wrap_i64]; omega
            have m3 : IntKind.i64.wrap (64 * c + bt t i - 128) = 64 * c + bt t i - 128 := by rw [IntKind.wrap_i64]; omega
            go_wp2
            go_roundw
            case rel => exact ⟨i, i + 1, 64 * c + bt t i - 128, Lib.hid rfl, by omega, by go_num, by go_num, HC2, HB2, trivial⟩
            case measure => simp [intOf]; omega
          · have hie : i = 3 := by omega
            have HX := Lib.hid (show c = ((decodeL t.data.toList).1 : Int) by rw [HV.out, HC.out, show 3 - 1 = j by have := HI.out; omega])
            subst hie
            have hws := HB.out.size
            have HXT := Lib.hid (ext_take t 3)
            go_wp2_with (first
              | (at_builtin; refine wpList_append_own _ rfl _ _ 47 rfl w.heap.size 3 j0 (.int .i64 0) 1 8 Tryd.underlying47 hj hy0 hy1 hy2 rfl (by decide) _ _ _ rfl (HR1.out.alloc _) ⟨wr.heap.size, 0, none⟩ 1 1 [.int .i64 c] rfl rfl (cell_one_new _ _ _) (numV_one c) (by simp only [maxLen]; omega) (by omega) (by rw [World.size_alloc]; omega) ?_; intro v1' w4 hown4 hgrow4 _)
              | (at_builtin; refine wpList_append_own _ rfl _ _ 31 rfl w.heap.size 9 i0 (.string ⟨#[]⟩) 1 16 Tryd.underlying31 hi hz0 hz1 hz2 rfl (by decide) _ _ _ rfl (((HR2.out.alloc (.cells #[.int .i64 c] 3)).kept hgrow4 (own_types (HR2.out.alloc (.cells #[.int .i64 c] 3)) (HR1.out.alloc (.cells #[.int .i64 c] 3)) (by decide))).alloc _) ⟨w4.heap.size, 0, none⟩ 1 1 [.string (t.extract 0 3)] rfl rfl (cell_one_new _ _ _) (strV_one [t.extract 0 3]) (by simp only [maxLen]; omega) (by omega) (by rw [World.size_alloc]; have := hgrow4.size; rw [World.size_alloc] at this; omega) ?_; intro v2' w5 hown5 hgrow5 _)
              | go_in)
            have HF1 := Lib.hid ((hown4.alloc (.cells #[.string (t.extract 0 3)] 9)).kept hgrow5 (own_types (hown4.alloc (.cells #[.string (t.extract 0 3)] 9)) (((HR2.out.alloc (.cells #[.int .i64 c] 3)).kept hgrow4 (own_types (HR2.out.alloc (.cells #[.int .i64 c] 3)) (HR1.out.alloc (.cells #[.int .i64 c] 3)) (by decide))).alloc (.cells #[.string (t.extract 0 3)] 9)) (by decide)))
            have hg4 := hgrow4.size
            rw [World.size_alloc] at hg4
            have HF3 := Lib.hid ((((HB.out.alloc hws (.cells #[.int .i64 c] 3)).grown hgrow4 (by rw [World.size_alloc]; omega) (fun j hj => (HR1.out.lt j hj).1)).alloc (by omega) (.cells #[.string (t.extract 0 3)] 9)).grown hgrow5 (by rw [World.size_alloc]; omega) (fun j hj => (HR2.out.lt j hj).1))
            have HF2 := Lib.hid hown5
            have hz5 : (t.extract 3 t.size).size = t.size - 3 := by rw [ByteArray.size_extract]; omega
            clear hgrow4 hgrow5 hown4 hown5
            go_roundw
            case rel =>
              refine ⟨t.extract 3 t.size, D ++ [((decodeL t.data.toList).1, ⟨(t.data.toList.take 3).toArray⟩)], rfl, by omega, by rw [drop_list]; exact HVD.out, ?_, by rw [List.length_append]; simp; omega, ?_, ?_, HF3.out⟩
              · rw [drop_list, List.append_assoc, ← HD.out, HS.out]
                rfl
              · rw [List.length_append, numV_app, ← HX.out]
                exact HF1.out
              · rw [List.length_append, bytV_app, ← HXT.out]
                exact HF2.out
            case measure => show (t.extract 3 t.size).size < t.size; omega
      · have hby := bt_byte t 0
        have z0 : (0 : Int) < (t.size : Int) := by omega
        have CR := rune_any t (by omega) wr
        rw [hrn] at CR
        have hkt : 4 ≤ t.size := by omega
        have hkt' : (4 : Int) ≤ (t.size : Int) := by omega
        rw [hrn, show baseN 4 = 240 from rfl] at h5 h7 h8
        rw [hrn] at h4 h6
        have HCR := Lib.hid CR
        have HV := Lib.hid h5
        have H6 := Lib.hid h6
        have HS := Lib.hid hstep
        rw [h4] at HS
        have HR1 := Lib.hid ho1
        have HR2 := Lib.hid ho2
        have HB := Lib.hid hb
        have hc0 : 0 ≤ bt t 0 - 240 ∧ bt t 0 - 240 ≤ 31 := by omega
        have hgb := get_bt t
        have HD := Lib.hid hD
        have HVD := Lib.hid hvd
        rw [h4] at HVD
        clear CR h4 h5 h6 h7 h8 hrn hstep ho1 ho2 hb hD hvt hvd
        go_wp2_with (first | (go_at_call 36; refine HCR.out.mono ?_; rintro e w1 ⟨rfl, rfl⟩) | go_in)
        go_loopw [7, 8] (fun cv iv wx => ∃ (j i : Nat) (c : Int), Hid (i = j + 1) ∧ i ≤ 4 ∧ cv = .int .i64 c ∧ iv = .int .i64 i ∧ Hid (c = accZ t (bt t 0 - 240) j) ∧ Hid (0 ≤ c ∧ (j = 0 → c ≤ 31) ∧ (j = 1 → c ≤ 2047) ∧ (j = 2 → c ≤ 131071) ∧ (j = 3 → c ≤ 8388607)) ∧ wx = w1) (fun _ iv _ => 4 - (intOf iv).toNat)
        case atStart => exact ⟨0, 1, bt t 0 - 240, Lib.hid rfl, by omega, rfl, rfl, Lib.hid (show bt t 0 - 240 = accZ t (bt t 0 - 240) 0 by show bt t 0 - 240 = bt t 0 - 240; omega), Lib.hid ⟨by omega, fun _ => by omega, fun h => by omega, fun h => by omega, fun h => by omega⟩, rfl⟩
        case round =>
          obtain ⟨j, i, c, HI, hi', rfl, rfl, HC, HBD, rfl⟩ := hrel
          have hcl : 0 ≤ c ∧ c ≤ 8388607 := by
            have := HBD.out
            have := HI.out
            omega
          by_cases hik : i < 4
          · have i1 : (i : Int) < 4 := by omega
            have i2 : i < t.size := by omega
            have hbi := bt_byte t i
            have hct : 128 ≤ bt t i ∧ bt t i ≤ 191 := by
              have := H6.out j (by have := HI.out; omega)
              rw [← HI.out] at this
              exact of_decide_eq_true this
            have HC2 := Lib.hid (show 64 * c + bt t i - 128 = accZ t (bt t 0 - 240) i by rw [HC.out, HI.out]; rfl)
            have HB2 := Lib.hid (show 0 ≤ 64 * c + bt t i - 128 ∧ (i = 0 → 64 * c + bt t i - 128 ≤ 31) ∧ (i = 1 → 64 * c + bt t i - 128 ≤ 2047) ∧ (i = 2 → 64 * c + bt t i - 128 ≤ 131071) ∧ (i = 3 → 64 * c + bt t i - 128 ≤ 8388607) by
              have := HBD.out
              have := HI.out
              omega)
            have m1 : IntKind.i64.wrap (64 * c) = 64 * c := by rw [IntKind.wrap_i64]; omega
            have m2 : IntKind.i64.wrap (64 * c + bt t i) = 64 * c + bt t i := by rw [IntKind.wrap_i64]; omega
            have m3 : IntKind.i64.wrap (64 * c + bt t i - 128) = 64 * c + bt t i - 128 := by rw [IntKind.wrap_i64]; omega
            go_wp2
            go_roundw
            case rel => exact ⟨i, i + 1, 64 * c + bt t i - 128, Lib.hid rfl, by omega, by go_num, by go_num, HC2, HB2, trivial⟩
            case measure => simp [intOf]; omega
          · have hie : i = 4 := by omega
            have HX := Lib.hid (show c = ((decodeL t.data.toList).1 : Int) by rw [HV.out, HC.out, show 4 - 1 = j by have := HI.out; omega])
            subst hie
            have hws := HB.out.size
            have HXT := Lib.hid (ext_take t 4)
            go_wp2_with (first
              | (at_builtin; refine wpList_append_own _ rfl _ _ 47 rfl w.heap.size 3 j0 (.int .i64 0) 1 8 Tryd.underlying47 hj hy0 hy1 hy2 rfl (by decide) _ _ _ rfl (HR1.out.alloc _) ⟨wr.heap.size, 0, none⟩ 1 1 [.int .i64 c] rfl rfl (cell_one_new _ _ _) (numV_one c) (by simp only [maxLen]; omega) (by omega) (by rw [World.size_alloc]; omega) ?_; intro v1' w4 hown4 hgrow4 _)
              | (at_builtin; refine wpList_append_own _ rfl _ _ 31 rfl w.heap.size 9 i0 (.string ⟨#[]⟩) 1 16 Tryd.underlying31 hi hz0 hz1 hz2 rfl (by decide) _ _ _ rfl (((HR2.out.alloc (.cells #[.int .i64 c] 3)).kept hgrow4 (own_types (HR2.out.alloc (.cells #[.int .i64 c] 3)) (HR1.out.alloc (.cells #[.int .i64 c] 3)) (by decide))).alloc _) ⟨w4.heap.size, 0, none⟩ 1 1 [.string (t.extract 0 4)] rfl rfl (cell_one_new _ _ _) (strV_one [t.extract 0 4]) (by simp only [maxLen]; omega) (by omega) (by rw [World.size_alloc]; have := hgrow4.size; rw [World.size_alloc] at this; omega) ?_; intro v2' w5 hown5 hgrow5 _)
              | go_in)
            have HF1 := Lib.hid ((hown4.alloc (.cells #[.string (t.extract 0 4)] 9)).kept hgrow5 (own_types (hown4.alloc (.cells #[.string (t.extract 0 4)] 9)) (((HR2.out.alloc (.cells #[.int .i64 c] 3)).kept hgrow4 (own_types (HR2.out.alloc (.cells #[.int .i64 c] 3)) (HR1.out.alloc (.cells #[.int .i64 c] 3)) (by decide))).alloc (.cells #[.string (t.extract 0 4)] 9)) (by decide)))
            have hg4 := hgrow4.size
            rw [World.size_alloc] at hg4
            have HF3 := Lib.hid ((((HB.out.alloc hws (.cells #[.int .i64 c] 3)).grown hgrow4 (by rw [World.size_alloc]; omega) (fun j hj => (HR1.out.lt j hj).1)).alloc (by omega) (.cells #[.string (t.extract 0 4)] 9)).grown hgrow5 (by rw [World.size_alloc]; omega) (fun j hj => (HR2.out.lt j hj).1))
            have HF2 := Lib.hid hown5
            have hz5 : (t.extract 4 t.size).size = t.size - 4 := by rw [ByteArray.size_extract]; omega
            clear hgrow4 hgrow5 hown4 hown5
            go_roundw
            case rel =>
              refine ⟨t.extract 4 t.size, D ++ [((decodeL t.data.toList).1, ⟨(t.data.toList.take 4).toArray⟩)], rfl, by omega, by rw [drop_list]; exact HVD.out, ?_, by rw [List.length_append]; simp; omega, ?_, ?_, HF3.out⟩
              · rw [drop_list, List.append_assoc, ← HD.out, HS.out]
                rfl
              · rw [List.length_append, numV_app, ← HX.out]
                exact HF1.out
              · rw [List.length_append, bytV_app, ← HXT.out]
                exact HF2.out
            case measure => show (t.extract 4 t.size).size < t.size; omega
    · have hz : t.size = 0 := by omega
      have hE : D = pts s.data.toList := by
        rw [← hD, empty_of hz]
        show D = D ++ []
        rw [List.append_nil]
      obtain ⟨A, c, rfl, hc, hs1⟩ := own_shape ho1
      obtain ⟨B, d, rfl, hd, hs2⟩ := own_shape ho2
      have HE := Lib.hid hE
      obtain ⟨n, hn⟩ : ∃ n, n = D.length := ⟨_, rfl⟩
      have HNN := Lib.hid hn
      rw [← hn] at hc hd ho1 ho2 ⊢
      have HQ1 := Lib.hid ho1
      have HQ2 := Lib.hid ho2
      have HS1 := Lib.hid hs1
      have HS2 := Lib.hid hs2
      have HB := Lib.hid hb
      clear hE hn hs1 hs2 hb hD hvt ho1 ho2
      go_wp2
      exact bodyPost_ret (v := .tuple #[.slice A n c, .slice B n d]) (by simp [results, Tryd.results37, go_sem]) rfl ⟨⟨A, B, c, d, by rw [← HE.out, ← HNN.out], by rw [← HE.out]; exact HS1.out, by rw [← HE.out]; exact HS2.out, by rw [← HE.out, ← HNN.out]; exact HQ1.out, by rw [← HE.out, ← HNN.out]; exact HQ2.out⟩, HB.out⟩
end Go.Proofs.YtahpiminhlineaaDoor
