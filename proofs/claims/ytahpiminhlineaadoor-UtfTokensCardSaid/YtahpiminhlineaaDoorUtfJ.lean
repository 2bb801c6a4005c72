/- UtfJoins' walk. Condition: the library's tables are laid. -/
import Derived.Test.YtahpiminhlineaaDoorMentJ
import Derived.Test.YtahpiminhlineaaDoorTok
import Derived.Test.YtahpiminhlineaaDoorUtfG
import Derived.Test.YtahpiminhlineaaDoorLaws
namespace Go.Proofs.YtahpiminhlineaaDoor
open Go.RowKit Go.Shelf Go.PlainAid

theorem strV_append (X Y : List ByteArray) : strV (X ++ Y) = strV X ++ strV Y := by simp [strV]
theorem own_base {w : World} {base base' : Nat} {e : TypeId} {size : Nat} {v : Value} {n : Nat} {xs : List Value} (h : w.ownsRow base e size v n xs) (hb : base' ≤ base) : w.ownsRow base' e size v n xs := by
  refine ⟨h.1, ?_⟩
  rcases h.2 with h0 | ⟨g, cap, cur, hv, hg, rest⟩
  · exact .inl h0
  · exact .inr ⟨g, cap, cur, hv, Nat.le_trans hb hg, rest⟩
theorem tokL_len (s : ByteArray) : (tokL s).length ≤ 4 * s.size + 1 := by
  unfold tokL
  have h1 := List.length_filter_le (fun x : ByteArray => !decide (32 < x.size)) (Lib.goFieldsP (fun r => !letterB (r : Int)) (foldS s))
  have h2 := pieces_len (fun r => !letterB (r : Int)) (foldS s) (foldS s).size 0 none
  have h3 := foldS_size s
  rw [← goFields_pieces] at h2
  omega
set_option maxRecDepth 100000 in
set_option maxHeartbeats 2000000 in
theorem joins_ok (a b : ByteArray) (ha : a.size ≤ 200) (hb : b.size ≤ 200) (va : Lib.validD a.data.toList = true) (vb : Lib.validD b.data.toList = true) (w : World) (hT : Tabs w) :
    Calls Tryd.prog 7 #[.string a, .string b] w fun e w' => e = .returned (.bool true) ∧ Below w.heap.size w w' := by
  have HT := Lib.hid hT
  obtain ⟨i0, hi, hz0, hz1, hz2⟩ := info_parts info_str
  have hjz := jn_size a b
  have a1 := fun w => run_string_add_sum (P := Tryd.prog) w a ⟨#[32]⟩ (by show a.size + 1 ≤ _; omega)
  have a2 := fun w => run_string_add_sum (P := Tryd.prog) w (a ++ ⟨#[32]⟩) b (by rw [ByteArray.size_append]; show a.size + 1 + b.size ≤ _; omega)
  have ht : a ++ ⟨#[32]⟩ ++ b = jnS a b := rfl
  have C1 := Lib.hid (utf8_any a (by omega) w)
  have C2 := Lib.hid (utf8_any b (by omega) w)
  rw [va] at C1
  rw [vb] at C2
  have HVA := Lib.hid va
  have HVB := Lib.hid vb
  have HVT := Lib.hid (valid_jnS va vb)
  have htok := tok_jn a b
  obtain ⟨hment, hmlen⟩ := ment_jn a b
  have hl1 : (tokL a).length ≤ 1000 := by have := tokL_len a; omega
  have hl2 : (tokL b).length ≤ 1000 := by have := tokL_len b; omega
  have hma : (mentL a).length ≤ 200 := Nat.le_trans (mentTo_len a _) ha
  have hmb : (mentL b).length ≤ 200 := Nat.le_trans (mentTo_len b _) hb
  obtain ⟨t, htt⟩ : ∃ t, t = jnS a b := ⟨_, rfl⟩
  rw [← htt] at ht hjz HVT htok hment hmlen
  rw [ht] at a2
  have htz : t.size ≤ 401 := by omega
  have CA := Lib.hid (fun w hT => tokens_ok a (by omega) HVA.out w hT)
  have CB := Lib.hid (fun w hT => tokens_ok b (by omega) HVB.out w hT)
  have CT := Lib.hid (fun w hT => tokens_ok t htz HVT.out w hT)
  rw [htok] at CT
  obtain ⟨X, hX⟩ : ∃ X, X = tokL a := ⟨_, rfl⟩
  obtain ⟨Y, hY⟩ : ∃ Y, Y = tokL b := ⟨_, rfl⟩
  rw [← hX] at CA CT hl1
  rw [← hY] at CB CT hl2
  rw [List.length_append] at CT
  obtain ⟨nx, hnx⟩ : ∃ n, n = X.length := ⟨_, rfl⟩
  obtain ⟨ny, hny⟩ : ∃ n, n = Y.length := ⟨_, rfl⟩
  rw [← hnx] at CA CT hl1
  rw [← hny] at CB CT hl2
  have CMT := Lib.hid (fun w => mentions_any t (by omega) w)
  have CMA := Lib.hid (fun w => mentions_any a (by omega) w)
  have CMB := Lib.hid (fun w => mentions_any b (by omega) w)
  obtain ⟨MT, hMT⟩ : ∃ X, X = mentL t := ⟨_, rfl⟩
  obtain ⟨MA, hMA⟩ : ∃ X, X = mentL a := ⟨_, rfl⟩
  obtain ⟨MB, hMB⟩ : ∃ X, X = mentL b := ⟨_, rfl⟩
  rw [← hMT] at CMT hment hmlen
  rw [← hMA] at CMA hment hmlen hma
  rw [← hMB] at CMB hment hmlen hmb
  obtain ⟨nt, hnt⟩ : ∃ n, n = MT.length := ⟨_, rfl⟩
  obtain ⟨na, hna⟩ : ∃ n, n = MA.length := ⟨_, rfl⟩
  obtain ⟨nb, hnb⟩ : ∃ n, n = MB.length := ⟨_, rfl⟩
  rw [← hnt] at CMT hmlen
  rw [← hna] at CMA hmlen hma
  rw [← hnb] at CMB hmlen hmb
  have HNT := Lib.hid hnt
  have HNA := Lib.hid hna
  have HNB := Lib.hid hnb
  have HMENT := Lib.hid hment
  clear hMT hMA hMB hnt hna hnb hment
  have HNX := Lib.hid hnx
  have HNY := Lib.hid hny
  clear hT ht htt va vb htok hX hY hnx hny hjz
  have g1 : ¬ (200 : Int) < (a.size : Int) := by omega
  have g2 : ¬ (200 : Int) < (b.size : Int) := by omega
  go_enter Tryd.func7, Tryd.ntmps7
  go_wp2_with fail
  refine C1.out.mono ?_
  rintro e w0 ⟨rfl, rfl⟩
  go_wp2_with fail
  refine C2.out.mono ?_
  rintro e w0 ⟨rfl, rfl⟩
  clear C1 C2
  go_wp2_with fail
  refine (CA.out _ HT.out).mono ?_
  rintro e w1 ⟨⟨A1, c1, rfl, hc1, hs1⟩, hb1⟩
  have HS1 := Lib.hid hs1
  have HB1 := Lib.hid hb1
  clear hs1 hb1 CA
  go_wp2_with fail
  refine (CB.out _ (Utf8Tabs_below HT.out HB1.out)).mono ?_
  rintro e w2 ⟨⟨A2, c2, rfl, hc2, hs2⟩, hb2⟩
  have HS1' := Lib.hid (HS1.out.bel hb2)
  have HS2 := Lib.hid hs2
  have HB2 := Lib.hid (below_step HB1.out hb2)
  clear hs2 hb2 CB HB1 HS1
  go_wp2_with fail
  refine (CT.out _ (Utf8Tabs_below HT.out HB2.out)).mono ?_
  rintro e w3 ⟨⟨A3, c3, rfl, hc3, hs3⟩, hb3⟩
  have HS1 := Lib.hid (HS1'.out.bel hb3)
  have HS2' := Lib.hid (HS2.out.bel hb3)
  have HS3 := Lib.hid hs3
  have HB3 := Lib.hid (below_step HB2.out hb3)
  clear hs3 hb3 CT HB2 HS1' HS2
  go_wp2_with fail
  refine (awake_any _ (Utf8Tabs_below HT.out HB3.out)).mono ?_
  rintro e w4 ⟨rfl, hb4⟩
  have HS1' := Lib.hid (HS1.out.bel hb4)
  have HS2 := Lib.hid (HS2'.out.bel hb4)
  have HS3' := Lib.hid (HS3.out.bel hb4)
  have HB4 := Lib.hid (below_step HB3.out hb4)
  clear hb4 HB3 HS1 HS2' HS3
  have hbb := Lib.hid (HS2.out.bel ((Below.refl _ w4).alloc (Nat.le_refl _) (.cells #[] 9)))
  have haa := Lib.hid (HS1'.out.bel ((Below.refl _ w4).alloc (Nat.le_refl _) (.cells #[] 9)))
  have hsx : (strV X).length = nx := by rw [strV_length]; exact HNX.out.symm
  have hsy : (strV Y).length = ny := by rw [strV_length]; exact HNY.out.symm
  have HSX := Lib.hid hsx
  have HSY := Lib.hid hsy
  clear hsx hsy
  go_wp2_with (first
    | (refine wpList_append_seg' _ rfl _ _ 31 rfl w4.heap.size 9 i0 _ 16 Tryd.underlying31 hi hz0 hz1 hz2 rfl _ 0 _ rfl (World.ownsRow_lit w4 #[] 0 (by omega) (by decide) rfl) (some ⟨A1, 0, none⟩) nx c1 (strV X) rfl HSX.out.symm haa.out (strV_one _) (by simp only [maxLen]; omega) (by omega) (by simp only [World.size_alloc]; omega) ?_; intro v5 w5 hown5 hb5; simp only [Nat.zero_add, List.nil_append] at hown5; have O5 := Lib.hid hown5; have BB5 := Lib.hid (((Below.refl w4.heap.size w4).alloc (Nat.le_refl _) (.cells #[] 9)).trans hb5); clear hown5 hb5)
    | (refine wpList_append_seg' _ rfl _ _ 31 rfl w4.heap.size 9 i0 _ 16 Tryd.underlying31 hi hz0 hz1 hz2 rfl v5 nx (strV X) rfl O5.out (some ⟨A2, 0, none⟩) ny c2 (strV Y) rfl HSY.out.symm (HS2.out.bel BB5.out) (strV_one _) (by simp only [maxLen]; omega) (by omega) BB5.out.size ?_; intro v6 w6 hown6 hb6; obtain ⟨A6, c6, rfl, hc6, hs6⟩ := own_shape hown6; have O6 := Lib.hid hs6; have BB6 := Lib.hid (BB5.out.trans hb6); clear hown6 hb6 hs6)
    | (go_at_call 20; refine (same_any (X ++ Y) (some ⟨A3, 0, none⟩) A6 (nx + ny) c3 c6 (by rw [List.length_append, HNX.out, HNY.out]) (by omega) w6 (HS3'.out.bel BB6.out) (by rw [strV_append]; exact O6.out)).mono ?_; rintro e w7 ⟨rfl, hb7⟩; have HB7 := Lib.hid (below_step (HB4.out.trans (BB6.out.mono HB4.out.size)) hb7); clear hb7)
    | fail)
  refine (CMT.out w7).mono ?_
  rintro e w8 ⟨⟨v8, rfl, hown8⟩, hb8⟩
  obtain ⟨A8, c8, rfl, hc8, hs8⟩ := own_shape hown8
  have HS8 := Lib.hid hs8
  have HB8 := Lib.hid (below_step HB7.out hb8)
  clear hown8 hs8 hb8 CMT HB7 hbb haa
  go_wp2_with fail
  refine (CMA.out w8).mono ?_
  rintro e w9 ⟨⟨v9, rfl, hown9⟩, hb9⟩
  have HO9 := Lib.hid hown9
  have HB9 := Lib.hid hb9
  clear hown9 hb9
  go_wp2_with fail
  refine (CMB.out w9).mono ?_
  rintro e w10 ⟨⟨v10, rfl, hown10⟩, hb10⟩
  obtain ⟨A10, c10, rfl, hc10, hs10⟩ := own_shape hown10
  have HS10 := Lib.hid hs10
  have HO10 := Lib.hid (own_base (own_bel HO9.out hb10) (Nat.le_succ _))
  have HB10 := Lib.hid (HB9.out.trans (hb10.mono HB9.out.size))
  clear hown10 hs10 hb10 HO9 HB9
  have hma2 : (strV MB).length = nb := by rw [strV_length]; exact HNB.out.symm
  have HMB := Lib.hid hma2
  clear hma2
  obtain ⟨n, hn⟩ : ∃ n, n = na + nb := ⟨_, rfl⟩
  have hn4 : n ≤ 400 := by omega
  have HNS := Lib.hid hn
  clear hn
  go_wp2_with (first
    | (refine wpList_append_seg' _ rfl _ _ 31 rfl w8.heap.size 9 i0 _ 16 Tryd.underlying31 hi hz0 hz1 hz2 rfl v9 na (strV MA) rfl HO10.out A10 nb c10 (strV MB) rfl HMB.out.symm HS10.out (strV_one _) (by simp only [maxLen]; omega) (by omega) HB10.out.size ?_; intro v11 w11 hown11 hb11; rw [← HNS.out] at hown11; obtain ⟨A11, c11, rfl, hc11, hs11⟩ := own_shape hown11; have HS11 := Lib.hid (show Seg w11 A11 (strV (MA ++ MB)) by rw [strV_append]; exact hs11); have HB11 := Lib.hid (HB10.out.trans hb11); clear hown11 hb11 hs11)
    | fail)
  have HS8' := Lib.hid (HS8.out.bel HB11.out)
  have HBT := Lib.hid (below_step HB8.out HB11.out)
  clear HS8 HS10 HO10 HB10 HB8 HB11
  have hML : n = (MA ++ MB).length := by rw [List.length_append, ← HNA.out, ← HNB.out, HNS.out]
  obtain ⟨M, hM⟩ : ∃ M, M = MA ++ MB := ⟨_, rfl⟩
  rw [← hM] at hML HS11 HMENT
  have HN := Lib.hid hML
  have hnt4 : nt ≤ 400 := by omega
  clear hM hML
  go_loopw [81] (fun ix wx => ∃ m : Nat, m ≤ n ∧ ix = .int .i64 m ∧ wx = w11) (fun ix _ => n - (intOf ix).toNat)
  case atStart => exact ⟨0, Nat.zero_le _, rfl, rfl⟩
  case round =>
    obtain ⟨m, hm, rfl, rfl⟩ := hrel
    by_cases hml : m < n
    · have hmL : m < M.length := by have := HN.out; omega
      obtain ⟨b3, o3, hA3, hb3, hc3'⟩ := Seg.str HS11.out hmL
      subst hA3
      have i1 : (0 : Int) ≤ (m : Int) := by omega
      have i2 : (m : Int) < (n : Int) := by omega
      have hin := HMENT.out _ (List.getElem_mem hmL)
      generalize M[m] = x at *
      have HIN := Lib.hid hin
      clear hin
      go_wp2
      go_loopw [14, 87] (fun fr kx wx => ∃ (k : Nat) (f : Bool), k ≤ nt ∧ kx = .int .i64 k ∧ fr = .bool f ∧ Hid (f = memB x (MT.take k)) ∧ wx = wr) (fun _ kx _ => nt - (intOf kx).toNat)
      case atStart => exact ⟨0, false, Nat.zero_le _, rfl, rfl, Lib.hid (by simp [memB]), rfl⟩
      case round =>
        obtain ⟨k, f, hk, rfl, rfl, HF, rfl⟩ := hrel
        by_cases hkl : k < nt
        · have hkL : k < MT.length := by have := HNT.out; omega
          obtain ⟨b4, o4, hA4, hb4, hc4⟩ := Seg.str HS8'.out hkL
          subst hA4
          have j1 : (0 : Int) ≤ (k : Int) := by omega
          have j2 : (k : Int) < (nt : Int) := by omega
          have HT1 := Lib.hid (memB_take (wd := x) hkL)
          cases f
          · have hbe : (MT[k].toList == x.toList) = decide (MT[k] = x) := beq_of _ _
            have HF2 := Lib.hid (show decide (MT[k] = x) = memB x (MT.take (k + 1)) by rw [HT1.out, ← HF.out]; rfl)
            generalize MT[k] = y at *
            obtain ⟨g, hg⟩ : ∃ g, g = decide (y = x) := ⟨_, rfl⟩
            rw [← hg] at hbe HF2
            clear hg
            go_wp2
            go_roundw
            case rel => exact ⟨k + 1, g, by omega, by go_num, rfl, HF2, trivial⟩
            case measure => simp [intOf]; omega
          · have HF2 := Lib.hid (show true = memB x (MT.take (k + 1)) by rw [HT1.out, ← HF.out]; rfl)
            generalize MT[k] = y at *
            go_wp2
            go_roundw
            case rel => exact ⟨k + 1, true, by omega, by go_num, rfl, HF2, trivial⟩
            case measure => simp [intOf]; omega
        · have HE := Lib.hid (show f = true by rw [HF.out, List.take_of_length_le (by have := HNT.out; omega), HIN.out])
          obtain rfl : f = true := HE.out
          go_wp2
          go_roundw
          case rel => exact ⟨m + 1, by omega, by go_num, trivial⟩
          case measure => simp [intOf]; omega
    · go_wp2_with fail
      refine (CMA.out wr).mono ?_
      rintro e w12 ⟨⟨v12, rfl, hown12⟩, hb12⟩
      obtain ⟨A12, c12, rfl, hc12, _⟩ := own_shape hown12
      have HB12 := Lib.hid (below_step HBT.out hb12)
      clear hown12 hb12
      go_wp2_with fail
      refine (CMB.out w12).mono ?_
      rintro e w13 ⟨⟨v13, rfl, hown13⟩, hb13⟩
      obtain ⟨A13, c13, rfl, hc13, _⟩ := own_shape hown13
      have HB13 := Lib.hid (below_step HB12.out hb13)
      clear hown13 hb13
      have HD := Lib.hid (show decide ((nt : Int) ≤ (na : Int) + (nb : Int)) = true from decide_eq_true (by omega))
      go_wp2_with fail
      go_ret
      exact ⟨by rw [HD.out]; rfl, HB13.out⟩
set_option maxRecDepth 100000 in
set_option maxHeartbeats 2000000 in
theorem joins_any (a b : ByteArray) (ha : a.size ≤ 9223372036854775807) (hb : b.size ≤ 9223372036854775807) (w : World) (hT : Tabs w) :
    Calls Tryd.prog 7 #[.string a, .string b] w fun e w' => e = .returned (.bool true) ∧ Below w.heap.size w w' := by
  have CA := Lib.hid (awake_any w hT)
  by_cases h1 : 200 < a.size
  · have h1' : (200 : Int) < (a.size : Int) := by omega
    clear hT
    go_enter Tryd.func7, Tryd.ntmps7
    go_wp2_with fail
    refine CA.out.mono ?_
    rintro e w1 ⟨rfl, hb1⟩
    have HB := Lib.hid hb1
    go_wp2_with fail
    go_ret
    exact ⟨rfl, HB.out⟩
  · have h1' : ¬ (200 : Int) < (a.size : Int) := by omega
    by_cases h2 : 200 < b.size
    · have h2' : (200 : Int) < (b.size : Int) := by omega
      clear hT
      go_enter Tryd.func7, Tryd.ntmps7
      go_wp2_with fail
      refine CA.out.mono ?_
      rintro e w1 ⟨rfl, hb1⟩
      have HB := Lib.hid hb1
      go_wp2_with fail
      go_ret
      exact ⟨rfl, HB.out⟩
    · have h2' : ¬ (200 : Int) < (b.size : Int) := by omega
      have C1 := utf8_any a ha w
      have C2 := utf8_any b hb w
      cases va : Lib.validD a.data.toList
      · rw [va] at C1
        have HC1 := Lib.hid C1
        clear hT C1 C2 va
        go_enter Tryd.func7, Tryd.ntmps7
        go_wp2_with fail
        refine HC1.out.mono ?_
        rintro e w1 ⟨rfl, rfl⟩
        go_wp2_with fail
        refine CA.out.mono ?_
        rintro e w1 ⟨rfl, hb1⟩
        have HB := Lib.hid hb1
        go_wp2_with fail
        go_ret
        exact ⟨rfl, HB.out⟩
      · cases vb : Lib.validD b.data.toList
        · rw [va] at C1
          rw [vb] at C2
          have HC1 := Lib.hid C1
          have HC2 := Lib.hid C2
          clear hT C1 C2 va vb
          go_enter Tryd.func7, Tryd.ntmps7
          go_wp2_with fail
          refine HC1.out.mono ?_
          rintro e w1 ⟨rfl, rfl⟩
          go_wp2_with fail
          refine HC2.out.mono ?_
          rintro e w1 ⟨rfl, rfl⟩
          go_wp2_with fail
          refine CA.out.mono ?_
          rintro e w1 ⟨rfl, hb1⟩
          have HB := Lib.hid hb1
          go_wp2_with fail
          go_ret
          exact ⟨rfl, HB.out⟩
        · exact joins_ok a b (by omega) (by omega) va vb w hT
end Go.Proofs.YtahpiminhlineaaDoor
