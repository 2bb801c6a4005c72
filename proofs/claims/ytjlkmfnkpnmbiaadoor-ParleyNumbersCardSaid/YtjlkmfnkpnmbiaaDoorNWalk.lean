/- ParleyNumbers' walk. Conditions: the words lie in memory; the library's table and errors are laid. -/
import Derived.Test.YtjlkmfnkpnmbiaaDoorWhZ
import Derived.Test.YtjlkmfnkpnmbiaaDoorNHx
import Derived.Test.YtjlkmfnkpnmbiaaDoorFtT
import Derived.Test.YtjlkmfnkpnmbiaaDoorStableG
import Derived.Deep.Cut
namespace Go.Proofs.YtjlkmfnkpnmbiaaDoor
open Go.RowKit Go.Shelf

/-! ### The order of keys' texts -/
theorem digC_less {a b : Nat} (ha : a < 16) (hb : b < 16) : digC a < digC b ↔ a < b := by
  revert b; revert a; decide +kernel
theorem less_hex : ∀ (x y : List Nat), (∀ a ∈ x, a < 256) → (∀ a ∈ y, a < 256) → lessN (hexN x) (hexN y) = lessN x y
  | [], [], _, _ => rfl
  | [], b :: y, _, _ => by simp [hexN, lessN]
  | _ :: _, [], _, _ => by simp [hexN, lessN]
  | a :: x, b :: y, hx, hy => by
    have ha := hx a (by simp)
    have hb := hy b (by simp)
    have ih := less_hex x y (fun c hc => hx c (by simp [hc])) (fun c hc => hy c (by simp [hc]))
    have e1 : hexN (a :: x) = digC (a / 16) :: digC (a % 16) :: hexN x := by simp [hexN]
    have e2 : hexN (b :: y) = digC (b / 16) :: digC (b % 16) :: hexN y := by simp [hexN]
    rw [e1, e2]
    simp only [lessN, ih, digC_less (show a / 16 < 16 by omega) (show b / 16 < 16 by omega), digC_less (show b / 16 < 16 by omega) (show a / 16 < 16 by omega), digC_less (show a % 16 < 16 by omega) (show b % 16 < 16 by omega), digC_less (show b % 16 < 16 by omega) (show a % 16 < 16 by omega)]
    by_cases h1 : a / 16 < b / 16
    · rw [if_pos h1, if_pos (by omega)]
    · rw [if_neg h1]
      by_cases h2 : b / 16 < a / 16
      · rw [if_pos h2, if_neg (by omega), if_pos (by omega)]
      · rw [if_neg h2]
        by_cases h3 : a % 16 < b % 16
        · rw [if_pos h3, if_pos (by omega)]
        · rw [if_neg h3]
          by_cases h4 : b % 16 < a % 16
          · rw [if_pos h4, if_neg (by omega), if_pos (by omega)]
          · rw [if_neg h4, if_neg (by omega), if_neg (by omega)]
/-- A key's text. -/
def keyT (r : Nat) : ByteArray := txt (hexN (digs r))
theorem keyT_size (r : Nat) : (keyT r).size = 16 := by unfold keyT; rw [txt_len, hexN_length, digs_length]
theorem keyT_less {r s : Nat} (hr : r < 18446744073709551616) (hs : s < 18446744073709551616) : Op.bytesLess (keyT r).toList (keyT s).toList = decide (r < s) := by
  unfold keyT txt
  rw [ByteArray.toList_mk, ByteArray.toList_mk, less_map _ _ (hexN_lt _ (digs_lt r)) (hexN_lt _ (digs_lt s)), less_hex _ _ (digs_lt r) (digs_lt s), less_digs r s hr hs]
theorem keyhex_any (A : Option Addr) (c : Nat) (r : Nat) (w : World) (hA : Seg w A (u8s (digs r))) :
    Calls Tryd.prog 39 #[.slice A 8 c] w fun e w' => e = .returned (.string (keyT r)) ∧ Below w.heap.size w w' :=
  bhex_any A 8 c (digs r) (digs_length r).symm (by omega) w hA (digs_lt r)
theorem keyunhex_any (r : Nat) (w : World) :
    Calls Tryd.prog 41 #[.string (keyT r)] w fun e w' => ∃ A' c', e = .returned (.tuple #[.slice A' 8 c', .bool true]) ∧ Seg w' A' (u8s (digs r)) ∧ Below w.heap.size w w' := by
  refine (unhex_walk (hexN (digs r)) (hexN_lt _ (digs_lt r)) (by rw [hexN_length, digs_length]; decide) w).mono fun e w' h => ?_
  have hu := unhex_hex (digs r) (digs_lt r)
  rcases h with ⟨t, A', c', ht, he, _, hs, hb⟩ | ⟨ht, _⟩
  · rw [hu] at ht
    obtain rfl := Option.some.inj ht
    rw [digs_length] at he
    exact ⟨A', c', he, hs, hb⟩
  · rw [hu] at ht; cases ht
/-- A number sorted in is there again. -/
theorem keyback_any (A : Option Addr) (c : Nat) (x : Nat) (hx : x < 18446744073709551616) (w : World) (hA : Seg w A (u8s (digs (rankN x)))) :
    Calls Tryd.prog 26 #[.slice A 8 c] w fun e w' => ∃ y, e = .returned (.tuple #[.float .f64 y, .bool true]) ∧ y < 18446744073709551616 ∧ bitsN y = bitsN x ∧ w = w' := by
  refine (unkey_any A 8 c (digs (rankN x)) (digs_length _).symm w hA (digs_lt _)).mono fun e w' ⟨he, hw⟩ => ?_
  obtain ⟨h1, h2⟩ := unkey_key x hx
  rw [h1] at he
  exact ⟨_, he, unkeyF_lt _ (digs_lt _), h2, hw⟩
theorem sort_gen (A : Option Addr) (n c : Nat) (l : List Nat) (hn : n = l.length) (w : World) (hA : Seg w A (f64s l)) (hl : ∀ x ∈ l, x < 18446744073709551616) (h60 : n ≤ 60) :
    Calls Tryd.prog 22 #[.slice A n c] w fun e w' => ∃ B l', e = .returned (.slice B n n) ∧ l'.length = n ∧ l'.map rankN = (sortN l).map rankN ∧ (∀ x ∈ l', x < 18446744073709551616) ∧ SortedN l' ∧ Seg w' B (f64s l') ∧ Below w.heap.size w w' :=
  (sort_any A n c l hn w hA hl h60).mono fun e w' ⟨B, l', he, hp, hs, hg, hb⟩ => ⟨_, l', he, by rw [hp.length_eq, hn], ranks_one hs (sortN_sorted l) (hp.trans (sortN_perm l).symm), fun x hx => hl x (hp.mem_iff.1 hx), hs, hg, hb⟩
theorem sorted_at {l : List Nat} (h : SortedN l) {i j : Nat} (hij : i < j) (hj : j < l.length) : rankN (l[i]'(by omega)) ≤ rankN l[j] :=
  List.pairwise_iff_getElem.1 h i j (by omega) hj hij
theorem hex_one : txt (hexN [1, 175]) = ⟨#[48, 49, 97, 102]⟩ := by decide +kernel

def nwF (c : List Value) (i : Nat) (v _u : Value) (_w : World) : Prop :=
  match c[i]? with
  | some x => v = x
  | none => True
set_option maxRecDepth 100000 in
set_option maxHeartbeats 8000000 in
theorem numbers_any (A : Option Addr) (n c : Nat) (l : List Nat) (hn : n = l.length) (w : World) (hA : Seg w A (u64s l)) (hl : ∀ x ∈ l, x < 18446744073709551616) (hreach : n ≤ 1000000000000000) (hnc : n ≤ c) (hE : Errs w) (hP : Pows w) :
    Calls Tryd.prog 11 #[.slice A n c] w fun e w' => e = .returned (.bool true) ∧ Below w.heap.size w w' := by
  obtain ⟨i0, hi0, hz0, hz1, hz2⟩ := info_parts info25
  have hfb := run_frombits
  have HA := Lib.hid hA
  have HN := Lib.hid hn
  have HL := Lib.hid hl
  have HEP := Lib.hid (And.intro hE hP)
  clear hA hn hl hE hP
  have HH : Hid (∀ (w : World) (g : Nat), Seg w (some ⟨g, 0, none⟩) (u8s [1, 175]) → Calls Tryd.prog 39 #[.slice (some ⟨g, 0, none⟩) 2 2] w fun e w' => e = .returned (.string ⟨#[48, 49, 97, 102]⟩) ∧ Below w.heap.size w w') := Lib.hid fun w g hs => by
    have := bhex_any (some ⟨g, 0, none⟩) 2 2 [1, 175] rfl (by omega) w hs (by decide)
    rw [hex_one] at this
    exact this
  have hs2 : ∀ (w : World), Seg (w.alloc (.cells #[.int .u8 1, .int .u8 175] 5)) (some ⟨w.heap.size, 0, none⟩) (u8s [1, 175]) := fun w => seg_two w _ _ _
  have HS2 := Lib.hid hs2
  clear hs2
  go_enter Tryd.func11, Tryd.ntmps11
  go_wp2_with fail
  refine (show_half_bel w).mono ?_
  rintro e wa ⟨rfl, ba⟩
  have BA := Lib.hid ba
  clear ba
  go_wp2_with fail
  refine (HH.out _ _ (HS2.out wa)).mono ?_
  rintro e wb ⟨rfl, bb⟩
  have BB := Lib.hid (below_step BA.out (((Below.refl wa.heap.size wa).alloc (Nat.le_refl _) (.cells #[.int .u8 1, .int .u8 175] 5)).trans (bb.mono (by simp only [World.size_alloc]; omega))))
  clear bb BA HH HS2
  go_wp2_with fail
  have hstart := World.ownsRow_lit (w := wb) (base := wb.heap.size) (e := 25) (size := 1) #[] 0 (Nat.le_refl _) (by decide) rfl
  go_loopw [3, 4] (fun v i wr => ∃ k : Nat, k ≤ n ∧ k ≤ 40 ∧ i = .int .i64 k ∧ wr.ownsRow wb.heap.size 25 1 v k (f64s (l.take k)) ∧ Below wb.heap.size wb wr) (fun _ i _ => 40 - (intOf i).toNat)
  case atStart => exact ⟨0, by omega, by omega, rfl, hstart, (Below.refl _ _).alloc (Nat.le_refl _) _⟩
  case round =>
    obtain ⟨k, hk, hk60, rfl, hown, hb⟩ := hrel
    have HW := Lib.hid hb
    have HO := Lib.hid hown
    have hsz := hb.size
    clear hb hown hstart
    by_cases hlt : k < n ∧ k < 40
    · obtain ⟨hl1, hl2⟩ := hlt
      have hlt' : k < l.length := by rw [← HN.out]; exact hl1
      obtain ⟨b, off, rfl, hbl, _, hc⟩ := (HA.out.bel (below_step BB.out HW.out)).pick (k := k) (by rw [u64s_length]; exact hlt')
      rw [u64s_get l k hlt'] at hc
      have hs : f64s (l.take (k + 1)) = f64s (l.take k) ++ [.float .f64 l[k]] := by
        unfold f64s; rw [List.take_succ_eq_append_getElem hlt', List.map_append]; rfl
      obtain ⟨X, hX⟩ : ∃ X, X = l[k] := ⟨_, rfl⟩
      rw [← hX] at hc hs
      have HS := Lib.hid hs
      clear hs hX
      go_wp2_with (first
        | (at_builtin; refine wpList_append_seg _ rfl _ _ _ rfl wb.heap.size 25 i0 _ 8 Tryd.underlying37 hi0 hz0 hz1 hz2 rfl _ k _ rfl (own_alloc HO.out _) (some ⟨wr.heap.size, 0, none⟩) 1 1 [.float .f64 X] rfl rfl (seg_new _ _ _) (by simp [Value.oneCell']) (by simp only [maxLen]; omega) (by omega) (by simp only [World.size_alloc]; omega) ?_; intro v' w2 hown1 hb1)
        | fail)
      go_roundw
      case rel => exact ⟨k + 1, by omega, by omega, by go_num, by rw [HS.out]; exact hown1, (HW.out.alloc hsz _).trans hb1⟩
      case measure => simp [intOf]; omega
    · obtain ⟨A1, c1, rfl, hc1, hS⟩ := own_shape HO.out
      have HKL := Lib.hid (show k = (l.take k).length by rw [List.length_take, ← HN.out]; omega)
      have HTL := Lib.hid (show ∀ x ∈ l.take k, x < 18446744073709551616 from fun x hx => HL.out x (List.mem_of_mem_take hx))
      have HAT := Lib.hid (show Seg w A (u64s (l.take k)) by rw [← u64s_take]; exact HA.out.take _)
      have hway : (k < n ∧ ¬ k < 40) ∨ ¬ k < n := by omega
      have hkc : k ≤ c := by omega
      have SI := Lib.hid hS
      have BI := Lib.hid (below_step BB.out HW.out)
      obtain ⟨t, ht⟩ : ∃ t, t = l.take k := ⟨_, rfl⟩
      rw [← ht] at HKL HTL HAT SI
      clear hlt hS HO HW hsz ht HA HL HN
      have hm60 : k ≤ 60 := by omega
      obtain ⟨m, hm⟩ : ∃ m, m = k := ⟨_, rfl⟩
      subst hm
      rcases hway with ⟨hw1, hw2⟩ | hw1
      all_goals
        go_wp2_with fail
        refine (sort_gen A1 m c1 t HKL.out wr SI.out HTL.out hm60).mono ?_
        rintro e ws ⟨B, s, rfl, hsl, hsr, hslt, hso, hsg, hbs⟩
        have SB := Lib.hid hsg
        have HS := Lib.hid (And.intro hsl (And.intro hsr (And.intro hslt hso)))
        have SI2 := Lib.hid (SI.out.bel hbs)
        have BS := Lib.hid (below_step BI.out hbs)
        clear hsl hsr hslt hso hsg hbs
        go_wp2_with fail
        go_loopw [44] (fun iv wr2 => ∃ i : Nat, iv = .int .i64 (i : Int) ∧ i ≤ m ∧ Below ws.heap.size ws wr2) (fun iv _ => m - (intOf iv).toNat)
        case atStart => exact ⟨0, rfl, by omega, Below.refl _ _⟩
        case round =>
          obtain ⟨i, rfl, him, hb2⟩ := hrel
          have B2 := Lib.hid hb2
          clear hb2
          by_cases hi : i < m
          · have hil : i < s.length := by rw [HS.out.1]; exact hi
            have SBw := SB.out.bel B2.out
            obtain ⟨bb, off, rfl, _, _, hcx⟩ := SBw.pick (k := i) (by rw [f64s_length]; exact hil)
            rw [f64s_get s i hil] at hcx
            have HXL := Lib.hid (show s[i] < 18446744073709551616 from HS.out.2.2.1 _ (List.getElem_mem hil))
            have HPR : Hid (∀ (s2 : List Nat) (q : Nat), s2.length = m → s2.map rankN = (sortN t).map rankN → (hq : q < s2.length) → q + 1 = i → rankN s2[q] ≤ rankN s[i]) := Lib.hid (by
              intro s2 q h1 h2 hq hqi
              have hq' : q < s.length := by omega
              rw [rank_at (h2.trans HS.out.2.1.symm) hq hq']
              exact sorted_at HS.out.2.2.2 (by omega) hil)
            obtain ⟨x, hx⟩ : ∃ x, x = s[i] := ⟨_, rfl⟩
            rw [← hx] at hcx HXL HPR
            clear hx SBw hil
            have hwsz := B2.out.size
            go_wp2_with fail
            refine (key_bel x HXL.out _).mono ?_
            rintro e w1 ⟨g1, rfl, s1, b1⟩
            have S1 := Lib.hid s1
            have B3 := Lib.hid (below_step B2.out b1)
            clear s1 b1 B2
            go_wp2_with fail
            refine (keyhex_any _ 8 (rankN x) _ S1.out).mono ?_
            rintro e w2 ⟨rfl, b2⟩
            have B4 := Lib.hid (below_step B3.out b2)
            clear b2 B3 S1
            obtain ⟨K, hK⟩ : ∃ K, K = keyT (rankN x) := ⟨_, rfl⟩
            have hK16 := keyT_size (rankN x)
            have CU := Lib.hid (keyunhex_any (rankN x) w2)
            rw [← hK] at hK16 CU ⊢
            have HK := Lib.hid hK
            clear hK
            go_wp2_with fail
            refine CU.out.mono ?_
            rintro e w3 ⟨A3, c3, rfl, s3, b3⟩
            have S3 := Lib.hid s3
            have B5 := Lib.hid (below_step B4.out b3)
            clear s3 b3 B4 CU
            go_wp2_with fail
            refine (keyback_any A3 c3 x HXL.out _ S3.out).mono ?_
            rintro e w' ⟨y, rfl, hyl, hyb, rfl⟩
            have CX := Lib.hid (bits_any x HXL.out)
            have CY := Lib.hid (bits_any y hyl)
            rw [hyb] at CY
            clear hyl hyb
            cases i with
            | zero =>
              go_wp2_with (first
                | (go_at_call 16; (with_reducible refine (CX.out _).mono ?_); rintro e w' ⟨rfl, rfl⟩)
                | (go_at_call 16; (with_reducible refine (CY.out _).mono ?_); rintro e w' ⟨rfl, rfl⟩))
              exact ⟨⟨1, by go_num, by omega, B5.out⟩, by simp [intOf]; omega⟩
            | succ q =>
              have CS := Lib.hid (sort_gen A1 m c1 t HKL.out w3 (SI2.out.bel B5.out) HTL.out hm60)
              have hq1 : (0 : Int) < ((q + 1 : Nat) : Int) := by omega
              have hqm : (q : Int) < (m : Int) := by omega
              go_wp2_with (first
                | (go_at_call 16; (with_reducible refine (CX.out _).mono ?_); rintro e w' ⟨rfl, rfl⟩)
                | (go_at_call 16; (with_reducible refine (CY.out _).mono ?_); rintro e w' ⟨rfl, rfl⟩))
              refine CS.out.mono ?_
              rintro e w4 ⟨B4', s4, rfl, h41, h42, h43, _, hsg4, hb4⟩
              have hq4 : q < s4.length := by omega
              obtain ⟨bb4, off4, rfl, _, _, hc4⟩ := hsg4.pick (k := q) (by rw [f64s_length]; exact hq4)
              rw [f64s_get s4 q hq4] at hc4
              have HX2 := Lib.hid (show s4[q] < 18446744073709551616 from h43 _ (List.getElem_mem hq4))
              have HR2 := Lib.hid (HPR.out s4 q h41 h42 hq4 rfl)
              obtain ⟨x2, hx2⟩ : ∃ x2, x2 = s4[q] := ⟨_, rfl⟩
              rw [← hx2] at hc4 HX2 HR2
              have B6 := Lib.hid (below_step B5.out hb4)
              clear hx2 hq4 hsg4 hb4 h41 h42 h43 B5 CS
              go_wp2_with fail
              refine (key_bel x2 HX2.out _).mono ?_
              rintro e w5 ⟨g5, rfl, s5, b5⟩
              have S5 := Lib.hid s5
              have B7 := Lib.hid (below_step B6.out b5)
              clear s5 b5 B6 hc4
              go_wp2_with fail
              refine (keyhex_any _ 8 (rankN x2) _ S5.out).mono ?_
              rintro e w6 ⟨rfl, b6⟩
              have B8 := Lib.hid (below_step B7.out b6)
              clear b6 B7 S5
              have hle : Op.bytesLess (keyT (rankN x2)).toList K.toList = true ∨ keyT (rankN x2) = K ∧ Op.bytesLess (keyT (rankN x2)).toList K.toList = false := by
                rw [HK.out, keyT_less (rankN_lt _ HX2.out) (rankN_lt _ HXL.out)]
                rcases Nat.lt_or_ge (rankN x2) (rankN x) with h | h
                · exact Or.inl (decide_eq_true h)
                · have : rankN x2 = rankN x := Nat.le_antisymm HR2.out h
                  exact Or.inr ⟨by rw [this], decide_eq_false (by omega)⟩
              obtain ⟨K2, hK2⟩ : ∃ K2, K2 = keyT (rankN x2) := ⟨_, rfl⟩
              rw [← hK2] at hle ⊢
              clear hK2
              rcases hle with hle | ⟨hle1, hle⟩
              · go_wp2_with fail
                exact ⟨⟨q + 2, by go_num, by omega, B8.out⟩, by simp [intOf]; omega⟩
              · have hkk : (K2.toList == K.toList) = true := by rw [hle1]; simp
                clear hle1
                go_wp2_with fail
                exact ⟨⟨q + 2, by go_num, by omega, B8.out⟩, by simp [intOf]; omega⟩
          · obtain rfl : i = m := by omega
            have CT := Lib.hid (total_any' A1 i c1 t HKL.out wr (SI2.out.bel B2.out) HTL.out hm60)
            go_wp2_with fail
            refine CT.out.mono ?_
            rintro e w1 ⟨b, rfl, hbl, hbe, b1⟩
            have HBL := Lib.hid (And.intro hbl hbe)
            have B3 := Lib.hid (below_step BS.out (below_step B2.out b1))
            clear b1 hbl hbe CT
            have CS := Lib.hid (show_any b HBL.out.1 w1 (HEP.out.2.bel B3.out))
            go_wp2_with fail
            refine CS.out.mono ?_
            rintro e w2 ⟨rfl, b2⟩
            have B4 := Lib.hid (below_step B3.out b2)
            clear b2 CS
            have CR0 := Lib.hid (read_any (showS b) (showS_size HBL.out.1) w2 (HEP.out.1.bel B4.out) (HEP.out.2.bel B4.out))
            go_wp2_with fail
            refine CR0.out.mono ?_
            rintro e W8 ⟨y, ok, rfl, hy, b3⟩
            have B8 := Lib.hid (below_step B4.out b3)
            obtain ⟨rfl, hyb⟩ := hy.2.2.2 b HBL.out.1 rfl
            have HY := Lib.hid (And.intro hy.1 hyb)
            clear hy hyb b3 CR0
            obtain ⟨KB, hKB⟩ : ∃ KB, KB = bitsN b := ⟨_, rfl⟩
            have CBB := Lib.hid (fun w' => bits_any b HBL.out.1 w')
            have CBY := Lib.hid (fun w' => bits_any y HY.out.1 w')
            rw [HY.out.2] at CBY
            rw [← hKB] at CBB CBY
            have HAT8 := Lib.hid (HAT.out.bel B8.out)
            have CR : Hid (∀ W, Below W8.heap.size W8 W → Calls Tryd.prog 31 #[.slice A i c] W fun e w' => e = .returned (.int .u64 KB) ∧ Below W.heap.size W w') := Lib.hid fun W hW => by
              have := rtotal_any A i c t HKL.out W (HAT8.out.bel hW) HTL.out hm60
              rw [← HBL.out.2, ← hKB] at this
              exact this
            have hkb : ((KB : Int) == (KB : Int)) = true := by simp
            clear hKB HAT8 HAT
            go_upto_region 21 with fail
            refine wp_region_guarded [some 103, some 104, some 105, some 106, some 107, some 108, some 109, some 110, some 111, some 112, some 113, some 114, some 115, some 116, some 117, some 118, some 119, some 120, some 2] (fun _ => 0) (nwF [.bool true, .bool true, .float .f64 y, .int .u64 (KB : Int), .float .f64 b, .int .u64 (KB : Int), .bool true, .bool true, .bool true, .float .f64 b, .int .u64 (KB : Int), .slice A n c, .slice A1 i c1, .int .i64 (i : Int), .slice A i c, .int .u64 (KB : Int), .bool true, .bool true, .bool true]) (fun w' => Below W8.heap.size W8 w') (by kernel_rfl) (bel_drew (Below.refl _ _)) rfl (by kernel_rfl) (by kernel_rfl) (by kernel_rfl) (fun T hT => ?_)
            simp only [List.filterMap_cons, List.filterMap_nil, id, putsS, Act.put, List.setIfInBounds_toArray, List.set_cons_zero, List.set_cons_succ] at hT
            subst hT
            refine ⟨⟨?_, ?_, ?_, ?_, ?_, ?_, ?_, ?_, ?_, ?_, ?_, ?_, ?_, ?_, ?_, ?_, ?_, ?_, ?_, trivial⟩, ?_⟩
            · refine StepA.guarded rfl ?_
              intro f w1 hG hF K hK
              clear hF
              dsimp only at hK ⊢
              go_simp
              exact hK.out _ _ hG rfl (fun _ _ _ h => h)
            · refine StepA.guarded rfl ?_
              intro f w1 hG hF K hK
              have d0 : f 103 = .bool true := hF 0 (by kernel_rfl)
              clear hF
              dsimp only at hK ⊢
              generalize f 103 = v103 at *
              subst d0
              go_simp
              exact hK.out _ _ hG rfl (fun _ _ _ h => h)
            · intro f w1 hG hF K hK
              have d1 : f 104 = .bool true := hF 1 (by kernel_rfl)
              clear hF
              rw [if_pos (by rw [wanted_val (g := 1) (d := 104) (b := true) (c := true) rfl (by kernel_rfl) (show some (f 104) = some (.bool true) from congrArg some d1)]; rfl)]
              dsimp only at hK ⊢
              generalize f 104 = v104 at *
              subst d1
              go_simp
              exact hK.out _ _ hG rfl (fun _ _ _ h => h)
            · intro f w1 hG hF K hK
              have d1 : f 104 = .bool true := hF 1 (by kernel_rfl)
              have d2 : f 105 = .float .f64 y := hF 2 (by kernel_rfl)
              clear hF
              rw [if_pos (by rw [wanted_val (g := 1) (d := 104) (b := true) (c := true) rfl (by kernel_rfl) (show some (f 104) = some (.bool true) from congrArg some d1)]; rfl)]
              dsimp only at hK ⊢
              generalize f 104 = v104 at *
              generalize f 105 = v105 at *
              subst d1
              subst d2
              go_simp
              refine (CBY.out w1).mono ?_
              rintro e w20 ⟨rfl, rfl⟩
              exact hK.out _ _ hG rfl (fun _ _ _ h => h)
            · intro f w1 hG hF K hK
              have d1 : f 104 = .bool true := hF 1 (by kernel_rfl)
              clear hF
              rw [if_pos (by rw [wanted_val (g := 1) (d := 104) (b := true) (c := true) rfl (by kernel_rfl) (show some (f 104) = some (.bool true) from congrArg some d1)]; rfl)]
              dsimp only at hK ⊢
              generalize f 104 = v104 at *
              subst d1
              go_simp
              exact hK.out _ _ hG rfl (fun _ _ _ h => h)
            · intro f w1 hG hF K hK
              have d1 : f 104 = .bool true := hF 1 (by kernel_rfl)
              have d4 : f 107 = .float .f64 b := hF 4 (by kernel_rfl)
              clear hF
              rw [if_pos (by rw [wanted_val (g := 1) (d := 104) (b := true) (c := true) rfl (by kernel_rfl) (show some (f 104) = some (.bool true) from congrArg some d1)]; rfl)]
              dsimp only at hK ⊢
              generalize f 104 = v104 at *
              generalize f 107 = v107 at *
              subst d1
              subst d4
              go_simp
              refine (CBB.out w1).mono ?_
              rintro e w20 ⟨rfl, rfl⟩
              exact hK.out _ _ hG rfl (fun _ _ _ h => h)
            · intro f w1 hG hF K hK
              have d1 : f 104 = .bool true := hF 1 (by kernel_rfl)
              have d3 : f 106 = .int .u64 (KB : Int) := hF 3 (by kernel_rfl)
              have d5 : f 108 = .int .u64 (KB : Int) := hF 5 (by kernel_rfl)
              clear hF
              rw [if_pos (by rw [wanted_val (g := 1) (d := 104) (b := true) (c := true) rfl (by kernel_rfl) (show some (f 104) = some (.bool true) from congrArg some d1)]; rfl)]
              dsimp only at hK ⊢
              generalize f 104 = v104 at *
              generalize f 106 = v106 at *
              generalize f 108 = v108 at *
              subst d1
              subst d3
              subst d5
              go_simp
              exact hK.out _ _ hG rfl (fun _ _ _ h => h)
            · refine StepA.guarded rfl ?_
              intro f w1 hG hF K hK
              have d1 : f 104 = .bool true := hF 1 (by kernel_rfl)
              have d6 : f 109 = .bool true := hF 6 (by kernel_rfl)
              clear hF
              dsimp only at hK ⊢
              generalize f 104 = v104 at *
              generalize f 109 = v109 at *
              subst d1
              subst d6
              go_simp
              exact hK.out _ _ hG rfl (fun _ _ _ h => h)
            · refine StepA.guarded rfl ?_
              intro f w1 hG hF K hK
              have d7 : f 110 = .bool true := hF 7 (by kernel_rfl)
              clear hF
              dsimp only at hK ⊢
              generalize f 110 = v110 at *
              subst d7
              go_simp
              exact hK.out _ _ hG rfl (fun _ _ _ h => h)
            · intro f w1 hG hF K hK
              have d8 : f 111 = .bool true := hF 8 (by kernel_rfl)
              clear hF
              rw [if_pos (by rw [wanted_val (g := 8) (d := 111) (b := true) (c := true) rfl (by kernel_rfl) (show some (f 111) = some (.bool true) from congrArg some d8)]; rfl)]
              dsimp only at hK ⊢
              generalize f 111 = v111 at *
              subst d8
              go_simp
              exact hK.out _ _ hG rfl (fun _ _ _ h => h)
            · intro f w1 hG hF K hK
              have d8 : f 111 = .bool true := hF 8 (by kernel_rfl)
              have d9 : f 112 = .float .f64 b := hF 9 (by kernel_rfl)
              clear hF
              rw [if_pos (by rw [wanted_val (g := 8) (d := 111) (b := true) (c := true) rfl (by kernel_rfl) (show some (f 111) = some (.bool true) from congrArg some d8)]; rfl)]
              dsimp only at hK ⊢
              generalize f 111 = v111 at *
              generalize f 112 = v112 at *
              subst d8
              subst d9
              go_simp
              refine (CBB.out w1).mono ?_
              rintro e w20 ⟨rfl, rfl⟩
              exact hK.out _ _ hG rfl (fun _ _ _ h => h)
            · intro f w1 hG hF K hK
              have d8 : f 111 = .bool true := hF 8 (by kernel_rfl)
              clear hF
              rw [if_pos (by rw [wanted_val (g := 8) (d := 111) (b := true) (c := true) rfl (by kernel_rfl) (show some (f 111) = some (.bool true) from congrArg some d8)]; rfl)]
              dsimp only at hK ⊢
              generalize f 111 = v111 at *
              subst d8
              go_simp
              exact hK.out _ _ hG rfl (fun _ _ _ h => h)
            · intro f w1 hG hF K hK
              have d8 : f 111 = .bool true := hF 8 (by kernel_rfl)
              clear hF
              rw [if_pos (by rw [wanted_val (g := 8) (d := 111) (b := true) (c := true) rfl (by kernel_rfl) (show some (f 111) = some (.bool true) from congrArg some d8)]; rfl)]
              dsimp only at hK ⊢
              generalize f 111 = v111 at *
              subst d8
              go_simp
              exact hK.out _ _ hG rfl (fun _ _ _ h => h)
            · intro f w1 hG hF K hK
              have d8 : f 111 = .bool true := hF 8 (by kernel_rfl)
              have d12 : f 115 = .slice A1 i c1 := hF 12 (by kernel_rfl)
              clear hF
              rw [if_pos (by rw [wanted_val (g := 8) (d := 111) (b := true) (c := true) rfl (by kernel_rfl) (show some (f 111) = some (.bool true) from congrArg some d8)]; rfl)]
              dsimp only at hK ⊢
              generalize f 111 = v111 at *
              generalize f 115 = v115 at *
              subst d8
              subst d12
              go_simp
              exact hK.out _ _ hG rfl (fun _ _ _ h => h)
            · intro f w1 hG hF K hK
              have d8 : f 111 = .bool true := hF 8 (by kernel_rfl)
              have d11 : f 114 = .slice A n c := hF 11 (by kernel_rfl)
              have d13 : f 116 = .int .i64 (i : Int) := hF 13 (by kernel_rfl)
              clear hF
              rw [if_pos (by rw [wanted_val (g := 8) (d := 111) (b := true) (c := true) rfl (by kernel_rfl) (show some (f 111) = some (.bool true) from congrArg some d8)]; rfl)]
              dsimp only at hK ⊢
              generalize f 111 = v111 at *
              generalize f 114 = v114 at *
              generalize f 116 = v116 at *
              subst d8
              subst d11
              subst d13
              go_simp
              exact hK.out _ _ hG rfl (fun _ _ _ h => h)
            · intro f w1 hG hF K hK
              have d8 : f 111 = .bool true := hF 8 (by kernel_rfl)
              have d14 : f 117 = .slice A i c := hF 14 (by kernel_rfl)
              clear hF
              rw [if_pos (by rw [wanted_val (g := 8) (d := 111) (b := true) (c := true) rfl (by kernel_rfl) (show some (f 111) = some (.bool true) from congrArg some d8)]; rfl)]
              dsimp only at hK ⊢
              generalize f 111 = v111 at *
              generalize f 117 = v117 at *
              subst d8
              subst d14
              go_simp
              refine (CR.out _ hG).mono ?_
              rintro e w20 ⟨rfl, hb20⟩
              exact hK.out _ _ (hG.trans (hb20.mono hG.size)) rfl (fun _ _ _ h => h)
            · intro f w1 hG hF K hK
              have d8 : f 111 = .bool true := hF 8 (by kernel_rfl)
              have d10 : f 113 = .int .u64 (KB : Int) := hF 10 (by kernel_rfl)
              have d15 : f 118 = .int .u64 (KB : Int) := hF 15 (by kernel_rfl)
              clear hF
              rw [if_pos (by rw [wanted_val (g := 8) (d := 111) (b := true) (c := true) rfl (by kernel_rfl) (show some (f 111) = some (.bool true) from congrArg some d8)]; rfl)]
              dsimp only at hK ⊢
              generalize f 111 = v111 at *
              generalize f 113 = v113 at *
              generalize f 118 = v118 at *
              subst d8
              subst d10
              subst d15
              go_simp
              exact hK.out _ _ hG rfl (fun _ _ _ h => h)
            · refine StepA.guarded rfl ?_
              intro f w1 hG hF K hK
              have d8 : f 111 = .bool true := hF 8 (by kernel_rfl)
              have d16 : f 119 = .bool true := hF 16 (by kernel_rfl)
              clear hF
              dsimp only at hK ⊢
              generalize f 111 = v111 at *
              generalize f 119 = v119 at *
              subst d8
              subst d16
              go_simp
              exact hK.out _ _ hG rfl (fun _ _ _ h => h)
            · refine StepA.guarded rfl ?_
              intro f w1 hG hF K hK
              have d17 : f 120 = .bool true := hF 17 (by kernel_rfl)
              clear hF
              dsimp only at hK ⊢
              generalize f 120 = v120 at *
              subst d17
              go_simp
              exact hK.out _ _ hG rfl (fun _ _ _ h => h)
            · intro f w20 hG hF
              have e2 : f 2 = .bool true := hF 18 (by decide)
              have H1 := Lib.hid (below_step B8.out hG)
              clear hF hG
              dsimp only
              generalize f 103 = v103
              generalize f 104 = v104
              generalize f 105 = v105
              generalize f 106 = v106
              generalize f 107 = v107
              generalize f 108 = v108
              generalize f 109 = v109
              generalize f 110 = v110
              generalize f 111 = v111
              generalize f 112 = v112
              generalize f 113 = v113
              generalize f 114 = v114
              generalize f 115 = v115
              generalize f 116 = v116
              generalize f 117 = v117
              generalize f 118 = v118
              generalize f 119 = v119
              generalize f 120 = v120
              generalize f 2 = v2 at *
              subst e2
              go_wp2_with fail
              go_ret
              exact ⟨rfl, H1.out⟩
end Go.Proofs.YtjlkmfnkpnmbiaaDoor
