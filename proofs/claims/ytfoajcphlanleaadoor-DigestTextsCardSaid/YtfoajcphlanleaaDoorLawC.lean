/- The walk of the statement on texts behind one another. Conditions: the bytes lie in memory; the table of the cyclic sum is laid. -/
import Derived.Test.YtfoajcphlanleaaDoorB64
namespace Go.Proofs.YtfoajcphlanleaaDoor
open Go.RowKit

theorem txt_append (l m : List Nat) : txt (l ++ m) = txt l ++ txt m := by
  unfold txt
  apply ByteArray.ext
  simp
theorem txt_size (l : List Nat) : (txt l).size = l.length := by simp [txt, ByteArray.size]

set_option maxRecDepth 100000 in
set_option maxHeartbeats 1000000 in
theorem joins_any (A B : Option Addr) (n c m d : Nat) (l b : List Nat) (hn : n = l.length) (hm : m = b.length) (hnc : n ≤ c) (hmd : m ≤ d) (w : World) (hA : Seg w A (u8s l)) (hB : Seg w B (u8s b)) (hl : ∀ x ∈ l, x < 256) (hb : ∀ x ∈ b, x < 256) (hT : Tab w) :
    Calls Tryd.prog 6 #[.slice A n c, .slice B m d] w fun e w' => e = .returned (.bool true) ∧ Below w.heap.size w w' := by
  obtain ⟨i0, hi0, hz0, hz1, hz2⟩ := info_parts info5
  have HB := Lib.hid hB
  have HL := Lib.hid (take_lt hl 200)
  have HBb := Lib.hid (take_lt hb 200)
  have HT := Lib.hid hT
  have F0 := Lib.hid (few_any A n c 200 l hn hnc (by omega) w hA)
  have F1 := Lib.hid (fun w (h : Seg w B (u8s b)) => few_any B m d 200 b hm hmd (by omega) w h)
  have hx : (l.take 200).length ≤ 200 := by rw [List.length_take]; omega
  have hy : (b.take 200).length ≤ 200 := by rw [List.length_take]; omega
  clear hA hB hl hb hn hm hT
  generalize l.take 200 = K at *
  generalize b.take 200 = X at *
  have HKX := Lib.hid (lt_append HL.out HBb.out)
  go_enter Tryd.func6, Tryd.ntmps6
  go_wp2_with fail
  refine F0.out.mono ?_; rintro e w1 ⟨rfl, k1, b1⟩
  have S1 := Lib.hid (seg_pad k1)
  have B1 := Lib.hid b1
  clear k1 b1
  go_wp2_with fail
  refine (F1.out _ (HB.out.bel B1.out)).mono ?_; rintro e w2 ⟨rfl, k2, b2⟩
  have S2 := Lib.hid (S1.out.bel b2)
  have X2 := Lib.hid (seg_pad k2)
  have B2 := Lib.hid (below_step B1.out b2)
  clear k2 b2
  go_wp2_with (at_builtin; first
    | (refine wpList_append_seg _ rfl _ _ _ rfl w2.heap.size 5 i0 _ 1 Tryd.underlying22 hi0 hz0 hz1 hz2 rfl _ 0 _ rfl (World.ownsRow_lit w2 #[] 0 (by omega) (by decide) rfl) _ K.length (K.length + 3) (u8s K) rfl (by rw [u8s_length]) (S2.out.bel ((Below.refl _ _).alloc (Nat.le_refl _) _)) (u8s_one _) (by simp only [maxLen]; omega) (by omega) (by simp only [World.size_alloc]; omega) ?_; intro v3 w3 hown3 hb3; simp only [Nat.zero_add, List.nil_append] at hown3; have O3 := Lib.hid hown3; have BB3 := Lib.hid (((Below.refl w2.heap.size w2).alloc (Nat.le_refl _) (.cells #[] 5)).trans hb3); have z3 := BB3.out.size; clear hown3 hb3)
    | (refine wpList_append_seg _ rfl _ _ _ rfl w2.heap.size 5 i0 _ 1 Tryd.underlying22 hi0 hz0 hz1 hz2 rfl v3 K.length _ rfl O3.out _ X.length (X.length + 3) (u8s X) rfl (by rw [u8s_length]) (X2.out.bel BB3.out) (u8s_one _) (by simp only [maxLen]; omega) (by omega) (by omega) ?_; intro v4 w4 hown4 hb4; rw [← u8s_append] at hown4; obtain ⟨A4, c4, rfl, hc4, s4⟩ := own_shape hown4; have Z4 := Lib.hid s4; have BB4 := Lib.hid (BB3.out.trans hb4); clear hown4 hb4 s4))
  have S4 := Lib.hid (S2.out.bel BB4.out)
  have X4 := Lib.hid (X2.out.bel BB4.out)
  have B4 := Lib.hid (below_step B2.out BB4.out)
  refine (awake_any _ (HT.out.below B4.out)).mono ?_; rintro e w5 ⟨rfl, b5⟩
  have S5 := Lib.hid (S4.out.bel b5)
  have X5 := Lib.hid (X4.out.bel b5)
  have Z5 := Lib.hid (Z4.out.bel b5)
  have B5 := Lib.hid (below_step B4.out b5)
  clear b5
  have HH := Lib.hid (show txt (hexN (K ++ X)) = txt (hexN K) ++ txt (hexN X) by rw [hexN_append, txt_append])
  have hlz : K.length + X.length = (K ++ X).length := by simp
  have HLz := Lib.hid hlz
  clear hlz
  go_wp2_with fail
  refine (hex_any A4 _ c4 (K ++ X) HLz.out (by omega) _ Z5.out HKX.out).mono ?_; rintro e w6 ⟨rfl, b6⟩
  have S6 := Lib.hid (S5.out.bel b6)
  have X6 := Lib.hid (X5.out.bel b6)
  have Z6 := Lib.hid (Z5.out.bel b6)
  have B6 := Lib.hid (below_step B5.out b6)
  clear b6
  rw [HH.out]
  go_wp2_with fail
  refine (hex_any _ _ _ K rfl (by omega) _ S6.out HL.out).mono ?_; rintro e w7 ⟨rfl, b7⟩
  have S7 := Lib.hid (S6.out.bel b7)
  have X7 := Lib.hid (X6.out.bel b7)
  have Z7 := Lib.hid (Z6.out.bel b7)
  have B7 := Lib.hid (below_step B6.out b7)
  clear b7
  go_wp2_with fail
  refine (hex_any _ _ _ X rfl (by omega) _ X7.out HBb.out).mono ?_; rintro e w8 ⟨rfl, b8⟩
  have S8 := Lib.hid (S7.out.bel b8)
  have X8 := Lib.hid (X7.out.bel b8)
  have Z8 := Lib.hid (Z7.out.bel b8)
  have B8 := Lib.hid (below_step B7.out b8)
  clear b8
  have hadd := fun w => run_string_add_sum (P := Tryd.prog) w (txt (hexN K)) (txt (hexN X)) (by rw [txt_size, txt_size, hexN_length, hexN_length]; omega)
  generalize txt (hexN K) = hk at *
  generalize txt (hexN X) = hx' at *
  go_wp2_with fail
  refine (b64_any A4 _ c4 (K ++ X) HLz.out hc4 (by omega) _ Z8.out HKX.out).mono ?_; rintro e w9 ⟨rfl, b9⟩
  have S9 := Lib.hid (S8.out.bel b9)
  have X9 := Lib.hid (X8.out.bel b9)
  have Z9 := Lib.hid (Z8.out.bel b9)
  have B9 := Lib.hid (below_step B8.out b9)
  clear b9
  have hT1 : ((txt (b64N (K ++ X))).size : Int) = ((K.length : Int) + (X.length : Int) + 2) / 3 * 4 := by
    rw [txt_size, b64N_length, List.length_append]; omega
  have HB1 := Lib.hid (b64_any A4 _ c4 (K ++ X) HLz.out hc4 (by omega) w9 Z9.out HKX.out)
  by_cases h3 : K.length % 3 = 0
  · have HT2 := Lib.hid (show txt (b64N (K ++ X)) = txt (b64N K) ++ txt (b64N X) by rw [b64N_front K X h3, txt_append])
    generalize txt (b64N (K ++ X)) = T at *
    have j1 : (K.length : Int) % 3 = 0 := by omega
    go_wp2_with fail
    refine HB1.out.mono ?_; rintro e w10 ⟨rfl, b10⟩
    have S10 := Lib.hid (S9.out.bel b10)
    have X10 := Lib.hid (X9.out.bel b10)
    have B10 := Lib.hid (below_step B9.out b10)
    clear b10
    go_wp2_with fail
    refine (b64_any _ _ _ K rfl (by omega) (by omega) _ S10.out HL.out).mono ?_; rintro e w11 ⟨rfl, b11⟩
    have X11 := Lib.hid (X10.out.bel b11)
    have B11 := Lib.hid (below_step B10.out b11)
    clear b11
    go_wp2_with fail
    refine (b64_any _ _ _ X rfl (by omega) (by omega) _ X11.out HBb.out).mono ?_; rintro e w12 ⟨rfl, b12⟩
    have B12 := Lib.hid (below_step B11.out b12)
    clear b12
    have hadd2 := fun w => run_string_add_sum (P := Tryd.prog) w (txt (b64N K)) (txt (b64N X)) (by rw [txt_size, txt_size, b64N_length, b64N_length]; omega)
    have hT3 := HT2.out
    go_wp2
    go_ret
    exact ⟨rfl, B12.out⟩
  · have j1 : ¬ (K.length : Int) % 3 = 0 := by omega
    generalize txt (b64N (K ++ X)) = T at *
    go_wp2
    go_ret
    exact ⟨rfl, B9.out⟩
end Go.Proofs.YtfoajcphlanleaaDoor
