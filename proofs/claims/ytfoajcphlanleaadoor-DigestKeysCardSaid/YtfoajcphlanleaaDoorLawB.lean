/- The walk of the statement on keys of the keyed sum. Conditions: the bytes lie in memory; the table of the cyclic sum is laid. -/
import Derived.Test.YtfoajcphlanleaaDoorZeros
namespace Go.Proofs.YtfoajcphlanleaaDoor
open Go.RowKit

theorem mac_long (l b : List Nat) (h : 64 < l.length) : macN (shaN l) b = macN l b := by
  have e1 : keyN l = shaN l := by unfold keyN; rw [if_pos h]
  have e2 : keyN (shaN l) = shaN l := by unfold keyN; rw [if_neg (by rw [shaN_length]; decide)]
  unfold macN
  rw [e1, e2]
theorem pad_zeros (l : List Nat) (k pad : Nat) : padN (l ++ List.replicate k 0) pad = padN l pad := by
  unfold padN
  apply List.map_congr_left
  intro i _
  congr 1
  by_cases h : i < l.length
  · simp [List.getD, List.getElem?_append_left h]
  · simp only [List.getD, List.getElem?_append_right (by omega : l.length ≤ i), List.getElem?_eq_none (by omega : l.length ≤ i), List.getElem?_replicate]
    split <;> rfl
theorem mac_short (l b : List Nat) (h : ¬ 64 < l.length) : macN (l ++ List.replicate (64 - l.length) 0) b = macN l b := by
  have e1 : keyN l = l := by unfold keyN; rw [if_neg h]
  have e2 : keyN (l ++ List.replicate (64 - l.length) 0) = l ++ List.replicate (64 - l.length) 0 := by
    unfold keyN; rw [if_neg (by simp; omega)]
  unfold macN
  rw [e1, e2, pad_zeros, pad_zeros]

set_option maxRecDepth 100000 in
set_option maxHeartbeats 1000000 in
theorem dkeys_any (A B : Option Addr) (n c m d : Nat) (l b : List Nat) (hn : n = l.length) (hm : m = b.length) (hnc : n ≤ c) (hmd : m ≤ d) (w : World) (hA : Seg w A (u8s l)) (hB : Seg w B (u8s b)) (hl : ∀ x ∈ l, x < 256) (hb : ∀ x ∈ b, x < 256) (hT : Tab w) :
    Calls Tryd.prog 7 #[.slice A n c, .slice B m d] w fun e w' => e = .returned (.bool true) ∧ Below w.heap.size w w' := by
  obtain ⟨i0, hi0, hz0, hz1, hz2⟩ := info_parts info5
  have HB := Lib.hid hB
  have HL := Lib.hid (take_lt hl 200)
  have HBb := Lib.hid (take_lt hb 200)
  have HT := Lib.hid hT
  have F0 := Lib.hid (few_any A n c 200 l hn hnc (by omega) w hA)
  have F1 := Lib.hid (fun w (h : Seg w B (u8s b)) => few_any B m d 200 b hm hmd (by omega) w h)
  have hx : (l.take 200).length ≤ 200 := by rw [List.length_take]; omega
  have hy : (b.take 200).length ≤ 200 := by rw [List.length_take]; omega
  clear hA hB hl hb hn hm hT
  generalize l.take 200 = K at *
  generalize b.take 200 = X at *
  go_enter Tryd.func7, Tryd.ntmps7
  go_wp2_with fail
  refine F0.out.mono ?_; rintro e w1 ⟨rfl, k1, b1⟩
  have S1 := Lib.hid (seg_pad k1)
  have B1 := Lib.hid b1
  clear k1 b1
  go_wp2_with fail
  refine (F1.out _ (HB.out.bel B1.out)).mono ?_; rintro e w2 ⟨rfl, k2, b2⟩
  have S2 := Lib.hid (S1.out.bel b2)
  have X2 := Lib.hid (seg_pad k2)
  have B2 := Lib.hid (below_step B1.out b2)
  clear k2 b2
  go_wp2_with fail
  refine (mac_any _ _ _ _ _ _ K X rfl rfl (by omega) (by omega) (by omega) (by omega) _ S2.out X2.out HL.out HBb.out).mono ?_; rintro e w3 ⟨A3, c3, rfl, hc3, s3, b3⟩
  have S3 := Lib.hid (S2.out.bel b3)
  have X3 := Lib.hid (X2.out.bel b3)
  have M3 := Lib.hid s3
  have B3 := Lib.hid (below_step B2.out b3)
  clear s3 b3
  by_cases hlt : 64 < K.length
  · have i1 : (64 : Int) < (K.length : Int) := by omega
    have HE := Lib.hid (mac_long K X hlt)
    go_wp2_with fail
    refine (awake_any _ (HT.out.below B3.out)).mono ?_; rintro e w4 ⟨rfl, b4⟩
    have S4 := Lib.hid (S3.out.bel b4)
    have X4 := Lib.hid (X3.out.bel b4)
    have M4 := Lib.hid (M3.out.bel b4)
    have B4 := Lib.hid (below_step B3.out b4)
    clear b4
    go_wp2_with fail
    refine (sha_any _ _ _ K rfl (by omega) (by omega) _ S4.out HL.out).mono ?_; rintro e w5 ⟨A5, c5, rfl, hc5, s5, b5⟩
    have K5 := Lib.hid s5
    have X5 := Lib.hid (X4.out.bel b5)
    have M5 := Lib.hid (M4.out.bel b5)
    have B5 := Lib.hid (below_step B4.out b5)
    clear s5 b5
    go_wp2_with fail
    refine (mac_any _ _ _ _ _ _ (shaN K) X rfl rfl hc5 (by omega) (by rw [shaN_length]; omega) (by omega) _ K5.out X5.out (shaN_lt K) HBb.out).mono ?_; rintro e w6 ⟨A6, c6, rfl, hc6, s6, b6⟩
    have M6 := Lib.hid (M5.out.bel b6)
    rw [HE.out] at s6
    have N6 := Lib.hid s6
    have B6 := Lib.hid (below_step B5.out b6)
    clear s6 b6
    go_wp2_with fail
    refine (same_u8 _ _ _ _ _ _ (macN K X) (macN K X) (shaN_length _).symm (shaN_length _).symm _ M6.out N6.out (by omega) (by omega)).mono ?_; rintro e w7 ⟨rfl, b7⟩
    have B7 := Lib.hid (below_step B6.out b7)
    clear b7
    rw [show decide (macN K X = macN K X) = true by simp]
    go_wp2
    go_ret
    exact ⟨rfl, B7.out⟩
  · have i1 : ¬ (64 : Int) < (K.length : Int) := by omega
    have HE := Lib.hid (mac_short K X hlt)
    go_wp2_with fail
    refine (awake_any _ (HT.out.below B3.out)).mono ?_; rintro e w4 ⟨rfl, b4⟩
    have S4 := Lib.hid (S3.out.bel b4)
    have X4 := Lib.hid (X3.out.bel b4)
    have M4 := Lib.hid (M3.out.bel b4)
    have B4 := Lib.hid (below_step B3.out b4)
    clear b4
    go_wp2_with (at_builtin; first
      | (refine wpList_append_seg' _ rfl _ _ _ rfl w4.heap.size 5 i0 _ 1 Tryd.underlying22 hi0 hz0 hz1 hz2 rfl _ 0 _ rfl (World.ownsRow_lit w4 #[] 0 (by omega) (by decide) rfl) _ K.length (K.length + 3) (u8s K) rfl (by rw [u8s_length]) (S4.out.bel ((Below.refl _ _).alloc (Nat.le_refl _) _)) (u8s_one _) (by simp only [maxLen]; omega) (by omega) (by simp only [World.size_alloc]; omega) ?_; intro v5 w5 hown5 hb5; simp only [Nat.zero_add, List.nil_append] at hown5; have O5 := Lib.hid hown5; have BB5 := Lib.hid (((Below.refl w4.heap.size w4).alloc (Nat.le_refl _) (.cells #[] 5)).trans hb5); clear hown5 hb5)
      | (refine wpList_append_zeros _ rfl _ _ _ _ rfl w4.heap.size 5 i0 _ .i64 Tryd.underlying22 Tryd.underlying3 hi0 hz0 hz1 hz2 rfl rfl v5 K.length _ rfl O5.out (64 - K.length) _ rfl (congrArg (Value.int .i64) (by omega)) (by omega) (by omega) BB5.out.size ?_; intro v6 w6 hown6 hb6; obtain ⟨A6, c6, rfl, hc6, s6⟩ := own_shape hown6; have S6 := Lib.hid s6; have BB6 := Lib.hid (BB5.out.trans hb6); clear hown6 hb6 s6))
    have X6 := Lib.hid (X4.out.bel BB6.out)
    have M6 := Lib.hid (M4.out.bel BB6.out)
    have B6 := Lib.hid (below_step B4.out BB6.out)
    have S7 := Lib.hid (show Seg w6 A6 (u8s (K ++ List.replicate (64 - K.length) 0)) by
      have := S6.out
      rw [show u8s K ++ List.replicate (64 - K.length) (Value.int .u8 0) = u8s (K ++ List.replicate (64 - K.length) 0) by simp [u8s]] at this
      exact this)
    refine (mac_any _ _ _ _ _ _ (K ++ List.replicate (64 - K.length) 0) X (by simp) rfl hc6 (by omega) (by omega) (by omega) _ S7.out X6.out (lt_append HL.out (fun x hx => by rw [List.eq_of_mem_replicate hx]; omega)) HBb.out).mono ?_; rintro e w7 ⟨A7, c7, rfl, hc7, s7, b7⟩
    have M7 := Lib.hid (M6.out.bel b7)
    rw [HE.out] at s7
    have N7 := Lib.hid s7
    have B7 := Lib.hid (below_step B6.out b7)
    clear s7 b7
    go_wp2_with fail
    refine (same_u8 _ _ _ _ _ _ (macN K X) (macN K X) (shaN_length _).symm (shaN_length _).symm _ M7.out N7.out (by omega) (by omega)).mono ?_; rintro e w8 ⟨rfl, b8⟩
    have B8 := Lib.hid (below_step B7.out b8)
    clear b8
    rw [show decide (macN K X = macN K X) = true by simp]
    go_wp2
    go_ret
    exact ⟨rfl, B8.out⟩
end Go.Proofs.YtfoajcphlanleaaDoor
