/- The walk of the statement on SHA-1 and the keyed sum. Conditions: the bytes lie in memory; the table of the cyclic sum is laid. -/
import Derived.Test.YtfoajcphlanleaaDoorRMac
namespace Go.Proofs.YtfoajcphlanleaaDoor
open Go.RowKit

theorem pad3_zero (l : List Nat) (i : Nat) (h1 : l.length ≤ i) (h2 : i < l.length + 3) : (pad3 l)[i]? = some (.int .u8 0) := by
  simp only [pad3, List.getElem?_toArray, List.getElem?_append, u8s_length, List.getElem?_replicate]
  simp [show ¬ i < l.length by omega, show i - l.length < 3 by omega]
set_option maxRecDepth 100000 in
set_option maxHeartbeats 4000000 in
theorem marks_any (A B : Option Addr) (n m c d : Nat) (l b : List Nat) (hn : n = l.length) (hm : m = b.length) (hnc : n ≤ c) (hmd : m ≤ d) (w : World) (hA : Seg w A (u8s l)) (hB : Seg w B (u8s b)) (hl : ∀ x ∈ l, x < 256) (hb : ∀ x ∈ b, x < 256) (hT : Tab w) :
    Calls Tryd.prog 4 #[.slice A n c, .slice B m d] w fun e w' => e = .returned (.bool true) ∧ Below w.heap.size w w' := by
  have HB := Lib.hid hB
  have HA := Lib.hid hA
  have HL := Lib.hid (take_lt hl 200)
  have HBb := Lib.hid (take_lt hb 400)
  have HT := Lib.hid hT
  have F0 := Lib.hid (fun w (h : Seg w A (u8s l)) => few_any A n c 200 l hn hnc (by omega) w h)
  have F1 := Lib.hid (fun w (h : Seg w B (u8s b)) => few_any B m d 400 b hm hmd (by omega) w h)
  have hx : (l.take 200).length ≤ 200 := by rw [List.length_take]; omega
  have hy : (b.take 400).length ≤ 400 := by rw [List.length_take]; omega
  clear hA hB hl hb hn hm hT
  generalize l.take 200 = K at *
  generalize b.take 400 = X at *
  go_enter Tryd.func4, Tryd.ntmps4
  go_wp2_with fail
  refine (F0.out _ HA.out).mono ?_; rintro e w1 ⟨rfl, k1, b1⟩
  have K1 := Lib.hid k1
  have B1 := Lib.hid b1
  have z1 := b1.size
  clear k1 b1
  go_wp2_with fail
  refine (F1.out _ (HB.out.bel B1.out)).mono ?_; rintro e w2 ⟨rfl, k2, b2⟩
  have K2 := Lib.hid (K1.out.bel b2)
  have X2 := Lib.hid k2
  have B2 := Lib.hid (below_step B1.out b2)
  have zx := k2.lt
  clear k2 b2
  go_wp2_with fail
  refine (sha_any _ _ _ X rfl (by omega) (by omega) _ (seg_pad X2.out) HBb.out).mono ?_; rintro e w3 ⟨A3, c3, rfl, hc3, s3, b3⟩
  have K3 := Lib.hid (K2.out.bel b3)
  have X3 := Lib.hid (X2.out.bel b3)
  have S3 := Lib.hid s3
  have B3 := Lib.hid (below_step B2.out b3)
  clear s3 b3
  go_wp2_with fail
  refine (mac_any _ _ _ _ _ _ K X rfl rfl (by omega) (by omega) (by omega) (by omega) _ (seg_pad K3.out) (seg_pad X3.out) HL.out HBb.out).mono ?_; rintro e w4 ⟨A4, c4, rfl, hc4, s4, b4⟩
  have K4 := Lib.hid (K3.out.bel b4)
  have X4 := Lib.hid (X3.out.bel b4)
  have S4 := Lib.hid (S3.out.bel b4)
  have M4 := Lib.hid s4
  have B4 := Lib.hid (below_step B3.out b4)
  clear s4 b4
  obtain ⟨nk, hnk⟩ : ∃ nk, nk = K.length := ⟨_, rfl⟩
  obtain ⟨nx, hnx⟩ : ∃ nx, nx = X.length := ⟨_, rfl⟩
  rw [← hnk] at hx
  rw [← hnx] at hy
  have HNK := Lib.hid hnk
  have HNX := Lib.hid hnx
  rw [← hnk, ← hnx]
  clear hnk hnx
  go_wp2_with fail
  go_loop [11] (fun i => ∃ k : Nat, nk ≤ k ∧ k ≤ nk + 3 ∧ i = .int .i64 k) (fun i => nk + 3 - (intOf i).toNat)
  case atStart => exact ⟨nk, by omega, by omega, rfl⟩
  case round =>
    obtain ⟨k, hk1, hk2, rfl⟩ := hrel
    by_cases hlt : k < nk + 3
    · have y := K4.out.cell k
      rw [pad3_zero K k (by rw [← HNK.out]; exact hk1) (by rw [← HNK.out]; exact hlt)] at y
      go_wp2_with fail
      go_round
      case rel => exact ⟨k + 1, by omega, by omega, by go_num⟩
      case measure => simp [intOf]; omega
    · obtain rfl : k = nk + 3 := by omega
      go_wp2_with fail
      go_loop [12] (fun i => ∃ k : Nat, nx ≤ k ∧ k ≤ nx + 3 ∧ i = .int .i64 k) (fun i => nx + 3 - (intOf i).toNat)
      case atStart => exact ⟨nx, by omega, by omega, rfl⟩
      case round =>
        obtain ⟨k, hk1, hk2, rfl⟩ := hrel
        by_cases hlt : k < nx + 3
        · have y := X4.out.cell k
          rw [pad3_zero X k (by rw [← HNX.out]; exact hk1) (by rw [← HNX.out]; exact hlt)] at y
          go_wp2_with fail
          go_round
          case rel => exact ⟨k + 1, by omega, by omega, by go_num⟩
          case measure => simp [intOf]; omega
        · obtain rfl : k = nx + 3 := by omega
          go_wp2_with fail
          refine (awake_any _ (HT.out.below B4.out)).mono ?_; rintro e w5 ⟨rfl, b5⟩
          have K5 := Lib.hid (K4.out.bel b5)
          have X5 := Lib.hid (X4.out.bel b5)
          have S5 := Lib.hid (S4.out.bel b5)
          have M5 := Lib.hid (M4.out.bel b5)
          have B5 := Lib.hid (below_step B4.out b5)
          clear b5
          go_wp2_with fail
          refine (rsha_any _ _ _ X HNX.out (by omega) _ (seg_pad X5.out) HBb.out).mono ?_; rintro e w6 ⟨A6, c6, rfl, hc6, o6, b6⟩
          have hs6 : Seg w6 A6 (u8s (shaN X)) := Seg.of_own o6
          have R6 := Lib.hid hs6
          have K6 := Lib.hid (K5.out.bel b6)
          have X6 := Lib.hid (X5.out.bel b6)
          have S6 := Lib.hid (S5.out.bel b6)
          have M6 := Lib.hid (M5.out.bel b6)
          have B6 := Lib.hid (below_step B5.out b6)
          clear b6 o6 hs6
          go_wp2_with fail
          refine (same_u8 _ _ _ _ _ _ (shaN X) (shaN X) (shaN_length _).symm (shaN_length _).symm _ S6.out R6.out (by omega) (by omega)).mono ?_; rintro e w7 ⟨rfl, b7⟩
          rw [show decide (shaN X = shaN X) = true by simp]
          have K7 := Lib.hid (K6.out.bel b7)
          have X7 := Lib.hid (X6.out.bel b7)
          have M7 := Lib.hid (M6.out.bel b7)
          have B7 := Lib.hid (below_step B6.out b7)
          have zx7 := K7.out.lt
          have zy7 := X7.out.lt
          clear b7
          go_wp2_with fail
          refine (rmac_any _ _ _ _ _ _ K X HNK.out HNX.out (by omega) (by omega) _ (seg_pad K7.out) (seg_pad X7.out) (by omega) HL.out HBb.out).mono ?_; rintro e w8 ⟨A8, c8, rfl, hc8, s8, b8⟩
          have R8 := Lib.hid s8
          have K8 := Lib.hid (K7.out.bel b8)
          have X8 := Lib.hid (X7.out.bel b8)
          have M8 := Lib.hid (M7.out.bel b8)
          have B8 := Lib.hid (below_step B7.out b8)
          clear b8 s8
          go_wp2_with fail
          refine (same_u8 _ _ _ _ _ _ (macN K X) (macN K X) (shaN_length _).symm (shaN_length _).symm _ M8.out R8.out (by omega) (by omega)).mono ?_; rintro e w9 ⟨rfl, b9⟩
          rw [show decide (macN K X = macN K X) = true by simp]
          have K9 := Lib.hid (K8.out.bel b9)
          have X9 := Lib.hid (X8.out.bel b9)
          have B9 := Lib.hid (below_step B8.out b9)
          clear b9
          go_wp2_with fail
          refine (F1.out _ (HB.out.bel B9.out)).mono ?_; rintro e wa ⟨rfl, ka, ba⟩
          have Ka := Lib.hid (K9.out.bel ba)
          have Xa := Lib.hid (X9.out.bel ba)
          have Ya := Lib.hid ka
          have Ba := Lib.hid (below_step B9.out ba)
          clear ba ka
          go_wp2_with fail
          refine (same_u8 _ _ _ _ _ _ X X HNX.out rfl _ (seg_pad Xa.out) (seg_pad Ya.out) (by omega) (by rw [← HNX.out]; omega)).mono ?_; rintro e wb ⟨rfl, bb⟩
          rw [show decide (X = X) = true by simp]
          have Kb := Lib.hid (Ka.out.bel bb)
          have Bb := Lib.hid (below_step Ba.out bb)
          clear bb
          go_wp2_with fail
          refine (F0.out _ (HA.out.bel Bb.out)).mono ?_; rintro e wc ⟨rfl, kc, bc⟩
          have Kc := Lib.hid (Kb.out.bel bc)
          have Yc := Lib.hid kc
          have Bc := Lib.hid (below_step Bb.out bc)
          clear bc kc
          go_wp2_with fail
          refine (same_u8 _ _ _ _ _ _ K K HNK.out rfl _ (seg_pad Kc.out) (seg_pad Yc.out) (by omega) (by rw [← HNK.out]; omega)).mono ?_; rintro e wd ⟨rfl, bd⟩
          rw [show decide (K = K) = true by simp]
          have Bd := Lib.hid (below_step Bc.out bd)
          clear bd
          go_wp2_with fail
          go_ret
          exact ⟨rfl, Bd.out⟩
end Go.Proofs.YtfoajcphlanleaaDoor
