/- The walk of the statement on hexadecimal and base 64 texts. Conditions: the bytes lie in memory; the table of the cyclic sum is laid. -/
import Derived.Test.YtfoajcphlanleaaDoorRefB64
namespace Go.Proofs.YtfoajcphlanleaaDoor
open Go.RowKit

theorem txt_of (s : ByteArray) : ∃ L : List Nat, s = txt L ∧ (∀ x ∈ L, x < 256) ∧ L.length = s.size := by
  refine ⟨s.data.toList.map UInt8.toNat, ?_, ?_, ?_⟩
  · unfold txt
    apply ByteArray.ext
    rw [List.map_map]
    have : (UInt8.ofNat ∘ UInt8.toNat) = id := by funext x; simp
    rw [this, List.map_id]
  · intro x hx
    simp only [List.mem_map] at hx
    obtain ⟨y, _, rfl⟩ := hx
    exact y.toNat_lt
  · show (s.data.toList.map UInt8.toNat).length = s.data.size
    simp

set_option maxRecDepth 100000 in
set_option maxHeartbeats 1000000 in
theorem texts_any (A : Option Addr) (n c : Nat) (l L : List Nat) (hn : n = l.length) (hnc : n ≤ c) (hL : ∀ x ∈ L, x < 256) (hLl : L.length ≤ 140737488355327) (w : World) (hA : Seg w A (u8s l)) (hl : ∀ x ∈ l, x < 256) (hT : Tab w) :
    Calls Tryd.prog 5 #[.slice A n c, .string (txt L)] w fun e w' => e = .returned (.bool true) ∧ Below w.heap.size w w' := by
  have HL := Lib.hid (take_lt hl 200)
  have HLL := Lib.hid hL
  have HT := Lib.hid hT
  have F0 := Lib.hid (few_any A n c 200 l hn hnc (by omega) w hA)
  have hx : (l.take 200).length ≤ 200 := by rw [List.length_take]; omega
  clear hA hl hn hT hL
  generalize l.take 200 = X at *
  have HU := Lib.hid (unhex_hex X HL.out)
  have hsz := txt_size L
  have HW2 := Lib.hid (fun w => unhex_walk L HLL.out hLl w)
  have HXx := Lib.hid (fun w => hexed_any L HLL.out hLl w)
  have HHU := Lib.hid (fun t h => hex_unhex L t HLL.out h)
  have HNo := Lib.hid (unhex_none L)
  generalize hS : txt L = S at *
  have HS := Lib.hid hS
  clear hS
  go_enter Tryd.func5, Tryd.ntmps5
  go_wp2_with fail
  refine F0.out.mono ?_; rintro e w1 ⟨rfl, k1, b1⟩
  have S1 := Lib.hid (seg_pad k1)
  have B1 := Lib.hid b1
  clear k1 b1
  go_wp2_with fail
  refine (hex_any _ _ _ X rfl (by omega) _ S1.out HL.out).mono ?_; rintro e w2 ⟨rfl, b2⟩
  have S2 := Lib.hid (S1.out.bel b2)
  have B2 := Lib.hid (below_step B1.out b2)
  clear b2
  go_wp2_with fail
  refine (unhex_walk (hexN X) (hexN_lt X HL.out) (by rw [hexN_length]; omega) _).mono ?_
  rintro e w3 (⟨t, A3, c3, ht, rfl, hc3, s3, b3⟩ | ⟨ht, _, _⟩)
  rotate_left
  · rw [HU.out] at ht; cases ht
  obtain rfl : t = X := by rw [HU.out] at ht; exact (Option.some.inj ht).symm
  clear ht
  have S3 := Lib.hid (S2.out.bel b3)
  have Y3 := Lib.hid s3
  have B3 := Lib.hid (below_step B2.out b3)
  clear s3 b3
  go_wp2_with fail
  refine (HW2.out _).mono ?_
  rintro e w4 (⟨z, A4, c4, hz, rfl, hc4, s4, b4⟩ | ⟨hz, rfl, b4⟩)
  · obtain ⟨hzh, hzb, hzl⟩ := HHU.out z hz
    have HZh := Lib.hid hzh
    have HZb := Lib.hid hzb
    have S4 := Lib.hid (S3.out.bel b4)
    have Y4 := Lib.hid (Y3.out.bel b4)
    have Z4 := Lib.hid s4
    have B4 := Lib.hid (below_step B3.out b4)
    clear s4 b4 hzh hzb hz
    go_wp2_with fail
    refine (awake_any _ (HT.out.below B4.out)).mono ?_; rintro e w5 ⟨rfl, b5⟩
    have S5 := Lib.hid (S4.out.bel b5)
    have Y5 := Lib.hid (Y4.out.bel b5)
    have Z5 := Lib.hid (Z4.out.bel b5)
    have B5 := Lib.hid (below_step B4.out b5)
    clear b5
    go_wp2_with fail
    refine (refhex_any _ _ _ t rfl (by omega) _ S5.out HL.out).mono ?_; rintro e w6 ⟨rfl, b6⟩
    have S6 := Lib.hid (S5.out.bel b6)
    have Y6 := Lib.hid (Y5.out.bel b6)
    have Z6 := Lib.hid (Z5.out.bel b6)
    have B6 := Lib.hid (below_step B5.out b6)
    clear b6
    go_wp2_with fail
    refine (same_u8 _ _ _ _ _ _ t t rfl rfl _ S6.out Y6.out (by omega) (by omega)).mono ?_; rintro e w7 ⟨rfl, b7⟩
    have S7 := Lib.hid (S6.out.bel b7)
    have Z7 := Lib.hid (Z6.out.bel b7)
    have B7 := Lib.hid (below_step B6.out b7)
    clear b7
    rw [show decide (t = t) = true by simp]
    go_wp2_with fail
    refine (b64_any _ _ _ t rfl (by omega) (by omega) _ S7.out HL.out).mono ?_; rintro e w8 ⟨rfl, b8⟩
    have S8 := Lib.hid (S7.out.bel b8)
    have Z8 := Lib.hid (Z7.out.bel b8)
    have B8 := Lib.hid (below_step B7.out b8)
    clear b8
    go_wp2_with fail
    refine (refb64_any _ _ _ t rfl (by omega) _ S8.out HL.out).mono ?_; rintro e w9 ⟨rfl, b9⟩
    have Z9 := Lib.hid (Z8.out.bel b9)
    have B9 := Lib.hid (below_step B8.out b9)
    clear b9
    by_cases h4 : 4000 < L.length
    · have j4 : (4000 : Int) < (L.length : Int) := by omega
      go_wp2
      go_ret
      exact ⟨rfl, B9.out⟩
    · have j4 : ¬ (4000 : Int) < (L.length : Int) := by omega
      go_wp2_with fail
      refine (refhex_any _ _ _ z rfl (by omega) _ Z9.out HZb.out).mono ?_; rintro e w10 ⟨rfl, b10⟩
      have B10 := Lib.hid (below_step B9.out b10)
      clear b10
      rw [HZh.out, HS.out]
      go_wp2
      go_ret
      exact ⟨rfl, B10.out⟩
  · have HNx := Lib.hid (HNo.out hz)
    have S4 := Lib.hid (S3.out.bel b4)
    have Y4 := Lib.hid (Y3.out.bel b4)
    have B4 := Lib.hid (below_step B3.out b4)
    clear b4 hz
    go_wp2_with fail
    refine (awake_any _ (HT.out.below B4.out)).mono ?_; rintro e w5 ⟨rfl, b5⟩
    have S5 := Lib.hid (S4.out.bel b5)
    have Y5 := Lib.hid (Y4.out.bel b5)
    have B5 := Lib.hid (below_step B4.out b5)
    clear b5
    go_wp2_with fail
    refine (refhex_any _ _ _ t rfl (by omega) _ S5.out HL.out).mono ?_; rintro e w6 ⟨rfl, b6⟩
    have S6 := Lib.hid (S5.out.bel b6)
    have Y6 := Lib.hid (Y5.out.bel b6)
    have B6 := Lib.hid (below_step B5.out b6)
    clear b6
    go_wp2_with fail
    refine (same_u8 _ _ _ _ _ _ t t rfl rfl _ S6.out Y6.out (by omega) (by omega)).mono ?_; rintro e w7 ⟨rfl, b7⟩
    have S7 := Lib.hid (S6.out.bel b7)
    have B7 := Lib.hid (below_step B6.out b7)
    clear b7
    rw [show decide (t = t) = true by simp]
    go_wp2_with fail
    refine (b64_any _ _ _ t rfl (by omega) (by omega) _ S7.out HL.out).mono ?_; rintro e w8 ⟨rfl, b8⟩
    have S8 := Lib.hid (S7.out.bel b8)
    have B8 := Lib.hid (below_step B7.out b8)
    clear b8
    go_wp2_with fail
    refine (refb64_any _ _ _ t rfl (by omega) _ S8.out HL.out).mono ?_; rintro e w9 ⟨rfl, b9⟩
    have B9 := Lib.hid (below_step B8.out b9)
    clear b9
    go_wp2_with fail
    refine (HXx.out _).mono ?_; rintro e w10 ⟨rfl, b10⟩
    have B10 := Lib.hid (below_step B9.out b10)
    clear b10
    rw [HNx.out]
    go_wp2
    go_ret
    exact ⟨rfl, B10.out⟩
theorem texts_str (A : Option Addr) (n c : Nat) (l : List Nat) (s : ByteArray) (hn : n = l.length) (hnc : n ≤ c) (hs : s.size ≤ 140737488355327) (w : World) (hA : Seg w A (u8s l)) (hl : ∀ x ∈ l, x < 256) (hT : Tab w) :
    Calls Tryd.prog 5 #[.slice A n c, .string s] w fun e w' => e = .returned (.bool true) ∧ Below w.heap.size w w' := by
  obtain ⟨L, rfl, hL, hLs⟩ := txt_of s
  exact texts_any A n c l L hn hnc hL (by omega) w hA hl hT
end Go.Proofs.YtfoajcphlanleaaDoor
