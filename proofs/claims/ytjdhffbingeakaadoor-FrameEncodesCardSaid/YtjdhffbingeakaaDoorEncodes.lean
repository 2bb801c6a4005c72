/- The walk of the statement that a framed block is read back as what was put in. Conditions: the payload lies in memory; the table of the cyclic sum is laid. -/
import Derived.Test.YtjdhffbingeakaaDoorBits
import Derived.Test.YtjdhffbingeakaaDoorOf
namespace Go.Proofs.YtjdhffbingeakaaDoor
open Go.RowKit

theorem decode_back (k s p : Nat) (pl : List Nat) (n : Nat) (hn : n = pl.length) (b off c : Nat) (hc : 256 ≤ c) (hk : k < 256) (hs : s < 18446744073709551616) (hp : p < 2048) (hl : pl.length ≤ 232) (hpl : ∀ x ∈ pl, x < 256) (w : World) (hA : Seg w (some ⟨b, off, none⟩) (u8s (encN k s pl p))) (hT : Tab w) :
    Calls Tryd.prog 13 #[.slice (some ⟨b, off, none⟩) 256 c, .int .i64 p] w fun e w' => ∃ A' c', e = .returned (.tuple #[.agg #[.int .i64 k, .int .u64 s, .slice A' n c'], .int .i64 0]) ∧ Seg w' A' (u8s pl) ∧ Below w.heap.size w w' := by
  have hlen := encN_length k s pl p hl
  have hle : leGet (((encN k s pl p).drop 4).take 2) ≤ 232 := by
    rw [encN_len, leGet_leN, Nat.mod_eq_of_lt (Nat.lt_of_le_of_lt hl (by decide))]; exact hl
  refine (decode_main b off c (encN k s pl p) hlen.symm hc (p : Int) w hA (encN_lt k s pl p hk hpl) hT hle).mono ?_
  rintro e w' (⟨_, A', c', rfl, _, hS, hb⟩ | ⟨hf, _, _⟩)
  · rw [say_enc k s pl p hs hl] at hS ⊢
    exact ⟨A', c', by rw [hn], hS, hb⟩
  · exact absurd (fits_enc k s pl p hs hl hp) hf

/-- What stands in memory while the two frames are held against each other. -/
structure EnW (w : World) (gf gg : Nat) (xf xg : Array Value) (A B : Option Addr) (l : List Nat) (w' : World) : Prop where
  boxf : Bk w' gf 25 xf
  boxg : Bk w' gg 25 xg
  sega : Seg w' A (u8s l)
  segb : Seg w' B (u8s l)
  bel : Below w.heap.size w w'
section
variable {w w' w'' : World} {gf gg : Nat} {xf xg : Array Value} {A B : Option Addr} {l : List Nat}
theorem EnW.step (h : EnW w gf gg xf xg A B l w') (hb : Below w'.heap.size w' w'') : EnW w gf gg xf xg A B l w'' :=
  ⟨h.boxf.bel hb, h.boxg.bel hb, h.sega.bel hb, h.segb.bel hb, h.bel.trans (hb.mono h.bel.size)⟩
theorem EnW.drew (h : EnW w gf gg xf xg A B l w') : EnW w gf gg xf xg A B l w'.drew := h.step (Below.refl _ _).drew
end
theorem EnW.S {w w' : World} {gf gg : Nat} {x y z x' y' z' : Value} {A B : Option Addr} {l : List Nat} (h : EnW w gf gg #[x, y, z] #[x', y', z'] A B l w') :
    w'.cell? ⟨gf, 0, none⟩ = some x ∧ w'.cell? ⟨gf, 1, none⟩ = some y ∧ w'.cell? ⟨gf, 2, none⟩ = some z ∧ w'.cell? ⟨gg, 0, none⟩ = some x' ∧ w'.cell? ⟨gg, 1, none⟩ = some y' ∧ w'.cell? ⟨gg, 2, none⟩ = some z' ∧ EnW w gf gg #[x, y, z] #[x', y', z'] A B l w' :=
  ⟨h.boxf.cell 0, h.boxf.cell 1, h.boxf.cell 2, h.boxg.cell 0, h.boxg.cell 1, h.boxg.cell 2, h⟩

set_option maxRecDepth 100000 in
set_option maxHeartbeats 4000000 in
theorem encodes_any (kind : Int) (seq : Nat) (A : Option Addr) (n c : Nat) (l : List Nat) (place : Int) (hn : n = l.length) (hnc : n ≤ c) (hz : n ≤ 140737488355000) (hs : seq < 18446744073709551616)
    (w : World) (hA : Seg w A (u8s l)) (hl : ∀ x ∈ l, x < 256) (hT : Tab w) :
    Calls Tryd.prog 3 #[.int .i64 kind, .int .u64 seq, .slice A n c, .int .i64 place] w fun e w' => e = .returned (.bool true) ∧ Below w.heap.size w w' := by
  obtain ⟨i0, hi0, hz0, hz1, hz2⟩ := info_parts info5
  have HN := Lib.hid hn
  have HL := Lib.hid hl
  have HT := Lib.hid hT
  have HA := Lib.hid hA
  clear hn hl hT hA
  go_enter Tryd.func3, Tryd.ntmps3
  go_wp2_with (first
    | (at_builtin; refine wpList_append_seg _ rfl _ _ _ rfl w.heap.size 5 i0 _ 1 Tryd.underlying23 hi0 hz0 hz1 hz2 rfl _ 0 _ rfl (World.ownsRow_lit w #[] 0 (by omega) (by decide) rfl) A n c (u8s l) rfl (by rw [u8s_length, HN.out]) (HA.out.bel ((Below.refl _ _).alloc (Nat.le_refl _) _)) (u8s_one _) (by simp only [maxLen]; omega) (by omega) (by simp) ?_; intro v1 w1 hown1 hb1; simp only [Nat.zero_add, List.nil_append] at hown1; obtain ⟨A1, c1, rfl, hc1, s1⟩ := own_shape hown1; have B0 := Lib.hid (((Below.refl w.heap.size w).alloc (Nat.le_refl _) (.cells #[] 5)).trans hb1); have S1 := Lib.hid (s1.bel ((Below.refl _ _).alloc (Nat.le_refl _) (.cells #[.int .i64 kind, .int .u64 seq, .slice A1 n c1] 25))); have B1 := Lib.hid (B0.out.alloc B0.out.size (.cells #[.int .i64 kind, .int .u64 seq, .slice A1 n c1] 25)); have X1 := Lib.hid (Bk.new w1 25 #[.int .i64 kind, .int .u64 seq, .slice A1 n c1]); clear hown1 hb1 s1)
    | (go_at_call 8; refine (encode_res kind seq place A1 n c1 l HN.out hs _ S1.out HL.out (HT.out.below B1.out)).mono ?_; rintro e w2 ⟨A2, m2, c2, er, rfl, e2, b2⟩; have E2 := Lib.hid e2; have S2 := Lib.hid (S1.out.bel b2); have X2 := Lib.hid (X1.out.bel b2); have B2 := Lib.hid (below_step B1.out b2); have y0 := X2.out.cell 0; have y1 := X2.out.cell 1; have y2 := X2.out.cell 2; clear e2 b2)
    | (go_at_call 10; refine (of_any kind seq A1 n c1 l HN.out hz _ S2.out).mono ?_; rintro e w3 ⟨A4, c4, rfl, hc4, s4, b3⟩; have E3 := Lib.hid (E2.out.bel b3); have S3 := Lib.hid (S2.out.bel b3); have S4 := Lib.hid s4; have X3 := Lib.hid (X2.out.bel b3); have B3 := Lib.hid (below_step B2.out b3); clear s4 b3 y0 y1 y2))
  refine (refenc_res kind seq place A4 n c4 l HN.out hs _ S4.out HL.out).mono ?_
  rintro e w4 ⟨A5, m5, c5, rfl, ro, b4⟩
  have E4 := E3.out.bel b4
  have R4 := Lib.hid ro
  have Z4 := Lib.hid (S3.out.bel b4)
  have X4 := Lib.hid (X3.out.bel b4)
  have B4 := Lib.hid (below_step B3.out b4)
  clear ro b4 E2 E3 S4
  rcases E4 with ⟨g, k, p, rfl, rfl, k256, p2048, l232, rfl, rfl, rfl, rfl, bk⟩ | ⟨her, he, rfl, rfl, rfl⟩
  · have he : errN (k : Int) (p : Int) l.length = 0 := by unfold errN; rw [if_pos ⟨by omega, by omega, by omega, by omega⟩, if_neg (by omega)]
    rw [he]
    rcases R4.out with ⟨k', p', hk', hp', _, rfl, SR⟩ | ⟨h, _⟩
    rotate_left
    · exact absurd he h
    obtain rfl : k' = k := by omega
    obtain rfl : p' = p := by omega
    have SR4 := Lib.hid SR
    have SX4 := Lib.hid (show Seg w4 (some ⟨g, 0, none⟩) (u8s (encN k' seq l p')) from Seg.of_block bk (fun i hi => by simp))
    have HX := Lib.hid (show 256 = (encN k' seq l p').length from (encN_length _ _ _ _ l232).symm)
    have DB := Lib.hid (fun b off c hc w hA hT => decode_back k' seq p' l n HN.out b off c hc k256 hs p2048 l232 HL.out w hA hT)
    clear bk SR he hk' hp' R4
    generalize encN k' seq l p' = X at *
    go_wp2_with fail
    refine (awake_any _ (HT.out.below B4.out)).mono ?_
    rintro e w5 ⟨rfl, b5⟩
    have B5 := Lib.hid (below_step B4.out b5)
    have HS5 := Lib.hid (same_u8 (some ⟨g, 0, none⟩) A5 256 256 256 c5 X X HX.out HX.out w5 (SX4.out.bel b5) (SR4.out.bel b5) (by omega) (by omega))
    have SX5 := Lib.hid (SX4.out.bel b5)
    have Z5 := Lib.hid (Z4.out.bel b5)
    have X5 := Lib.hid (X4.out.bel b5)
    clear b5
    rw [show decide (X = X) = true by simp] at HS5
    go_wp2_with fail
    refine HS5.out.mono ?_
    rintro e w6 ⟨rfl, b6⟩
    have B6 := Lib.hid (below_step B5.out b6)
    have SX6 := Lib.hid (SX5.out.bel b6)
    have Z6 := Lib.hid (Z5.out.bel b6)
    have X6 := Lib.hid (X5.out.bel b6)
    have y2 := X6.out.cell 2
    have HS6 := Lib.hid (same_u8 A1 A n n c1 c l l HN.out HN.out w6 Z6.out (HA.out.bel B6.out) (by omega) (by omega))
    rw [show decide (l = l) = true by simp] at HS6
    clear b6
    go_wp2_with fail
    refine HS6.out.mono ?_
    rintro e w7 ⟨rfl, b7⟩
    have B7 := Lib.hid (below_step B6.out b7)
    have SX7 := Lib.hid (SX6.out.bel b7)
    have Z7 := Lib.hid (Z6.out.bel b7)
    have X7 := Lib.hid (X6.out.bel b7)
    clear b7 y2
    go_wp2_with (first
      | (at_builtin; refine wpList_append_seg _ rfl _ _ _ rfl w7.heap.size 5 i0 _ 1 Tryd.underlying23 hi0 hz0 hz1 hz2 rfl _ 0 _ rfl (World.ownsRow_lit w7 #[] 0 (by omega) (by decide) rfl) (some ⟨g, 0, none⟩) 256 256 (u8s X) rfl (by rw [u8s_length, HX.out]) (SX7.out.bel ((Below.refl _ _).alloc (Nat.le_refl _) _)) (u8s_one _) (by decide) (by decide) (by simp) ?_; intro v8 w8 hown8 hb8; simp only [Nat.zero_add, List.nil_append] at hown8; obtain ⟨A8, c8, rfl, hc8, s8⟩ := own_shape hown8; obtain ⟨b8, o8, rfl, _, _, _⟩ := s8.pick (k := 0) (by rw [u8s_length, ← HX.out]; omega); have S8 := Lib.hid s8; have BB8 := Lib.hid (((Below.refl w7.heap.size w7).alloc (Nat.le_refl _) (.cells #[] 5)).trans hb8); have B8 := Lib.hid (below_step B7.out BB8.out); have Z8 := Lib.hid (Z7.out.bel BB8.out); have X8 := Lib.hid (X7.out.bel BB8.out); clear hown8 hb8 s8)
      | (go_at_call 13; refine (DB.out b8 o8 c8 hc8 _ S8.out (HT.out.below B8.out)).mono ?_; rintro e w9 ⟨A9, c9, rfl, s9, b9⟩; have S9 := Lib.hid s9; have B9 := Lib.hid (below_step B8.out b9); have Z9 := Lib.hid (Z8.out.bel b9); have X9 := Lib.hid (X8.out.bel b9); clear s9 b9))
    have a9 : Below w9.heap.size w9 (w9.alloc (.cells #[.int .i64 k', .int .u64 seq, .slice A9 n c9] 25)) := (Below.refl _ _).alloc (Nat.le_refl _) _
    have H9' : EnW w w1.heap.size w9.heap.size #[.int .i64 k', .int .u64 seq, .slice A1 n c1] #[.int .i64 k', .int .u64 seq, .slice A9 n c9] A1 A9 l (w9.alloc (.cells #[.int .i64 k', .int .u64 seq, .slice A9 n c9] 25)) :=
      ⟨X9.out.bel a9, Bk.new _ _ _, Z9.out.bel a9, S9.out.bel a9, below_step B9.out a9⟩
    clear a9
    generalize w9.alloc (.cells #[.int .i64 k', .int .u64 seq, .slice A9 n c9] 25) = wa at *
    generalize w9.heap.size = gg at *
    generalize w1.heap.size = gf at *
    have H9 := Lib.hid H9'
    have hS := H9'.S
    clear H9'
    go_region_held3 (fun w' => w'.cell? ⟨gf, 0, none⟩ = some (.int .i64 k') ∧ w'.cell? ⟨gf, 1, none⟩ = some (.int .u64 seq) ∧ w'.cell? ⟨gf, 2, none⟩ = some (.slice A1 n c1) ∧ w'.cell? ⟨gg, 0, none⟩ = some (.int .i64 k') ∧ w'.cell? ⟨gg, 1, none⟩ = some (.int .u64 seq) ∧ w'.cell? ⟨gg, 2, none⟩ = some (.slice A9 n c9) ∧ EnW w gf gg #[.int .i64 k', .int .u64 seq, .slice A1 n c1] #[.int .i64 k', .int .u64 seq, .slice A9 n c9] A1 A9 l w')
      (first
        | (with_reducible assumption)
        | (with_reducible exact EnW.S (H9.out.drew))
        | (with_reducible exact EnW.S (H9.out.drew.step ba))
        | (with_reducible exact EnW.S (H9.out.drew.step bb)))
      (first
        | (go_at_call 10; refine (of_any (k' : Int) seq A1 n c1 l HN.out hz _ H9.out.drew.sega).mono ?_; rintro e wb ⟨Ab, cb, rfl, hcb, sb, ba⟩; have Sb := Lib.hid sb; clear sb)
        | (go_at_call 14; refine (same_frames (k' : Int) seq A9 Ab n c9 cb l HN.out hz _ (H9.out.drew.step ba).segb Sb.out).mono ?_; rintro e wc ⟨rfl, bc⟩; have bb := below_step ba bc; clear bc))
    have BF := Lib.hid ((H9.out.drew.step bb).bel)
    clear hS
    go_wp2_with fail
    go_ret
    exact ⟨rfl, BF.out⟩
  · rw [he]
    rcases R4.out with ⟨_, _, _, _, h0, _, _⟩ | ⟨_, rfl, rfl⟩
    · exact absurd (he.symm.trans h0) (by omega)
    have her' : (er != 0) = true := by rw [bne_iff_ne]; omega
    clear he her R4
    go_wp2_with fail
    refine (awake_any _ (HT.out.below B4.out)).mono ?_
    rintro e w5 ⟨rfl, b5⟩
    have B5 := Lib.hid (below_step B4.out b5)
    have Z5 := Lib.hid (Z4.out.bel b5)
    have X5 := Lib.hid (X4.out.bel b5)
    clear b5
    have HS5 := Lib.hid (same_u8 none none 0 0 0 c5 [] [] rfl rfl w5 (Seg.nil _ _) (Seg.nil _ _) (by omega) (by omega))
    rw [show decide (([] : List Nat) = []) = true by simp] at HS5
    go_wp2_with fail
    refine HS5.out.mono ?_
    rintro e w6 ⟨rfl, b6⟩
    have B6 := Lib.hid (below_step B5.out b6)
    have Z6 := Lib.hid (Z5.out.bel b6)
    have X6 := Lib.hid (X5.out.bel b6)
    have y2 := X6.out.cell 2
    have HS6 := Lib.hid (same_u8 A1 A n n c1 c l l HN.out HN.out w6 Z6.out (HA.out.bel B6.out) (by omega) (by omega))
    rw [show decide (l = l) = true by simp] at HS6
    clear b6
    go_wp2_with fail
    refine HS6.out.mono ?_
    rintro e w7 ⟨rfl, b7⟩
    have B7 := Lib.hid (below_step B6.out b7)
    clear b7 y2
    go_wp2_with fail
    go_ret
    exact ⟨rfl, B7.out⟩
end Go.Proofs.YtjdhffbingeakaaDoor
