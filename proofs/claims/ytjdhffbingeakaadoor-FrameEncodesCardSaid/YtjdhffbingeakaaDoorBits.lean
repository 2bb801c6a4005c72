/- The walk of the statement that with any one bit turned a framed block is none. Conditions: the payload lies in memory; the table of the cyclic sum is laid. -/
import Derived.Test.YtjdhffbingeakaaDoorAlone
import Derived.Test.YtjdhffbingeakaaDoorRefEnc
import Derived.Test.YtjdhffbingeakaaDoorFrameBitM
namespace Go.Proofs.YtjdhffbingeakaaDoor
open Go.RowKit

theorem decode_bad (b off c : Nat) (l : List Nat) (hn : 256 = l.length) (hnc : 256 ≤ c) (place : Int) (w : World) (hA : Seg w (some ⟨b, off, none⟩) (u8s l)) (hl : ∀ x ∈ l, x < 256) (hT : Tab w) (h : ¬ fitsN l place) :
    Calls Tryd.prog 13 #[.slice (some ⟨b, off, none⟩) 256 c, .int .i64 place] w fun e w' => e = .returned (.tuple #[.agg #[.int .i64 0, .int .u64 0, .slice none 0 0], .int .i64 4]) ∧ Below w.heap.size w w' := by
  by_cases hg : leGet ((l.drop 4).take 2) ≤ 232
  · refine (decode_main b off c l hn hnc place w hA hl hT hg).mono ?_
    rintro e w' (⟨h1, _⟩ | ⟨_, rfl, hb⟩)
    · exact absurd h1 h
    · exact ⟨rfl, hb⟩
  · exact decode_long b off c l hn hnc place w hA hl (by omega)
theorem u8s_set (l : List Nat) (i y : Nat) : (u8s l).toArray.setIfInBounds i (.int .u8 (y : Int)) = (u8s (l.set i y)).toArray := by
  apply Array.ext_getElem?
  intro j
  rw [Array.getElem?_setIfInBounds]
  simp only [u8s, List.getElem?_toArray, List.getElem?_map, List.size_toArray, List.length_map, List.getElem?_set]
  by_cases h : i = j
  · subst h
    by_cases h2 : i < l.length <;> simp [h2]
  · simp [h]

theorem encode_fresh (kind : Int) (seq : Nat) (place : Int) (A : Option Addr) (n c : Nat) (l : List Nat) (hn : n = l.length) (hs : seq < 18446744073709551616) (w : World) (hA : Seg w A (u8s l)) (hl : ∀ x ∈ l, x < 256) (hT : Tab w) :
    Calls Tryd.prog 8 #[.agg #[.int .i64 kind, .int .u64 seq, .slice A n c], .int .i64 place] w fun e w' => ∃ A' m' c' er, e = .returned (.tuple #[.slice A' m' c', .int .i64 er]) ∧ EncRes kind seq l place A' m' c' er w' ∧ Below w.heap.size w w' ∧ (∀ a, A' = some a → w.heap.size ≤ a.block) := by
  refine (encode_any kind seq place A n c l hn hs w hA hl hT).mono ?_
  rintro e w' (⟨g, k, p, h1, h2, h3, h4, h5, h6, rfl, h8, h9, h10⟩ | ⟨er, h1, h2, rfl, h4⟩)
  · exact ⟨_, _, _, _, rfl, .inl ⟨g, k, p, h1, h2, h3, h4, h5, rfl, rfl, rfl, rfl, h9⟩, h10, fun a ha => by cases ha; exact h8⟩
  · exact ⟨_, _, _, _, rfl, .inr ⟨h2, h1, rfl, rfl, rfl⟩, h4, fun a ha => by cases ha⟩
set_option maxRecDepth 100000 in
set_option maxHeartbeats 4000000 in
theorem bits_any (kind : Int) (seq : Nat) (A : Option Addr) (n c : Nat) (l : List Nat) (place bit : Int) (hn : n = l.length) (hnc : n ≤ c) (hz : n ≤ 140737488355000) (hs : seq < 18446744073709551616)
    (w : World) (hA : Seg w A (u8s l)) (hl : ∀ x ∈ l, x < 256) (hT : Tab w) :
    Calls Tryd.prog 5 #[.int .i64 kind, .int .u64 seq, .slice A n c, .int .i64 place, .int .i64 bit] w fun e w' => e = .returned (.bool true) ∧ Below w.heap.size w w' := by
  obtain ⟨i0, hi0, hz0, hz1, hz2⟩ := info_parts info5
  have HN := Lib.hid hn
  have HL := Lib.hid hl
  have HT := Lib.hid hT
  have HA := Lib.hid hA
  clear hn hl hT hA
  go_enter Tryd.func5, Tryd.ntmps5
  go_wp2_with (first
    | (at_builtin; refine wpList_append_seg _ rfl _ _ _ rfl w.heap.size 5 i0 _ 1 Tryd.underlying23 hi0 hz0 hz1 hz2 rfl _ 0 _ rfl (World.ownsRow_lit w #[] 0 (by omega) (by decide) rfl) A n c (u8s l) rfl (by rw [u8s_length, HN.out]) (HA.out.bel ((Below.refl _ _).alloc (Nat.le_refl _) _)) (u8s_one _) (by simp only [maxLen]; omega) (by omega) (by simp) ?_; intro v1 w1 hown1 hb1; simp only [Nat.zero_add, List.nil_append] at hown1; obtain ⟨A1, c1, rfl, hc1, s1⟩ := own_shape hown1; have S1 := Lib.hid s1; have B1 := Lib.hid (((Below.refl w.heap.size w).alloc (Nat.le_refl _) (.cells #[] 5)).trans hb1); clear hown1 hb1 s1)
    | (go_at_call 8; refine (encode_fresh kind seq place A1 n c1 l HN.out hs _ S1.out HL.out (HT.out.below B1.out)).mono ?_; rintro e w2 ⟨A2, m2, c2, er, rfl, e2, b2, fr2⟩; have E2 := Lib.hid e2; have FR2 := Lib.hid (fun a ha => Nat.le_trans B1.out.size (fr2 a ha)); have B2 := Lib.hid (below_step B1.out b2); clear e2 b2 fr2))
  refine (refenc_res kind seq place A n c l HN.out hs _ (HA.out.bel B2.out) HL.out).mono ?_
  rintro e w3 ⟨A3, m3, c3, rfl, _, b3⟩
  have E3 := E2.out.bel b3
  have B3 := Lib.hid (below_step B2.out b3)
  clear b3 E2 S1
  have T3 := Lib.hid (HT.out.below B3.out)
  rcases E3 with ⟨g, k, p, rfl, rfl, k256, p2048, l232, rfl, rfl, rfl, rfl, bk⟩ | ⟨her, he, rfl, rfl, rfl⟩
  · have he : errN (k : Int) (p : Int) l.length = 0 := by unfold errN; rw [if_pos ⟨by omega, by omega, by omega, by omega⟩, if_neg (by omega)]
    rw [he]
    clear he
    by_cases hb1 : bit < 0
    · clear bk
      go_wp2_with (go_at_call 11; refine (awake_any _ T3.out).mono ?_; rintro e w5 ⟨rfl, b5⟩; have B5 := Lib.hid (below_step B3.out b5); clear b5)
      go_ret
      exact ⟨rfl, B5.out⟩
    · by_cases hb2 : 2048 ≤ bit
      · clear bk
        go_wp2_with (go_at_call 11; refine (awake_any _ T3.out).mono ?_; rintro e w5 ⟨rfl, b5⟩; have B5 := Lib.hid (below_step B3.out b5); clear b5)
        go_ret
        exact ⟨rfl, B5.out⟩
      · obtain ⟨β, rfl⟩ := Int.eq_ofNat_of_zero_le (show 0 ≤ bit by omega)
        have hi : β / 8 < 256 := by omega
        have hlen := encN_length k seq l p l232
        have hlt := encN_lt k seq l p k256 HL.out
        obtain ⟨X, hX⟩ : ∃ X, (encN k seq l p).getD (β / 8) 0 = X := ⟨_, rfl⟩
        have hXl : X < 256 := by
          rw [← hX, show (encN k seq l p).getD (β / 8) 0 = (encN k seq l p)[β / 8]'(by omega) by simp [hlen, hi]]
          exact hlt _ (List.getElem_mem _)
        obtain ⟨cst, hc1, hc2, hc3⟩ : ∃ cst : Nat, 2 ^ (β % 8) = cst ∧ cst < 256 ∧ cst ≠ 0 := by
          refine ⟨_, rfl, ?_, Nat.ne_of_gt (Nat.two_pow_pos _)⟩
          exact Nat.lt_of_le_of_lt (Nat.pow_le_pow_right (by omega) (show β % 8 ≤ 7 by omega)) (by decide)
        have hxor := u8_xor_nat X cst hXl hc2
        have hYl : X ^^^ cst < 256 := Nat.xor_lt_two_pow (n := 8) hXl hc2
        have hne : X ^^^ cst ≠ X := fun e => hc3 (by
          have := congrArg (X ^^^ ·) e
          simpa only [← Nat.xor_assoc, Nat.xor_self, Nat.zero_xor] using this)
        have HNo := Lib.hid (turned_none k seq l p k256 l232 HL.out hi hYl (by rw [hX]; exact hne) (p : Int))
        have HBl := Lib.hid (show ∀ x ∈ (encN k seq l p).set (β / 8) (X ^^^ cst), x < 256 from fun x hx => by
          rcases List.mem_or_eq_of_mem_set hx with h | rfl
          · exact hlt x h
          · exact hYl)
        have HBn := Lib.hid (show 256 = ((encN k seq l p).set (β / 8) (X ^^^ cst)).length by rw [List.length_set, hlen])
        have y0 := bk_at bk (β / 8) X (by omega) hX
        have f0 := bk.frozen (β / 8)
        have hput := bk.put (β / 8) (.int .u8 ((X ^^^ cst : Nat) : Int))
        rw [u8s_set] at hput
        have hpd : w3.heap.size = (w3.setCell ⟨g, β / 8, none⟩ (.int .u8 ((X ^^^ cst : Nat) : Int))).heap.size := by simp
        have HPut := Lib.hid hput
        obtain ⟨i, hii⟩ : ∃ i, i = β / 8 := ⟨_, rfl⟩
        obtain ⟨j, hjj⟩ : ∃ j, j = β % 8 := ⟨_, rfl⟩
        rw [← hii] at y0 f0 HPut HNo HBl HBn hi
        rw [← hjj] at hc1
        have t0 : (β : Int).tdiv 8 = (i : Int) := by rw [Int.tdiv_eq_ediv_of_nonneg (by omega)]; omega
        have t1 : (β : Int).tmod 8 = (j : Int) := by rw [Int.tmod_eq_emod_of_nonneg (by omega)]; omega
        have t2 : IntKind.i64.wrap (i : Int) = (i : Int) := IntWalk.i64_in _ (by omega)
        have t3 : IntKind.i64.wrap (j : Int) = (j : Int) := IntWalk.i64_in _ (by omega)
        have q2 : (i : Int) < 256 := by omega
        have q4 : (j : Int) < 8 := by omega
        have hpw : (2 : Int) ^ j % 256 = (cst : Int) := by
          rw [show (2 : Int) ^ j = ((2 ^ j : Nat) : Int) by simp, hc1]; omega
        clear hX hput hpd hlen hlt bk hc1 hii hjj
        go_wp2_with fail
        go_still_tail 10, (by kernel_rfl)
        change wpList _ _ _ _ _ w3.drew
        go_wp2_with fail
        have hgf : w.heap.size ≤ g := FR2.out _ rfl
        have B4 := Lib.hid ((B3.out.setCell (p := ⟨g, i, none⟩) hgf (.int .u8 ((X ^^^ cst : Nat) : Int))).drew)
        have S4 := Lib.hid (show Seg (w3.setCell ⟨g, i, none⟩ (.int .u8 ((X ^^^ cst : Nat) : Int))).drew (some ⟨g, 0, none⟩) (u8s ((encN k seq l p).set i (X ^^^ cst))) from Seg.of_block HPut.out.drew (fun i hi => by simp))
        refine (decode_bad g 0 256 _ HBn.out (Nat.le_refl _) (p : Int) _ S4.out HBl.out (HT.out.below B4.out) HNo.out).mono ?_
        rintro e w5 ⟨rfl, b5⟩
        have B5 := Lib.hid (below_step B4.out b5)
        have B6 := Lib.hid (B5.out.alloc B5.out.size (.cells #[.int .i64 0, .int .u64 0, .slice none 0 0] 25))
        clear b5 y0 f0
        go_wp2_with fail
        refine (awake_any _ (HT.out.below B6.out)).mono ?_
        rintro e w7 ⟨rfl, b7⟩
        have y := ((Bk.new w5 25 #[.int .i64 0, .int .u64 0, .slice none 0 0]).bel b7).cell 2
        have B7 := Lib.hid (below_step B6.out b7)
        clear b7
        go_wp2_with fail
        go_ret
        exact ⟨rfl, B7.out⟩
  · rw [he]
    have her' : (er != 0) = true := by rw [bne_iff_ne]; omega
    clear he her
    go_wp2_with (go_at_call 11; refine (awake_any _ T3.out).mono ?_; rintro e w5 ⟨rfl, b5⟩; have B5 := Lib.hid (below_step B3.out b5); clear b5)
    go_ret
    exact ⟨by simp, B5.out⟩
end Go.Proofs.YtjdhffbingeakaaDoor
