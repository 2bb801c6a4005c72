/- The walk of the statement that blocks are given back just if they are in use. Condition: the bytes and the list lie in memory. -/
import Derived.Test.YtpkajmgfechhhaaMapK
import Derived.Test.YtpkajmgfechhhaaFits
namespace Go.Proofs.Ytpkajmgfechhhaa
open Go.RowKit

theorem intL_one (l : List Int) : ∀ u ∈ intL l, u.oneCell' = true := by
  intro u hu
  simp only [intL, List.mem_map] at hu
  obtain ⟨x, _, rfl⟩ := hu
  rfl
theorem giveE_le (T : Nat) (l : List Int) : ∀ f, giveE T f l ≤ 6 := by
  induction l with
  | nil => intro f; simp [giveE]
  | cons b l ih =>
    intro f
    unfold giveE
    split
    · omega
    · split
      · omega
      · exact ih _
/-- What stands in memory while what was given back is held against the reference. -/
structure GvW (w : World) (gx : Nat) (box : Array Value) (M : Option Addr) (ms : List Value) (X : Option Addr) (xs : List Value) (w' : World) : Prop where
  box : Bk w' gx 27 box
  segm : Seg w' M ms
  segx : Seg w' X xs
  bel : Below w.heap.size w w'
theorem GvW.step {w w' w'' : World} {gx : Nat} {box : Array Value} {M X : Option Addr} {ms xs : List Value} (h : GvW w gx box M ms X xs w') (hb : Below w'.heap.size w' w'') : GvW w gx box M ms X xs w'' :=
  ⟨h.box.bel hb, h.segm.bel hb, h.segx.bel hb, h.bel.trans (hb.mono h.bel.size)⟩
theorem GvW.drew {w w' : World} {gx : Nat} {box : Array Value} {M X : Option Addr} {ms xs : List Value} (h : GvW w gx box M ms X xs w') : GvW w gx box M ms X xs w'.drew := h.step (Below.refl _ _).drew
theorem GvW.S {w w' : World} {gx : Nat} {x y : Value} {M X : Option Addr} {ms xs : List Value} (h : GvW w gx #[x, y] M ms X xs w') : w'.cell? ⟨gx, 0, none⟩ = some x ∧ w'.cell? ⟨gx, 1, none⟩ = some y ∧ GvW w gx #[x, y] M ms X xs w' := ⟨h.box.cell 0, h.box.cell 1, h⟩
set_option maxRecDepth 100000 in
set_option maxHeartbeats 4000000 in
theorem gives_any (T num : Int) (A B : Option Addr) (n c m d : Nat) (l : List Nat) (L : List Int) (hn : n = l.length) (hz : n ≤ 140737488355000) (hm : m = L.length) (hmd : m ≤ d) (hmz : m * 8 ≤ 140737488355000) (w : World) (hA : Seg w A (u8s l)) (hB : Seg w B (intL L)) (hl : ∀ x ∈ l, x < 256) :
    Calls Try.prog 5 #[.int .i64 T, .slice A n c, .slice B m d, .int .i64 num] w fun e w' => e = .returned (.bool true) ∧ Below w.heap.size w w' := by
  obtain ⟨i0, hi0, hz0, hz1, hz2⟩ := info_parts info_int
  have hm17 : m ≤ 17592186044416 := by omega
  have HN := Lib.hid hn
  have HL := Lib.hid hl
  have HA := Lib.hid hA
  have HB := Lib.hid hB
  have HM := Lib.hid hm
  clear hn hl hA hB hm
  go_enter Try.func5, Try.ntmps5
  go_wp2_with fail
  refine (of_ref T A n c l HN.out hz HL.out _ HA.out).mono ?_
  rintro e w1 (⟨hE, v, rfl, o1, b1⟩ | ⟨hE, rfl, b1⟩)
  · obtain ⟨A0, c0, rfl, hc0, s1⟩ := own_shape o1
    obtain ⟨t, rfl⟩ : ∃ t : Nat, T = (t : Int) := ⟨T.toNat, by have := (chk_pk T l HL.out hE).1; omega⟩
    rw [Int.toNat_natCast] at s1 ⊢
    have ht : t ≤ 2048 := by have := (chk_pk _ l HL.out hE).2.1; omega
    have HE0 := Lib.hid hE
    have B1 := Lib.hid b1
    have S1 := Lib.hid s1
    obtain ⟨f, hf⟩ : ∃ f, f = fOf t l := ⟨_, rfl⟩
    rw [← hf] at S1
    have HFf := Lib.hid hf.symm
    clear hE o1 b1 s1 hf
    go_wp2_with (first
      | (at_builtin; refine wpList_append_seg _ rfl _ _ _ rfl w1.heap.size 3 i0 _ 8 Try.underlying43 hi0 hz0 hz1 hz2 rfl _ 0 _ rfl (World.ownsRow_lit w1 #[] 0 (by omega) (by decide) rfl) B m d (intL L) rfl (by rw [intL_length, HM.out]) ((HB.out.bel B1.out).bel ((Below.refl _ _).alloc (Nat.le_refl _) _)) (intL_one _) (by simp only [maxLen]; omega) (by omega) (by simp) ?_; intro v2 w2 hown2 hb2; simp only [Nat.zero_add, List.nil_append] at hown2; obtain ⟨A2, c2, rfl, hc2, s2⟩ := own_shape hown2; have b2 := ((Below.refl w1.heap.size w1).alloc (Nat.le_refl _) (.cells #[] 3)).trans hb2; have S2 := Lib.hid s2; have SM2 := Lib.hid (S1.out.bel b2); have B2 := Lib.hid (below_step B1.out b2); clear hown2 hb2 s2 b2))
    refine (of_map (t : Int) A n c l HN.out hz _ (HA.out.bel B2.out)).mono ?_
    rintro e w3 ⟨A3, c3, rfl, hc3, s3, b3⟩
    have B3 := Lib.hid (below_step B2.out b3)
    have S3 := Lib.hid (S2.out.bel b3)
    have SM3 := Lib.hid (SM2.out.bel b3)
    have hM3 := (MapIn.of_chk HN.out hc3 HL.out s3 HE0.out).1
    rw [Int.toNat_natCast, HFf.out] at hM3
    have M3 := Lib.hid hM3
    clear s3 b3 hM3
    go_wp2_with fail
    refine (give_any t f A3 A2 n c3 m c2 L _ M3.out HM.out hm17 S3.out).mono ?_
    have HGR := Lib.hid (fun w hA hB => give_ref f t m A0 B c0 d L ht HM.out hmd hm17 w hA hB)
    have hg6 : giveE t f L ≤ 6 := giveE_le t L f
    rintro e w4 (⟨hg, A4, c4, rfl, m4, b4⟩ | ⟨hg, rfl, b4⟩)
    · have a5 : Below w4.heap.size w4 (w4.alloc (.cells #[.int .i64 (t : Int), .slice A4 n c4] 27)) := (Below.refl _ _).alloc (Nat.le_refl _) _
      have B5 := Lib.hid (below_step (below_step B3.out b4) a5)
      have SM5 := Lib.hid ((SM3.out.bel b4).bel a5)
      have M5 := Lib.hid (m4.bel a5)
      have X5 := Lib.hid (Bk.new w4 27 #[.int .i64 (t : Int), .slice A4 n c4])
      obtain ⟨htg, hin⟩ := turn_give t L f hg
      have HTG := Lib.hid htg
      have HIn := Lib.hid hin
      rw [hg] at HGR
      clear b4 a5 m4 hg htg hin hg6
      go_wp2_with fail
      generalize w4.alloc (.cells #[.int .i64 (t : Int), .slice A4 n c4] 27) = w5 at *
      refine (HGR.out _ SM5.out (HB.out.bel B5.out)).mono ?_
      rintro e w6 ⟨rfl, rfl⟩
      have y0 := X5.out.cell 0
      have y1 := X5.out.cell 1
      go_wp2_with fail
      generalize w4.heap.size = gx at *
      have hS0 : GvW w gx #[.int .i64 (t : Int), .slice A4 n c4] A0 (bls f t) A4 (u8s (pk (giveF f L) n)) w5 := ⟨X5.out, SM5.out, M5.out.seg, B5.out⟩
      have H0 := Lib.hid hS0
      have hS := GvW.S hS0
      have HP := Lib.hid (fun (w' : World) (h : GvW w gx #[.int .i64 (t : Int), .slice A4 n c4] A0 (bls f t) A4 (u8s (pk (giveF f L) n)) w') => (⟨M5.out.le, M5.out.len, M5.out.flat, h.segx, M5.out.cap⟩ : MapIn w' t (giveF f L) A4 n c4))
      clear hS0 y0 y1
      go_region_held3 (fun w' => w'.cell? ⟨gx, 0, none⟩ = some (.int .i64 (t : Int)) ∧ w'.cell? ⟨gx, 1, none⟩ = some (.slice A4 n c4) ∧ GvW w gx #[.int .i64 (t : Int), .slice A4 n c4] A0 (bls f t) A4 (u8s (pk (giveF f L) n)) w')
        (first
          | (with_reducible assumption)
          | (with_reducible exact GvW.S (H0.out.drew))
          | (with_reducible exact GvW.S (H0.out.drew.step ba))
          | (with_reducible exact GvW.S (H0.out.drew.step bb)))
        (first
          | (go_at_call 22; refine (turn_ref f t m A0 B c0 d L ht HM.out hm17 HIn.out _ H0.out.drew.segm (HB.out.bel H0.out.drew.bel)).mono ?_; rintro e wa ⟨Aa, ca, rfl, sa, ba⟩; have Sa := Lib.hid sa; clear sa)
          | (go_at_call 17; refine (is_map t (giveF f L) (turnF f L) A4 Aa n c4 ca (fun i _ => by rw [HTG.out]) _ (HP.out _ (H0.out.drew.step ba)) Sa.out).mono ?_; rintro e wc ⟨rfl, bc⟩; have bb := below_step ba bc; clear bc))
      have BT := Lib.hid ((H0.out.drew.step bb).bel)
      have SM := Lib.hid ((H0.out.drew.step bb).segm)
      rename_i hHeld
      clear hHeld hS H0 HP bb ba
      go_wp2_with fail
      refine (of_map (t : Int) A n c l HN.out hz _ (HA.out.bel BT.out)).mono ?_
      rintro e w20 ⟨A20, c20, rfl, hc20, s20, b20⟩
      have B20 := Lib.hid (below_step BT.out b20)
      have SM20 := Lib.hid (SM.out.bel b20)
      have hM20 := (MapIn.of_chk HN.out hc20 HL.out s20 HE0.out).1
      rw [Int.toNat_natCast, HFf.out] at hM20
      have M20 := Lib.hid hM20
      clear s20 b20 hM20
      by_cases hneg : num < 0
      · go_wp2_with fail
        refine (take_neg t f A20 n c20 num _ M20.out hneg).mono ?_
        rintro e w21 ⟨rfl, b21⟩
        have B21 := Lib.hid (below_step B20.out b21)
        have B22 := Lib.hid (B21.out.alloc B21.out.size (.cells #[.int .i64 0, .slice none 0 0] 27))
        clear b21
        go_wp2_with (go_at_call 13; refine (awake_map _).mono ?_; rintro e w23 ⟨rfl, b23⟩; have B23 := Lib.hid (below_step B22.out b23); clear b23)
        go_ret
        exact ⟨rfl, B23.out⟩
      · by_cases hbig : ((frees f t).length : Int) < num
        · go_wp2_with fail
          refine (take_big t f A20 n c20 num _ M20.out (by omega) hbig).mono ?_
          rintro e w21 ⟨rfl, b21⟩
          have B21 := Lib.hid (below_step B20.out b21)
          have B22 := Lib.hid (B21.out.alloc B21.out.size (.cells #[.int .i64 0, .slice none 0 0] 27))
          clear b21
          go_wp2_with (go_at_call 13; refine (awake_map _).mono ?_; rintro e w23 ⟨rfl, b23⟩; have B23 := Lib.hid (below_step B22.out b23); clear b23)
          go_ret
          exact ⟨rfl, B23.out⟩
        · obtain ⟨q, rfl⟩ : ∃ q : Nat, num = (q : Int) := ⟨num.toNat, by omega⟩
          have hq : q ≤ (frees f t).length := by omega
          have hfl := frees_length f t
          clear hneg hbig
          go_wp2_with fail
          refine (take_ok t f A20 n c20 q _ M20.out hq).mono ?_
          rintro e w21 ⟨v21, A21, c21, i, rfl, hi, hLq, o21, m21, b21⟩
          obtain ⟨A22, c22, rfl, hc22, s22⟩ := own_shape o21
          have a22 : Below w21.heap.size w21 (w21.alloc (.cells #[.int .i64 (t : Int), .slice A21 n c21] 27)) := (Below.refl _ _).alloc (Nat.le_refl _) _
          have B22 := Lib.hid (below_step (below_step B20.out b21) a22)
          have SM22 := Lib.hid ((SM20.out.bel b21).bel a22)
          rw [ints_int] at s22
          have S22 := Lib.hid (s22.bel a22)
          have M22 := Lib.hid (m21.bel a22)
          have X22 := Lib.hid (Bk.new w21 27 #[.int .i64 (t : Int), .slice A21 n c21])
          have y0 := X22.out.cell 0
          have y1 := X22.out.cell 1
          have hq17 : q ≤ 17592186044416 := by omega
          have HQL := Lib.hid (show q = ((frees f i).map fun (x : Nat) => (x : Int)).length by rw [List.length_map, hLq])
          have HG0 := Lib.hid (giveE_ok t (frees f i) (fillTo f i) (frees_nodup f i) (fun b hb => by
            have h1 := frees_lt f i b hb
            exact ⟨by omega, by unfold fillTo; rw [show decide (b < i) = true by simpa using h1.1, Bool.or_true]⟩))
          have HG1 := Lib.hid (giveF_frees f i)
          clear o21 s22 m21 b21 a22 hLq
          generalize (frees f i).map (fun (x : Nat) => (x : Int)) = LL at *
          go_wp2_with fail
          refine (give_any t (fillTo f i) A21 A22 n c21 q c22 LL _ M22.out HQL.out hq17 S22.out).mono ?_
          rintro e w24 (⟨_, A24, c24, rfl, m24, b24⟩ | ⟨hne, _⟩)
          rotate_left
          · exact absurd HG0.out hne
          rw [HG1.out] at m24
          have a25 : Below w24.heap.size w24 (w24.alloc (.cells #[.int .i64 (t : Int), .slice A24 n c24] 27)) := (Below.refl _ _).alloc (Nat.le_refl _) _
          have B25 := Lib.hid (below_step (below_step B22.out b24) a25)
          have SM25 := Lib.hid ((SM22.out.bel b24).bel a25)
          have M25 := Lib.hid (m24.bel a25)
          have X25 := Lib.hid (Bk.new w24 27 #[.int .i64 (t : Int), .slice A24 n c24])
          clear b24 a25 m24 y0 y1
          go_wp2_with fail
          refine (awake_map _).mono ?_
          rintro e w26 ⟨rfl, b26⟩
          have B26 := Lib.hid (below_step B25.out b26)
          have x0 := (X25.out.bel b26).cell 0
          have x1 := (X25.out.bel b26).cell 1
          have M26 := Lib.hid (M25.out.bel b26)
          have SM26 := Lib.hid (SM25.out.bel b26)
          clear b26
          go_wp2_with fail
          refine (is_map t f f A24 A0 n c24 c0 (fun _ _ => rfl) _ M26.out SM26.out).mono ?_
          rintro e w27 ⟨rfl, b27⟩
          have B27 := Lib.hid (below_step B26.out b27)
          clear b27 x0 x1
          go_wp2_with fail
          go_ret
          exact ⟨rfl, B27.out⟩
    · have a5 : Below w4.heap.size w4 (w4.alloc (.cells #[.int .i64 0, .slice none 0 0] 27)) := (Below.refl _ _).alloc (Nat.le_refl _) _
      have B5 := Lib.hid (below_step (below_step B3.out b4) a5)
      have SM5 := Lib.hid ((SM3.out.bel b4).bel a5)
      have X5 := Lib.hid (Bk.new w4 27 #[.int .i64 0, .slice none 0 0])
      have hge1 : (((giveE t f L : Nat) : Int) != 0) = true := by rw [bne_iff_ne]; omega
      have hge2 : (((giveE t f L : Nat) : Int) != ((giveE t f L : Nat) : Int)) = false := by simp
      clear b4 a5 hg
      generalize giveE t f L = GE at *
      go_wp2_with fail
      generalize w4.alloc (.cells #[.int .i64 0, .slice none 0 0] 27) = w5 at *
      refine (HGR.out _ SM5.out (HB.out.bel B5.out)).mono ?_
      rintro e w6 ⟨rfl, rfl⟩
      have y0 := X5.out.cell 0
      have y1 := X5.out.cell 1
      go_wp2_with fail
      refine (zero_any _).mono ?_
      rintro e w7 ⟨rfl, b7⟩
      have BT := Lib.hid (below_step B5.out b7)
      have SM := Lib.hid (SM5.out.bel b7)
      clear b7 y0 y1
      go_wp2_with fail
      refine (of_map (t : Int) A n c l HN.out hz _ (HA.out.bel BT.out)).mono ?_
      rintro e w20 ⟨A20, c20, rfl, hc20, s20, b20⟩
      have B20 := Lib.hid (below_step BT.out b20)
      have SM20 := Lib.hid (SM.out.bel b20)
      have hM20 := (MapIn.of_chk HN.out hc20 HL.out s20 HE0.out).1
      rw [Int.toNat_natCast, HFf.out] at hM20
      have M20 := Lib.hid hM20
      clear s20 b20 hM20
      by_cases hneg : num < 0
      · go_wp2_with fail
        refine (take_neg t f A20 n c20 num _ M20.out hneg).mono ?_
        rintro e w21 ⟨rfl, b21⟩
        have B21 := Lib.hid (below_step B20.out b21)
        have B22 := Lib.hid (B21.out.alloc B21.out.size (.cells #[.int .i64 0, .slice none 0 0] 27))
        clear b21
        go_wp2_with (go_at_call 13; refine (awake_map _).mono ?_; rintro e w23 ⟨rfl, b23⟩; have B23 := Lib.hid (below_step B22.out b23); clear b23)
        go_ret
        exact ⟨rfl, B23.out⟩
      · by_cases hbig : ((frees f t).length : Int) < num
        · go_wp2_with fail
          refine (take_big t f A20 n c20 num _ M20.out (by omega) hbig).mono ?_
          rintro e w21 ⟨rfl, b21⟩
          have B21 := Lib.hid (below_step B20.out b21)
          have B22 := Lib.hid (B21.out.alloc B21.out.size (.cells #[.int .i64 0, .slice none 0 0] 27))
          clear b21
          go_wp2_with (go_at_call 13; refine (awake_map _).mono ?_; rintro e w23 ⟨rfl, b23⟩; have B23 := Lib.hid (below_step B22.out b23); clear b23)
          go_ret
          exact ⟨rfl, B23.out⟩
        · obtain ⟨q, rfl⟩ : ∃ q : Nat, num = (q : Int) := ⟨num.toNat, by omega⟩
          have hq : q ≤ (frees f t).length := by omega
          have hfl := frees_length f t
          clear hneg hbig
          go_wp2_with fail
          refine (take_ok t f A20 n c20 q _ M20.out hq).mono ?_
          rintro e w21 ⟨v21, A21, c21, i, rfl, hi, hLq, o21, m21, b21⟩
          obtain ⟨A22, c22, rfl, hc22, s22⟩ := own_shape o21
          have a22 : Below w21.heap.size w21 (w21.alloc (.cells #[.int .i64 (t : Int), .slice A21 n c21] 27)) := (Below.refl _ _).alloc (Nat.le_refl _) _
          have B22 := Lib.hid (below_step (below_step B20.out b21) a22)
          have SM22 := Lib.hid ((SM20.out.bel b21).bel a22)
          rw [ints_int] at s22
          have S22 := Lib.hid (s22.bel a22)
          have M22 := Lib.hid (m21.bel a22)
          have X22 := Lib.hid (Bk.new w21 27 #[.int .i64 (t : Int), .slice A21 n c21])
          have y0 := X22.out.cell 0
          have y1 := X22.out.cell 1
          have hq17 : q ≤ 17592186044416 := by omega
          have HQL := Lib.hid (show q = ((frees f i).map fun (x : Nat) => (x : Int)).length by rw [List.length_map, hLq])
          have HG0 := Lib.hid (giveE_ok t (frees f i) (fillTo f i) (frees_nodup f i) (fun b hb => by
            have h1 := frees_lt f i b hb
            exact ⟨by omega, by unfold fillTo; rw [show decide (b < i) = true by simpa using h1.1, Bool.or_true]⟩))
          have HG1 := Lib.hid (giveF_frees f i)
          clear o21 s22 m21 b21 a22 hLq
          generalize (frees f i).map (fun (x : Nat) => (x : Int)) = LL at *
          go_wp2_with fail
          refine (give_any t (fillTo f i) A21 A22 n c21 q c22 LL _ M22.out HQL.out hq17 S22.out).mono ?_
          rintro e w24 (⟨_, A24, c24, rfl, m24, b24⟩ | ⟨hne, _⟩)
          rotate_left
          · exact absurd HG0.out hne
          rw [HG1.out] at m24
          have a25 : Below w24.heap.size w24 (w24.alloc (.cells #[.int .i64 (t : Int), .slice A24 n c24] 27)) := (Below.refl _ _).alloc (Nat.le_refl _) _
          have B25 := Lib.hid (below_step (below_step B22.out b24) a25)
          have SM25 := Lib.hid ((SM22.out.bel b24).bel a25)
          have M25 := Lib.hid (m24.bel a25)
          have X25 := Lib.hid (Bk.new w24 27 #[.int .i64 (t : Int), .slice A24 n c24])
          clear b24 a25 m24 y0 y1
          go_wp2_with fail
          refine (awake_map _).mono ?_
          rintro e w26 ⟨rfl, b26⟩
          have B26 := Lib.hid (below_step B25.out b26)
          have x0 := (X25.out.bel b26).cell 0
          have x1 := (X25.out.bel b26).cell 1
          have M26 := Lib.hid (M25.out.bel b26)
          have SM26 := Lib.hid (SM25.out.bel b26)
          clear b26
          go_wp2_with fail
          refine (is_map t f f A24 A0 n c24 c0 (fun _ _ => rfl) _ M26.out SM26.out).mono ?_
          rintro e w27 ⟨rfl, b27⟩
          have B27 := Lib.hid (below_step B26.out b27)
          clear b27 x0 x1
          go_wp2_with fail
          go_ret
          exact ⟨rfl, B27.out⟩
  · have hne : (((chk T l : Nat) : Int) != 0) = true := by rw [bne_iff_ne]; omega
    have hle := chk_le T l
    have H0 := Lib.hid hE
    have B1 := Lib.hid b1
    have HGv := Lib.hid (fun w A n c B m d hn hz hS => give_no T A B n c m d _ l hn hz HL.out w hS rfl hE)
    clear hE b1
    generalize chk T l = E at *
    go_wp2_with (first
      | (at_builtin; refine wpList_append_seg _ rfl _ _ _ rfl w1.heap.size 3 i0 _ 8 Try.underlying43 hi0 hz0 hz1 hz2 rfl _ 0 _ rfl (World.ownsRow_lit w1 #[] 0 (by omega) (by decide) rfl) B m d (intL L) rfl (by rw [intL_length, HM.out]) ((HB.out.bel B1.out).bel ((Below.refl _ _).alloc (Nat.le_refl _) _)) (intL_one _) (by simp only [maxLen]; omega) (by omega) (by simp) ?_; intro v2 w2 hown2 hb2; simp only [Nat.zero_add, List.nil_append] at hown2; obtain ⟨A2, c2, rfl, hc2, s2⟩ := own_shape hown2; have b2 := ((Below.refl w1.heap.size w1).alloc (Nat.le_refl _) (.cells #[] 3)).trans hb2; have B2 := Lib.hid (below_step B1.out b2); clear hown2 hb2 s2 b2))
    refine (of_map T A n c l HN.out hz _ (HA.out.bel B2.out)).mono ?_
    rintro e w3 ⟨A3, c3, rfl, hc3, s3, b3⟩
    have B3 := Lib.hid (below_step B2.out b3)
    have S3 := Lib.hid s3
    clear s3 b3
    go_wp2_with fail
    refine (HGv.out _ A3 n c3 A2 m c2 HN.out hz S3.out).mono ?_
    rintro e w4 ⟨rfl, b4⟩
    have B4 := Lib.hid (below_step B3.out b4)
    have B5 := Lib.hid (B4.out.alloc B4.out.size (.cells #[.int .i64 0, .slice none 0 0] 27))
    have X5 := Lib.hid (Bk.new w4 27 #[.int .i64 0, .slice none 0 0])
    clear b4
    go_wp2_with fail
    refine (awake_map _).mono ?_
    rintro e w6 ⟨rfl, b6⟩
    have B6 := Lib.hid (below_step B5.out b6)
    have y0 := (X5.out.bel b6).cell 0
    have y1 := (X5.out.bel b6).cell 1
    clear b6
    go_wp2_with fail
    refine (zero_any _).mono ?_
    rintro e w7 ⟨rfl, b7⟩
    have B7 := Lib.hid (below_step B6.out b7)
    clear b7 y0 y1
    go_wp2_with fail
    go_ret
    exact ⟨rfl, B7.out⟩
end Go.Proofs.Ytpkajmgfechhhaa
