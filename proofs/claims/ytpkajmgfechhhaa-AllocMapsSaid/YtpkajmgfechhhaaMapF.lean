/- The walks of taking a run and of giving back. Conditions: a map in form lies in memory. -/
import Derived.Test.YtpkajmgfechhhaaMapE
namespace Go.Proofs.Ytpkajmgfechhhaa
open Go.RowKit

theorem flat_upd {f : Nat → Bool} {T i : Nat} (hf : flat f T) : flat (upd f i false) T := fun j hj => by
  unfold upd
  split
  · rfl
  · exact hf j hj
theorem flat_give {f : Nat → Bool} {T : Nat} (l : List Int) (hf : flat f T) : flat (giveF f l) T := fun j hj => by
  rw [giveF_at, hf j hj, Bool.false_and]
theorem giveF_snoc (f : Nat → Bool) (l : List Int) (b : Int) : giveF f (l ++ [b]) = upd (giveF f l) b.toNat false := by
  unfold giveF
  rw [List.foldl_append]
  rfl
def intL (l : List Int) : List Value := l.map (Value.int .i64)
theorem intL_get (l : List Int) (k : Nat) (h : k < l.length) : (intL l)[k]'(by simpa [intL] using h) = .int .i64 l[k] := by simp [intL]
theorem intL_length (l : List Int) : (intL l).length = l.length := by simp [intL]
set_option maxRecDepth 100000 in
theorem give_no (T : Int) (A B : Option Addr) (n c m d E : Nat) (l : List Nat) (hn : n = l.length) (hz : n ≤ 140737488355000) (hl : ∀ x ∈ l, x < 256) (w : World) (hS : Seg w A (u8s l)) (hE : chk T l = E) (h0 : E ≠ 0) :
    Calls Try.prog 24 #[.agg #[.int .i64 T, .slice A n c], .slice B m d] w fun e w' => e = .returned (.tuple #[.agg #[.int .i64 0, .slice none 0 0], .int .i64 (E : Int)]) ∧ Below w.heap.size w w' := by
  have hb := (((Below.refl w.heap.size w).alloc (Nat.le_refl _) (.cells #[.int .i64 T, .slice A n c] 27)).alloc (by simp) (.cells #[.int .i64 0, .slice none 0 0] 27))
  have HB := Lib.hid hb
  have HC := Lib.hid (check_any T A n c l hn hz hl _ (hS.bel hb))
  rw [hE] at HC
  have hle := chk_le T l
  rw [hE] at hle
  have hne : ((E : Int) != 0) = true := by rw [bne_iff_ne]; omega
  have BR := Lib.hid (show Bk ((w.alloc (.cells #[.int .i64 T, .slice A n c] 27)).alloc (.cells #[.int .i64 0, .slice none 0 0] 27)) (w.heap.size + 1) 27 #[.int .i64 0, .slice none 0 0] by
    have h1 := Bk.new (w.alloc (.cells #[.int .i64 T, .slice A n c] 27)) 27 #[.int .i64 0, .slice none 0 0]
    rwa [World.size_alloc] at h1)
  clear hb hn hl hS hE
  go_enter Try.func24, Try.ntmps24
  go_wp2_with fail
  refine (HC.out).mono ?_
  rintro e w2 ⟨rfl, b2⟩
  have B2 := Lib.hid (below_step HB.out b2)
  have r2 := BR.out.bel b2
  have y0 := r2.cell 0
  have y1 := r2.cell 1
  have f0 := r2.frozen 0
  have f1 := r2.frozen 1
  clear b2 r2
  go_wp2_with fail
  exact bodyPost_ret (v := .tuple #[.agg #[.int .i64 0, .slice none 0 0], .int .i64 (E : Int)]) (by simp [results, Try.results24, go_sem, y0, y1]) rfl
    ⟨rfl, (B2.out.setCell (p := ⟨w.heap.size + 1, 0, none⟩) (by show w.heap.size ≤ w.heap.size + 1; omega) _).setCell (p := ⟨w.heap.size + 1, 1, none⟩) (by show w.heap.size ≤ w.heap.size + 1; omega) _⟩
/-- What giving back answers. -/
def Given (w : World) (T : Nat) (f : Nat → Bool) (n : Nat) (l : List Int) (e : Ending) (w' : World) : Prop :=
  (giveE T f l = 0 ∧ ∃ A' c', e = .returned (.tuple #[.agg #[.int .i64 (T : Int), .slice A' n c'], .int .i64 0]) ∧ MapIn w' T (giveF f l) A' n c' ∧ Below w.heap.size w w') ∨
  (giveE T f l ≠ 0 ∧ e = .returned (.tuple #[.agg #[.int .i64 0, .slice none 0 0], .int .i64 ((giveE T f l : Nat) : Int)]) ∧ Below w.heap.size w w')
set_option maxRecDepth 100000 in
set_option maxHeartbeats 4000000 in
theorem give_any (T : Nat) (f : Nat → Bool) (A B : Option Addr) (n c m d : Nat) (l : List Int) (w : World) (h : MapIn w T f A n c) (hm : m = l.length) (hmz : m ≤ 17592186044416) (hL : Seg w B (intL l)) :
    Calls Try.prog 24 #[.agg #[.int .i64 (T : Int), .slice A n c], .slice B m d] w (Given w T f n l) := by
  have hb := (((Below.refl w.heap.size w).alloc (Nat.le_refl _) (.cells #[.int .i64 (T : Int), .slice A n c] 27)).alloc (by simp) (.cells #[.int .i64 0, .slice none 0 0] 27))
  have HB := Lib.hid hb
  have HM := Lib.hid (h.bel hb)
  have HL := Lib.hid hL
  have HMm := Lib.hid hm
  have BX := Lib.hid ((Bk.new w 27 #[.int .i64 (T : Int), .slice A n c]).alloc (.cells #[.int .i64 0, .slice none 0 0] 27))
  have BR := Lib.hid (show Bk ((w.alloc (.cells #[.int .i64 (T : Int), .slice A n c] 27)).alloc (.cells #[.int .i64 0, .slice none 0 0] 27)) (w.heap.size + 1) 27 #[.int .i64 0, .slice none 0 0] by
    have h1 := Bk.new (w.alloc (.cells #[.int .i64 (T : Int), .slice A n c] 27)) 27 #[.int .i64 0, .slice none 0 0]
    rwa [World.size_alloc] at h1)
  have HZ := Lib.hid (show ((w.alloc (.cells #[.int .i64 (T : Int), .slice A n c] 27)).alloc (.cells #[.int .i64 0, .slice none 0 0] 27)).heap.size = w.heap.size + 2 by simp)
  clear hb h hL hm
  go_enter Try.func24, Try.ntmps24
  go_wp2_with fail
  generalize (w.alloc (.cells #[.int .i64 (T : Int), .slice A n c] 27)).alloc (.cells #[.int .i64 0, .slice none 0 0] 27) = w1 at *
  refine (HM.out.check).mono ?_
  rintro e w3 ⟨rfl, b3⟩
  have B3 := Lib.hid (below_step HB.out b3)
  have M3 := Lib.hid (HM.out.bel b3)
  have X3 := Lib.hid (BX.out.bel b3)
  have R3 := Lib.hid (BR.out.bel b3)
  have Z3 := Lib.hid (show w.heap.size + 2 ≤ w3.heap.size by have := HZ.out; have := b3.size; omega)
  clear b3 HM HZ BX BR HB
  have x0 := X3.out.cell 0
  have x1 := X3.out.cell 1
  go_wp2_with fail
  refine (mclone_any (T : Int) A n c (pk f n) (pk_length f n).symm (by have := M3.out.len; have := M3.out.le; omega) _ M3.out.seg).mono ?_
  rintro e w4 ⟨A4, c4, rfl, hc4, o4, b4⟩
  have O4 := Lib.hid o4
  have B4 := Lib.hid (below_step B3.out b4)
  have R4 := Lib.hid (R3.out.bel b4)
  have X4 := Lib.hid (X3.out.bel b4)
  have Z4 := Lib.hid (Nat.le_trans Z3.out b4.size)
  have Z3' := Lib.hid Z3.out
  have ML := Lib.hid M3.out.len
  have MT := Lib.hid M3.out.le
  have MF := Lib.hid M3.out.flat
  clear b4 o4 x0 x1 M3 B3 X3 R3 Z3
  go_wp2_with fail
  have XN' := Bk.new w4 27 #[.int .i64 (T : Int), .slice A4 n c4]
  have HS5 := Lib.hid (show (w4.alloc (.cells #[.int .i64 (T : Int), .slice A4 n c4] 27)).heap.size = w4.heap.size + 1 by simp)
  have O5' := O4.out.alloc (.cells #[.int .i64 (T : Int), .slice A4 n c4] 27)
  have B5 := Lib.hid (B4.out.alloc B4.out.size (.cells #[.int .i64 (T : Int), .slice A4 n c4] 27))
  have R5 := Lib.hid (R4.out.alloc (.cells #[.int .i64 (T : Int), .slice A4 n c4] 27))
  have X5 := Lib.hid (X4.out.alloc (.cells #[.int .i64 (T : Int), .slice A4 n c4] 27))
  have LT := Lib.hid (fun k hk => (O4.out.lt k hk))
  generalize w4.alloc (.cells #[.int .i64 (T : Int), .slice A4 n c4] 27) = w5 at *
  have O5 := Lib.hid O5'
  have XN := Lib.hid XN'
  clear O5' XN' O4 R4 B4 X4
  obtain ⟨row, hrow⟩ : ∃ row, row = (Value.slice A4 n c4).ownBlock := ⟨_, rfl⟩
  have HR := Lib.hid hrow
  clear hrow
  have HG := Lib.hid (show ∀ x, row = some x → w.heap.size + 2 ≤ x ∧ w3.heap.size ≤ x ∧ x < w4.heap.size from fun x hx => by have := LT.out x (HR.out ▸ hx); have := Z3'.out; omega)
  go_loopw [20] (fun i wr => ∃ k : Nat, k ≤ m ∧ i = .int .i64 k ∧ giveE T f l = giveE T (giveF f (l.take k)) (l.drop k) ∧ wr.ownsRow w3.heap.size 5 1 (.slice A4 n c4) n (u8s (pk (giveF f (l.take k)) n)) ∧ w5.grownBy wr row) (fun i _ => m - (intOf i).toNat)
  case atStart => exact ⟨0, by omega, rfl, rfl, O5.out, only_refl _ _⟩
  case round =>
    obtain ⟨k, hk, rfl, hge, ho, hg⟩ := hrel
    have hT := MT.out
    have X6 := Lib.hid (show Bk wr w.heap.size 27 #[.int .i64 (T : Int), .slice A n c] from (hg.block _ X5.out.lt (fun e => by have := (HG.out _ e.symm).1; omega)).trans X5.out)
    have XA6 := Lib.hid (show Bk wr w4.heap.size 27 #[.int .i64 (T : Int), .slice A4 n c4] from (hg.block _ XN.out.lt (fun e => by have := (HG.out _ e.symm).2; omega)).trans XN.out)
    have R6 := Lib.hid (show Bk wr (w.heap.size + 1) 27 #[.int .i64 0, .slice none 0 0] from (hg.block _ R5.out.lt (fun e => by have := (HG.out _ e.symm).1; omega)).trans R5.out)
    have B6 := Lib.hid (show Below w.heap.size w wr from B5.out.trans ⟨hg.os, hg.tape, hg.output, hg.size, fun i hi => hg.block i (Nat.lt_of_lt_of_le hi B5.out.size) (fun e => by have := (HG.out _ e.symm).1; omega)⟩)
    by_cases hlt : k < m
    · have hkl : k < l.length := by rw [← HMm.out]; exact hlt
      obtain ⟨b, off, rfl, hbl, _, hc⟩ := (HL.out.bel B6.out).pick (k := k) (by rw [intL_length]; exact hkl)
      rw [intL_get l k hkl] at hc
      have hsn := giveF_snoc f (l.take k) l[k]
      rw [← List.take_succ_eq_append_getElem hkl] at hsn
      rw [List.drop_eq_getElem_cons hkl] at hge
      simp only [giveE] at hge
      have i1 : (0 : Int) ≤ (k : Int) := by omega
      have i2 : (k : Int) < (m : Int) := by omega
      have x0 := X6.out.cell 0
      by_cases hz : l[k] < 0 ∨ (T : Int) ≤ l[k]
      · rw [if_pos hz] at hge
        have HE := Lib.hid hge
        clear hge hsn ho hg
        generalize l[k] = z at *
        have r0 := R6.out.cell 0
        have r1 := R6.out.cell 1
        have f0 := R6.out.frozen 0
        have f1 := R6.out.frozen 1
        have hgiv : Hid (Given w T f n l (.returned (.tuple #[.agg #[.int .i64 0, .slice none 0 0], .int .i64 1])) ((wr.setCell ⟨w.heap.size + 1, 0, none⟩ (.int .i64 0)).setCell ⟨w.heap.size + 1, 1, none⟩ (.slice none 0 0))) :=
          Lib.hid (.inr ⟨by rw [HE.out]; omega, by rw [HE.out]; rfl, (B6.out.setCell (p := ⟨w.heap.size + 1, 0, none⟩) (by show w.heap.size ≤ w.heap.size + 1; omega) _).setCell (p := ⟨w.heap.size + 1, 1, none⟩) (by show w.heap.size ≤ w.heap.size + 1; omega) _⟩)
        by_cases hz0 : z < 0
        · clear hz
          go_wp2_with fail
          exact bodyPost_ret (v := .tuple #[.agg #[.int .i64 0, .slice none 0 0], .int .i64 1]) (by simp [results, Try.results24, go_sem, r0, r1]) rfl hgiv.out
        · have hz1 : (T : Int) ≤ z := by omega
          have hz2 : (0 : Int) ≤ z := by omega
          clear hz
          go_wp2_with fail
          exact bodyPost_ret (v := .tuple #[.agg #[.int .i64 0, .slice none 0 0], .int .i64 1]) (by simp [results, Try.results24, go_sem, r0, r1]) rfl hgiv.out
      · rw [if_neg hz] at hge
        obtain ⟨z, hzz⟩ : ∃ z : Nat, l[k] = (z : Int) := ⟨l[k].toNat, by omega⟩
        rw [hzz] at hge hsn hc hz
        rw [Int.toNat_natCast] at hge hsn
        have hzT : z < T := by omega
        have hn0 : 0 < n := by rw [ML.out]; omega
        have hz8 : z < 8 * n := by rw [ML.out]; omega
        have hn3 : n ≤ 1000000 := by rw [ML.out]; omega
        obtain ⟨g, rfl, hg1, hg2⟩ := own_at ho hn0
        have hrw : row = some g := HR.out
        subst hrw
        have hgw := (HG.out g rfl).2.2
        have HU := Lib.hid (used_map (show MapIn wr T (giveF f (l.take k)) (some ⟨g, 0, none⟩) n c4 from ⟨MT.out, ML.out, flat_give _ MF.out, Seg.of_own ho, hc4⟩) z hzT)
        have y0 := XA6.out.cell 0
        have y1 := XA6.out.cell 1
        have z1 : ¬ ((z : Nat) : Int) < 0 := by omega
        have z2 : ¬ (T : Int) ≤ ((z : Nat) : Int) := by omega
        have O6 := Lib.hid ho
        have G6 := Lib.hid hg
        have HSn := Lib.hid hsn
        by_cases hu : giveF f (l.take k) z = true
        · rw [if_neg (by rw [hu]; simp)] at hge
          rw [hu] at HU
          have HE := Lib.hid hge
          clear hge hsn ho hg hzz hz hu
          go_wp2_with (go_at_call 33; refine (HU.out).mono ?_; rintro e w7 ⟨rfl, b7⟩; have P2 := Lib.hid (own_bel' O6.out b7); have G2 := Lib.hid (only_bel G6.out G6.out.size b7); have X7 := XA6.out.bel b7; have q0 := X7.cell 0; have q1 := X7.cell 1; clear b7 y0 y1 X7)
          refine (giveUp_any (T : Int) g n c4 z w3.heap.size (giveF f (l.take k)) hz8 hn3 _ P2.out).mono ?_
          rintro e w8 ⟨rfl, o8, b8⟩
          have Q2 := Lib.hid o8
          have G3 := Lib.hid (only_then G2.out b8)
          clear b8 o8 q0 q1
          go_wp2_with fail
          go_roundw
          case rel => exact ⟨k + 1, by omega, by go_num, by rw [HSn.out]; exact HE.out, by rw [HSn.out]; exact Q2.out, G3.out⟩
          case measure => simp [intOf]; omega
        · have hu' : giveF f (l.take k) z = false := by simpa using hu
          rw [if_pos hu'] at hge
          rw [hu'] at HU
          have HE := Lib.hid hge
          clear hge hsn ho hg hzz hz hu hu'
          go_wp2_with (go_at_call 33; refine (HU.out).mono ?_; rintro e w7 ⟨rfl, b7⟩; have B7 := Lib.hid (below_step B6.out b7); have R7 := R6.out.bel b7; have r0 := R7.cell 0; have r1 := R7.cell 1; have f0 := R7.frozen 0; have f1 := R7.frozen 1; clear b7 y0 y1 R7)
          exact bodyPost_ret (v := .tuple #[.agg #[.int .i64 0, .slice none 0 0], .int .i64 6]) (by simp [results, Try.results24, go_sem, r0, r1]) rfl
            (.inr ⟨by rw [HE.out]; omega, by rw [HE.out]; rfl, (B7.out.setCell (p := ⟨w.heap.size + 1, 0, none⟩) (by show w.heap.size ≤ w.heap.size + 1; omega) _).setCell (p := ⟨w.heap.size + 1, 1, none⟩) (by show w.heap.size ≤ w.heap.size + 1; omega) _⟩)
    · obtain rfl : k = m := by omega
      have hd : l.drop k = [] := List.drop_eq_nil_of_le (by rw [← HMm.out]; omega)
      have htk : l.take k = l := List.take_of_length_le (by rw [← HMm.out]; omega)
      rw [hd, htk] at hge
      rw [htk] at ho
      have HE := Lib.hid hge
      have M6 := Lib.hid (show MapIn wr T (giveF f l) A4 n c4 from ⟨MT.out, ML.out, flat_give _ MF.out, Seg.of_own ho, hc4⟩)
      have HFA := Lib.hid (show ∀ a, A4 = some a → w.heap.size + 1 < a.block from fun a ha => by have := (LT.out a.block (by rw [ha]; rfl)).1; have := Z3'.out; omega)
      have y0 := XA6.out.cell 0
      have y1 := XA6.out.cell 1
      have r0 := R6.out.cell 0
      have r1 := R6.out.cell 1
      have f0 := R6.out.frozen 0
      have f1 := R6.out.frozen 1
      clear hge ho hg hd htk
      go_wp2_with fail
      exact bodyPost_ret (v := .tuple #[.agg #[.int .i64 (T : Int), .slice A4 n c4], .int .i64 0]) (by simp [results, Try.results24, go_sem, r0, r1]) rfl
        (.inl ⟨by rw [HE.out]; rfl, A4, c4, rfl, (M6.out.far HFA.out 0 _).far HFA.out 1 _, (B6.out.setCell (p := ⟨w.heap.size + 1, 0, none⟩) (by show w.heap.size ≤ w.heap.size + 1; omega) _).setCell (p := ⟨w.heap.size + 1, 1, none⟩) (by show w.heap.size ≤ w.heap.size + 1; omega) _⟩)
end Go.Proofs.Ytpkajmgfechhhaa
