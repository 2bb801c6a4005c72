/- The statement on decoding, its own walk; the reference's Check. Condition: the bytes lie in memory. -/
import Derived.Test.YtcnfnfnmpifahaaNDec
import Derived.Test.YtcnfnfnmpifahaaNREnc
import Derived.Test.YtcnfnfnmpifahaaNSame
import Derived.Test.YtcnfnfnmpifahaaNAwake
import Derived.Test.YtcnfnfnmpifahaaRSize
namespace Go.Proofs.Ytcnfnfnmpifahaa
open Go.RowKit

theorem rcheck_any (n : NodeM) (A B C : Option Addr) (nk ca nv cb nc cc : Nat) (w : World) (h : Nd w n A B C nk ca nv cb nc cc) (hz : formB n = true → sizeN n ≤ 4611686018427387904) :
    Calls Try.prog 9 #[.agg #[.bool n.leaf, .slice A nk ca, .slice B nv cb, .slice C nc cc]] w fun e w' => e = .returned (.int .i64 (checkN n : Nat)) ∧ Below w.heap.size w w' := by
  have H := Lib.hid h
  have HA := Lib.hid ((Below.refl w.heap.size w).alloc (Nat.le_refl _) (.cells #[.bool n.leaf, .slice A nk ca, .slice B nv cb, .slice C nc cc] 25))
  have HB := Bk.new w 25 #[.bool n.leaf, .slice A nk ca, .slice B nv cb, .slice C nc cc]
  have x0 : (w.alloc (.cells #[.bool n.leaf, .slice A nk ca, .slice B nv cb, .slice C nc cc] 25)).cell? ⟨w.heap.size, 0, none⟩ = some (.bool n.leaf) := HB.cell 0
  have x1 : (w.alloc (.cells #[.bool n.leaf, .slice A nk ca, .slice B nv cb, .slice C nc cc] 25)).cell? ⟨w.heap.size, 1, none⟩ = some (.slice A nk ca) := HB.cell 1
  have x2 : (w.alloc (.cells #[.bool n.leaf, .slice A nk ca, .slice B nv cb, .slice C nc cc] 25)).cell? ⟨w.heap.size, 2, none⟩ = some (.slice B nv cb) := HB.cell 2
  have x3 : (w.alloc (.cells #[.bool n.leaf, .slice A nk ca, .slice B nv cb, .slice C nc cc] 25)).cell? ⟨w.heap.size, 3, none⟩ = some (.slice C nc cc) := HB.cell 3
  have HB := Lib.hid HB
  have C0 := Lib.hid (form_any n A B C nk ca nv cb nc cc _ (H.out.bel HA.out))
  generalize hw0 : w.alloc (.cells #[.bool n.leaf, .slice A nk ca, .slice B nv cb, .slice C nc cc] 25) = w0 at *
  have HW0 := Lib.hid hw0
  obtain ⟨v, hv⟩ : ∃ v, v = formB n := ⟨_, rfl⟩
  rw [← hv] at C0
  cases v
  · have HR := Lib.hid (show checkN n = 4 by unfold checkN; rw [← hv]; rfl)
    clear h hv hz hw0
    go_enter Try.func9, Try.ntmps9
    go_upto_region 1 with fail
    rw [HW0.out]
    go_wp2_with fail
    refine C0.out.mono ?_
    rintro e w1 ⟨rfl, hb1⟩
    have HA1 := Lib.hid (HA.out.trans (hb1.mono HA.out.size))
    clear hb1
    go_wp2_with fail
    go_ret
    exact ⟨by rw [HR.out]; rfl, HA1.out⟩
  · have hz := hz hv.symm
    have HR := Lib.hid (show checkN n = if 256 < sizeN n then 2 else 0 by unfold checkN; rw [← hv]; rfl)
    have WS := Lib.hid (show IntKind.i64.wrap (sizeN n : Nat) = (sizeN n : Nat) by rw [IntKind.wrap_i64]; omega)
    obtain ⟨s, hs⟩ : ∃ s, s = sizeN n := ⟨_, rfl⟩
    rw [← hs] at HR WS hz
    have HS := Lib.hid hs
    clear h hv hs hw0
    go_enter Try.func9, Try.ntmps9
    go_upto_region 1 with fail
    rw [HW0.out]
    go_wp2_with fail
    refine C0.out.mono ?_
    rintro e w1 ⟨rfl, hb1⟩
    have HA1 := Lib.hid (HA.out.trans (hb1.mono HA.out.size))
    have hk := HB.out.bel hb1
    have y0 : w1.cell? ⟨w.heap.size, 0, none⟩ = some (.bool n.leaf) := hk.cell 0
    have y1 : w1.cell? ⟨w.heap.size, 1, none⟩ = some (.slice A nk ca) := hk.cell 1
    have y2 : w1.cell? ⟨w.heap.size, 2, none⟩ = some (.slice B nv cb) := hk.cell 2
    have y3 : w1.cell? ⟨w.heap.size, 3, none⟩ = some (.slice C nc cc) := hk.cell 3
    have C2 := rsize_any n A B C nk ca nv cb nc cc w1 (H.out.bel HA1.out)
    rw [← HS.out, WS.out] at C2
    have C2 := Lib.hid C2
    clear hb1 hk x0 x1 x2 x3
    go_wp2_with fail
    refine C2.out.mono ?_
    rintro e w2 ⟨rfl, hb2⟩
    have HA2 := Lib.hid (HA1.out.trans (hb2.mono HA1.out.size))
    clear hb2
    by_cases h256 : 256 < s
    · have i1 : (256 : Int) < (s : Int) := by omega
      rw [if_pos h256] at HR
      go_wp2_with fail
      go_ret
      exact ⟨by rw [HR.out]; rfl, HA2.out⟩
    · have i1 : ¬ (256 : Int) < (s : Int) := by omega
      rw [if_neg h256] at HR
      go_wp2_with fail
      go_ret
      exact ⟨by rw [HR.out]; rfl, HA2.out⟩
theorem nd_zero (w : World) : Nd w ⟨false, [], [], []⟩ none none none 0 0 0 0 0 0 :=
  ⟨rfl, rfl, rfl, Seg.nil _ _, Seg.nil _ _, Seg.nil _ _, by omega, by omega, by omega, Nat.le_refl _, Nat.le_refl _, Nat.le_refl _, fun s hs => by simp at hs, fun s hs => by simp at hs⟩
set_option maxRecDepth 100000 in
set_option maxHeartbeats 2000000 in
theorem pdec_any (A : Option Addr) (n c : Nat) (l : List Nat) (hn : n = l.length) (hnc : n ≤ c) (hz : c ≤ 140737488355328) (hl : ∀ x ∈ l, x < 256) (w : World) (hA : Seg w A (u8s l)) :
    Calls Try.prog 4 #[.slice A n c] w fun e w' => e = .returned (.bool true) ∧ Below w.heap.size w w' := by
  obtain ⟨i0, hi0, hz0, hz1, hz2⟩ := info_parts info5
  have HA := Lib.hid hA
  have HN := Lib.hid hn
  have HL := Lib.hid hl
  clear hA hn hl
  go_enter Try.func4, Try.ntmps4
  go_wp2_with (at_builtin; refine wpList_append_seg _ rfl (.tmp 6) (.tmp 7) _ rfl w.heap.size 5 i0 _ 1 Try.underlying27 hi0 hz0 hz1 hz2 rfl _ 0 _ rfl (World.ownsRow_lit w #[] 0 (by omega) (by decide) rfl) A n c (u8s l) rfl (by rw [u8s_length, ← HN.out]) (HA.out.bel ((Below.refl _ _).alloc (Nat.le_refl _) _)) (u8s_one _) (by simp only [maxLen]; omega) (by omega) (by simp only [World.size_alloc]; omega) ?_; intro v1 w1 hown1 hb1; simp only [Nat.zero_add, List.nil_append] at hown1; obtain ⟨A1, c1, rfl, hc1, s1⟩ := own_shape hown1; have S1 := Lib.hid s1; have B1 := Lib.hid (((Below.refl w.heap.size w).alloc (Nat.le_refl _) (.cells #[] 5)).trans hb1); have z1 := B1.out.size; clear hown1 hb1 s1)
  refine (dec_any A1 n c1 l HN.out hc1 HL.out w1 S1.out).mono ?_
  rintro e w2 ⟨b2, hpost⟩
  by_cases h256 : l.length = 256
  · rw [if_pos h256] at hpost
    obtain rfl : n = 256 := by have := HN.out; omega
    cases hnp : nodeP l with
    | none =>
      rw [hnp] at hpost
      have hpost : e = .returned (.tuple #[.agg #[.bool false, .slice none 0 0, .slice none 0 0, .slice none 0 0], .int .i64 4]) := hpost
      subst hpost
      clear h256 hnp
      have BW := Lib.hid ((B1.out.trans (b2.mono z1)).alloc (Nat.le_trans z1 b2.size) (.cells #[.bool false, .slice none 0 0, .slice none 0 0, .slice none 0 0] 25))
      have X2 := Lib.hid (Bk.new w2 25 #[.bool false, .slice none 0 0, .slice none 0 0, .slice none 0 0])
      clear b2
      go_wp2_with fail
      refine (awake_any _).mono ?_
      rintro e w4 ⟨rfl, b4⟩
      have X4 := X2.out.bel b4
      have y0 : w4.cell? ⟨w2.heap.size, 0, none⟩ = some (.bool false) := X4.cell 0
      have y1 : w4.cell? ⟨w2.heap.size, 1, none⟩ = some (.slice none 0 0) := X4.cell 1
      have y2 : w4.cell? ⟨w2.heap.size, 2, none⟩ = some (.slice none 0 0) := X4.cell 2
      have y3 : w4.cell? ⟨w2.heap.size, 3, none⟩ = some (.slice none 0 0) := X4.cell 3
      have B4 := Lib.hid (BW.out.trans (b4.mono BW.out.size))
      clear b4 X4
      go_wp2_with fail
      refine (nsame_any false [] [] [] none none none none none none 0 0 0 0 0 0 0 0 0 w4 (nd_zero w4) (nd_zero w4)).mono ?_
      rintro e w5 ⟨rfl, b5⟩
      have B5 := Lib.hid (B4.out.trans (b5.mono B4.out.size))
      clear b5
      go_wp2_with fail
      go_ret
      exact ⟨rfl, B5.out⟩
    | some m =>
      rw [hnp] at hpost
      obtain ⟨A2, C2, D2, ca, cb, cc, rfl, hnd⟩ := hpost
      obtain ⟨hf, hs, he⟩ := nodeP_of h256 HL.out hnp
      have BW := Lib.hid ((B1.out.trans (b2.mono z1)).alloc (Nat.le_trans z1 b2.size) (.cells #[.bool m.leaf, .slice A2 m.keys.length ca, .slice C2 m.vals.length cb, .slice D2 m.kids.length cc] 25))
      have X2 := Lib.hid (Bk.new w2 25 #[.bool m.leaf, .slice A2 m.keys.length ca, .slice C2 m.vals.length cb, .slice D2 m.kids.length cc])
      have N2 := Lib.hid (hnd.bel ((Below.refl _ _).alloc (Nat.le_refl _) (.cells #[.bool m.leaf, .slice A2 m.keys.length ca, .slice C2 m.vals.length cb, .slice D2 m.kids.length cc] 25)))
      have HCK := Lib.hid (show checkN m = 0 from checkN_zero.2 ⟨hf, hs⟩)
      have HF := Lib.hid hf
      have HS := Lib.hid hs
      have HE := Lib.hid he
      have HAw := Lib.hid (HA.out.bel BW.out)
      clear b2 hnd hf hs he hnp h256
      go_wp2_with fail
      refine (awake_any _).mono ?_
      rintro e w4 ⟨rfl, b4⟩
      have X4 := Lib.hid (X2.out.bel b4)
      have N4 := Lib.hid (N2.out.bel b4)
      have A4 := Lib.hid (HAw.out.bel b4)
      have B4 := Lib.hid (BW.out.trans (b4.mono BW.out.size))
      clear b4
      have y0 : w4.cell? ⟨w2.heap.size, 0, none⟩ = some (.bool m.leaf) := X4.out.cell 0
      have y1 : w4.cell? ⟨w2.heap.size, 1, none⟩ = some (.slice A2 m.keys.length ca) := X4.out.cell 1
      have y2 : w4.cell? ⟨w2.heap.size, 2, none⟩ = some (.slice C2 m.vals.length cb) := X4.out.cell 2
      have y3 : w4.cell? ⟨w2.heap.size, 3, none⟩ = some (.slice D2 m.kids.length cc) := X4.out.cell 3
      have RC := rcheck_any m A2 C2 D2 m.keys.length ca m.vals.length cb m.kids.length cc w4 N4.out (fun _ => by have := HS.out; omega)
      rw [HCK.out, show ((0 : Nat) : Int) = 0 from rfl] at RC
      have RC := Lib.hid RC
      go_wp2_with fail
      refine RC.out.mono ?_
      rintro e w5 ⟨rfl, b5⟩
      have X5 := Lib.hid (X4.out.bel b5)
      have N5 := Lib.hid (N4.out.bel b5)
      have A5 := Lib.hid (A4.out.bel b5)
      have B5 := Lib.hid (B4.out.trans (b5.mono B4.out.size))
      clear b5 y0 y1 y2 y3
      have y0 : w5.cell? ⟨w2.heap.size, 0, none⟩ = some (.bool m.leaf) := X5.out.cell 0
      have y1 : w5.cell? ⟨w2.heap.size, 1, none⟩ = some (.slice A2 m.keys.length ca) := X5.out.cell 1
      have y2 : w5.cell? ⟨w2.heap.size, 2, none⟩ = some (.slice C2 m.vals.length cb) := X5.out.cell 2
      have y3 : w5.cell? ⟨w2.heap.size, 3, none⟩ = some (.slice D2 m.kids.length cc) := X5.out.cell 3
      have RE := renc_any m A2 C2 D2 m.keys.length ca m.vals.length cb m.kids.length cc w5 N5.out HF.out HS.out
      rw [HE.out] at RE
      have RE := Lib.hid RE
      go_wp2_with fail
      refine RE.out.mono ?_
      rintro e w6 ⟨⟨A6, c6, rfl, hc6, s6⟩, b6⟩
      have A6' := Lib.hid (A5.out.bel b6)
      have S6 := Lib.hid s6
      have B6 := Lib.hid (B5.out.trans (b6.mono B5.out.size))
      clear b6 s6 y0 y1 y2 y3
      have SM := same_u8 A A6 256 256 c c6 l l HN.out HN.out w6 A6'.out S6.out (by omega) (by omega)
      rw [show decide (l = l) = true by simp] at SM
      have SM := Lib.hid SM
      go_wp2_with fail
      refine SM.out.mono ?_
      rintro e w7 ⟨rfl, b7⟩
      have B7 := Lib.hid (B6.out.trans (b7.mono B6.out.size))
      clear b7
      go_wp2_with fail
      go_ret
      exact ⟨rfl, B7.out⟩
  · rw [if_neg h256] at hpost
    have hpost : e = .returned (.tuple #[.agg #[.bool false, .slice none 0 0, .slice none 0 0, .slice none 0 0], .int .i64 1]) := hpost
    subst hpost
    have i1 : ((n : Int) != 256) = true := by rw [bne_iff_ne]; have := HN.out; omega
    clear h256
    have BW := Lib.hid ((B1.out.trans (b2.mono z1)).alloc (Nat.le_trans z1 b2.size) (.cells #[.bool false, .slice none 0 0, .slice none 0 0, .slice none 0 0] 25))
    have X2 := Lib.hid (Bk.new w2 25 #[.bool false, .slice none 0 0, .slice none 0 0, .slice none 0 0])
    clear b2
    go_wp2_with fail
    refine (awake_any _).mono ?_
    rintro e w4 ⟨rfl, b4⟩
    have X4 := X2.out.bel b4
    have y0 : w4.cell? ⟨w2.heap.size, 0, none⟩ = some (.bool false) := X4.cell 0
    have y1 : w4.cell? ⟨w2.heap.size, 1, none⟩ = some (.slice none 0 0) := X4.cell 1
    have y2 : w4.cell? ⟨w2.heap.size, 2, none⟩ = some (.slice none 0 0) := X4.cell 2
    have y3 : w4.cell? ⟨w2.heap.size, 3, none⟩ = some (.slice none 0 0) := X4.cell 3
    have B4 := Lib.hid (BW.out.trans (b4.mono BW.out.size))
    clear b4 X4
    go_wp2_with fail
    refine (nsame_any false [] [] [] none none none none none none 0 0 0 0 0 0 0 0 0 w4 (nd_zero w4) (nd_zero w4)).mono ?_
    rintro e w5 ⟨rfl, b5⟩
    have B5 := Lib.hid (B4.out.trans (b5.mono B4.out.size))
    clear b5
    go_wp2_with fail
    go_ret
    exact ⟨rfl, B5.out⟩
end Go.Proofs.Ytcnfnfnmpifahaa
