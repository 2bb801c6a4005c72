/- The walk of FnumTexts. Conditions: the text is not huge; the library's table and errors are laid. -/
import Derived.Test.YtjlkmfnkpnmbiaaDoorWhQ
import Derived.Test.YtjlkmfnkpnmbiaaDoorLawB
namespace Go.Proofs.YtjlkmfnkpnmbiaaDoor
open Go.RowKit Go.Shelf

theorem showS_size {b : Nat} (hb : b < 18446744073709551616) : (showS b).size ≤ 281474976710655 := by
  have h := show_kinds hb
  cases h with
  | nan h1 h2 => rw [h2]; decide
  | minf h1 h2 h3 => rw [h3]; decide
  | inf h1 h2 h3 => rw [h3]; decide
  | mz h1 h2 h3 => rw [h3]; decide
  | int n h1 h2 h3 h4 h5 =>
    rw [h5]
    show (Lib.itoa n).toArray.size ≤ _
    have : (Lib.itoa n).length ≤ 18 := by
      unfold Lib.itoa
      split
      · have := decS_size n.natAbs (by omega)
        unfold decS at this
        have h : (Lib.decDigits n.natAbs).toArray.size ≤ 17 := this
        simp at h ⊢; omega
      · have := decS_size n.toNat (by omega)
        unfold decS at this
        have h : (Lib.decDigits n.toNat).toArray.size ≤ 17 := this
        simp at h ⊢; omega
    simp; omega
  | hex h1 h2 =>
    rw [h2, hex_list]
    show (126 :: hexL b).toArray.size ≤ _
    simp [hexL]
set_option maxHeartbeats 2000000 in
set_option maxRecDepth 100000 in
theorem texts_any (u : Nat) (hu : u < 18446744073709551616) (s : ByteArray) (hs : s.size ≤ 281474976710655) (w : World) (hE : Errs w) (hT : Pows w) :
    Calls Tryd.prog 8 #[.int .u64 u, .string s] w fun e w' => e = .returned (.bool true) ∧ Below w.heap.size w w' := by
  have HU := Lib.hid hu
  have HW := Lib.hid (And.intro hE hT)
  have HS := Lib.hid hs
  have hff := run_floatbits
  have HBL := Lib.hid (bitsN_lt u hu)
  have HSZ := Lib.hid (showS_size hu)
  obtain ⟨n, hn⟩ : ∃ n, n = wholeV u := ⟨_, rfl⟩
  obtain ⟨o, ho⟩ : ∃ o, o = (wholeN u).isSome := ⟨_, rfl⟩
  have C1 := Lib.hid (fun w' => whole_any u hu w')
  have C2 := Lib.hid (fun w' => rwhole_any u hu w')
  rw [← hn, ← ho] at C1 C2
  have C3 := Lib.hid (fun w' h => show_any u hu w' h)
  have C4 := Lib.hid (fun w' => rshow_any (bitsN u) HBL.out w')
  rw [show_bits] at C4
  obtain ⟨t, ht⟩ : ∃ t, t = showS u := ⟨_, rfl⟩
  rw [← ht] at C3 C4 HSZ
  have HTT := Lib.hid ht
  clear hu hE hT hn ho ht hs
  have q1 : (t.toList == t.toList) = true := by simp
  have q2 : ((n : Int) == n) = true := by simp
  go_enter Tryd.func8, Tryd.ntmps8
  go_wp2_with (first
    | (go_at_call 13; refine (of_nat _ _).mono ?_; rintro e w' ⟨rfl, rfl⟩)
    | (go_at_call 34; refine (C1.out _).mono ?_; rintro e w' ⟨rfl, rfl⟩)
    | (go_at_call 35; refine (C2.out _).mono ?_; rintro e w' ⟨rfl, rfl⟩))
  refine (C3.out _ HW.out.2).mono ?_
  rintro e w1 ⟨rfl, b1⟩
  have B1 := Lib.hid b1
  clear b1
  go_wp2_with fail
  refine (read_any t HSZ.out w1 (HW.out.1.bel B1.out) (HW.out.2.bel B1.out)).mono ?_
  rintro e w2 ⟨x, yes, rfl, hx, b2⟩
  have B2 := Lib.hid (B1.out.trans (b2.mono B1.out.size))
  obtain ⟨rfl, hxb⟩ := hx.2.2.2 u HU.out HTT.out.symm
  have HX := Lib.hid (And.intro hx.1 hxb)
  clear b2 hx hxb B1
  go_wp2_with fail
  refine (read_any s HS.out w2 (HW.out.1.bel B2.out) (HW.out.2.bel B2.out)).mono ?_
  rintro e w3 ⟨y, rd, rfl, hy, b3⟩
  have B3 := Lib.hid (B2.out.trans (b3.mono B2.out.size))
  have HY := Lib.hid hy
  clear b3 hy B2
  go_wp2_with fail
  refine (awake_bel w3).mono ?_
  rintro e w4 ⟨rfl, b4⟩
  have B4 := Lib.hid (B3.out.trans (b4.mono B3.out.size))
  clear b4 B3
  have CX := Lib.hid (bits_any x HX.out.1)
  rw [HX.out.2] at CX
  go_wp2_with (go_at_call 17; refine (refbits_any _ HU.out _).mono ?_; rintro e w' ⟨rfl, rfl⟩)
  refine (C4.out _).mono ?_
  rintro e w5 ⟨rfl, b5⟩
  have B5 := Lib.hid (B4.out.trans (b5.mono B4.out.size))
  clear b5 B4
  cases rd
  · have hy0 := HY.out.2.1 rfl
    subst hy0
    have h0 : (FloatKind.f64.format.order 0 0 == some Ordering.eq) = true := by decide +kernel
    go_wp2_with (first
      | (go_at_call 17; refine (refbits_any _ HU.out _).mono ?_; rintro e w' ⟨rfl, rfl⟩)
      | (go_at_call 16; refine (CX.out _).mono ?_; rintro e w' ⟨rfl, rfl⟩))
    go_ret
    exact ⟨rfl, B5.out⟩
  · have hyl := HY.out.1
    have hys := HY.out.2.2.1 rfl
    have CY := Lib.hid (fun w' => rshow_any (bitsN y) (bitsN_lt y hyl) w')
    rw [show_bits, hys] at CY
    have CR := Lib.hid (refbits_any y hyl)
    have q3 : (s.toList == s.toList) = true := by simp
    clear hyl hys
    go_wp2_with (first
      | (go_at_call 17; refine (refbits_any _ HU.out _).mono ?_; rintro e w' ⟨rfl, rfl⟩)
      | (go_at_call 16; refine (CX.out _).mono ?_; rintro e w' ⟨rfl, rfl⟩)
      | (go_at_call 17; refine (CR.out _).mono ?_; rintro e w' ⟨rfl, rfl⟩))
    refine (CY.out _).mono ?_
    rintro e w6 ⟨rfl, b6⟩
    have B6 := Lib.hid (B5.out.trans (b6.mono B5.out.size))
    clear b6 B5
    go_wp2_with fail
    go_ret
    exact ⟨rfl, B6.out⟩
end Go.Proofs.YtjlkmfnkpnmbiaaDoor
