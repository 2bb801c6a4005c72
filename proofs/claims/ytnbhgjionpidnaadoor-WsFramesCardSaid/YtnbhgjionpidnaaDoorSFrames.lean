/- WsFrames. Condition: the tables of UTF-8 are laid. -/
import Derived.Test.YtnbhgjionpidnaaDoorSREnc
import Derived.Test.YtnbhgjionpidnaaDoorSCls
import Derived.Test.YtnbhgjionpidnaaDoorSSha
import Derived.Test.YtnbhgjionpidnaaDoorSB64
import Derived.Test.YtnbhgjionpidnaaDoorSWake
import Derived.Test.YtnbhgjionpidnaaDoorSOpen
namespace Go.Proofs.YtnbhgjionpidnaaDoor
open Go.RowKit

set_option maxRecDepth 100000 in
set_option maxHeartbeats 1000000 in
theorem raccept_any (key : ByteArray) (hz : key.size ≤ 90000) (w : World) : Calls Tryd.prog 13 #[.string key] w fun e w' => e = .returned (.string (acceptN key)) ∧ Below w.heap.size w w' := by
  have hTz : (key ++ guidS).size ≤ 90036 := by rw [ByteArray.size_append]; show _ + 36 ≤ _; omega
  have HR := Lib.hid (show acceptN key = txt (b64N (shaN (octs (key ++ guidS)))) from rfl)
  obtain ⟨c, w0, hrun, hc, hs, hb⟩ := convS_any (key ++ guidS) w
  have C1 := Lib.hid (rsha_any (some ⟨w.heap.size, 0, none⟩) (key ++ guidS).size c (octs (key ++ guidS)) (octs_length _).symm (by omega) w0 hs (octs_lt _))
  obtain ⟨X, hX⟩ : ∃ X, X = shaN (octs (key ++ guidS)) := ⟨_, rfl⟩
  have HXl := Lib.hid (show X.length = 20 by rw [hX]; exact shaN_length _)
  have HXb := Lib.hid (show ∀ x ∈ X, x < 256 by rw [hX]; exact outN_lt _)
  rw [← hX] at C1 HR
  obtain ⟨N, hN⟩ : ∃ N, N = (key ++ guidS).size := ⟨_, rfl⟩
  rw [← hN] at hrun C1
  have hrun : (convert 9 25 (.string (key ++ ⟨#[50, 53, 56, 69, 65, 70, 65, 53, 45, 69, 57, 49, 52, 45, 52, 55, 68, 65, 45, 57, 53, 67, 65, 45, 67, 53, 65, 66, 48, 68, 67, 56, 53, 66, 49, 49]⟩))).run Tryd.prog w = .ok (.slice (some ⟨w.heap.size, 0, none⟩) N c) w0 := hrun
  have HB0 := Lib.hid hb
  clear hX hs hb hTz hN hc
  go_enter Tryd.func13, Tryd.ntmps13
  go_wp2_with fail
  refine C1.out.mono ?_
  rintro e w1 ⟨A1, c1, rfl, hc1, ho1, b1⟩
  obtain ⟨A2, c2, e2, _, hs1⟩ := own_shape ho1
  have e3 : A2 = A1 := by
    injection e2 with e3 _ _
    exact e3.symm
  rw [e3] at hs1
  have C2 := Lib.hid (refb64_any A1 20 c1 X HXl.out.symm (by decide) w1 hs1 HXb.out)
  have HB1 := Lib.hid (HB0.out.trans (b1.mono HB0.out.size))
  clear hs1 ho1 b1 hrun e2 e3 hc1
  go_wp2_with fail
  refine C2.out.mono ?_
  rintro e w2 ⟨rfl, b2⟩
  have HB2 := Lib.hid (HB1.out.trans (b2.mono HB1.out.size))
  clear b2
  go_wp2_with fail
  go_ret
  exact ⟨by rw [HR.out]; simp only [Array.getD, List.size_toArray, List.length_cons, List.length_nil]; exact congrArg (fun x => Ending.returned (.string x)) (Eq.refl (txt (b64N X))), HB2.out⟩
theorem encN_len (fin : Bool) (op : Nat) (msk : Bool) (p : ByteArray) (M : Nat → Nat) : (encN ⟨fin, op, msk, p⟩ M).length ≤ 8 + p.size := by
  rw [encN_eq, List.length_append, List.length_append]
  have h1 : (headE fin op msk p.size).length ≤ 4 := by
    unfold headE
    by_cases h : p.size < 126
    · rw [if_pos h]
      simp
    · rw [if_neg h]
      simp
  have h2 : (maskE msk M).length ≤ 4 := by
    cases msk
    · exact Nat.zero_le _
    · exact Nat.le_refl _
  have h3 : (bodyE msk M p).length = p.size := by
    unfold bodyE
    split
    · rw [xorN_length, octs_length]
    · exact octs_length p
  omega
/-- What Encode answers of any frame. -/
def EncR (fin msk : Bool) (op : Int) (M : Nat → Nat) (p : ByteArray) (A : Option Addr) (n _c : Nat) (ec : Int) (w : World) : Prop :=
  ((op < 0 ∨ 15 < op) ∧ n = 0 ∧ ec = 1) ∨ (0 ≤ op ∧ op ≤ 15 ∧ 4096 < p.size ∧ n = 0 ∧ ec = 2) ∨
  (0 ≤ op ∧ op ≤ 15 ∧ p.size ≤ 4096 ∧ ec = 0 ∧ n = (encN ⟨fin, op.toNat, msk, p⟩ M).length ∧ Seg w A (u8s (encN ⟨fin, op.toNat, msk, p⟩ M)))
theorem EncR.bel {fin msk : Bool} {op : Int} {M : Nat → Nat} {p : ByteArray} {A : Option Addr} {n c : Nat} {ec : Int} {w w' : World} (h : EncR fin msk op M p A n c ec w) (hb : Below w.heap.size w w') : EncR fin msk op M p A n c ec w' :=
  h.imp id fun h => h.imp id fun ⟨h1, h2, h3, h4, h5, h6⟩ => ⟨h1, h2, h3, h4, h5, h6.bel hb⟩
theorem enc_all (fin msk : Bool) (op : Int) (M : Nat → Nat) (p : ByteArray) (hM : ∀ i, i < 4 → M i < 256) (w : World) :
    Calls Tryd.prog 9 #[.agg #[.bool fin, .int .i64 op, .bool msk, .int .u8 (M 0 : Nat), .int .u8 (M 1 : Nat), .int .u8 (M 2 : Nat), .int .u8 (M 3 : Nat), .string p]] w fun e w' => ∃ A n c ec, e = .returned (.tuple #[.slice A n c, .int .i64 ec]) ∧ EncR fin msk op M p A n c ec w' ∧ Below w.heap.size w w' := by
  by_cases h : op < 0 ∨ 15 < op
  · refine (enc_arg fin msk op M p h w).mono ?_
    rintro e w' ⟨rfl, hb⟩
    exact ⟨none, 0, 0, 1, rfl, .inl ⟨h, rfl, rfl⟩, hb⟩
  · by_cases hp : 4096 < p.size
    · refine (enc_big fin msk op M p (by omega) (by omega) hp w).mono ?_
      rintro e w' ⟨rfl, hb⟩
      exact ⟨none, 0, 0, 2, rfl, .inr (.inl ⟨by omega, by omega, hp, rfl, rfl⟩), hb⟩
    · obtain ⟨o, rfl⟩ : ∃ o : Nat, op = (o : Int) := ⟨op.toNat, by omega⟩
      refine (enc_any fin msk o M p (by omega) (by omega) hM w).mono ?_
      rintro e w' ⟨v, rfl, ho, hb⟩
      obtain ⟨A, c, rfl, _, hs⟩ := own_shape ho
      exact ⟨A, _, c, 0, rfl, .inr (.inr ⟨by omega, by omega, by omega, rfl, rfl, hs⟩), hb⟩
set_option maxRecDepth 100000 in
set_option maxHeartbeats 4000000 in
theorem frames_any (fin msk : Bool) (op : Int) (M : Nat → Nat) (p key : ByteArray) (code : Int) (hp : p.size ≤ 9223372036854775807) (hk : key.size ≤ 9223372036854775807) (hc : -9223372036854775808 ≤ code ∧ code ≤ 9223372036854775807) (hM : ∀ i, i < 4 → M i < 256) (w : World) (hT : Tabs w) :
    Calls Tryd.prog 3 #[.agg (frO fin op msk M p), .string key, .int .i64 code] w fun e w' => e = .returned (.bool true) ∧ Below w.heap.size w w' := by
  obtain ⟨w0, hw0⟩ : ∃ x, x = w.alloc (.cells (frO fin op msk M p) 24) := ⟨_, rfl⟩
  have b0 : Below w.heap.size w w0 := by rw [hw0]; exact (Below.refl _ _).alloc (Nat.le_refl _) _
  obtain ⟨g, hg⟩ : ∃ x, x = w.heap.size := ⟨_, rfl⟩
  have hB : Bk w0 g 24 (frO fin op msk M p) := by rw [hw0, hg]; exact Bk.new w _ _
  have y0 : w0.cell? ⟨g, 0, none⟩ = some (.bool fin) := hB.cell 0
  have y1 : w0.cell? ⟨g, 1, none⟩ = some (.int .i64 op) := hB.cell 1
  have y2 : w0.cell? ⟨g, 2, none⟩ = some (.bool msk) := hB.cell 2
  have y3 : w0.cell? ⟨g, 3, none⟩ = some (.int .u8 (M 0 : Nat)) := hB.cell 3
  have y4 : w0.cell? ⟨g, 4, none⟩ = some (.int .u8 (M 1 : Nat)) := hB.cell 4
  have y5 : w0.cell? ⟨g, 5, none⟩ = some (.int .u8 (M 2 : Nat)) := hB.cell 5
  have y6 : w0.cell? ⟨g, 6, none⟩ = some (.int .u8 (M 3 : Nat)) := hB.cell 6
  have y7 : w0.cell? ⟨g, 7, none⟩ = some (.string p) := hB.cell 7
  have CE := Lib.hid (enc_all fin msk op M p hM w0)
  have HB := Lib.hid hB
  have HB0 := Lib.hid b0
  have HW0 := Lib.hid hw0
  have HG := Lib.hid hg
  have HM := Lib.hid hM
  have HT := Lib.hid hT
  have HC := Lib.hid hc
  have HGZ := Lib.hid hB.lt
  clear hw0 b0 hg hB hM hT hc
  unfold frO at HW0 ⊢
  go_enter Tryd.func3, Tryd.ntmps3
  go_upto_region 1 with fail
  rw [← HW0.out, ← HG.out]
  go_wp2_with fail
  refine CE.out.mono ?_
  rintro e w1 ⟨A1, n1, c1, ec, rfl, hE, b1⟩
  have HE := Lib.hid hE
  have HB1 := Lib.hid b1
  clear hE b1 CE y0 y1 y2 y3 y4 y5 y6 y7
  go_upto_if 18 with fail
  obtain ⟨k2, hk2⟩ : ∃ x, x = (if 200 < key.size then key.extract 0 200 else key) := ⟨_, rfl⟩
  have hks : k2.size ≤ 200 := by
    rw [hk2]
    split
    · rw [ByteArray.size_extract]; omega
    · omega
  have HK := Lib.hid hk2
  clear hk2
  go_cut [1] (fun s wx => s = .string k2 ∧ wx = w1)
  case first =>
    by_cases h2 : 200 < key.size
    · have i1 : (200 : Int) < (key.size : Int) := by omega
      go_wp2_with fail
      go_meet
      refine ⟨?_, rfl⟩
      rw [HK.out, if_pos h2]
    · have i1 : ¬ (200 : Int) < (key.size : Int) := by omega
      go_wp2_with fail
      go_meet
      refine ⟨?_, rfl⟩
      rw [HK.out, if_neg h2]
  case rest =>
    obtain ⟨rfl, hw⟩ := hcut
    rw [hw]
    clear hw
    have CC := Lib.hid (closing_any code k2 HC.out (by omega) w1)
    go_wp2_with fail
    refine CC.out.mono ?_
    rintro e w2 ⟨rfl, b2⟩
    have HB2 := Lib.hid (HB1.out.trans (b2.mono HB1.out.size))
    have HE2 := Lib.hid (HE.out.bel b2)
    clear b2 CC HE HB1
    go_upto_if 25 with fail
    obtain ⟨C, hC⟩ : ∃ x, x = clsN code k2 := ⟨_, rfl⟩
    rw [← hC]
    have HCN := Lib.hid hC
    clear hC
    go_cut [10] (fun s wx => s = .string C ∧ Below w2.heap.size w2 wx)
    case first =>
      by_cases h5 : code = 1005
      · have i1 : (code != 1005) = false := by simp [h5]
        have i2 : (code == 1005) = true := by simp [h5]
        have i3 : decide (code = 1005) = true := by simp [h5]
        go_wp2_with fail
        go_meet
        refine ⟨?_, Below.refl _ _⟩
        rw [HCN.out]
        unfold clsN
        rw [if_pos h5]
      · have i1 : (code != 1005) = true := by simp [h5]
        have i2 : (code == 1005) = false := by simp [h5]
        have hc := HC.out
        have e1 : IntKind.u8.wrap (code / 256) = (((code / 256 % 256).toNat : Nat) : Int) := by rw [IntKind.wrap_u8]; omega
        have e2 : IntKind.u8.wrap code = (((code % 256).toNat : Nat) : Int) := by rw [IntKind.wrap_u8]; omega
        obtain ⟨a, ha⟩ : ∃ a, a = (code / 256 % 256).toNat := ⟨_, rfl⟩
        obtain ⟨b, hb⟩ : ∃ b, b = (code % 256).toNat := ⟨_, rfl⟩
        rw [← ha] at e1
        rw [← hb] at e2
        have ha2 : a < 256 := by omega
        have hb2 : b < 256 := by omega
        obtain ⟨w3, hw3⟩ : ∃ x, x = w2.alloc (.cells #[.int .u8 (a : Int), .int .u8 (b : Int)] 5) := ⟨_, rfl⟩
        have hs : Seg w3 (some ⟨w2.heap.size, 0, none⟩) (u8s [a, b]) := by
          rw [hw3]
          exact Seg.of_block (heap_alloc_new _ _) (fun i _ => by simp [u8s])
        have cv := run_txt w3 (some ⟨w2.heap.size, 0, none⟩) 2 2 [a, b] rfl hs (fun x hx => by
          simp only [List.mem_cons, List.not_mem_nil, or_false] at hx
          rcases hx with rfl | rfl
          · exact ha2
          · exact hb2)
        have HR := Lib.hid (show C = txt [a, b] ++ k2 by rw [HCN.out]; unfold clsN; rw [if_neg h5, ← ha, ← hb])
        have htz : (txt [a, b]).size ≤ 2 := by
          show (List.map UInt8.ofNat [a, b]).toArray.size ≤ 2
          simp
        obtain ⟨X, hX⟩ : ∃ X, X = txt [a, b] := ⟨_, rfl⟩
        rw [← hX] at cv htz HR
        rw [hw3] at cv
        have hadd : ∀ w' : World, (Op.stringOp .add X k2).run Tryd.prog w' = .ok (.string C) w' := fun w' => by rw [HR.out]; exact run_string_add_sum (P := Tryd.prog) w' _ _ (by omega)
        have HB3 := Lib.hid (show Below w2.heap.size w2 (w2.alloc (.cells #[.int .u8 (a : Int), .int .u8 (b : Int)] 5)) from (Below.refl _ _).alloc (Nat.le_refl _) _)
        clear hs ha hb hX hw3 hc
        go_wp2_with fail
        go_meet
        exact ⟨rfl, HB3.out⟩
    case rest =>
      obtain ⟨rfl, hb3⟩ := hcut
      obtain ⟨w3, hw3⟩ : ∃ x, x = wc := ⟨_, rfl⟩
      rw [← hw3] at hb3 ⊢
      have HE3 := Lib.hid (HE2.out.bel hb3)
      have HB3 := Lib.hid (HB2.out.trans (hb3.mono HB2.out.size))
      clear hb3 hw3 HE2 HB2
      have hT3 := HT.out.bel (HB0.out.trans (HB3.out.mono HB0.out.size))
      have CA := Lib.hid (awake_any w3 hT3)
      clear hT3
      go_wp2_with fail
      refine CA.out.mono ?_
      rintro e w4 ⟨rfl, b4⟩
      have HE4 := Lib.hid (HE3.out.bel b4)
      have HB4 := Lib.hid (HB3.out.trans (b4.mono HB3.out.size))
      have CK := Lib.hid (accept_any k2 (by omega) w4)
      clear b4 CA HE3 HB3
      go_wp2_with fail
      refine CK.out.mono ?_
      rintro e w5 ⟨rfl, b5⟩
      have HE5 := Lib.hid (HE4.out.bel b5)
      have HB5 := Lib.hid (HB4.out.trans (b5.mono HB4.out.size))
      have CR := Lib.hid (raccept_any k2 (by omega) w5)
      obtain ⟨AN, hAN⟩ : ∃ x, x = acceptN k2 := ⟨_, rfl⟩
      rw [← hAN] at CR ⊢
      clear b5 CK HE4 HB4 hAN
      go_wp2_with fail
      refine CR.out.mono ?_
      rintro e w6 ⟨rfl, b6⟩
      have HE6 := Lib.hid (HE5.out.bel b6)
      have HB6 := Lib.hid (HB5.out.trans (b6.mono HB5.out.size))
      have hB6 := HB.out.below HB6.out HGZ.out
      have y1 : w6.cell? ⟨g, 1, none⟩ = some (.int .i64 op) := hB6.cell 1
      have y7 : w6.cell? ⟨g, 7, none⟩ = some (.string p) := hB6.cell 7
      clear b6 CR HE5 HB5
      have HBK := Lib.hid hB6
      clear hB6
      have FB := Lib.hid (HB0.out.trans (HB6.out.mono HB0.out.size))
      rcases HE6.out with ⟨h1, rfl, rfl⟩ | ⟨h1, h2, h3, rfl, rfl⟩ | ⟨h1, h2, h3, rfl, hn, hs⟩
      · clear HE6
        rcases h1 with h1 | h1
        · go_wp2_with fail
          go_ret
          exact ⟨rfl, FB.out⟩
        · have i1 : ¬ op < 0 := by omega
          go_wp2_with fail
          go_ret
          exact ⟨rfl, FB.out⟩
      · clear HE6
        have i1 : ¬ op < 0 := by omega
        have i2 : ¬ 15 < op := by omega
        have i3 : (4096 : Int) < (p.size : Int) := by omega
        go_wp2_with fail
        go_ret
        exact ⟨rfl, FB.out⟩
      · clear HE6
        have i1 : ¬ op < 0 := by omega
        have i2 : ¬ 15 < op := by omega
        have i3 : ¬ (4096 : Int) < (p.size : Int) := by omega
        have y0 : w6.cell? ⟨g, 0, none⟩ = some (.bool fin) := HBK.out.cell 0
        have y2 : w6.cell? ⟨g, 2, none⟩ = some (.bool msk) := HBK.out.cell 2
        have y3 : w6.cell? ⟨g, 3, none⟩ = some (.int .u8 (M 0 : Nat)) := HBK.out.cell 3
        have y4 : w6.cell? ⟨g, 4, none⟩ = some (.int .u8 (M 1 : Nat)) := HBK.out.cell 4
        have y5 : w6.cell? ⟨g, 5, none⟩ = some (.int .u8 (M 2 : Nat)) := HBK.out.cell 5
        have y6 : w6.cell? ⟨g, 6, none⟩ = some (.int .u8 (M 3 : Nat)) := HBK.out.cell 6
        obtain ⟨o, rfl⟩ : ∃ o : Nat, op = (o : Int) := ⟨op.toNat, by omega⟩
        rw [Int.toNat_natCast] at hn hs
        have CN := Lib.hid (renc_any fin msk o M p (by omega) (by omega) HM.out w6)
        have HN := Lib.hid hn
        have HS := Lib.hid hs
        clear hn hs
        go_wp2_with fail
        refine CN.out.mono ?_
        rintro e w7 ⟨v7, rfl, ho7, b7⟩
        obtain ⟨A7, c7, rfl, _, s7⟩ := own_shape ho7
        have FB7 := Lib.hid (FB.out.trans (b7.mono FB.out.size))
        have CS := Lib.hid (show Calls Tryd.prog 14 #[.slice A1 n1 c1, .slice A7 (encN ⟨fin, o, msk, p⟩ M).length c7] w7 fun e w' => e = .returned (.bool true) ∧ Below w7.heap.size w7 w' by
          have hq : ∀ l : List Nat, u8s l = (l.map fun (x : Nat) => (x : Int)).map (Value.int .u8) := fun l => by simp [u8s]
          have hl2 : (encN ⟨fin, o, msk, p⟩ M).length ≤ 5000 := Nat.le_trans (encN_len fin o msk p M) (by omega)
          have h1 := HS.out.bel b7
          rw [hq] at h1
          rw [hq] at s7
          have := same_any A1 A7 c1 c7 _ _ w7 h1 s7 (by simp; omega) (by simp; omega)
          simp only [List.length_map, decide_true] at this
          rw [HN.out]
          exact this)
        clear ho7 s7 b7 CN
        go_wp2_with fail
        refine CS.out.mono ?_
        rintro e w8 ⟨rfl, b8⟩
        have FB8 := Lib.hid (FB7.out.trans (b8.mono FB7.out.size))
        clear b8
        go_wp2_with fail
        go_ret
        exact ⟨rfl, FB8.out⟩
end Go.Proofs.YtnbhgjionpidnaaDoor
