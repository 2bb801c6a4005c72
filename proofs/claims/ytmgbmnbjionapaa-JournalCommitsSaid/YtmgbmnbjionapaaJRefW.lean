/- A commit that is refused changes nothing, and the next one does what it would have done: the statement's walk. Condition: the blocks lie in memory. -/
import Derived.Test.YtmgbmnbjionapaaJSt
import Derived.Test.YtmgbmnbjionapaaJPlaced
namespace Go.Proofs.Ytmgbmnbjionapaa
open Go.RowKit

theorem BsAt.ws {w0 w : World} {S : Nat → Prop} {A : Option Addr} {bs : List BW} {T : Nat} (h : BsAt w0 A bs) (hS : ∀ i, S i → w0.heap.size ≤ i) (hb : Below w0.heap.size w0 w) : (∀ x ∈ bs, ¬ x.bad T) → WsAt w S A (bs.map BW.nat) := fun hok => (ws_of h hok hS).bel hb
theorem Kp.lows {S S' : Nat → Prop} {a w : World} (h : Kp S S' a w) {B : Nat} (hS : ∀ i, S i → B ≤ i) (hB : B ≤ a.heap.size) : ∀ i, S' i → B ≤ i := fun i hi => (h.news i hi).elim (hS i) (fun hge => Nat.le_trans hB hge)
set_option maxRecDepth 100000 in
set_option maxHeartbeats 8000000 in
theorem refuses_any (T b s : Int) (A A2 : Option Addr) (n c n2 c2 : Nat) (bs bs2 : List BW) (w : World) (hn : n = bs.length) (hnc : n ≤ c) (hB : BsAt w A bs) (hn2 : n2 = bs2.length) (hnc2 : n2 ≤ c2) (hB2 : BsAt w A2 bs2) :
    Calls Try.prog 11 #[.int .i64 T, .int .i64 b, .int .i64 s, .slice A n c, .slice A2 n2 c2] w fun e w' => e = .returned (.bool true) ∧ Below w.heap.size w w' := by
  have FX := fun w => awake_any w
  by_cases h1 : T < 1
  · have CA := Lib.hid (FX w)
    clear FX hn hB hn2 hB2
    go_enter Try.func11, Try.ntmps11
    go_wp2_with fail
    refine CA.out.mono ?_
    rintro e w1 ⟨rfl, hb⟩
    have HB := Lib.hid hb
    clear hb
    go_wp2_with fail
    go_ret
    exact ⟨rfl, HB.out⟩
  by_cases h2 : 80 < T
  · have CA := Lib.hid (FX w)
    clear FX hn hB hn2 hB2
    go_enter Try.func11, Try.ntmps11
    go_wp2_with fail
    refine CA.out.mono ?_
    rintro e w1 ⟨rfl, hb⟩
    have HB := Lib.hid hb
    clear hb
    go_wp2_with fail
    go_ret
    exact ⟨rfl, HB.out⟩
  obtain ⟨t, rfl⟩ : ∃ t : Nat, T = (t : Int) := ⟨T.toNat, by omega⟩
  have hT : t ≤ 2048 := by omega
  have CP := placed_any t b s w hT
  by_cases hf : Fits t b s
  · rw [decide_eq_true hf] at CP
    have hf' := hf
    unfold Fits at hf'
    obtain ⟨b, rfl⟩ : ∃ b' : Nat, b = (b' : Int) := ⟨b.toNat, by omega⟩
    obtain ⟨s, rfl⟩ : ∃ s' : Nat, s = (s' : Int) := ⟨s.toNat, by omega⟩
    have CP := Lib.hid CP
    have CN := Lib.hid (new_ok t (by omega) hT w)
    have HF := Lib.hid hf
    have HN := Lib.hid hn
    have HN2 := Lib.hid hn2
    have HBS := Lib.hid hB
    have HBS2 := Lib.hid hB2
    have HFX := Lib.hid FX
    have HFM := Lib.hid (fm_jst hf hT)
    have HLT := Lib.hid (fm_lt hf)
    clear hf hf' hn hn2 hB hB2 FX
    go_enter Try.func11, Try.ntmps11
    go_wp2_with fail
    refine CP.out.mono ?_
    rintro e w1 ⟨rfl, rfl⟩
    clear CP
    go_wp2_with fail
    refine CN.out.mono ?_
    rintro e w1 ⟨p, S, rfl, hD, hS, hb⟩
    have CF := Lib.hid (format_ok p t b s S (DM.new t) w1 hD rfl rfl HF.out)
    have HS := Lib.hid hS
    have HB1 := Lib.hid hb
    clear hD hS hb CN
    go_wp2_with fail
    refine CF.out.mono ?_
    rintro e w2 ⟨rfl, S2, hD2, hK2⟩
    have hD2 : Dsk w2 S2 p t (fmD t b s) := hD2
    have HD2 := Lib.hid hD2
    have HS2 := Lib.hid (hK2.lows HS.out HB1.out.size)
    have HB2 := Lib.hid (HB1.out.trans (hK2.below HS.out HB1.out.size))
    have CO := Lib.hid (open_all p t b s 0 S2 _ w2 hD2 HFM.out HF.out (by omega))
    clear hD2 hK2 CF
    go_wp2_with fail
    refine CO.out.mono ?_
    rintro e w3 ⟨rfl, hJ3, hb3⟩
    have hq3 : ¬ S2 w2.heap.size := fun h => absurd (HD2.out.inn _ h) (Nat.lt_irrefl _)
    obtain ⟨q, hq⟩ : ∃ q, q = w2.heap.size := ⟨_, rfl⟩
    rw [← hq] at hJ3 hq3 ⊢
    have HJ3 := Lib.hid hJ3
    have HQ := Lib.hid hq3
    have HD3 := Lib.hid (HD2.out.bel hb3)
    have HB3 := Lib.hid (below_step HB2.out hb3)
    have CI := Lib.hid (HD3.out.image)
    clear hJ3 hq3 hb3 CO HD2 hq
    go_wp2_with fail
    refine CI.out.mono ?_
    rintro e w4 ⟨A4, c4, rfl, _, ho4, hb4⟩
    have HB4 := Lib.hid (below_step HB3.out hb4)
    have HRT := Lib.hid (run_txt w4 A4 (t * 256) c4 (fmD t b s).img (HD3.out.ok.len).symm (Seg.of_own ho4) HLT.out)
    have HD4 := Lib.hid (HD3.out.bel hb4)
    have HJ4 := Lib.hid (HJ3.out.bel hb4)
    have CK := Lib.hid (rcheck_all t b s A n c bs w4 HN.out hnc (HBS.out.bel HB4.out) HF.out hT)
    clear ho4 hb4 CI HD3 HJ3
    have hrt := HRT.out
    go_wp2_with fail
    refine CK.out.mono ?_
    rintro e w5 ⟨rfl, hb5⟩
    have HB5 := Lib.hid (below_step HB4.out hb5)
    have HD5 := Lib.hid (HD4.out.bel hb5)
    have HJ5 := Lib.hid (HJ4.out.bel hb5)
    clear hb5 CK hrt HRT HD4 HJ4
    by_cases hck : chkN t b s bs = 0
    · have hck2 : ((chkN t b s bs : Int) == 0) = true := by rw [hck]; rfl
      clear hck
      have CA := Lib.hid (HFX.out w5)
      go_wp2_with fail
      refine CA.out.mono ?_
      rintro e w6 ⟨rfl, hb6⟩
      have HB6 := Lib.hid (below_step HB5.out hb6)
      clear hb6
      go_wp2_with fail
      go_ret
      exact ⟨rfl, HB6.out⟩
    · have hck2 : ((chkN t b s bs : Int) == 0) = false := by rw [beq_eq_false_iff_ne]; omega
      have CC := Lib.hid (commit_all q p b s t 0 S2 _ A n c bs w5 HJ5.out HQ.out HD5.out HFM.out HN.out (HBS.out.bel HB5.out) (HBS.out.ws HS2.out HB5.out) HF.out (by omega))
      have HCK := Lib.hid hck
      obtain ⟨r, hr⟩ : ∃ r, r = chkN t b s bs := ⟨_, rfl⟩
      rw [← hr] at CC HCK hck2 ⊢
      clear hck hr
      go_wp2_with fail
      refine CC.out.mono ?_
      rintro e w6 ⟨rfl, S6, D6, seq6, hD6, hK6, hj6, hno, _⟩
      obtain ⟨rfl, rfl⟩ := hno HCK.out
      have HB6 := Lib.hid (HB5.out.trans (hK6.below HS2.out HB5.out.size))
      have HS6 := Lib.hid (hK6.lows HS2.out HB5.out.size)
      have HD6 := Lib.hid hD6
      have HJ6 := Lib.hid (hK6.bk HJ5.out HQ.out)
      have HQ6 := Lib.hid (hK6.far HJ5.out.lt HQ.out)
      have CI := Lib.hid hD6.image
      clear hD6 hK6 hno CC hj6 HD5 HJ5
      have hrr : ((r : Int) != (r : Int)) = false := by simp
      go_wp2_with fail
      refine CI.out.mono ?_
      rintro e w7 ⟨A7, c7, rfl, _, ho7, hb7⟩
      have HB7 := Lib.hid (below_step HB6.out hb7)
      have HRT := Lib.hid (run_txt w7 A7 (t * 256) c7 (fmD t b s).img (HD6.out.ok.len).symm (Seg.of_own ho7) HLT.out)
      have HD7 := Lib.hid (HD6.out.bel hb7)
      have HJ7 := Lib.hid (HJ6.out.bel hb7)
      have CPD : Calls Try.prog 22 #[.pointer (some ⟨p, 0, none⟩)] w7 fun e w' => e = .returned (.int .i64 0) ∧ w7 = w' := HD7.out.pending
      have CPD := Lib.hid CPD
      have CS := Lib.hid (seq_all q p t b s 0 S6 _ w7 HJ7.out HD7.out HFM.out HF.out (by omega))
      clear ho7 hb7 CI HD6 HJ6
      have hrt := HRT.out
      have htt : ((txt (fmD t b s).img).toList == (txt (fmD t b s).img).toList) = true := by simp
      go_wp2_with fail
      refine CPD.out.mono ?_
      rintro e w8 ⟨rfl, rfl⟩
      clear CPD hrt HRT htt
      go_wp2_with fail
      refine CS.out.mono ?_
      rintro e w8 ⟨rfl, hb8⟩
      have HB8 := Lib.hid (below_step HB7.out hb8)
      have HD8 := Lib.hid (HD7.out.bel hb8)
      have HJ8 := Lib.hid (HJ7.out.bel hb8)
      have CG := Lib.hid (commit_all q p b s t 0 S6 _ A2 n2 c2 bs2 w8 HJ8.out HQ6.out HD8.out HFM.out HN2.out (HBS2.out.bel HB8.out) (HBS2.out.ws HS6.out HB8.out) HF.out (by omega))
      clear hb8 CS HD7 HJ7
      go_wp2_with fail
      refine CG.out.mono ?_
      rintro e w9 ⟨rfl, S9, D9, seq9, hD9, hK9, hj9, _, hyes⟩
      have HB9 := Lib.hid (HB8.out.trans (hK9.below HS6.out HB8.out.size))
      have HD9 := Lib.hid hD9
      have HJ9 := Lib.hid (hK9.bk HJ8.out HQ6.out)
      have CK := Lib.hid (rcheck_all t b s A2 n2 c2 bs2 w9 HN2.out hnc2 (HBS2.out.bel HB9.out) HF.out hT)
      have HYES := Lib.hid hyes
      have HJS := Lib.hid hj9
      clear hD9 hK9 CG hyes hj9 HD8 HJ8
      obtain ⟨m, hm⟩ : ∃ m, m = chkN t b s bs2 := ⟨_, rfl⟩
      rw [← hm] at CK HYES ⊢
      clear hm
      go_wp2_with fail
      refine CK.out.mono ?_
      rintro e w10 ⟨rfl, hb10⟩
      have HB10 := Lib.hid (below_step HB9.out hb10)
      have HD10 := Lib.hid (HD9.out.bel hb10)
      have HJ10 := Lib.hid (HJ9.out.bel hb10)
      have CA := Lib.hid (HFX.out w10)
      have hmm : ((m : Int) == (m : Int)) = true := by simp
      clear hb10 CK HD9 HJ9
      go_wp2_with fail
      refine CA.out.mono ?_
      rintro e w11 ⟨rfl, hb11⟩
      have HB11 := Lib.hid (below_step HB10.out hb11)
      by_cases hm0 : m = 0
      · have hmn : ((m : Int) != 0) = false := by rw [hm0]; rfl
        by_cases h0 : n2 = 0
        · have h0b : ((n2 : Int) == 0) = true := by rw [h0]; rfl
          clear hm0 h0 hb11
          go_wp2_with fail
          go_ret
          exact ⟨rfl, HB11.out⟩
        · have h0b : ((n2 : Int) == 0) = false := by rw [beq_eq_false_iff_ne]; omega
          have hs9 := (HYES.out hm0).1
          rw [if_neg h0] at hs9
          have CS := seq_all q p t b s seq9 S9 _ w11 (HJ10.out.bel hb11) (HD10.out.bel hb11) HJS.out HF.out (by omega)
          rw [hs9] at CS
          have CS := Lib.hid CS
          clear hm0 h0 hb11 hs9
          go_wp2_with fail
          refine CS.out.mono ?_
          rintro e w12 ⟨rfl, hb12⟩
          have HB12 := Lib.hid (below_step HB11.out hb12)
          clear hb12
          go_wp2_with fail
          go_ret
          exact ⟨rfl, HB12.out⟩
      · have hmn : ((m : Int) != 0) = true := by rw [bne_iff_ne]; omega
        clear hm0 hb11
        go_wp2_with fail
        go_ret
        exact ⟨rfl, HB11.out⟩
  · rw [decide_eq_false hf] at CP
    have CP := Lib.hid CP
    have CA := Lib.hid (FX w)
    clear hf FX hn hB hn2 hB2
    go_enter Try.func11, Try.ntmps11
    go_wp2_with fail
    refine CP.out.mono ?_
    rintro e w1 ⟨rfl, rfl⟩
    go_wp2_with fail
    refine CA.out.mono ?_
    rintro e w1 ⟨rfl, hb⟩
    have HB := Lib.hid hb
    clear hb
    go_wp2_with fail
    go_ret
    exact ⟨rfl, HB.out⟩
end Go.Proofs.Ytmgbmnbjionapaa
