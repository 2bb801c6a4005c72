/- Without power failures each commit writes all its blocks or is refused and changes nothing: the statement's walk. Condition: the commits lie in memory. -/
import Derived.Test.YtmgbmnbjionapaaJAfter
namespace Go.Proofs.Ytmgbmnbjionapaa
open Go.RowKit

/-- Commits in memory. -/
structure LsAt (w : World) (A : Option Addr) (ls : List (List BW)) : Prop where
  at' : ∀ k (hk : k < ls.length), ∃ b off Ak ck, A = some ⟨b, off, none⟩ ∧ b < w.heap.size ∧ w.cell? ⟨b, off + k, none⟩ = some (.slice Ak (ls[k]).length ck) ∧ (ls[k]).length ≤ ck ∧ BsAt w Ak (ls[k])
/-- What stands behind k commits. -/
structure CmR (w0 w : World) (S0 : Nat → Prop) (p T b s k : Nat) (sq : Nat) (A : Option Addr) (N : World → (Nat → Prop) → Option Addr → List (List Nat) → Prop) : Prop where
  ex : ∃ S D rows, Dsk w S p T D ∧ Kp S0 S w0 w ∧ Jst D b s sq ∧ sq ≤ k ∧ N w (fun g => ¬ S g) A rows ∧ rows.length = T ∧ (∀ x ∈ rows, x.length = 256) ∧ sameP D b s rows
set_option maxRecDepth 100000 in
set_option maxHeartbeats 8000000 in
theorem commits_body (t b s : Nat) (A : Option Addr) (n c : Nat) (ls : List (List BW)) (w : World) (hn : n = ls.length) (hL : LsAt w A ls) (hf : Fits t b s) (ht1 : 1 ≤ t) (ht : t ≤ 80) :
    Calls Try.prog 8 #[.int .i64 (t : Int), .int .i64 (b : Int), .int .i64 (s : Int), .slice A n c] w fun e w' => e = .returned (.bool true) ∧ Below w.heap.size w w' := by
  have hT : t ≤ 2048 := by omega
  have CP := placed_any t b s w hT
  rw [decide_eq_true hf] at CP
  have CP := Lib.hid CP
  have hf' := hf
  unfold Fits at hf'
  have h1 : ¬ (t : Int) < 1 := by omega
  have h2 : ¬ (80 : Int) < (t : Int) := by omega
  have hb10 : b ≤ 10000 := by omega
  have hs10 : s ≤ 60 := by omega
  have HF := Lib.hid hf
  have HN := Lib.hid hn
  have HLS := Lib.hid hL
  have HFM := Lib.hid (fm_jst hf hT)
  have HRD0 := Lib.hid (show sameP (fmD t b s) b s (List.replicate t zer) from fun i hi ho => by
    rw [List.getElem_replicate, fm_rd hf hT i (by simpa using hi) (by unfold outA at ho; omega)]; rfl)
  have CN := Lib.hid (new_ok t ht1 hT w)
  have hfd : ∀ (A : Option Addr) (n c : Nat) (w : World), (Instr.field 32 (.agg #[.slice A n c, .slice none 0 0, .int .i64 (-1)]) 0).run Try.prog w = .ok (.slice A n c) w := fun _ _ _ _ => by kernel_rfl
  clear hf hf' hn hL
  go_enter Try.func8, Try.ntmps8
  go_wp2_with fail
  refine CP.out.mono ?_
  rintro e w1 ⟨rfl, rfl⟩
  clear CP
  go_wp2_with fail
  refine CN.out.mono ?_
  rintro e w1 ⟨p, S, rfl, hD, hS, hb⟩
  have CF := Lib.hid (format_ok p t b s S (DM.new t) w1 hD rfl rfl HF.out)
  have HS := Lib.hid hS
  have HB1 := Lib.hid hb
  clear hD hS hb CN
  go_wp2_with fail
  refine CF.out.mono ?_
  rintro e w2 ⟨rfl, S2, hD2, hK2⟩
  have hD2 : Dsk w2 S2 p t (fmD t b s) := hD2
  have HD2 := Lib.hid hD2
  have HS2 := Lib.hid (hK2.lows HS.out HB1.out.size)
  have HB2 := Lib.hid (HB1.out.trans (hK2.below HS.out HB1.out.size))
  have CO := Lib.hid (open_all p t b s 0 S2 _ w2 hD2 HFM.out HF.out (by omega))
  clear hD2 hK2 CF
  go_wp2_with fail
  refine CO.out.mono ?_
  rintro e w3 ⟨rfl, hJ3, hb3⟩
  have hq3 : ¬ S2 w2.heap.size := fun h => absurd (HD2.out.inn _ h) (Nat.lt_irrefl _)
  obtain ⟨q, hq⟩ : ∃ q, q = w2.heap.size := ⟨_, rfl⟩
  rw [← hq] at hJ3 hq3 ⊢
  have HJ3 := Lib.hid hJ3
  have HQ := Lib.hid hq3
  have HD3 := Lib.hid (HD2.out.bel hb3)
  have HB3 := Lib.hid (below_step HB2.out hb3)
  have CR := Lib.hid (new3_any (fun g => ¬ S2 g) t hT w3 (fun g hg h => by have := HD3.out.inn _ h; omega))
  clear hJ3 hq3 hb3 CO HD2 hq
  go_wp2_with fail
  refine CR.out.mono ?_
  rintro e w4 ⟨A4, c4, rfl, hR4, hb4⟩
  have HB4 := Lib.hid (below_step HB3.out hb4)
  have HJ4 := Lib.hid (HJ3.out.bel hb4)
  have HR0 := Lib.hid (show CmR w4 w4 S2 p t b s 0 0 A4 RsN from ⟨S2, _, _, HD3.out.bel hb4, Kp.refl _ _, HFM.out, Nat.le_refl _, hR4, by simp, fun x hx => by rw [List.eq_of_mem_replicate hx]; rfl, HRD0.out⟩)
  clear hR4 hb4 CR HD3 HJ3
  go_wp2_with fail
  go_loopw [14, 15, 16] (fun v u i wr => ∃ k : Nat, k ≤ n ∧ k ≤ 12 ∧ i = .int .i64 k ∧ ∃ A5 c5 sq, v = .slice A5 t c5 ∧ u = .int .u64 ((sq : Nat) : Int) ∧ CmR w4 wr S2 p t b s k sq A5 RsN) (fun _ _ i _ => n - (intOf i).toNat)
  case atStart => exact ⟨0, by omega, by omega, rfl, A4, c4, 0, rfl, rfl, HR0.out⟩
  case round =>
    obtain ⟨k, hk, hk12, rfl, A5, c5, sq, rfl, rfl, hR⟩ := hrel
    obtain ⟨S5, D5, rows, hD5, hK5, hj5, hsq, hrs, hrl, hr256, hsame⟩ := hR.ex
    have HB5 := Lib.hid (HB4.out.trans (hK5.below HS2.out HB4.out.size))
    have HS5 := Lib.hid (hK5.lows HS2.out HB4.out.size)
    have HD5 := Lib.hid hD5
    have HK5 := Lib.hid hK5
    have HJS := Lib.hid hj5
    have HSQ := Lib.hid hsq
    have HRS := Lib.hid hrs
    have HRL := Lib.hid hrl
    have HR2 := Lib.hid hr256
    have HSA := Lib.hid hsame
    clear hR hD5 hK5 hj5 hsq hrs hrl hr256 hsame
    by_cases hkk : k < n ∧ k < 12
    · obtain ⟨hkn, hk12'⟩ := hkk
      have hkl : k < ls.length := by rw [← HN.out]; exact hkn
      have hkI : (k : Int) < (n : Int) := by omega
      have hkI2 : (k : Int) < 12 := by omega
      have hk0 : (0 : Int) ≤ (k : Int) := by omega
      obtain ⟨b1, off, Ak, ck, rfl, hb1, c0w, hck, hBk⟩ := HLS.out.at' k hkl
      have c0 := (HB5.out.cell (p := ⟨b1, off + k, none⟩) hb1).trans c0w
      obtain ⟨bs, hbs⟩ : ∃ bs, bs = ls[k] := ⟨_, rfl⟩
      rw [← hbs] at c0 hck hBk
      have HBK := Lib.hid hBk
      obtain ⟨m, hm⟩ : ∃ m, m = bs.length := ⟨_, rfl⟩
      rw [← hm] at c0 hck
      have HM := Lib.hid hm
      have CK := Lib.hid (rcheck_all t b s Ak m ck bs wr hm hck (hBk.bel HB5.out) HF.out hT)
      clear c0w hbs hBk hm
      go_wp2_with fail
      refine CK.out.mono ?_
      rintro e w6 ⟨rfl, hb6⟩
      have HB6 := Lib.hid (below_step HB5.out hb6)
      have c06 := (hb6.cell (p := ⟨b1, off + k, none⟩) (Nat.lt_of_lt_of_le hb1 HB5.out.size)).trans c0
      have HK6 := Lib.hid (HK5.out.trans (Kp.of_bel hb6 S5))
      have hq6 : ¬ S5 q := HK6.out.far HJ4.out.lt HQ.out
      have HQ6 := Lib.hid hq6
      have HJ6 := Lib.hid (HK6.out.bk HJ4.out HQ.out)
      have HD6 := Lib.hid (HD5.out.bel hb6)
      have HRS6 := Lib.hid (HRS.out.bel hb6)
      have CC := Lib.hid (commit_all q p b s t sq S5 D5 Ak m ck bs w6 HJ6.out hq6 HD6.out HJS.out HM.out (HBK.out.bel HB6.out) (HBK.out.ws HS5.out HB6.out) HF.out (by have := HSQ.out; omega))
      clear hb6 CK hq6 HD5 HRS HK5 c0
      go_wp2_with fail
      refine CC.out.mono ?_
      rintro e w7 ⟨rfl, S7, D7, seq7, hD7, hK7, hj7, hno, hyes⟩
      have HB7 := Lib.hid (HB6.out.trans (hK7.below HS5.out HB6.out.size))
      have HD7 := Lib.hid hD7
      have HK7 := Lib.hid (HK6.out.trans hK7)
      have HJ7 := Lib.hid (hK7.bk HJ6.out HQ6.out)
      have HRS7 := Lib.hid (HRS6.out.kp hK7)
      have HJS7 := Lib.hid hj7
      have HNO := Lib.hid hno
      have HYES := Lib.hid hyes
      have CPD : Calls Try.prog 22 #[.pointer (some ⟨p, 0, none⟩)] w7 fun e w' => e = .returned (.int .i64 0) ∧ w7 = w' := by
        have h := hD7.pending
        rw [hj7.wts] at h
        exact h
      have CPD := Lib.hid CPD
      obtain ⟨r, hr⟩ : ∃ r, r = chkN t b s bs := ⟨_, rfl⟩
      have HRR := Lib.hid hr
      rw [← hr] at HNO HYES ⊢
      have hrr : ((r : Int) != (r : Int)) = false := by simp
      have c07 := (HB7.out.cell (p := ⟨b1, off + k, none⟩) hb1).trans ((HB6.out.cell (p := ⟨b1, off + k, none⟩) hb1).symm.trans c06)
      clear hD7 hK7 hj7 hno hyes hr CC c06
      go_wp2_with fail
      refine CPD.out.mono ?_
      rintro e w8 ⟨rfl, rfl⟩
      clear CPD
      by_cases hr0 : r = 0
      · have hr0b : ((r : Int) == 0) = true := by rw [hr0]; rfl
        obtain ⟨hs7, hr7⟩ := HYES.out hr0
        have hcz : chkN t b s bs = 0 := by rw [← HRR.out]; exact hr0
        obtain ⟨_, hok, _⟩ := chk_zero hcz
        have CA := Lib.hid (after_any (fun g => ¬ S7 g) A5 Ak t c5 m ck rows bs w7 HRL.out.symm hT HRS7.out (fun x hx h => by have := HR2.out x hx; rw [h] at this; cases this) (fun g hg h => by have := HD7.out.inn _ h; omega) HM.out (HBK.out.bel HB7.out) (by have := (chk_zero hcz).1; have := HM.out; omega) (fun x hx => by have := hok x hx; unfold BW.bad at this; omega))
        have HWS := Lib.hid (show ∀ y ∈ bs.map BW.nat, y.2.length = 256 from fun y hy => (nat_ok hok y hy).2)
        obtain ⟨ws, hws⟩ : ∃ ws, ws = bs.map BW.nat := ⟨_, rfl⟩
        rw [← hws] at CA HWS hr7
        have HLX := Lib.hid (show (afterN rows ws).length = t by rw [afterN_length]; exact HRL.out)
        have HAT := Lib.hid (show ∀ i (hi : i < (afterN rows ws).length), ∃ h : i < rows.length, (afterN rows ws)[i] = lastD ws i (rows[i]) from fun i hi => by
          have h : i < rows.length := by rw [afterN_length] at hi; exact hi
          refine ⟨h, ?_⟩
          have h2 := afterN_at ws rows i h
          rw [List.getElem?_eq_getElem hi] at h2
          exact Option.some.inj h2)
        have H2X := Lib.hid (show ∀ x ∈ afterN rows ws, x.length = 256 from fun x hx => by
          obtain ⟨i, hi, rfl⟩ := List.mem_iff_getElem.1 hx
          obtain ⟨h, he⟩ := HAT.out i hi
          rw [he]
          exact last_len ws i _ HWS.out (HR2.out _ (List.getElem_mem h)))
        have HSX := Lib.hid (show sameP D7 b s (afterN rows ws) from fun i hi ho => by
          obtain ⟨h, he⟩ := HAT.out i hi
          rw [he, hr7 i (by rw [HLX.out] at hi; exact hi) ho, HSA.out i h ho])
        have HS7 := Lib.hid hs7
        clear hr0 hs7 hr7 hcz hok hws
        go_wp2_with fail
        refine CA.out.mono ?_
        rintro e w8 ⟨A8, c8, rfl, hR8, hb8⟩
        have HBX := Lib.hid (below_step HB7.out hb8)
        have HDX := Lib.hid (HD7.out.bel hb8)
        have HKX := Lib.hid (HK7.out.trans (Kp.of_bel hb8 S7))
        have HJX := Lib.hid (HJ7.out.bel hb8)
        have HRX := Lib.hid hR8
        have c08 := (hb8.cell (p := ⟨b1, off + k, none⟩) (Nat.lt_of_lt_of_le hb1 HB7.out.size)).trans c07
        clear hR8 hb8 CA c07
        by_cases hm0 : m = 0
        · have hs7' := HS7.out
          rw [if_pos hm0] at hs7'
          have HJSX := Lib.hid (show Jst D7 b s sq by rw [← hs7']; exact HJS7.out)
          have hmI : ¬ (0 : Int) < (m : Int) := by omega
          clear hm0 hs7'
          go_wp2_with fail
          have CS := Lib.hid (seq_all q p t b s (sq) S7 _ w8 HJX.out HDX.out HJSX.out HF.out (by have := HSQ.out; omega))
          go_wp2_with fail
          refine CS.out.mono ?_
          rintro e wa ⟨rfl, hba⟩
          have HBA := Lib.hid (below_step HBX.out hba)
          have CE := Lib.hid (jsame_any p t b s S7 _ A8 t c8 (afterN rows ws) wa (HDX.out.bel hba) HLX.out.symm (Nat.le_refl _) hb10 (by omega) ((HRX.out.bel hba).rs) (fun x hx => by rw [H2X.out x hx]; omega) true (fun _ => rfl) (fun h => absurd HSX.out h))
          have HDA := Lib.hid (HDX.out.bel hba)
          have HKA := Lib.hid (HKX.out.trans (Kp.of_bel hba S7))
          have HRA := Lib.hid (HRX.out.bel hba)
          clear hba CS
          go_wp2_with fail
          refine CE.out.mono ?_
          rintro e wb ⟨rfl, hbb⟩
          have HRF := Lib.hid (show CmR w4 wb S2 p t b s (k + 1) (sq) A8 RsN from ⟨S7, _, _, HDA.out.bel hbb, HKA.out.trans (Kp.of_bel hbb S7), HJSX.out, by have := HSQ.out; omega, HRA.out.bel hbb, HLX.out, H2X.out, HSX.out⟩)
          clear hbb CE
          go_wp2_with fail
          exact ⟨⟨k + 1, by omega, by omega, by go_num, A8, c8, sq, rfl, rfl, HRF.out⟩, by simp [intOf]; omega⟩
        · have hs7' := HS7.out
          rw [if_neg hm0] at hs7'
          have HJSX := Lib.hid (show Jst D7 b s (sq + 1) by rw [← hs7']; exact HJS7.out)
          have hmI : (0 : Int) < (m : Int) := by omega
          have hsw : IntKind.u64.wrap ((sq : Int) + 1) = ((sq + 1 : Nat) : Int) := by have := HSQ.out; rw [IntWalk.u64_in _ ⟨by omega, by omega⟩]; omega
          have hsc : ((sq + 1 : Nat) : Int) = (sq : Int) + 1 := by omega
          clear hm0 hs7'
          go_wp2_with fail
          have CS := seq_all q p t b s (sq + 1) S7 _ w8 HJX.out HDX.out HJSX.out HF.out (by have := HSQ.out; omega)
          rw [hsc] at CS
          have CS := Lib.hid CS
          go_wp2_with fail
          refine CS.out.mono ?_
          rintro e wa ⟨rfl, hba⟩
          have HBA := Lib.hid (below_step HBX.out hba)
          have CE := Lib.hid (jsame_any p t b s S7 _ A8 t c8 (afterN rows ws) wa (HDX.out.bel hba) HLX.out.symm (Nat.le_refl _) hb10 (by omega) ((HRX.out.bel hba).rs) (fun x hx => by rw [H2X.out x hx]; omega) true (fun _ => rfl) (fun h => absurd HSX.out h))
          have HDA := Lib.hid (HDX.out.bel hba)
          have HKA := Lib.hid (HKX.out.trans (Kp.of_bel hba S7))
          have HRA := Lib.hid (HRX.out.bel hba)
          clear hba CS
          go_wp2_with fail
          refine CE.out.mono ?_
          rintro e wb ⟨rfl, hbb⟩
          have HRF := Lib.hid (show CmR w4 wb S2 p t b s (k + 1) (sq + 1) A8 RsN from ⟨S7, _, _, HDA.out.bel hbb, HKA.out.trans (Kp.of_bel hbb S7), HJSX.out, by have := HSQ.out; omega, HRA.out.bel hbb, HLX.out, H2X.out, HSX.out⟩)
          clear hbb CE
          go_wp2_with fail
          exact ⟨⟨k + 1, by omega, by omega, by go_num, A8, c8, sq + 1, rfl, by rw [hsc], HRF.out⟩, by simp [intOf]; omega⟩
      · have hr0b : ((r : Int) == 0) = false := by rw [beq_eq_false_iff_ne]; omega
        obtain ⟨rfl, rfl⟩ := HNO.out hr0
        have HDX := HD7
        have HJX := HJ7
        have HKX := HK7
        have HBX := HB7
        have HJSX := HJS7
        have HRX := HRS7
        have HLX := HRL
        have H2X := HR2
        have HSX := HSA
        clear hr0
        go_wp2_with fail
        have CS := Lib.hid (seq_all q p t b s (seq7) S7 _ w7 HJX.out HDX.out HJSX.out HF.out (by have := HSQ.out; omega))
        go_wp2_with fail
        refine CS.out.mono ?_
        rintro e wa ⟨rfl, hba⟩
        have HBA := Lib.hid (below_step HBX.out hba)
        have CE := Lib.hid (jsame_any p t b s S7 _ A5 t c5 (rows) wa (HDX.out.bel hba) HLX.out.symm (Nat.le_refl _) hb10 (by omega) ((HRX.out.bel hba).rs) (fun x hx => by rw [H2X.out x hx]; omega) true (fun _ => rfl) (fun h => absurd HSX.out h))
        have HDA := Lib.hid (HDX.out.bel hba)
        have HKA := Lib.hid (HKX.out.trans (Kp.of_bel hba S7))
        have HRA := Lib.hid (HRX.out.bel hba)
        clear hba CS
        go_wp2_with fail
        refine CE.out.mono ?_
        rintro e wb ⟨rfl, hbb⟩
        have HRF := Lib.hid (show CmR w4 wb S2 p t b s (k + 1) (seq7) A5 RsN from ⟨S7, _, _, HDA.out.bel hbb, HKA.out.trans (Kp.of_bel hbb S7), HJSX.out, by have := HSQ.out; omega, HRA.out.bel hbb, HLX.out, H2X.out, HSX.out⟩)
        clear hbb CE
        go_wp2_with fail
        exact ⟨⟨k + 1, by omega, by omega, by go_num, A5, c5, seq7, rfl, rfl, HRF.out⟩, by simp [intOf]; omega⟩
    · by_cases hkn : k < n
      · have hkI : (k : Int) < (n : Int) := by omega
        have hkI2 : ¬ (k : Int) < 12 := by omega
        clear hkk
        have CO := Lib.hid (open_all p t b s sq S5 _ wr HD5.out HJS.out HF.out (by have := HSQ.out; omega))
        go_wp2_with fail
        refine CO.out.mono ?_
        rintro e wa ⟨rfl, hJa, hba⟩
        have HJA := Lib.hid hJa
        have HBA := Lib.hid (below_step HB5.out hba)
        have HDA := Lib.hid (HD5.out.bel hba)
        have HRA := Lib.hid (HRS.out.bel hba)
        have CA := Lib.hid (awake_any wa)
        clear hJa hba CO
        go_wp2_with fail
        refine CA.out.mono ?_
        rintro e wb ⟨rfl, hbb⟩
        have HBB := Lib.hid (below_step HBA.out hbb)
        have CS := Lib.hid (seq_all wr.heap.size p t b s sq S5 _ wb (HJA.out.bel hbb) (HDA.out.bel hbb) HJS.out HF.out (by have := HSQ.out; omega))
        have HDB := Lib.hid (HDA.out.bel hbb)
        have HRB := Lib.hid (HRA.out.bel hbb)
        clear hbb CA
        go_wp2_with fail
        refine CS.out.mono ?_
        rintro e wc ⟨rfl, hbc⟩
        have HBC := Lib.hid (below_step HBB.out hbc)
        have hss : ((sq : Int) == (sq : Int)) = true := by simp
        have CE := Lib.hid (jsame_any p t b s S5 _ A5 t c5 rows wc (HDB.out.bel hbc) HRL.out.symm (Nat.le_refl _) hb10 (by omega) ((HRB.out.bel hbc).rs) (fun x hx => by rw [HR2.out x hx]; omega) true (fun _ => rfl) (fun h => absurd HSA.out h))
        clear hbc CS
        go_wp2_with fail
        refine CE.out.mono ?_
        rintro e wd ⟨rfl, hbd⟩
        have HBD := Lib.hid (below_step HBC.out hbd)
        clear hbd CE
        go_wp2_with fail
        go_ret
        exact ⟨rfl, HBD.out⟩
      · have hkI : ¬ (k : Int) < (n : Int) := by omega
        clear hkk
        have CO := Lib.hid (open_all p t b s sq S5 _ wr HD5.out HJS.out HF.out (by have := HSQ.out; omega))
        go_wp2_with fail
        refine CO.out.mono ?_
        rintro e wa ⟨rfl, hJa, hba⟩
        have HJA := Lib.hid hJa
        have HBA := Lib.hid (below_step HB5.out hba)
        have HDA := Lib.hid (HD5.out.bel hba)
        have HRA := Lib.hid (HRS.out.bel hba)
        have CA := Lib.hid (awake_any wa)
        clear hJa hba CO
        go_wp2_with fail
        refine CA.out.mono ?_
        rintro e wb ⟨rfl, hbb⟩
        have HBB := Lib.hid (below_step HBA.out hbb)
        have CS := Lib.hid (seq_all wr.heap.size p t b s sq S5 _ wb (HJA.out.bel hbb) (HDA.out.bel hbb) HJS.out HF.out (by have := HSQ.out; omega))
        have HDB := Lib.hid (HDA.out.bel hbb)
        have HRB := Lib.hid (HRA.out.bel hbb)
        clear hbb CA
        go_wp2_with fail
        refine CS.out.mono ?_
        rintro e wc ⟨rfl, hbc⟩
        have HBC := Lib.hid (below_step HBB.out hbc)
        have hss : ((sq : Int) == (sq : Int)) = true := by simp
        have CE := Lib.hid (jsame_any p t b s S5 _ A5 t c5 rows wc (HDB.out.bel hbc) HRL.out.symm (Nat.le_refl _) hb10 (by omega) ((HRB.out.bel hbc).rs) (fun x hx => by rw [HR2.out x hx]; omega) true (fun _ => rfl) (fun h => absurd HSA.out h))
        clear hbc CS
        go_wp2_with fail
        refine CE.out.mono ?_
        rintro e wd ⟨rfl, hbd⟩
        have HBD := Lib.hid (below_step HBC.out hbd)
        clear hbd CE
        go_wp2_with fail
        go_ret
        exact ⟨rfl, HBD.out⟩
end Go.Proofs.Ytmgbmnbjionapaa
