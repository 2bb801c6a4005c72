/- Where a journal can be made and opened: the statement's walk, its own trial left open. Condition: the trial says true. -/
import Derived.Test.YtmgbmnbjionapaaJFresh
namespace Go.Proofs.Ytmgbmnbjionapaa
open Go.RowKit

set_option maxRecDepth 100000 in
set_option maxHeartbeats 4000000 in
theorem forms_any (HA : ∀ w : World, Calls Try.prog 29 #[] w fun e w' => e = .returned (.bool true) ∧ Below w.heap.size w w') (T b s : Int) (w : World) :
    Calls Try.prog 7 #[.int .i64 T, .int .i64 b, .int .i64 s] w fun e w' => e = .returned (.bool true) ∧ Below w.heap.size w w' := by
  by_cases h1 : T < 1
  · have CA := Lib.hid (HA w)
    clear HA
    go_enter Try.func7, Try.ntmps7
    go_wp2_with fail
    refine CA.out.mono ?_
    rintro e w1 ⟨rfl, hb⟩
    have HB := Lib.hid hb
    clear hb
    go_wp2_with fail
    go_ret
    exact ⟨rfl, HB.out⟩
  by_cases h2 : 80 < T
  · have CA := Lib.hid (HA w)
    clear HA
    go_enter Try.func7, Try.ntmps7
    go_wp2_with fail
    refine CA.out.mono ?_
    rintro e w1 ⟨rfl, hb⟩
    have HB := Lib.hid hb
    clear hb
    go_wp2_with fail
    go_ret
    exact ⟨rfl, HB.out⟩
  obtain ⟨t, rfl⟩ : ∃ t : Nat, T = (t : Int) := ⟨T.toNat, by omega⟩
  have CN := Lib.hid (new_ok t (by omega) (by omega) w)
  have CP := fun w => placed_any t b s w (by omega)
  by_cases hf : Fits t b s
  · have hf' := hf
    unfold Fits at hf'
    obtain ⟨b, rfl⟩ : ∃ b' : Nat, b = (b' : Int) := ⟨b.toNat, by omega⟩
    obtain ⟨s, rfl⟩ : ∃ s' : Nat, s = (s' : Int) := ⟨s.toNat, by omega⟩
    have HF := Lib.hid hf
    have HF' := Lib.hid hf'
    have HC := Lib.hid CP
    have HAA := Lib.hid HA
    have ew : wrap64 ((s : Int) + 2) = (s : Int) + 2 := IntWalk.wrap64_in _ ⟨by omega, by omega⟩
    have HE := Lib.hid ew
    have CAr := Lib.hid (fun w => area_any (s : Int) ⟨by omega, by omega⟩ w)
    clear hf hf' CP HA ew
    go_enter Try.func7, Try.ntmps7
    go_wp2_with fail
    refine CN.out.mono ?_
    rintro e w1 ⟨p, S, rfl, hD, hS, hb⟩
    have hff := HF'.out
    have hlt : b < t := by omega
    have CO := Lib.hid (open_bad p t b s S (DM.new t) w1 hD HF.out (by rw [new_rd t b hlt]; exact zeros_lt) 0 0 (by rw [new_rd t b hlt]; rfl) (by rw [new_rd t b hlt]; exact zeros_seq) (by unfold noHead; rw [new_rd t b hlt]; exact fun h => zeros_no b s 0 h.2))
    have HD := Lib.hid hD
    have HB := Lib.hid hb
    have HSG := Lib.hid hS
    have HLT := Lib.hid hlt
    clear hD hb hS hff hlt CN
    go_wp2_with fail
    refine CO.out.mono ?_
    rintro e w2 ⟨rfl, hb2⟩
    have HB2 := Lib.hid (HB.out.trans (hb2.mono HB.out.size))
    have HD2 := Lib.hid (HD.out.bel hb2)
    clear hb2 CO HD
    have CF := Lib.hid (format_ok p t b s S (DM.new t) w2 HD2.out rfl rfl HF.out)
    go_wp2_with fail
    refine CF.out.mono ?_
    rintro e w3 ⟨rfl, S3, hD3, hK3⟩
    have HB3 := Lib.hid (HB2.out.trans (hK3.below HSG.out HB2.out.size))
    have HD3 := Lib.hid hD3
    clear hD3 hK3 CF HD2
    have CPP := Lib.hid (HC.out w3)
    rw [decide_eq_true HF.out] at CPP
    go_wp2_with fail
    refine CPP.out.mono ?_
    rintro e w4 ⟨rfl, rfl⟩
    have hff := HF'.out
    have hrd := land_rd (DM.new t) t b (headN b s 0 0) (DM.Ok.new t (by omega) (by omega)) HLT.out (headN_length ..)
    have CR := Lib.hid (recover_zero p t b s S3 _ w3 HD3.out HF.out (by rw [hrd]; exact head_lt b s 0 0 (by omega) (by omega)) 0 (by rw [hrd]; rfl) (by rw [hrd]; exact head_seq0 b s 0) (by rw [hrd]; exact head_take ..))
    clear hff CPP
    go_wp2_with fail
    refine CR.out.mono ?_
    rintro e w5 ⟨q, rfl, hq, hj5, hb5⟩
    have HB5 := Lib.hid (HB3.out.trans (hb5.mono HB3.out.size))
    have HD5 := Lib.hid (HD3.out.bel hb5)
    have HJ5 := Lib.hid hj5
    have HRD := Lib.hid hrd
    clear hj5 hb5 hrd CR HD3
    have CA := Lib.hid (HAA.out w5)
    go_wp2_with fail
    refine CA.out.mono ?_
    rintro e w6 ⟨rfl, hb6⟩
    have hff := HF'.out
    have hrd := HRD.out
    have HB6 := Lib.hid (HB5.out.trans (hb6.mono HB5.out.size))
    have CS := Lib.hid (seq_any q p t b s S3 _ w6 (HJ5.out.bel hb6) (HD5.out.bel hb6) HLT.out (by omega) (by rw [hrd]; exact head_lt b s 0 0 (by omega) (by omega)) 0 0 (by rw [hrd]; rfl) (by rw [hrd]; exact head_seq0 b s 0) (Nat.zero_le _) (by rw [hrd]; exact head_take ..))
    clear hff hrd hb6 CA
    go_wp2_with fail
    refine CS.out.mono ?_
    rintro e w7 ⟨rfl, hb7⟩
    have HB7 := Lib.hid (HB6.out.trans (hb7.mono HB6.out.size))
    clear hb7 CS
    have CQ := Lib.hid (CAr.out w7)
    have ew := HE.out
    go_wp2_with fail
    refine CQ.out.mono ?_
    rintro e w8 ⟨rfl, rfl⟩
    go_wp2_with fail
    go_ret
    exact ⟨rfl, HB7.out⟩
  · have HC := Lib.hid CP
    have HAA := Lib.hid HA
    have HF := Lib.hid hf
    clear hf CP HA
    go_enter Try.func7, Try.ntmps7
    go_wp2_with fail
    refine CN.out.mono ?_
    rintro e w1 ⟨p, S, rfl, hD, hS, hb⟩
    have CO := Lib.hid (open_no p t S (DM.new t) b s w1 hD HF.out)
    have CF := Lib.hid (format_no p t S (DM.new t) b s w1 hD HF.out)
    have CPP := Lib.hid (HC.out w1)
    rw [decide_eq_false HF.out] at CPP
    have CA := Lib.hid (HAA.out w1)
    have HB := Lib.hid hb
    clear hD hS hb
    go_wp2_with fail
    refine CO.out.mono ?_
    rintro e w2 ⟨rfl, rfl⟩
    go_wp2_with fail
    refine CF.out.mono ?_
    rintro e w2 ⟨rfl, rfl⟩
    go_wp2_with fail
    refine CPP.out.mono ?_
    rintro e w2 ⟨rfl, rfl⟩
    go_wp2_with fail
    refine CA.out.mono ?_
    rintro e w2 ⟨rfl, hb2⟩
    have HB2 := Lib.hid (HB.out.trans (hb2.mono HB.out.size))
    clear hb2
    go_wp2_with fail
    go_ret
    exact ⟨rfl, HB2.out⟩
end Go.Proofs.Ytmgbmnbjionapaa
