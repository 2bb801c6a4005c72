/- Blocks written at once and one by one leave the same contents, whatever is asked. Condition: the blocks lie in memory. -/
import Derived.Test.YtmgbmnbjionapaaJSplW
namespace Go.Proofs.Ytmgbmnbjionapaa
open Go.RowKit

set_option maxRecDepth 100000 in
set_option maxHeartbeats 4000000 in
theorem splits_any (T b s : Int) (A : Option Addr) (n c : Nat) (bs : List BW) (w : World) (hn : n = bs.length) (hnc : n ≤ c) (hB : BsAt w A bs) :
    Calls Try.prog 10 #[.int .i64 T, .int .i64 b, .int .i64 s, .slice A n c] w fun e w' => e = .returned (.bool true) ∧ Below w.heap.size w w' := by
  by_cases h1 : T < 1
  · have CA := Lib.hid (awake_any w)
    clear hn hB
    go_enter Try.func10, Try.ntmps10
    go_wp2_with fail
    refine CA.out.mono ?_
    rintro e w1 ⟨rfl, hb⟩
    have HB := Lib.hid hb
    clear hb
    go_wp2_with fail
    go_ret
    exact ⟨rfl, HB.out⟩
  by_cases h2 : 80 < T
  · have CA := Lib.hid (awake_any w)
    clear hn hB
    go_enter Try.func10, Try.ntmps10
    go_wp2_with fail
    refine CA.out.mono ?_
    rintro e w1 ⟨rfl, hb⟩
    have HB := Lib.hid hb
    clear hb
    go_wp2_with fail
    go_ret
    exact ⟨rfl, HB.out⟩
  obtain ⟨t, rfl⟩ : ∃ t : Nat, T = (t : Int) := ⟨T.toNat, by omega⟩
  have hT : t ≤ 2048 := by omega
  have CP := placed_any t b s w hT
  by_cases hf : Fits t b s
  · rw [decide_eq_true hf] at CP
    have hf' := hf
    unfold Fits at hf'
    obtain ⟨b, rfl⟩ : ∃ b' : Nat, b = (b' : Int) := ⟨b.toNat, by omega⟩
    obtain ⟨s, rfl⟩ : ∃ s' : Nat, s = (s' : Int) := ⟨s.toNat, by omega⟩
    by_cases hck : chkN t b s bs = 0
    · exact splits_body t b s A n c bs w hn hnc hB hf (by omega) (by omega) hck
    · have CP := Lib.hid CP
      have CK := Lib.hid (rcheck_all t b s A n c bs w hn hnc hB hf hT)
      have hck2 : ((chkN t b s bs : Int) != 0) = true := by rw [bne_iff_ne]; omega
      clear hf hf' hn hB hck
      generalize chkN t b s bs = r at *
      go_enter Try.func10, Try.ntmps10
      go_wp2_with fail
      refine CP.out.mono ?_
      rintro e w1 ⟨rfl, rfl⟩
      go_wp2_with fail
      refine CK.out.mono ?_
      rintro e w1 ⟨rfl, hb1⟩
      have HB1 := Lib.hid hb1
      have CA := Lib.hid (awake_any w1)
      clear hb1 CK CP
      go_wp2_with fail
      refine CA.out.mono ?_
      rintro e w2 ⟨rfl, hb2⟩
      have HB2 := Lib.hid (below_step HB1.out hb2)
      clear hb2
      go_wp2_with fail
      go_ret
      exact ⟨rfl, HB2.out⟩
  · rw [decide_eq_false hf] at CP
    have CP := Lib.hid CP
    have CA := Lib.hid (awake_any w)
    clear hf hn hB
    go_enter Try.func10, Try.ntmps10
    go_wp2_with fail
    refine CP.out.mono ?_
    rintro e w1 ⟨rfl, rfl⟩
    go_wp2_with fail
    refine CA.out.mono ?_
    rintro e w1 ⟨rfl, hb⟩
    have HB := Lib.hid hb
    clear hb
    go_wp2_with fail
    go_ret
    exact ⟨rfl, HB.out⟩
end Go.Proofs.Ytmgbmnbjionapaa
