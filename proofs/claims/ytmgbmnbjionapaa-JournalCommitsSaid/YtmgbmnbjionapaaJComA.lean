/- Without power failures each commit writes all its blocks or is refused and changes nothing, whatever is asked. Condition: the commits lie in memory. -/
import Derived.Test.YtmgbmnbjionapaaJComW
namespace Go.Proofs.Ytmgbmnbjionapaa
open Go.RowKit

set_option maxRecDepth 100000 in
set_option maxHeartbeats 4000000 in
theorem commits_any (T b s : Int) (A : Option Addr) (n c : Nat) (ls : List (List BW)) (w : World) (hn : n = ls.length) (hB : LsAt w A ls) :
    Calls Try.prog 8 #[.int .i64 T, .int .i64 b, .int .i64 s, .slice A n c] w fun e w' => e = .returned (.bool true) ∧ Below w.heap.size w w' := by
  by_cases h1 : T < 1
  · have CA := Lib.hid (awake_any w)
    clear hn hB
    go_enter Try.func8, Try.ntmps8
    go_wp2_with fail
    refine CA.out.mono ?_
    rintro e w1 ⟨rfl, hb⟩
    have HB := Lib.hid hb
    clear hb
    go_wp2_with fail
    go_ret
    exact ⟨rfl, HB.out⟩
  by_cases h2 : 80 < T
  · have CA := Lib.hid (awake_any w)
    clear hn hB
    go_enter Try.func8, Try.ntmps8
    go_wp2_with fail
    refine CA.out.mono ?_
    rintro e w1 ⟨rfl, hb⟩
    have HB := Lib.hid hb
    clear hb
    go_wp2_with fail
    go_ret
    exact ⟨rfl, HB.out⟩
  obtain ⟨t, rfl⟩ : ∃ t : Nat, T = (t : Int) := ⟨T.toNat, by omega⟩
  have hT : t ≤ 2048 := by omega
  have CP := placed_any t b s w hT
  by_cases hf : Fits t b s
  · have hf' := hf
    unfold Fits at hf'
    obtain ⟨b, rfl⟩ : ∃ b' : Nat, b = (b' : Int) := ⟨b.toNat, by omega⟩
    obtain ⟨s, rfl⟩ : ∃ s' : Nat, s = (s' : Int) := ⟨s.toNat, by omega⟩
    exact commits_body t b s A n c ls w hn hB hf (by omega) (by omega)
  · rw [decide_eq_false hf] at CP
    have CP := Lib.hid CP
    have CA := Lib.hid (awake_any w)
    clear hf hn hB
    go_enter Try.func8, Try.ntmps8
    go_wp2_with fail
    refine CP.out.mono ?_
    rintro e w1 ⟨rfl, rfl⟩
    go_wp2_with fail
    refine CA.out.mono ?_
    rintro e w1 ⟨rfl, hb⟩
    have HB := Lib.hid hb
    clear hb
    go_wp2_with fail
    go_ret
    exact ⟨rfl, HB.out⟩
end Go.Proofs.Ytmgbmnbjionapaa
