/- Pieces of another text, where one of both is refused. Condition: the table of the cyclic sum is laid. -/
import Derived.Test.YthjbkgappjpanaaDoorSMixM
namespace Go.Proofs.YthjbkgappjpanaaDoor
open Go.RowKit

set_option maxRecDepth 100000 in
set_option maxHeartbeats 2000000 in
theorem mixed_err (a b : ByteArray) (z : Int) (w : World) (hz : z ≤ 9223372036854775807) (hs : a.size ≤ 140737488355328) (hs' : b.size ≤ 140737488355328) (hT : Tab w) (he : errN a z ≠ 0 ∨ errN b z ≠ 0) :
    Calls Tryd.prog 7 #[.string a, .string b, .int .i64 z] w fun e w' => e = .returned (.bool true) ∧ Below w.heap.size w w' := by
  have C1 := Lib.hid (split_any a z w hz hs hT)
  have HT := Lib.hid hT
  clear hT
  go_enter Tryd.func7, Tryd.ntmps7
  go_wp2_with fail
  refine C1.out.mono ?_
  rintro e w1 ⟨hb, h⟩
  have HB := Lib.hid hb
  have C2 := Lib.hid (split_any b z w1 hz hs' (HT.out.below hb))
  clear C1
  rcases h with ⟨hn, rfl⟩ | ⟨hea, zn, A, c, rfl, hz1, hs4, ht1, rfl, ho⟩
  · have hn' : ((errN a z : Nat) : Int) ≠ 0 := by omega
    clear hb
    generalize errN a z = n at *
    go_wp2_with fail
    refine C2.out.mono ?_
    rintro e w2 ⟨hb2, h2⟩
    have HB2 := Lib.hid (below_step HB.out hb2)
    have HA := Lib.hid (awake_any w2 ((HT.out.below HB.out).below hb2))
    clear hb2 C2
    rcases h2 with ⟨_, rfl⟩ | ⟨_, _, _, _, _, _, _, _, rfl, _⟩
    · generalize errN b z = n2 at *
      go_wp2_with fail
      refine HA.out.mono ?_
      rintro e w3 ⟨rfl, hb⟩
      go_wp2_with fail
      go_ret
      exact ⟨rfl, below_step HB2.out hb⟩
    · go_wp2_with fail
      refine HA.out.mono ?_
      rintro e w3 ⟨rfl, hb⟩
      go_wp2_with fail
      go_ret
      exact ⟨rfl, below_step HB2.out hb⟩
  · obtain ⟨gl, rfl, hg, hlt, hc⟩ := pcs_at ho (total_pos _ _)
    have hTc := own_le ho
    obtain ⟨T, hTT⟩ : ∃ T, T = totalN a.size zn := ⟨_, rfl⟩
    rw [← hTT] at hc ht1 hTc ⊢
    have hT0 : 0 < T := by rw [hTT]; exact total_pos _ _
    have HTT := Lib.hid hTT
    have HC := Lib.hid hc
    clear hTT hb ho hc
    go_wp2_with fail
    refine C2.out.mono ?_
    rintro e w2 ⟨hb2, h2⟩
    have HB2 := Lib.hid (below_step HB.out hb2)
    have HC1 := Lib.hid (fun i j hi hj => (hb2.cell (p := ⟨gl, i * 4 + j, none⟩) hlt).trans (HC.out i j hi hj))
    have hlt2 : gl < w2.heap.size := Nat.lt_of_lt_of_le hlt hb2.size
    have HB12 := Lib.hid hb2
    clear C2 HC
    rcases h2 with ⟨hn, rfl⟩ | ⟨heb, zn', A', c', hzz, _, hs4', ht1', rfl, ho⟩
    · have hn' : ((errN b (zn : Int) : Nat) : Int) ≠ 0 := by omega
      have HA := Lib.hid (awake_any w2 (HT.out.below HB2.out))
      generalize errN b (zn : Int) = n at *
      clear hb2
      go_wp2_with fail
      refine HA.out.mono ?_
      rintro e w3 ⟨rfl, hb⟩
      go_wp2_with fail
      go_ret
      exact ⟨rfl, below_step HB2.out hb⟩
    · omega
end Go.Proofs.YthjbkgappjpanaaDoor
