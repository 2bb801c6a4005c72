/- How many commits there have been. Conditions: the journal and its disk lie in memory; the head is this journal's. -/
import Derived.Test.YtmgbmnbjionapaaJOpen
namespace Go.Proofs.Ytmgbmnbjionapaa
open Go.RowKit

set_option maxRecDepth 100000 in
set_option maxHeartbeats 2000000 in
theorem seq_any (q p T b s : Nat) (S : Nat → Prop) (D : DM) (w : World) (hJ : Bk w q 101 (JrC p b s)) (hD : Dsk w S p T D) (hb : b < T) (hs : s < 256) (hB : ∀ x ∈ D.rd b, x < 256) (x seq : Nat) (hx : (D.rd b)[17]? = some x) (hseq : seq = leGet (((D.rd b).drop 20).take 8)) (hxs : x ≤ s) (hyes : (D.rd b).take 32 = sectN b s x seq) : Calls Try.prog 34 #[.pointer (some ⟨q, 0, none⟩)] w fun e w' => e = .returned (.int .u64 (seq : Int)) ∧ Below w.heap.size w w' := by
  have CP := Lib.hid (jhead_parts q p b s T S D w hJ hD hb hD.ok.top hs hB x seq hx hseq (.agg #[.int .i64 (x : Int), .int .u64 (seq : Int)]) true (fun _ _ => ⟨rfl, rfl⟩) (fun h => absurd ⟨hxs, hyes⟩ h))
  have j0 := hJ.cell 0
  simp only [JrC, List.getElem?_toArray, List.getElem?_cons_zero] at j0
  clear hD hB hx hseq hyes
  go_enter Try.func34, Try.ntmps34
  go_wp2_with fail
  refine CP.out.mono ?_
  rintro e w3 ⟨rfl, hb3⟩
  have HB3 := Lib.hid hb3
  clear hb3
  go_upto_region 4 with fail
  obtain ⟨w4, hw4⟩ : ∃ w4, w4 = w3.alloc (.cells #[.int .i64 (x : Int), .int .u64 (seq : Int)] 103) := ⟨_, rfl⟩
  have B34 : Below w3.heap.size w3 w4 := by rw [hw4]; exact (Below.refl _ _).alloc (Nat.le_refl _) _
  have X4 : Bk w4 w3.heap.size 103 #[.int .i64 (x : Int), .int .u64 (seq : Int)] := by rw [hw4]; exact Bk.new w3 _ _
  have HB4 := Lib.hid (HB3.out.trans (B34.mono HB3.out.size))
  have y1 := X4.cell 1
  simp only [List.getElem?_toArray, List.getElem?_cons_zero, List.getElem?_cons_succ] at y1
  rw [← hw4]
  clear X4 hw4 B34
  generalize w3.heap.size = g3 at *
  go_wp2_with fail
  go_ret
  exact ⟨rfl, HB4.out⟩
end Go.Proofs.Ytmgbmnbjionapaa
