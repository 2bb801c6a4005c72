/- A commit written home. Conditions: the journal and its disk lie in memory; nothing waits; the disk is not armed. -/
import Derived.Test.YtmgbmnbjionapaaJSeq
import Derived.Test.YtmgbmnbjionapaaJHead
namespace Go.Proofs.Ytmgbmnbjionapaa
open Go.RowKit

set_option maxRecDepth 100000 in
set_option maxHeartbeats 2000000 in
theorem finish_off (q p b s T seq : Nat) (S : Nat → Prop) (D : DM) (A : Option Addr) (n c : Nat) (ws : List (Nat × List Nat)) (w : World) (hJ : Bk w q 101 (JrC p b s)) (hq : ¬ S q) (hD : Dsk w S p T D) (ha : D.arm = false) (hw : D.wts = []) (hn : n = ws.length) (hn2 : n ≤ 64) (hW : WsAt w S A ws) (hok : ∀ x ∈ ws, x.1 < T ∧ x.2.length = 256) (hs : s < 256) (hb : b < T) (hT : T ≤ 2048) (hseq : seq < 18446744073709551616) :
    Calls Try.prog 58 #[.pointer (some ⟨q, 0, none⟩), .slice A n c, .int .u64 (seq : Int)] w fun e w' => e = .returned (.tuple #[]) ∧ ∃ S', Dsk w' S' p T ((D.land ws).land [(b, headN b s 0 seq)]) ∧ Kp S S' w w' := by
  have CL := Lib.hid (land_off q p b s T S D A n c ws w hJ hq hD ha hw hn hn2 hW hok)
  have HJ := Lib.hid hJ
  have HQ := Lib.hid hq
  have HA := Lib.hid ha
  have HSQ := Lib.hid hseq
  have HS := Lib.hid hs
  have HB := Lib.hid hb
  have HT := Lib.hid hT
  have hql := Lib.hid hJ.lt
  clear hJ hq hD ha hw hn hn2 hW hok hseq hs hb hT
  go_enter Try.func58, Try.ntmps58
  go_wp2_with fail
  refine CL.out.mono ?_
  rintro e w1 ⟨rfl, S1, hD1, hK1⟩
  have CH := Lib.hid (puthead_off q p b s T 0 seq S1 (D.land ws) w1 (hK1.bk HJ.out HQ.out) (hK1.far hql.out HQ.out) hD1 HA.out rfl HS.out (by omega) HB.out HT.out HSQ.out)
  have HK1 := Lib.hid hK1
  clear hK1 hD1 CL
  go_wp2_with fail
  refine CH.out.mono ?_
  rintro e w2 ⟨rfl, S2, hD2, hK2⟩
  have HD2 := Lib.hid hD2
  have HK2 := Lib.hid (HK1.out.trans hK2)
  clear hD2 hK2
  go_wp2_with fail
  go_end0
  exact ⟨rfl, S2, HD2.out, HK2.out⟩
end Go.Proofs.Ytmgbmnbjionapaa
