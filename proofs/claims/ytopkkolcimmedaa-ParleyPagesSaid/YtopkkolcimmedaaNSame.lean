/- Two nodes that hold the same are told to be the same. Condition: the rows of both lie in memory. -/
import Derived.Test.YtopkkolcimmedaaProg
import Derived.Test.YtopkkolcimmedaaNdA
import Derived.WalkLawsBesides
import Derived.BigQuiet
import Derived.Deep.QuietTactic
namespace Go.Proofs.Ytopkkolcimmedaa
open Go.RowKit

set_option maxRecDepth 100000 in
set_option maxHeartbeats 4000000 in
theorem nsame_any (lf : Bool) (ks vs : List ByteArray) (cs : List Int) (A B C D E F : Option Addr) (nk ca nv cb nc cc cd ce cf : Nat) (w : World) (h1 : Nd w ⟨lf, ks, vs, cs⟩ A B C nk ca nv cb nc cc) (h2 : Nd w ⟨lf, ks, vs, cs⟩ D E F nk cd nv ce nc cf) :
    Calls Try.prog 13 #[.agg #[.bool lf, .slice A nk ca, .slice B nv cb, .slice C nc cc], .agg #[.bool lf, .slice D nk cd, .slice E nv ce, .slice F nc cf]] w fun e w' => e = .returned (.bool true) ∧ Below w.heap.size w w' := by
  have H1 := Lib.hid h1
  have bk := h1.bk
  have bv := h1.bv
  have bc := h1.bc
  obtain ⟨w0, hw0⟩ : ∃ w0, w0 = (w.alloc (.cells #[.bool lf, .slice A nk ca, .slice B nv cb, .slice C nc cc] 30)).alloc (.cells #[.bool lf, .slice D nk cd, .slice E nv ce, .slice F nc cf] 30) := ⟨_, rfl⟩
  have hbw : Below w.heap.size w w0 := by rw [hw0]; exact ((Below.refl _ _).alloc (Nat.le_refl _) _).alloc (by simp) _
  have HBW := Lib.hid hbw
  have S1 := Lib.hid (h1.bel hbw)
  have S2 := Lib.hid (h2.bel hbw)
  have X1 := Lib.hid (show Bk w0 w.heap.size 30 #[.bool lf, .slice A nk ca, .slice B nv cb, .slice C nc cc] by rw [hw0]; exact (Bk.new w _ _).alloc _)
  have X2 := Lib.hid (show Bk w0 (w.heap.size + 1) 30 #[.bool lf, .slice D nk cd, .slice E nv ce, .slice F nc cf] by
    rw [hw0]
    have h1 := Bk.new (w.alloc (.cells #[.bool lf, .slice A nk ca, .slice B nv cb, .slice C nc cc] 30)) 30 #[.bool lf, .slice D nk cd, .slice E nv ce, .slice F nc cf]
    rwa [World.size_alloc] at h1)
  have HB0 := Lib.hid (Below.refl w0.heap.size w0)
  have HW0 := Lib.hid hw0
  clear h1 h2 hbw hw0
  go_enter Try.func13, Try.ntmps13
  go_wp2_with fail
  rw [← HW0.out]
  go_loopw [43] (fun i wr => ∃ k : Nat, k ≤ nk ∧ i = .int .i64 k ∧ Below w0.heap.size w0 wr) (fun i _ => nk - (intOf i).toNat)
  case atStart => exact ⟨0, by omega, rfl, HB0.out⟩
  case round =>
    obtain ⟨k, hk, rfl, hb⟩ := hrel
    have HBr := Lib.hid hb
    have x1 := (X1.out.bel hb).cell 1
    have y1 := (X2.out.bel hb).cell 1
    have x2 := (X1.out.bel hb).cell 2
    have y2 := (X2.out.bel hb).cell 2
    have x3 := (X1.out.bel hb).cell 3
    have y3 := (X2.out.bel hb).cell 3
    by_cases hlt : k < nk
    · have hkl : k < ks.length := by have := H1.out.ek; simp only at this; omega
      obtain ⟨b, off, rfl, hbl, hc⟩ := (S1.out.sk.bel hb).str (k := k) hkl
      obtain ⟨b', off', rfl, hbl', hc'⟩ := (S2.out.sk.bel hb).str (k := k) hkl
      have i1 : (0 : Int) ≤ (k : Int) := by omega
      have i2 : (k : Int) < (nk : Int) := by omega
      generalize ks[k] = s at *
      have he : (s.toList != s.toList) = false := by simp
      have he2 : (!(s.toList == s.toList)) = false := by simp
      clear hb
      go_wp2
      go_quiet (fail)
      go_wp2
      go_roundw
      case rel => exact ⟨k + 1, by omega, by go_num, below_drewN HBr.out _⟩
      case measure => simp [intOf]; omega
    · clear hb
      have HB0 := HBr
      go_wp2
      go_loopw [61] (fun i wr => ∃ k : Nat, k ≤ nv ∧ i = .int .i64 k ∧ Below w0.heap.size w0 wr) (fun i _ => nv - (intOf i).toNat)
      case atStart => exact ⟨0, by omega, rfl, HB0.out⟩
      case round =>
        obtain ⟨k, hk, rfl, hb⟩ := hrel
        have HBr := Lib.hid hb
        have x1 := (X1.out.bel hb).cell 1
        have y1 := (X2.out.bel hb).cell 1
        have x2 := (X1.out.bel hb).cell 2
        have y2 := (X2.out.bel hb).cell 2
        have x3 := (X1.out.bel hb).cell 3
        have y3 := (X2.out.bel hb).cell 3
        by_cases hlt : k < nv
        · have hkl : k < vs.length := by have := H1.out.ev; simp only at this; omega
          obtain ⟨b, off, rfl, hbl, hc⟩ := (S1.out.sv.bel hb).str (k := k) hkl
          obtain ⟨b', off', rfl, hbl', hc'⟩ := (S2.out.sv.bel hb).str (k := k) hkl
          have i1 : (0 : Int) ≤ (k : Int) := by omega
          have i2 : (k : Int) < (nv : Int) := by omega
          generalize vs[k] = s at *
          have he : (s.toList != s.toList) = false := by simp
          have he2 : (!(s.toList == s.toList)) = false := by simp
          clear hb
          go_wp2
          go_quiet (fail)
          go_wp2
          go_roundw
          case rel => exact ⟨k + 1, by omega, by go_num, below_drewN HBr.out _⟩
          case measure => simp [intOf]; omega
        · clear hb
          have HB0 := HBr
          go_wp2
          go_loopw [79] (fun i wr => ∃ k : Nat, k ≤ nc ∧ i = .int .i64 k ∧ Below w0.heap.size w0 wr) (fun i _ => nc - (intOf i).toNat)
          case atStart => exact ⟨0, by omega, rfl, HB0.out⟩
          case round =>
            obtain ⟨k, hk, rfl, hb⟩ := hrel
            have HBr := Lib.hid hb
            have x1 := (X1.out.bel hb).cell 1
            have y1 := (X2.out.bel hb).cell 1
            have x2 := (X1.out.bel hb).cell 2
            have y2 := (X2.out.bel hb).cell 2
            have x3 := (X1.out.bel hb).cell 3
            have y3 := (X2.out.bel hb).cell 3
            by_cases hlt : k < nc
            · have hkl : k < cs.length := by have := H1.out.ec; simp only at this; omega
              obtain ⟨b, off, rfl, hbl, hc⟩ := (S1.out.sc.bel hb).i64 (k := k) hkl
              obtain ⟨b', off', rfl, hbl', hc'⟩ := (S2.out.sc.bel hb).i64 (k := k) hkl
              have i1 : (0 : Int) ≤ (k : Int) := by omega
              have i2 : (k : Int) < (nc : Int) := by omega
              generalize cs[k] = s at *
              have he : (s != s) = false := by simp
              have he2 : (!(s == s)) = false := by simp
              clear hb
              go_wp2
              go_quiet (fail)
              go_wp2
              go_roundw
              case rel => exact ⟨k + 1, by omega, by go_num, below_drewN HBr.out _⟩
              case measure => simp [intOf]; omega
            · clear hb
              have HB0 := HBr
              go_wp2
              go_ret
              exact ⟨rfl, HBW.out.trans (HB0.out.mono HBW.out.size)⟩
end Go.Proofs.Ytopkkolcimmedaa
