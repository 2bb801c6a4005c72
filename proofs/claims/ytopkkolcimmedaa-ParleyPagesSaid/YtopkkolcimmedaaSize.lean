/- The program's sizes of a node. Condition: the node's rows lie in memory. -/
import Derived.Test.YtopkkolcimmedaaProg
import Derived.Test.YtopkkolcimmedaaNdA
import Derived.WalkLawsBesides
import Derived.BigQuiet
import Derived.Deep.QuietTactic
namespace Go.Proofs.Ytopkkolcimmedaa
open Go.RowKit

theorem ret_eq {a b : Int} (h : a = b) : Ending.returned (.int .i64 a) = .returned (.int .i64 b) := by rw [h]
theorem head_any (lf : Bool) (a b c : Value) (w : World) :
    Calls Try.prog 19 #[.agg #[.bool lf, a, b, c]] w fun e w' => e = .returned (.int .i64 (headN lf : Nat)) ∧ Below w.heap.size w w' := by
  have HA := Lib.hid ((Below.refl w.heap.size w).alloc (Nat.le_refl _) (.cells #[.bool lf, a, b, c] 30))
  cases lf
  all_goals
    go_enter Try.func19, Try.ntmps19
    go_wp2
    go_ret
    exact ⟨rfl, HA.out⟩
theorem between_any (lf : Bool) (a b c : Value) (w : World) :
    Calls Try.prog 22 #[.agg #[.bool lf, a, b, c]] w fun e w' => e = .returned (.int .i64 (if lf then 0 else 1)) ∧ Below w.heap.size w w' := by
  have HA := Lib.hid ((Below.refl w.heap.size w).alloc (Nat.le_refl _) (.cells #[.bool lf, a, b, c] 30))
  cases lf
  all_goals
    go_enter Try.func22, Try.ntmps22
    go_wp2
    go_ret
    exact ⟨rfl, HA.out⟩
set_option maxRecDepth 100000 in
set_option maxHeartbeats 1000000 in
theorem key_any (lf : Bool) (ks vs : List ByteArray) (cs : List Int) (A B C : Option Addr) (nk ca nv cb nc cc : Nat) (w : World) (h : Nd w ⟨lf, ks, vs, cs⟩ A B C nk ca nv cb nc cc) (i : Int) (k : Nat) (hik : i = (k : Int)) (hk : k < nk) :
    Calls Try.prog 20 #[.agg #[.bool lf, .slice A nk ca, .slice B nv cb, .slice C nc cc], .int .i64 i] w fun e w' => e = .returned (.int .i64 (keyN ⟨lf, ks, vs, cs⟩ k : Nat)) ∧ Below w.heap.size w w' := by
  subst hik
  have H := Lib.hid h
  have HA := Lib.hid ((Below.refl w.heap.size w).alloc (Nat.le_refl _) (.cells #[.bool lf, .slice A nk ca, .slice B nv cb, .slice C nc cc] 30))
  have bk := h.bk
  have bv := h.bv
  have bc := h.bc
  clear h
  have hkl : k < ks.length := by have := H.out.ek; simp only at this; omega
  have HG := Lib.hid (getD_at hkl)
  obtain ⟨b, off, rfl, hbl, hc⟩ := H.out.sk.str (k := k) hkl
  have hz := H.out.zk _ (List.getElem_mem hkl)
  have EV := Lib.hid (show nv = vs.length from H.out.ev)
  generalize ks[k] = s at *
  cases lf
  · have HR := Lib.hid (show keyN ⟨false, ks, vs, cs⟩ k = 1 + s.size + 2 by unfold keyN; rw [HG.out]; rfl)
    go_enter Try.func20, Try.ntmps20
    go_wp2
    go_ret
    exact ⟨by rw [HR.out]; exact ret_eq (by omega), HA.out⟩
  · by_cases hv : k < nv
    · have hvl : k < vs.length := by have := EV.out; omega
      obtain ⟨b', off', rfl, hbl', hc'⟩ := H.out.sv.str (k := k) hvl
      have hz' := H.out.zv _ (List.getElem_mem hvl)
      have HR := Lib.hid (show keyN ⟨true, ks, vs, cs⟩ k = 1 + s.size + (1 + (vs[k]).size) by unfold keyN; rw [HG.out]; simp only [if_true]; rw [if_pos hvl, getD_at hvl])
      generalize vs[k] = s' at *
      go_enter Try.func20, Try.ntmps20
      go_wp2
      go_ret
      exact ⟨by rw [HR.out]; exact ret_eq (by omega), HA.out⟩
    · have HR := Lib.hid (show keyN ⟨true, ks, vs, cs⟩ k = 1 + s.size by unfold keyN; rw [HG.out]; simp only [if_true]; rw [if_neg (by have := EV.out; omega), Nat.add_zero])
      go_enter Try.func20, Try.ntmps20
      go_wp2
      go_ret
      exact ⟨by rw [HR.out]; exact ret_eq (by omega), HA.out⟩
theorem wrap_step (X Y : Nat) (z y : Int) (hz : z = IntKind.i64.wrap (X : Int)) (hy : y = (Y : Int)) : IntKind.i64.wrap (z + y) = IntKind.i64.wrap ((X + Y : Nat) : Int) := by
  subst hz hy
  simp only [IntKind.wrap_i64]
  omega
set_option maxRecDepth 100000 in
set_option maxHeartbeats 1000000 in
theorem size_any (lf : Bool) (ks vs : List ByteArray) (cs : List Int) (A B C : Option Addr) (nk ca nv cb nc cc : Nat) (w : World) (h : Nd w ⟨lf, ks, vs, cs⟩ A B C nk ca nv cb nc cc) :
    Calls Try.prog 7 #[.agg #[.bool lf, .slice A nk ca, .slice B nv cb, .slice C nc cc]] w fun e w' => e = .returned (.int .i64 (IntKind.i64.wrap (sizeN ⟨lf, ks, vs, cs⟩ : Nat))) ∧ Below w.heap.size w w' := by
  have H := Lib.hid h
  have HA := Lib.hid ((Below.refl w.heap.size w).alloc (Nat.le_refl _) (.cells #[.bool lf, .slice A nk ca, .slice B nv cb, .slice C nc cc] 30))
  have HB := Lib.hid (Bk.new w 30 #[.bool lf, .slice A nk ca, .slice B nv cb, .slice C nc cc])
  have bk := h.bk
  have HE := Lib.hid (show sizeN ⟨lf, ks, vs, cs⟩ = headN lf + sumN ⟨lf, ks, vs, cs⟩ nk by rw [show nk = ks.length from h.ek]; rfl)
  clear h
  go_enter Try.func7, Try.ntmps7
  go_wp2_with fail
  refine (head_any _ _ _ _ _).mono ?_
  rintro e w1 ⟨rfl, hb1⟩
  have HB1 := Lib.hid (HB.out.bel hb1)
  have HA1 := Lib.hid (HA.out.trans (hb1.mono HA.out.size))
  obtain ⟨z, hz⟩ : ∃ z : Int, z = ((headN lf : Nat) : Int) := ⟨_, rfl⟩
  rw [← hz]
  have HZ := Lib.hid (show z = IntKind.i64.wrap ((headN lf + sumN ⟨lf, ks, vs, cs⟩ 0 : Nat) : Int) by rw [hz]; cases lf <;> rfl)
  have z1 : -9223372036854775808 ≤ z := by cases lf <;> simp [hz, headN]
  have z2 : z ≤ 9223372036854775807 := by cases lf <;> simp [hz, headN]
  have y1 := hb1.cell (p := ⟨w.heap.size, 1, none⟩) (by simp)
  clear hz hb1
  have y1 := HB1.out.cell 1
  go_wp2_with fail
  go_loopw [3, 10] (fun s i wr => ∃ (k : Nat) (z : Int), k ≤ nk ∧ i = .int .i64 k ∧ s = .int .i64 z ∧ Hid (z = IntKind.i64.wrap ((headN lf + sumN ⟨lf, ks, vs, cs⟩ k : Nat) : Int)) ∧ Below w1.heap.size w1 wr) (fun _ i _ => nk - (intOf i).toNat)
  case atStart => exact ⟨0, z, by omega, rfl, rfl, HZ, Below.refl _ _⟩
  case round =>
    obtain ⟨k, y, hk, rfl, rfl, HY, hb⟩ := hrel
    clear z1 z2 HZ y1
    have HBr := HB1.out.bel hb
    have y0 := HBr.cell 0
    have y1 := HBr.cell 1
    have y2 := HBr.cell 2
    have y3 := HBr.cell 3
    have HAr := Lib.hid (HA1.out.trans (hb.mono HA1.out.size))
    have HBW := Lib.hid hb
    clear HBr hb
    by_cases hlt : k < nk
    · have C1 := Lib.hid (key_any lf ks vs cs A B C nk ca nv cb nc cc wr (H.out.bel HAr.out) (k : Int) k rfl hlt)
      go_wp2_with fail
      refine C1.out.mono ?_
      rintro e w2 ⟨rfl, hb2⟩
      have HB2 := Lib.hid (below_step HBW.out hb2)
      obtain ⟨y, hy⟩ : ∃ y : Int, y = ((keyN ⟨lf, ks, vs, cs⟩ k : Nat) : Int) := ⟨_, rfl⟩
      rw [← hy]
      have HN := Lib.hid (wrap_step _ _ _ _ HY.out hy)
      clear hy hb2 y0 y1 y2 y3
      go_wp2_with fail
      go_roundw
      case rel => exact ⟨k + 1, _, by omega, by go_num, rfl, Lib.hid (by rw [sumN, ← Nat.add_assoc]; exact (IntWalk.i64_left _).symm.trans HN.out), HB2.out⟩
      case measure => simp [intOf]; omega
    · have HK := Lib.hid (show k = nk by omega)
      go_wp2
      go_ret
      exact ⟨by rw [HE.out, ← HK.out]; exact ret_eq HY.out, HAr.out⟩
end Go.Proofs.Ytopkkolcimmedaa
