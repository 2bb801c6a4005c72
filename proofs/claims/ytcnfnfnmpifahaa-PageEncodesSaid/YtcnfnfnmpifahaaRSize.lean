/- The reference's sizes of a node. Condition: the node's rows lie in memory. -/
import Derived.Test.YtcnfnfnmpifahaaSize
import Derived.Test.YtcnfnfnmpifahaaForm
namespace Go.Proofs.Ytcnfnfnmpifahaa
open Go.RowKit

theorem wrap_key2 (X K : Nat) (z a b : Int) (hz : z = IntKind.i64.wrap (X : Int)) (hK : (K : Int) = a + b) : wrap64 (wrap64 (z + a) + b) = IntKind.i64.wrap ((X + K : Nat) : Int) := by
  subst hz
  unfold wrap64
  rw [IntKind.wrap_i64, IntKind.wrap_i64]
  omega
theorem wrap_key1 (X K : Nat) (z a : Int) (hz : z = IntKind.i64.wrap (X : Int)) (hK : (K : Int) = a) : wrap64 (z + a) = IntKind.i64.wrap ((X + K : Nat) : Int) := by
  subst hz
  unfold wrap64
  rw [IntKind.wrap_i64, IntKind.wrap_i64]
  omega
set_option maxRecDepth 100000 in
set_option maxHeartbeats 1000000 in
theorem rsize_leaf (ks vs : List ByteArray) (cs : List Int) (A B C : Option Addr) (nk ca nv cb nc cc : Nat) (w : World) (h : Nd w ⟨true, ks, vs, cs⟩ A B C nk ca nv cb nc cc) :
    Calls Try.prog 13 #[.agg #[.bool true, .slice A nk ca, .slice B nv cb, .slice C nc cc]] w fun e w' => e = .returned (.int .i64 (IntKind.i64.wrap (sizeN ⟨true, ks, vs, cs⟩ : Nat))) ∧ Below w.heap.size w w' := by
  have H := Lib.hid h
  have HA := Lib.hid ((Below.refl w.heap.size w).alloc (Nat.le_refl _) (.cells #[.bool true, .slice A nk ca, .slice B nv cb, .slice C nc cc] 25))
  have bk := h.bk
  have bv := h.bv
  have EV := Lib.hid (show nv = vs.length from h.ev)
  have EK := Lib.hid (show nk = ks.length from h.ek)
  have HE := Lib.hid (show sizeN ⟨true, ks, vs, cs⟩ = headN true + sumN ⟨true, ks, vs, cs⟩ nk by rw [show nk = ks.length from h.ek]; rfl)
  clear h
  go_enter Try.func13, Try.ntmps13
  go_wp2
  go_loop [3, 12] (fun s i => ∃ (k : Nat) (z : Int), k ≤ nk ∧ i = .int .i64 k ∧ s = .int .i64 z ∧ Hid (z = IntKind.i64.wrap ((headN true + sumN ⟨true, ks, vs, cs⟩ k : Nat) : Int))) (fun _ i => nk - (intOf i).toNat)
  case atStart => exact ⟨0, 2, by omega, rfl, rfl, Lib.hid rfl⟩
  case round =>
    obtain ⟨k, z, hk, rfl, rfl, HZ⟩ := hrel
    by_cases hlt : k < nk
    · have hkl : k < ks.length := by have := EK.out; omega
      obtain ⟨b, off, rfl, hbl, hc⟩ := H.out.sk.str (k := k) hkl
      have hz := H.out.zk _ (List.getElem_mem hkl)
      have HG := Lib.hid (getD_at hkl)
      by_cases hv : k < nv
      · have hvl : k < vs.length := by have := EV.out; omega
        obtain ⟨b', off', rfl, hbl', hc'⟩ := H.out.sv.str (k := k) hvl
        have hz' := H.out.zv _ (List.getElem_mem hvl)
        have HR := Lib.hid (show keyN ⟨true, ks, vs, cs⟩ k = (1 + (ks[k]).size) + (1 + (vs[k]).size) by unfold keyN; rw [HG.out]; simp only [if_true]; rw [if_pos hvl, getD_at hvl])
        simp only at hc hc' hz hz'
        generalize ks[k] = s at *
        generalize vs[k] = t at *
        go_wp2
        go_round
        case rel => exact ⟨k + 1, _, by omega, by go_num, rfl, Lib.hid (by rw [sumN, ← Nat.add_assoc]; exact wrap_key2 _ _ _ _ _ HZ.out (by rw [HR.out]; push_cast; omega))⟩
        case measure => simp [intOf]; omega
      · have HR := Lib.hid (show keyN ⟨true, ks, vs, cs⟩ k = 1 + (ks[k]).size by unfold keyN; rw [HG.out]; simp only [if_true]; rw [if_neg (by have := EV.out; omega), Nat.add_zero])
        simp only at hc hz
        generalize ks[k] = s at *
        go_wp2
        go_round
        case rel => exact ⟨k + 1, _, by omega, by go_num, rfl, Lib.hid (by rw [sumN, ← Nat.add_assoc]; exact wrap_key1 _ _ _ _ HZ.out (by rw [HR.out]; push_cast; omega))⟩
        case measure => simp [intOf]; omega
    · have HK := Lib.hid (show k = nk by omega)
      go_wp2
      go_ret
      exact ⟨by rw [HE.out, ← HK.out]; exact ret_eq HZ.out, HA.out⟩
set_option maxRecDepth 100000 in
set_option maxHeartbeats 1000000 in
theorem rsize_branch (ks vs : List ByteArray) (cs : List Int) (A B C : Option Addr) (nk ca nv cb nc cc : Nat) (w : World) (h : Nd w ⟨false, ks, vs, cs⟩ A B C nk ca nv cb nc cc) :
    Calls Try.prog 13 #[.agg #[.bool false, .slice A nk ca, .slice B nv cb, .slice C nc cc]] w fun e w' => e = .returned (.int .i64 (IntKind.i64.wrap (sizeN ⟨false, ks, vs, cs⟩ : Nat))) ∧ Below w.heap.size w w' := by
  have H := Lib.hid h
  have HA := Lib.hid ((Below.refl w.heap.size w).alloc (Nat.le_refl _) (.cells #[.bool false, .slice A nk ca, .slice B nv cb, .slice C nc cc] 25))
  have bk := h.bk
  have bv := h.bv
  have EV := Lib.hid (show nv = vs.length from h.ev)
  have EK := Lib.hid (show nk = ks.length from h.ek)
  have HE := Lib.hid (show sizeN ⟨false, ks, vs, cs⟩ = headN false + sumN ⟨false, ks, vs, cs⟩ nk by rw [show nk = ks.length from h.ek]; rfl)
  clear h
  go_enter Try.func13, Try.ntmps13
  go_wp2
  go_loop [3, 12] (fun s i => ∃ (k : Nat) (z : Int), k ≤ nk ∧ i = .int .i64 k ∧ s = .int .i64 z ∧ Hid (z = IntKind.i64.wrap ((headN false + sumN ⟨false, ks, vs, cs⟩ k : Nat) : Int))) (fun _ i => nk - (intOf i).toNat)
  case atStart => exact ⟨0, 4, by omega, rfl, rfl, Lib.hid rfl⟩
  case round =>
    obtain ⟨k, z, hk, rfl, rfl, HZ⟩ := hrel
    by_cases hlt : k < nk
    · have hkl : k < ks.length := by have := EK.out; omega
      obtain ⟨b, off, rfl, hbl, hc⟩ := H.out.sk.str (k := k) hkl
      have hz := H.out.zk _ (List.getElem_mem hkl)
      have HG := Lib.hid (getD_at hkl)
      have HR := Lib.hid (show keyN ⟨false, ks, vs, cs⟩ k = (1 + (ks[k]).size) + 2 by unfold keyN; rw [HG.out]; rfl)
      simp only at hc hz
      generalize ks[k] = s at *
      go_wp2
      go_round
      case rel => exact ⟨k + 1, _, by omega, by go_num, rfl, Lib.hid (by rw [sumN, ← Nat.add_assoc]; exact wrap_key2 _ _ _ _ _ HZ.out (by rw [HR.out]; push_cast; omega))⟩
      case measure => simp [intOf]; omega
    · have HK := Lib.hid (show k = nk by omega)
      go_wp2
      go_ret
      exact ⟨by rw [HE.out, ← HK.out]; exact ret_eq HZ.out, HA.out⟩
theorem rsize_any (n : NodeM) (A B C : Option Addr) (nk ca nv cb nc cc : Nat) (w : World) (h : Nd w n A B C nk ca nv cb nc cc) :
    Calls Try.prog 13 #[.agg #[.bool n.leaf, .slice A nk ca, .slice B nv cb, .slice C nc cc]] w fun e w' => e = .returned (.int .i64 (IntKind.i64.wrap (sizeN n : Nat))) ∧ Below w.heap.size w w' := by
  obtain ⟨lf, ks, vs, cs⟩ := n
  cases lf
  · exact rsize_branch ks vs cs A B C nk ca nv cb nc cc w h
  · exact rsize_leaf ks vs cs A B C nk ca nv cb nc cc w h
end Go.Proofs.Ytcnfnfnmpifahaa
