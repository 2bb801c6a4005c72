/- The program's inForm tells whether a node is in form. Condition: the node's rows lie in memory. -/
import Derived.Test.YtopkkolcimmedaaProg
import Derived.Test.YtopkkolcimmedaaIsOk
import Derived.WalkLawsBesides
import Derived.BigQuiet
import Derived.Deep.QuietTactic
namespace Go.Proofs.Ytopkkolcimmedaa
open Go.RowKit

set_option maxRecDepth 100000 in
set_option maxHeartbeats 2000000 in
theorem inform_leaf (ks vs : List ByteArray) (cs : List Int) (A B C : Option Addr) (nk ca nv cb nc cc : Nat) (w : World) (h : Nd w ⟨true, ks, vs, cs⟩ A B C nk ca nv cb nc cc) :
    Calls Try.prog 15 #[.agg #[.bool true, .slice A nk ca, .slice B nv cb, .slice C nc cc]] w fun e w' => e = .returned (.bool (formB ⟨true, ks, vs, cs⟩)) ∧ Below w.heap.size w w' := by
  have H := Lib.hid h
  have HA := Lib.hid ((Below.refl w.heap.size w).alloc (Nat.le_refl _) (.cells #[.bool true, .slice A nk ca, .slice B nv cb, .slice C nc cc] 30))
  have bk := h.bk
  have bv := h.bv
  have bc := h.bc
  clear h
  go_enter Try.func15, Try.ntmps15
  go_wp2
  go_loop [8] (fun i => ∃ k : Nat, k ≤ nk ∧ i = .int .i64 k ∧ Hid (∀ j, j < k → keyOk ks j = true)) (fun i => nk - (intOf i).toNat)
  case atStart => exact ⟨0, by omega, rfl, Lib.hid (fun j hj => by omega)⟩
  case round =>
    obtain ⟨k, hk, rfl, hp⟩ := hrel
    by_cases hlt : k < nk
    · have hkl : k < ks.length := by have := H.out.ek; simp only at this; omega
      obtain ⟨b, off, rfl, hbl, hc⟩ := H.out.sk.str (k := k) hkl
      have hz := H.out.zk _ (List.getElem_mem hkl)
      by_cases h1 : (ks[k]).size < 1
      · have HF := Lib.hid (formB_key (n := ⟨true, ks, vs, cs⟩) (keysOk_bad hkl (keyOk_small hkl h1)))
        generalize ks[k] = s at *
        go_wp2
        go_ret
        exact ⟨by rw [HF.out]; rfl, HA.out⟩
      · by_cases h2 : 20 < (ks[k]).size
        · have HF := Lib.hid (formB_key (n := ⟨true, ks, vs, cs⟩) (keysOk_bad hkl (keyOk_great hkl h2)))
          generalize ks[k] = s at *
          go_wp2
          go_ret
          exact ⟨by rw [HF.out]; rfl, HA.out⟩
        · by_cases h3 : k = 0
          · have HK := Lib.hid (show ∀ j, j < k + 1 → keyOk ks j = true by
              subst h3
              intro j hj
              obtain rfl : j = 0 := by omega
              exact keyOk_zero hkl (by omega) (by omega))
            have h3' : ¬ 0 < k := by omega
            clear h3
            generalize ks[k] = s at *
            go_wp2
            go_round
            case rel => exact ⟨k + 1, by omega, by go_num, HK⟩
            case measure => simp [intOf]; omega
          · obtain ⟨q, hq⟩ : ∃ q, k = q + 1 := ⟨k - 1, by omega⟩
            subst hq
            obtain ⟨b', off', e', hbl', hc'⟩ := H.out.sk.str (k := q) (show q < ks.length by omega)
            injection e' with e'
            injection e' with e1 e2
            subst e1
            subst e2
            have hz' := H.out.zk _ (List.getElem_mem (show q < ks.length by omega))
            have t1 : IntKind.i64.wrap (((q + 1 : Nat) : Int) - 1) = (q : Int) := by rw [IntKind.wrap_i64]; omega
            by_cases hb : Op.bytesLess (ks[q]'(by omega)).toList (ks[q + 1]).toList = true
            · have HK := Lib.hid (show ∀ j, j < q + 1 + 1 → keyOk ks j = true by
                intro j hj
                by_cases hj' : j = q + 1
                · subst hj'
                  exact keyOk_up hkl (by omega) (by omega) (by omega) hb
                · exact hp.out j (by omega))
              have h3' : 0 < q + 1 := by omega
              generalize ks[q + 1] = s at *
              generalize ks[q]'(by omega) = s' at *
              go_wp2
              go_round
              case rel => exact ⟨q + 1 + 1, by omega, by go_num, HK⟩
              case measure => simp [intOf]; omega
            · have hb : Op.bytesLess (ks[q]'(by omega)).toList (ks[q + 1]).toList = false := by simpa using hb
              have HF := Lib.hid (formB_key (n := ⟨true, ks, vs, cs⟩) (keysOk_bad hkl (keyOk_up hkl (by omega) (by omega) (by omega) hb)))
              have h3' : 0 < q + 1 := by omega
              generalize ks[q + 1] = s at *
              generalize ks[q]'(by omega) = s' at *
              go_wp2
              go_ret
              exact ⟨by rw [HF.out]; rfl, HA.out⟩
    · have HK := Lib.hid (keysOk_all (ks := ks) (fun j hj => hp.out j (by have := H.out.ek; simp only at this; omega)))
      clear hp
      have HF := Lib.hid (formB_rest (n := ⟨true, ks, vs, cs⟩) HK.out)
      have HR := Lib.hid (show restOk ⟨true, ks, vs, cs⟩ = (decide (nv = nk) && decide (nc = 0) && vs.all valOk) by rw [show nv = vs.length from H.out.ev, show nk = ks.length from H.out.ek, show nc = cs.length from H.out.ec]; rfl)
      by_cases q1 : nv = nk
      · have t1 : ((nv : Int) == (nk : Int)) = true := by simp [q1]
        have Q1 := Lib.hid q1
        clear q1
        by_cases q2 : nc = 0
        · have t2 : ((nc : Int) == 0) = true := by simp [q2]
          have Q2 := Lib.hid q2
          clear q2
          have C1 := Lib.hid (contains_str vs B nv cb H.out.ev H.out.bv H.out.zv _ (H.out.sv.bel HA.out))
          obtain ⟨v, hv⟩ : ∃ v, v = vs.all valOk := ⟨_, rfl⟩
          rw [← hv] at C1 HR
          clear hv
          cases v
          all_goals
            go_wp2_with (refine (C1.out).mono ?_; rintro e w' ⟨rfl, rfl⟩)
            go_ret
            exact ⟨by rw [HF.out, HR.out, decide_eq_true Q1.out, decide_eq_true Q2.out]; rfl, HA.out⟩
        · have t2 : ((nc : Int) == 0) = false := by simp; omega
          have Q2 := Lib.hid q2
          clear q2
          go_wp2
          go_ret
          exact ⟨by rw [HF.out, HR.out, decide_eq_true Q1.out, decide_eq_false Q2.out]; rfl, HA.out⟩
      · have t1 : ((nv : Int) == (nk : Int)) = false := by simp; omega
        have Q1 := Lib.hid q1
        clear q1
        go_wp2
        go_ret
        exact ⟨by rw [HF.out, HR.out, decide_eq_false Q1.out]; rfl, HA.out⟩

set_option maxRecDepth 100000 in
set_option maxHeartbeats 2000000 in
theorem inform_branch (ks vs : List ByteArray) (cs : List Int) (A B C : Option Addr) (nk ca nv cb nc cc : Nat) (w : World) (h : Nd w ⟨false, ks, vs, cs⟩ A B C nk ca nv cb nc cc) :
    Calls Try.prog 15 #[.agg #[.bool false, .slice A nk ca, .slice B nv cb, .slice C nc cc]] w fun e w' => e = .returned (.bool (formB ⟨false, ks, vs, cs⟩)) ∧ Below w.heap.size w w' := by
  have H := Lib.hid h
  have HA := Lib.hid ((Below.refl w.heap.size w).alloc (Nat.le_refl _) (.cells #[.bool false, .slice A nk ca, .slice B nv cb, .slice C nc cc] 30))
  have bk := h.bk
  have bv := h.bv
  have bc := h.bc
  clear h
  go_enter Try.func15, Try.ntmps15
  go_wp2
  go_loop [8] (fun i => ∃ k : Nat, k ≤ nk ∧ i = .int .i64 k ∧ Hid (∀ j, j < k → keyOk ks j = true)) (fun i => nk - (intOf i).toNat)
  case atStart => exact ⟨0, by omega, rfl, Lib.hid (fun j hj => by omega)⟩
  case round =>
    obtain ⟨k, hk, rfl, hp⟩ := hrel
    by_cases hlt : k < nk
    · have hkl : k < ks.length := by have := H.out.ek; simp only at this; omega
      obtain ⟨b, off, rfl, hbl, hc⟩ := H.out.sk.str (k := k) hkl
      have hz := H.out.zk _ (List.getElem_mem hkl)
      by_cases h1 : (ks[k]).size < 1
      · have HF := Lib.hid (formB_key (n := ⟨false, ks, vs, cs⟩) (keysOk_bad hkl (keyOk_small hkl h1)))
        generalize ks[k] = s at *
        go_wp2
        go_ret
        exact ⟨by rw [HF.out]; rfl, HA.out⟩
      · by_cases h2 : 20 < (ks[k]).size
        · have HF := Lib.hid (formB_key (n := ⟨false, ks, vs, cs⟩) (keysOk_bad hkl (keyOk_great hkl h2)))
          generalize ks[k] = s at *
          go_wp2
          go_ret
          exact ⟨by rw [HF.out]; rfl, HA.out⟩
        · by_cases h3 : k = 0
          · have HK := Lib.hid (show ∀ j, j < k + 1 → keyOk ks j = true by
              subst h3
              intro j hj
              obtain rfl : j = 0 := by omega
              exact keyOk_zero hkl (by omega) (by omega))
            have h3' : ¬ 0 < k := by omega
            clear h3
            generalize ks[k] = s at *
            go_wp2
            go_round
            case rel => exact ⟨k + 1, by omega, by go_num, HK⟩
            case measure => simp [intOf]; omega
          · obtain ⟨q, hq⟩ : ∃ q, k = q + 1 := ⟨k - 1, by omega⟩
            subst hq
            obtain ⟨b', off', e', hbl', hc'⟩ := H.out.sk.str (k := q) (show q < ks.length by omega)
            injection e' with e'
            injection e' with e1 e2
            subst e1
            subst e2
            have hz' := H.out.zk _ (List.getElem_mem (show q < ks.length by omega))
            have t1 : IntKind.i64.wrap (((q + 1 : Nat) : Int) - 1) = (q : Int) := by rw [IntKind.wrap_i64]; omega
            by_cases hb : Op.bytesLess (ks[q]'(by omega)).toList (ks[q + 1]).toList = true
            · have HK := Lib.hid (show ∀ j, j < q + 1 + 1 → keyOk ks j = true by
                intro j hj
                by_cases hj' : j = q + 1
                · subst hj'
                  exact keyOk_up hkl (by omega) (by omega) (by omega) hb
                · exact hp.out j (by omega))
              have h3' : 0 < q + 1 := by omega
              generalize ks[q + 1] = s at *
              generalize ks[q]'(by omega) = s' at *
              go_wp2
              go_round
              case rel => exact ⟨q + 1 + 1, by omega, by go_num, HK⟩
              case measure => simp [intOf]; omega
            · have hb : Op.bytesLess (ks[q]'(by omega)).toList (ks[q + 1]).toList = false := by simpa using hb
              have HF := Lib.hid (formB_key (n := ⟨false, ks, vs, cs⟩) (keysOk_bad hkl (keyOk_up hkl (by omega) (by omega) (by omega) hb)))
              have h3' : 0 < q + 1 := by omega
              generalize ks[q + 1] = s at *
              generalize ks[q]'(by omega) = s' at *
              go_wp2
              go_ret
              exact ⟨by rw [HF.out]; rfl, HA.out⟩
    · have HK := Lib.hid (keysOk_all (ks := ks) (fun j hj => hp.out j (by have := H.out.ek; simp only at this; omega)))
      clear hp
      have HF := Lib.hid (formB_rest (n := ⟨false, ks, vs, cs⟩) HK.out)
      have HR := Lib.hid (show restOk ⟨false, ks, vs, cs⟩ = (decide (0 < nk) && decide (nc = nk + 1) && decide (nv = 0) && cs.all kidOk) by rw [show nv = vs.length from H.out.ev, show nk = ks.length from H.out.ek, show nc = cs.length from H.out.ec]; rfl)
      by_cases q1 : 0 < nk
      · have t0 : decide ((0 : Int) < (nk : Int)) = true := by simp; omega
        by_cases q2 : nc = nk + 1
        · have t1 : ((nc : Int) == (nk : Int) + 1) = true := by simp; omega
          have Q2 := Lib.hid q2
          clear q2
          by_cases q3 : nv = 0
          · have t2 : ((nv : Int) == 0) = true := by simp [q3]
            have Q3 := Lib.hid q3
            clear q3
            have C1 := Lib.hid (contains_int cs C nc cc H.out.ec H.out.bc _ (H.out.sc.bel HA.out))
            obtain ⟨v, hv⟩ : ∃ v, v = cs.all kidOk := ⟨_, rfl⟩
            rw [← hv] at C1 HR
            clear hv
            cases v
            all_goals
              go_wp2_with (refine (C1.out).mono ?_; rintro e w' ⟨rfl, rfl⟩)
              go_ret
              exact ⟨by rw [HF.out, HR.out, decide_eq_true q1, decide_eq_true Q2.out, decide_eq_true Q3.out]; rfl, HA.out⟩
          · have t2 : ((nv : Int) == 0) = false := by simp; omega
            have Q3 := Lib.hid q3
            clear q3
            go_wp2
            go_ret
            exact ⟨by rw [HF.out, HR.out, decide_eq_true q1, decide_eq_true Q2.out, decide_eq_false Q3.out]; rfl, HA.out⟩
        · have t1 : ((nc : Int) == (nk : Int) + 1) = false := by simp; omega
          have Q2 := Lib.hid q2
          clear q2
          go_wp2
          go_ret
          exact ⟨by rw [HF.out, HR.out, decide_eq_true q1, decide_eq_false Q2.out]; rfl, HA.out⟩
      · have t0 : decide ((0 : Int) < (nk : Int)) = false := by simp; omega
        go_wp2
        go_ret
        exact ⟨by rw [HF.out, HR.out, decide_eq_false q1]; rfl, HA.out⟩

theorem inform_any (n : NodeM) (A B C : Option Addr) (nk ca nv cb nc cc : Nat) (w : World) (h : Nd w n A B C nk ca nv cb nc cc) :
    Calls Try.prog 15 #[.agg #[.bool n.leaf, .slice A nk ca, .slice B nv cb, .slice C nc cc]] w fun e w' => e = .returned (.bool (formB n)) ∧ Below w.heap.size w w' := by
  obtain ⟨lf, ks, vs, cs⟩ := n
  cases lf
  · exact inform_branch ks vs cs A B C nk ca nv cb nc cc w h
  · exact inform_leaf ks vs cs A B C nk ca nv cb nc cc w h
end Go.Proofs.Ytopkkolcimmedaa
