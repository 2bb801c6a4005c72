/- PageHalves' walk, and the reference's Check of a node. Condition: the node's rows lie in memory. -/
import Derived.Test.YtcnfnfnmpifahaaRHalve
import Derived.Test.YtcnfnfnmpifahaaHalvesN
import Derived.Test.YtcnfnfnmpifahaaNSame
import Derived.Test.YtcnfnfnmpifahaaNAwake
import Derived.Deep.CutBlock
import Derived.Deep.DeepCutAuto
namespace Go.Proofs.Ytcnfnfnmpifahaa
open Go.RowKit

theorem check_no {n : NodeM} (h : formB n = false) : checkN n = 4 := by unfold checkN; rw [if_pos h]
theorem check_big {n : NodeM} (h : formB n = true) (hs : 256 < sizeN n) : checkN n = 2 := by unfold checkN; rw [if_neg (by simp [h]), if_pos hs]
theorem check_ok {n : NodeM} (h : formB n = true) (hs : ¬ 256 < sizeN n) : checkN n = 0 := by unfold checkN; rw [if_neg (by simp [h]), if_neg hs]
theorem form_size_le {n : NodeM} (h : formB n = true) : sizeN n ≤ 4 + n.keys.length * 123 := by
  have h1 := form_sum_le h n.keys.length
  unfold sizeN headN
  split <;> omega
set_option maxRecDepth 100000 in
set_option maxHeartbeats 1000000 in
theorem rcheck_any (n : NodeM) (A B C : Option Addr) (nk ca nv cb nc cc : Nat) (w : World) (h : Nd w n A B C nk ca nv cb nc cc) :
    Calls Try.prog 9 #[.agg #[.bool n.leaf, .slice A nk ca, .slice B nv cb, .slice C nc cc]] w fun e w' => e = .returned (.int .i64 (checkN n)) ∧ Below w.heap.size w w' := by
  obtain ⟨w0, hw0⟩ : ∃ w0, w0 = w.alloc (.cells #[.bool n.leaf, .slice A nk ca, .slice B nv cb, .slice C nc cc] 25) := ⟨_, rfl⟩
  have HB0 := Lib.hid (show Below w.heap.size w w0 by rw [hw0]; exact (Below.refl _ _).alloc (Nat.le_refl _) _)
  have HK0 := Lib.hid (show Bk w0 w.heap.size 25 #[.bool n.leaf, .slice A nk ca, .slice B nv cb, .slice C nc cc] by rw [hw0]; exact Bk.new w _ _)
  have H := Lib.hid (h.bel HB0.out)
  have C0 := Lib.hid (form_any n A B C nk ca nv cb nc cc w0 H.out)
  have SZ := Lib.hid (show formB n = true → sizeN n ≤ 4 + nk * 123 by intro hf; have := form_size_le hf; rw [← h.ek] at this; exact this)
  have bk := h.bk
  have HW0 := Lib.hid hw0
  have y0 := HK0.out.cell 0
  have y1 := HK0.out.cell 1
  have y2 := HK0.out.cell 2
  have y3 := HK0.out.cell 3
  obtain ⟨v, hv⟩ : ∃ v, v = formB n := ⟨_, rfl⟩
  rw [← hv] at C0
  have HV := Lib.hid hv
  obtain ⟨c, hc⟩ : ∃ c, c = checkN n := ⟨_, rfl⟩
  have HC := Lib.hid hc
  rw [← hc]
  clear hw0 hv h hc
  cases v
  · have hc4 := Lib.hid (HC.out.trans (check_no HV.out.symm))
    go_enter Try.func9, Try.ntmps9
    go_wp2_with fail
    rw [← HW0.out]
    go_wp2_with fail
    refine C0.out.mono ?_
    rintro e w1 ⟨rfl, hb1⟩
    have HB1 := Lib.hid (HB0.out.trans (hb1.mono HB0.out.size))
    clear hb1
    go_wp2_with fail
    go_ret
    exact ⟨by rw [hc4.out]; rfl, HB1.out⟩
  · go_enter Try.func9, Try.ntmps9
    go_wp2_with fail
    rw [← HW0.out]
    go_wp2_with fail
    refine C0.out.mono ?_
    rintro e w1 ⟨rfl, hb1⟩
    have HB1 := Lib.hid (HB0.out.trans (hb1.mono HB0.out.size))
    have z0 := (HK0.out.bel hb1).cell 0
    have z1 := (HK0.out.bel hb1).cell 1
    have z2 := (HK0.out.bel hb1).cell 2
    have z3 := (HK0.out.bel hb1).cell 3
    have SZ1 := SZ.out HV.out.symm
    have CS0 := rsize_any n A B C nk ca nv cb nc cc w1 (H.out.bel hb1)
    obtain ⟨S, hS⟩ : ∃ S, S = sizeN n := ⟨_, rfl⟩
    rw [← hS] at SZ1 CS0
    rw [show IntKind.i64.wrap (S : Int) = (S : Int) by rw [IntKind.wrap_i64]; omega] at CS0
    have CS := Lib.hid CS0
    have HS := Lib.hid hS
    clear hb1 y0 y1 y2 y3 CS0 hS
    by_cases h256 : 256 < S
    · have hc2 := Lib.hid (HC.out.trans (check_big HV.out.symm (by rw [← HS.out]; exact h256)))
      have d1 : decide ((256 : Int) < (S : Int)) = true := by simp; omega
      have d2 : decide (256 < S) = true := by simp; omega
      clear h256
      go_wp2_with fail
      refine CS.out.mono ?_
      rintro e w2 ⟨rfl, hb2⟩
      have HB2 := Lib.hid (HB1.out.trans (hb2.mono HB1.out.size))
      clear hb2
      go_wp2_with fail
      go_ret
      exact ⟨by rw [hc2.out]; rfl, HB2.out⟩
    · have hc2 := Lib.hid (HC.out.trans (check_ok HV.out.symm (by rw [← HS.out]; exact h256)))
      have d1 : decide ((256 : Int) < (S : Int)) = false := by simp; omega
      have d2 : decide (256 < S) = false := by simp; omega
      clear h256
      go_wp2_with fail
      refine CS.out.mono ?_
      rintro e w2 ⟨rfl, hb2⟩
      have HB2 := Lib.hid (HB1.out.trans (hb2.mono HB1.out.size))
      clear hb2
      go_wp2_with fail
      go_ret
      exact ⟨by rw [hc2.out]; rfl, HB2.out⟩
theorem part_small' {lf : Bool} (ks vs : List ByteArray) (cs : List Int) (lo hi : Nat) (e1 : ks.length ≤ 300) (e2 : vs.length ≤ 300) (e3 : cs.length ≤ 301) (zk : ∀ s ∈ ks, s.size ≤ 140737488355328) (zv : ∀ s ∈ vs, s.size ≤ 140737488355328) :
    (partM ⟨lf, ks, vs, cs⟩ lo hi).keys.length ≤ 300 ∧ (partM ⟨lf, ks, vs, cs⟩ lo hi).vals.length ≤ 300 ∧ (partM ⟨lf, ks, vs, cs⟩ lo hi).kids.length ≤ 301 ∧ (∀ s ∈ (partM ⟨lf, ks, vs, cs⟩ lo hi).keys, s.size ≤ 140737488355328) ∧ (∀ s ∈ (partM ⟨lf, ks, vs, cs⟩ lo hi).vals, s.size ≤ 140737488355328) := by
  have cut : ∀ {α : Type} (l : List α) (a b : Nat), ((l.take b).drop a).length ≤ l.length := fun l a b => by rw [List.length_drop, List.length_take]; omega
  cases lf
  · exact ⟨Nat.le_trans (cut ks lo hi) e1, Nat.zero_le _, Nat.le_trans (cut cs lo (hi + 1)) e3, fun s hs => zk s (List.mem_of_mem_take (List.mem_of_mem_drop hs)), fun s hs => by cases hs⟩
  · exact ⟨Nat.le_trans (cut ks lo hi) e1, Nat.le_trans (cut vs lo hi) e2, Nat.zero_le _, fun s hs => zk s (List.mem_of_mem_take (List.mem_of_mem_drop hs)), fun s hs => zv s (List.mem_of_mem_take (List.mem_of_mem_drop hs))⟩
set_option maxRecDepth 100000 in
set_option maxHeartbeats 8000000 in
theorem phalves_leaf (ks vs : List ByteArray) (cs : List Int) (A B C : Option Addr) (nk ca nv cb nc cc : Nat) (w : World) (h : Nd w ⟨true, ks, vs, cs⟩ A B C nk ca nv cb nc cc) :
    Calls Try.prog 6 #[.agg #[.bool true, .slice A nk ca, .slice B nv cb, .slice C nc cc]] w fun e w' => e = .returned (.bool true) ∧ Below w.heap.size w w' := by
  have H := Lib.hid h
  have bk := h.bk
  have bv := h.bv
  have bc := h.bc
  have HA := Lib.hid ((Below.refl w.heap.size w).alloc (Nat.le_refl _) (.cells #[.bool true, .slice A nk ca, .slice B nv cb, .slice C nc cc] 25))
  have HB := Lib.hid (Bk.new w 25 #[.bool true, .slice A nk ca, .slice B nv cb, .slice C nc cc])
  have C0 := Lib.hid (form_any ⟨true, ks, vs, cs⟩ A B C nk ca nv cb nc cc _ (H.out.bel HA.out))
  have EK := Lib.hid (show nk = ks.length from h.ek)
  obtain ⟨v, hv⟩ : ∃ v, v = formB ⟨true, ks, vs, cs⟩ := ⟨_, rfl⟩
  rw [← hv] at C0
  clear h
  have fin : ∀ w1, Below w.heap.size w w1 → Calls Try.prog 10 #[] w1 fun e w' => e = .returned (.bool true) ∧ Below w.heap.size w w' := fun w1 hb => (awake_any w1).mono (by rintro e w' ⟨rfl, hb'⟩; exact ⟨rfl, hb.trans (hb'.mono hb.size)⟩)
  have HFIN := Lib.hid fin
  clear fin
  by_cases hgo : v = true ∧ 2 ≤ nk ∧ nk ≤ 300
  · obtain ⟨rfl, hl, hu⟩ := hgo
    have HF := Lib.hid hv.symm
    clear hv
    go_enter Try.func6, Try.ntmps6
    go_wp2_with fail
    refine C0.out.mono ?_
    rintro e w1 ⟨rfl, hb1⟩
    have HA1 := Lib.hid (HA.out.trans (hb1.mono HA.out.size))
    have HB1 := Lib.hid (HB.out.bel hb1)
    have y0 := HB1.out.cell 0
    have y1 := HB1.out.cell 1
    have y2 := HB1.out.cell 2
    have y3 := HB1.out.cell 3
    clear hb1
    go_wp2_with fail
    refine (twin_any true ks vs cs A B C nk ca nv cb nc cc w1 (H.out.bel HA1.out)).mono ?_
    rintro e w2 ⟨⟨A2, B2, C2, c1, c2, c3, rfl, hnd2⟩, hb2⟩
    have HA2 := Lib.hid (HA1.out.trans (hb2.mono HA1.out.size))
    have HB2 := Lib.hid (HB1.out.bel hb2)
    obtain ⟨wx, hwx⟩ : ∃ wx, wx = w2.alloc (.cells #[.bool true, .slice A2 nk c1, .slice B2 nv c2, .slice C2 nc c3] 25) := ⟨_, rfl⟩
    have hbx : Below w2.heap.size w2 wx := by rw [hwx]; exact (Below.refl _ _).alloc (Nat.le_refl _) _
    have HX := Lib.hid (show Bk wx w2.heap.size 25 #[.bool true, .slice A2 nk c1, .slice B2 nv c2, .slice C2 nc c3] by rw [hwx]; exact Bk.new w2 _ _)
    have HN2 := Lib.hid (hnd2.bel hbx)
    have HAx := Lib.hid (HA2.out.trans (hbx.mono HA2.out.size))
    have HBx := Lib.hid (HB2.out.bel hbx)
    have K2 := Lib.hid (halve_leaf ks vs cs A2 B2 C2 nk c1 nv c2 nc c3 wx HN2.out HF.out (show 2 + 0 ≤ nk by omega))
    have HWX := Lib.hid hwx
    clear hnd2 hb2 y0 y1 y2 y3 hbx hwx
    go_upto_region 4 with fail
    rw [← HWX.out]
    have x0 := HX.out.cell 0
    have x1 := HX.out.cell 1
    have x2 := HX.out.cell 2
    have x3 := HX.out.cell 3
    go_wp2_with fail
    refine K2.out.mono ?_
    rintro e w3 ⟨⟨v1, v2, rfl, hv1, hv2⟩, hb3⟩
    obtain ⟨m, hm⟩ : ∃ m, m = midN ⟨true, ks, vs, cs⟩ := ⟨_, rfl⟩
    rw [← hm] at hv1 hv2 ⊢
    have hm1 : 1 ≤ m := by rw [hm]; exact bestTo_pos _ _ (by unfold limN; show 0 < ks.length - 0 - 1; have := EK.out; omega)
    have hm2 : m + 0 < nk := by
      have h1 := bestTo_le ⟨true, ks, vs, cs⟩ (limN ⟨true, ks, vs, cs⟩)
      have h2 : m ≤ limN ⟨true, ks, vs, cs⟩ := by rw [hm]; exact h1
      unfold limN at h2
      have h3 : m ≤ ks.length - 0 - 1 := h2
      have := EK.out
      omega
    obtain ⟨P1, hP1⟩ : ∃ P, P = partM ⟨true, ks, vs, cs⟩ 0 m := ⟨_, rfl⟩
    obtain ⟨P2, hP2⟩ : ∃ P, P = partM ⟨true, ks, vs, cs⟩ (m + betN true) nk := ⟨_, rfl⟩
    have F1 : formB P1 = true := by rw [hP1]; exact form_cut HF.out 0 m (by omega) (by have := EK.out; omega)
    have F2 : formB P2 = true := by rw [hP2]; exact form_cut HF.out (m + 0) nk (by omega) (by have := EK.out; omega)
    have HSM := Lib.hid (show sizeN ⟨true, ks, vs, cs⟩ ≤ 378 → checkN P1 = 0 ∧ checkN P2 = 0 by
      intro hs
      have h := halves_small HF.out (show 2 + 0 ≤ ks.length by have := EK.out; omega) hs
      rw [← hm, ← hP1, ← EK.out, ← hP2] at h
      exact ⟨check_ok F1 (by omega), check_ok F2 (by omega)⟩)
    rw [← hP1] at hv1
    rw [← hP2] at hv2
    have l1 : P1.leaf = true := by rw [hP1]; rfl
    have l2 : P2.leaf = true := by rw [hP2]; rfl
    have zk : ∀ s ∈ ks, s.size ≤ 140737488355328 := H.out.zk
    have zv : ∀ s ∈ vs, s.size ≤ 140737488355328 := H.out.zv
    have e1 : ks.length ≤ 300 := by have := EK.out; omega
    have e2 : vs.length ≤ 300 := by have := (form_leaf_eq HF.out).1; omega
    have e3 : cs.length ≤ 301 := by have := (form_leaf_eq HF.out).2; omega
    have q1 : P1.keys.length ≤ 300 ∧ P1.vals.length ≤ 300 ∧ P1.kids.length ≤ 301 ∧ (∀ s ∈ P1.keys, s.size ≤ 140737488355328) ∧ (∀ s ∈ P1.vals, s.size ≤ 140737488355328) := by rw [hP1]; exact part_small' ks vs cs _ _ e1 e2 e3 zk zv
    have q2 : P2.keys.length ≤ 300 ∧ P2.vals.length ≤ 300 ∧ P2.kids.length ≤ 301 ∧ (∀ s ∈ P2.keys, s.size ≤ 140737488355328) ∧ (∀ s ∈ P2.vals, s.size ≤ 140737488355328) := by rw [hP2]; exact part_small' ks vs cs _ _ e1 e2 e3 zk zv
    obtain ⟨D1, D2, D3, d1, d2, d3, hw1, N1⟩ := hv1.nd (by omega) (by omega) (by omega) q1.2.2.2.1 q1.2.2.2.2
    obtain ⟨E1, E2, E3, f1, f2, f3, hw2, N2⟩ := hv2.nd (by omega) (by omega) (by omega) q2.2.2.2.1 q2.2.2.2.2
    rw [l1] at hw1
    rw [l2] at hw2
    subst hw1
    subst hw2
    obtain ⟨key, hkey⟩ : ∃ s, s = ks.getD m ByteArray.empty := ⟨_, rfl⟩
    rw [← hkey]
    have HKEY := Lib.hid hkey
    have HP1 := Lib.hid hP1
    have HP2 := Lib.hid hP2
    have HM := Lib.hid hm
    have HF1 := Lib.hid F1
    have HF2 := Lib.hid F2
    have L1 := Lib.hid l1
    have L2 := Lib.hid l2
    have Q1 := Lib.hid q1
    have Q2 := Lib.hid q2
    obtain ⟨w4, hw4⟩ : ∃ w4, w4 = (w3.alloc (.cells #[.bool true, .slice D1 P1.keys.length d1, .slice D2 P1.vals.length d2, .slice D3 P1.kids.length d3] 25)).alloc (.cells #[.bool true, .slice E1 P2.keys.length f1, .slice E2 P2.vals.length f2, .slice E3 P2.kids.length f3] 25) := ⟨_, rfl⟩
    have hb4 : Below w3.heap.size w3 w4 := by rw [hw4]; exact ((Below.refl _ _).alloc (Nat.le_refl _) _).alloc (by simp) _
    have HA4 := Lib.hid ((HAx.out.trans (hb3.mono HAx.out.size)).trans (hb4.mono (Nat.le_trans HAx.out.size hb3.size)))
    have HB4 := Lib.hid ((HBx.out.bel hb3).bel hb4)
    have HX4 := Lib.hid ((HX.out.bel hb3).bel hb4)
    have HNX := Lib.hid ((HN2.out.bel hb3).bel hb4)
    have HNa := Lib.hid (N1.bel hb4)
    have HNb := Lib.hid (N2.bel hb4)
    have HBa := Lib.hid (show Bk w4 w3.heap.size 25 #[.bool true, .slice D1 P1.keys.length d1, .slice D2 P1.vals.length d2, .slice D3 P1.kids.length d3] by rw [hw4]; exact (Bk.new w3 _ _).alloc _)
    have HBb := Lib.hid (show Bk w4 (w3.heap.size + 1) 25 #[.bool true, .slice E1 P2.keys.length f1, .slice E2 P2.vals.length f2, .slice E3 P2.kids.length f3] by
      rw [hw4]
      have k5 := Bk.new (w3.alloc (.cells #[.bool true, .slice D1 P1.keys.length d1, .slice D2 P1.vals.length d2, .slice D3 P1.kids.length d3] 25)) 25 #[.bool true, .slice E1 P2.keys.length f1, .slice E2 P2.vals.length f2, .slice E3 P2.kids.length f3]
      rw [World.size_alloc] at k5
      exact k5)
    obtain ⟨bk0, ok0, hA, _⟩ := H.out.sk (show strV ks ≠ [] from fun e => by
      have h2 : (strV ks).length = 0 := by rw [e]; rfl
      rw [strV_length] at h2
      have := EK.out
      omega)
    subst hA
    have K4 := Lib.hid (rhalve_leaf ks vs cs bk0 ok0 B C nk ca nv cb nc cc w4 (H.out.bel HA4.out) HF.out (show 2 + 0 ≤ nk by omega))
    have HW4 := Lib.hid hw4
    have HB3 := Lib.hid hb3
    clear hb3 hv1 hv2 N1 N2 hP1 hP2 hm l1 l2 zk zv e1 e2 e3 hkey x0 x1 x2 x3 hw4 hb4 F1 F2 q1 q2
    go_upto_region 5 with fail
    rw [← HW4.out]
    have y0 := HB4.out.cell 0
    have y1 := HB4.out.cell 1
    have y2 := HB4.out.cell 2
    have y3 := HB4.out.cell 3
    go_wp2_with fail
    refine K4.out.mono ?_
    rintro e w5 ⟨⟨v1, v2, rfl, hv1, hv2⟩, hb5⟩
    rw [← HM.out, ← HP1.out] at hv1
    rw [← HM.out, ← HP2.out] at hv2
    rw [← HM.out, ← HKEY.out]
    obtain ⟨G1, G2, G3, g1, g2, g3, hw1, N1⟩ := hv1.nd (by have := Q1.out; omega) (by have := Q1.out; omega) (by have := Q1.out; omega) Q1.out.2.2.2.1 Q1.out.2.2.2.2
    obtain ⟨I1, I2, I3, i1, i2, i3, hw2, N2⟩ := hv2.nd (by have := Q2.out; omega) (by have := Q2.out; omega) (by have := Q2.out; omega) Q2.out.2.2.2.1 Q2.out.2.2.2.2
    rw [L1.out] at hw1
    rw [L2.out] at hw2
    subst hw1
    subst hw2
    obtain ⟨w6, hw6⟩ : ∃ w6, w6 = (w5.alloc (.cells #[.bool true, .slice G1 P1.keys.length g1, .slice G2 P1.vals.length g2, .slice G3 P1.kids.length g3] 25)).alloc (.cells #[.bool true, .slice I1 P2.keys.length i1, .slice I2 P2.vals.length i2, .slice I3 P2.kids.length i3] 25) := ⟨_, rfl⟩
    have hb6 : Below w5.heap.size w5 w6 := by rw [hw6]; exact ((Below.refl _ _).alloc (Nat.le_refl _) _).alloc (by simp) _
    have hb46 := hb5.trans (hb6.mono hb5.size)
    have HBc := Lib.hid (show Bk w6 w5.heap.size 25 #[.bool true, .slice G1 P1.keys.length g1, .slice G2 P1.vals.length g2, .slice G3 P1.kids.length g3] by rw [hw6]; exact (Bk.new w5 _ _).alloc _)
    have HBd := Lib.hid (show Bk w6 (w5.heap.size + 1) 25 #[.bool true, .slice I1 P2.keys.length i1, .slice I2 P2.vals.length i2, .slice I3 P2.kids.length i3] by
      rw [hw6]
      have k5 := Bk.new (w5.alloc (.cells #[.bool true, .slice G1 P1.keys.length g1, .slice G2 P1.vals.length g2, .slice G3 P1.kids.length g3] 25)) 25 #[.bool true, .slice I1 P2.keys.length i1, .slice I2 P2.vals.length i2, .slice I3 P2.kids.length i3]
      rw [World.size_alloc] at k5
      exact k5)
    have HNc := Lib.hid (N1.bel hb6)
    have HNd := Lib.hid (N2.bel hb6)
    have HA6 := Lib.hid (HA4.out.trans (hb46.mono HA4.out.size))
    have HB6 := Lib.hid (HB4.out.bel hb46)
    have HX6 := Lib.hid (HX4.out.bel hb46)
    have HNX6 := Lib.hid (HNX.out.bel hb46)
    have HNa6 := Lib.hid (HNa.out.bel hb46)
    have HNb6 := Lib.hid (HNb.out.bel hb46)
    have HBa6 := Lib.hid (HBa.out.bel hb46)
    have HBb6 := Lib.hid (HBb.out.bel hb46)
    have HW6 := Lib.hid hw6
    have L1 := L1
    obtain ⟨lf1, ks1, vs1, cs1⟩ := P1
    obtain ⟨lf2, ks2, vs2, cs2⟩ := P2
    obtain rfl : lf1 = true := L1.out
    obtain rfl : lf2 = true := L2.out
    simp only at HW6 HBa6 HBb6 HBc HBd HNa6 HNb6 HNc HNd ⊢
    clear hb5 hb6 hb46 hv1 hv2 N1 N2 hw6 y0 y1 y2 y3 HBa HBb HNa HNb HB4 HX4 HNX HA4 HB3 HW4 K4 K2 HBx HN2 HX HAx HWX
    generalize ks1.length = nk1 at *
    generalize vs1.length = nv1 at *
    generalize cs1.length = nc1 at *
    generalize ks2.length = nk2 at *
    generalize vs2.length = nv2 at *
    generalize cs2.length = nc2 at *
    have hkk : (key.toList != key.toList) = false := by simp
    have hkk2 : (!(key.toList == key.toList)) = false := by simp
    go_upto_region 6 with fail
    rw [← HW6.out]
    have KEEP := Lib.hid (fun (u : World) (hu : Below w6.heap.size w6 u) => (⟨HB6.out.bel hu, HX6.out.bel hu, HBa6.out.bel hu, HBb6.out.bel hu, HBc.out.bel hu, HBd.out.bel hu⟩ : Bk u w.heap.size 25 #[.bool true, .slice (some ⟨bk0, ok0, none⟩) nk ca, .slice B nv cb, .slice C nc cc] ∧ Bk u w2.heap.size 25 _ ∧ Bk u w3.heap.size 25 _ ∧ Bk u (w3.heap.size + 1) 25 _ ∧ Bk u w5.heap.size 25 _ ∧ Bk u (w5.heap.size + 1) 25 _))
    have HR := Lib.hid (Below.refl w6.heap.size w6)
    go_wp2_with fail
    refine (awake_any w6).mono ?_
    rintro e u1 ⟨rfl, hu⟩
    have HU1 := Lib.hid hu
    obtain ⟨kb, kx, ka', kp, kc', kq⟩ := KEEP.out _ hu
    have y0 := kb.cell 0
    have y1 := kb.cell 1
    have y2 := kb.cell 2
    have y3 := kb.cell 3
    have x0 := kx.cell 0
    have x1 := kx.cell 1
    have x2 := kx.cell 2
    have x3 := kx.cell 3
    have r0 := ka'.cell 0
    have r1 := ka'.cell 1
    have r2 := ka'.cell 2
    have r3 := ka'.cell 3
    have s0 := kp.cell 0
    have s1 := kp.cell 1
    have s2 := kp.cell 2
    have s3 := kp.cell 3
    have t0 := kc'.cell 0
    have t1 := kc'.cell 1
    have t2 := kc'.cell 2
    have t3 := kc'.cell 3
    have v0 := kq.cell 0
    have v1 := kq.cell 1
    have v2 := kq.cell 2
    have v3 := kq.cell 3
    clear kb kx ka' kp kc' kq
    clear hu HR
    go_wp2_with fail
    refine (nsame_any true ks1 vs1 cs1 D1 D2 D3 G1 G2 G3 nk1 d1 nv1 d2 nc1 d3 g1 g2 g3 u1 (HNa6.out.bel HU1.out) (HNc.out.bel HU1.out)).mono ?_
    rintro e u2 ⟨rfl, hu2⟩
    have hu := HU1.out.trans (hu2.mono HU1.out.size)
    have HU2 := Lib.hid hu
    clear y0 y1 y2 y3 x0 x1 x2 x3 r0 r1 r2 r3 s0 s1 s2 s3 t0 t1 t2 t3 v0 v1 v2 v3
    obtain ⟨kb, kx, ka', kp, kc', kq⟩ := KEEP.out _ hu
    have y0 := kb.cell 0
    have y1 := kb.cell 1
    have y2 := kb.cell 2
    have y3 := kb.cell 3
    have x0 := kx.cell 0
    have x1 := kx.cell 1
    have x2 := kx.cell 2
    have x3 := kx.cell 3
    have r0 := ka'.cell 0
    have r1 := ka'.cell 1
    have r2 := ka'.cell 2
    have r3 := ka'.cell 3
    have s0 := kp.cell 0
    have s1 := kp.cell 1
    have s2 := kp.cell 2
    have s3 := kp.cell 3
    have t0 := kc'.cell 0
    have t1 := kc'.cell 1
    have t2 := kc'.cell 2
    have t3 := kc'.cell 3
    have v0 := kq.cell 0
    have v1 := kq.cell 1
    have v2 := kq.cell 2
    have v3 := kq.cell 3
    clear kb kx ka' kp kc' kq
    clear hu hu2
    go_wp2_with fail
    refine (nsame_any true ks2 vs2 cs2 E1 E2 E3 I1 I2 I3 nk2 f1 nv2 f2 nc2 f3 i1 i2 i3 u2 (HNb6.out.bel HU2.out) (HNd.out.bel HU2.out)).mono ?_
    rintro e u3 ⟨rfl, hu3⟩
    have hu := HU2.out.trans (hu3.mono HU2.out.size)
    have HU3 := Lib.hid hu
    clear y0 y1 y2 y3 x0 x1 x2 x3 r0 r1 r2 r3 s0 s1 s2 s3 t0 t1 t2 t3 v0 v1 v2 v3
    obtain ⟨kb, kx, ka', kp, kc', kq⟩ := KEEP.out _ hu
    have y0 := kb.cell 0
    have y1 := kb.cell 1
    have y2 := kb.cell 2
    have y3 := kb.cell 3
    have x0 := kx.cell 0
    have x1 := kx.cell 1
    have x2 := kx.cell 2
    have x3 := kx.cell 3
    have r0 := ka'.cell 0
    have r1 := ka'.cell 1
    have r2 := ka'.cell 2
    have r3 := ka'.cell 3
    have s0 := kp.cell 0
    have s1 := kp.cell 1
    have s2 := kp.cell 2
    have s3 := kp.cell 3
    have t0 := kc'.cell 0
    have t1 := kc'.cell 1
    have t2 := kc'.cell 2
    have t3 := kc'.cell 3
    have v0 := kq.cell 0
    have v1 := kq.cell 1
    have v2 := kq.cell 2
    have v3 := kq.cell 3
    clear kb kx ka' kp kc' kq
    clear hu hu3
    go_wp2_with fail
    refine (nsame_any true ks vs cs A2 B2 C2 (some ⟨bk0, ok0, none⟩) B C nk c1 nv c2 nc c3 ca cb cc u3 (HNX6.out.bel HU3.out) (H.out.bel (HA6.out.trans (HU3.out.mono HA6.out.size)))).mono ?_
    rintro e u4 ⟨rfl, hu4⟩
    have hu := HU3.out.trans (hu4.mono HU3.out.size)
    have HU4 := Lib.hid hu
    clear y0 y1 y2 y3 x0 x1 x2 x3 r0 r1 r2 r3 s0 s1 s2 s3 t0 t1 t2 t3 v0 v1 v2 v3
    obtain ⟨kb, kx, ka', kp, kc', kq⟩ := KEEP.out _ hu
    have y0 := kb.cell 0
    have y1 := kb.cell 1
    have y2 := kb.cell 2
    have y3 := kb.cell 3
    have x0 := kx.cell 0
    have x1 := kx.cell 1
    have x2 := kx.cell 2
    have x3 := kx.cell 3
    have r0 := ka'.cell 0
    have r1 := ka'.cell 1
    have r2 := ka'.cell 2
    have r3 := ka'.cell 3
    have s0 := kp.cell 0
    have s1 := kp.cell 1
    have s2 := kp.cell 2
    have s3 := kp.cell 3
    have t0 := kc'.cell 0
    have t1 := kc'.cell 1
    have t2 := kc'.cell 2
    have t3 := kc'.cell 3
    have v0 := kq.cell 0
    have v1 := kq.cell 1
    have v2 := kq.cell 2
    have v3 := kq.cell 3
    clear kb kx ka' kp kc' kq
    clear hu hu4
    go_wp2_with fail
    refine (form_any ⟨true, ks1, vs1, cs1⟩ D1 D2 D3 nk1 d1 nv1 d2 nc1 d3 u4 (HNa6.out.bel HU4.out)).mono ?_
    rw [HF1.out]
    rintro e u5 ⟨rfl, hu5⟩
    have hu := HU4.out.trans (hu5.mono HU4.out.size)
    have HU5 := Lib.hid hu
    clear y0 y1 y2 y3 x0 x1 x2 x3 r0 r1 r2 r3 s0 s1 s2 s3 t0 t1 t2 t3 v0 v1 v2 v3
    obtain ⟨kb, kx, ka', kp, kc', kq⟩ := KEEP.out _ hu
    have y0 := kb.cell 0
    have y1 := kb.cell 1
    have y2 := kb.cell 2
    have y3 := kb.cell 3
    have x0 := kx.cell 0
    have x1 := kx.cell 1
    have x2 := kx.cell 2
    have x3 := kx.cell 3
    have r0 := ka'.cell 0
    have r1 := ka'.cell 1
    have r2 := ka'.cell 2
    have r3 := ka'.cell 3
    have s0 := kp.cell 0
    have s1 := kp.cell 1
    have s2 := kp.cell 2
    have s3 := kp.cell 3
    have t0 := kc'.cell 0
    have t1 := kc'.cell 1
    have t2 := kc'.cell 2
    have t3 := kc'.cell 3
    have v0 := kq.cell 0
    have v1 := kq.cell 1
    have v2 := kq.cell 2
    have v3 := kq.cell 3
    clear kb kx ka' kp kc' kq
    clear hu hu5
    go_wp2_with fail
    refine (form_any ⟨true, ks2, vs2, cs2⟩ E1 E2 E3 nk2 f1 nv2 f2 nc2 f3 u5 (HNb6.out.bel HU5.out)).mono ?_
    rw [HF2.out]
    rintro e u6 ⟨rfl, hu6⟩
    have hu := HU5.out.trans (hu6.mono HU5.out.size)
    have HU6 := Lib.hid hu
    clear y0 y1 y2 y3 x0 x1 x2 x3 r0 r1 r2 r3 s0 s1 s2 s3 t0 t1 t2 t3 v0 v1 v2 v3
    obtain ⟨kb, kx, ka', kp, kc', kq⟩ := KEEP.out _ hu
    have y0 := kb.cell 0
    have y1 := kb.cell 1
    have y2 := kb.cell 2
    have y3 := kb.cell 3
    have x0 := kx.cell 0
    have x1 := kx.cell 1
    have x2 := kx.cell 2
    have x3 := kx.cell 3
    have r0 := ka'.cell 0
    have r1 := ka'.cell 1
    have r2 := ka'.cell 2
    have r3 := ka'.cell 3
    have s0 := kp.cell 0
    have s1 := kp.cell 1
    have s2 := kp.cell 2
    have s3 := kp.cell 3
    have t0 := kc'.cell 0
    have t1 := kc'.cell 1
    have t2 := kc'.cell 2
    have t3 := kc'.cell 3
    have v0 := kq.cell 0
    have v1 := kq.cell 1
    have v2 := kq.cell 2
    have v3 := kq.cell 3
    clear kb kx ka' kp kc' kq
    clear hu hu6
    have SZ1 : sizeN ⟨true, ks, vs, cs⟩ ≤ 4 + nk * 123 := by have := form_size_le HF.out; rw [show nk = ks.length from EK.out]; exact this
    have CS0 := rsize_any ⟨true, ks, vs, cs⟩ (some ⟨bk0, ok0, none⟩) B C nk ca nv cb nc cc u6 (H.out.bel (HA6.out.trans (HU6.out.mono HA6.out.size)))
    obtain ⟨S, hS⟩ : ∃ S, S = sizeN ⟨true, ks, vs, cs⟩ := ⟨_, rfl⟩
    rw [← hS] at SZ1 CS0 HSM
    rw [show IntKind.i64.wrap (S : Int) = (S : Int) by rw [IntKind.wrap_i64]; omega] at CS0
    have CS := Lib.hid CS0
    clear CS0 hS
    by_cases h378 : 378 < S
    · have dd1 : decide ((378 : Int) < (S : Int)) = true := by simp; omega
      have dd2 : decide (378 < S) = true := by simp; omega
      clear h378
      go_wp2_with fail
      refine CS.out.mono ?_
      rintro e u7 ⟨rfl, hu7⟩
      have HU7 := Lib.hid (HA6.out.trans ((HU6.out.trans (hu7.mono HU6.out.size)).mono HA6.out.size))
      clear hu7
      go_wp2_with fail
      go_ret
      exact ⟨rfl, HU7.out⟩
    · have dd1 : decide ((378 : Int) < (S : Int)) = false := by simp; omega
      have dd2 : decide (378 < S) = false := by simp; omega
      obtain ⟨z1, z2⟩ := HSM.out (by omega)
      have Z1 := Lib.hid z1
      have Z2 := Lib.hid z2
      clear h378 z1 z2
      go_wp2_with fail
      refine CS.out.mono ?_
      rintro e u7 ⟨rfl, hu7⟩
      have hu := HU6.out.trans (hu7.mono HU6.out.size)
      have HU7 := Lib.hid hu
      clear y0 y1 y2 y3 x0 x1 x2 x3 r0 r1 r2 r3 s0 s1 s2 s3 t0 t1 t2 t3 v0 v1 v2 v3
      obtain ⟨kb, kx, ka', kp, kc', kq⟩ := KEEP.out _ hu
      have y0 := kb.cell 0
      have y1 := kb.cell 1
      have y2 := kb.cell 2
      have y3 := kb.cell 3
      have x0 := kx.cell 0
      have x1 := kx.cell 1
      have x2 := kx.cell 2
      have x3 := kx.cell 3
      have r0 := ka'.cell 0
      have r1 := ka'.cell 1
      have r2 := ka'.cell 2
      have r3 := ka'.cell 3
      have s0 := kp.cell 0
      have s1 := kp.cell 1
      have s2 := kp.cell 2
      have s3 := kp.cell 3
      have t0 := kc'.cell 0
      have t1 := kc'.cell 1
      have t2 := kc'.cell 2
      have t3 := kc'.cell 3
      have v0 := kq.cell 0
      have v1 := kq.cell 1
      have v2 := kq.cell 2
      have v3 := kq.cell 3
      clear kb kx ka' kp kc' kq
      clear hu hu7
      go_wp2_with fail
      refine (rcheck_any ⟨true, ks1, vs1, cs1⟩ D1 D2 D3 nk1 d1 nv1 d2 nc1 d3 u7 (HNa6.out.bel HU7.out)).mono ?_
      rw [Z1.out]
      rintro e u8 ⟨rfl, hu8⟩
      have hu := HU7.out.trans (hu8.mono HU7.out.size)
      have HU8 := Lib.hid hu
      clear y0 y1 y2 y3 x0 x1 x2 x3 r0 r1 r2 r3 s0 s1 s2 s3 t0 t1 t2 t3 v0 v1 v2 v3
      obtain ⟨kb, kx, ka', kp, kc', kq⟩ := KEEP.out _ hu
      have y0 := kb.cell 0
      have y1 := kb.cell 1
      have y2 := kb.cell 2
      have y3 := kb.cell 3
      have x0 := kx.cell 0
      have x1 := kx.cell 1
      have x2 := kx.cell 2
      have x3 := kx.cell 3
      have r0 := ka'.cell 0
      have r1 := ka'.cell 1
      have r2 := ka'.cell 2
      have r3 := ka'.cell 3
      have s0 := kp.cell 0
      have s1 := kp.cell 1
      have s2 := kp.cell 2
      have s3 := kp.cell 3
      have t0 := kc'.cell 0
      have t1 := kc'.cell 1
      have t2 := kc'.cell 2
      have t3 := kc'.cell 3
      have v0 := kq.cell 0
      have v1 := kq.cell 1
      have v2 := kq.cell 2
      have v3 := kq.cell 3
      clear kb kx ka' kp kc' kq
      clear hu hu8
      go_wp2_with fail
      refine (rcheck_any ⟨true, ks2, vs2, cs2⟩ E1 E2 E3 nk2 f1 nv2 f2 nc2 f3 u8 (HNb6.out.bel HU8.out)).mono ?_
      rw [Z2.out]
      rintro e u9 ⟨rfl, hu9⟩
      have HU9 := Lib.hid (HA6.out.trans ((HU8.out.trans (hu9.mono HU8.out.size)).mono HA6.out.size))
      clear hu9
      go_wp2_with fail
      go_ret
      exact ⟨rfl, HU9.out⟩
  · have HV := Lib.hid hv
    clear hv
    by_cases hv1 : v = true
    · subst hv1
      by_cases h1 : nk < 2
      · have b1 : decide ((nk : Int) < 2) = true := by simp; omega
        go_enter Try.func6, Try.ntmps6
        go_wp2_with fail
        refine C0.out.mono ?_
        rintro e w1 ⟨rfl, hb1⟩
        have y0 := (HB.out.bel hb1).cell 0
        have y1 := (HB.out.bel hb1).cell 1
        have y2 := (HB.out.bel hb1).cell 2
        have y3 := (HB.out.bel hb1).cell 3
        have HF1 := Lib.hid (HFIN.out w1 (HA.out.trans (hb1.mono HA.out.size)))
        clear hb1
        go_wp2_with fail
        refine HF1.out.mono ?_
        rintro e w2 ⟨rfl, hb2⟩
        have HB2 := Lib.hid hb2
        clear hb2
        go_wp2_with fail
        go_ret
        exact ⟨rfl, HB2.out⟩
      · have b1 : decide ((nk : Int) < 2) = false := by simp; omega
        by_cases h2 : nk < 2
        · exact absurd h2 h1
        · skip
          have b3 : decide ((300 : Int) < (nk : Int)) = true := by simp; have : ¬ nk ≤ 300 := fun h => hgo ⟨rfl, by omega, h⟩; omega
          go_enter Try.func6, Try.ntmps6
          go_wp2_with fail
          refine C0.out.mono ?_
          rintro e w1 ⟨rfl, hb1⟩
          have y0 := (HB.out.bel hb1).cell 0
          have y1 := (HB.out.bel hb1).cell 1
          have y2 := (HB.out.bel hb1).cell 2
          have y3 := (HB.out.bel hb1).cell 3
          have HF1 := Lib.hid (HFIN.out w1 (HA.out.trans (hb1.mono HA.out.size)))
          clear hb1
          go_wp2_with fail
          refine HF1.out.mono ?_
          rintro e w2 ⟨rfl, hb2⟩
          have HB2 := Lib.hid hb2
          clear hb2
          go_wp2_with fail
          go_ret
          exact ⟨rfl, HB2.out⟩
    · obtain rfl : v = false := by simpa using hv1
      go_enter Try.func6, Try.ntmps6
      go_wp2_with fail
      refine C0.out.mono ?_
      rintro e w1 ⟨rfl, hb1⟩
      have y0 := (HB.out.bel hb1).cell 0
      have y1 := (HB.out.bel hb1).cell 1
      have y2 := (HB.out.bel hb1).cell 2
      have y3 := (HB.out.bel hb1).cell 3
      have HF1 := Lib.hid (HFIN.out w1 (HA.out.trans (hb1.mono HA.out.size)))
      clear hb1
      go_wp2_with fail
      refine HF1.out.mono ?_
      rintro e w2 ⟨rfl, hb2⟩
      have HB2 := Lib.hid hb2
      clear hb2
      go_wp2_with fail
      go_ret
      exact ⟨rfl, HB2.out⟩
set_option maxRecDepth 100000 in
set_option maxHeartbeats 8000000 in
theorem phalves_branch (ks vs : List ByteArray) (cs : List Int) (A B C : Option Addr) (nk ca nv cb nc cc : Nat) (w : World) (h : Nd w ⟨false, ks, vs, cs⟩ A B C nk ca nv cb nc cc) :
    Calls Try.prog 6 #[.agg #[.bool false, .slice A nk ca, .slice B nv cb, .slice C nc cc]] w fun e w' => e = .returned (.bool true) ∧ Below w.heap.size w w' := by
  have H := Lib.hid h
  have bk := h.bk
  have bv := h.bv
  have bc := h.bc
  have HA := Lib.hid ((Below.refl w.heap.size w).alloc (Nat.le_refl _) (.cells #[.bool false, .slice A nk ca, .slice B nv cb, .slice C nc cc] 25))
  have HB := Lib.hid (Bk.new w 25 #[.bool false, .slice A nk ca, .slice B nv cb, .slice C nc cc])
  have C0 := Lib.hid (form_any ⟨false, ks, vs, cs⟩ A B C nk ca nv cb nc cc _ (H.out.bel HA.out))
  have EK := Lib.hid (show nk = ks.length from h.ek)
  obtain ⟨v, hv⟩ : ∃ v, v = formB ⟨false, ks, vs, cs⟩ := ⟨_, rfl⟩
  rw [← hv] at C0
  clear h
  have fin : ∀ w1, Below w.heap.size w w1 → Calls Try.prog 10 #[] w1 fun e w' => e = .returned (.bool true) ∧ Below w.heap.size w w' := fun w1 hb => (awake_any w1).mono (by rintro e w' ⟨rfl, hb'⟩; exact ⟨rfl, hb.trans (hb'.mono hb.size)⟩)
  have HFIN := Lib.hid fin
  clear fin
  by_cases hgo : v = true ∧ 3 ≤ nk ∧ nk ≤ 300
  · obtain ⟨rfl, hl, hu⟩ := hgo
    have HF := Lib.hid hv.symm
    clear hv
    go_enter Try.func6, Try.ntmps6
    go_wp2_with fail
    refine C0.out.mono ?_
    rintro e w1 ⟨rfl, hb1⟩
    have HA1 := Lib.hid (HA.out.trans (hb1.mono HA.out.size))
    have HB1 := Lib.hid (HB.out.bel hb1)
    have y0 := HB1.out.cell 0
    have y1 := HB1.out.cell 1
    have y2 := HB1.out.cell 2
    have y3 := HB1.out.cell 3
    clear hb1
    go_wp2_with fail
    refine (twin_any false ks vs cs A B C nk ca nv cb nc cc w1 (H.out.bel HA1.out)).mono ?_
    rintro e w2 ⟨⟨A2, B2, C2, c1, c2, c3, rfl, hnd2⟩, hb2⟩
    have HA2 := Lib.hid (HA1.out.trans (hb2.mono HA1.out.size))
    have HB2 := Lib.hid (HB1.out.bel hb2)
    obtain ⟨wx, hwx⟩ : ∃ wx, wx = w2.alloc (.cells #[.bool false, .slice A2 nk c1, .slice B2 nv c2, .slice C2 nc c3] 25) := ⟨_, rfl⟩
    have hbx : Below w2.heap.size w2 wx := by rw [hwx]; exact (Below.refl _ _).alloc (Nat.le_refl _) _
    have HX := Lib.hid (show Bk wx w2.heap.size 25 #[.bool false, .slice A2 nk c1, .slice B2 nv c2, .slice C2 nc c3] by rw [hwx]; exact Bk.new w2 _ _)
    have HN2 := Lib.hid (hnd2.bel hbx)
    have HAx := Lib.hid (HA2.out.trans (hbx.mono HA2.out.size))
    have HBx := Lib.hid (HB2.out.bel hbx)
    have K2 := Lib.hid (halve_branch ks vs cs A2 B2 C2 nk c1 nv c2 nc c3 wx HN2.out HF.out (show 2 + 1 ≤ nk by omega))
    have HWX := Lib.hid hwx
    clear hnd2 hb2 y0 y1 y2 y3 hbx hwx
    go_upto_region 4 with fail
    rw [← HWX.out]
    have x0 := HX.out.cell 0
    have x1 := HX.out.cell 1
    have x2 := HX.out.cell 2
    have x3 := HX.out.cell 3
    go_wp2_with fail
    refine K2.out.mono ?_
    rintro e w3 ⟨⟨v1, v2, rfl, hv1, hv2⟩, hb3⟩
    obtain ⟨m, hm⟩ : ∃ m, m = midN ⟨false, ks, vs, cs⟩ := ⟨_, rfl⟩
    rw [← hm] at hv1 hv2 ⊢
    have hm1 : 1 ≤ m := by rw [hm]; exact bestTo_pos _ _ (by unfold limN; show 0 < ks.length - 1 - 1; have := EK.out; omega)
    have hm2 : m + 1 < nk := by
      have h1 := bestTo_le ⟨false, ks, vs, cs⟩ (limN ⟨false, ks, vs, cs⟩)
      have h2 : m ≤ limN ⟨false, ks, vs, cs⟩ := by rw [hm]; exact h1
      unfold limN at h2
      have h3 : m ≤ ks.length - 1 - 1 := h2
      have := EK.out
      omega
    obtain ⟨P1, hP1⟩ : ∃ P, P = partM ⟨false, ks, vs, cs⟩ 0 m := ⟨_, rfl⟩
    obtain ⟨P2, hP2⟩ : ∃ P, P = partM ⟨false, ks, vs, cs⟩ (m + betN false) nk := ⟨_, rfl⟩
    have F1 : formB P1 = true := by rw [hP1]; exact form_cut HF.out 0 m (by omega) (by have := EK.out; omega)
    have F2 : formB P2 = true := by rw [hP2]; exact form_cut HF.out (m + 1) nk (by omega) (by have := EK.out; omega)
    have HSM := Lib.hid (show sizeN ⟨false, ks, vs, cs⟩ ≤ 378 → checkN P1 = 0 ∧ checkN P2 = 0 by
      intro hs
      have h := halves_small HF.out (show 2 + 1 ≤ ks.length by have := EK.out; omega) hs
      rw [← hm, ← hP1, ← EK.out, ← hP2] at h
      exact ⟨check_ok F1 (by omega), check_ok F2 (by omega)⟩)
    rw [← hP1] at hv1
    rw [← hP2] at hv2
    have l1 : P1.leaf = false := by rw [hP1]; rfl
    have l2 : P2.leaf = false := by rw [hP2]; rfl
    have zk : ∀ s ∈ ks, s.size ≤ 140737488355328 := H.out.zk
    have zv : ∀ s ∈ vs, s.size ≤ 140737488355328 := H.out.zv
    have e1 : ks.length ≤ 300 := by have := EK.out; omega
    have e2 : vs.length ≤ 300 := by have := (form_branch_eq HF.out).2.2; omega
    have e3 : cs.length ≤ 301 := by have := (form_branch_eq HF.out).2.1; omega
    have q1 : P1.keys.length ≤ 300 ∧ P1.vals.length ≤ 300 ∧ P1.kids.length ≤ 301 ∧ (∀ s ∈ P1.keys, s.size ≤ 140737488355328) ∧ (∀ s ∈ P1.vals, s.size ≤ 140737488355328) := by rw [hP1]; exact part_small' ks vs cs _ _ e1 e2 e3 zk zv
    have q2 : P2.keys.length ≤ 300 ∧ P2.vals.length ≤ 300 ∧ P2.kids.length ≤ 301 ∧ (∀ s ∈ P2.keys, s.size ≤ 140737488355328) ∧ (∀ s ∈ P2.vals, s.size ≤ 140737488355328) := by rw [hP2]; exact part_small' ks vs cs _ _ e1 e2 e3 zk zv
    obtain ⟨D1, D2, D3, d1, d2, d3, hw1, N1⟩ := hv1.nd (by omega) (by omega) (by omega) q1.2.2.2.1 q1.2.2.2.2
    obtain ⟨E1, E2, E3, f1, f2, f3, hw2, N2⟩ := hv2.nd (by omega) (by omega) (by omega) q2.2.2.2.1 q2.2.2.2.2
    rw [l1] at hw1
    rw [l2] at hw2
    subst hw1
    subst hw2
    obtain ⟨key, hkey⟩ : ∃ s, s = ks.getD m ByteArray.empty := ⟨_, rfl⟩
    rw [← hkey]
    have HKEY := Lib.hid hkey
    have HP1 := Lib.hid hP1
    have HP2 := Lib.hid hP2
    have HM := Lib.hid hm
    have HF1 := Lib.hid F1
    have HF2 := Lib.hid F2
    have L1 := Lib.hid l1
    have L2 := Lib.hid l2
    have Q1 := Lib.hid q1
    have Q2 := Lib.hid q2
    obtain ⟨w4, hw4⟩ : ∃ w4, w4 = (w3.alloc (.cells #[.bool false, .slice D1 P1.keys.length d1, .slice D2 P1.vals.length d2, .slice D3 P1.kids.length d3] 25)).alloc (.cells #[.bool false, .slice E1 P2.keys.length f1, .slice E2 P2.vals.length f2, .slice E3 P2.kids.length f3] 25) := ⟨_, rfl⟩
    have hb4 : Below w3.heap.size w3 w4 := by rw [hw4]; exact ((Below.refl _ _).alloc (Nat.le_refl _) _).alloc (by simp) _
    have HA4 := Lib.hid ((HAx.out.trans (hb3.mono HAx.out.size)).trans (hb4.mono (Nat.le_trans HAx.out.size hb3.size)))
    have HB4 := Lib.hid ((HBx.out.bel hb3).bel hb4)
    have HX4 := Lib.hid ((HX.out.bel hb3).bel hb4)
    have HNX := Lib.hid ((HN2.out.bel hb3).bel hb4)
    have HNa := Lib.hid (N1.bel hb4)
    have HNb := Lib.hid (N2.bel hb4)
    have HBa := Lib.hid (show Bk w4 w3.heap.size 25 #[.bool false, .slice D1 P1.keys.length d1, .slice D2 P1.vals.length d2, .slice D3 P1.kids.length d3] by rw [hw4]; exact (Bk.new w3 _ _).alloc _)
    have HBb := Lib.hid (show Bk w4 (w3.heap.size + 1) 25 #[.bool false, .slice E1 P2.keys.length f1, .slice E2 P2.vals.length f2, .slice E3 P2.kids.length f3] by
      rw [hw4]
      have k5 := Bk.new (w3.alloc (.cells #[.bool false, .slice D1 P1.keys.length d1, .slice D2 P1.vals.length d2, .slice D3 P1.kids.length d3] 25)) 25 #[.bool false, .slice E1 P2.keys.length f1, .slice E2 P2.vals.length f2, .slice E3 P2.kids.length f3]
      rw [World.size_alloc] at k5
      exact k5)
    obtain ⟨bk0, ok0, hA, _⟩ := H.out.sk (show strV ks ≠ [] from fun e => by
      have h2 : (strV ks).length = 0 := by rw [e]; rfl
      rw [strV_length] at h2
      have := EK.out
      omega)
    subst hA
    have K4 := Lib.hid (rhalve_branch ks vs cs bk0 ok0 B C nk ca nv cb nc cc w4 (H.out.bel HA4.out) HF.out (show 2 + 1 ≤ nk by omega))
    have HW4 := Lib.hid hw4
    have HB3 := Lib.hid hb3
    clear hb3 hv1 hv2 N1 N2 hP1 hP2 hm l1 l2 zk zv e1 e2 e3 hkey x0 x1 x2 x3 hw4 hb4 F1 F2 q1 q2
    go_upto_region 5 with fail
    rw [← HW4.out]
    have y0 := HB4.out.cell 0
    have y1 := HB4.out.cell 1
    have y2 := HB4.out.cell 2
    have y3 := HB4.out.cell 3
    go_wp2_with fail
    refine K4.out.mono ?_
    rintro e w5 ⟨⟨v1, v2, rfl, hv1, hv2⟩, hb5⟩
    rw [← HM.out, ← HP1.out] at hv1
    rw [← HM.out, ← HP2.out] at hv2
    rw [← HM.out, ← HKEY.out]
    obtain ⟨G1, G2, G3, g1, g2, g3, hw1, N1⟩ := hv1.nd (by have := Q1.out; omega) (by have := Q1.out; omega) (by have := Q1.out; omega) Q1.out.2.2.2.1 Q1.out.2.2.2.2
    obtain ⟨I1, I2, I3, i1, i2, i3, hw2, N2⟩ := hv2.nd (by have := Q2.out; omega) (by have := Q2.out; omega) (by have := Q2.out; omega) Q2.out.2.2.2.1 Q2.out.2.2.2.2
    rw [L1.out] at hw1
    rw [L2.out] at hw2
    subst hw1
    subst hw2
    obtain ⟨w6, hw6⟩ : ∃ w6, w6 = (w5.alloc (.cells #[.bool false, .slice G1 P1.keys.length g1, .slice G2 P1.vals.length g2, .slice G3 P1.kids.length g3] 25)).alloc (.cells #[.bool false, .slice I1 P2.keys.length i1, .slice I2 P2.vals.length i2, .slice I3 P2.kids.length i3] 25) := ⟨_, rfl⟩
    have hb6 : Below w5.heap.size w5 w6 := by rw [hw6]; exact ((Below.refl _ _).alloc (Nat.le_refl _) _).alloc (by simp) _
    have hb46 := hb5.trans (hb6.mono hb5.size)
    have HBc := Lib.hid (show Bk w6 w5.heap.size 25 #[.bool false, .slice G1 P1.keys.length g1, .slice G2 P1.vals.length g2, .slice G3 P1.kids.length g3] by rw [hw6]; exact (Bk.new w5 _ _).alloc _)
    have HBd := Lib.hid (show Bk w6 (w5.heap.size + 1) 25 #[.bool false, .slice I1 P2.keys.length i1, .slice I2 P2.vals.length i2, .slice I3 P2.kids.length i3] by
      rw [hw6]
      have k5 := Bk.new (w5.alloc (.cells #[.bool false, .slice G1 P1.keys.length g1, .slice G2 P1.vals.length g2, .slice G3 P1.kids.length g3] 25)) 25 #[.bool false, .slice I1 P2.keys.length i1, .slice I2 P2.vals.length i2, .slice I3 P2.kids.length i3]
      rw [World.size_alloc] at k5
      exact k5)
    have HNc := Lib.hid (N1.bel hb6)
    have HNd := Lib.hid (N2.bel hb6)
    have HA6 := Lib.hid (HA4.out.trans (hb46.mono HA4.out.size))
    have HB6 := Lib.hid (HB4.out.bel hb46)
    have HX6 := Lib.hid (HX4.out.bel hb46)
    have HNX6 := Lib.hid (HNX.out.bel hb46)
    have HNa6 := Lib.hid (HNa.out.bel hb46)
    have HNb6 := Lib.hid (HNb.out.bel hb46)
    have HBa6 := Lib.hid (HBa.out.bel hb46)
    have HBb6 := Lib.hid (HBb.out.bel hb46)
    have HW6 := Lib.hid hw6
    have L1 := L1
    obtain ⟨lf1, ks1, vs1, cs1⟩ := P1
    obtain ⟨lf2, ks2, vs2, cs2⟩ := P2
    obtain rfl : lf1 = false := L1.out
    obtain rfl : lf2 = false := L2.out
    simp only at HW6 HBa6 HBb6 HBc HBd HNa6 HNb6 HNc HNd ⊢
    clear hb5 hb6 hb46 hv1 hv2 N1 N2 hw6 y0 y1 y2 y3 HBa HBb HNa HNb HB4 HX4 HNX HA4 HB3 HW4 K4 K2 HBx HN2 HX HAx HWX
    generalize ks1.length = nk1 at *
    generalize vs1.length = nv1 at *
    generalize cs1.length = nc1 at *
    generalize ks2.length = nk2 at *
    generalize vs2.length = nv2 at *
    generalize cs2.length = nc2 at *
    have hkk : (key.toList != key.toList) = false := by simp
    have hkk2 : (!(key.toList == key.toList)) = false := by simp
    go_upto_region 6 with fail
    rw [← HW6.out]
    have KEEP := Lib.hid (fun (u : World) (hu : Below w6.heap.size w6 u) => (⟨HB6.out.bel hu, HX6.out.bel hu, HBa6.out.bel hu, HBb6.out.bel hu, HBc.out.bel hu, HBd.out.bel hu⟩ : Bk u w.heap.size 25 #[.bool false, .slice (some ⟨bk0, ok0, none⟩) nk ca, .slice B nv cb, .slice C nc cc] ∧ Bk u w2.heap.size 25 _ ∧ Bk u w3.heap.size 25 _ ∧ Bk u (w3.heap.size + 1) 25 _ ∧ Bk u w5.heap.size 25 _ ∧ Bk u (w5.heap.size + 1) 25 _))
    have HR := Lib.hid (Below.refl w6.heap.size w6)
    go_wp2_with fail
    refine (awake_any w6).mono ?_
    rintro e u1 ⟨rfl, hu⟩
    have HU1 := Lib.hid hu
    obtain ⟨kb, kx, ka', kp, kc', kq⟩ := KEEP.out _ hu
    have y0 := kb.cell 0
    have y1 := kb.cell 1
    have y2 := kb.cell 2
    have y3 := kb.cell 3
    have x0 := kx.cell 0
    have x1 := kx.cell 1
    have x2 := kx.cell 2
    have x3 := kx.cell 3
    have r0 := ka'.cell 0
    have r1 := ka'.cell 1
    have r2 := ka'.cell 2
    have r3 := ka'.cell 3
    have s0 := kp.cell 0
    have s1 := kp.cell 1
    have s2 := kp.cell 2
    have s3 := kp.cell 3
    have t0 := kc'.cell 0
    have t1 := kc'.cell 1
    have t2 := kc'.cell 2
    have t3 := kc'.cell 3
    have v0 := kq.cell 0
    have v1 := kq.cell 1
    have v2 := kq.cell 2
    have v3 := kq.cell 3
    clear kb kx ka' kp kc' kq
    clear hu HR
    go_wp2_with fail
    refine (nsame_any false ks1 vs1 cs1 D1 D2 D3 G1 G2 G3 nk1 d1 nv1 d2 nc1 d3 g1 g2 g3 u1 (HNa6.out.bel HU1.out) (HNc.out.bel HU1.out)).mono ?_
    rintro e u2 ⟨rfl, hu2⟩
    have hu := HU1.out.trans (hu2.mono HU1.out.size)
    have HU2 := Lib.hid hu
    clear y0 y1 y2 y3 x0 x1 x2 x3 r0 r1 r2 r3 s0 s1 s2 s3 t0 t1 t2 t3 v0 v1 v2 v3
    obtain ⟨kb, kx, ka', kp, kc', kq⟩ := KEEP.out _ hu
    have y0 := kb.cell 0
    have y1 := kb.cell 1
    have y2 := kb.cell 2
    have y3 := kb.cell 3
    have x0 := kx.cell 0
    have x1 := kx.cell 1
    have x2 := kx.cell 2
    have x3 := kx.cell 3
    have r0 := ka'.cell 0
    have r1 := ka'.cell 1
    have r2 := ka'.cell 2
    have r3 := ka'.cell 3
    have s0 := kp.cell 0
    have s1 := kp.cell 1
    have s2 := kp.cell 2
    have s3 := kp.cell 3
    have t0 := kc'.cell 0
    have t1 := kc'.cell 1
    have t2 := kc'.cell 2
    have t3 := kc'.cell 3
    have v0 := kq.cell 0
    have v1 := kq.cell 1
    have v2 := kq.cell 2
    have v3 := kq.cell 3
    clear kb kx ka' kp kc' kq
    clear hu hu2
    go_wp2_with fail
    refine (nsame_any false ks2 vs2 cs2 E1 E2 E3 I1 I2 I3 nk2 f1 nv2 f2 nc2 f3 i1 i2 i3 u2 (HNb6.out.bel HU2.out) (HNd.out.bel HU2.out)).mono ?_
    rintro e u3 ⟨rfl, hu3⟩
    have hu := HU2.out.trans (hu3.mono HU2.out.size)
    have HU3 := Lib.hid hu
    clear y0 y1 y2 y3 x0 x1 x2 x3 r0 r1 r2 r3 s0 s1 s2 s3 t0 t1 t2 t3 v0 v1 v2 v3
    obtain ⟨kb, kx, ka', kp, kc', kq⟩ := KEEP.out _ hu
    have y0 := kb.cell 0
    have y1 := kb.cell 1
    have y2 := kb.cell 2
    have y3 := kb.cell 3
    have x0 := kx.cell 0
    have x1 := kx.cell 1
    have x2 := kx.cell 2
    have x3 := kx.cell 3
    have r0 := ka'.cell 0
    have r1 := ka'.cell 1
    have r2 := ka'.cell 2
    have r3 := ka'.cell 3
    have s0 := kp.cell 0
    have s1 := kp.cell 1
    have s2 := kp.cell 2
    have s3 := kp.cell 3
    have t0 := kc'.cell 0
    have t1 := kc'.cell 1
    have t2 := kc'.cell 2
    have t3 := kc'.cell 3
    have v0 := kq.cell 0
    have v1 := kq.cell 1
    have v2 := kq.cell 2
    have v3 := kq.cell 3
    clear kb kx ka' kp kc' kq
    clear hu hu3
    go_wp2_with fail
    refine (nsame_any false ks vs cs A2 B2 C2 (some ⟨bk0, ok0, none⟩) B C nk c1 nv c2 nc c3 ca cb cc u3 (HNX6.out.bel HU3.out) (H.out.bel (HA6.out.trans (HU3.out.mono HA6.out.size)))).mono ?_
    rintro e u4 ⟨rfl, hu4⟩
    have hu := HU3.out.trans (hu4.mono HU3.out.size)
    have HU4 := Lib.hid hu
    clear y0 y1 y2 y3 x0 x1 x2 x3 r0 r1 r2 r3 s0 s1 s2 s3 t0 t1 t2 t3 v0 v1 v2 v3
    obtain ⟨kb, kx, ka', kp, kc', kq⟩ := KEEP.out _ hu
    have y0 := kb.cell 0
    have y1 := kb.cell 1
    have y2 := kb.cell 2
    have y3 := kb.cell 3
    have x0 := kx.cell 0
    have x1 := kx.cell 1
    have x2 := kx.cell 2
    have x3 := kx.cell 3
    have r0 := ka'.cell 0
    have r1 := ka'.cell 1
    have r2 := ka'.cell 2
    have r3 := ka'.cell 3
    have s0 := kp.cell 0
    have s1 := kp.cell 1
    have s2 := kp.cell 2
    have s3 := kp.cell 3
    have t0 := kc'.cell 0
    have t1 := kc'.cell 1
    have t2 := kc'.cell 2
    have t3 := kc'.cell 3
    have v0 := kq.cell 0
    have v1 := kq.cell 1
    have v2 := kq.cell 2
    have v3 := kq.cell 3
    clear kb kx ka' kp kc' kq
    clear hu hu4
    go_wp2_with fail
    refine (form_any ⟨false, ks1, vs1, cs1⟩ D1 D2 D3 nk1 d1 nv1 d2 nc1 d3 u4 (HNa6.out.bel HU4.out)).mono ?_
    rw [HF1.out]
    rintro e u5 ⟨rfl, hu5⟩
    have hu := HU4.out.trans (hu5.mono HU4.out.size)
    have HU5 := Lib.hid hu
    clear y0 y1 y2 y3 x0 x1 x2 x3 r0 r1 r2 r3 s0 s1 s2 s3 t0 t1 t2 t3 v0 v1 v2 v3
    obtain ⟨kb, kx, ka', kp, kc', kq⟩ := KEEP.out _ hu
    have y0 := kb.cell 0
    have y1 := kb.cell 1
    have y2 := kb.cell 2
    have y3 := kb.cell 3
    have x0 := kx.cell 0
    have x1 := kx.cell 1
    have x2 := kx.cell 2
    have x3 := kx.cell 3
    have r0 := ka'.cell 0
    have r1 := ka'.cell 1
    have r2 := ka'.cell 2
    have r3 := ka'.cell 3
    have s0 := kp.cell 0
    have s1 := kp.cell 1
    have s2 := kp.cell 2
    have s3 := kp.cell 3
    have t0 := kc'.cell 0
    have t1 := kc'.cell 1
    have t2 := kc'.cell 2
    have t3 := kc'.cell 3
    have v0 := kq.cell 0
    have v1 := kq.cell 1
    have v2 := kq.cell 2
    have v3 := kq.cell 3
    clear kb kx ka' kp kc' kq
    clear hu hu5
    go_wp2_with fail
    refine (form_any ⟨false, ks2, vs2, cs2⟩ E1 E2 E3 nk2 f1 nv2 f2 nc2 f3 u5 (HNb6.out.bel HU5.out)).mono ?_
    rw [HF2.out]
    rintro e u6 ⟨rfl, hu6⟩
    have hu := HU5.out.trans (hu6.mono HU5.out.size)
    have HU6 := Lib.hid hu
    clear y0 y1 y2 y3 x0 x1 x2 x3 r0 r1 r2 r3 s0 s1 s2 s3 t0 t1 t2 t3 v0 v1 v2 v3
    obtain ⟨kb, kx, ka', kp, kc', kq⟩ := KEEP.out _ hu
    have y0 := kb.cell 0
    have y1 := kb.cell 1
    have y2 := kb.cell 2
    have y3 := kb.cell 3
    have x0 := kx.cell 0
    have x1 := kx.cell 1
    have x2 := kx.cell 2
    have x3 := kx.cell 3
    have r0 := ka'.cell 0
    have r1 := ka'.cell 1
    have r2 := ka'.cell 2
    have r3 := ka'.cell 3
    have s0 := kp.cell 0
    have s1 := kp.cell 1
    have s2 := kp.cell 2
    have s3 := kp.cell 3
    have t0 := kc'.cell 0
    have t1 := kc'.cell 1
    have t2 := kc'.cell 2
    have t3 := kc'.cell 3
    have v0 := kq.cell 0
    have v1 := kq.cell 1
    have v2 := kq.cell 2
    have v3 := kq.cell 3
    clear kb kx ka' kp kc' kq
    clear hu hu6
    have SZ1 : sizeN ⟨false, ks, vs, cs⟩ ≤ 4 + nk * 123 := by have := form_size_le HF.out; rw [show nk = ks.length from EK.out]; exact this
    have CS0 := rsize_any ⟨false, ks, vs, cs⟩ (some ⟨bk0, ok0, none⟩) B C nk ca nv cb nc cc u6 (H.out.bel (HA6.out.trans (HU6.out.mono HA6.out.size)))
    obtain ⟨S, hS⟩ : ∃ S, S = sizeN ⟨false, ks, vs, cs⟩ := ⟨_, rfl⟩
    rw [← hS] at SZ1 CS0 HSM
    rw [show IntKind.i64.wrap (S : Int) = (S : Int) by rw [IntKind.wrap_i64]; omega] at CS0
    have CS := Lib.hid CS0
    clear CS0 hS
    by_cases h378 : 378 < S
    · have dd1 : decide ((378 : Int) < (S : Int)) = true := by simp; omega
      have dd2 : decide (378 < S) = true := by simp; omega
      clear h378
      go_wp2_with fail
      refine CS.out.mono ?_
      rintro e u7 ⟨rfl, hu7⟩
      have HU7 := Lib.hid (HA6.out.trans ((HU6.out.trans (hu7.mono HU6.out.size)).mono HA6.out.size))
      clear hu7
      go_wp2_with fail
      go_ret
      exact ⟨rfl, HU7.out⟩
    · have dd1 : decide ((378 : Int) < (S : Int)) = false := by simp; omega
      have dd2 : decide (378 < S) = false := by simp; omega
      obtain ⟨z1, z2⟩ := HSM.out (by omega)
      have Z1 := Lib.hid z1
      have Z2 := Lib.hid z2
      clear h378 z1 z2
      go_wp2_with fail
      refine CS.out.mono ?_
      rintro e u7 ⟨rfl, hu7⟩
      have hu := HU6.out.trans (hu7.mono HU6.out.size)
      have HU7 := Lib.hid hu
      clear y0 y1 y2 y3 x0 x1 x2 x3 r0 r1 r2 r3 s0 s1 s2 s3 t0 t1 t2 t3 v0 v1 v2 v3
      obtain ⟨kb, kx, ka', kp, kc', kq⟩ := KEEP.out _ hu
      have y0 := kb.cell 0
      have y1 := kb.cell 1
      have y2 := kb.cell 2
      have y3 := kb.cell 3
      have x0 := kx.cell 0
      have x1 := kx.cell 1
      have x2 := kx.cell 2
      have x3 := kx.cell 3
      have r0 := ka'.cell 0
      have r1 := ka'.cell 1
      have r2 := ka'.cell 2
      have r3 := ka'.cell 3
      have s0 := kp.cell 0
      have s1 := kp.cell 1
      have s2 := kp.cell 2
      have s3 := kp.cell 3
      have t0 := kc'.cell 0
      have t1 := kc'.cell 1
      have t2 := kc'.cell 2
      have t3 := kc'.cell 3
      have v0 := kq.cell 0
      have v1 := kq.cell 1
      have v2 := kq.cell 2
      have v3 := kq.cell 3
      clear kb kx ka' kp kc' kq
      clear hu hu7
      go_wp2_with fail
      refine (rcheck_any ⟨false, ks1, vs1, cs1⟩ D1 D2 D3 nk1 d1 nv1 d2 nc1 d3 u7 (HNa6.out.bel HU7.out)).mono ?_
      rw [Z1.out]
      rintro e u8 ⟨rfl, hu8⟩
      have hu := HU7.out.trans (hu8.mono HU7.out.size)
      have HU8 := Lib.hid hu
      clear y0 y1 y2 y3 x0 x1 x2 x3 r0 r1 r2 r3 s0 s1 s2 s3 t0 t1 t2 t3 v0 v1 v2 v3
      obtain ⟨kb, kx, ka', kp, kc', kq⟩ := KEEP.out _ hu
      have y0 := kb.cell 0
      have y1 := kb.cell 1
      have y2 := kb.cell 2
      have y3 := kb.cell 3
      have x0 := kx.cell 0
      have x1 := kx.cell 1
      have x2 := kx.cell 2
      have x3 := kx.cell 3
      have r0 := ka'.cell 0
      have r1 := ka'.cell 1
      have r2 := ka'.cell 2
      have r3 := ka'.cell 3
      have s0 := kp.cell 0
      have s1 := kp.cell 1
      have s2 := kp.cell 2
      have s3 := kp.cell 3
      have t0 := kc'.cell 0
      have t1 := kc'.cell 1
      have t2 := kc'.cell 2
      have t3 := kc'.cell 3
      have v0 := kq.cell 0
      have v1 := kq.cell 1
      have v2 := kq.cell 2
      have v3 := kq.cell 3
      clear kb kx ka' kp kc' kq
      clear hu hu8
      go_wp2_with fail
      refine (rcheck_any ⟨false, ks2, vs2, cs2⟩ E1 E2 E3 nk2 f1 nv2 f2 nc2 f3 u8 (HNb6.out.bel HU8.out)).mono ?_
      rw [Z2.out]
      rintro e u9 ⟨rfl, hu9⟩
      have HU9 := Lib.hid (HA6.out.trans ((HU8.out.trans (hu9.mono HU8.out.size)).mono HA6.out.size))
      clear hu9
      go_wp2_with fail
      go_ret
      exact ⟨rfl, HU9.out⟩
  · have HV := Lib.hid hv
    clear hv
    by_cases hv1 : v = true
    · subst hv1
      by_cases h1 : nk < 2
      · have b1 : decide ((nk : Int) < 2) = true := by simp; omega
        go_enter Try.func6, Try.ntmps6
        go_wp2_with fail
        refine C0.out.mono ?_
        rintro e w1 ⟨rfl, hb1⟩
        have y0 := (HB.out.bel hb1).cell 0
        have y1 := (HB.out.bel hb1).cell 1
        have y2 := (HB.out.bel hb1).cell 2
        have y3 := (HB.out.bel hb1).cell 3
        have HF1 := Lib.hid (HFIN.out w1 (HA.out.trans (hb1.mono HA.out.size)))
        clear hb1
        go_wp2_with fail
        refine HF1.out.mono ?_
        rintro e w2 ⟨rfl, hb2⟩
        have HB2 := Lib.hid hb2
        clear hb2
        go_wp2_with fail
        go_ret
        exact ⟨rfl, HB2.out⟩
      · have b1 : decide ((nk : Int) < 2) = false := by simp; omega
        by_cases h2 : nk < 3
        · have b2 : decide ((nk : Int) < 3) = true := by simp; omega
          go_enter Try.func6, Try.ntmps6
          go_wp2_with fail
          refine C0.out.mono ?_
          rintro e w1 ⟨rfl, hb1⟩
          have y0 := (HB.out.bel hb1).cell 0
          have y1 := (HB.out.bel hb1).cell 1
          have y2 := (HB.out.bel hb1).cell 2
          have y3 := (HB.out.bel hb1).cell 3
          have HF1 := Lib.hid (HFIN.out w1 (HA.out.trans (hb1.mono HA.out.size)))
          clear hb1
          go_wp2_with fail
          refine HF1.out.mono ?_
          rintro e w2 ⟨rfl, hb2⟩
          have HB2 := Lib.hid hb2
          clear hb2
          go_wp2_with fail
          go_ret
          exact ⟨rfl, HB2.out⟩
        · have b2 : decide ((nk : Int) < 3) = false := by simp; omega
          have b3 : decide ((300 : Int) < (nk : Int)) = true := by simp; have : ¬ nk ≤ 300 := fun h => hgo ⟨rfl, by omega, h⟩; omega
          go_enter Try.func6, Try.ntmps6
          go_wp2_with fail
          refine C0.out.mono ?_
          rintro e w1 ⟨rfl, hb1⟩
          have y0 := (HB.out.bel hb1).cell 0
          have y1 := (HB.out.bel hb1).cell 1
          have y2 := (HB.out.bel hb1).cell 2
          have y3 := (HB.out.bel hb1).cell 3
          have HF1 := Lib.hid (HFIN.out w1 (HA.out.trans (hb1.mono HA.out.size)))
          clear hb1
          go_wp2_with fail
          refine HF1.out.mono ?_
          rintro e w2 ⟨rfl, hb2⟩
          have HB2 := Lib.hid hb2
          clear hb2
          go_wp2_with fail
          go_ret
          exact ⟨rfl, HB2.out⟩
    · obtain rfl : v = false := by simpa using hv1
      go_enter Try.func6, Try.ntmps6
      go_wp2_with fail
      refine C0.out.mono ?_
      rintro e w1 ⟨rfl, hb1⟩
      have y0 := (HB.out.bel hb1).cell 0
      have y1 := (HB.out.bel hb1).cell 1
      have y2 := (HB.out.bel hb1).cell 2
      have y3 := (HB.out.bel hb1).cell 3
      have HF1 := Lib.hid (HFIN.out w1 (HA.out.trans (hb1.mono HA.out.size)))
      clear hb1
      go_wp2_with fail
      refine HF1.out.mono ?_
      rintro e w2 ⟨rfl, hb2⟩
      have HB2 := Lib.hid hb2
      clear hb2
      go_wp2_with fail
      go_ret
      exact ⟨rfl, HB2.out⟩
theorem phalves_any (n : NodeM) (A B C : Option Addr) (nk ca nv cb nc cc : Nat) (w : World) (h : Nd w n A B C nk ca nv cb nc cc) :
    Calls Try.prog 6 #[.agg #[.bool n.leaf, .slice A nk ca, .slice B nv cb, .slice C nc cc]] w fun e w' => e = .returned (.bool true) ∧ Below w.heap.size w w' := by
  obtain ⟨lf, ks, vs, cs⟩ := n
  cases lf
  · exact phalves_branch ks vs cs A B C nk ca nv cb nc cc w h
  · exact phalves_leaf ks vs cs A B C nk ca nv cb nc cc w h
end Go.Proofs.Ytcnfnfnmpifahaa
