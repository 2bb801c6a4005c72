/- The walks of the reference's best run and of what it asks of a list given back. Conditions: what is read lies in memory. -/
import Derived.Test.YtpkajmgfechhhaaMapJ
namespace Go.Proofs.Ytpkajmgfechhhaa
open Go.RowKit

def extI (b : Nat × Nat) : Int := if b.2 = 0 then -1 else (b.1 : Int)
set_option maxRecDepth 100000 in
set_option maxHeartbeats 4000000 in
theorem extent_ref (f : Nat → Bool) (T m : Nat) (A : Option Addr) (c : Nat) (hT : T ≤ 2048) (_hm : 1 ≤ m) (w : World) (hA : Seg w A (bls f T)) :
    Calls Try.prog 23 #[.slice A T c, .int .i64 (m : Int)] w fun e w' => e = .returned (.int .i64 (extI (best m (runsN f T)))) ∧ Below w.heap.size w w' := by
  have HA := Lib.hid hA
  clear hA
  go_enter Try.func23, Try.ntmps23
  go_wp2_with fail
  refine (runs_ref f T A c hT _ HA.out).mono ?_
  rintro e w4 ⟨v, rfl, o4, b4⟩
  obtain ⟨A4, c4, rfl, hc4⟩ := own_slice o4
  have hok := runsN_ok f T
  have hlen := runsN_length f T
  obtain ⟨R, hR⟩ : ∃ R, R = runsN f T := ⟨_, rfl⟩
  rw [← hR] at o4 hok hlen
  have HRR := Lib.hid hR
  have O4 := Lib.hid o4
  have B4 := Lib.hid b4
  have HOk := Lib.hid hok
  clear b4 o4 hok hR
  go_wp2_with fail
  rw [← HRR.out]
  go_loopw [5, 6, 12] (fun p s i wr => ∃ k : Nat, k ≤ R.length ∧ i = .int .i64 k ∧ p = .int .i64 (extI (best m (R.take k))) ∧ s = .int .i64 ((best m (R.take k)).2 : Int) ∧ Below w4.heap.size w4 wr) (fun _ _ i _ => R.length - (intOf i).toNat)
  case atStart => exact ⟨0, by omega, rfl, rfl, rfl, Below.refl _ _⟩
  case round =>
    obtain ⟨k, hk, rfl, rfl, rfl, hb⟩ := hrel
    by_cases hlt : k < R.length
    · obtain ⟨g, rfl, hg1, hg2, hc0, hc1⟩ := own_pair (own_bel' O4.out hb) k hlt
      obtain ⟨p1, p2, p3⟩ := HOk.out.1 R[k] (List.getElem_mem hlt)
      have hs := best_snoc m (R.take k) R[k]
      rw [← List.take_succ_eq_append_getElem hlt] at hs
      have HS := Lib.hid hs
      have HB := Lib.hid hb
      clear p3 hs hb
      generalize hq : R[k] = q at *
      clear hq
      generalize best m (R.take k) = b at *
      have HQ := Lib.hid (show extI q = (q.1 : Int) by unfold extI; rw [if_neg (by omega)])
      by_cases h1 : m ≤ q.2
      · have h1' : (m : Int) ≤ ((q.2 : Nat) : Int) := by omega
        by_cases h2 : b.2 = 0
        · have h2' : extI b < 0 := by unfold extI; rw [if_pos h2]; omega
          have HT := Lib.hid (show best m (R.take (k + 1)) = q by rw [HS.out]; unfold bstep; rw [if_pos ⟨h1, .inl h2⟩])
          clear HS h2
          generalize extI b = x at *
          go_wp2_with fail
          go_roundw
          case rel => exact ⟨k + 1, by omega, by go_num, by rw [HT.out, HQ.out], by rw [HT.out], HB.out.alloc HB.out.size _⟩
          case measure => simp [intOf]; omega
        · have h2' : ¬ extI b < 0 := by unfold extI; rw [if_neg h2]; omega
          by_cases h3 : q.2 < b.2
          · have h3' : ((q.2 : Nat) : Int) < ((b.2 : Nat) : Int) := by omega
            have HT := Lib.hid (show best m (R.take (k + 1)) = q by rw [HS.out]; unfold bstep; rw [if_pos ⟨h1, .inr h3⟩])
            clear HS h2
            generalize extI b = x at *
            go_wp2_with fail
            go_roundw
            case rel => exact ⟨k + 1, by omega, by go_num, by rw [HT.out, HQ.out], by rw [HT.out], HB.out.alloc HB.out.size _⟩
            case measure => simp [intOf]; omega
          · have h3' : ¬ ((q.2 : Nat) : Int) < ((b.2 : Nat) : Int) := by omega
            have HT := Lib.hid (show best m (R.take (k + 1)) = b by rw [HS.out]; unfold bstep; rw [if_neg (by omega)])
            clear HS h2
            have HX := Lib.hid (show extI (best m (R.take (k + 1))) = extI b by rw [HT.out])
            generalize extI b = x at *
            go_wp2_with fail
            go_roundw
            case rel => exact ⟨k + 1, by omega, by go_num, by rw [HX.out], by rw [HT.out], HB.out.alloc HB.out.size _⟩
            case measure => simp [intOf]; omega
      · have h1' : ¬ (m : Int) ≤ ((q.2 : Nat) : Int) := by omega
        have HT := Lib.hid (show best m (R.take (k + 1)) = b by rw [HS.out]; unfold bstep; rw [if_neg (by omega)])
        clear HS
        have HX := Lib.hid (show extI (best m (R.take (k + 1))) = extI b by rw [HT.out])
        generalize extI b = x at *
        go_wp2_with fail
        go_roundw
        case rel => exact ⟨k + 1, by omega, by go_num, by rw [HX.out], by rw [HT.out], HB.out.alloc HB.out.size _⟩
        case measure => simp [intOf]; omega
    · have hkl : k = R.length := by omega
      subst hkl
      rw [List.take_length]
      have HB := Lib.hid (B4.out.trans (hb.mono B4.out.size))
      clear hb
      go_wp2_with fail
      go_ret
      exact ⟨by rw [← HRR.out]; rfl, HB.out⟩
set_option maxRecDepth 100000 in
set_option maxHeartbeats 4000000 in
theorem give_ref (f : Nat → Bool) (T m : Nat) (A B : Option Addr) (c d : Nat) (l : List Int) (_hT : T ≤ 2048) (hm : m = l.length) (hmd : m ≤ d) (hmz : m ≤ 17592186044416) (w : World) (hA : Seg w A (bls f T)) (hB : Seg w B (intL l)) :
    Calls Try.prog 25 #[.slice A T c, .slice B m d] w fun e w' => e = .returned (.int .i64 ((giveE T f l : Nat) : Int)) ∧ w = w' := by
  have HM := Lib.hid hm
  have HA := Lib.hid hA
  have HB := Lib.hid hB
  clear hm hA hB
  go_enter Try.func25, Try.ntmps25
  go_wp2_with fail
  go_loop [11] (fun i => ∃ k : Nat, k ≤ m ∧ i = .int .i64 k ∧ giveE T f l = giveE T (giveF f (l.take k)) (l.drop k) ∧ ∀ b ∈ l.take k, 0 ≤ b ∧ b < T) (fun i => m - (intOf i).toNat)
  case atStart => exact ⟨0, by omega, rfl, rfl, by simp⟩
  case round =>
    obtain ⟨k, hk, rfl, hge, hin⟩ := hrel
    by_cases hlt : k < m
    · have hkl : k < l.length := by rw [← HM.out]; exact hlt
      obtain ⟨b, off, rfl, hbl, hcs, hc⟩ := HB.out.pick (k := k) (by rw [intL_length]; exact hkl)
      rw [intL_get l k hkl] at hc
      rw [giveE_split T f l k hkl hin] at hge
      have i1 : (0 : Int) ≤ (k : Int) := by omega
      have i2 : (k : Int) < (m : Int) := by omega
      have i3 : (k : Int) ≤ (d : Int) := by omega
      by_cases hz : l[k] < 0 ∨ (T : Int) ≤ l[k]
      · have hb1 : badAt T f l k l[k] = 1 := by unfold badAt; rw [if_pos hz]
        rw [hb1, if_neg (by omega)] at hge
        have HE := Lib.hid (show Ending.returned (.int .i64 1) = .returned (.int .i64 ((giveE T f l : Nat) : Int)) by rw [hge]; rfl)
        clear hge hin hb1 hcs
        generalize l[k] = z at *
        by_cases hz0 : z < 0
        · clear hz
          go_wp2_with fail
          go_ret
          exact ⟨HE.out, rfl⟩
        · have hz1 : (T : Int) ≤ z := by omega
          clear hz
          go_wp2_with fail
          go_ret
          exact ⟨HE.out, rfl⟩
      · obtain ⟨z, hzz⟩ : ∃ z : Nat, l[k] = (z : Int) := ⟨l[k].toNat, by omega⟩
        rw [hzz] at hc hz
        have hzT : z < T := by omega
        obtain ⟨ba, offa, rfl, hbla, _, hca⟩ := HA.out.pick (k := z) (by rw [bls_length]; exact hzT)
        rw [bls_get _ _ _ hzT] at hca
        have z1 : ¬ ((z : Nat) : Int) < 0 := by omega
        have z2 : ¬ (T : Int) ≤ ((z : Nat) : Int) := by omega
        have z3 : ((z : Nat) : Int) < (T : Int) := by omega
        by_cases hu : f z = true
        · have hbad : badAt T f l k l[k] = if l[k] ∈ l.take k then 6 else 0 := by
            unfold badAt
            rw [if_neg (by rw [hzz]; omega), hzz, Int.toNat_natCast, if_neg (by rw [hu]; simp)]
          rw [hu] at hca
          have HGe := Lib.hid hge
          have HBad := Lib.hid hbad
          have HIn := Lib.hid hin
          have HCs := Lib.hid hcs
          have HZ := Lib.hid hzz
          clear hge hbad hin hcs hzz hu hz
          go_wp2_with fail
          go_loop [33] (fun i => ∃ q : Nat, q ≤ k ∧ i = .int .i64 q ∧ ∀ j (h : j < q) (h2 : j < l.length), l[j] ≠ (z : Int)) (fun i => k - (intOf i).toNat)
          case atStart => exact ⟨0, by omega, rfl, fun j h => by omega⟩
          case round =>
            obtain ⟨q, hq, rfl, hno⟩ := hrel
            have HNo := Lib.hid hno
            clear hno
            by_cases hqk : q < k
            · have hql : q < l.length := by omega
              have hcq := HCs.out q (by rw [intL_length]; exact hql)
              rw [List.getElem?_eq_getElem (by rw [intL_length]; exact hql), intL_get l q hql] at hcq
              have q1 : (0 : Int) ≤ (q : Int) := by omega
              have q2 : (q : Int) < (k : Int) := by omega
              by_cases he : l[q] = (z : Int)
              · have hmem : l[k] ∈ l.take k := by
                  rw [HZ.out, ← he]
                  exact List.mem_take_iff_getElem.2 ⟨q, by omega, rfl⟩
                have hbad := HBad.out
                rw [if_pos hmem] at hbad
                have hge := HGe.out
                rw [hbad, if_neg (by omega)] at hge
                have HE := Lib.hid (show Ending.returned (.int .i64 6) = .returned (.int .i64 ((giveE T f l : Nat) : Int)) by rw [hge]; rfl)
                have he' : (l[q] == (z : Int)) = true := by rw [beq_iff_eq]; exact he
                clear he hmem hbad hge
                generalize l[q] = y at *
                go_wp2_with fail
                go_ret
                exact ⟨HE.out, rfl⟩
              · have he' : (l[q] == (z : Int)) = false := by rw [beq_eq_false_iff_ne]; exact he
                have HNx := Lib.hid (show ∀ j (h : j < q + 1) (h2 : j < l.length), l[j] ≠ (z : Int) from fun j h h2 => by
                  by_cases e : j = q
                  · subst e; exact he
                  · exact HNo.out j (by omega) h2)
                clear he
                generalize l[q] = y at *
                go_wp2_with fail
                go_round
                case rel => exact ⟨q + 1, by omega, by go_num, HNx.out⟩
                case measure => simp [intOf]; omega
            · obtain rfl : q = k := by omega
              have hmem : ¬ l[q] ∈ l.take q := by
                rw [HZ.out]
                intro h
                obtain ⟨j, hj, hjz⟩ := List.mem_take_iff_getElem.1 h
                exact HNo.out j (by omega) (by omega) hjz
              have hbad := HBad.out
              rw [if_neg hmem] at hbad
              have hge := HGe.out
              rw [hbad, if_pos rfl] at hge
              have HE := Lib.hid hge
              have HIn2 := Lib.hid (show ∀ b ∈ l.take (q + 1), 0 ≤ b ∧ b < (T : Int) from fun b hb => by
                rw [List.take_succ_eq_append_getElem hkl] at hb
                rcases List.mem_append.1 hb with hb | hb
                · exact HIn.out b hb
                · rw [List.mem_singleton] at hb
                  rw [hb, HZ.out]
                  omega)
              clear hmem hbad hge
              go_wp2_with fail
              go_round
              case rel => exact ⟨q + 1, by omega, by go_num, HE.out, HIn2.out⟩
              case measure => simp [intOf]; omega
        · have hu' : f z = false := by simpa using hu
          have hb1 : badAt T f l k l[k] = 6 := by
            unfold badAt
            rw [if_neg (by rw [hzz]; omega), hzz, Int.toNat_natCast, if_pos hu']
          rw [hb1, if_neg (by omega)] at hge
          rw [hu'] at hca
          have HE := Lib.hid (show Ending.returned (.int .i64 6) = .returned (.int .i64 ((giveE T f l : Nat) : Int)) by rw [hge]; rfl)
          clear hge hin hb1 hcs hzz hu hu' hz
          go_wp2_with fail
          go_ret
          exact ⟨HE.out, rfl⟩
    · obtain rfl : k = m := by omega
      have hd : l.drop k = [] := List.drop_eq_nil_of_le (by rw [← HM.out]; omega)
      rw [hd] at hge
      have HE := Lib.hid (show Ending.returned (.int .i64 0) = .returned (.int .i64 ((giveE T f l : Nat) : Int)) by rw [hge]; rfl)
      clear hge hin hd
      go_wp2_with fail
      go_ret
      exact ⟨HE.out, rfl⟩
end Go.Proofs.Ytpkajmgfechhhaa
