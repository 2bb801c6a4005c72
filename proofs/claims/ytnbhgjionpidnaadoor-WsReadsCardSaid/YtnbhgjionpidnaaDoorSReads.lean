/- WsReads. Conditions: the bytes lie in memory; the tables of UTF-8 are laid. -/
import Derived.Test.YtnbhgjionpidnaaDoorSParse
import Derived.Test.YtnbhgjionpidnaaDoorSReadsM
namespace Go.Proofs.YtnbhgjionpidnaaDoor
open Go.RowKit

set_option maxRecDepth 100000 in
set_option maxHeartbeats 4000000 in
theorem reads_any (A0 : Option Addr) (n0 c0 : Nat) (l0 : List Nat) (mk : Bool) (hn0 : n0 = l0.length) (hc0 : n0 ≤ c0) (hz0 : n0 ≤ 140737488355328) (hl0 : ∀ x ∈ l0, x < 256) (w : World) (hT : Tabs w) (hA0 : Seg w A0 (u8s l0)) :
    Calls Tryd.prog 4 #[.slice A0 n0 c0, .bool mk] w fun e w' => e = .returned (.bool true) ∧ Below w.heap.size w w' := by
  obtain ⟨l, hl⟩ : ∃ l, l = l0.take 6000 := ⟨_, rfl⟩
  have CFW := Lib.hid (show ∀ w', Below w.heap.size w w' → Calls Tryd.prog 17 #[.slice A0 n0 c0] w' fun e w'' => ∃ v, e = .returned v ∧ w''.ownsRow w'.heap.size 5 1 v l.length (u8s l) ∧ Below w'.heap.size w' w'' from fun w' hb => by
    rw [hl]
    exact few_any l0 A0 n0 c0 hn0 hc0 hz0 w' (hA0.bel hb))
  have HL := Lib.hid (show ∀ x ∈ l, x < 256 from fun x hx => hl0 x (List.mem_of_mem_take (by rw [← hl]; exact hx)))
  have hN6 : l.length ≤ 6000 := by rw [hl, List.length_take]; omega
  obtain ⟨n, hn⟩ : ∃ n, n = l.length := ⟨_, rfl⟩
  rw [← hn] at CFW hN6
  have HN := Lib.hid hn
  have HT := Lib.hid hT
  obtain ⟨X, hX⟩ : ∃ X, X = (feedN mk st0 l).1 := ⟨_, rfl⟩
  have HX := Lib.hid hX
  obtain ⟨nx, hnx⟩ : ∃ nx, nx = X.length := ⟨_, rfl⟩
  have hx6 : nx ≤ 6001 := by
    rw [hnx, hX]
    have := feedN_count mk l
    omega
  have HNX := Lib.hid hnx
  clear hn0 hc0 hz0 hl0 hT hA0 hl hn hX hnx
  go_enter Tryd.func4, Tryd.ntmps4
  go_wp2_with fail
  refine (newReader_any mk w).mono ?_
  rintro e w1 ⟨rfl, r1, b1⟩
  obtain ⟨gr, hgr⟩ : ∃ x, x = w.heap.size := ⟨_, rfl⟩
  rw [← hgr] at r1
  rw [← hgr]
  have HR1 := Lib.hid r1
  have HB1 := Lib.hid b1
  have HGR := Lib.hid hgr
  clear r1 b1 hgr
  go_wp2_with fail
  refine (CFW.out w1 HB1.out).mono ?_
  rintro e w2 ⟨v2, rfl, ho2, b2⟩
  obtain ⟨A2, c2, rfl, hc2, hs2, ha2⟩ := own_seg ho2
  have HB2 := Lib.hid (HB1.out.trans (b2.mono HB1.out.size))
  have HR2 := Lib.hid (HR1.out.bel b2)
  have HS2 := Lib.hid hs2
  have HA2 := Lib.hid (show ∀ a, A2 = some a → a.block ≠ gr from fun a e => by have := (ha2 a e).1; have := HR1.out.lt; omega)
  have HC2 := Lib.hid hc2
  clear ho2 b2 hs2 ha2 hc2 HR1
  go_wp2_with fail
  refine (feed_any gr mk st0 0 A2 n c2 l HN.out (by omega) (st0_b _) HL.out w2 ⟨w, HT.out, HB2.out, by rw [HGR.out]; exact Nat.le_refl _⟩ (rds0 HR2.out) HS2.out).mono ?_
  rintro e w3 ⟨k3, v3, rfl, ho3, B3, hr3, _⟩
  rw [← HX.out, ← HNX.out] at ho3
  obtain ⟨A3, c3, rfl, hc3, hs3, _⟩ := own_seg ho3
  have HB3 := Lib.hid (HB2.out.trans (k3.bel.mono (by rw [HGR.out]; exact Nat.le_refl _)))
  have HS3 := Lib.hid (HS2.out.kept k3.kept HA2.out)
  have HR3 := Lib.hid hr3
  have HI3 := Lib.hid hs3
  clear ho3 k3 hr3 hs3 hc3 HS2 HR2 HA2
  go_wp2_with fail
  refine (told_any X A3 nx c3 HNX.out (by omega) w3 HI3.out).mono ?_
  rintro e w4 ⟨v4, rfl, ho4, b4⟩
  obtain ⟨A4, c4, rfl, hc4, hs4, _⟩ := own_seg ho4
  have HB4 := Lib.hid (HB3.out.trans (b4.mono HB3.out.size))
  have HS4 := Lib.hid (HS3.out.bel b4)
  have HR4 := Lib.hid (rds_kept HR3.out b4)
  have HI4 := Lib.hid hs4
  clear ho4 b4 hs4 hc4 HS3 HR3 HI3
  go_wp2_with fail
  refine (CFW.out w4 HB4.out).mono ?_
  rintro e w5 ⟨v5, rfl, ho5, b5⟩
  obtain ⟨A5, c5, rfl, hc5, hs5, _⟩ := own_seg ho5
  have HB5 := Lib.hid (HB4.out.trans (b5.mono HB4.out.size))
  have HS5 := Lib.hid (HS4.out.bel b5)
  have HR5 := Lib.hid (rds_kept HR4.out b5)
  have HI5 := Lib.hid (HI4.out.bel b5)
  have HF5 := Lib.hid hs5
  have HC5 := Lib.hid hc5
  clear ho5 b5 hs5 hc5 HS4 HR4 HI4
  go_wp2_with fail
  refine (rparse_any mk A5 n c5 l HN.out HC5.out (by omega) HL.out w5 HF5.out).mono ?_
  rintro e w6 ⟨v6, rfl, ho6, b6⟩
  rw [← runL_feed, ← HX.out, ← HNX.out] at ho6
  obtain ⟨A6, c6, rfl, hc6, hs6, _⟩ := own_seg ho6
  have HB6 := Lib.hid (HB5.out.trans (b6.mono HB5.out.size))
  have HS6 := Lib.hid (HS5.out.bel b6)
  have HR6 := Lib.hid (rds_kept HR5.out b6)
  have HI6 := Lib.hid (HI5.out.bel b6)
  have HW6 := Lib.hid hs6
  clear ho6 b6 hs6 hc6 HS5 HR5 HI5 HF5 HC5
  obtain ⟨Q, hQ⟩ : ∃ Q, Q = deadB X := ⟨_, rfl⟩
  have HQS := Lib.hid (show (feedN mk st0 l).2.isNone = Q by rw [hQ, HX.out]; exact feedN_dead mk l)
  have HQ := Lib.hid hQ
  clear hQ
  go_upto_region 7 with fail
  go_cut [9] (fun v wx => v = .bool Q ∧ wx = w6)
  case first =>
    by_cases h0 : nx = 0
    · have i0 : ¬ (0 : Int) < (nx : Int) := by omega
      have hq : Q = false := by
        rw [HQ.out]
        have : X = [] := List.eq_nil_of_length_eq_zero (by rw [← HNX.out]; exact h0)
        rw [this]
        rfl
      clear h0
      go_wp2_with fail
      go_meet
      exact ⟨by rw [hq], rfl⟩
    · obtain ⟨m, hm⟩ : ∃ m, nx = m + 1 := ⟨nx - 1, by omega⟩
      have hml : m < X.length := by rw [← HNX.out]; omega
      obtain ⟨b, off, hAe, hbl, q0, q1, q2⟩ := its_at HW6.out hml
      subst hAe
      have i0 : (0 : Int) < (nx : Int) := by omega
      have i1 : (nx : Int) - 1 = (m : Int) := by omega
      have i2 : (m : Int) < (nx : Int) := by omega
      obtain ⟨ik, hik⟩ : ∃ x, x = X[m].kind := ⟨_, rfl⟩
      rw [← hik] at q0
      have hq : Q = decide (ik = 0 ∨ ik = 8) := by
        rw [HQ.out, hik]
        exact deadB_at (by rw [← HNX.out]; omega)
      have HQ2 := Lib.hid hq
      clear hik q1 q2 hq hm hml hbl
      by_cases h1 : ik = 0
      · subst h1
        go_wp2_with fail
        go_meet
        exact ⟨by rw [HQ2.out]; rfl, rfl⟩
      · have i3 : ((ik : Int) == 0) = false := by simpa using h1
        by_cases h8 : ik = 8
        · subst h8
          go_wp2_with fail
          go_meet
          exact ⟨by rw [HQ2.out]; rfl, rfl⟩
        · have i4 : ((ik : Int) == 8) = false := by simp; omega
          have hq : Q = false := by rw [HQ2.out]; exact decide_eq_false (by omega)
          go_wp2_with fail
          go_meet
          exact ⟨by rw [hq], rfl⟩
  case rest =>
    obtain ⟨rfl, hwc⟩ := hcut
    rw [hwc]
    clear hwc
    go_wp2_with fail
    refine (awake_any w6 (HT.out.bel HB6.out)).mono ?_
    rintro e w7 ⟨rfl, b7⟩
    have HB7 := Lib.hid (HB6.out.trans (b7.mono HB6.out.size))
    have HS7 := Lib.hid (HS6.out.bel b7)
    have HR7 := Lib.hid (rds_kept HR6.out b7)
    have HI7 := Lib.hid (HI6.out.bel b7)
    have HW7 := Lib.hid (HW6.out.bel b7)
    clear b7 HS6 HR6 HI6 HW6
    go_wp2_with fail
    refine (isame_any X A4 A6 nx c4 c6 HNX.out (by omega) w7 HI7.out HW7.out).mono ?_
    rintro e w8 ⟨rfl, b8⟩
    have HB8 := Lib.hid (HB7.out.trans (b8.mono HB7.out.size))
    have HS8 := Lib.hid (HS7.out.bel b8)
    have HR8 := Lib.hid (rds_kept HR7.out b8)
    clear b8 HS7 HR7 HI7 HW7
    go_wp2_with fail
    refine (CFW.out w8 HB8.out).mono ?_
    rintro e w9 ⟨v9, rfl, ho9, b9⟩
    obtain ⟨A9, c9, rfl, hc9, hs9, _⟩ := own_seg ho9
    have HB9 := Lib.hid (HB8.out.trans (b9.mono HB8.out.size))
    have HS9 := Lib.hid (HS8.out.bel b9)
    have HR9 := Lib.hid (rds_kept HR8.out b9)
    have HF9 := Lib.hid hs9
    clear ho9 b9 hs9 hc9 HS8 HR8
    go_wp2_with fail
    refine (same_u8 A2 A9 n n c2 c9 l l HN.out HN.out w9 HS9.out HF9.out (by omega) (by omega)).mono ?_
    rintro e wa ⟨rfl, ba⟩
    rw [decide_eq_true (rfl : l = l)]
    have HBa := Lib.hid (HB9.out.trans (ba.mono HB9.out.size))
    have HRa := Lib.hid (rds_kept HR9.out ba)
    clear ba HS9 HR9 HF9
    go_wp2_with fail
    refine (dead_cell gr Q wa (by rw [← HQS.out]; exact rds_cell HRa.out)).mono ?_
    rintro e wb ⟨rfl, hwb⟩
    rw [hwb]
    clear hwb
    cases Q
    · go_wp2_with fail
      go_ret
      exact ⟨rfl, HBa.out⟩
    · obtain ⟨wd, hwd⟩ : ∃ x, x = wa.alloc (.cells #[.int .u8 137, .int .u8 128, .int .u8 0, .int .u8 0, .int .u8 0, .int .u8 0] 5) := ⟨_, rfl⟩
      have bd : Below wa.heap.size wa wd := by rw [hwd]; exact (Below.refl _ _).alloc (Nat.le_refl _) _
      obtain ⟨q, hq⟩ : ∃ x, x = wa.heap.size := ⟨_, rfl⟩
      have HSd := Lib.hid (show Seg wd (some ⟨q, 0, none⟩) (u8s [137, 128, 0, 0, 0, 0]) by
        rw [hwd, hq]
        exact Seg.of_block (heap_alloc_new _ _) (fun i _ => by simp [u8s]))
      have HWd := Lib.hid hwd
      have HQd := Lib.hid hq
      have HBd := Lib.hid (HBa.out.trans (bd.mono HBa.out.size))
      have HRd := Lib.hid (show RdS B3 gr mk none wd by
        have h := rds_kept HRa.out bd
        cases hs : (feedN mk st0 l).2 with
        | none => rw [hs] at h; exact h
        | some q => have := HQS.out; rw [hs] at this; cases this)
      clear hwd bd hq
      go_wp2_with fail
      rw [← HWd.out, ← HQd.out]
      refine (feed_any gr mk none B3 (some ⟨q, 0, none⟩) 6 6 [137, 128, 0, 0, 0, 0] rfl (by decide) (fun k t l e => by cases e) (by decide) wd ⟨w, HT.out, HBd.out, by rw [HGR.out]; exact Nat.le_refl _⟩ HRd.out HSd.out).mono ?_
      rintro e we ⟨ke, ve, rfl, hoe, _⟩
      obtain ⟨Ae, ce, rfl, _, _, _⟩ := own_seg hoe
      have HBe := Lib.hid (HBd.out.trans (ke.bel.mono (by rw [HGR.out]; exact Nat.le_refl _)))
      clear hoe ke
      go_wp2_with fail
      go_ret
      exact ⟨rfl, HBe.out⟩
end Go.Proofs.YtnbhgjionpidnaaDoor
