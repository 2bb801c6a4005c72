/- Pieces of another text, as many, of another sum. Condition: the table of the cyclic sum is laid. -/
import Derived.Test.YthjbkgappjpanaaDoorSMixM
namespace Go.Proofs.YthjbkgappjpanaaDoor
open Go.RowKit

set_option maxRecDepth 100000 in
set_option maxHeartbeats 2000000 in
theorem mixed_sum (a b : ByteArray) (z : Int) (w : World) (hz : z ≤ 9223372036854775807) (hs : a.size ≤ 140737488355328) (hs' : b.size ≤ 140737488355328) (hT : Tab w) (ha : errN a z = 0) (hb0 : errN b z = 0) (hst0 : totalN b.size z.toNat = totalN a.size z.toNat) (hsm0 : sumN b ≠ sumN a) :
    Calls Tryd.prog 7 #[.string a, .string b, .int .i64 z] w fun e w' => e = .returned (.bool true) ∧ Below w.heap.size w w' := by
  have C1 := Lib.hid (split_any a z w hz hs hT)
  have HT := Lib.hid hT
  clear hT
  go_enter Tryd.func7, Tryd.ntmps7
  go_wp2_with fail
  refine C1.out.mono ?_
  rintro e w1 ⟨hb, h⟩
  have HB := Lib.hid hb
  have C2 := Lib.hid (split_any b z w1 hz hs' (HT.out.below hb))
  clear C1
  rcases h with ⟨hn, rfl⟩ | ⟨_, zn, A, c, rfl, hz1, hs4, ht1, rfl, ho⟩
  · omega
  · obtain ⟨gl, rfl, hg, hlt, hc⟩ := pcs_at ho (total_pos _ _)
    have hTc := own_le ho
    obtain ⟨T, hTT⟩ : ∃ T, T = totalN a.size zn := ⟨_, rfl⟩
    rw [← hTT] at hc ht1 hTc ⊢
    have hT0 : 0 < T := by rw [hTT]; exact total_pos _ _
    have HTT := Lib.hid hTT
    have HC := Lib.hid hc
    clear hTT hb ho hc
    go_wp2_with fail
    refine C2.out.mono ?_
    rintro e w2 ⟨hb2, h2⟩
    have HB2 := Lib.hid (below_step HB.out hb2)
    have HC1 := Lib.hid (fun i j hi hj => (hb2.cell (p := ⟨gl, i * 4 + j, none⟩) hlt).trans (HC.out i j hi hj))
    have hlt2 : gl < w2.heap.size := Nat.lt_of_lt_of_le hlt hb2.size
    have HB12 := Lib.hid hb2
    clear C2 HC
    rcases h2 with ⟨hn, rfl⟩ | ⟨_, zn', A', c', hzz, _, hs4', ht1', rfl, ho⟩
    · omega
    · obtain rfl : zn = zn' := by omega
      obtain ⟨gm, rfl, hgm, hltm, hcm⟩ := pcs_at ho (total_pos _ _)
      obtain ⟨S, hSS⟩ : ∃ S, S = totalN b.size zn := ⟨_, rfl⟩
      rw [← hSS] at hcm ht1' ⊢
      have hS0 : 0 < S := by rw [hSS]; exact total_pos _ _
      have HCM := Lib.hid hcm
      rw [Int.toNat_natCast] at hst0
      have HEQ := Lib.hid (show S = T by have := HTT.out; rw [hSS, this, hst0])
      have HUN := Lib.hid hsm0
      clear hst0 hsm0
      clear hSS hzz ho hcm hb2 ha hb0
      have hT1 : ((T : Int) == 0) = false := by simp; omega
      have hS1 : ((S : Int) == 0) = false := by simp; omega
      have hzb := zero_box
      obtain ⟨w3, hw3⟩ : ∃ w3, w3 = w2.alloc (.cells zBx 38) := ⟨_, rfl⟩
      obtain ⟨g, hgg⟩ : ∃ g, g = w2.heap.size := ⟨_, rfl⟩
      have HB3 := Lib.hid (show Below w.heap.size w w3 by rw [hw3]; exact HB2.out.alloc HB2.out.size _)
      have HB23 := Lib.hid (show Below w2.heap.size w2 w3 by rw [hw3]; exact (Below.refl _ _).alloc (Nat.le_refl _) _)
      have BX := Lib.hid (show Bx w3 g (bxC 0 0 (fun _ => false) (fun _ => ⟨#[]⟩)) by rw [hw3, hgg]; exact bx_new w2)
      have hglg : gl ≠ g := by omega
      have hgmg : gm ≠ g := by omega
      have hgw : w.heap.size ≤ g := by have := HB2.out.size; omega
      have hl3 : gl < w3.heap.size := Nat.lt_of_lt_of_le hlt2 HB23.out.size
      have hm3 : gm < w3.heap.size := Nat.lt_of_lt_of_le hltm HB23.out.size
      have HL := Lib.hid (fun i j hi hj => (HB23.out.cell (p := ⟨gl, i * 4 + j, none⟩) hlt2).trans (HC1.out i j hi hj))
      have HM := Lib.hid (fun i j hi hj => (HB23.out.cell (p := ⟨gm, i * 4 + j, none⟩) hltm).trans (HCM.out i j hi hj))
      have q0 : w3.cell? ⟨gl, 0, none⟩ = some (.int .i64 0) := HL.out 0 0 hT0 (by decide)
      have q1 : w3.cell? ⟨gl, 1, none⟩ = some (.int .i64 (T : Int)) := HL.out 0 1 hT0 (by decide)
      have q2 : w3.cell? ⟨gl, 2, none⟩ = some (.int .u32 ((sumN a : Nat) : Int)) := HL.out 0 2 hT0 (by decide)
      have q3 : w3.cell? ⟨gl, 3, none⟩ = some (.string (cutS a zn 0)) := HL.out 0 3 hT0 (by decide)
      have i0 : (0 : Int) < (T : Int) := by omega
      have CF := Lib.hid (bs_first g a zn T w3 hs4 BX.out ht1 hT0)
      have HW3 := Lib.hid hw3
      have HGG := Lib.hid hgg
      clear hw3 hgg hg hgm HC1 HCM hlt hlt2 hltm
      go_upto_region 6 with fail
      rw [← HW3.out, ← HGG.out]
      go_wp2_with fail
      refine CF.out.mono ?_
      rintro e w4 ⟨⟨b1, rfl⟩, hbs, ho⟩
      have BS := Lib.hid hbs
      have HO := Lib.hid ho
      have hl4 : gl < w4.heap.size := Nat.lt_of_lt_of_le hl3 ho.size
      have hm4 : gm < w4.heap.size := Nat.lt_of_lt_of_le hm3 ho.size
      have HL4 := Lib.hid (fun i j hi hj => (ho.cell (i := i * 4 + j) hl3 hglg).trans (HL.out i j hi hj))
      have HM4 := Lib.hid (fun i j hi hj => (ho.cell (i := i * 4 + j) hm3 hgmg).trans (HM.out i j hi hj))
      have HB4 := Lib.hid (ho.below HB3.out hgw HB3.out.size)
      clear hbs ho q0 q1 q2 q3 HL HM CF BX HW3 HGG hzb
      go_wp2_with fail
      go_loopw [62] (fun i wr => ∃ k : Nat, k ≤ S ∧ i = .int .i64 k ∧ Bs wr g a zn T (updT (fun _ => false) 0) ∧ Onl g w4 wr) (fun i _ => S - (intOf i).toNat)
      case atStart => exact ⟨0, by omega, rfl, BS.out, Onl.refl _ _⟩
      case round =>
        obtain ⟨k, hk, rfl, hbs, ho⟩ := hrel
        by_cases hkS : k < S
        · have i1 : (k : Int) < (S : Int) := by omega
          have i2 : (0 : Int) ≤ (k : Int) := by omega
          obtain ⟨w6, hw6⟩ : ∃ w6, w6 = wr.alloc (.cells #[.int .i64 (k : Int), .int .i64 (S : Int), .int .u32 ((sumN b : Nat) : Int), .string (cutS b zn k)] 32) := ⟨_, rfl⟩
          obtain ⟨p, hpp⟩ : ∃ p, p = wr.heap.size := ⟨_, rfl⟩
          have HB56 := Lib.hid (show Below wr.heap.size wr w6 by rw [hw6]; exact (Below.refl _ _).alloc (Nat.le_refl _) _)
          have X6 : Bk w6 p 32 #[.int .i64 (k : Int), .int .i64 (S : Int), .int .u32 ((sumN b : Nat) : Int), .string (cutS b zn k)] := by rw [hw6, hpp]; exact Bk.new wr _ _
          have y0 := X6.cell 0
          have y1 := X6.cell 1
          have y2 := X6.cell 2
          have y3 := X6.cell 3
          simp only [List.getElem?_toArray, List.getElem?_cons_zero, List.getElem?_cons_succ] at y0 y1 y2 y3
          have hp6 := X6.lt
          have HO6 := Lib.hid (ho.trans (Onl.of_below HB56.out))
          have p0 : wr.cell? ⟨gm, k * 4, none⟩ = some (.int .i64 (k : Int)) := (ho.cell (i := k * 4) hm4 hgmg).trans (HM4.out k 0 hkS (by decide))
          have p1 : wr.cell? ⟨gm, k * 4 + 1, none⟩ = some (.int .i64 (S : Int)) := (ho.cell (i := k * 4 + 1) hm4 hgmg).trans (HM4.out k 1 hkS (by decide))
          have p2 : wr.cell? ⟨gm, k * 4 + 2, none⟩ = some (.int .u32 ((sumN b : Nat) : Int)) := (ho.cell (i := k * 4 + 2) hm4 hgmg).trans (HM4.out k 2 hkS (by decide))
          have p3 : wr.cell? ⟨gm, k * 4 + 3, none⟩ = some (.string (cutS b zn k)) := (ho.cell (i := k * 4 + 3) hm4 hgmg).trans (HM4.out k 3 hkS (by decide))
          have HW6 := Lib.hid hw6
          have HPP := Lib.hid hpp
          clear hw6 hpp X6
          have CT := Lib.hid (bs_other g a zn T (updT (fun _ => false) 0) k S (sumN b) (cutS b zn k) w6 (hbs.bel HB56.out) rfl hT0 (.inr HUN.out) (by omega) ht1' hkS (cut_le b zn k hs4'))
          have HBS := Lib.hid (hbs.bel HB56.out)
          have l2 := (HO6.out.cell (i := 2) hl4 hglg).trans (HL4.out 0 2 hT0 (by decide))
          clear hbs ho
          go_upto_region 12 with fail
          rw [← HW6.out, ← HPP.out]
          go_wp2_with fail
          refine CT.out.mono ?_
          rintro e w7 ⟨rfl, hb7⟩
          have HBS7 := Lib.hid (HBS.out.bel hb7)
          have HO7 := Lib.hid (HO6.out.trans (Onl.of_below hb7))
          have z2 := (hb7.cell (p := ⟨p, 2, none⟩) hp6).trans y2
          have l2' := (hb7.cell (p := ⟨gl, 2, none⟩) (Nat.lt_of_lt_of_le hl4 HO6.out.size)).trans l2
          clear hb7 CT HBS HO6 y0 y1 y2 y3 l2 HB56
          simp only [pcV, List.getElem?_cons_zero, List.getElem?_cons_succ] at l2'
          go_wp2_with fail
          have hst : ((S : Int) != (T : Int)) = false := by rw [HEQ.out]; simp
          have hsm : (((sumN b : Nat) : Int) != ((sumN a : Nat) : Int)) = true := by rw [bne_iff_ne]; have := HUN.out; omega
          skip
          go_quiet (fail)
          have HBS8 := Lib.hid (HBS7.out.bel (below_drewN (Below.refl _ _) nq))
          have HO8 := Lib.hid (HO7.out.drewN nq)
          go_wp2_with fail
          exact ⟨⟨k + 1, by omega, by go_num, HBS8.out, HO8.out⟩, by simp [intOf]; omega⟩
        · obtain rfl : k = S := by omega
          have HBS5 := Lib.hid hbs
          have HO5 := Lib.hid ho
          have l2 := (ho.cell (i := 2) hl4 hglg).trans (HL4.out 0 2 hT0 (by decide))
          have m2 := (ho.cell (i := 2) hm4 hgmg).trans (HM4.out 0 2 hS0 (by decide))
          simp only [pcV, List.getElem?_cons_zero, List.getElem?_cons_succ] at l2 m2
          have hTc1 : (1 : Int) ≤ (T : Int) := by omega
          have hTc2 : (1 : Int) ≤ (c : Int) := by omega
          clear hbs ho
          go_wp2_with fail
          have hst : ((k : Int) == (T : Int)) = true := by rw [HEQ.out]; simp
          have hsm : (((sumN b : Nat) : Int) == ((sumN a : Nat) : Int)) = false := by rw [beq_eq_false_iff_ne]; have := HUN.out; omega
          skip
          go_quiet (fail)
          have HBS6 := Lib.hid (HBS5.out.bel (below_drewN (Below.refl _ _) nq))
          have HO6 := Lib.hid (HO5.out.drewN nq)
          clear HBS5 HO5 l2 m2
          generalize wr.drewN nq = w8 at *
          obtain ⟨T1, hT9⟩ : ∃ T1, T1 = T - 1 := ⟨_, rfl⟩
          have HT9 := Lib.hid hT9
          have hT9b : T1 ≤ 100 := by omega
          clear hT9
          by_cases hc9 : c = 1
          · go_wp2_with fail
            rw [← HT9.out]
            go_loopw [110] (fun i wr => ∃ j : Nat, j ≤ T1 ∧ i = .int .i64 j ∧ (∃ th, Bs wr g a zn T th ∧ ∀ i, i < j + 1 → th i = true) ∧ Onl g w8 wr) (fun i _ => T1 - (intOf i).toNat)
            case atStart => exact ⟨0, by omega, rfl, ⟨_, HBS6.out, fun i hi => by rw [Nat.lt_one_iff.1 hi]; rfl⟩, Onl.refl _ _⟩
            case round =>
              obtain ⟨j, hj, rfl, ⟨th, hbs, hall⟩, ho⟩ := hrel
              by_cases hjT : j < T1
              · exfalso
                have := HT9.out
                omega
              · obtain rfl : j = T1 := by omega
                have hjI : ¬ (j : Int) < (j : Int) := by omega
                have hbel : Below w.heap.size w wr := (HO6.out.trans ho).below HB4.out hgw HB4.out.size
                have CX := Lib.hid (bs_text g a zn T th wr hz1 hs4 hbs ht1 HTT.out (fun i hi => hall i (by have := HT9.out; omega)) (HT.out.below hbel))
                have HBEL := Lib.hid hbel
                clear hbs hall ho hbel
                go_wp2_with fail
                refine CX.out.mono ?_
                rintro e w9 ⟨rfl, hb9⟩
                have CA := Lib.hid (awake_any w9 (HT.out.below (HBEL.out.trans (hb9.mono HBEL.out.size))))
                have HB10 := Lib.hid (below_step HBEL.out hb9)
                clear hb9 CX
                go_wp2_with fail
                refine CA.out.mono ?_
                rintro e w10 ⟨rfl, hb10⟩
                have HB11 := Lib.hid (below_step HB10.out hb10)
                clear hb10 CA
                go_wp2_with fail
                go_ret
                exact ⟨rfl, HB11.out⟩
          · go_wp2_with fail
            rw [← HT9.out]
            go_loopw [110] (fun i wr => ∃ j : Nat, j ≤ T1 ∧ i = .int .i64 j ∧ (∃ th, Bs wr g a zn T th ∧ ∀ i, i < j + 1 → th i = true) ∧ Onl g w8 wr) (fun i _ => T1 - (intOf i).toNat)
            case atStart => exact ⟨0, by omega, rfl, ⟨_, HBS6.out, fun i hi => by rw [Nat.lt_one_iff.1 hi]; rfl⟩, Onl.refl _ _⟩
            case round =>
              obtain ⟨j, hj, rfl, ⟨th, hbs, hall⟩, ho⟩ := hrel
              by_cases hjT : j < T1
              · have hjI : (j : Int) < (T1 : Int) := by omega
                have i2 : (0 : Int) ≤ (j : Int) := by omega
                have hk : j + 1 < T := by have := HT9.out; omega
                obtain ⟨w6, hw6⟩ : ∃ w6, w6 = wr.alloc (.cells #[.int .i64 ((j + 1 : Nat) : Int), .int .i64 (T : Int), .int .u32 ((sumN a : Nat) : Int), .string (cutS a zn (j + 1))] 32) := ⟨_, rfl⟩
                obtain ⟨p, hpp⟩ : ∃ p, p = wr.heap.size := ⟨_, rfl⟩
                have HB56 := Lib.hid (show Below wr.heap.size wr w6 by rw [hw6]; exact (Below.refl _ _).alloc (Nat.le_refl _) _)
                have X6 : Bk w6 p 32 #[.int .i64 ((j + 1 : Nat) : Int), .int .i64 (T : Int), .int .u32 ((sumN a : Nat) : Int), .string (cutS a zn (j + 1))] := by rw [hw6, hpp]; exact Bk.new wr _ _
                have y0 := X6.cell 0
                have y1 := X6.cell 1
                have y2 := X6.cell 2
                have y3 := X6.cell 3
                simp only [List.getElem?_toArray, List.getElem?_cons_zero, List.getElem?_cons_succ] at y0 y1 y2 y3
                have HO68 := Lib.hid (HO6.out.trans ho)
                have p0 : wr.cell? ⟨gl, 4 + j * 4, none⟩ = some (.int .i64 ((j + 1 : Nat) : Int)) := by
                  have := (HO68.out.cell (i := (j + 1) * 4) hl4 hglg).trans (HL4.out (j + 1) 0 hk (by decide))
                  rwa [show (j + 1) * 4 = 4 + j * 4 by omega] at this
                have p1 : wr.cell? ⟨gl, 4 + j * 4 + 1, none⟩ = some (.int .i64 (T : Int)) := by
                  have := (HO68.out.cell (i := (j + 1) * 4 + 1) hl4 hglg).trans (HL4.out (j + 1) 1 hk (by decide))
                  rwa [show (j + 1) * 4 = 4 + j * 4 by omega] at this
                have p2 : wr.cell? ⟨gl, 4 + j * 4 + 2, none⟩ = some (.int .u32 ((sumN a : Nat) : Int)) := by
                  have := (HO68.out.cell (i := (j + 1) * 4 + 2) hl4 hglg).trans (HL4.out (j + 1) 2 hk (by decide))
                  rwa [show (j + 1) * 4 = 4 + j * 4 by omega] at this
                have p3 : wr.cell? ⟨gl, 4 + j * 4 + 3, none⟩ = some (.string (cutS a zn (j + 1))) := by
                  have := (HO68.out.cell (i := (j + 1) * 4 + 3) hl4 hglg).trans (HL4.out (j + 1) 3 hk (by decide))
                  rwa [show (j + 1) * 4 = 4 + j * 4 by omega] at this
                have CT := Lib.hid (bs_take g a zn T (j + 1) th w6 hs4 (hbs.bel HB56.out) ht1 hk)
                have HALL := Lib.hid (show ∀ i, i < j + 1 + 1 → updT th (j + 1) i = true from fun i h1 => by
                  unfold updT
                  by_cases e : i = j + 1
                  · rw [if_pos e]
                  · rw [if_neg e]; exact hall i (by omega))
                have HO7 := Lib.hid (ho.trans (Onl.of_below HB56.out))
                have HW6 := Lib.hid hw6
                have HPP := Lib.hid hpp
                obtain ⟨J, hJ⟩ : ∃ J, J = ((j + 1 : Nat) : Int) := ⟨_, rfl⟩
                rw [← hJ] at p0 y0 CT HW6
                have HJ := Lib.hid hJ
                clear hw6 hpp hbs hall ho hk X6 hJ
                go_upto_region 21 with fail
                rw [← HW6.out, ← HPP.out]
                go_wp2_with fail
                refine CT.out.mono ?_
                rintro e w9 ⟨⟨bb, rr, rfl⟩, hbs9, ho9⟩
                have HBS9 := Lib.hid hbs9
                have HO9 := Lib.hid (HO7.out.trans ho9)
                clear hbs9 ho9
                go_wp2_with fail
                exact ⟨⟨j + 1, by omega, by go_num, ⟨_, HBS9.out, HALL.out⟩, HO9.out⟩, by simp [intOf]; omega⟩
              · obtain rfl : j = T1 := by omega
                have hjI : ¬ (j : Int) < (j : Int) := by omega
                have hbel : Below w.heap.size w wr := (HO6.out.trans ho).below HB4.out hgw HB4.out.size
                have CX := Lib.hid (bs_text g a zn T th wr hz1 hs4 hbs ht1 HTT.out (fun i hi => hall i (by have := HT9.out; omega)) (HT.out.below hbel))
                have HBEL := Lib.hid hbel
                clear hbs hall ho hbel
                go_wp2_with fail
                refine CX.out.mono ?_
                rintro e w9 ⟨rfl, hb9⟩
                have CA := Lib.hid (awake_any w9 (HT.out.below (HBEL.out.trans (hb9.mono HBEL.out.size))))
                have HB10 := Lib.hid (below_step HBEL.out hb9)
                clear hb9 CX
                go_wp2_with fail
                refine CA.out.mono ?_
                rintro e w10 ⟨rfl, hb10⟩
                have HB11 := Lib.hid (below_step HB10.out hb10)
                clear hb10 CA
                go_wp2_with fail
                go_ret
                exact ⟨rfl, HB11.out⟩
end Go.Proofs.YthjbkgappjpanaaDoor
