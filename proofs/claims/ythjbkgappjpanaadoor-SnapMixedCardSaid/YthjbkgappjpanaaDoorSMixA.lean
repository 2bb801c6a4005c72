/- Pieces of another text, as many and of the same sum. Condition: the table of the cyclic sum is laid. -/
import Derived.Test.YthjbkgappjpanaaDoorSMixM
namespace Go.Proofs.YthjbkgappjpanaaDoor
open Go.RowKit

set_option maxRecDepth 100000 in
set_option maxHeartbeats 2000000 in
theorem mixed_like (a b : ByteArray) (z : Int) (w : World) (hz : z ≤ 9223372036854775807) (hs : a.size ≤ 140737488355328) (hs' : b.size ≤ 140737488355328) (hT : Tab w) (ha : errN a z = 0) (hb0 : errN b z = 0) (hst0 : totalN b.size z.toNat = totalN a.size z.toNat) (hsm0 : sumN b = sumN a) :
    Calls Tryd.prog 7 #[.string a, .string b, .int .i64 z] w fun e w' => e = .returned (.bool true) ∧ Below w.heap.size w w' := by
  have C1 := Lib.hid (split_any a z w hz hs hT)
  have HT := Lib.hid hT
  clear hT
  go_enter Tryd.func7, Tryd.ntmps7
  go_wp2_with fail
  refine C1.out.mono ?_
  rintro e w1 ⟨hb, h⟩
  have HB := Lib.hid hb
  have C2 := Lib.hid (split_any b z w1 hz hs' (HT.out.below hb))
  clear C1
  rcases h with ⟨hn, rfl⟩ | ⟨_, zn, A, c, rfl, hz1, hs4, ht1, rfl, ho⟩
  · omega
  · obtain ⟨gl, rfl, hg, hlt, hc⟩ := pcs_at ho (total_pos _ _)
    have hTc := own_le ho
    obtain ⟨T, hTT⟩ : ∃ T, T = totalN a.size zn := ⟨_, rfl⟩
    rw [← hTT] at hc ht1 hTc ⊢
    have hT0 : 0 < T := by rw [hTT]; exact total_pos _ _
    have HTT := Lib.hid hTT
    have HC := Lib.hid hc
    clear hTT hb ho hc
    go_wp2_with fail
    refine C2.out.mono ?_
    rintro e w2 ⟨hb2, h2⟩
    have HB2 := Lib.hid (below_step HB.out hb2)
    have HC1 := Lib.hid (fun i j hi hj => (hb2.cell (p := ⟨gl, i * 4 + j, none⟩) hlt).trans (HC.out i j hi hj))
    have hlt2 : gl < w2.heap.size := Nat.lt_of_lt_of_le hlt hb2.size
    have HB12 := Lib.hid hb2
    clear C2 HC
    rcases h2 with ⟨hn, rfl⟩ | ⟨_, zn', A', c', hzz, _, hs4', ht1', rfl, ho⟩
    · omega
    · obtain rfl : zn = zn' := by omega
      obtain ⟨gm, rfl, hgm, hltm, hcm⟩ := pcs_at ho (total_pos _ _)
      obtain ⟨S, hSS⟩ : ∃ S, S = totalN b.size zn := ⟨_, rfl⟩
      rw [← hSS] at hcm ht1' ⊢
      have hS0 : 0 < S := by rw [hSS]; exact total_pos _ _
      have HCM := Lib.hid hcm
      rw [Int.toNat_natCast] at hst0
      have HEQ := Lib.hid (show S = T by have := HTT.out; rw [hSS, this, hst0])
      have HSM := Lib.hid hsm0
      clear hst0 hsm0
      clear hSS hzz ho hcm hb2 ha hb0
      have hT1 : ((T : Int) == 0) = false := by simp; omega
      have hS1 : ((S : Int) == 0) = false := by simp; omega
      have hzb := zero_box
      obtain ⟨w3, hw3⟩ : ∃ w3, w3 = w2.alloc (.cells zBx 38) := ⟨_, rfl⟩
      obtain ⟨g, hgg⟩ : ∃ g, g = w2.heap.size := ⟨_, rfl⟩
      have HB3 := Lib.hid (show Below w.heap.size w w3 by rw [hw3]; exact HB2.out.alloc HB2.out.size _)
      have HB23 := Lib.hid (show Below w2.heap.size w2 w3 by rw [hw3]; exact (Below.refl _ _).alloc (Nat.le_refl _) _)
      have BX := Lib.hid (show Bx w3 g (bxC 0 0 (fun _ => false) (fun _ => ⟨#[]⟩)) by rw [hw3, hgg]; exact bx_new w2)
      have hglg : gl ≠ g := by omega
      have hgmg : gm ≠ g := by omega
      have hgw : w.heap.size ≤ g := by have := HB2.out.size; omega
      have hl3 : gl < w3.heap.size := Nat.lt_of_lt_of_le hlt2 HB23.out.size
      have hm3 : gm < w3.heap.size := Nat.lt_of_lt_of_le hltm HB23.out.size
      have HL := Lib.hid (fun i j hi hj => (HB23.out.cell (p := ⟨gl, i * 4 + j, none⟩) hlt2).trans (HC1.out i j hi hj))
      have HM := Lib.hid (fun i j hi hj => (HB23.out.cell (p := ⟨gm, i * 4 + j, none⟩) hltm).trans (HCM.out i j hi hj))
      have q0 : w3.cell? ⟨gl, 0, none⟩ = some (.int .i64 0) := HL.out 0 0 hT0 (by decide)
      have q1 : w3.cell? ⟨gl, 1, none⟩ = some (.int .i64 (T : Int)) := HL.out 0 1 hT0 (by decide)
      have q2 : w3.cell? ⟨gl, 2, none⟩ = some (.int .u32 ((sumN a : Nat) : Int)) := HL.out 0 2 hT0 (by decide)
      have q3 : w3.cell? ⟨gl, 3, none⟩ = some (.string (cutS a zn 0)) := HL.out 0 3 hT0 (by decide)
      have i0 : (0 : Int) < (T : Int) := by omega
      have CF := Lib.hid (bs_first g a zn T w3 hs4 BX.out ht1 hT0)
      have HW3 := Lib.hid hw3
      have HGG := Lib.hid hgg
      clear hw3 hgg hg hgm HC1 HCM hlt hlt2 hltm
      go_upto_region 6 with fail
      rw [← HW3.out, ← HGG.out]
      go_wp2_with fail
      refine CF.out.mono ?_
      rintro e w4 ⟨⟨b1, rfl⟩, hbs, ho⟩
      have BS := Lib.hid hbs
      have HO := Lib.hid ho
      have hl4 : gl < w4.heap.size := Nat.lt_of_lt_of_le hl3 ho.size
      have hm4 : gm < w4.heap.size := Nat.lt_of_lt_of_le hm3 ho.size
      have HL4 := Lib.hid (fun i j hi hj => (ho.cell (i := i * 4 + j) hl3 hglg).trans (HL.out i j hi hj))
      have HM4 := Lib.hid (fun i j hi hj => (ho.cell (i := i * 4 + j) hm3 hgmg).trans (HM.out i j hi hj))
      have HB4 := Lib.hid (ho.below HB3.out hgw HB3.out.size)
      clear hbs ho q0 q1 q2 q3 HL HM CF BX HW3 HGG hzb
      go_wp2_with fail
      go_loopw [62] (fun i wr => ∃ k : Nat, k ≤ S ∧ i = .int .i64 k ∧ Bg wr g ∧ Onl g w4 wr) (fun i _ => S - (intOf i).toNat)
      case atStart => exact ⟨0, by omega, rfl, BS.out.imp fun T h => h.imp fun sm h => ⟨_, h.imp fun dt h => h.1⟩, Onl.refl _ _⟩
      case round =>
        obtain ⟨k, hk, rfl, hbs, ho⟩ := hrel
        by_cases hkS : k < S
        · have i1 : (k : Int) < (S : Int) := by omega
          have i2 : (0 : Int) ≤ (k : Int) := by omega
          obtain ⟨w6, hw6⟩ : ∃ w6, w6 = wr.alloc (.cells #[.int .i64 (k : Int), .int .i64 (S : Int), .int .u32 ((sumN b : Nat) : Int), .string (cutS b zn k)] 32) := ⟨_, rfl⟩
          obtain ⟨p, hpp⟩ : ∃ p, p = wr.heap.size := ⟨_, rfl⟩
          have HB56 := Lib.hid (show Below wr.heap.size wr w6 by rw [hw6]; exact (Below.refl _ _).alloc (Nat.le_refl _) _)
          have X6 : Bk w6 p 32 #[.int .i64 (k : Int), .int .i64 (S : Int), .int .u32 ((sumN b : Nat) : Int), .string (cutS b zn k)] := by rw [hw6, hpp]; exact Bk.new wr _ _
          have y0 := X6.cell 0
          have y1 := X6.cell 1
          have y2 := X6.cell 2
          have y3 := X6.cell 3
          simp only [List.getElem?_toArray, List.getElem?_cons_zero, List.getElem?_cons_succ] at y0 y1 y2 y3
          have hp6 := X6.lt
          have HG6 := Lib.hid (Nat.lt_of_lt_of_le (show g < w4.heap.size from BS.out.lt) ho.size)
          have HO6 := Lib.hid (ho.trans (Onl.of_below HB56.out))
          have p0 : wr.cell? ⟨gm, k * 4, none⟩ = some (.int .i64 (k : Int)) := (ho.cell (i := k * 4) hm4 hgmg).trans (HM4.out k 0 hkS (by decide))
          have p1 : wr.cell? ⟨gm, k * 4 + 1, none⟩ = some (.int .i64 (S : Int)) := (ho.cell (i := k * 4 + 1) hm4 hgmg).trans (HM4.out k 1 hkS (by decide))
          have p2 : wr.cell? ⟨gm, k * 4 + 2, none⟩ = some (.int .u32 ((sumN b : Nat) : Int)) := (ho.cell (i := k * 4 + 2) hm4 hgmg).trans (HM4.out k 2 hkS (by decide))
          have p3 : wr.cell? ⟨gm, k * 4 + 3, none⟩ = some (.string (cutS b zn k)) := (ho.cell (i := k * 4 + 3) hm4 hgmg).trans (HM4.out k 3 hkS (by decide))
          have HW6 := Lib.hid hw6
          have HPP := Lib.hid hpp
          clear hw6 hpp X6
          have CT := Lib.hid (bg_take g k S (sumN b) (cutS b zn k) w6 (hbs.imp fun T h => h.imp fun sm h => h.imp fun th h => h.imp fun dt h => h.bel HB56.out) (by omega) ht1' hkS (cut_le b zn k hs4'))
          have l2 := (HO6.out.cell (i := 2) hl4 hglg).trans (HL4.out 0 2 hT0 (by decide))
          clear hbs ho
          go_upto_region 12 with fail
          rw [← HW6.out, ← HPP.out]
          go_wp2_with fail
          refine CT.out.mono ?_
          rintro e w7 ⟨⟨bb, rr, rfl⟩, hbg7, ho7⟩
          have HBG7 := Lib.hid hbg7
          have HO7 := Lib.hid (HO6.out.trans ho7)
          have hpg : p ≠ g := by have := HPP.out; have := HG6.out; omega
          have z2 := (ho7.cell (i := 2) hp6 hpg).trans y2
          have l2' := (ho7.cell (i := 2) (Nat.lt_of_lt_of_le hl4 HO6.out.size) hglg).trans l2
          clear hbg7 ho7 CT HO6 y0 y1 y2 y3 l2 HB56
          simp only [pcV, List.getElem?_cons_zero, List.getElem?_cons_succ] at l2'
          have hst : ((S : Int) != (T : Int)) = false := by rw [HEQ.out]; simp
          have hsm : (((sumN b : Nat) : Int) != ((sumN a : Nat) : Int)) = false := by rw [HSM.out]; simp
          go_wp2_with fail
          go_quiet (fail)
          have HBS8 := Lib.hid (show Bg (w7.drewN nq) g from HBG7.out)
          have HO8 := Lib.hid (HO7.out.drewN nq)
          go_wp2_with fail
          exact ⟨⟨k + 1, by omega, by go_num, HBS8.out, HO8.out⟩, by simp [intOf]; omega⟩
        · obtain rfl : k = S := by omega
          have HO5 := Lib.hid ho
          have l2 := (ho.cell (i := 2) hl4 hglg).trans (HL4.out 0 2 hT0 (by decide))
          have m2 := (ho.cell (i := 2) hm4 hgmg).trans (HM4.out 0 2 hS0 (by decide))
          simp only [pcV, List.getElem?_cons_zero, List.getElem?_cons_succ] at l2 m2
          have hst : ((k : Int) == (T : Int)) = true := by rw [HEQ.out]; simp
          have hsm : (((sumN b : Nat) : Int) == ((sumN a : Nat) : Int)) = true := by rw [HSM.out]; simp
          clear hbs ho
          go_wp2_with fail
          go_quiet (fail)
          have hbel : Below w.heap.size w (wr.drewN nq) := below_drewN (HO5.out.below HB4.out hgw HB4.out.size) nq
          have CA := Lib.hid (awake_any (wr.drewN nq) (HT.out.below hbel))
          have HBEL := Lib.hid hbel
          clear hbel
          go_wp2_with fail
          refine CA.out.mono ?_
          rintro e w9 ⟨rfl, hb9⟩
          have HB9 := Lib.hid (below_step HBEL.out hb9)
          clear hb9
          go_wp2_with fail
          go_ret
          exact ⟨rfl, HB9.out⟩
end Go.Proofs.YthjbkgappjpanaaDoor
