/- The walk of the reference's base 64 text. Conditions: the bytes lie in memory; the text is short. -/
import Derived.Test.YtnbhgjionpidnaaDoorSBits
import Derived.Test.YtnbhgjionpidnaaDoorSAcc
namespace Go.Proofs.YtnbhgjionpidnaaDoor
open Go.RowKit

theorem txt_appendS (l m : List Nat) : txt (l ++ m) = txt l ++ txt m := by
  unfold txt
  apply ByteArray.ext
  simp
theorem txt_sizeS (l : List Nat) : (txt l).size = l.length := by simp [txt, ByteArray.size]
theorem cut64 (D : Nat) (h : D < 64) : ({ data := #[65, 66, 67, 68, 69, 70, 71, 72, 73, 74, 75, 76, 77, 78, 79, 80, 81, 82, 83, 84, 85, 86, 87, 88, 89, 90, 97, 98, 99, 100, 101, 102, 103, 104, 105, 106, 107, 108, 109, 110, 111, 112, 113, 114, 115, 116, 117, 118, 119, 120, 121, 122, 48, 49, 50, 51, 52, 53, 54, 55, 56, 57, 43, 47] } : ByteArray).extract D (D + 1) = txt [dC D] := by
  revert D; decide +kernel
theorem piece_lt (p : List Nat) : ∀ x ∈ pieceN p, x < 2 := by
  intro x hx
  simp only [pieceN, List.mem_append, List.mem_flatMap] at hx
  rcases hx with ⟨a, _, hx⟩ | hx
  · simp only [bitsN, List.mem_map] at hx
    obtain ⟨i, _, rfl⟩ := hx
    omega
  · rw [List.eq_of_mem_replicate hx]; omega
theorem six_lt (b : List Nat) (hb : ∀ x ∈ b, x < 2) : ∀ r, sixN (b.take r) < 2 ^ r
  | 0 => by simp [sixN]
  | r + 1 => by
    have ih := six_lt b hb r
    by_cases h : r < b.length
    · have e : sixN (b.take (r + 1)) = 2 * sixN (b.take r) + b[r] := by
        unfold sixN; rw [List.take_succ_eq_append_getElem h, List.foldl_append]; rfl
      have := hb _ (List.getElem_mem h)
      rw [e, Nat.pow_succ]; omega
    · rw [List.take_of_length_le (by omega), ← List.take_of_length_le (by omega : b.length ≤ r), Nat.pow_succ]; omega
theorem signs_take (b : List Nat) (q : Nat) (h : q < 4) : (signsN b).take (q + 1) = (signsN b).take q ++ [signN b q] := by
  unfold signsN
  rw [List.take_succ_eq_append_getElem (by simp; exact h)]
  simp
set_option maxRecDepth 100000 in
set_option maxHeartbeats 1000000 in
theorem refb64_any (A : Option Addr) (n c : Nat) (l : List Nat) (hn : n = l.length) (hx : n ≤ 100000) (w : World) (hA : Seg w A (u8s l)) (hl : ∀ x ∈ l, x < 256) :
    Calls Tryd.prog 27 #[.slice A n c] w fun e w' => e = .returned (.string (txt (b64N l))) ∧ Below w.heap.size w w' := by
  obtain ⟨i0, hi0, hz0, hz1, hz2⟩ := info_parts info5
  have HA := Lib.hid hA
  have HL := Lib.hid hl
  have HN := Lib.hid hn
  clear hA hl hn
  go_enter Tryd.func27, Tryd.ntmps27
  go_wp2
  go_loopw [3, 4] (fun v i wr => ∃ (k : Nat) (P : List Nat), 3 * k ≤ n + 2 ∧ i = .int .i64 (3 * (k : Int)) ∧ v = .string (txt P) ∧ P ++ b64N (l.drop (3 * k)) = b64N l ∧ Below w.heap.size w wr) (fun _ i _ => n + 2 - (intOf i).toNat)
  case atStart => exact ⟨0, [], by omega, rfl, rfl, rfl, Below.refl _ _⟩
  case round =>
    obtain ⟨k, P, hk, rfl, rfl, hP, hb⟩ := hrel
    have HP := Lib.hid hP
    have HW := Lib.hid hb
    have hsz := hb.size
    clear hb hP
    by_cases hlt : 3 * k < n
    · have ll : 3 * (k : Int) < (n : Int) := by omega
      go_wp2
      obtain ⟨p, hp⟩ : ∃ p, p = (l.drop (3 * k)).take 3 := ⟨_, rfl⟩
      have hpl : p.length = min 3 (n - 3 * k) := by rw [hp, List.length_take, List.length_drop, HN.out]
      have hget : ∀ m, m < p.length → 3 * k + m < n ∧ l.getD (3 * k + m) 0 = p.getD m 0 := fun m hm => by
        have h3 : m < 3 := by omega
        refine ⟨by omega, ?_⟩
        rw [hp]
        simp [List.getD, h3]
      have HPp := Lib.hid hp
      have HPl := Lib.hid hpl
      have HGet := Lib.hid hget
      have hp3 : p.length ≤ 3 := by omega
      have hp0 : 0 < p.length := by omega
      clear hp hpl hget
      have O0 := Lib.hid (World.ownsRow_lit wr (base := w.heap.size) (e := 5) (size := 1) #[] 0 hsz (by decide) rfl)
      have W0 := Lib.hid (HW.out.alloc hsz (.cells #[] 5))
      clear HW
      go_loopw [5, 6] (fun v jv wq => ∃ m : Nat, m ≤ p.length ∧ jv = .int .i64 (3 * (k : Int) + (m : Int)) ∧ wq.ownsRow w.heap.size 5 1 v (8 * m) (u8s ((p.take m).flatMap bitsN)) ∧ Below w.heap.size w wq) (fun _ jv _ => 3 * k + 3 - (intOf jv).toNat)
      case atStart => exact ⟨0, by omega, by simp, O0.out, W0.out⟩
      case round =>
        obtain ⟨m, hm, rfl, hown, hb⟩ := hrel
        have HO := Lib.hid hown
        have HW := Lib.hid hb
        have hsz1 := hb.size
        obtain ⟨A1, c1, rfl, hc1, _⟩ := own_shape hown
        clear hown hb O0 W0
        by_cases hm1 : m < p.length
        · obtain ⟨hmn, hmx⟩ := HGet.out m hm1
          have j1 : 3 * (k : Int) + (m : Int) < 3 * (k : Int) + 3 := by omega
          have j2 : 3 * (k : Int) + (m : Int) < (n : Int) := by omega
          obtain ⟨b, off, rfl, hbl, _, hcell⟩ := HA.out.pick (k := 3 * k + m) (by rw [u8s_length, ← HN.out]; exact hmn)
          rw [u8s_get l (3 * k + m) (by rw [← HN.out]; exact hmn)] at hcell
          have hxl := HL.out _ (List.getElem_mem (by rw [← HN.out]; exact hmn : 3 * k + m < l.length))
          have hpx : l[3 * k + m]'(by rw [← HN.out]; exact hmn) = p.getD m 0 := by rw [← hmx]; simp [List.getD, (by rw [← HN.out]; exact hmn : 3 * k + m < l.length)]
          rw [hpx] at hcell hxl
          have HS := Lib.hid (show (p.take (m + 1)).flatMap bitsN = (p.take m).flatMap bitsN ++ bitsN (p.getD m 0) by
            rw [List.take_succ_eq_append_getElem hm1, List.flatMap_append]; simp [List.getD, hm1])
          generalize p.getD m 0 = X at *
          clear hpx hmx
          have HCell := Lib.hid hcell
          have hbw : b < w.heap.size := hbl
          clear hcell
          go_wp2
          go_loopw [5, 7] (fun v kv wt => ∃ t : Nat, t ≤ 8 ∧ kv = .int .i64 (7 - (t : Int)) ∧ wt.ownsRow w.heap.size 5 1 v (8 * m + t) (u8s ((p.take m).flatMap bitsN ++ (bitsN X).take t)) ∧ Below w.heap.size w wt) (fun _ kv _ => (intOf kv + 1).toNat)
          case atStart => exact ⟨0, by omega, by simp, by simpa using HO.out, HW.out⟩
          case round =>
            obtain ⟨t, ht, rfl, hown, hb⟩ := hrel
            have HO1 := Lib.hid hown
            have HW1 := Lib.hid hb
            have hsz2 := hb.size
            obtain ⟨A2, c2, rfl, hc2, _⟩ := own_shape hown
            clear hown hb HO HW
            by_cases ht8 : t < 8
            · obtain ⟨r, hr⟩ : ∃ r : Nat, r = 7 - t := ⟨_, rfl⟩
              have hrt : 7 - (t : Int) = (r : Int) := by omega
              rw [hrt]
              have hcell : wr.cell? ⟨b, off + (3 * k + m), none⟩ = some (.int .u8 (X : Int)) := by rw [HW1.out.cell (p := ⟨b, off + (3 * k + m), none⟩) hbw]; exact HCell.out
              have t0 : (3 * (k : Int) + (m : Int)).toNat = 3 * k + m := by omega
              have t1 : (0 : Int) ≤ 3 * (k : Int) + (m : Int) := by omega
              have r1 : (0 : Int) ≤ (r : Int) := by omega
              have hr7 : r ≤ 7 := by omega
              have e1 : bits .and .u8 ((X : Int) / 2 ^ (7 - t)) 1 = ((X / 2 ^ (7 - t) % 2 : Nat) : Int) := by
                have hle := Nat.div_le_self X (2 ^ (7 - t))
                rw [show (X : Int) / 2 ^ (7 - t) = ((X / 2 ^ (7 - t) : Nat) : Int) by simp, show (1 : Int) = ((1 : Nat) : Int) from rfl, u8_and_nat _ _ (by omega) (by omega)]
                congr 1
                exact Nat.and_two_pow_sub_one_eq_mod _ 1
              have HB1 := Lib.hid (show (bitsN X).take (t + 1) = (bitsN X).take t ++ [X / 2 ^ (7 - t) % 2] by
                rw [List.take_succ_eq_append_getElem (by simp [bitsN]; omega)]; simp [bitsN])
              obtain ⟨V, hV⟩ : ∃ V, V = X / 2 ^ (7 - t) % 2 := ⟨_, rfl⟩
              rw [← hV] at e1 HB1
              clear hV
              go_wp2_with (at_builtin; refine wpList_append_seg _ rfl _ _ _ rfl w.heap.size 5 i0 _ 1 Tryd.underlying25 hi0 hz0 hz1 hz2 rfl _ (8 * m + t) _ rfl (own_alloc HO1.out _) (some ⟨_, 0, none⟩) 1 1 [.int .u8 (V : Int)] rfl rfl (seg_new _ _ _) (by simp [Value.oneCell']) (by simp only [maxLen]; omega) (by omega) (by simp only [World.size_alloc]; omega) ?_; intro v' w' hown' hb'; obtain ⟨A3, c3, rfl, hc3, _⟩ := own_shape hown'; have HO2 := Lib.hid hown'; have HB2 := Lib.hid hb'; clear hown' hb')
              go_roundw
              case rel =>
                refine ⟨t + 1, by omega, congrArg (Value.int .i64) (by omega), ?_, (HW1.out.alloc hsz2 _).trans HB2.out⟩
                rw [HB1.out]
                have := HO2.out
                rw [show 8 * m + (t + 1) = 8 * m + t + 1 by omega]
                rw [show u8s ((p.take m).flatMap bitsN ++ (bitsN X).take t) ++ [Value.int .u8 (V : Int)] = u8s ((p.take m).flatMap bitsN ++ ((bitsN X).take t ++ [V])) by simp [u8s]] at this
                exact this
              case measure => simp [intOf]; omega
            · obtain rfl : t = 8 := by omega
              have hb8 : (bitsN X).take 8 = bitsN X := by rw [List.take_of_length_le (by simp [bitsN])]
              rw [hb8] at HO1
              clear hb8
              go_wp2
              go_roundw
              case rel => exact ⟨m + 1, by omega, congrArg (Value.int .i64) (by omega), by rw [HS.out, show 8 * (m + 1) = 8 * m + 8 by omega]; exact HO1.out, HW1.out⟩
              case measure => simp [intOf]; omega
        · obtain hmL : m = p.length := by omega
          have hlen8 : (p.flatMap bitsN).length = 8 * p.length := by
            have : ∀ q : List Nat, (q.flatMap bitsN).length = 8 * q.length := fun q => by
              induction q with
              | nil => rfl
              | cons a q ih => simp only [List.flatMap_cons, List.length_append, ih, List.length_cons]; simp [bitsN]; omega
            exact this p
          have j0 : decide (3 * (k : Int) + (m : Int) < 3 * (k : Int) + 3 ∧ 3 * (k : Int) + (m : Int) < (n : Int)) = false := by
            rw [decide_eq_false_iff_not]; have := HPl.out; omega
          have hfull : (p.take m).flatMap bitsN = p.flatMap bitsN := by rw [hmL, List.take_length]
          rw [hfull] at HO
          obtain ⟨Z, hZ⟩ : ∃ Z, Z = (6 - (p.flatMap bitsN).length % 6) % 6 := ⟨_, rfl⟩
          have hZ2 : (8 * m + Z) % 6 = 0 ∧ Z < 6 := by rw [hlen8] at hZ; omega
          have hPc : pieceN p = p.flatMap bitsN ++ List.replicate Z 0 := by unfold pieceN; rw [hZ]
          have HPc := Lib.hid hPc
          have HZ := Lib.hid hZ
          have HLen8 := Lib.hid hlen8
          have HmL := Lib.hid hmL
          obtain ⟨hZ3, hZ4⟩ := hZ2
          have hm3 : m ≤ 3 := hmL ▸ hp3
          have O1 := Lib.hid (show wr.ownsRow w.heap.size 5 1 (.slice A1 (8 * m) c1) (8 * m + 0) (u8s (p.flatMap bitsN ++ List.replicate 0 0)) by simpa using HO.out)
          clear hZ hPc hlen8 hfull hmL HO
          by_cases j1 : 3 * (k : Int) + (m : Int) < 3 * (k : Int) + 3
          · have j2 : ¬ 3 * (k : Int) + (m : Int) < (n : Int) := by
              intro h; rw [decide_eq_false_iff_not] at j0; exact j0 ⟨j1, h⟩
            clear j0
            go_wp2
            go_loopw [5] (fun v wt => ∃ t : Nat, t ≤ Z ∧ wt.ownsRow w.heap.size 5 1 v (8 * m + t) (u8s (p.flatMap bitsN ++ List.replicate t 0)) ∧ Below w.heap.size w wt) (fun v _ => 100 - lenOf v)
            case atStart => exact ⟨0, by omega, O1.out, HW.out⟩
            case round =>
              obtain ⟨t, ht, hown, hb⟩ := hrel
              have HO1 := Lib.hid hown
              have HW1 := Lib.hid hb
              have hsz2 := hb.size
              obtain ⟨A2, c2, rfl, hc2, _⟩ := own_shape hown
              clear hown hb O1
              by_cases htz : t < Z
              · have hne : ((8 * (m : Int) + (t : Int)) % 6 != 0) = true := by rw [bne_iff_ne]; omega
                go_wp2_with (at_builtin; refine wpList_append_seg _ rfl _ _ _ rfl w.heap.size 5 i0 _ 1 Tryd.underlying25 hi0 hz0 hz1 hz2 rfl _ (8 * m + t) _ rfl (own_alloc HO1.out _) (some ⟨_, 0, none⟩) 1 1 [.int .u8 0] rfl rfl (seg_new _ _ _) (by simp [Value.oneCell']) (by simp only [maxLen]; omega) (by omega) (by simp only [World.size_alloc]; omega) ?_; intro v' w' hown' hb'; obtain ⟨A3, c3, rfl, hc3, _⟩ := own_shape hown'; have HO2 := Lib.hid hown'; have HB2 := Lib.hid hb'; clear hown' hb')
                go_roundw
                case rel =>
                  refine ⟨t + 1, by omega, ?_, (HW1.out.alloc hsz2 _).trans HB2.out⟩
                  have := HO2.out
                  rw [show u8s (p.flatMap bitsN ++ List.replicate t 0) ++ [Value.int .u8 0] = u8s (p.flatMap bitsN ++ List.replicate (t + 1) 0) by rw [List.replicate_succ']; simp [u8s]] at this
                  exact this
                case measure => simp [lenOf]; omega
              · obtain rfl : t = Z := by omega
                have hne : ((8 * (m : Int) + (t : Int)) % 6 != 0) = false := by rw [bne_eq_false_iff_eq]; omega
                rw [← HPc.out] at HO1
                obtain ⟨A3, c3, h3, _, s3⟩ := own_shape HO1.out
                obtain ⟨rfl, rfl⟩ : A3 = A2 ∧ c3 = c2 := by injection h3 with h3 h4 h5; exact ⟨h3.symm, h5.symm⟩
                have S3 := Lib.hid s3
                clear s3 h3
                go_wp2
                have hBl : (pieceN p).length = 8 * m + t := by rw [HPc.out, List.length_append, HLen8.out, List.length_replicate, HmL.out]
                generalize hBp : pieceN p = Bp at *
                have HBp := Lib.hid hBp
                have HBl := Lib.hid hBl
                have hPlen : P.length ≤ 1000000 := by
                  have := congrArg List.length HP.out
                  rw [List.length_append, b64N_length l, ← HN.out] at this
                  omega
                clear hBp hBl
                go_loopw [3, 8] (fun v jv wt => ∃ q : Nat, q ≤ 4 ∧ jv = .int .i64 (6 * (q : Int)) ∧ v = .string (txt (P ++ (signsN Bp).take q)) ∧ wt = wr) (fun _ jv _ => 24 - (intOf jv).toNat)
                case atStart => exact ⟨0, by omega, rfl, by simp, rfl⟩
                case round =>
                  obtain ⟨q, hq, rfl, rfl, rfl⟩ := hrel
                  by_cases hq4 : q < 4
                  · have HSn := Lib.hid (signs_take Bp q hq4)
                    have q1 : 6 * (q : Int) < 24 := by omega
                    have hs1 := fun (w : World) (d : Nat) => run_string_add_sum (P := Tryd.prog) w (txt (P ++ (signsN Bp).take q)) (txt [d]) (by rw [txt_sizeS, txt_sizeS, List.length_append, List.length_take]; simp; omega)
                    have HE := Lib.hid (fun d => (txt_appendS (P ++ (signsN Bp).take q) [d]).symm)
                    by_cases hge : 8 * m + t ≤ 6 * q
                    · have q2 : 8 * (m : Int) + (t : Int) ≤ 6 * (q : Int) := by omega
                      have hsg : signN Bp q = 61 := by unfold signN; rw [if_pos (by rw [HBl.out]; exact hge)]
                      have h61 : ({ data := #[61] } : ByteArray) = txt [61] := rfl
                      have hs61 := fun w => hs1 w 61
                      rw [← h61] at hs61
                      generalize txt (P ++ (signsN Bp).take q) = T at *
                      go_wp2
                      go_roundw
                      case rel => exact ⟨q + 1, by omega, congrArg (Value.int .i64) (by omega), by rw [HSn.out, hsg, ← List.append_assoc, ← HE.out], trivial⟩
                      case measure => simp [intOf]; omega
                    · have q2 : ¬ 8 * (m : Int) + (t : Int) ≤ 6 * (q : Int) := by omega
                      have q3 : 6 * q + 6 ≤ 8 * m + t := by omega
                      have hsg : signN Bp q = dC (sixN ((Bp.drop (6 * q)).take 6)) := by unfold signN; rw [if_neg (by rw [HBl.out]; exact hge)]
                      obtain ⟨b, off, rfl, hbl, _, _⟩ := S3.out.pick (k := 0) (by rw [u8s_length, HBl.out]; omega)
                      have hseg : Seg wr (some ⟨b, off + 6 * q, none⟩) (u8s ((Bp.drop (6 * q)).take 6)) := by
                        rw [← u8s_cut]; exact S3.out.sub (6 * q) 6 (by rw [u8s_length, HBl.out]; exact q3)
                      have i1 : (0 : Int) ≤ 6 * (q : Int) := by omega
                      have i2 : 6 * (q : Int) ≤ 6 * (q : Int) + 6 := by omega
                      have i3 : 6 * (q : Int) + 6 ≤ (c3 : Int) := by omega
                      have i4 : ¬ c3 = 6 * q := by omega
                      have i5 : (6 * (q : Int)).toNat = 6 * q := by omega
                      have i6 : (6 * (q : Int) + 6).toNat = 6 * q + 6 := by omega
                      have h6l : ((Bp.drop (6 * q)).take 6).length = 6 := by rw [List.length_take, List.length_drop, HBl.out]; omega
                      have h6b : ∀ x ∈ (Bp.drop (6 * q)).take 6, x < 2 := fun x hx => piece_lt p x (by rw [HBp.out]; exact List.mem_of_mem_drop (List.mem_of_mem_take hx))
                      have HSg := Lib.hid hseg
                      have HSig := Lib.hid hsg
                      generalize (Bp.drop (6 * q)).take 6 = B6 at *
                      have H6b := Lib.hid h6b
                      clear hseg hsg h6b
                      go_wp2
                      go_loopw [9, 69] (fun nv rv wt => ∃ r : Nat, r ≤ 6 ∧ rv = .int .i64 (r : Int) ∧ nv = .int .i64 ((sixN (B6.take r) : Nat) : Int) ∧ wt = wr) (fun _ rv _ => 6 - (intOf rv).toNat)
                      case atStart => exact ⟨0, by omega, rfl, rfl, rfl⟩
                      case round =>
                        obtain ⟨r, hr, rfl, rfl, rfl⟩ := hrel
                        have hb6 := six_lt B6 H6b.out r
                        by_cases hr6 : r < 6
                        · obtain ⟨b', off', hbe, _, _, hcell⟩ := HSg.out.pick (k := r) (by rw [u8s_length, h6l]; exact hr6)
                          obtain ⟨rfl, rfl⟩ : b' = b ∧ off' = off + 6 * q := by injection hbe with hbe; injection hbe with h1 h2; exact ⟨h1.symm, h2.symm⟩
                          rw [u8s_get _ r (by rw [h6l]; exact hr6)] at hcell
                          have hx2 := H6b.out _ (List.getElem_mem (by rw [h6l]; exact hr6 : r < B6.length))
                          have HS6 := Lib.hid (show sixN (B6.take (r + 1)) = 2 * sixN (B6.take r) + B6[r]'(by rw [h6l]; exact hr6) by
                            unfold sixN; rw [List.take_succ_eq_append_getElem (by rw [h6l]; exact hr6), List.foldl_append]; rfl)
                          generalize B6[r]'(by rw [h6l]; exact hr6) = Y at *
                          generalize sixN (B6.take r) = N at *
                          have hN : N < 64 := by have := Nat.pow_le_pow_right (n := 2) (by omega) hr; omega
                          clear hbe
                          go_wp2
                          go_roundw
                          case rel => exact ⟨r + 1, by omega, by go_num, by rw [HS6.out]; go_num, trivial⟩
                          case measure => simp [intOf]; omega
                        · obtain rfl : r = 6 := by omega
                          have h66 : B6.take 6 = B6 := by rw [List.take_of_length_le (by omega)]
                          rw [h66] at hb6 ⊢
                          have hcut := cut64 (sixN B6) (by omega)
                          have hsd := fun w => hs1 w (dC (sixN B6))
                          have HSig2 := Lib.hid (show signN Bp q = dC (sixN B6) from HSig.out)
                          have hn64 : sixN B6 < 64 := by omega
                          generalize sixN B6 = N at *
                          generalize txt (P ++ (signsN Bp).take q) = T at *
                          have n1 : ((N : Int) + 1).toNat = N + 1 := by omega
                          have n2 : (N : Int) + 1 ≤ 64 := by omega
                          have n3 : (N : Int) ≤ (N : Int) + 1 := by omega
                          go_wp2
                          go_roundw
                          case rel => exact ⟨q + 1, by omega, congrArg (Value.int .i64) (by omega), by rw [HSn.out, HSig2.out, ← List.append_assoc, ← HE.out], trivial⟩
                          case measure => simp [intOf]; omega
                  · obtain rfl : q = 4 := by omega
                    have q1 : ¬ 6 * ((4 : Nat) : Int) < 24 := by omega
                    have hfin : P ++ (signsN Bp).take 4 ++ b64N (l.drop (3 * (k + 1))) = b64N l := by
                      have h1 := b64_signs (l.drop (3 * k)) (fun x hx => HL.out x (List.mem_of_mem_drop hx)) (by intro h; have := congrArg List.length h; rw [List.length_drop, ← HN.out] at this; simp at this; omega)
                      rw [← HPp.out, HBp.out, List.drop_drop] at h1
                      rw [← HP.out, h1, List.append_assoc]
                      rfl
                    go_wp2
                    go_roundw
                    case rel => exact ⟨k + 1, P ++ (signsN Bp).take 4, by omega, congrArg (Value.int .i64) (by omega), rfl, hfin, HW1.out⟩
                    case measure => simp [intOf]; omega
          · clear j0
            go_wp2
            go_loopw [5] (fun v wt => ∃ t : Nat, t ≤ Z ∧ wt.ownsRow w.heap.size 5 1 v (8 * m + t) (u8s (p.flatMap bitsN ++ List.replicate t 0)) ∧ Below w.heap.size w wt) (fun v _ => 100 - lenOf v)
            case atStart => exact ⟨0, by omega, O1.out, HW.out⟩
            case round =>
              obtain ⟨t, ht, hown, hb⟩ := hrel
              have HO1 := Lib.hid hown
              have HW1 := Lib.hid hb
              have hsz2 := hb.size
              obtain ⟨A2, c2, rfl, hc2, _⟩ := own_shape hown
              clear hown hb O1
              by_cases htz : t < Z
              · exfalso; omega
              · obtain rfl : t = Z := by omega
                have hne : ((8 * (m : Int) + (t : Int)) % 6 != 0) = false := by rw [bne_eq_false_iff_eq]; omega
                rw [← HPc.out] at HO1
                obtain ⟨A3, c3, h3, _, s3⟩ := own_shape HO1.out
                obtain ⟨rfl, rfl⟩ : A3 = A2 ∧ c3 = c2 := by injection h3 with h3 h4 h5; exact ⟨h3.symm, h5.symm⟩
                have S3 := Lib.hid s3
                clear s3 h3
                go_wp2
                have hBl : (pieceN p).length = 8 * m + t := by rw [HPc.out, List.length_append, HLen8.out, List.length_replicate, HmL.out]
                generalize hBp : pieceN p = Bp at *
                have HBp := Lib.hid hBp
                have HBl := Lib.hid hBl
                have hPlen : P.length ≤ 1000000 := by
                  have := congrArg List.length HP.out
                  rw [List.length_append, b64N_length l, ← HN.out] at this
                  omega
                clear hBp hBl
                go_loopw [3, 8] (fun v jv wt => ∃ q : Nat, q ≤ 4 ∧ jv = .int .i64 (6 * (q : Int)) ∧ v = .string (txt (P ++ (signsN Bp).take q)) ∧ wt = wr) (fun _ jv _ => 24 - (intOf jv).toNat)
                case atStart => exact ⟨0, by omega, rfl, by simp, rfl⟩
                case round =>
                  obtain ⟨q, hq, rfl, rfl, rfl⟩ := hrel
                  by_cases hq4 : q < 4
                  · have HSn := Lib.hid (signs_take Bp q hq4)
                    have q1 : 6 * (q : Int) < 24 := by omega
                    have hs1 := fun (w : World) (d : Nat) => run_string_add_sum (P := Tryd.prog) w (txt (P ++ (signsN Bp).take q)) (txt [d]) (by rw [txt_sizeS, txt_sizeS, List.length_append, List.length_take]; simp; omega)
                    have HE := Lib.hid (fun d => (txt_appendS (P ++ (signsN Bp).take q) [d]).symm)
                    by_cases hge : 8 * m + t ≤ 6 * q
                    · have q2 : 8 * (m : Int) + (t : Int) ≤ 6 * (q : Int) := by omega
                      have hsg : signN Bp q = 61 := by unfold signN; rw [if_pos (by rw [HBl.out]; exact hge)]
                      have h61 : ({ data := #[61] } : ByteArray) = txt [61] := rfl
                      have hs61 := fun w => hs1 w 61
                      rw [← h61] at hs61
                      generalize txt (P ++ (signsN Bp).take q) = T at *
                      go_wp2
                      go_roundw
                      case rel => exact ⟨q + 1, by omega, congrArg (Value.int .i64) (by omega), by rw [HSn.out, hsg, ← List.append_assoc, ← HE.out], trivial⟩
                      case measure => simp [intOf]; omega
                    · have q2 : ¬ 8 * (m : Int) + (t : Int) ≤ 6 * (q : Int) := by omega
                      have q3 : 6 * q + 6 ≤ 8 * m + t := by omega
                      have hsg : signN Bp q = dC (sixN ((Bp.drop (6 * q)).take 6)) := by unfold signN; rw [if_neg (by rw [HBl.out]; exact hge)]
                      obtain ⟨b, off, rfl, hbl, _, _⟩ := S3.out.pick (k := 0) (by rw [u8s_length, HBl.out]; omega)
                      have hseg : Seg wr (some ⟨b, off + 6 * q, none⟩) (u8s ((Bp.drop (6 * q)).take 6)) := by
                        rw [← u8s_cut]; exact S3.out.sub (6 * q) 6 (by rw [u8s_length, HBl.out]; exact q3)
                      have i1 : (0 : Int) ≤ 6 * (q : Int) := by omega
                      have i2 : 6 * (q : Int) ≤ 6 * (q : Int) + 6 := by omega
                      have i3 : 6 * (q : Int) + 6 ≤ (c3 : Int) := by omega
                      have i4 : ¬ c3 = 6 * q := by omega
                      have i5 : (6 * (q : Int)).toNat = 6 * q := by omega
                      have i6 : (6 * (q : Int) + 6).toNat = 6 * q + 6 := by omega
                      have h6l : ((Bp.drop (6 * q)).take 6).length = 6 := by rw [List.length_take, List.length_drop, HBl.out]; omega
                      have h6b : ∀ x ∈ (Bp.drop (6 * q)).take 6, x < 2 := fun x hx => piece_lt p x (by rw [HBp.out]; exact List.mem_of_mem_drop (List.mem_of_mem_take hx))
                      have HSg := Lib.hid hseg
                      have HSig := Lib.hid hsg
                      generalize (Bp.drop (6 * q)).take 6 = B6 at *
                      have H6b := Lib.hid h6b
                      clear hseg hsg h6b
                      go_wp2
                      go_loopw [9, 69] (fun nv rv wt => ∃ r : Nat, r ≤ 6 ∧ rv = .int .i64 (r : Int) ∧ nv = .int .i64 ((sixN (B6.take r) : Nat) : Int) ∧ wt = wr) (fun _ rv _ => 6 - (intOf rv).toNat)
                      case atStart => exact ⟨0, by omega, rfl, rfl, rfl⟩
                      case round =>
                        obtain ⟨r, hr, rfl, rfl, rfl⟩ := hrel
                        have hb6 := six_lt B6 H6b.out r
                        by_cases hr6 : r < 6
                        · obtain ⟨b', off', hbe, _, _, hcell⟩ := HSg.out.pick (k := r) (by rw [u8s_length, h6l]; exact hr6)
                          obtain ⟨rfl, rfl⟩ : b' = b ∧ off' = off + 6 * q := by injection hbe with hbe; injection hbe with h1 h2; exact ⟨h1.symm, h2.symm⟩
                          rw [u8s_get _ r (by rw [h6l]; exact hr6)] at hcell
                          have hx2 := H6b.out _ (List.getElem_mem (by rw [h6l]; exact hr6 : r < B6.length))
                          have HS6 := Lib.hid (show sixN (B6.take (r + 1)) = 2 * sixN (B6.take r) + B6[r]'(by rw [h6l]; exact hr6) by
                            unfold sixN; rw [List.take_succ_eq_append_getElem (by rw [h6l]; exact hr6), List.foldl_append]; rfl)
                          generalize B6[r]'(by rw [h6l]; exact hr6) = Y at *
                          generalize sixN (B6.take r) = N at *
                          have hN : N < 64 := by have := Nat.pow_le_pow_right (n := 2) (by omega) hr; omega
                          clear hbe
                          go_wp2
                          go_roundw
                          case rel => exact ⟨r + 1, by omega, by go_num, by rw [HS6.out]; go_num, trivial⟩
                          case measure => simp [intOf]; omega
                        · obtain rfl : r = 6 := by omega
                          have h66 : B6.take 6 = B6 := by rw [List.take_of_length_le (by omega)]
                          rw [h66] at hb6 ⊢
                          have hcut := cut64 (sixN B6) (by omega)
                          have hsd := fun w => hs1 w (dC (sixN B6))
                          have HSig2 := Lib.hid (show signN Bp q = dC (sixN B6) from HSig.out)
                          have hn64 : sixN B6 < 64 := by omega
                          generalize sixN B6 = N at *
                          generalize txt (P ++ (signsN Bp).take q) = T at *
                          have n1 : ((N : Int) + 1).toNat = N + 1 := by omega
                          have n2 : (N : Int) + 1 ≤ 64 := by omega
                          have n3 : (N : Int) ≤ (N : Int) + 1 := by omega
                          go_wp2
                          go_roundw
                          case rel => exact ⟨q + 1, by omega, congrArg (Value.int .i64) (by omega), by rw [HSn.out, HSig2.out, ← List.append_assoc, ← HE.out], trivial⟩
                          case measure => simp [intOf]; omega
                  · obtain rfl : q = 4 := by omega
                    have q1 : ¬ 6 * ((4 : Nat) : Int) < 24 := by omega
                    have hfin : P ++ (signsN Bp).take 4 ++ b64N (l.drop (3 * (k + 1))) = b64N l := by
                      have h1 := b64_signs (l.drop (3 * k)) (fun x hx => HL.out x (List.mem_of_mem_drop hx)) (by intro h; have := congrArg List.length h; rw [List.length_drop, ← HN.out] at this; simp at this; omega)
                      rw [← HPp.out, HBp.out, List.drop_drop] at h1
                      rw [← HP.out, h1, List.append_assoc]
                      rfl
                    go_wp2
                    go_roundw
                    case rel => exact ⟨k + 1, P ++ (signsN Bp).take 4, by omega, congrArg (Value.int .i64) (by omega), rfl, hfin, HW1.out⟩
                    case measure => simp [intOf]; omega
    · have ll : ¬ 3 * (k : Int) < (n : Int) := by omega
      have he : P = b64N l := by
        rw [← HP.out, List.drop_eq_nil_of_le (by rw [← HN.out]; omega)]; simp [b64N]
      rw [he]
      clear he
      go_wp2
      go_ret
      exact ⟨rfl, HW.out⟩
end Go.Proofs.YtnbhgjionpidnaaDoor
