/- The reference's text of a box. Condition: the pieces lie in memory. -/
import Derived.Test.YthjbkgappjpanaaDoorSRMiss
import Derived.Test.YthjbkgappjpanaaDoorStable
import Derived.Laws.Concat
namespace Go.Proofs.YthjbkgappjpanaaDoor
open Go.RowKit

def datO (R : List PcM) (i : Nat) : ByteArray := match fnd R i with
  | some p => p.d
  | none => ⟨#[]⟩
def strO (R : List PcM) : Nat → ByteArray
  | 0 => ⟨#[]⟩
  | k + 1 => strO R k ++ datO R k
theorem datO_le {R : List PcM} (hd : ∀ p ∈ R, p.d.size ≤ 4000) (i : Nat) : (datO R i).size ≤ 4000 := by
  unfold datO
  split
  · rename_i p hp
    exact hd p (List.mem_of_find?_eq_some hp)
  · exact Nat.zero_le _
theorem strO_le {R : List PcM} (hd : ∀ p ∈ R, p.d.size ≤ 4000) (k : Nat) : (strO R k).size ≤ k * 4000 := by
  induction k with
  | zero => exact Nat.zero_le _
  | succ k ih => unfold strO; rw [ByteArray.size_append]; have := datO_le hd k; omega
def rtextE (R : List PcM) : Nat := match R with
  | [] => 6
  | p :: R' => if (p :: R').length < p.t then 6 else if 4000 < (strO (p :: R') (p :: R').length).size then 2 else if sumN (strO (p :: R') (p :: R').length) ≠ p.c then 4 else 0
def rtextS (R : List PcM) : ByteArray := if rtextE R = 0 then strO R R.length else ⟨#[]⟩
def rt (_w0 : World) (S : ByteArray) (g n c sm c0 : Nat) (i : Nat) (v _u : Value) (w : World) : Prop := match i with
  | 0 => v = .string S
  | 1 => ∃ b cv, v = .slice (some ⟨b, 0, none⟩) S.size cv ∧ Seg w (some ⟨b, 0, none⟩) (u8s (octN S))
  | 2 => v = .int .u32 (sm : Int)
  | 3 => v = .slice (some ⟨g, 0, none⟩) n c
  | 4 => v = .pointer (some ⟨g, 0, none⟩)
  | 5 => v = .pointer (some ⟨g, 2, none⟩)
  | 6 => v = .int .u32 (c0 : Int)
  | 7 => v = .bool ((sm : Int) != (c0 : Int))
  | _ => True
theorem rt_bel {w0 : World} {S : ByteArray} {g n c sm c0 : Nat} {w w' : World} (hb : Below w.heap.size w w') : ∀ j u u', rt w0 S g n c sm c0 j u u' w → rt w0 S g n c sm c0 j u u' w' := by
  intro j u u' h
  unfold rt at *
  split at h <;> first | exact h | skip
  obtain ⟨b, cv, hv, hs⟩ := h
  exact ⟨b, cv, hv, hs.bel hb⟩
set_option maxRecDepth 100000 in
set_option maxHeartbeats 1000000 in
theorem rtext_none (A : Option Addr) (c : Nat) (w : World) :
    Calls Tryd.prog 14 #[.slice A 0 c] w fun e w' => e = .returned (.tuple #[.string ⟨#[]⟩, .int .i64 6]) ∧ Below w.heap.size w w' := by
  go_enter Tryd.func14, Tryd.ntmps14
  go_wp2_with fail
  go_ret2
  exact ⟨rfl, Below.refl _ _⟩
set_option maxRecDepth 100000 in
set_option maxHeartbeats 2000000 in
theorem rtext_some (A : Option Addr) (n c B : Nat) (p0 : PcM) (R' : List PcM) (w : World) (hn : n = (p0 :: R').length) (ho : w.ownsRow B 33 4 (.slice A n c) n (rpV (p0 :: R'))) (hs : n ≤ 1000) (hd : ∀ p ∈ (p0 :: R'), p.d.size ≤ 4000) :
    Calls Tryd.prog 14 #[.slice A n c] w fun e w' => e = .returned (.tuple #[.string (rtextS (p0 :: R')), .int .i64 (rtextE (p0 :: R') : Nat)]) ∧ Below w.heap.size w w' := by
  have hn0 : 0 < n := by rw [hn]; simp
  obtain ⟨g, q0, R2, rfl, _, hlt, hR, c1, c2⟩ := row_head hn ho hn0
  obtain ⟨rfl, rfl⟩ : p0 = q0 ∧ R' = R2 := by injection hR with h1 h2; exact ⟨h1, h2⟩
  clear hR
  have hE : rtextE (p0 :: R') = if n < p0.t then 6 else if 4000 < (strO (p0 :: R') n).size then 2 else if sumN (strO (p0 :: R') n) ≠ p0.c then 4 else 0 := by rw [hn]; rfl
  have hSS : rtextS (p0 :: R') = if rtextE (p0 :: R') = 0 then strO (p0 :: R') n else ⟨#[]⟩ := by rw [hn]; rfl
  obtain ⟨R, hRR⟩ : ∃ R, R = p0 :: R' := ⟨_, rfl⟩
  rw [← hRR] at hn ho hd hE hSS ⊢
  obtain ⟨T, hTT⟩ : ∃ T, T = p0.t := ⟨_, rfl⟩
  rw [← hTT] at c1 hE
  obtain ⟨C0, hC0⟩ : ∃ C0, C0 = p0.c := ⟨_, rfl⟩
  rw [← hC0] at c2 hE
  have hn1 : ((n : Int) == 0) = false := by simp; omega
  have HN := Lib.hid hn
  have HO := Lib.hid ho
  have HD := Lib.hid hd
  have HE := Lib.hid hE
  have HSS := Lib.hid hSS
  clear hn ho hRR hTT hC0 hd hE hSS
  by_cases hnT : n < T
  · have hnTI : (n : Int) < (T : Int) := by omega
    have e1 : rtextE R = 6 := by rw [HE.out, if_pos hnT]
    have e2 : rtextS R = ⟨#[]⟩ := by rw [HSS.out, e1]; rfl
    rw [e1, e2]
    clear hnT
    go_enter Tryd.func14, Tryd.ntmps14
    go_wp2_with fail
    go_ret2
    exact ⟨rfl, Below.refl _ _⟩
  · have hnTI : ¬ (n : Int) < (T : Int) := by omega
    have HE2 := Lib.hid (show rtextE R = if 4000 < (strO R n).size then 2 else if sumN (strO R n) ≠ C0 then 4 else 0 by rw [HE.out, if_neg hnT])
    clear hnT HE
    go_enter Tryd.func14, Tryd.ntmps14
    go_wp2_with fail
    go_loopw [4, 22] (fun v i wr => ∃ k : Nat, k ≤ n ∧ i = .int .i64 k ∧ v = .string (strO R k) ∧ Below w.heap.size w wr) (fun _ i _ => n - (intOf i).toNat)
    case atStart => exact ⟨0, by omega, rfl, rfl, Below.refl _ _⟩
    case round =>
      obtain ⟨k, hk, rfl, rfl, hb⟩ := hrel
      have HBw := Lib.hid hb
      have hsl := strO_le HD.out k
      by_cases hkn : k < n
      · have hkI : (k : Int) < (n : Int) := by omega
        have C1 := Lib.hid (find_any (some ⟨g, 0, none⟩) n c R B k wr HN.out (own_belS HO.out hb) (by omega))
        have hdl := datO_le HD.out k
        have hadd := fun w => run_string_add_sum (P := Tryd.prog) w (strO R k) (datO R k) (by omega)
        have HST := Lib.hid (show strO R (k + 1) = strO R k ++ datO R k from rfl)
        rw [← HST.out] at hadd
        clear hb
        cases hf : fnd R k with
        | some m =>
          have hdm : datO R k = m.d := by unfold datO; rw [hf]
          rw [hf] at C1
          rw [hdm] at hadd hdl
          clear hf hdm
          go_wp2_with fail
          refine C1.out.mono ?_
          rintro e w4 ⟨rfl, hb4⟩
          have HB5 := Lib.hid ((below_step HBw.out hb4).alloc (below_step HBw.out hb4).size (.cells #[.int .i64 (m.i : Int), .int .i64 (m.t : Int), .int .u32 (m.c : Int), .string m.d] 33))
          clear hb4
          unfold pcO
          go_wp2_with fail
          exact ⟨⟨k + 1, by omega, by go_num, rfl, HB5.out⟩, by simp [intOf]; omega⟩
        | none =>
          have hdm : datO R k = ⟨#[]⟩ := by unfold datO; rw [hf]
          rw [hf] at C1
          rw [hdm] at hadd hdl
          clear hf hdm
          go_wp2_with fail
          refine C1.out.mono ?_
          rintro e w4 ⟨rfl, hb4⟩
          have HB5 := Lib.hid ((below_step HBw.out hb4).alloc (below_step HBw.out hb4).size (.cells #[.int .i64 0, .int .i64 0, .int .u32 0, .string ⟨#[]⟩] 33))
          clear hb4
          unfold pcO
          go_wp2_with fail
          exact ⟨⟨k + 1, by omega, by go_num, rfl, HB5.out⟩, by simp [intOf]; omega⟩
      · obtain rfl : k = n := by omega
        clear hb
        obtain ⟨S, hS⟩ : ∃ S, S = strO R k := ⟨_, rfl⟩
        rw [← hS] at hsl HE2 HSS ⊢
        clear hS
        by_cases hbig : 4000 < S.size
        · have hbI : (4000 : Int) < (S.size : Int) := by omega
          have e1 : rtextE R = 2 := by rw [HE2.out, if_pos hbig]
          have e2 : rtextS R = ⟨#[]⟩ := by rw [HSS.out, e1]; rfl
          have E1 := Lib.hid e1
          have E2 := Lib.hid e2
          clear e1 e2 hbig
          go_wp2_with fail
          go_ret2
          exact ⟨by rw [E1.out, E2.out]; rfl, HBw.out⟩
        · have hbI : ¬ (4000 : Int) < (S.size : Int) := by omega
          rw [if_neg hbig] at HE2
          have G0 := Lib.hid (show Below w.heap.size w wr.drew from HBw.out.drew)
          have c2' : ∀ w1, Below w.heap.size w w1 → w1.cell? ⟨g, 2, none⟩ = some (.int .u32 (C0 : Int)) := fun w1 h => (h.cell (p := ⟨g, 2, none⟩) hlt).trans c2
          have HC2 := Lib.hid c2'
          clear c2' hbig
          go_wp2_with fail
          refine wp_region_list [some 39, some 40, some 41, some 42, some 43, some 44, some 45, some 46] (fun _ => 0) (rt w S g k c (sumN S) C0) (fun w1 => Below w.heap.size w w1) (by kernel_rfl) G0.out rfl (by kernel_rfl) (by kernel_rfl) (by kernel_rfl) (by kernel_rfl) (fun T hT => ?_)
          simp only [List.filterMap_cons, List.filterMap_nil, id, putsS, Act.put, List.setIfInBounds_toArray, List.set_cons_zero, List.set_cons_succ] at hT
          subst hT
          refine ⟨⟨?_, ?_, ?_, ?_, ?_, ?_, ?_, ?_, trivial⟩, ?_⟩
          · -- 0: Op.move t4
            refine StepL.act ?_
            intro f w1 hG hF K hK
            clear hF
            dsimp only at hK ⊢
            go_simp
            exact hK.out _ _ hG rfl (fun _ _ _ _ h => h)
          · -- 1: Op.convert 9 55 t39
            refine StepL.act ?_
            intro f w1 hG hF K hK
            have d0 : (rt w S g k c (sumN S) C0) 0 (f 39) (f 0) w1 := hF 0 (by kernel_rfl)
            clear hF
            dsimp only at hK ⊢
            generalize f 39 = v39 at *
            subst d0
            obtain ⟨cv, w2', hcv, hS4, hb4⟩ := conv_any S w1
            go_simp
            exact hK.out _ _ (hG.trans (hb4.mono hG.size)) ⟨_, cv, rfl, hS4⟩ (fun j _ u u' h => rt_bel hb4 j u u' h)
          · -- 2: Op.call ( value (Operand.func 20), args := #[t40], argTypes := #[55] )
            refine StepL.act ?_
            intro f w1 hG hF K hK
            have d1 : (rt w S g k c (sumN S) C0) 1 (f 40) (f 0) w1 := hF 1 (by kernel_rfl)
            clear hF
            dsimp only at hK ⊢
            generalize f 40 = v40 at *
            obtain ⟨b, cv, rfl, hS4⟩ := d1
            have CC := Lib.hid (refcrc_any _ _ cv (octN S) (octN_length S).symm w1 hS4 (octN_lt S) (by omega))
            go_simp
            refine CC.out.mono ?_
            rintro e w5 ⟨rfl, rfl⟩
            exact hK.out _ _ hG (show Value.int IntKind.u32 ((4294967295 - crcRef (octN S) : Nat) : Int) = .int .u32 ((sumN S : Nat) : Int) by unfold sumN; rw [crc_eq (octN S) (octN_lt S)]) (fun j _ u u' h => h)
          · -- 3: Op.move t0
            refine StepL.act ?_
            intro f w1 hG hF K hK
            clear hF
            dsimp only at hK ⊢
            go_simp
            exact hK.out _ _ hG rfl (fun _ _ _ _ h => h)
          · -- 4: Op.indexAddr 26 t42 (const (0:i64))
            refine StepL.act ?_
            intro f w1 hG hF K hK
            have d3 : (rt w S g k c (sumN S) C0) 3 (f 42) (f 0) w1 := hF 3 (by kernel_rfl)
            clear hF
            dsimp only at hK ⊢
            generalize f 42 = v42 at *
            subst d3
            go_simp
            exact hK.out _ _ hG rfl (fun _ _ _ _ h => h)
          · -- 5: Op.fieldAddr 33 t43 2
            refine StepL.act ?_
            intro f w1 hG hF K hK
            have d4 : (rt w S g k c (sumN S) C0) 4 (f 43) (f 0) w1 := hF 4 (by kernel_rfl)
            clear hF
            dsimp only at hK ⊢
            generalize f 43 = v43 at *
            subst d4
            go_simp
            exact hK.out _ _ hG rfl (fun _ _ _ _ h => h)
          · -- 6: Op.load 30 t44
            refine StepL.act ?_
            intro f w1 hG hF K hK
            have d5 : (rt w S g k c (sumN S) C0) 5 (f 44) (f 0) w1 := hF 5 (by kernel_rfl)
            clear hF
            dsimp only at hK ⊢
            generalize f 44 = v44 at *
            subst d5
            have y := HC2.out w1 hG
            go_simp
            exact hK.out _ _ hG rfl (fun _ _ _ _ h => h)
          · -- 7: Op.binOp BinOp.neq 30 t41 t45 30
            refine StepL.act ?_
            intro f w1 hG hF K hK
            have d2 : (rt w S g k c (sumN S) C0) 2 (f 41) (f 0) w1 := hF 2 (by kernel_rfl)
            have d6 : (rt w S g k c (sumN S) C0) 6 (f 45) (f 0) w1 := hF 6 (by kernel_rfl)
            clear hF
            dsimp only at hK ⊢
            generalize f 41 = v41 at *
            generalize f 45 = v45 at *
            subst d2
            subst d6
            go_simp
            exact hK.out _ _ hG rfl (fun _ _ _ _ h => h)
          intro f w1 hG hF
          have f7 : f 46 = .bool (((sumN S : Nat) : Int) != (C0 : Int)) := hF 7 (by decide)
          have HBL := Lib.hid hG
          clear hF hG
          dsimp only
          generalize f 39 = v39
          generalize f 40 = v40
          generalize f 41 = v41
          generalize f 42 = v42
          generalize f 43 = v43
          generalize f 44 = v44
          generalize f 45 = v45
          generalize f 46 = v46 at *
          subst f7
          by_cases hrs : sumN S = C0
          · have hrI : (((sumN S : Nat) : Int) != (C0 : Int)) = false := by rw [hrs]; simp
            rw [if_neg (by simp [hrs])] at HE2
            have e2 : rtextS R = S := by rw [HSS.out, HE2.out]; rfl
            have E2 := Lib.hid e2
            rw [hrI]
            clear hrs e2 hrI
            go_wp2_with fail
            go_ret2
            exact ⟨by rw [HE2.out, E2.out]; rfl, HBL.out⟩
          · have hrI : (((sumN S : Nat) : Int) != (C0 : Int)) = true := by rw [bne_iff_ne]; omega
            rw [if_pos hrs] at HE2
            have e2 : rtextS R = ⟨#[]⟩ := by rw [HSS.out, HE2.out]; rfl
            have E2 := Lib.hid e2
            rw [hrI]
            clear hrs e2 hrI
            go_wp2_with fail
            go_ret2
            exact ⟨by rw [HE2.out, E2.out]; rfl, HBL.out⟩
end Go.Proofs.YthjbkgappjpanaaDoor
