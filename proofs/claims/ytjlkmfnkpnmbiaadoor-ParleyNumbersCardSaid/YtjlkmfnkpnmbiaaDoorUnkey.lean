/- The walks of keys read back, and of the reference's keys. Conditions: the bytes lie in memory. -/
import Derived.Test.YtjlkmfnkpnmbiaaDoorKey
import Derived.Test.YtjlkmfnkpnmbiaaDoorRef
namespace Go.Proofs.YtjlkmfnkpnmbiaaDoor
open Go.RowKit

theorem val_snoc (l : List Nat) (c : Nat) : valN (l ++ [c]) = valN l * 256 + c := by simp [valN]
theorem val_pow (l : List Nat) (hb : ∀ x ∈ l, x < 256) : valN l < 256 ^ l.length := by
  suffices h : ∀ (l : List Nat) (r : Nat), (∀ x ∈ l, x < 256) → l.foldl (fun r c => r * 256 + c) r < (r + 1) * 256 ^ l.length by
    have := h l 0 hb
    simpa [valN] using this
  intro l
  induction l with
  | nil => intro r _; simp
  | cons x l ih =>
    intro r hb
    have hx := hb x (by simp)
    refine Nat.lt_of_lt_of_le (ih (r * 256 + x) (fun y hy => hb y (by simp [hy]))) ?_
    rw [List.length_cons, Nat.pow_succ, Nat.mul_comm (256 ^ l.length), ← Nat.mul_assoc]
    exact Nat.mul_le_mul_right _ (by omega)
theorem val_take (l : List Nat) (hb : ∀ x ∈ l, x < 256) (k : Nat) (hk : k < 8) : valN (l.take k) < 72057594037927936 := by
  have h := val_pow (l.take k) (fun x hx => hb x (List.mem_of_mem_take hx))
  have h2 : (l.take k).length ≤ 7 := by rw [List.length_take]; omega
  exact Nat.lt_of_lt_of_le h (Nat.pow_le_pow_right (by omega) h2)
theorem or_byte (R C : Nat) (hR : R < 72057594037927936) (hC : C < 256) : bits .or .u64 ((R : Int) * 256) (C : Int) = ((R * 256 + C : Nat) : Int) := by
  rw [show (R : Int) * 256 = ((R * 256 : Nat) : Int) by simp, u64_or_nat _ _ (by omega) (by omega)]
  congr 1
  have := Nat.two_pow_add_eq_or_of_lt (i := 8) (b := C) hC R
  rw [show (2 : Nat) ^ 8 * R = R * 256 by omega] at this
  exact this.symm
theorem not_ok {l : List Nat} (h : l.length ≠ 8) : unkeyOk l = false ∧ unkeyF l = 0 := by
  have h1 : unkeyOk l = false := by unfold unkeyOk; simp [h]
  exact ⟨h1, by unfold unkeyF; rw [if_neg (by rw [h1]; simp)]⟩

set_option maxRecDepth 100000 in
theorem unkey_any (A : Option Addr) (n c : Nat) (l : List Nat) (hn : n = l.length) (w : World) (hA : Seg w A (u8s l)) (hl : ∀ x ∈ l, x < 256) :
    Calls Tryd.prog 26 #[.slice A n c] w fun e w' => e = .returned (.tuple #[.float .f64 (unkeyF l), .bool (unkeyOk l)]) ∧ w = w' := by
  have HA := Lib.hid hA
  have HL := Lib.hid hl
  have HN := Lib.hid hn
  clear hA hl hn
  by_cases h8 : n = 8
  · have hU : unkeyF l = unrankF (valN l) ∧ unkeyOk l = unrankOk (valN l) := by
      have : unkeyOk l = unrankOk (valN l) := by unfold unkeyOk unrankOk; rw [← HN.out, h8]; simp
      exact ⟨by unfold unkeyF unrankF; rw [this]; simp [unrankOk], this⟩
    have HU := Lib.hid hU
    have HV := Lib.hid (val_lt l (by rw [← HN.out, h8]) HL.out)
    clear hU
    subst h8
    go_enter Tryd.func26, Tryd.ntmps26
    go_wp2
    go_loop [4, 12] (fun r i => ∃ k : Nat, k ≤ 8 ∧ i = .int .i64 k ∧ r = .int .u64 ((valN (l.take k) : Nat) : Int)) (fun _ i => 8 - (intOf i).toNat)
    case atStart => exact ⟨0, by omega, rfl, rfl⟩
    case round =>
      obtain ⟨k, hk, rfl, rfl⟩ := hrel
      by_cases hlt : k < 8
      · have hlt' : k < l.length := by rw [← HN.out]; exact hlt
        obtain ⟨b, off, rfl, hbl, _, hc⟩ := HA.out.pick (k := k) (by rw [u8s_length]; exact hlt')
        rw [u8s_get l k hlt'] at hc
        have hR := val_take l HL.out k hlt
        have hC := HL.out _ (List.getElem_mem hlt')
        have hs := val_snoc (l.take k) l[k]
        rw [← List.take_succ_eq_append_getElem hlt'] at hs
        obtain ⟨R, hR'⟩ : ∃ R, R = valN (l.take k) := ⟨_, rfl⟩
        obtain ⟨C, hC'⟩ : ∃ C, C = l[k] := ⟨_, rfl⟩
        rw [← hR'] at hR hs ⊢
        rw [← hC'] at hC hs hc
        have e1 := or_byte R C hR hC
        have HS := Lib.hid hs
        clear hs hR' hC'
        go_wp2
        go_round
        case rel => exact ⟨k + 1, by omega, by go_num, by rw [HS.out]; simp⟩
        case measure => simp [intOf]; omega
      · obtain rfl : k = 8 := by omega
        have HE := Lib.hid (show valN (l.take 8) = valN l by rw [List.take_of_length_le (by rw [← HN.out]; omega)])
        rw [HE.out]
        have HX := HU
        have hun := Lib.hid (unrank_calls (valN l) HV.out)
        obtain ⟨V, hV⟩ : ∃ V, V = valN l := ⟨_, rfl⟩
        have HVV := Lib.hid hV
        rw [← hV] at hun ⊢
        clear hV HE HU HV
        go_wp2_with (go_at_call 46; refine (hun.out _).mono ?_; rintro e w' ⟨rfl, rfl⟩)
        go_ret2
        exact ⟨by rw [HX.out.1, HX.out.2, ← HVV.out]; rfl, rfl⟩
  · have hne : ((n : Int) != 8) = true := by rw [bne_iff_ne]; omega
    have HF := Lib.hid (not_ok (l := l) (by rw [← HN.out]; exact h8))
    clear h8
    go_enter Tryd.func26, Tryd.ntmps26
    go_wp2
    go_ret2
    exact ⟨by rw [HF.out.1, HF.out.2]; rfl, rfl⟩

theorem info5 : (Tryd.prog.info? 5).map (fun i => (i.zero, i.size, i.bytes)) = some (some (.int .u8 0), 1, 1) := by kernel_rfl
theorem sh63 (U : Nat) (hU : U < 18446744073709551616) : ((U : Int) / 9223372036854775808 == 1) = negB U := by
  unfold negB
  by_cases h : 9223372036854775808 ≤ U
  · rw [decide_eq_true h]; rw [beq_iff_eq]; omega
  · rw [decide_eq_false h]; rw [beq_eq_false_iff_ne]; omega
theorem dig_int (U k : Nat) (hk : k < 8) : (U : Int) / 2 ^ (56 - 8 * k) % 256 = ((dig8 U k : Nat) : Int) := by
  unfold dig8
  rw [show 56 - 8 * k = 8 * (7 - k) by omega]
  simp
theorem refkeys_step (l : List Nat) (D : Nat) (v : Int) (h : v = (D : Int)) : u8s l ++ [Value.int .u8 v] = u8s (l ++ [D]) := by subst h; simp [u8s]

set_option maxRecDepth 100000 in
set_option maxHeartbeats 1000000 in
theorem refkey_any (u : Nat) (hu : u < 18446744073709551616) (w : World) :
    Calls Tryd.prog 29 #[.int .u64 u] w fun e w' => ∃ A c, e = .returned (.slice A 8 c) ∧ 8 ≤ c ∧ Seg w' A (u8s (digs (rankN u))) ∧ Below w.heap.size w w' := by
  obtain ⟨i0, hi0, hz0, hz1, hz2⟩ := info_parts info5
  have HU := Lib.hid hu
  have hUl := bitsN_lt u hu
  have HD := Lib.hid (fun i hi => ref_dig u i hu hi)
  clear hu
  generalize hU : bitsN u = U at *
  have HE := Lib.hid hU
  clear hU
  have hs := sh63 U hUl
  have hfirst : negB U = false → dig8 U 0 < 128 := by
    intro h
    unfold negB at h
    simp only [decide_eq_false_iff_not] at h
    simp [dig8]; omega
  go_enter Tryd.func29, Tryd.ntmps29
  go_wp2_with (go_at_call 17; refine (refbits_any _ HU.out _).mono ?_; rintro e w' ⟨rfl, rfl⟩; rw [HE.out])
  have hstart := World.ownsRow_lit (w := w) (base := w.heap.size) (e := 5) (size := 1) #[] 0 (Nat.le_refl _) (by decide) rfl
  go_loopw [3, 4] (fun v i wr => ∃ k : Nat, k ≤ 8 ∧ i = .int .i64 k ∧ wr.ownsRow w.heap.size 5 1 v k (u8s ((List.range k).map (refDig U))) ∧ Below w.heap.size w wr) (fun _ i _ => 8 - (intOf i).toNat)
  case atStart => exact ⟨0, by omega, rfl, hstart, (Below.refl _ _).alloc (Nat.le_refl _) _⟩
  case round =>
    obtain ⟨k, hk, rfl, hown, hb⟩ := hrel
    have HW := Lib.hid hb
    have HO := Lib.hid hown
    have hsz := hb.size
    clear hb hown hstart
    by_cases hlt : k < 8
    · have e1 := dig_int U k hlt
      have hd := dig8_lt U k
      have hsn : (List.range (k + 1)).map (refDig U) = (List.range k).map (refDig U) ++ [refDig U k] := by rw [List.range_succ, List.map_append]; rfl
      have HS := Lib.hid (show ∀ v : Int, v = ((refDig U k : Nat) : Int) → u8s ((List.range k).map (refDig U)) ++ [Value.int .u8 v] = u8s ((List.range (k + 1)).map (refDig U)) from fun v h => by rw [hsn]; exact refkeys_step _ _ v h)
      clear hsn
      cases hn : negB U
      · rw [hn] at hs
        by_cases h0 : k = 0
        · subst h0
          have hf := hfirst hn
          have HR := Lib.hid (show refDig U 0 = dig8 U 0 + 128 by unfold refDig; rw [hn]; simp; omega)
          have hq : ((dig8 U 0 : Nat) : Int) = (U : Int) / 72057594037927936 := by simp [dig8]; omega
          have HQ := Lib.hid hq
          have hq2 : (U : Int) / 72057594037927936 < 128 := by omega
          clear hfirst hn hq e1 hf hd
          go_wp2_with (at_builtin; refine wpList_append_seg _ rfl _ _ _ rfl w.heap.size 5 i0 _ 1 Tryd.underlying44 hi0 hz0 hz1 hz2 rfl _ 0 _ rfl (own_alloc HO.out _) (some ⟨wr.heap.size, 0, none⟩) 1 1 [.int .u8 ((U : Int) / 72057594037927936 + 128)] rfl rfl (seg_new _ _ _) (by simp [Value.oneCell']) (by simp only [maxLen]; omega) (by omega) (by simp; omega) ?_; intro v' w1 hown1 hb1)
          go_roundw
          case rel => exact ⟨0 + 1, by omega, by go_num, by have q := HS.out ((U : Int) / 72057594037927936 + 128) (by rw [HR.out, ← HQ.out]; simp); rw [q] at hown1; exact hown1, (HW.out.alloc hsz _).trans hb1⟩
          case measure => simp [intOf]
        · have HR := Lib.hid (show refDig U k = dig8 U k by unfold refDig; rw [hn]; simp [h0])
          have hk0 : ((k : Int) == 0) = false := by rw [beq_eq_false_iff_ne]; omega
          clear hfirst hn
          generalize dig8 U k = D at *
          go_wp2_with (at_builtin; refine wpList_append_seg _ rfl _ _ _ rfl w.heap.size 5 i0 _ 1 Tryd.underlying44 hi0 hz0 hz1 hz2 rfl _ k _ rfl (own_alloc HO.out _) (some ⟨wr.heap.size, 0, none⟩) 1 1 [.int .u8 ((D : Int))] rfl rfl (seg_new _ _ _) (by simp [Value.oneCell']) (by simp only [maxLen]; omega) (by omega) (by simp; omega) ?_; intro v' w1 hown1 hb1)
          go_roundw
          case rel => exact ⟨k + 1, by omega, by go_num, by have q := HS.out ((D : Int)) (by rw [HR.out]); rw [q] at hown1; exact hown1, (HW.out.alloc hsz _).trans hb1⟩
          case measure => simp [intOf]; omega
      · rw [hn] at hs
        have HR := Lib.hid (show refDig U k = 255 - dig8 U k by unfold refDig; rw [hn]; simp)
        clear hfirst hn
        generalize dig8 U k = D at *
        go_wp2_with (at_builtin; refine wpList_append_seg _ rfl _ _ _ rfl w.heap.size 5 i0 _ 1 Tryd.underlying44 hi0 hz0 hz1 hz2 rfl _ k _ rfl (own_alloc HO.out _) (some ⟨wr.heap.size, 0, none⟩) 1 1 [.int .u8 (255 - (D : Int))] rfl rfl (seg_new _ _ _) (by simp [Value.oneCell']) (by simp only [maxLen]; omega) (by omega) (by simp; omega) ?_; intro v' w1 hown1 hb1)
        go_roundw
        case rel => exact ⟨k + 1, by omega, by go_num, by have q := HS.out (255 - (D : Int)) (by rw [HR.out]; omega); rw [q] at hown1; exact hown1, (HW.out.alloc hsz _).trans hb1⟩
        case measure => simp [intOf]; omega
    · obtain rfl : k = 8 := by omega
      have hl : (List.range 8).map (refDig U) = digs (rankN u) := by
        unfold digs
        exact List.map_congr_left fun i hi => HD.out i (by simpa using hi)
      obtain ⟨A, c, rfl, hc, hS⟩ := own_shape HO.out
      rw [hl] at hS
      have HF := Lib.hid (And.intro hc (And.intro hS HW.out))
      clear hl hc hS HO HW hsz
      go_wp2
      go_ret
      exact ⟨A, c, rfl, HF.out.1, HF.out.2.1, HF.out.2.2⟩

theorem same_u8 (A A' : Option Addr) (n m c c' : Nat) (xs ys : List Nat) (hn : n = xs.length) (hm : m = ys.length) (w : World) (hA : Seg w A (u8s xs)) (hA' : Seg w A' (u8s ys)) (hx : n ≤ 1000000000) (hy : m ≤ 1000000000) :
    Calls Tryd.prog 28 #[.slice A n c, .slice A' m c'] w fun e w' => e = .returned (.bool (decide (xs = ys))) ∧ Below w.heap.size w w' := by
  subst hn hm
  have h := same_any A A' c c' (xs.map fun (x : Nat) => (x : Int)) (ys.map fun (x : Nat) => (x : Int)) w hA hA' (by simpa using hx) (by simpa using hy)
  simp only [List.length_map] at h
  have e : decide ((xs.map fun (x : Nat) => (x : Int)) = ys.map fun (x : Nat) => (x : Int)) = decide (xs = ys) := by
    congr 1
    apply propext
    exact ⟨fun h => (List.map_inj_right (fun a b h => Int.ofNat.inj h)).1 h, fun h => by rw [h]⟩
  rw [e] at h
  exact h
theorem refVal_snoc (l : List Nat) (k : Nat) : refVal l (k + 1) = refVal l k * 256 + refTurn (l.getD 0 0) k (l.getD k 0) := by
  unfold refVal
  rw [List.range_succ, List.map_append, List.foldl_append]; rfl
theorem refTurn_lt (h i c : Nat) (hc : c < 256) : refTurn h i c < 256 := by unfold refTurn; split <;> (try split) <;> omega
theorem refVal_lt (l : List Nat) (hl : ∀ x ∈ l, x < 256) (k : Nat) (hk : k < 8) : refVal l k < 72057594037927936 := by
  have h := val_pow ((List.range k).map fun i => refTurn (l.getD 0 0) i (l.getD i 0)) (by
    intro x hx
    simp only [List.mem_map] at hx
    obtain ⟨i, _, rfl⟩ := hx
    refine refTurn_lt _ _ _ ?_
    by_cases hi : i < l.length
    · rw [show l.getD i 0 = l[i] by simp [hi]]; exact hl _ (List.getElem_mem hi)
    · rw [show l.getD i 0 = 0 by simp [List.getD, List.getElem?_eq_none (by omega : l.length ≤ i)]]; omega)
  have h2 : ((List.range k).map fun i => refTurn (l.getD 0 0) i (l.getD i 0)).length ≤ 7 := by simp; omega
  exact Nat.lt_of_lt_of_le h (Nat.pow_le_pow_right (by omega) h2)

set_option maxRecDepth 100000 in
set_option maxHeartbeats 1000000 in
theorem refunkey_any (A : Option Addr) (n c : Nat) (l : List Nat) (hn : n = l.length) (w : World) (hA : Seg w A (u8s l)) (hl : ∀ x ∈ l, x < 256) (hx : n ≤ 1000000000000000) :
    Calls Tryd.prog 27 #[.slice A n c] w fun e w' => e = .returned (.tuple #[.int .u64 ((unkeyF l : Nat) : Int), .bool (unkeyOk l)]) ∧ Below w.heap.size w w' := by
  have HA := Lib.hid hA
  have HL := Lib.hid hl
  have HN := Lib.hid hn
  clear hA hl hn
  by_cases h8 : n = 8
  · have HR := Lib.hid (ref_val l (by rw [← HN.out, h8]) HL.out)
    have HK := Lib.hid (ref_ok l (by rw [← HN.out, h8]) HL.out)
    have HV := Lib.hid (unrankB_lt _ (val_lt l (by rw [← HN.out, h8]) HL.out))
    have HF := Lib.hid (show unkeyF l = if unkeyOk l = true then unrankB (valN l) else 0 from rfl)
    subst h8
    go_enter Tryd.func27, Tryd.ntmps27
    go_wp2
    go_loop [4, 12] (fun r i => ∃ k : Nat, k ≤ 8 ∧ i = .int .i64 k ∧ r = .int .u64 ((refVal l k : Nat) : Int)) (fun _ i => 8 - (intOf i).toNat)
    case atStart => exact ⟨0, by omega, rfl, rfl⟩
    case round =>
      obtain ⟨k, hk, rfl, rfl⟩ := hrel
      by_cases hlt : k < 8
      · have hlt' : k < l.length := by rw [← HN.out]; exact hlt
        obtain ⟨b, off, rfl, hbl, hall, hc⟩ := HA.out.pick (k := k) (by rw [u8s_length]; exact hlt')
        rw [u8s_get l k hlt'] at hc
        have hc0 := hall 0 (by rw [u8s_length]; omega)
        have h0l : 0 < l.length := by omega
        rw [List.getElem?_eq_getElem (by rw [u8s_length]; exact h0l), u8s_get l 0 h0l] at hc0
        simp only [Nat.add_zero] at hc0
        have hC := HL.out _ (List.getElem_mem hlt')
        have hF := HL.out _ (List.getElem_mem h0l)
        have hb := refVal_lt l HL.out k hlt
        have hs := refVal_snoc l k
        rw [show l.getD 0 0 = l[0] by simp [h0l], show l.getD k 0 = l[k] by simp [hlt']] at hs
        obtain ⟨R, hR'⟩ : ∃ R, R = refVal l k := ⟨_, rfl⟩
        obtain ⟨C, hC'⟩ : ∃ C, C = l[k] := ⟨_, rfl⟩
        obtain ⟨F, hF'⟩ : ∃ F, F = l[0] := ⟨_, rfl⟩
        have h00 : k = 0 → C = F := by intro e; subst e; rw [hC', hF']
        rw [← hR'] at hb hs ⊢
        rw [← hC'] at hC hs hc
        rw [← hF'] at hF hs hc0
        have HS := Lib.hid hs
        clear hs hR' hC' hF' hall
        by_cases hf : F < 128
        · have HT := Lib.hid (show refTurn F k C = 255 - C by unfold refTurn; rw [if_pos hf])
          go_wp2
          go_round
          case rel => exact ⟨k + 1, by omega, by go_num, by rw [HS.out, HT.out]; simp; omega⟩
          case measure => simp [intOf]; omega
        · by_cases h0 : k = 0
          · have HT := Lib.hid (show refTurn F k C = C - 128 by unfold refTurn; rw [if_neg hf, if_pos h0])
            have hCF := h00 h0
            subst h0
            subst hCF
            clear h00
            go_wp2
            go_round
            case rel => exact ⟨0 + 1, by omega, by go_num, by rw [HS.out, HT.out]; simp; omega⟩
            case measure => simp [intOf]
          · have HT := Lib.hid (show refTurn F k C = C by unfold refTurn; rw [if_neg hf, if_neg h0])
            have hk0 : ((k : Int) == 0) = false := by rw [beq_eq_false_iff_ne]; omega
            clear h00
            go_wp2
            go_round
            case rel => exact ⟨k + 1, by omega, by go_num, by rw [HS.out, HT.out]; simp; omega⟩
            case measure => simp [intOf]; omega
      · obtain rfl : k = 8 := by omega
        have hkey := Lib.hid (refkey_any (unrankB (valN l)) HV.out)
        rw [HR.out]
        have hsame := HK.out
        have HF2 := Lib.hid HF.out
        obtain ⟨V, hV⟩ : ∃ V, V = unrankB (valN l) := ⟨_, rfl⟩
        have HVV := Lib.hid hV
        rw [← hV] at hkey hsame ⊢
        clear hV HR HK HV HF
        cases ho : unkeyOk l
        · have HF3 := HF2.out
          rw [ho] at hsame HF3
          rw [if_neg (by simp)] at HF3
          have HF4 := Lib.hid HF3
          clear HF3 HF2
          go_wp2_with (first | (go_at_call 29; refine (hkey.out _).mono ?_; rintro e w1 ⟨A2, c2, rfl, hc2, hS2, hb2⟩; have HS2 := Lib.hid hS2; have HB2 := Lib.hid hb2; clear hS2 hb2) | (go_at_call 28; refine (same_u8 A2 A 8 8 c2 c (digs (rankN V)) l (digs_length _).symm HN.out _ HS2.out (HA.out.bel HB2.out) (by omega) (by omega)).mono ?_; rintro e w2 ⟨rfl, hb3⟩; have HB3 := Lib.hid hb3; clear hb3))
          go_ret2
          exact ⟨by rw [HF4.out, ho]; rfl, below_step HB2.out HB3.out⟩
        · have HF3 := HF2.out
          rw [ho] at hsame HF3
          rw [if_pos rfl, ← HVV.out] at HF3
          have HF4 := Lib.hid HF3
          clear HF3 HF2
          go_wp2_with (first | (go_at_call 29; refine (hkey.out _).mono ?_; rintro e w1 ⟨A2, c2, rfl, hc2, hS2, hb2⟩; have HS2 := Lib.hid hS2; have HB2 := Lib.hid hb2; clear hS2 hb2) | (go_at_call 28; refine (same_u8 A2 A 8 8 c2 c (digs (rankN V)) l (digs_length _).symm HN.out _ HS2.out (HA.out.bel HB2.out) (by omega) (by omega)).mono ?_; rintro e w2 ⟨rfl, hb3⟩; have HB3 := Lib.hid hb3; clear hb3))
          go_ret2
          exact ⟨by rw [HF4.out, ho]; rfl, below_step HB2.out HB3.out⟩
  · have hne : ((n : Int) != 8) = true := by rw [bne_iff_ne]; omega
    have HF := Lib.hid (not_ok (l := l) (by rw [← HN.out]; exact h8))
    clear h8
    go_enter Tryd.func27, Tryd.ntmps27
    go_wp2
    go_ret2
    exact ⟨by rw [HF.out.1, HF.out.2]; rfl, Below.refl _ _⟩
end Go.Proofs.YtjlkmfnkpnmbiaaDoor
