/- The walk of the statement that runs and what is taken are the free blocks. Condition: the bytes lie in memory. -/
import Derived.Test.YtpkajmgfechhhaaMapE
namespace Go.Proofs.Ytpkajmgfechhhaa
open Go.RowKit

theorem sumR_take_le (R : List (Nat × Nat)) (k : Nat) : sumR (R.take k) ≤ sumR R := by
  have h : sumR R = sumR (R.take k) + sumR (R.drop k) := by
    conv => lhs; rw [← List.take_append_drop k R]
    simp only [sumR, List.map_append, List.sum_append]
  omega
theorem cnt_fill_low (f : Nat → Bool) (i : Nat) : ∀ j, j ≤ i → cnt (fillTo f i) j = j
  | 0, _ => rfl
  | j + 1, h => by
    have := cnt_fill_low f i j (by omega)
    simp only [cnt, this]
    have e : fillTo f i j = true := by unfold fillTo; simp; right; omega
    rw [e]; rfl
theorem cnt_fill (f : Nat → Bool) (i : Nat) : ∀ t, i ≤ t → cnt (fillTo f i) t = cnt f t + (frees f i).length
  | 0, h => by
    obtain rfl : i = 0 := by omega
    rfl
  | t + 1, h => by
    by_cases e : i = t + 1
    · subst e
      rw [cnt_fill_low f (t + 1) (t + 1) (Nat.le_refl _)]
      have := frees_length f (t + 1)
      omega
    · have h1 := cnt_fill f i t (by omega)
      have e2 : fillTo f i t = f t := by unfold fillTo; rw [show decide (t < i) = false by rw [decide_eq_false_iff_not]; omega, Bool.or_false]
      simp only [cnt, h1, e2]
      omega
def inR (x : Nat) (l : List (Nat × Nat)) : Bool := l.any fun r => decide (r.1 ≤ x) && decide (x < r.1 + r.2)
theorem inR_snoc (x : Nat) (l : List (Nat × Nat)) (r : Nat × Nat) : inR x (l ++ [r]) = (inR x l || (decide (r.1 ≤ x) && decide (x < r.1 + r.2))) := by simp [inR]
theorem inR_of {x : Nat} {l : List (Nat × Nat)} (h : ∃ r ∈ l, r.1 ≤ x ∧ x < r.1 + r.2) : inR x l = true := by
  obtain ⟨r, hr, h1, h2⟩ := h
  unfold inR
  rw [List.any_eq_true]
  exact ⟨r, hr, by simp [h1, h2]⟩
theorem ints_get (l : List Nat) (k : Nat) (h : k < l.length) : (ints l)[k]? = some (.int .i64 ((l[k] : Nat) : Int)) := by simp [ints, h]
theorem own_int {w : World} {base : Nat} {e : TypeId} {A : Option Addr} {n c : Nat} {l : List Nat} (h : w.ownsRow base e 1 (.slice A n c) n (ints l)) (k : Nat) (hk : k < n) :
    ∃ g, A = some ⟨g, 0, none⟩ ∧ base ≤ g ∧ g < w.heap.size ∧ ∀ j (_hj : j < n), ∃ hl : j < l.length, w.cell? ⟨g, j, none⟩ = some (.int .i64 ((l[j] : Nat) : Int)) := by
  obtain ⟨g, rfl, hb, hl⟩ := own_at h (by omega)
  have hll : l.length = n := by have := h.1; rw [ints_length] at this; omega
  refine ⟨g, rfl, hb, hl, fun j hj => ⟨by omega, ?_⟩⟩
  rw [h.cellAt j (by omega)]
  exact ints_get l j (by omega)
set_option maxRecDepth 100000 in
set_option maxHeartbeats 4000000 in
theorem whole_any (T num : Int) (A : Option Addr) (n c : Nat) (l : List Nat) (hn : n = l.length) (hz : n ≤ 140737488355000) (w : World) (hA : Seg w A (u8s l)) (hl : ∀ x ∈ l, x < 256) :
    Calls Try.prog 6 #[.int .i64 T, .slice A n c, .int .i64 num] w fun e w' => e = .returned (.bool true) ∧ Below w.heap.size w w' := by
  have HN := Lib.hid hn
  have HL := Lib.hid hl
  have HA := Lib.hid hA
  clear hn hl hA
  go_enter Try.func6, Try.ntmps6
  go_wp2_with fail
  refine (of_map T A n c l HN.out hz _ HA.out).mono ?_
  rintro e w1 ⟨A1, c1, rfl, hc1, s1, b1⟩
  have a1 : Below w1.heap.size w1 (w1.alloc (.cells #[.int .i64 T, .slice A1 n c1] 27)) := (Below.refl _ _).alloc (Nat.le_refl _) _
  have B1 := Lib.hid (below_step b1 a1)
  have S1 := Lib.hid (s1.bel a1)
  have X1 := Lib.hid (Bk.new w1 27 #[.int .i64 T, .slice A1 n c1])
  clear s1 b1 a1
  go_wp2_with fail
  generalize w1.alloc (.cells #[.int .i64 T, .slice A1 n c1] 27) = w2 at *
  by_cases hE : chk T l = 0
  · obtain ⟨hM, hT⟩ := MapIn.of_chk HN.out hc1 HL.out S1.out hE
    obtain ⟨t, rfl⟩ : ∃ t : Nat, T = (t : Int) := ⟨T.toNat, hT.symm⟩
    rw [Int.toNat_natCast] at hM
    have ht := hM.le
    clear hT hE
    generalize fOf t l = f at *
    have HM := Lib.hid hM
    clear hM
    have hfl := frees_length f t
    refine (free_ok t f A1 n c1 _ HM.out).mono ?_
    rintro e w3 ⟨rfl, b3⟩
    have M3 := Lib.hid (HM.out.bel b3)
    have X3 := Lib.hid (X1.out.bel b3)
    have B3 := Lib.hid (below_step B1.out b3)
    have y0 := X3.out.cell 0
    have y1 := X3.out.cell 1
    clear b3
    go_wp2_with fail
    refine (runs_ok t f A1 n c1 _ M3.out).mono ?_
    rintro e w4 ⟨v, rfl, o4, b4⟩
    obtain ⟨A4, c4, rfl, hc4⟩ := own_slice o4
    have M4 := Lib.hid (M3.out.bel b4)
    have X4 := Lib.hid (X3.out.bel b4)
    have B4 := Lib.hid (below_step B3.out b4)
    have O4 := Lib.hid o4
    have hsum := runsN_sum f t
    have hok := runsN_ok f t
    have hlen := runsN_length f t
    have hcov := runsN_cover f t
    clear b4 o4 y0 y1
    generalize runsN f t = R at *
    have HSum := Lib.hid hsum
    have HOk := Lib.hid hok
    have HCov := Lib.hid hcov
    clear hsum hok hcov
    go_wp2_with fail
    go_loopw [12, 13, 44] (fun s d i wr => ∃ k : Nat, ∃ e : Int, k ≤ R.length ∧ i = .int .i64 k ∧ s = .int .i64 ((sumR (R.take k) : Nat) : Int) ∧ d = .int .i64 e ∧ -1 ≤ e ∧ e ≤ t ∧ (∀ h : k < R.length, e < (R[k].1 : Int)) ∧ Below w4.heap.size w4 wr) (fun _ _ i _ => R.length - (intOf i).toNat)
    case atStart => exact ⟨0, -1, by omega, rfl, by simp [sumR], rfl, by omega, by omega, fun h => by omega, Below.refl _ _⟩
    case round =>
      obtain ⟨k, e, hk, rfl, rfl, rfl, he1, he2, he3, hb⟩ := hrel
      by_cases hlt : k < R.length
      · obtain ⟨g, rfl, hg1, hg2, hc0, hc1⟩ := own_pair (own_bel' O4.out hb) k hlt
        obtain ⟨p1, p2, p3⟩ := HOk.out.1 R[k] (List.getElem_mem hlt)
        have he4 := he3 hlt
        have hs := sumR_snoc (R.take k) R[k]
        rw [← List.take_succ_eq_append_getElem hlt] at hs
        have hnx : ∀ h : k + 1 < R.length, ((R[k].1 : Int) + (R[k].2 : Int)) < (R[k + 1].1 : Int) := fun h => by
          have := List.pairwise_iff_getElem.1 HOk.out.2 k (k + 1) hlt h (by omega)
          omega
        have HS := Lib.hid hs
        have HNx := Lib.hid hnx
        have HB := Lib.hid hb
        have hsb : sumR (R.take k) ≤ 2048 := by have := sumR_take_le R k; rw [HSum.out] at this; omega
        clear p3 he3 hs hnx hb
        generalize hq : R[k] = q at *
        clear hq
        generalize sumR (R.take k) = S at *
        go_wp2_with fail
        go_roundw
        case rel => exact ⟨k + 1, _, by omega, by go_num, by rw [HS.out]; go_num, rfl, by omega, by omega, HNx.out, HB.out.alloc HB.out.size _⟩
        case measure => simp [intOf]; omega
      · have hkl : k = R.length := by omega
        subst hkl
        rw [List.take_length, HSum.out]
        have B5 := Lib.hid (below_step B4.out hb)
        have M5 := Lib.hid (M4.out.bel hb)
        have X5 := Lib.hid (X4.out.bel hb)
        have O5 := Lib.hid (own_bel' O4.out hb)
        have y0 := X5.out.cell 0
        have y1 := X5.out.cell 1
        clear he1 he2 he3 hb
        by_cases hneg : num < 0
        · go_wp2_with fail
          refine (take_neg t f A1 n c1 num _ M5.out hneg).mono ?_
          rintro e w6 ⟨rfl, b6⟩
          have B6 := Lib.hid (below_step B5.out b6)
          have B7 := Lib.hid (B6.out.alloc B6.out.size (.cells #[.int .i64 0, .slice none 0 0] 27))
          clear b6 y0 y1
          go_wp2_with (go_at_call 13; refine (awake_map _).mono ?_; rintro e w8 ⟨rfl, b8⟩; have B8 := Lib.hid (below_step B7.out b8); clear b8)
          go_ret
          exact ⟨rfl, B8.out⟩
        · by_cases hbig : ((frees f t).length : Int) < num
          · go_wp2_with fail
            refine (take_big t f A1 n c1 num _ M5.out (by omega) hbig).mono ?_
            rintro e w6 ⟨rfl, b6⟩
            have B6 := Lib.hid (below_step B5.out b6)
            have B7 := Lib.hid (B6.out.alloc B6.out.size (.cells #[.int .i64 0, .slice none 0 0] 27))
            clear b6 y0 y1
            go_wp2_with (go_at_call 13; refine (awake_map _).mono ?_; rintro e w8 ⟨rfl, b8⟩; have B8 := Lib.hid (below_step B7.out b8); clear b8)
            go_ret
            exact ⟨rfl, B8.out⟩
          · obtain ⟨m, rfl⟩ : ∃ m : Nat, num = (m : Int) := ⟨num.toNat, by omega⟩
            have hm : m ≤ (frees f t).length := by omega
            clear hneg hbig
            go_wp2_with fail
            refine (take_ok t f A1 n c1 m _ M5.out hm).mono ?_
            rintro e w6 ⟨v6, A6, c6, i, rfl, hi, hL, o6, m6, b6⟩
            obtain ⟨A7, c7, rfl, hc7⟩ := own_slice o6
            have a7 : Below w6.heap.size w6 (w6.alloc (.cells #[.int .i64 (t : Int), .slice A6 n c6] 27)) := (Below.refl _ _).alloc (Nat.le_refl _) _
            have B7 := Lib.hid (below_step (below_step B5.out b6) a7)
            have O7 := Lib.hid (own_bel' (own_bel' O5.out b6) a7)
            have P7 := Lib.hid (own_bel' o6 a7)
            have M7 := Lib.hid (m6.bel a7)
            have X7 := Lib.hid (Bk.new w6 27 #[.int .i64 (t : Int), .slice A6 n c6])
            clear o6 m6 b6 a7 y0 y1
            have hf6 := frees_length (fillTo f i) t
            go_wp2_with fail
            generalize w6.alloc (.cells #[.int .i64 (t : Int), .slice A6 n c6] 27) = w7 at *
            refine (free_ok t (fillTo f i) A6 n c6 _ M7.out).mono ?_
            rintro e w8 ⟨rfl, b8⟩
            have B8 := Lib.hid (below_step B7.out b8)
            have O8 := Lib.hid (own_bel' O7.out b8)
            have P8 := Lib.hid (own_bel' P7.out b8)
            have hleft : (frees (fillTo f i) t).length + m = (frees f t).length := by
              have h1 := cnt_fill f i t hi
              have h2 := frees_length (fillTo f i) t
              omega
            have HI := Lib.hid hi
            have HL6 := Lib.hid hL
            clear b8 hf6 hL hi
            generalize (frees (fillTo f i) t).length = F' at *
            generalize (frees f t).length = F at *
            go_wp2_with fail
            go_loopw [98] (fun j wr => ∃ k : Nat, k ≤ m ∧ j = .int .i64 k ∧ Below w8.heap.size w8 wr) (fun j _ => m - (intOf j).toNat)
            case atStart => exact ⟨0, by omega, rfl, Below.refl _ _⟩
            case round =>
              obtain ⟨k, hk, rfl, hb⟩ := hrel
              by_cases hlt : k < m
              · obtain ⟨g, rfl, hg1, hg2, hcs⟩ := own_int (own_bel' P8.out hb) k hlt
                obtain ⟨hlx, hcx⟩ := hcs k hlt
                have hmem := List.getElem_mem hlx
                have hxf := frees_lt f i _ hmem
                have hxt := HI.out
                have hin := inR_of (HCov.out _ (by omega) hxf.2)
                have HB := Lib.hid hb
                have hx2 : (frees f i)[k] ≤ 2048 := by omega
                have HPrev := Lib.hid (show ∀ h : 0 < k, ∃ y, wr.cell? ⟨g, k - 1, none⟩ = some (.int .i64 ((y : Nat) : Int)) ∧ y < (frees f i)[k] from fun h => by
                  obtain ⟨hl2, hc2⟩ := hcs (k - 1) (by omega)
                  exact ⟨_, hc2, List.pairwise_iff_getElem.1 (frees_sorted f i) (k - 1) k hl2 hlx (by omega)⟩)
                have HIn := Lib.hid hin
                have HO := Lib.hid (own_bel' O8.out hb)
                clear hcs hmem hxf hxt hin hb
                generalize (frees f i)[k] = x at *
                go_wp2_with fail
                go_loopw [23, 105] (fun b j wi => ∃ q : Nat, q ≤ R.length ∧ j = .int .i64 q ∧ b = .bool (inR x (R.take q)) ∧ Below wr.heap.size wr wi) (fun _ j _ => R.length - (intOf j).toNat)
                case atStart => exact ⟨0, by omega, rfl, rfl, Below.refl _ _⟩
                case round =>
                  obtain ⟨q, hq, rfl, rfl, hb⟩ := hrel
                  by_cases hlq : q < R.length
                  · obtain ⟨g', rfl, hg1', hg2', hc0, hc1⟩ := own_pair (own_bel' HO.out hb) q hlq
                    obtain ⟨p1, p2, p3⟩ := HOk.out.1 R[q] (List.getElem_mem hlq)
                    have hs := inR_snoc x (R.take q) R[q]
                    rw [← List.take_succ_eq_append_getElem hlq] at hs
                    have HS := Lib.hid hs
                    have HBi := Lib.hid hb
                    clear p3 hs hb hcx
                    generalize hr : R[q] = r at *
                    clear hr
                    generalize inR x (R.take q) = b at *
                    have hr1 : r.1 + r.2 ≤ 2048 := by omega
                    rcases b with _ | _
                    · by_cases h1 : r.1 ≤ x
                      · by_cases h2 : x < r.1 + r.2
                        · have h1' : ((r.1 : Nat) : Int) ≤ (x : Int) := by omega
                          have h2' : (x : Int) < ((r.1 : Nat) : Int) + ((r.2 : Nat) : Int) := by omega
                          have HT := Lib.hid (show inR x (R.take (q + 1)) = true by rw [HS.out]; simp [h1, h2])
                          clear HS
                          go_wp2_with fail
                          go_roundw
                          case rel => exact ⟨q + 1, by omega, by go_num, by rw [HT.out], HBi.out.alloc HBi.out.size _⟩
                          case measure => simp [intOf]; omega
                        · have h1' : ((r.1 : Nat) : Int) ≤ (x : Int) := by omega
                          have h2' : ¬ (x : Int) < ((r.1 : Nat) : Int) + ((r.2 : Nat) : Int) := by omega
                          have HT := Lib.hid (show inR x (R.take (q + 1)) = false by rw [HS.out]; simp [h2])
                          clear HS
                          go_wp2_with fail
                          go_roundw
                          case rel => exact ⟨q + 1, by omega, by go_num, by rw [HT.out], HBi.out.alloc HBi.out.size _⟩
                          case measure => simp [intOf]; omega
                      · have h1' : ¬ ((r.1 : Nat) : Int) ≤ (x : Int) := by omega
                        have HT := Lib.hid (show inR x (R.take (q + 1)) = false by rw [HS.out]; simp [h1])
                        clear HS
                        go_wp2_with fail
                        go_roundw
                        case rel => exact ⟨q + 1, by omega, by go_num, by rw [HT.out], HBi.out.alloc HBi.out.size _⟩
                        case measure => simp [intOf]; omega
                    · have HT := Lib.hid (show inR x (R.take (q + 1)) = true by rw [HS.out]; simp)
                      clear HS
                      go_wp2_with fail
                      go_roundw
                      case rel => exact ⟨q + 1, by omega, by go_num, by rw [HT.out], HBi.out.alloc HBi.out.size _⟩
                      case measure => simp [intOf]; omega
                  · have hkl : q = R.length := by omega
                    subst hkl
                    rw [List.take_length, HIn.out]
                    have HB2 := Lib.hid (HB.out.trans (hb.mono HB.out.size))
                    by_cases h0 : 0 < k
                    · obtain ⟨y, hy1, hy2⟩ := HPrev.out h0
                      have hy3 := hb.cell (p := ⟨g, k - 1, none⟩) hg2
                      rw [hy1] at hy3
                      have h0' : (0 : Int) < (k : Int) := by omega
                      have hkm : (k : Int) - 1 < (m : Int) := by omega
                      have hyx : ¬ (x : Int) ≤ (y : Int) := by omega
                      obtain ⟨k', rfl⟩ : ∃ k', k = k' + 1 := ⟨k - 1, by omega⟩
                      rw [Nat.add_sub_cancel] at hy3
                      clear hb hy1 hy2 hcx
                      go_wp2_with fail
                      go_roundw
                      case rel => exact ⟨k' + 1 + 1, by omega, by go_num, HB2.out⟩
                      case measure => simp [intOf]; omega
                    · obtain rfl : k = 0 := by omega
                      clear hb hcx
                      go_wp2_with fail
                      go_roundw
                      case rel => exact ⟨0 + 1, by omega, by go_num, HB2.out⟩
                      case measure => simp [intOf]; omega
              · obtain rfl : k = m := by omega
                have B9 := Lib.hid (below_step B8.out hb)
                have hfe : ((F' : Int) == (F : Int) - (k : Int)) = true := by rw [beq_iff_eq]; omega
                have hkF : (k : Int) ≤ (F : Int) := by omega
                clear hb
                go_wp2_with (go_at_call 13; refine (awake_map _).mono ?_; rintro e w10 ⟨rfl, b10⟩; have B10 := Lib.hid (below_step B9.out b10); clear b10)
                go_ret
                exact ⟨rfl, B10.out⟩
  · have H0 := Lib.hid hE
    refine (free_no T A1 n c1 _ l HN.out hz HL.out _ S1.out rfl hE).mono ?_
    rintro e w3 ⟨rfl, b3⟩
    have hne : (((chk T l : Nat) : Int) != 0) = true := by rw [bne_iff_ne]; omega
    have hle := chk_le T l
    have B3 := Lib.hid (below_step B1.out b3)
    clear b3 hE
    generalize chk T l = E at *
    go_wp2_with (go_at_call 13; refine (awake_map _).mono ?_; rintro e w4 ⟨rfl, b4⟩; have B4 := Lib.hid (below_step B3.out b4); clear b4)
    go_ret
    exact ⟨rfl, B4.out⟩
end Go.Proofs.Ytpkajmgfechhhaa
