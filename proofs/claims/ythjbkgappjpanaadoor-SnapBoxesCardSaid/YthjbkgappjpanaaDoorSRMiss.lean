/- The reference's list of what is wanting. Condition: the pieces lie in memory. -/
import Derived.Test.YthjbkgappjpanaaDoorSFind
import Derived.Test.YthjbkgappjpanaaDoorSMiss
import Derived.Test.YthjbkgappjpanaaDoorTwo
namespace Go.Proofs.YthjbkgappjpanaaDoor
open Go.RowKit

def thR (R : List PcM) (i : Nat) : Bool := (fnd R i).isSome
theorem row_head {w : World} {B n c : Nat} {A : Option Addr} {R : List PcM} (hn : n = R.length) (ho : w.ownsRow B 33 4 (.slice A n c) n (rpV R)) (h0 : 0 < n) :
    ∃ g p0 R', A = some ⟨g, 0, none⟩ ∧ B ≤ g ∧ g < w.heap.size ∧ R = p0 :: R' ∧ w.cell? ⟨g, 1, none⟩ = some (.int .i64 (p0.t : Int)) ∧ w.cell? ⟨g, 2, none⟩ = some (.int .u32 (p0.c : Int)) := by
  obtain ⟨g, cap, hv, hb, hlt⟩ := ho.form h0
  obtain rfl : A = some ⟨g, 0, none⟩ := by injection hv
  rcases R with _ | ⟨p0, R'⟩
  · simp at hn; omega
  · have hc := ho.cells (g := g) rfl
    have c1 := hc 1 (.int .i64 (p0.t : Int)) rfl
    have c2 := hc 2 (.int .u32 (p0.c : Int)) rfl
    rw [show ((⟨g, 0, none⟩ : Addr).add 1) = ⟨g, 1, none⟩ by unfold Addr.add; split <;> simp_all] at c1
    rw [show ((⟨g, 0, none⟩ : Addr).add 2) = ⟨g, 2, none⟩ by unfold Addr.add; split <;> simp_all] at c2
    exact ⟨g, p0, R', rfl, hb, hlt, rfl, c1, c2⟩
set_option maxRecDepth 100000 in
set_option maxHeartbeats 1000000 in
theorem rmiss_none (A : Option Addr) (c : Nat) (w : World) :
    Calls Tryd.prog 17 #[.slice A 0 c] w fun e w' => ∃ A' c', e = .returned (.slice A' 0 c') ∧ Below w.heap.size w w' := by
  have HB := Lib.hid ((Below.refl w.heap.size w).alloc (Nat.le_refl _) (.cells #[] 3))
  go_enter Tryd.func17, Tryd.ntmps17
  go_wp2_with fail
  go_loopw [3, 4] (fun v i wr => v = .slice (some ⟨w.heap.size, 0, none⟩) 0 0 ∧ i = .int .i64 0 ∧ Below w.heap.size w wr) (fun _ _ _ => 0)
  case atStart => exact ⟨rfl, rfl, HB.out⟩
  case round =>
    obtain ⟨rfl, rfl, hb⟩ := hrel
    have HB2 := Lib.hid hb
    clear hb
    go_wp2_with fail
    go_ret
    exact ⟨_, _, rfl, HB2.out⟩
set_option maxRecDepth 100000 in
set_option maxHeartbeats 2000000 in
theorem rmiss_some (A : Option Addr) (n c B : Nat) (p0 : PcM) (R' : List PcM) (w : World) (hn : n = (p0 :: R').length) (ho : w.ownsRow B 33 4 (.slice A n c) n (rpV (p0 :: R'))) (hs : n ≤ 1000) (hT : p0.t ≤ 100) :
    Calls Tryd.prog 17 #[.slice A n c] w fun e w' => ∃ A' c', e = .returned (.slice A' (missN (thR (p0 :: R')) p0.t).length c') ∧ w'.ownsRow w.heap.size 3 1 (.slice A' (missN (thR (p0 :: R')) p0.t).length c') (missN (thR (p0 :: R')) p0.t).length (ints (missN (thR (p0 :: R')) p0.t)) ∧ Below w.heap.size w w' := by
  obtain ⟨j0, hj0, hy0, hy1, hyb⟩ := info_parts infoInt
  have hn0 : 0 < n := by rw [hn]; simp
  obtain ⟨g, q0, R2, rfl, _, hlt, hR, c1, _⟩ := row_head hn ho hn0
  obtain ⟨rfl, rfl⟩ : p0 = q0 ∧ R' = R2 := by injection hR with h1 h2; exact ⟨h1, h2⟩
  clear hR
  obtain ⟨R, hRR⟩ : ∃ R, R = p0 :: R' := ⟨_, rfl⟩
  rw [← hRR] at hn ho ⊢
  obtain ⟨T, hTT⟩ : ∃ T, T = p0.t := ⟨_, rfl⟩
  rw [← hTT] at hT c1 ⊢
  have hn1 : (0 : Int) < (n : Int) := by omega
  have HN := Lib.hid hn
  have HO := Lib.hid ho
  have HB := Lib.hid ((Below.refl w.heap.size w).alloc (Nat.le_refl _) (.cells #[] 3))
  have O0 := Lib.hid (show (w.alloc (.cells #[] 3)).ownsRow w.heap.size 3 1 (.slice (some ⟨w.heap.size, 0, none⟩) 0 0) 0 (ints (missN (thR R) 0)) from World.ownsRow_lit w #[] 0 (by omega) (by decide) rfl)
  clear hn ho hRR hTT
  go_enter Tryd.func17, Tryd.ntmps17
  go_wp2_with fail
  go_loopw [3, 4] (fun v i wr => ∃ k : Nat, k ≤ T ∧ i = .int .i64 k ∧ wr.ownsRow w.heap.size 3 1 v (missN (thR R) k).length (ints (missN (thR R) k)) ∧ Below w.heap.size w wr) (fun _ i _ => T - (intOf i).toNat)
  case atStart => exact ⟨0, by omega, rfl, O0.out, HB.out⟩
  case round =>
    obtain ⟨k, hk, rfl, hrow, hb⟩ := hrel
    obtain ⟨A2, c2, rfl, hc, hS⟩ := own_shape hrow
    have b1 : wr.cell? ⟨g, 1, none⟩ = some (.int .i64 (T : Int)) := (hb.cell (p := ⟨g, 1, none⟩) hlt).trans c1
    have hml := missN_le (thR R) k
    have hms := missN_succ (thR R) k
    by_cases hkT : k < T
    · have hkI : (k : Int) < (T : Int) := by omega
      have C1 := Lib.hid (find_any (some ⟨g, 0, none⟩) n c R B k wr HN.out (own_belS HO.out hb) (by omega))
      have HRW := Lib.hid hrow
      have HBw := Lib.hid hb
      clear hS hrow hb
      cases hf : fnd R k with
      | some m =>
        have hth : thR R k = true := by unfold thR; rw [hf]; rfl
        rw [hth] at hms
        simp only [if_true, List.append_nil] at hms
        have HMS := Lib.hid hms
        rw [hf] at C1
        clear hms hf hth
        go_wp2_with fail
        refine C1.out.mono ?_
        rintro e w4 ⟨rfl, hb4⟩
        have HR4 := Lib.hid (own_belS HRW.out hb4)
        have HB4 := Lib.hid (below_step HBw.out hb4)
        have HB5 := Lib.hid (HB4.out.alloc HB4.out.size (.cells #[.int .i64 (m.i : Int), .int .i64 (m.t : Int), .int .u32 (m.c : Int), .string m.d] 33))
        have HR5 := Lib.hid (HR4.out.alloc (.cells #[.int .i64 (m.i : Int), .int .i64 (m.t : Int), .int .u32 (m.c : Int), .string m.d] 33))
        clear hb4
        unfold pcO
        go_wp2_with fail
        exact ⟨⟨k + 1, by omega, by go_num, by rw [HMS.out]; exact HR5.out, HB5.out⟩, by simp [intOf]; omega⟩
      | none =>
        have hth : thR R k = false := by unfold thR; rw [hf]; rfl
        rw [hth] at hms
        simp only [Bool.false_eq_true, if_false] at hms
        have HMS := Lib.hid hms
        rw [hf] at C1
        obtain ⟨L, hL⟩ : ∃ L, L = (missN (thR R) k).length := ⟨_, rfl⟩
        rw [← hL] at HRW hml hc ⊢
        have HL := Lib.hid hL
        clear hms hf hth hL
        go_wp2_with fail
        refine C1.out.mono ?_
        rintro e w4 ⟨rfl, hb4⟩
        have HR4 := Lib.hid (own_belS HRW.out hb4)
        have HB4 := Lib.hid (below_step HBw.out hb4)
        have HB5 := Lib.hid (HB4.out.alloc HB4.out.size (.cells #[.int .i64 0, .int .i64 0, .int .u32 0, .string ⟨#[]⟩] 33))
        have HR5 := Lib.hid (HR4.out.alloc (.cells #[.int .i64 0, .int .i64 0, .int .u32 0, .string ⟨#[]⟩] 33))
        clear hb4
        unfold pcO
        go_upto_region 6 with fail
        generalize w4.alloc (.cells #[.int .i64 0, .int .i64 0, .int .u32 0, .string ⟨#[]⟩] 33) = w5 at *
        have hsz := HB5.out.size
        go_wp2_with (at_builtin; refine wpList_append_seg _ rfl _ _ _ rfl w.heap.size 3 j0 _ 8 Tryd.underlying48 hj0 hy0 hy1 hyb rfl _ L _ rfl (own_alloc HR5.out _) (some ⟨w5.heap.size, 0, none⟩) 1 1 [.int .i64 (k : Int)] rfl rfl (seg_new _ _ _) (int_one _) (by simp only [maxLen]; omega) (by omega) (by simp only [World.size_alloc]; omega) ?_; intro v2 w6 hown2 hb2; have O2 := Lib.hid hown2; have B2 := Lib.hid ((HB5.out.alloc hsz (.cells #[.int .i64 (k : Int)] 3)).trans hb2); clear hown2 hb2)
        exact ⟨⟨k + 1, by omega, by go_num, by rw [HMS.out, List.length_append, ints_append, ← HL.out]; exact O2.out, B2.out⟩, by simp [intOf]; omega⟩
    · obtain rfl : k = T := by omega
      have HRW := Lib.hid hrow
      have HBw := Lib.hid hb
      obtain ⟨L, hL⟩ : ∃ L, L = (missN (thR R) k).length := ⟨_, rfl⟩
      rw [← hL] at HRW hc hml ⊢
      have HL := Lib.hid hL
      clear hS hrow hb hms hL
      go_wp2_with fail
      go_ret
      exact ⟨A2, c2, by rw [← HL.out]; rfl, by rw [← HL.out]; exact HRW.out, HBw.out⟩
end Go.Proofs.YthjbkgappjpanaaDoor
