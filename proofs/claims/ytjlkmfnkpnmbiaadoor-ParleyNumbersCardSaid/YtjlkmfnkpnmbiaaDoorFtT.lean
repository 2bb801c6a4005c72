/- Both Totals. Condition: the numbers lie in memory. -/
import Derived.Test.YtjlkmfnkpnmbiaaDoorFtM
namespace Go.Proofs.YtjlkmfnkpnmbiaaDoor
open Go.RowKit

theorem bel_drew {B : Nat} {a w : World} (h : Below B a w) : Below B a w.drew := below_drewN h 1
theorem sumF_lt (l : List Nat) : sumF l < 18446744073709551616 := by
  have : ∀ (l : List Nat) (s : Nat), s < 18446744073709551616 → l.foldl stepF s < 18446744073709551616 := fun l => by
    induction l with
    | nil => exact fun s h => h
    | cons x t ih =>
      intro s _
      refine ih _ ?_
      unfold stepF
      split
      · rename_i h; exact add_lt h
      · decide
  exact this l 0 (by decide)
set_option maxRecDepth 100000 in
set_option maxHeartbeats 1000000 in
theorem total_any' (A : Option Addr) (n c : Nat) (l : List Nat) (hn : n = l.length) (w : World) (hA : Seg w A (f64s l)) (hl : ∀ x ∈ l, x < 18446744073709551616) (h60 : n ≤ 60) :
    Calls Tryd.prog 30 #[.slice A n c] w fun e w' => ∃ b, e = .returned (.float .f64 b) ∧ b < 18446744073709551616 ∧ bitsN b = bitsN (sumF (sortN l)) ∧ Below w.heap.size w w' := by
  have CS := Lib.hid (sort_any A n c l hn w hA hl h60)
  have HL := Lib.hid hl
  have HN := Lib.hid hn
  clear hn hA hl
  go_enter Tryd.func30, Tryd.ntmps30
  go_wp2_with fail
  refine CS.out.mono ?_
  rintro e w1 ⟨B, g, rfl, hp, hs, hseg, hb1⟩
  have HE := Lib.hid (sums_like hs (sortN_sorted l) hp (sortN_perm l) HL.out)
  have HG := Lib.hid (show g.length = n by rw [hp.length_eq, HN.out])
  have HX := Lib.hid (show ∀ x ∈ g, x < 18446744073709551616 from fun x hx => HL.out x (hp.mem_iff.1 hx))
  have HS := Lib.hid hseg
  have HB := Lib.hid hb1
  clear hp hs hseg hb1 CS
  go_wp2
  go_loopw [3, 9] (fun sv iv wr => ∃ (i b : Nat), i ≤ n ∧ sv = .float .f64 b ∧ iv = .int .i64 i ∧ b < 18446744073709551616 ∧ Hid (bitsN b = bitsN (sumF (g.take i))) ∧ Below w1.heap.size w1 wr) (fun _ iv _ => n - (intOf iv).toNat)
  case atStart => exact ⟨0, 0, Nat.zero_le _, rfl, rfl, by decide, Lib.hid rfl, Below.refl _ _⟩
  case round =>
    obtain ⟨i, b, hi, rfl, rfl, hb, HQ, hbr⟩ := hrel
    have HBR := Lib.hid hbr
    by_cases hin : i < n
    · have hiL : i < g.length := by rw [HG.out]; exact hin
      obtain ⟨p, o, e1, hpl, _, hc⟩ := (HS.out.bel hbr).pick (k := i) (by rw [f64s_length]; exact hiL)
      rw [f64s_get g i hiL] at hc
      injection e1 with e1
      injection e1 with e11 e12
      subst e11 e12
      rw [Nat.zero_add] at hc
      have hst : bitsN (stepF b g[i]) = bitsN (sumF (g.take (i + 1))) := by
        rw [List.take_succ_eq_append_getElem hiL, sumF_snoc]
        exact step_same HQ.out rfl
      generalize g[i] = x at *
      have HST := Lib.hid hst
      have i1 : (0 : Int) ≤ (i : Int) := by omega
      have i2 : (i : Int) < (n : Int) := by omega
      clear hst hbr
      cases ha : addN b x with
      | some r =>
        have hr := fun w => run_add_some (P := Tryd.prog) w 25 b x r ha
        have hrl := add_lt ha
        have HR := Lib.hid (show bitsN r = bitsN (sumF (g.take (i + 1))) by rw [← HST.out]; unfold stepF; rw [ha])
        clear ha
        go_wp2
        go_roundw
        case rel => exact ⟨i + 1, r, by omega, rfl, by go_num, hrl, HR, HBR.out⟩
        case measure => simp [intOf]; omega
      | none =>
        have hr := fun w => run_add_none (P := Tryd.prog) w 25 b x ha
        have HR := Lib.hid (show ∀ t, bitsN ((Question.nanBits .f64 b x).cut t) = bitsN (sumF (g.take (i + 1))) from fun t => by rw [← HST.out]; unfold stepF; rw [ha, bits_cNaN, bits_nan _ (cut_nan b x t).1]; rfl)
        have HRL := Lib.hid (fun t => (cut_nan b x t).2)
        clear ha
        go_wp2
        go_roundw
        case rel => exact ⟨i + 1, _, by omega, rfl, by go_num, HRL.out _, Lib.hid (HR.out _), bel_drew HBR.out⟩
        case measure => simp [intOf]; omega
    · have hie : i = n := by omega
      have HE2 := Lib.hid (show bitsN b = bitsN (sumF (sortN l)) by rw [HQ.out, List.take_of_length_le (by rw [HG.out]; omega), HE.out])
      go_wp2
      go_ret
      exact ⟨b, rfl, hb, HE2.out, below_step HB.out HBR.out⟩
set_option maxRecDepth 100000 in
set_option maxHeartbeats 1000000 in
theorem rtotal_any (A : Option Addr) (n c : Nat) (l : List Nat) (hn : n = l.length) (w : World) (hA : Seg w A (u64s l)) (hl : ∀ x ∈ l, x < 18446744073709551616) (h60 : n ≤ 60) :
    Calls Tryd.prog 31 #[.slice A n c] w fun e w' => e = .returned (.int .u64 (bitsN (sumF (sortN l)))) ∧ Below w.heap.size w w' := by
  have CS := Lib.hid (rsort_any A n c l hn w hA hl h60)
  have HG := Lib.hid (show (sortN l).length = n by rw [sortN_len, hn])
  have hfb := run_frombits
  have hfl := run_floatbits
  obtain ⟨g, hg⟩ : ∃ g, g = sortN l := ⟨_, rfl⟩
  rw [← hg] at CS HG ⊢
  clear hg hn hA hl
  go_enter Tryd.func31, Tryd.ntmps31
  go_wp2_with fail
  refine CS.out.mono ?_
  rintro e w1 ⟨⟨B, d, rfl, hd, hseg⟩, hb1⟩
  have HS := Lib.hid hseg
  have HB := Lib.hid hb1
  clear hseg hb1 CS
  go_wp2
  go_loopw [3, 9] (fun sv iv wr => ∃ (i b : Nat), i ≤ n ∧ sv = .float .f64 b ∧ iv = .int .i64 i ∧ b < 18446744073709551616 ∧ Hid (bitsN b = bitsN (sumF (g.take i))) ∧ Below w1.heap.size w1 wr) (fun _ iv _ => n - (intOf iv).toNat)
  case atStart => exact ⟨0, 0, Nat.zero_le _, rfl, rfl, by decide, Lib.hid rfl, Below.refl _ _⟩
  case round =>
    obtain ⟨i, b, hi, rfl, rfl, hb, HQ, hbr⟩ := hrel
    have HBR := Lib.hid hbr
    by_cases hin : i < n
    · have hiL : i < g.length := by rw [HG.out]; exact hin
      obtain ⟨p, o, e1, hpl, _, hc⟩ := (HS.out.bel hbr).pick (k := i) (by rw [u64s_length]; exact hiL)
      rw [u64s_get g i hiL] at hc
      subst e1
      have hst : bitsN (stepF b g[i]) = bitsN (sumF (g.take (i + 1))) := by
        rw [List.take_succ_eq_append_getElem hiL, sumF_snoc]
        exact step_same HQ.out rfl
      generalize g[i] = x at *
      have HST := Lib.hid hst
      have i1 : (0 : Int) ≤ (i : Int) := by omega
      have i2 : (i : Int) < (n : Int) := by omega
      clear hst hbr
      cases ha : addN b x with
      | some r =>
        have hr := fun w => run_add_some (P := Tryd.prog) w 25 b x r ha
        have hrl := add_lt ha
        have HR := Lib.hid (show bitsN r = bitsN (sumF (g.take (i + 1))) by rw [← HST.out]; unfold stepF; rw [ha])
        clear ha
        go_wp2
        go_roundw
        case rel => exact ⟨i + 1, r, by omega, rfl, by go_num, hrl, HR, HBR.out⟩
        case measure => simp [intOf]; omega
      | none =>
        have hr := fun w => run_add_none (P := Tryd.prog) w 25 b x ha
        have HR := Lib.hid (show ∀ t, bitsN ((Question.nanBits .f64 b x).cut t) = bitsN (sumF (g.take (i + 1))) from fun t => by rw [← HST.out]; unfold stepF; rw [ha, bits_cNaN, bits_nan _ (cut_nan b x t).1]; rfl)
        have HRL := Lib.hid (fun t => (cut_nan b x t).2)
        clear ha
        go_wp2
        go_roundw
        case rel => exact ⟨i + 1, _, by omega, rfl, by go_num, HRL.out _, Lib.hid (HR.out _), bel_drew HBR.out⟩
        case measure => simp [intOf]; omega
    · have hie : i = n := by omega
      have HE2 := Lib.hid (show bitsN b = bitsN (sumF g) by rw [HQ.out, List.take_of_length_le (by rw [HG.out]; omega)])
      have CB := refbits_q b hb wr
      rw [HE2.out] at CB
      have HCB := Lib.hid CB
      clear CB
      go_wp2_with (first | (go_at_call 17; refine HCB.out.mono ?_; rintro e w2 ⟨rfl, rfl⟩) | go_in)
      go_ret
      exact ⟨rfl, below_step HB.out HBR.out⟩
/-! ### a quotient of two whole numbers -/
def divN (a b : Nat) : Option Nat := FloatKind.f64.format.div a b
def ratN (n d : Int) : Nat := match divN (floatOfInt .f64 n) (floatOfInt .f64 d) with
  | some r => r
  | none => cNaN
theorem div_lt' {a b r : Nat} (h : divN a b = some r) : r < 18446744073709551616 := FloatKind.f64.format.div_lt h
theorem run_div_some {P : Program} (w : World) (ty : TypeId) (x y r : Nat) (h : divN x y = some r) : (binOp .quo ty (.float .f64 x) (.float .f64 y)).run P w = .ok (.float .f64 r) w := run_float_arith w .quo ty .f64 x y r h
theorem run_div_none {P : Program} (w : World) (ty : TypeId) (x y : Nat) (h : divN x y = none) : (binOp .quo ty (.float .f64 x) (.float .f64 y)).run P w = .ok (.float .f64 ((Question.nanBits .f64 x y).cut (w.tape w.drawn (Question.nanBits .f64 x y)))) w.drew := by
  unfold divN at h
  simp [binOp, Op.floatArith, h]
  intro hf
  exact absurd hf (by simp [Question.forced])
set_option maxRecDepth 100000 in
theorem ratio_any (n d : Int) (w : World) :
    Calls Tryd.prog 32 #[.int .i64 n, .int .i64 d] w fun e w' => ∃ b, e = .returned (.float .f64 b) ∧ b < 18446744073709551616 ∧ bitsN b = bitsN (ratN n d) ∧ Below w.heap.size w w' := by
  cases hq : divN (floatOfInt .f64 n) (floatOfInt .f64 d) with
  | some q =>
    have hqr := fun w => run_div_some (P := Tryd.prog) w 25 (floatOfInt .f64 n) (floatOfInt .f64 d) q hq
    have hqb := div_lt' hq
    have HK := Lib.hid (show bitsN q = bitsN (ratN n d) by unfold ratN; rw [hq])
    clear hq
    go_enter Tryd.func32, Tryd.ntmps32
    go_wp2
    go_ret
    exact ⟨q, rfl, hqb, HK.out, Below.refl _ _⟩
  | none =>
    have hqr := fun w => run_div_none (P := Tryd.prog) w 25 (floatOfInt .f64 n) (floatOfInt .f64 d) hq
    have HK := Lib.hid (show ∀ t, bitsN ((Question.nanBits .f64 (floatOfInt .f64 n) (floatOfInt .f64 d)).cut t) = bitsN (ratN n d) from fun t => by unfold ratN; rw [hq, bits_cNaN, bits_nan _ (cut_nan _ _ t).1]; rfl)
    have HL := Lib.hid (fun t => (cut_nan (floatOfInt .f64 n) (floatOfInt .f64 d) t).2)
    clear hq
    go_enter Tryd.func32, Tryd.ntmps32
    go_wp2
    go_ret
    exact ⟨_, rfl, HL.out _, HK.out _, bel_drew (Below.refl _ _)⟩
end Go.Proofs.YtjlkmfnkpnmbiaaDoor
