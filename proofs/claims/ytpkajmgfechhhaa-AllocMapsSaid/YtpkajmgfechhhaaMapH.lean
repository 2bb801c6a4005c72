/- The walks of the reference's maps: a bool for each block, made of bytes and turned back into them. Conditions: what is read lies in memory. -/
import Derived.Test.YtpkajmgfechhhaaMapE
import Derived.Deep.QuietTactic
import Derived.BigQuiet
import Derived.IntWalk
namespace Go.Proofs.Ytpkajmgfechhhaa
open Go.RowKit

def bls (f : Nat → Bool) (T : Nat) : List Value := (List.range T).map fun i => .bool (f i)
theorem bls_length (f : Nat → Bool) (T : Nat) : (bls f T).length = T := by simp [bls]
theorem bls_get (f : Nat → Bool) (T i : Nat) (h : i < T) : (bls f T)[i]'(by rw [bls_length]; exact h) = .bool (f i) := by simp [bls]
theorem bls_succ (f : Nat → Bool) (T : Nat) : bls f (T + 1) = bls f T ++ [.bool (f T)] := by simp [bls, List.range_succ]
theorem bls_one (f : Nat → Bool) (T : Nat) : ∀ u ∈ bls f T, u.oneCell' = true := by
  intro u hu
  simp only [bls, List.mem_map] at hu
  obtain ⟨i, _, rfl⟩ := hu
  rfl
theorem bls_congr {f g : Nat → Bool} (T : Nat) (h : ∀ i, i < T → f i = g i) : bls f T = bls g T := by
  unfold bls
  apply List.map_congr_left
  intro i hi
  rw [List.mem_range] at hi
  rw [h i hi]
theorem bls_set (f : Nat → Bool) (T i : Nat) (v : Bool) : (bls f T).set i (.bool v) = bls (upd f i v) T := by
  apply List.ext_getElem (by rw [List.length_set, bls_length, bls_length])
  intro k h1 h2
  rw [bls_length] at h2
  rw [bls_get _ _ _ h2, List.getElem_set]
  unfold upd
  by_cases e : i = k
  · rw [if_pos e, if_pos e.symm]
  · rw [if_neg e, if_neg (Ne.symm e), bls_get _ _ _ h2]
theorem info_bool : (Try.prog.info? 4).map (fun i => (i.zero, i.size, i.bytes)) = some (some (.bool false), 1, 1) := by kernel_rfl
theorem bool_one (b : Bool) : ∀ u ∈ [Value.bool b], u.oneCell' = true := by
  intro u hu
  rw [List.mem_singleton] at hu
  subst hu; rfl
theorem own_drewN {w : World} {base size : Nat} {e : TypeId} {v : Value} {n : Nat} {xs : List Value} (h : w.ownsRow base e size v n xs) (k : Nat) : (w.drewN k).ownsRow base e size v n xs := h
def pw (n : Nat) : Nat := 2 ^ n
theorem pw_le (n : Nat) (h : n ≤ 7) : 1 ≤ pw n ∧ pw n ≤ 128 := ⟨Nat.one_le_two_pow, by
  rw [show (128 : Nat) = 2 ^ 7 from rfl]
  exact Nat.pow_le_pow_right (by omega) h⟩
set_option maxRecDepth 100000 in
theorem pow_any (n : Nat) (hn : n ≤ 7) (w : World) : Calls Try.prog 26 #[.int .i64 (n : Int)] w fun e w' => e = .returned (.int .u8 ((pw n : Nat) : Int)) ∧ w = w' := by
  go_enter Try.func26, Try.ntmps26
  go_wp2
  go_loop [3, 4] (fun p i => ∃ k : Nat, k ≤ n ∧ i = .int .i64 k ∧ p = .int .u8 ((pw k : Nat) : Int)) (fun _ i => n - (intOf i).toNat)
  case atStart => exact ⟨0, by omega, rfl, rfl⟩
  case round =>
    obtain ⟨k, hk, rfl, rfl⟩ := hrel
    by_cases hlt : k < n
    · have h1 : pw (k + 1) = 2 * pw k := by unfold pw; rw [Nat.pow_succ, Nat.mul_comm]
      have h2 : pw k ≤ 64 := by
        unfold pw
        rw [show (64 : Nat) = 2 ^ 6 from rfl]
        exact Nat.pow_le_pow_right (by omega) (by omega)
      have H1 := Lib.hid h1
      clear h1
      generalize pw k = P at *
      go_wp2
      go_round
      case rel => exact ⟨k + 1, by omega, by go_num, by rw [H1.out]; go_num⟩
      case measure => simp [intOf]; omega
    · obtain rfl : k = n := by omega
      go_wp2
      go_ret
      exact ⟨rfl, rfl⟩
/-- What the reference reads bytes as. -/
def OfRef (w : World) (T : Int) (l : List Nat) (e : Ending) (w' : World) : Prop :=
  (chk T l = 0 ∧ ∃ v, e = .returned (.tuple #[v, .int .i64 0]) ∧ w'.ownsRow w.heap.size 4 1 v T.toNat (bls (fOf T.toNat l) T.toNat) ∧ Below w.heap.size w w') ∨
  (chk T l ≠ 0 ∧ e = .returned (.tuple #[.slice none 0 0, .int .i64 ((chk T l : Nat) : Int)]) ∧ Below w.heap.size w w')
set_option maxRecDepth 100000 in
set_option maxHeartbeats 2000000 in
theorem of_ref (T : Int) (A : Option Addr) (n c : Nat) (l : List Nat) (hn : n = l.length) (hz : n ≤ 140737488355000) (hl : ∀ x ∈ l, x < 256) (w : World) (hA : Seg w A (u8s l)) :
    Calls Try.prog 8 #[.int .i64 T, .slice A n c] w (OfRef w T l) := by
  obtain ⟨i0, hi0, hz0, hz1, hz2⟩ := info_parts info_bool
  have HN := Lib.hid hn
  have HL := Lib.hid hl
  have HA := Lib.hid hA
  clear hn hl hA
  by_cases hT : T < 0 ∨ 2048 < T
  · have hc : chk T l = 1 := by unfold chk; rw [if_pos hT]
    have HP := Lib.hid (show OfRef w T l (.returned (.tuple #[.slice none 0 0, .int .i64 1])) w from .inr ⟨by rw [hc]; omega, by rw [hc]; rfl, Below.refl _ _⟩)
    clear hc
    by_cases h1 : T < 0
    · clear hT
      go_enter Try.func8, Try.ntmps8
      go_wp2
      go_ret2
      exact HP.out
    · have h2 : 2048 < T := by omega
      clear hT
      go_enter Try.func8, Try.ntmps8
      go_wp2
      go_ret2
      exact HP.out
  · have h1 : ¬ T < 0 := by omega
    obtain ⟨t, rfl⟩ : ∃ t : Nat, T = (t : Int) := ⟨T.toNat, by omega⟩
    have ht : t ≤ 2048 := by omega
    have hck : chk (t : Int) l = if l.length ≠ (t + 7) / 8 then 4 else if spare t l then 4 else 0 := by
      unfold chk
      rw [if_neg (by omega), Int.toNat_natCast]
    have HC := Lib.hid hck
    clear hT h1 hck
    have hd1 : decide ((t : Int) < 0) = false := by rw [decide_eq_false_iff_not]; omega
    have hd2 : decide ((2048 : Int) < (t : Int)) = false := by rw [decide_eq_false_iff_not]; omega
    by_cases hlen : n = (t + 7) / 8
    · have hne : ((n : Int) != ((t : Int) + 7) / 8) = false := by rw [bne_eq_false_iff_eq]; omega
      have hsp : chk (t : Int) l = if spare t l then 4 else 0 := by rw [HC.out, if_neg (by rw [← HN.out, hlen]; simp)]
      have HSp := Lib.hid hsp
      have hn3 : n ≤ 300 := by omega
      have htn : t ≤ 8 * n := by omega
      clear hsp hlen HC
      go_enter Try.func8, Try.ntmps8
      go_wp2_with fail
      have O0 := Lib.hid (World.ownsRow_lit (base := w.heap.size) (e := 4) (size := 1) w #[] 0 (Nat.le_refl _) (by decide) rfl)
      have A0 := Lib.hid ((Below.refl w.heap.size w).alloc (Nat.le_refl _) (.cells #[] 4))
      go_loopw [6, 7] (fun v i wr => ∃ k : Nat, k ≤ 8 * n ∧ i = .int .i64 k ∧ wr.ownsRow w.heap.size 4 1 v (min k t) (bls (us l) (min k t)) ∧ (∀ j, t ≤ j → j < k → us l j = false) ∧ Below w.heap.size w wr) (fun _ i _ => 8 * n - (intOf i).toNat)
      case atStart => exact ⟨0, by omega, rfl, by rw [Nat.zero_min]; exact O0.out, fun j h1 h2 => by omega, A0.out⟩
      case round =>
        obtain ⟨k, hk, rfl, ho, hs, hb⟩ := hrel
        by_cases hlt : k < 8 * n
        · have hq : k / 8 < l.length := by rw [← HN.out]; omega
          obtain ⟨b, off, rfl, hbl, _, hc⟩ := (HA.out.bel hb).pick (k := k / 8) (by rw [u8s_length]; exact hq)
          rw [u8s_get l _ hq] at hc
          have hx := HL.out _ (List.getElem_mem hq)
          have hu : us l k = decide (l[k / 8] / pw (k % 8) % 2 = 1) := by
            unfold us pw
            rw [show l.getD (k / 8) 0 = l[k / 8] by simp [List.getD, hq], Nat.testBit_eq_decide_div_mod_eq]
          have hv : (((l[k / 8] : Nat) : Int) / ((pw (k % 8) : Nat) : Int) % 2 == 1) = us l k := by
            rw [hu, ← Int.natCast_ediv, show (2 : Int) = ((2 : Nat) : Int) from rfl, ← Int.natCast_emod]
            rw [Bool.eq_iff_iff, beq_iff_eq, decide_eq_true_iff]
            omega
          have HO := Lib.hid ho
          have HS := Lib.hid hs
          have HB := Lib.hid hb
          have hr7 : k % 8 ≤ 7 := by omega
          have hP := pw_le (k % 8) hr7
          have HPow := Lib.hid (fun w => pow_any (k % 8) hr7 w)
          have t0 : (k : Int).tdiv 8 = ((k / 8 : Nat) : Int) := by rw [Int.tdiv_eq_ediv_of_nonneg (by omega)]; omega
          have t1 : (k : Int).tmod 8 = ((k % 8 : Nat) : Int) := by rw [Int.tmod_eq_emod_of_nonneg (by omega)]; omega
          have t2 : IntKind.i64.wrap ((k / 8 : Nat) : Int) = ((k / 8 : Nat) : Int) := IntWalk.i64_in _ (by omega)
          have t3 : IntKind.i64.wrap ((k % 8 : Nat) : Int) = ((k % 8 : Nat) : Int) := IntWalk.i64_in _ (by omega)
          have q1 : (0 : Int) ≤ ((k / 8 : Nat) : Int) := by omega
          have q2 : ((k / 8 : Nat) : Int) < (n : Int) := by omega
          clear hu ho hs hb
          generalize l[k / 8] = X at *
          generalize pw (k % 8) = P at *
          generalize k / 8 = q8 at *
          generalize k % 8 = r8 at *
          by_cases hkt : k < t
          · have hmin : min k t = k := by omega
            have hmin' : min (k + 1) t = k + 1 := by omega
            rw [hmin] at HO
            have hbs := bls_succ (us l) k
            have HBS := Lib.hid hbs
            have HM' := Lib.hid hmin'
            clear hmin hmin' hbs
            generalize us l k = B at *
            go_wp2_with fail
            go_quiet ((go_at_call 26; exact quiet_left (HPow.out _)))
            go_wp2_with (at_builtin; refine wpList_append_els _ rfl _ _ _ rfl w.heap.size 4 i0 _ 1 1 Try.underlying23 hi0 hz0 hz1 hz2 rfl (by omega) _ k (bls (us l) k) rfl (own_drewN HO.out _ |>.alloc _) _ 0 1 1 [.bool B] rfl rfl (fun j u hj => lit_at _ _ _ j u hj) (bool_one _) (by simp only [maxLen]; omega) (by omega) (by have := HB.out.size; simp; omega) ?_; intro v3 w3 hown hb3; have Q3 := Lib.hid hown; have G3 := Lib.hid (((below_drewN HB.out _).alloc HB.out.size _).trans hb3); clear hown hb3)
            go_roundw
            case rel => exact ⟨k + 1, by omega, by go_num, by rw [HM'.out, HBS.out]; exact Q3.out, fun j h1 h2 => HS.out j h1 (by omega), G3.out⟩
            case measure => simp [intOf]; omega
          · have hmin : min k t = t := by omega
            have hmin' : min (k + 1) t = t := by omega
            rw [hmin] at HO
            have HM' := Lib.hid hmin'
            clear hmin hmin'
            obtain ⟨B, hB⟩ : ∃ B, B = us l k := ⟨_, rfl⟩
            rw [← hB] at hv
            have HBB := Lib.hid hB
            clear hB
            rcases B with _ | _
            · go_wp2_with fail
              go_quiet ((go_at_call 26; exact quiet_left (HPow.out _)))
              go_wp2_with fail
              go_roundw
              case rel =>
                refine ⟨k + 1, by omega, by go_num, by rw [HM'.out]; exact own_drewN HO.out _, fun j h1 h2 => ?_, below_drewN HB.out _⟩
                by_cases e : j = k
                · rw [e]; exact HBB.out.symm
                · exact HS.out j h1 (by omega)
              case measure => simp [intOf]; omega
            · have hspare : spare t l = true := by
                unfold spare
                rw [List.any_eq_true]
                refine ⟨k, by rw [List.mem_range, ← HN.out]; exact hlt, ?_⟩
                rw [← HBB.out, Bool.and_true, decide_eq_true_eq]
                omega
              have hc : chk (t : Int) l = 4 := by rw [HSp.out, hspare]; rfl
              have HP := Lib.hid (show ∀ m, OfRef w (t : Int) l (.returned (.tuple #[.slice none 0 0, .int .i64 4])) (wr.drewN m) from fun m => .inr ⟨by rw [hc]; omega, by rw [hc]; rfl, below_drewN HB.out m⟩)
              clear hspare hc
              go_wp2_with fail
              go_quiet ((go_at_call 26; exact quiet_left (HPow.out _)))
              go_wp2_with fail
              go_ret2
              exact HP.out _
        · have hkn : k = 8 * n := by omega
          have hmin : min k t = t := by omega
          rw [hmin] at ho
          have hspare : spare t l = false := by
            unfold spare
            rw [List.any_eq_false]
            intro i hi
            rw [List.mem_range, ← HN.out] at hi
            by_cases e : t ≤ i
            · rw [hs i e (by omega)]; simp
            · simp [e]
          have hc : chk (t : Int) l = 0 := by rw [HSp.out, hspare]; rfl
          have hbl : bls (us l) t = bls (fOf t l) t := bls_congr t (fun i hi => by unfold fOf; simp [hi])
          rw [hbl] at ho
          have HP := Lib.hid (show ∀ v, wr.ownsRow w.heap.size 4 1 v t (bls (fOf t l) t) → OfRef w (t : Int) l (.returned (.tuple #[v, .int .i64 0])) wr from fun v hv => .inl ⟨hc, v, rfl, by rw [Int.toNat_natCast]; exact hv, hb⟩)
          have HO := Lib.hid ho
          clear hc hbl hspare ho hs hb hmin
          subst hkn
          go_wp2_with fail
          go_ret2
          exact HP.out _ HO.out
    · have hne : ((n : Int) != ((t : Int) + 7) / 8) = true := by rw [bne_iff_ne]; omega
      have hc : chk (t : Int) l = 4 := by rw [HC.out, if_pos (by rw [← HN.out]; exact hlen)]
      have HP := Lib.hid (show OfRef w (t : Int) l (.returned (.tuple #[.slice none 0 0, .int .i64 4])) w from .inr ⟨by rw [hc]; omega, by rw [hc]; rfl, Below.refl _ _⟩)
      clear hc hlen HC
      go_enter Try.func8, Try.ntmps8
      go_wp2
      go_ret2
      exact HP.out
end Go.Proofs.Ytpkajmgfechhhaa
