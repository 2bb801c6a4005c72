/- The walks of the reference's maps turned back into bytes and turned at some blocks; that a map is the one wanted. Conditions: what is read lies in memory. -/
import Derived.Test.YtpkajmgfechhhaaMapH
import Derived.Test.YtpkajmgfechhhaaMapF
import Derived.Deep.RegionHeld3
namespace Go.Proofs.Ytpkajmgfechhhaa
open Go.RowKit

def low (f : Nat → Bool) (k : Nat) : Nat → Bool := fun j => decide (j < k) && f j
theorem low_zero (f : Nat → Bool) : low f 0 = fun _ => false := by funext j; simp [low]
theorem low_all {f : Nat → Bool} {T : Nat} (h : flat f T) : low f T = f := by
  funext j
  unfold low
  by_cases e : j < T
  · simp [e]
  · simp [e, h j (by omega)]
theorem low_off {f : Nat → Bool} {k : Nat} (h : f k = false) : low f (k + 1) = low f k := by
  funext j
  unfold low
  by_cases e : j = k
  · subst e; simp [h]
  · rw [show decide (j < k + 1) = decide (j < k) by rw [decide_eq_decide]; omega]
theorem low_on {f : Nat → Bool} {k : Nat} (h : f k = true) : low f (k + 1) = upd (low f k) k true := by
  funext j
  unfold low upd
  by_cases e : j = k
  · subst e; simp [h]
  · rw [if_neg e, show decide (j < k + 1) = decide (j < k) by rw [decide_eq_decide]; omega]
theorem low_at (f : Nat → Bool) (k : Nat) : low f k k = false := by simp [low]
theorem byte_add : ∀ (x : Fin 256) (j : Fin 8), x.val.testBit j.val = false → x.val + 2 ^ j.val = x.val ||| 2 ^ j.val := by decide +kernel
theorem byteOf_add (f : Nat → Bool) (i : Nat) (h : f i = false) : byteOf f (i / 8) + pw (i % 8) = byteOf (upd f i true) (i / 8) := by
  rw [← byteOf_set]
  refine byte_add ⟨byteOf f (i / 8), byteOf_lt _ _⟩ ⟨i % 8, by omega⟩ ?_
  show (byteOf f (i / 8)).testBit (i % 8) = false
  rw [byteOf_bit _ _ _ (by omega), show 8 * (i / 8) + i % 8 = i by omega, h]
theorem pk_false (n : Nat) : u8s (pk (fun _ => false) n) = List.replicate n (.int .u8 0) := by
  apply List.ext_getElem (by rw [u8s_length, pk_length, List.length_replicate])
  intro k h1 h2
  rw [u8s_length, pk_length] at h1
  rw [u8s_get _ _ (by rw [pk_length]; exact h1), pk_get _ _ _ h1, List.getElem_replicate]
  rfl
set_option maxRecDepth 100000 in
set_option maxHeartbeats 2000000 in
theorem bits_ref (f : Nat → Bool) (T n : Nat) (A : Option Addr) (c : Nat) (hn : n = (T + 7) / 8) (hT : T ≤ 2048) (hf : flat f T) (w : World) (hA : Seg w A (bls f T)) :
    Calls Try.prog 31 #[.slice A T c] w fun e w' => ∃ A' c', e = .returned (.slice A' n c') ∧ Seg w' A' (u8s (pk f n)) ∧ Below w.heap.size w w' := by
  obtain ⟨i0, hi0, hz0, hz1, hz2⟩ := info_parts info5
  have hn3 : n ≤ 300 := by omega
  have hnT : T ≤ 8 * n := by omega
  have hmk : ∀ w : World, (Instr.makeSlice 22 (.int .i64 (((T : Int) + 7) / 8)) (.int .i64 (((T : Int) + 7) / 8))).run Try.prog w = .ok (.slice (some ⟨w.heap.size, 0, none⟩) n n) (w.alloc (.cells (madeCells #[.int .u8 0] n) 5)) := fun w => by
    have e : ((T : Int) + 7) / 8 = (n : Int) := by omega
    rw [e]
    have := run_make (P := Try.prog) w 22 5 i0 (.int .u8 0) Try.underlying22 hi0 hz0 .i64 .i64 n n (by omega) (by omega) (by rw [hz2]; omega) (by omega)
    simpa [hz1, Value.cells] using this
  have HF := Lib.hid hf
  have HA := Lib.hid hA
  clear hn hA hf
  go_enter Try.func31, Try.ntmps31
  go_wp2_with fail
  have O0' := World.ownsRow_lit (base := w.heap.size) (e := 5) (size := 1) w (madeCells #[.int .u8 0] n) n (Nat.le_refl _) (by simp only [maxLen]; omega) (by simp [madeCells])
  rw [toList_madeCells_one, ← pk_false, ← low_zero f] at O0'
  have O0 := Lib.hid O0'
  have A0 := Lib.hid ((Below.refl w.heap.size w).alloc (Nat.le_refl _) (.cells (madeCells #[.int .u8 0] n) 5))
  clear O0' hmk
  generalize w.alloc (.cells (madeCells #[.int .u8 0] n) 5) = w1 at *
  go_loopw [13] (fun i wr => ∃ k : Nat, k ≤ T ∧ i = .int .i64 k ∧ wr.ownsRow w.heap.size 5 1 (.slice (some ⟨w.heap.size, 0, none⟩) n n) n (u8s (pk (low f k) n)) ∧ Below w.heap.size w wr) (fun i _ => T - (intOf i).toNat)
  case atStart => exact ⟨0, by omega, rfl, O0.out, A0.out⟩
  case round =>
    obtain ⟨k, hk, rfl, ho, hb⟩ := hrel
    by_cases hlt : k < T
    · obtain ⟨b, off, rfl, hbl, _, hc⟩ := (HA.out.bel hb).pick (k := k) (by rw [bls_length]; exact hlt)
      rw [bls_get _ _ _ hlt] at hc
      have i1 : (0 : Int) ≤ (k : Int) := by omega
      by_cases e : f k = true
      · rw [e] at hc
        have hq : k / 8 < n := by omega
        have y0 := ho.cellAt (k / 8) (by omega)
        have f0 := ho.frozenAt (k / 8)
        rw [List.getElem?_eq_getElem (by rw [u8s_length, pk_length]; exact hq), u8s_get _ _ (by rw [pk_length]; exact hq), pk_get _ _ _ hq] at y0
        have hst : (wr.drew.setCell ⟨w.heap.size, k / 8, none⟩ (.int .u8 ((byteOf (upd (low f k) k true) (k / 8) : Nat) : Int))).ownsRow w.heap.size 5 1 (.slice (some ⟨w.heap.size, 0, none⟩) n n) n (u8s (pk (low f (k + 1)) n)) := by
          have h := (ho.drew.stored (k / 8) (.int .u8 ((byteOf (upd (low f k) k true) (k / 8) : Nat) : Int))).1
          rw [u8s_set, pk_upd] at h
          rw [low_on e]
          exact h
        have y0 : wr.drew.cell? ⟨w.heap.size, k / 8, none⟩ = _ := y0
        have f0 : wr.drew.frozen? ⟨w.heap.size, k / 8, none⟩ = false := f0
        have hadd := byteOf_add (low f k) k (low_at f k)
        have hX := byteOf_lt (low f k) (k / 8)
        have hY := byteOf_lt (upd (low f k) k true) (k / 8)
        have hr7 : k % 8 ≤ 7 := by omega
        have hP := pw_le (k % 8) hr7
        have HPow := Lib.hid (fun w => (pow_any (k % 8) hr7 w).mono fun e w' ⟨h1, h2⟩ => (⟨h1, h2.symm⟩ : _ ∧ w' = w))
        have tv : IntKind.u8.wrap (((byteOf (low f k) (k / 8) : Nat) : Int) + ((pw (k % 8) : Nat) : Int)) = ((byteOf (upd (low f k) k true) (k / 8) : Nat) : Int) := by rw [IntKind.wrap_u8]; omega
        have t0 : (k : Int).tdiv 8 = ((k / 8 : Nat) : Int) := by rw [Int.tdiv_eq_ediv_of_nonneg (by omega)]; omega
        have t1 : (k : Int).tmod 8 = ((k % 8 : Nat) : Int) := by rw [Int.tmod_eq_emod_of_nonneg (by omega)]; omega
        have t2 : IntKind.i64.wrap ((k / 8 : Nat) : Int) = ((k / 8 : Nat) : Int) := IntWalk.i64_in _ (by omega)
        have t3 : IntKind.i64.wrap ((k % 8 : Nat) : Int) = ((k % 8 : Nat) : Int) := IntWalk.i64_in _ (by omega)
        have q1 : (0 : Int) ≤ ((k / 8 : Nat) : Int) := by omega
        have q2 : ((k / 8 : Nat) : Int) < (n : Int) := by omega
        have HS := Lib.hid hst
        have HB := Lib.hid (hb.drew.setCell (p := ⟨w.heap.size, k / 8, none⟩) (Nat.le_refl _) (.int .u8 ((byteOf (upd (low f k) k true) (k / 8) : Nat) : Int)))
        clear ho hb hst hadd e
        generalize byteOf (upd (low f k) k true) (k / 8) = Y at *
        generalize byteOf (low f k) (k / 8) = X at *
        generalize pw (k % 8) = P at *
        generalize k / 8 = q8 at *
        generalize k % 8 = r8 at *
        go_wp2_with fail
        go_still_tail 10, (by kernel_rfl)
        change wpStill _ _ wr.drew (fun a' => wpList _ _ _ _ a' wr.drew) _ _
        generalize wr.drew = w3 at *
        still_call (HPow.out w3)
        repeat still_step
        refine wpStill_nil ?_
        go_wp2_with fail
        go_roundw
        case rel => exact ⟨k + 1, by omega, by go_num, HS.out, HB.out⟩
        case measure => simp [intOf]; omega
      · have e' : f k = false := by simpa using e
        rw [e'] at hc
        have HS := Lib.hid (low_off e')
        have HO := Lib.hid ho
        have HB := Lib.hid hb
        clear ho hb e e'
        go_wp2_with fail
        go_roundw
        case rel => exact ⟨k + 1, by omega, by go_num, by rw [HS.out]; exact HO.out, HB.out⟩
        case measure => simp [intOf]; omega
    · obtain rfl : k = T := by omega
      rw [low_all HF.out] at ho
      have HS := Lib.hid (Seg.of_own ho)
      have HB := Lib.hid hb
      clear ho hb
      go_wp2_with fail
      go_ret
      exact ⟨_, _, rfl, HS.out, HB.out⟩
theorem turnF_snoc (f : Nat → Bool) (l : List Int) (b : Int) : turnF f (l ++ [b]) = upd (turnF f l) b.toNat (!turnF f l b.toNat) := by
  unfold turnF
  rw [List.foldl_append]
  rfl
set_option maxRecDepth 100000 in
set_option maxHeartbeats 2000000 in
theorem turn_ref (f : Nat → Bool) (T m : Nat) (A B : Option Addr) (c d : Nat) (l : List Int) (hT : T ≤ 2048) (hm : m = l.length) (hmz : m ≤ 17592186044416) (hl : ∀ b ∈ l, 0 ≤ b ∧ b < T) (w : World) (hA : Seg w A (bls f T)) (hB : Seg w B (intL l)) :
    Calls Try.prog 22 #[.slice A T c, .slice B m d] w fun e w' => ∃ A' c', e = .returned (.slice A' T c') ∧ Seg w' A' (bls (turnF f l) T) ∧ Below w.heap.size w w' := by
  obtain ⟨i0, hi0, hz0, hz1, hz2⟩ := info_parts info_bool
  have HM := Lib.hid hm
  have HL := Lib.hid hl
  have HA := Lib.hid hA
  have HB := Lib.hid hB
  clear hm hl hA hB
  go_enter Try.func22, Try.ntmps22
  go_wp2_with (at_builtin; refine wpList_append_seg _ rfl _ _ _ rfl w.heap.size 4 i0 _ 1 Try.underlying23 hi0 hz0 hz1 hz2 rfl _ 0 _ rfl (World.ownsRow_lit w #[] 0 (by omega) (by decide) rfl) A T c (bls f T) rfl (by rw [bls_length]) (HA.out.bel ((Below.refl _ _).alloc (Nat.le_refl _) _)) (bls_one _ _) (by simp only [maxLen]; omega) (by omega) (by simp) ?_; intro v1 w1 hown1 hb1; simp only [Nat.zero_add, List.nil_append] at hown1; obtain ⟨A1, c1, rfl, hc1⟩ := own_slice hown1; have O1 := Lib.hid hown1; have B1 := Lib.hid (((Below.refl w.heap.size w).alloc (Nat.le_refl _) (.cells #[] 4)).trans hb1); clear hown1 hb1)
  go_loopw [13] (fun i wr => ∃ k : Nat, k ≤ m ∧ i = .int .i64 k ∧ wr.ownsRow w.heap.size 4 1 (.slice A1 T c1) T (bls (turnF f (l.take k)) T) ∧ Below w.heap.size w wr) (fun i _ => m - (intOf i).toNat)
  case atStart => exact ⟨0, by omega, rfl, O1.out, B1.out⟩
  case round =>
    obtain ⟨k, hk, rfl, ho, hb⟩ := hrel
    by_cases hlt : k < m
    · have hkl : k < l.length := by rw [← HM.out]; exact hlt
      obtain ⟨b, off, rfl, hbl, _, hc⟩ := (HB.out.bel hb).pick (k := k) (by rw [intL_length]; exact hkl)
      rw [intL_get l k hkl] at hc
      have hin := HL.out _ (List.getElem_mem hkl)
      have hsn := turnF_snoc f (l.take k) l[k]
      rw [← List.take_succ_eq_append_getElem hkl] at hsn
      obtain ⟨z, hzz⟩ : ∃ z : Nat, l[k] = (z : Int) := ⟨l[k].toNat, by omega⟩
      rw [hzz] at hsn hc hin
      rw [Int.toNat_natCast] at hsn
      have hzT : z < T := by omega
      obtain ⟨g, rfl, hg1, hg2⟩ := own_at ho (by omega)
      have y0 := ho.cellAt z (by omega)
      have f0 := ho.frozenAt z
      rw [List.getElem?_eq_getElem (by rw [bls_length]; exact hzT), bls_get _ _ _ hzT] at y0
      have hst := (ho.stored z (.bool (!turnF f (l.take k) z))).1
      rw [bls_set, ← hsn] at hst
      have i1 : (0 : Int) ≤ (k : Int) := by omega
      have i2 : (k : Int) < (m : Int) := by omega
      have j1 : (0 : Int) ≤ (z : Int) := by omega
      have j2 : (z : Int) < (T : Int) := by omega
      have HS := Lib.hid hst
      have HBl := Lib.hid (hb.setCell (p := ⟨g, z, none⟩) hg1 (.bool (!turnF f (l.take k) z)))
      clear ho hb hst hsn hzz hin
      generalize turnF f (l.take k) z = b' at *
      go_wp2_with fail
      go_roundw
      case rel => exact ⟨k + 1, by omega, by go_num, HS.out, HBl.out⟩
      case measure => simp [intOf]; omega
    · obtain rfl : k = m := by omega
      rw [show l.take k = l from List.take_of_length_le (by rw [← HM.out]; omega)] at ho
      have HS := Lib.hid (Seg.of_own ho)
      have HBl := Lib.hid hb
      clear ho hb
      go_wp2_with fail
      go_ret
      exact ⟨_, _, rfl, HS.out, HBl.out⟩
theorem zero_any (w : World) : Calls Try.prog 16 #[.agg #[.int .i64 0, .slice none 0 0]] w fun e w' => e = .returned (.bool true) ∧ Below w.heap.size w w' := by
  go_enter Try.func16, Try.ntmps16
  go_wp2_with fail
  go_ret
  exact ⟨rfl, (Below.refl _ _).alloc (Nat.le_refl _) _⟩
set_option maxRecDepth 100000 in
set_option maxHeartbeats 2000000 in
theorem is_map (T : Nat) (f g : Nat → Bool) (A B : Option Addr) (n c d : Nat) (hg : ∀ i, i < T → g i = f i) (w : World) (h : MapIn w T f A n c) (hB : Seg w B (bls g T)) :
    Calls Try.prog 17 #[.agg #[.int .i64 (T : Int), .slice A n c], .slice B T d] w fun e w' => e = .returned (.bool true) ∧ Below w.heap.size w w' := by
  rw [bls_congr T hg] at hB
  have hn := h.len
  have hT := h.le
  have hn3 : n ≤ 300 := by omega
  have hb := (Below.refl w.heap.size w).alloc (Nat.le_refl _) (.cells #[.int .i64 (T : Int), .slice A n c] 27)
  have HM := Lib.hid (h.bel hb)
  have HB := Lib.hid (hB.bel hb)
  have HN := Lib.hid hn
  have hS0 := MbW.S ⟨Bk.new w 27 #[.int .i64 (T : Int), .slice A n c], hb⟩
  clear hb h hB hn
  go_enter Try.func17, Try.ntmps17
  go_wp2_with fail
  generalize w.alloc (.cells #[.int .i64 (T : Int), .slice A n c] 27) = w1 at *
  have H0 := Lib.hid hS0.2.2
  go_region_held3 (fun w' => w'.cell? ⟨w.heap.size, 0, none⟩ = some (.int .i64 (T : Int)) ∧ w'.cell? ⟨w.heap.size, 1, none⟩ = some (.slice A n c) ∧ MbW w #[.int .i64 (T : Int), .slice A n c] w')
    (first
      | (with_reducible assumption)
      | (with_reducible exact MbW.S (H0.out.drew))
      | (with_reducible exact MbW.S (H0.out.drew.step b1))
      | (with_reducible exact MbW.S (H0.out.drew.step b2)))
    (first
      | (go_at_call 31; refine (bits_ref f T n B d HN.out hT HM.out.flat _ (HB.out.bel (Below.refl _ _).drew)).mono ?_; rintro e w2 ⟨A1, c1, rfl, s1, b1⟩; have S1 := Lib.hid s1; clear s1)
      | (go_at_call 15; refine (same_u8 A A1 n n c c1 (pk f n) (pk f n) (pk_length f n).symm (pk_length f n).symm _ (HM.out.seg.bel ((Below.refl _ _).drew.trans (b1.mono (Nat.le_refl _)))) S1.out (by omega) (by omega)).mono ?_; rintro e w3 ⟨rfl, b3⟩; have b2 := below_step b1 b3; clear b3))
  have B2 := Lib.hid ((H0.out.drew.step b2).bel)
  go_wp2_with fail
  go_ret
  exact ⟨by simp, B2.out⟩
end Go.Proofs.Ytpkajmgfechhhaa
