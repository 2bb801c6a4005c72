/- The walks of the keyed sum. Conditions: the bytes lie in memory; the texts are short. -/
import Derived.Test.YtbpclifgafafdaaDoorZeros
import Derived.Laws.CopyOwn
namespace Go.Proofs.YtbpclifgafafdaaDoor
open Go.RowKit

/-- A key of a chunk's length, each byte turned. -/
def padN (key : List Nat) (pad : Nat) : List Nat := (List.range 64).map fun i => key.getD i 0 ^^^ pad
def padA (key : List Nat) (pad k : Nat) : Array Value := ((List.range 64).map fun i => Value.int .u8 (if i < k then ((key.getD i 0 ^^^ pad : Nat) : Int) else ((key.getD i 0 : Nat) : Int))).toArray
theorem padA_size (key : List Nat) (pad k : Nat) : (padA key pad k).size = 64 := by simp [padA]
theorem padA_at (key : List Nat) (pad k : Nat) (hk : k < 64) : (padA key pad k)[k]? = some (.int .u8 ((key.getD k 0 : Nat) : Int)) := by simp [padA, hk]
theorem padA_set (key : List Nat) (pad k : Nat) : (padA key pad k).setIfInBounds k (.int .u8 ((key.getD k 0 ^^^ pad : Nat) : Int)) = padA key pad (k + 1) := by
  apply Array.ext_getElem?
  intro j
  rw [Array.getElem?_setIfInBounds, padA_size]
  simp only [padA, List.getElem?_toArray, List.getElem?_map]
  by_cases hj : k = j
  · subst hj
    by_cases h : k < 64 <;> simp [h]
  · rw [if_neg hj]
    by_cases h : j < 64
    · by_cases h2 : j < k
      · simp [h, h2, show j < k + 1 by omega]
      · simp [h, h2, show ¬ j < k + 1 by omega]
    · simp [h]
theorem padA_zero (key : List Nat) (pad : Nat) (hk : key.length ≤ 64) : (u8s key ++ (madeCells #[Value.int .u8 0] 64).toList.drop key.length).toArray = padA key pad 0 := by
  rw [toList_madeCells_one]
  apply Array.toList_inj.1
  apply List.ext_getElem?
  intro i
  simp only [padA, List.getElem?_append, u8s_length, List.drop_replicate, List.getElem?_replicate]
  by_cases h : i < key.length
  · simp [h, u8s, show i < 64 by omega]
  · by_cases h2 : i < 64
    · simp [h, h2, show i - key.length < 64 - key.length by omega, List.getD]
    · simp [h, h2, show ¬ i - key.length < 64 - key.length by omega]
theorem padA_full (key : List Nat) (pad : Nat) : (padA key pad 64).toList = u8s (padN key pad) := by
  apply List.ext_getElem?
  intro i
  simp only [padA, padN, u8s, List.map_map, List.getElem?_map]
  by_cases h : i < 64 <;> simp [h]
theorem padN_length (key : List Nat) (pad : Nat) : (padN key pad).length = 64 := by simp [padN]
theorem padN_lt (key : List Nat) (pad : Nat) (hk : ∀ x ∈ key, x < 256) (hp : pad < 256) : ∀ x ∈ padN key pad, x < 256 := by
  intro x hx
  simp only [padN, List.mem_map] at hx
  obtain ⟨i, _, rfl⟩ := hx
  refine Nat.xor_lt_two_pow (n := 8) ?_ hp
  by_cases h : i < key.length
  · rw [show key.getD i 0 = key[i] by simp [h]]; exact hk _ (List.getElem_mem h)
  · rw [show key.getD i 0 = 0 by simp [List.getD, List.getElem?_eq_none (by omega : key.length ≤ i)]]; omega
theorem getD_ltM (key : List Nat) (hk : ∀ x ∈ key, x < 256) (i : Nat) : key.getD i 0 < 256 := by
  by_cases h : i < key.length
  · rw [show key.getD i 0 = key[i] by simp [h]]; exact hk _ (List.getElem_mem h)
  · rw [show key.getD i 0 = 0 by simp [List.getD, List.getElem?_eq_none (by omega : key.length ≤ i)]]; omega

set_option maxRecDepth 100000 in
theorem padded_any (A : Option Addr) (n c pad : Nat) (l : List Nat) (hn : n = l.length) (h64 : n ≤ 64) (hp : pad < 256) (w : World) (hA : Seg w A (u8s l)) (hl : ∀ x ∈ l, x < 256) :
    Calls Tryd.prog 29 #[.slice A n c, .int .u8 (pad : Int)] w fun e w' => e = .returned (.slice (some ⟨w.heap.size, 0, none⟩) 64 64) ∧ w'.ownsRow w.heap.size 5 1 (.slice (some ⟨w.heap.size, 0, none⟩) 64 64) 64 (u8s (padN l pad)) ∧ Below w.heap.size w w' := by
  have hmk := run_make_row' (P := Tryd.prog) 47 5 (.int .u8 0) 1 Tryd.underlying47 (by kernel_rfl) rfl .i64 .i64 64 (by omega) (by omega)
  rw [show ((64 : Nat) : Int) = 64 from rfl] at hmk
  have HA := Lib.hid (hA.bel ((Below.refl _ _).alloc (Nat.le_refl _) (.cells (madeCells #[.int .u8 0] 64) 5)))
  have HG := Lib.hid (heap_alloc_new w (.cells (madeCells #[.int .u8 0] 64) 5))
  have HB := Lib.hid ((Below.refl w.heap.size w).alloc (Nat.le_refl _) (.cells (madeCells #[.int .u8 0] 64) 5))
  have HZ := Lib.hid (padA_zero l pad (by omega))
  have HN := Lib.hid hn
  have HL := Lib.hid hl
  clear hA hn hl
  go_enter Tryd.func29, Tryd.ntmps29
  go_wp2_with (refine wpList_copy_seg _ rfl _ _ _ _ rfl 5 Tryd.underlying47 (by kernel_rfl) w.heap.size 64 64 rfl A n c rfl _ 5 HG.out (u8s l) (by rw [u8s_length, HN.out]) HA.out (by omega) (by rw [show (madeCells #[Value.int .u8 0] 64).size = 64 by kernel_rfl]; omega) (u8s_one _) ?_; intro w1 hb1 hw1; rw [HN.out, HZ.out] at hb1; have Q1 := Lib.hid hb1; have Q2 := Lib.hid (HB.out.trans hw1); clear hb1 hw1)
  go_loopw [13] (fun i wr => ∃ k : Nat, k ≤ 64 ∧ i = .int .i64 k ∧ Bk wr w.heap.size 5 (padA l pad k) ∧ Below w.heap.size w wr) (fun i _ => 64 - (intOf i).toNat)
  case atStart => exact ⟨0, by omega, rfl, Q1.out, Q2.out⟩
  case round =>
    obtain ⟨k, hk, rfl, hb, hw⟩ := hrel
    have B0 := Lib.hid hb
    have W0 := Lib.hid hw
    clear hb hw
    by_cases hlt : k < 64
    · have d0 := B0.out.cell k
      rw [padA_at l pad k hlt] at d0
      have f0 := B0.out.frozen k
      have hX := getD_ltM l HL.out k
      have hS := Lib.hid (padA_set l pad k)
      generalize l.getD k 0 = X at *
      have e1 := u8_xor_nat X pad hX hp
      go_wp2
      go_roundw
      case rel =>
        refine ⟨k + 1, by omega, by go_num, ?_, W0.out.setCell (Nat.le_refl _) _⟩
        rw [← hS.out]
        exact B0.out.put _ _
      case measure => simp [intOf]; omega
    · obtain rfl : k = 64 := by omega
      go_wp2
      go_ret
      refine ⟨rfl, ⟨by rw [u8s_length, padN_length], .inr ⟨w.heap.size, 64, padA l pad 64, rfl, Nat.le_refl _, B0.out, Nat.le_refl _, by decide, by rw [padA_size], ?_⟩⟩, W0.out⟩
      rw [padA_full, List.take_of_length_le (by rw [u8s_length, padN_length]; decide)]

def keyN (key : List Nat) : List Nat := if 64 < key.length then shaN key else key
def macN (key b : List Nat) : List Nat := shaN (padN (keyN key) 92 ++ shaN (padN (keyN key) 54 ++ b))
theorem shaN_lt (l : List Nat) : ∀ x ∈ shaN l, x < 256 := outN_lt _
theorem lt_append {x y : List Nat} (hx : ∀ a ∈ x, a < 256) (hy : ∀ a ∈ y, a < 256) : ∀ a ∈ x ++ y, a < 256 := fun a h => (List.mem_append.1 h).elim (hx a) (hy a)
set_option maxRecDepth 100000 in
set_option maxHeartbeats 1000000 in
theorem mac_any (A B : Option Addr) (n c m d : Nat) (l b : List Nat) (hn : n = l.length) (hm : m = b.length) (hnc : n ≤ c) (_hmd : m ≤ d) (hx : n ≤ 100000000) (hy : m ≤ 100000000) (w : World) (hA : Seg w A (u8s l)) (hB : Seg w B (u8s b)) (hl : ∀ x ∈ l, x < 256) (hb : ∀ x ∈ b, x < 256) :
    Calls Tryd.prog 19 #[.slice A n c, .slice B m d] w fun e w' => ∃ A' c', e = .returned (.slice A' 20 c') ∧ 20 ≤ c' ∧ Seg w' A' (u8s (macN l b)) ∧ Below w.heap.size w w' := by
  obtain ⟨i0, hi0, hz0, hz1, hz2⟩ := info_parts info5
  have HA := Lib.hid hA
  have HB := Lib.hid hB
  have HL := Lib.hid hl
  have HBb := Lib.hid hb
  have HN := Lib.hid hn
  have HM := Lib.hid hm
  have HK : keyN l = if 64 < l.length then shaN l else l := rfl
  unfold macN
  clear hA hB hl hb hn hm
  by_cases hlt : 64 < n
  · rw [if_pos (by rw [← HN.out]; exact hlt)] at HK
    rw [HK]
    clear HK
    have i1 : (64 : Int) < (n : Int) := by omega
    go_enter Tryd.func19, Tryd.ntmps19
    go_wp2_with fail
    refine (sha_any A n c l HN.out hnc (by omega) w HA.out HL.out).mono ?_; rintro e w1 ⟨A1, c1, rfl, hc1, s1, b1⟩
    have S1 := Lib.hid s1
    have B1 := Lib.hid b1
    have z1 := b1.size
    clear s1 b1
    go_wp2_with fail
    refine (padded_any A1 20 c1 54 (shaN l) (shaN_length l).symm (by omega) (by omega) _ S1.out (shaN_lt l)).mono ?_; rintro e w2 ⟨rfl, o2, b2⟩
    have O2 := Lib.hid o2
    have BB2 := Lib.hid b2
    have B2 := Lib.hid (below_step B1.out b2)
    have z2 := b2.size
    clear o2 b2
    go_wp2_with (at_builtin; refine wpList_append_seg _ rfl _ _ _ rfl w1.heap.size 5 i0 _ 1 Tryd.underlying47 hi0 hz0 hz1 hz2 rfl _ 64 _ rfl O2.out B m d (u8s b) rfl (by rw [u8s_length, HM.out]) (HB.out.bel B2.out) (u8s_one _) (by simp only [maxLen]; omega) (by omega) (by omega) ?_; intro v3 w3 hown3 hb3; rw [← u8s_append] at hown3; obtain ⟨A3, c3, rfl, hc3, s3⟩ := own_shape hown3; have S3 := Lib.hid s3; have BB3 := Lib.hid (BB2.out.trans hb3); clear hown3 hb3 s3)
    have S4 := Lib.hid (S1.out.bel BB3.out)
    have B3 := Lib.hid (below_step B1.out BB3.out)
    have z3 := BB3.out.size
    refine (sha_any A3 (64 + m) c3 (padN (shaN l) 54 ++ b) (by rw [List.length_append, padN_length, HM.out]) hc3 (by omega) _ S3.out (lt_append (padN_lt _ _ (shaN_lt l) (by omega)) HBb.out)).mono ?_; rintro e w4 ⟨A4, c4, rfl, hc4, s4, b4⟩
    have S5 := Lib.hid (S4.out.bel b4)
    have B4 := Lib.hid (below_step B3.out b4)
    have I4 := Lib.hid s4
    clear s4 b4
    go_wp2_with fail
    refine (padded_any A1 20 c1 92 (shaN l) (shaN_length l).symm (by omega) (by omega) _ S5.out (shaN_lt l)).mono ?_; rintro e w5 ⟨rfl, o5, b5⟩
    have O5 := Lib.hid o5
    have BB5 := Lib.hid b5
    have I5 := Lib.hid (I4.out.bel b5)
    have z5 := b5.size
    clear o5 b5
    go_wp2_with (at_builtin; refine wpList_append_seg _ rfl _ _ _ rfl w4.heap.size 5 i0 _ 1 Tryd.underlying47 hi0 hz0 hz1 hz2 rfl _ 64 _ rfl O5.out A4 20 c4 (u8s (shaN (padN (shaN l) 54 ++ b))) rfl (by rw [u8s_length]; rfl) I5.out (u8s_one _) (by simp only [maxLen]; omega) (by omega) (by omega) ?_; intro v6 w6 hown6 hb6; rw [← u8s_append] at hown6; obtain ⟨A6, c6, rfl, hc6, s6⟩ := own_shape hown6; have S6 := Lib.hid s6; have BB6 := Lib.hid (BB5.out.trans hb6); clear hown6 hb6 s6)
    have B6 := Lib.hid (below_step B4.out BB6.out)
    refine (sha_any A6 84 c6 (padN (shaN l) 92 ++ shaN (padN (shaN l) 54 ++ b)) (by rw [List.length_append, padN_length, shaN_length]) hc6 (by omega) _ S6.out (lt_append (padN_lt _ _ (shaN_lt l) (by omega)) (shaN_lt _))).mono ?_; rintro e w7 ⟨A7, c7, rfl, hc7, s7, b7⟩
    have S7 := Lib.hid s7
    have B7 := Lib.hid (below_step B6.out b7)
    clear s7 b7
    go_wp2
    go_ret
    exact ⟨A7, c7, rfl, hc7, S7.out, B7.out⟩
  · rw [if_neg (by rw [← HN.out]; exact hlt)] at HK
    rw [HK]
    clear HK
    have i1 : ¬ (64 : Int) < (n : Int) := by omega
    have B0 := Lib.hid (Below.refl w.heap.size w)
    go_enter Tryd.func19, Tryd.ntmps19
    go_wp2_with fail
    refine (padded_any A n c 54 l HN.out (by omega) (by omega) _ HA.out HL.out).mono ?_; rintro e w2 ⟨rfl, o2, b2⟩
    have O2 := Lib.hid o2
    have BB2 := Lib.hid b2
    have B2 := Lib.hid (below_step B0.out b2)
    have z2 := b2.size
    clear o2 b2
    go_wp2_with (at_builtin; refine wpList_append_seg _ rfl _ _ _ rfl w.heap.size 5 i0 _ 1 Tryd.underlying47 hi0 hz0 hz1 hz2 rfl _ 64 _ rfl O2.out B m d (u8s b) rfl (by rw [u8s_length, HM.out]) (HB.out.bel B2.out) (u8s_one _) (by simp only [maxLen]; omega) (by omega) (by omega) ?_; intro v3 w3 hown3 hb3; rw [← u8s_append] at hown3; obtain ⟨A3, c3, rfl, hc3, s3⟩ := own_shape hown3; have S3 := Lib.hid s3; have BB3 := Lib.hid (BB2.out.trans hb3); clear hown3 hb3 s3)
    have S4 := Lib.hid (HA.out.bel BB3.out)
    have B3 := Lib.hid (below_step B0.out BB3.out)
    have z3 := BB3.out.size
    refine (sha_any A3 (64 + m) c3 (padN l 54 ++ b) (by rw [List.length_append, padN_length, HM.out]) hc3 (by omega) _ S3.out (lt_append (padN_lt _ _ HL.out (by omega)) HBb.out)).mono ?_; rintro e w4 ⟨A4, c4, rfl, hc4, s4, b4⟩
    have S5 := Lib.hid (S4.out.bel b4)
    have B4 := Lib.hid (below_step B3.out b4)
    have I4 := Lib.hid s4
    clear s4 b4
    go_wp2_with fail
    refine (padded_any A n c 92 l HN.out (by omega) (by omega) _ S5.out HL.out).mono ?_; rintro e w5 ⟨rfl, o5, b5⟩
    have O5 := Lib.hid o5
    have BB5 := Lib.hid b5
    have I5 := Lib.hid (I4.out.bel b5)
    have z5 := b5.size
    clear o5 b5
    go_wp2_with (at_builtin; refine wpList_append_seg _ rfl _ _ _ rfl w4.heap.size 5 i0 _ 1 Tryd.underlying47 hi0 hz0 hz1 hz2 rfl _ 64 _ rfl O5.out A4 20 c4 (u8s (shaN (padN l 54 ++ b))) rfl (by rw [u8s_length]; rfl) I5.out (u8s_one _) (by simp only [maxLen]; omega) (by omega) (by omega) ?_; intro v6 w6 hown6 hb6; rw [← u8s_append] at hown6; obtain ⟨A6, c6, rfl, hc6, s6⟩ := own_shape hown6; have S6 := Lib.hid s6; have BB6 := Lib.hid (BB5.out.trans hb6); clear hown6 hb6 s6)
    have B6 := Lib.hid (below_step B4.out BB6.out)
    refine (sha_any A6 84 c6 (padN l 92 ++ shaN (padN l 54 ++ b)) (by rw [List.length_append, padN_length, shaN_length]) hc6 (by omega) _ S6.out (lt_append (padN_lt _ _ HL.out (by omega)) (shaN_lt _))).mono ?_; rintro e w7 ⟨A7, c7, rfl, hc7, s7, b7⟩
    have S7 := Lib.hid s7
    have B7 := Lib.hid (below_step B6.out b7)
    clear s7 b7
    go_wp2
    go_ret
    exact ⟨A7, c7, rfl, hc7, S7.out, B7.out⟩
end Go.Proofs.YtbpclifgafafdaaDoor
