/- The walk of the reference's sum of a text. Conditions: the bytes lie in memory; the text is not too long. -/
import Derived.Test.YtamhpikjnieeeaaDoorZeros
import Derived.Lib.AppendZeros
import Derived.Test.YtamhpikjnieeeaaDoorStableO
import Derived.Test.YtamhpikjnieeeaaDoorTwo
import Derived.BigQuiet
import Derived.Deep.QuietTactic
import Derived.IntWalk
namespace Go.Proofs.YtamhpikjnieeeaaDoor
open Go.RowKit

theorem getD_lt (key : List Nat) (hk : ∀ x ∈ key, x < 256) (i : Nat) : key.getD i 0 < 256 := by
  by_cases h : i < key.length
  · rw [show key.getD i 0 = key[i] by simp [h]]; exact hk _ (List.getElem_mem h)
  · rw [show key.getD i 0 = 0 by simp [List.getD, List.getElem?_eq_none (by omega : key.length ≤ i)]]; omega
def w32 (l : List Nat) : List Value := l.map fun (x : Nat) => Value.int .u32 (x : Int)
theorem w32_length (l : List Nat) : (w32 l).length = l.length := by simp [w32]
theorem w32_append (l m : List Nat) : w32 (l ++ m) = w32 l ++ w32 m := by simp [w32]
theorem w32_get (l : List Nat) (k : Nat) (h : k < l.length) : (w32 l)[k]? = some (.int .u32 ((l.getD k 0 : Nat) : Int)) := by simp [w32, h]
theorem info24 : (Tryd.prog.info? 52).map (fun i => (i.zero, i.size, i.bytes)) = some (some (.int .u32 0), 1, 4) := by kernel_rfl
def partW (C : List Nat) (i : Nat) : Nat → Nat
  | 0 => 0
  | j + 1 => 256 * partW C i j + C.getD (4 * i + j) 0
theorem partW_word (C : List Nat) (i : Nat) : partW C i 4 = wordN C i := by
  unfold wordN
  simp only [partW, Nat.add_zero]
  omega
theorem partW_lt (C : List Nat) (i : Nat) (hC : ∀ k, C.getD k 0 < 256) : ∀ j, partW C i j < 256 ^ j
  | 0 => by simp [partW]
  | j + 1 => by
    have h1 := partW_lt C i hC j
    have h2 := hC (4 * i + j)
    rw [Nat.pow_succ]
    simp only [partW]
    omega
theorem chunk_getD (P : List Nat) (q i : Nat) (hi : i < 64) : ((P.drop (64 * q)).take 64).getD i 0 = P.getD (64 * q + i) 0 := by
  simp [List.getD, List.getElem?_take_of_lt hi]

theorem own_baseR {w : World} {b b' e : Nat} {v : Value} {n size : Nat} {xs : List Value} (h : w.ownsRow b e size v n xs) (hb : b' ≤ b) : w.ownsRow b' e size v n xs :=
  ⟨h.1, h.2.imp id fun ⟨g, cap, cur, h1, h2, h3⟩ => ⟨g, cap, cur, h1, Nat.le_trans hb h2, h3⟩⟩
set_option maxRecDepth 100000 in
theorem turn1 (x : Nat) (hx : x < 4294967296) (w : World) :
    Calls Tryd.prog 40 #[.int .u32 x, .int .i64 1] w fun e w' => e = .returned (.int .u32 ((rotN 1 x : Nat) : Int)) ∧ ∃ n, w' = w.drewN n := by
  have h := rot_eq 1 x hx
  simp at h
  go_enter Tryd.func40, Tryd.ntmps40
  go_wp2_with fail
  go_quiet (fail)
  go_wp2
  go_ret
  exact ⟨rfl, _, rfl⟩
set_option maxRecDepth 100000 in
theorem turn5 (x : Nat) (hx : x < 4294967296) (w : World) :
    Calls Tryd.prog 40 #[.int .u32 x, .int .i64 5] w fun e w' => e = .returned (.int .u32 ((rotN 5 x : Nat) : Int)) ∧ ∃ n, w' = w.drewN n := by
  have h := rot_eq 5 x hx
  simp at h
  go_enter Tryd.func40, Tryd.ntmps40
  go_wp2_with fail
  go_quiet (fail)
  go_wp2
  go_ret
  exact ⟨rfl, _, rfl⟩
set_option maxRecDepth 100000 in
theorem turn30 (x : Nat) (hx : x < 4294967296) (w : World) :
    Calls Tryd.prog 40 #[.int .u32 x, .int .i64 30] w fun e w' => e = .returned (.int .u32 ((rotN 30 x : Nat) : Int)) ∧ ∃ n, w' = w.drewN n := by
  have h := rot_eq 30 x hx
  simp at h
  go_enter Tryd.func40, Tryd.ntmps40
  go_wp2_with fail
  go_quiet (fail)
  go_wp2
  go_ret
  exact ⟨rfl, _, rfl⟩

theorem stA_get (s : St) (p : Nat) (h : p < 5) : (stA s)[p]? = some (.int .u32 ((s.get p : Nat) : Int)) := by
  match p, h with
  | 0, _ => rfl
  | 1, _ => rfl
  | 2, _ => rfl
  | 3, _ => rfl
  | 4, _ => rfl
theorem bits_facts (b c d : Nat) (hb : b < 4294967296) (hc : c < 4294967296) (hd : d < 4294967296) :
    bits .xor .u32 (b : Int) (c : Int) = ((b ^^^ c : Nat) : Int) ∧ bits .xor .u32 ((b ^^^ c : Nat) : Int) (d : Int) = ((b ^^^ c ^^^ d : Nat) : Int) ∧
    bits .and .u32 (b : Int) (c : Int) = ((b &&& c : Nat) : Int) ∧ bits .and .u32 (b : Int) (d : Int) = ((b &&& d : Nat) : Int) ∧ bits .and .u32 (c : Int) (d : Int) = ((c &&& d : Nat) : Int) ∧
    bits .or .u32 ((b &&& c : Nat) : Int) ((b &&& d : Nat) : Int) = (((b &&& c) ||| (b &&& d) : Nat) : Int) ∧ bits .or .u32 (((b &&& c) ||| (b &&& d) : Nat) : Int) ((c &&& d : Nat) : Int) = (((b &&& c) ||| (b &&& d) ||| (c &&& d) : Nat) : Int) ∧
    bits .xor .u32 (b : Int) 4294967295 = ((4294967295 - b : Nat) : Int) ∧ bits .and .u32 ((4294967295 - b : Nat) : Int) (d : Int) = (((4294967295 - b) &&& d : Nat) : Int) ∧
    bits .or .u32 ((b &&& c : Nat) : Int) (((4294967295 - b) &&& d : Nat) : Int) = (((b &&& c) ||| ((4294967295 - b) &&& d) : Nat) : Int) := by
  have l1 := Nat.and_lt_two_pow (n := 32) b hc
  have l2 := Nat.and_lt_two_pow (n := 32) b hd
  have l3 := Nat.and_lt_two_pow (n := 32) c hd
  have l4 := Nat.and_lt_two_pow (n := 32) (4294967295 - b) hd
  refine ⟨u32_xor_nat b c hb hc, u32_xor_nat (b ^^^ c) d (Nat.xor_lt_two_pow (n := 32) hb hc) hd, u32_and_nat b c hb hc, u32_and_nat b d hb hd, u32_and_nat c d hc hd, u32_or_nat _ _ l1 l2, u32_or_nat _ _ (Nat.or_lt_two_pow (n := 32) l1 l2) l3, not_u32 b hb, u32_and_nat _ d (by omega) hd, u32_or_nat _ _ l1 l4⟩

structure RaG (w0 : World) (g k c : Nat) (xs : List Value) (w : World) : Prop where
  bel : Below w0.heap.size w0 w
  lt : g < w.heap.size
  own : w.ownsRow w0.heap.size 52 1 (.slice (some ⟨g, 0, none⟩) k c) k xs
theorem RaG.next {w0 w w' : World} {g k c : Nat} {xs : List Value} (h : RaG w0 g k c xs w) (hb : Below w.heap.size w w') : RaG w0 g k c xs w' :=
  ⟨below_step h.bel hb, Nat.lt_of_lt_of_le h.lt hb.size, own_belS h.own hb⟩
theorem RaG.kept {w0 w w' : World} {g k c : Nat} {xs : List Value} (h : RaG w0 g k c xs w) (hk : Kept2 g w w') (hb : Below w0.heap.size w w') (ho : w'.ownsRow w0.heap.size 52 1 (.slice (some ⟨g, 0, none⟩) k c) k xs) : RaG w0 g k c xs w' :=
  ⟨h.bel.trans hb, Nat.lt_of_lt_of_le h.lt hk.size, ho⟩
theorem RaG.cell {w0 w : World} {g k c : Nat} {l : List Nat} (h : RaG w0 g k c (w32 l) w) (j : Nat) (hj : j < l.length) : w.cell? ⟨g, j, none⟩ = some (.int .u32 ((l.getD j 0 : Nat) : Int)) := by
  have := h.own.cells (g := g) rfl j _ (w32_get l j hj)
  rw [show ((⟨g, 0, none⟩ : Addr).add j) = ⟨g, j, none⟩ by unfold Addr.add; split <;> simp_all] at this
  exact this
def raF (B g4 k c4 q1 q2 q3 q4 : Nat) (xs : List Value) (j : Nat) (v _u : Value) (w : World) : Prop := match j with
  | 0 => v = .slice (some ⟨g4, 0, none⟩) k c4
  | 1 => v = .slice (some ⟨g4, 0, none⟩) k c4
  | 2 => v = .int .i64 (k : Int)
  | 3 => v = .int .i64 ((k : Int) - 3)
  | 4 => v = .pointer (some ⟨g4, k - 3, none⟩)
  | 5 => v = .int .u32 ((q1 : Nat) : Int)
  | 6 => v = .slice (some ⟨g4, 0, none⟩) k c4
  | 7 => v = .int .i64 (k : Int)
  | 8 => v = .int .i64 ((k : Int) - 8)
  | 9 => v = .pointer (some ⟨g4, k - 8, none⟩)
  | 10 => v = .int .u32 ((q2 : Nat) : Int)
  | 11 => v = .int .u32 ((q1 ^^^ q2 : Nat) : Int)
  | 12 => v = .slice (some ⟨g4, 0, none⟩) k c4
  | 13 => v = .int .i64 (k : Int)
  | 14 => v = .int .i64 ((k : Int) - 14)
  | 15 => v = .pointer (some ⟨g4, k - 14, none⟩)
  | 16 => v = .int .u32 ((q3 : Nat) : Int)
  | 17 => v = .int .u32 ((q1 ^^^ q2 ^^^ q3 : Nat) : Int)
  | 18 => v = .slice (some ⟨g4, 0, none⟩) k c4
  | 19 => v = .int .i64 (k : Int)
  | 20 => v = .int .i64 ((k : Int) - 16)
  | 21 => v = .pointer (some ⟨g4, k - 16, none⟩)
  | 22 => v = .int .u32 ((q4 : Nat) : Int)
  | 23 => v = .int .u32 ((q1 ^^^ q2 ^^^ q3 ^^^ q4 : Nat) : Int)
  | 24 => v = .int .u32 ((rotN 1 (q1 ^^^ q2 ^^^ q3 ^^^ q4) : Nat) : Int)
  | 25 => ∃ g, v = .slice (some ⟨g, 0, none⟩) 1 1 ∧ g ≠ g4 ∧ Bk w g 52 #[.int .u32 ((rotN 1 (q1 ^^^ q2 ^^^ q3 ^^^ q4) : Nat) : Int)]
  | 26 => w.ownsRow B 52 1 v (k + 1) (xs ++ [.int .u32 ((rotN 1 (q1 ^^^ q2 ^^^ q3 ^^^ q4) : Nat) : Int)])
  | 27 => w.ownsRow B 52 1 v (k + 1) (xs ++ [.int .u32 ((rotN 1 (q1 ^^^ q2 ^^^ q3 ^^^ q4) : Nat) : Int)])
  | _ => True
theorem raF_bel {B g4 k c4 q1 q2 q3 q4 : Nat} {xs : List Value} {w w' : World} (hb : Below w.heap.size w w') : ∀ j u u', raF B g4 k c4 q1 q2 q3 q4 xs j u u' w → raF B g4 k c4 q1 q2 q3 q4 xs j u u' w' := by
  intro j u u' h
  unfold raF at *
  split at h <;> first | exact h | exact own_belS h hb | skip
  · obtain ⟨g, hv, hg, hc⟩ := h
    exact ⟨g, hv, hg, hc.bel hb⟩
theorem raF_kept {B g4 k c4 q1 q2 q3 q4 : Nat} {xs : List Value} {w w' : World} (hk : Kept2 g4 w w') : ∀ j, j ≠ 26 → j ≠ 27 → ∀ u u', raF B g4 k c4 q1 q2 q3 q4 xs j u u' w → raF B g4 k c4 q1 q2 q3 q4 xs j u u' w' := by
  intro j h8 h9 u u' h
  unfold raF at *
  split at h <;> first | exact h | exact absurd rfl h8 | exact absurd rfl h9 | skip
  · obtain ⟨g, hv, hg, hc⟩ := h
    exact ⟨g, hv, hg, (hk.block g hc.lt hg).trans hc⟩
set_option maxRecDepth 100000 in
set_option maxHeartbeats 4000000 in
theorem rsha_any (A : Option Addr) (n c : Nat) (l : List Nat) (hn : n = l.length) (hx : n ≤ 100000) (w : World) (hA : Seg w A (u8s l)) (hl : ∀ x ∈ l, x < 256) :
    Calls Tryd.prog 32 #[.slice A n c] w fun e w' => ∃ A' c', e = .returned (.slice A' 20 c') ∧ 20 ≤ c' ∧ w'.ownsRow w.heap.size 5 1 (.slice A' 20 c') 20 (u8s (shaN l)) ∧ Below w.heap.size w w' := by
  obtain ⟨i0, hi0, hz0, hz1, hz2⟩ := info_parts info5
  obtain ⟨j0, hj0, hj1, hj2, hj3⟩ := info_parts info24
  have HA := Lib.hid hA
  have HN := Lib.hid hn
  have HL := Lib.hid hl
  clear hA hn hl
  go_enter Tryd.func32, Tryd.ntmps32
  go_wp2_with (first
    | (at_builtin; refine wpList_append_seg _ rfl (.tmp 25) (.tmp 26) _ rfl w.heap.size 5 i0 _ 1 Tryd.underlying22 hi0 hz0 hz1 hz2 rfl _ 0 _ rfl (World.ownsRow_lit w #[] 0 (by omega) (by decide) rfl) A n c (u8s l) rfl (by rw [u8s_length, ← HN.out]) (HA.out.bel ((Below.refl _ _).alloc (Nat.le_refl _) _)) (u8s_one _) (by simp only [maxLen]; omega) (by omega) (by simp only [World.size_alloc]; omega) ?_; intro v1 w1 hown1 hb1; simp only [Nat.zero_add, List.nil_append] at hown1; have O1 := Lib.hid hown1; have B1 := Lib.hid (((Below.refl w.heap.size w).alloc (Nat.le_refl _) (.cells #[] 5)).trans hb1); have z1 := B1.out.size; clear hown1 hb1)
    | (at_builtin; refine wpList_append_seg _ rfl (.tmp 27) (.tmp 28) _ rfl w.heap.size 5 i0 _ 1 Tryd.underlying22 hi0 hz0 hz1 hz2 rfl v1 n _ rfl (own_alloc O1.out _) (some ⟨w1.heap.size, 0, none⟩) 1 1 [.int .u8 128] rfl rfl (seg_new _ _ _) (by simp [Value.oneCell']) (by simp only [maxLen]; omega) (by omega) (by simp only [World.size_alloc]; omega) ?_; intro v2 w2 hown2 hb2; have O2 := Lib.hid hown2; have B2 := Lib.hid ((B1.out.alloc z1 (.cells #[.int .u8 128] 5)).trans hb2); have z2 := B2.out.size; clear hown2 hb2))
  have O3 := Lib.hid (show w2.ownsRow w.heap.size 5 1 v2 (n + 1 + 0) (u8s (l ++ 128 :: List.replicate 0 0)) by
    have := O2.out
    rw [show u8s l ++ [Value.int .u8 128] = u8s (l ++ 128 :: List.replicate 0 0) by simp [u8s]] at this
    exact this)
  clear O1 O2 HA
  go_loopw [3] (fun v wr => ∃ j : Nat, j ≤ (119 - n % 64) % 64 ∧ wr.ownsRow w.heap.size 5 1 v (n + 1 + j) (u8s (l ++ 128 :: List.replicate j 0)) ∧ Below w.heap.size w wr) (fun v _ => n + 300 - lenOf v)
  case atStart => exact ⟨0, by omega, O3.out, B2.out⟩
  case round =>
    obtain ⟨j, hj, hown, hb⟩ := hrel
    obtain ⟨A1, c1, rfl, hc1, s1⟩ := own_shape hown
    have HO := Lib.hid hown
    have HW := Lib.hid hb
    have hsz := hb.size
    clear hown hb s1 O3 B2 B1
    by_cases hlt : j < (119 - n % 64) % 64
    · go_wp2_with (at_builtin; refine wpList_append_seg _ rfl _ _ _ rfl w.heap.size 5 i0 _ 1 Tryd.underlying22 hi0 hz0 hz1 hz2 rfl _ (n + 1 + j) _ rfl (own_alloc HO.out _) (some ⟨wr.heap.size, 0, none⟩) 1 1 [.int .u8 0] rfl rfl (seg_new _ _ _) (by simp [Value.oneCell']) (by simp only [maxLen]; omega) (by omega) (by simp only [World.size_alloc]; omega) ?_; intro v' w' hown' hb')
      obtain ⟨A', c', rfl, hc', _⟩ := own_shape hown'
      go_roundw
      case rel =>
        refine ⟨j + 1, by omega, ?_, (HW.out.alloc hsz _).trans hb'⟩
        rw [show u8s (l ++ 128 :: List.replicate j 0) ++ [Value.int .u8 0] = u8s (l ++ 128 :: List.replicate (j + 1) 0) by rw [List.replicate_succ']; simp [u8s]] at hown'
        exact hown'
      case measure => simp [lenOf]; omega
    · have hj' : j = (119 - n % 64) % 64 := by omega
      have HJ := Lib.hid hj'
      have O4 := Lib.hid (show wr.ownsRow w.heap.size 5 1 (.slice A1 (n + 1 + j) c1) (n + 1 + j + (8 - 8)) (u8s (l ++ 128 :: List.replicate j 0 ++ (lenN n).take (8 - 8))) by
        have := HO.out
        simpa using this)
      have ht : (((n : Int) + 1 + (j : Int)) % 64 != 56) = false := by rw [bne_eq_false_iff_eq]; omega
      clear hj' HO hlt
      go_wp2_with fail
      go_loopw [3, 5] (fun v i wq => ∃ m : Nat, m ≤ 8 ∧ i = .int .i64 ((m : Int) - 1) ∧ wq.ownsRow w.heap.size 5 1 v (n + 1 + j + (8 - m)) (u8s (l ++ 128 :: List.replicate j 0 ++ (lenN n).take (8 - m))) ∧ Below w.heap.size w wq) (fun _ i _ => ((intOf i) + 1).toNat)
      case atStart => exact ⟨8, by omega, rfl, O4.out, HW.out⟩
      case round =>
        obtain ⟨m, hm, rfl, hown, hb⟩ := hrel
        have HO := Lib.hid hown
        have HW2 := Lib.hid hb
        have hsz2 := hb.size
        clear hown hb O4
        rcases m with _ | m
        · obtain ⟨A2, c2, rfl, hc2, s2⟩ := own_shape HO.out
          rw [show (((0 : Nat) : Int) - 1) = -1 from rfl]
          have hlE : l ++ 128 :: List.replicate j 0 ++ (lenN n).take (8 - 0) = endN l n := by
            rw [List.take_of_length_le (by simp [lenN]), HJ.out]
            unfold endN
            rw [← HN.out]
          have hlen : n + 1 + j + (8 - 0) = (endN l n).length := by rw [← hlE]; simp [lenN, ← HN.out]; omega
          rw [hlE] at s2
          obtain ⟨q, hq⟩ : ∃ q, (endN l n).length = 64 * q := ⟨(n + 1 + j + 8) / 64, by rw [← hlen]; have := HJ.out; omega⟩
          have hP := endN_lt l n HL.out
          have hsha : shaN l = outN (chunksN h0N (endN l n) q) := by
            unfold shaN
            show outN (chunksN h0N (endN l l.length) ((endN l l.length).length / 64)) = _
            rw [← HN.out, hq]
            congr 2
            omega
          rw [hlen, hq] at hc2 ⊢
          have hq9 : 64 * q ≤ 200000 := by rw [← hq, ← hlen]; omega
          have HSha := Lib.hid hsha
          have HPl := Lib.hid hP
          have HQ := Lib.hid hq
          have S2 := Lib.hid s2
          clear hlE hlen hP hsha hq s2 HO HJ
          generalize endN l n = P at *
          have HB0 := Lib.hid (Bk.new wr 52 (stA h0N))
          have HW0 := Lib.hid (HW2.out.alloc hsz2 (.cells (stA h0N) 52))
          have S0 := Lib.hid (S2.out.bel ((Below.refl _ _).alloc (Nat.le_refl _) (.cells (stA h0N) 52)))
          rw [show stA h0N = #[.int .u32 1732584193, .int .u32 4023233417, .int .u32 2562383102, .int .u32 271733878, .int .u32 3285377520] from rfl] at HB0 HW0 S0
          have hsz0 : (wr.alloc (.cells #[.int .u32 1732584193, .int .u32 4023233417, .int .u32 2562383102, .int .u32 271733878, .int .u32 3285377520] 52)).heap.size = wr.heap.size + 1 := by simp
          clear HW HW2 S2 hsz hsz2
          go_wp2_with fail
          go_loopw [6, 7] (fun v i wq => ∃ q' hb : Nat, q' ≤ q ∧ i = .int .i64 (64 * (q' : Int)) ∧ v = .slice (some ⟨hb, 0, none⟩) 5 5 ∧ Bk wq hb 52 (stA (chunksN h0N P q')) ∧ Below w.heap.size w wq ∧ Seg wq A2 (u8s P)) (fun _ i _ => 64 * q - (intOf i).toNat)
          case atStart => exact ⟨0, wr.heap.size, by omega, rfl, rfl, HB0.out, HW0.out, S0.out⟩
          case round =>
            clear HB0 HW0 S0 hsz0
            obtain ⟨q', hb, hq', rfl, rfl, b0, bw, s0⟩ := hrel
            obtain ⟨W1, hW1⟩ : ∃ x, x = wr := ⟨_, rfl⟩
            subst hW1
            have B0 := Lib.hid b0
            have BW := Lib.hid bw
            have S0 := Lib.hid s0
            have szw := bw.size
            have hblt := b0.lt
            clear b0 bw s0
            by_cases hlt : q' < q
            · obtain ⟨b, off, rfl, hbl, hall, _⟩ := S0.out.pick (k := 0) (by rw [u8s_length, HQ.out]; omega)
              have hbyte : ∀ k, P.getD k 0 < 256 := getD_lt P HPl.out
              have hcell : ∀ k, k < 64 → W1.cell? ⟨b, off + (64 * q' + k), none⟩ = some (.int .u8 ((((P.drop (64 * q')).take 64).getD k 0 : Nat) : Int)) := by
                intro k hk
                rw [chunk_getD P q' k hk, hall _ (by rw [u8s_length, HQ.out]; omega), List.getElem?_eq_getElem (by rw [u8s_length, HQ.out]; omega), u8s_get P _ (by rw [HQ.out]; omega)]
                simp [HQ.out, show 64 * q' + k < 64 * q by omega]
              have hCb : ∀ x ∈ (P.drop (64 * q')).take 64, x < 256 := mem_cut HPl.out (64 * q') 64
              have hnx : chunksN h0N P (q' + 1) = mixN (chunksN h0N P q') ((P.drop (64 * q')).take 64) := rfl
              have hok := chunksN_ok h0N h0N_ok P q'
              have HNx := Lib.hid hnx
              have HOk := Lib.hid hok
              have HCell := Lib.hid hcell
              have HCb := Lib.hid hCb
              have HCd := Lib.hid (getD_lt _ hCb)
              clear hall hbyte hcell hCb hnx hok
              generalize (P.drop (64 * q')).take 64 = C at *
              generalize hst : chunksN h0N P q' = s at *
              have HSt := Lib.hid hst
              clear hst
              have i1 : (64 : Int) * (q' : Int) < 64 * (q : Int) := by omega
              go_wp2_with fail
              go_loopw [8, 9] (fun v i wq => ∃ k : Nat, k ≤ 16 ∧ i = .int .i64 k ∧ wq.ownsRow W1.heap.size 52 1 v k (w32 (sched C k)) ∧ Below W1.heap.size W1 wq) (fun _ i _ => 16 - (intOf i).toNat)
              case atStart => exact ⟨0, by omega, rfl, World.ownsRow_lit W1 #[] 0 (by omega) (by decide) rfl, (Below.refl _ _).alloc (Nat.le_refl _) _⟩
              case round =>
                obtain ⟨k, hk, rfl, hown, hbq⟩ := hrel
                have HO := Lib.hid hown
                have HW3 := Lib.hid hbq
                have sz3 := hbq.size
                clear hown hbq
                by_cases hltk : k < 16
                · have hw : sched C (k + 1) = sched C k ++ [wordN C k] := by show sched C k ++ [if k < 16 then wordN C k else _] = _; rw [if_pos hltk]
                  have HWd := Lib.hid hw
                  clear hw
                  go_wp2_with fail
                  go_loop [10, 11] (fun x i => ∃ j : Nat, j ≤ 4 ∧ i = .int .i64 j ∧ x = .int .u32 ((partW C k j : Nat) : Int)) (fun _ i => 4 - (intOf i).toNat)
                  case atStart => exact ⟨0, by omega, rfl, rfl⟩
                  case round =>
                    obtain ⟨j, hj, rfl, rfl⟩ := hrel
                    by_cases hltj : j < 4
                    · have d0 : wr.cell? ⟨b, off + (64 * q' + 4 * k + j), none⟩ = some (.int .u8 ((C.getD (4 * k + j) 0 : Nat) : Int)) := by
                        have := HCell.out (4 * k + j) (by omega)
                        rw [show off + (64 * q' + (4 * k + j)) = off + (64 * q' + 4 * k + j) by omega] at this
                        exact (HW3.out.cell (p := ⟨b, off + (64 * q' + 4 * k + j), none⟩) hbl).trans this
                      have hX := HCd.out (4 * k + j)
                      have hlt4 := partW_lt C k HCd.out j
                      have hlt5 := partW_lt C k HCd.out (j + 1)
                      have hlt6 : 256 ^ (j + 1) ≤ 256 ^ 4 := Nat.pow_le_pow_right (by omega) (by omega)
                      have hst5 : partW C k (j + 1) = 256 * partW C k j + C.getD (4 * k + j) 0 := rfl
                      rw [hst5] at hlt5
                      have hsum : 256 * partW C k j + C.getD (4 * k + j) 0 < 4294967296 := by omega
                      have HS5 := Lib.hid hst5
                      generalize C.getD (4 * k + j) 0 = X at *
                      generalize partW C k j = Y at *
                      have HSum := Lib.hid hsum
                      clear hlt4 hlt5 hlt6 hst5 hsum
                      go_wp2_with fail
                      go_round
                      case rel => exact ⟨j + 1, by omega, by go_num, by rw [HS5.out]; congr 1; have := HSum.out; omega⟩
                      case measure => simp [intOf]; omega
                    · obtain rfl : j = 4 := by omega
                      rw [partW_word]
                      go_wp2_with (at_builtin; refine wpList_append_seg _ rfl _ _ _ rfl W1.heap.size 52 j0 _ 4 Tryd.underlying63 hj0 hj1 hj2 hj3 rfl _ k _ rfl (own_alloc HO.out _) (some ⟨wr.heap.size, 0, none⟩) 1 1 [.int .u32 ((wordN C k : Nat) : Int)] rfl rfl (seg_new _ _ _) (by simp [Value.oneCell']) (by simp only [maxLen]; omega) (by omega) (by simp only [World.size_alloc]; omega) ?_; intro v' w' hown' hb')
                      go_roundw
                      case rel =>
                        refine ⟨k + 1, by omega, by go_num, ?_, (HW3.out.alloc sz3 _).trans hb'⟩
                        rw [HWd.out, w32_append]
                        exact hown'
                      case measure => simp [intOf]; omega
                · obtain rfl : k = 16 := by omega
                  rw [show ((16 : Nat) : Int) = 16 from rfl]
                  go_wp2_with fail
                  go_loopw [8, 12] (fun v i wq => ∃ k : Nat, 16 ≤ k ∧ k ≤ 80 ∧ i = .int .i64 k ∧ wq.ownsRow W1.heap.size 52 1 v k (w32 (sched C k)) ∧ Below W1.heap.size W1 wq) (fun _ i _ => 80 - (intOf i).toNat)
                  case atStart => exact ⟨16, by omega, by omega, rfl, HO.out, HW3.out⟩
                  case round =>
                    clear HO HW3 sz3
                    obtain ⟨k, hk16, hk, rfl, hown, hbq⟩ := hrel
                    have HO := Lib.hid hown
                    have HW3 := Lib.hid hbq
                    have sz3 := hbq.size
                    obtain ⟨g4, c4, rfl, hg4, hl4⟩ := World.ownsRow.form hown (by omega)
                    have G0 := Lib.hid (show RaG W1 g4 k c4 (w32 (sched C k)) wr from ⟨hbq, hl4, hown⟩)
                    have hc4 : k ≤ c4 := by
                      obtain ⟨_, _, e, hc, _⟩ := own_shape hown
                      injection e with e1 e2 e3
                      omega
                    clear hown hbq
                    have HP4 := Lib.hid (sched_lt C HCb.out k)
                    by_cases hltk : k < 80
                    · have hw : sched C (k + 1) = sched C k ++ [nextN (sched C k) k] := by show sched C k ++ [if k < 16 then wordN C k else _] = _; rw [if_neg (by omega)]
                      have hn : nextN (sched C k) k = rotN 1 ((sched C k).getD (k - 3) 0 ^^^ (sched C k).getD (k - 8) 0 ^^^ (sched C k).getD (k - 14) 0 ^^^ (sched C k).getD (k - 16) 0) := rfl
                      have l1 := HP4.out (k - 3)
                      have l2 := HP4.out (k - 8)
                      have l3 := HP4.out (k - 14)
                      have l4 := HP4.out (k - 16)
                      generalize hq1 : (sched C k).getD (k - 3) 0 = q1 at *
                      have HQ1 := Lib.hid hq1
                      clear hq1
                      generalize hq2 : (sched C k).getD (k - 8) 0 = q2 at *
                      have HQ2 := Lib.hid hq2
                      clear hq2
                      generalize hq3 : (sched C k).getD (k - 14) 0 = q3 at *
                      have HQ3 := Lib.hid hq3
                      clear hq3
                      generalize hq4 : (sched C k).getD (k - 16) 0 = q4 at *
                      have HQ4 := Lib.hid hq4
                      clear hq4
                      have e1 := u32_xor_nat q1 q2 l1 l2
                      have m1 := Nat.xor_lt_two_pow (n := 32) l1 l2
                      have e2 := u32_xor_nat (q1 ^^^ q2) q3 m1 l3
                      have m2 := Nat.xor_lt_two_pow (n := 32) m1 l3
                      have e3 := u32_xor_nat (q1 ^^^ q2 ^^^ q3) q4 m2 l4
                      have m3 := Lib.hid (Nat.xor_lt_two_pow (n := 32) m2 l4)
                      have HWn := Lib.hid hw
                      have HNn := Lib.hid hn
                      clear hw hn m1 m2 l1 l2 l3 l4
                      have i1 : (0 : Int) ≤ (k : Int) - 3 := by omega
                      have i2 : (k : Int) - 3 < (k : Int) := by omega
                      have i3 : (0 : Int) ≤ (k : Int) - 8 := by omega
                      have i4 : (k : Int) - 8 < (k : Int) := by omega
                      have i5 : (0 : Int) ≤ (k : Int) - 14 := by omega
                      have i6 : (k : Int) - 14 < (k : Int) := by omega
                      have i7 : (0 : Int) ≤ (k : Int) - 16 := by omega
                      have i8 : (k : Int) - 16 < (k : Int) := by omega
                      have j1 : (3 : Int) ≤ (k : Int) := by omega
                      have j2 : (8 : Int) ≤ (k : Int) := by omega
                      have j3 : (14 : Int) ≤ (k : Int) := by omega
                      have j4 : (16 : Int) ≤ (k : Int) := by omega
                      have i9 : (0 : Int) ≤ (k : Int) := by omega
                      have i10 : (k : Int) < 80 := by omega
                      have t0 : ((k : Int) - 3).toNat = k - 3 := by omega
                      have t1 : ((k : Int) - 8).toNat = k - 8 := by omega
                      have t2 : ((k : Int) - 14).toNat = k - 14 := by omega
                      have t3 : ((k : Int) - 16).toNat = k - 16 := by omega
                      have x0 : IntKind.i64.wrap ((k : Int) - 3) = (k : Int) - 3 := IntWalk.i64_in _ (by omega)
                      have x1 : IntKind.i64.wrap ((k : Int) - 8) = (k : Int) - 8 := IntWalk.i64_in _ (by omega)
                      have x2 : IntKind.i64.wrap ((k : Int) - 14) = (k : Int) - 14 := IntWalk.i64_in _ (by omega)
                      have x3 : IntKind.i64.wrap ((k : Int) - 16) = (k : Int) - 16 := IntWalk.i64_in _ (by omega)
                      have G0 := Lib.hid (G0.out.next (Below.refl _ _).drew)
                      go_wp2_with fail
                      refine wp_region_was [some 90, some 91, some 92, some 93, some 94, some 95, some 96, some 97, some 98, some 99, some 100, some 101, some 102, some 103, some 104, some 105, some 106, some 107, some 108, some 109, some 110, some 111, some 112, some 113, some 114, some 115, some 116, some 8] (fun _ => 0) (raF W1.heap.size g4 k c4 q1 q2 q3 q4 (w32 (sched C k))) (RaG W1 g4 k c4 (w32 (sched C k))) (by kernel_rfl) G0.out rfl (by kernel_rfl) (by kernel_rfl) (by kernel_rfl) (by kernel_rfl) (fun T hT => ?_)
                      simp only [List.filterMap_cons, List.filterMap_nil, id, putsS, Act.put, List.setIfInBounds_toArray, List.set_cons_zero, List.set_cons_succ] at hT
                      subst hT
                      refine ⟨⟨?_, ?_, ?_, ?_, ?_, ?_, ?_, ?_, ?_, ?_, ?_, ?_, ?_, ?_, ?_, ?_, ?_, ?_, ?_, ?_, ?_, ?_, ?_, ?_, ?_, ?_, ?_, ?_, trivial⟩, ?_⟩
                      · -- 0: Op.move t8
                        intro f w1 hG hO hF K hK
                        have o8 : f 8 = .slice (some ⟨g4, 0, none⟩) k c4 := hO 8 (by kernel_rfl)
                        clear hO
                        clear hF
                        dsimp only at hK ⊢
                        generalize f 8 = y8 at *
                        subst o8
                        go_simp
                        exact hK.out _ _ hG rfl (fun _ _ _ h => h)
                      · -- 1: Op.move t8
                        intro f w1 hG hO hF K hK
                        have o8 : f 8 = .slice (some ⟨g4, 0, none⟩) k c4 := hO 8 (by kernel_rfl)
                        clear hO
                        clear hF
                        dsimp only at hK ⊢
                        generalize f 8 = y8 at *
                        subst o8
                        go_simp
                        exact hK.out _ _ hG rfl (fun _ _ _ h => h)
                      · -- 2: Op.move t12
                        refine StepA.was ?_
                        refine StepL.act ?_
                        intro f w1 hG hF K hK
                        clear hF
                        dsimp only at hK ⊢
                        go_simp
                        exact hK.out _ _ hG rfl (fun _ _ _ _ h => h)
                      · -- 3: Op.binOp BinOp.sub 3 t92 (const (3:i64)) 3
                        refine StepA.was ?_
                        refine StepL.act ?_
                        intro f w1 hG hF K hK
                        have d2 : (raF W1.heap.size g4 k c4 q1 q2 q3 q4 (w32 (sched C k))) 2 (f 92) (f 0) w1 := hF 2 (by kernel_rfl)
                        clear hF
                        dsimp only at hK ⊢
                        generalize f 92 = v92 at *
                        subst d2
                        go_simp
                        exact hK.out _ _ hG rfl (fun _ _ _ _ h => h)
                      · -- 4: Op.indexAddr 42 t91 t93
                        refine StepA.was ?_
                        refine StepL.act ?_
                        intro f w1 hG hF K hK
                        have d1 : (raF W1.heap.size g4 k c4 q1 q2 q3 q4 (w32 (sched C k))) 1 (f 91) (f 0) w1 := hF 1 (by kernel_rfl)
                        have d3 : (raF W1.heap.size g4 k c4 q1 q2 q3 q4 (w32 (sched C k))) 3 (f 93) (f 0) w1 := hF 3 (by kernel_rfl)
                        clear hF
                        dsimp only at hK ⊢
                        generalize f 91 = v91 at *
                        generalize f 93 = v93 at *
                        subst d1
                        subst d3
                        go_simp
                        exact hK.out _ _ hG rfl (fun _ _ _ _ h => h)
                      · -- 5: Op.load 24 t94
                        refine StepA.was ?_
                        refine StepL.act ?_
                        intro f w1 hG hF K hK
                        have d4 : (raF W1.heap.size g4 k c4 q1 q2 q3 q4 (w32 (sched C k))) 4 (f 94) (f 0) w1 := hF 4 (by kernel_rfl)
                        clear hF
                        dsimp only at hK ⊢
                        generalize f 94 = v94 at *
                        subst d4
                        have y := hG.cell (k - 3) (by rw [sched_length]; omega)
                        rw [HQ1.out] at y
                        go_simp
                        exact hK.out _ _ hG rfl (fun _ _ _ _ h => h)
                      · -- 6: Op.move t8
                        intro f w1 hG hO hF K hK
                        have o8 : f 8 = .slice (some ⟨g4, 0, none⟩) k c4 := hO 8 (by kernel_rfl)
                        clear hO
                        clear hF
                        dsimp only at hK ⊢
                        generalize f 8 = y8 at *
                        subst o8
                        go_simp
                        exact hK.out _ _ hG rfl (fun _ _ _ h => h)
                      · -- 7: Op.move t12
                        refine StepA.was ?_
                        refine StepL.act ?_
                        intro f w1 hG hF K hK
                        clear hF
                        dsimp only at hK ⊢
                        go_simp
                        exact hK.out _ _ hG rfl (fun _ _ _ _ h => h)
                      · -- 8: Op.binOp BinOp.sub 3 t97 (const (8:i64)) 3
                        refine StepA.was ?_
                        refine StepL.act ?_
                        intro f w1 hG hF K hK
                        have d7 : (raF W1.heap.size g4 k c4 q1 q2 q3 q4 (w32 (sched C k))) 7 (f 97) (f 0) w1 := hF 7 (by kernel_rfl)
                        clear hF
                        dsimp only at hK ⊢
                        generalize f 97 = v97 at *
                        subst d7
                        go_simp
                        exact hK.out _ _ hG rfl (fun _ _ _ _ h => h)
                      · -- 9: Op.indexAddr 42 t96 t98
                        refine StepA.was ?_
                        refine StepL.act ?_
                        intro f w1 hG hF K hK
                        have d6 : (raF W1.heap.size g4 k c4 q1 q2 q3 q4 (w32 (sched C k))) 6 (f 96) (f 0) w1 := hF 6 (by kernel_rfl)
                        have d8 : (raF W1.heap.size g4 k c4 q1 q2 q3 q4 (w32 (sched C k))) 8 (f 98) (f 0) w1 := hF 8 (by kernel_rfl)
                        clear hF
                        dsimp only at hK ⊢
                        generalize f 96 = v96 at *
                        generalize f 98 = v98 at *
                        subst d6
                        subst d8
                        go_simp
                        exact hK.out _ _ hG rfl (fun _ _ _ _ h => h)
                      · -- 10: Op.load 24 t99
                        refine StepA.was ?_
                        refine StepL.act ?_
                        intro f w1 hG hF K hK
                        have d9 : (raF W1.heap.size g4 k c4 q1 q2 q3 q4 (w32 (sched C k))) 9 (f 99) (f 0) w1 := hF 9 (by kernel_rfl)
                        clear hF
                        dsimp only at hK ⊢
                        generalize f 99 = v99 at *
                        subst d9
                        have y := hG.cell (k - 8) (by rw [sched_length]; omega)
                        rw [HQ2.out] at y
                        go_simp
                        exact hK.out _ _ hG rfl (fun _ _ _ _ h => h)
                      · -- 11: Op.binOp BinOp.xor 24 t95 t100 24
                        refine StepA.was ?_
                        refine StepL.act ?_
                        intro f w1 hG hF K hK
                        have d5 : (raF W1.heap.size g4 k c4 q1 q2 q3 q4 (w32 (sched C k))) 5 (f 95) (f 0) w1 := hF 5 (by kernel_rfl)
                        have d10 : (raF W1.heap.size g4 k c4 q1 q2 q3 q4 (w32 (sched C k))) 10 (f 100) (f 0) w1 := hF 10 (by kernel_rfl)
                        clear hF
                        dsimp only at hK ⊢
                        generalize f 95 = v95 at *
                        generalize f 100 = v100 at *
                        subst d5
                        subst d10
                        go_simp
                        exact hK.out _ _ hG rfl (fun _ _ _ _ h => h)
                      · -- 12: Op.move t8
                        intro f w1 hG hO hF K hK
                        have o8 : f 8 = .slice (some ⟨g4, 0, none⟩) k c4 := hO 8 (by kernel_rfl)
                        clear hO
                        clear hF
                        dsimp only at hK ⊢
                        generalize f 8 = y8 at *
                        subst o8
                        go_simp
                        exact hK.out _ _ hG rfl (fun _ _ _ h => h)
                      · -- 13: Op.move t12
                        refine StepA.was ?_
                        refine StepL.act ?_
                        intro f w1 hG hF K hK
                        clear hF
                        dsimp only at hK ⊢
                        go_simp
                        exact hK.out _ _ hG rfl (fun _ _ _ _ h => h)
                      · -- 14: Op.binOp BinOp.sub 3 t103 (const (14:i64)) 3
                        refine StepA.was ?_
                        refine StepL.act ?_
                        intro f w1 hG hF K hK
                        have d13 : (raF W1.heap.size g4 k c4 q1 q2 q3 q4 (w32 (sched C k))) 13 (f 103) (f 0) w1 := hF 13 (by kernel_rfl)
                        clear hF
                        dsimp only at hK ⊢
                        generalize f 103 = v103 at *
                        subst d13
                        go_simp
                        exact hK.out _ _ hG rfl (fun _ _ _ _ h => h)
                      · -- 15: Op.indexAddr 42 t102 t104
                        refine StepA.was ?_
                        refine StepL.act ?_
                        intro f w1 hG hF K hK
                        have d12 : (raF W1.heap.size g4 k c4 q1 q2 q3 q4 (w32 (sched C k))) 12 (f 102) (f 0) w1 := hF 12 (by kernel_rfl)
                        have d14 : (raF W1.heap.size g4 k c4 q1 q2 q3 q4 (w32 (sched C k))) 14 (f 104) (f 0) w1 := hF 14 (by kernel_rfl)
                        clear hF
                        dsimp only at hK ⊢
                        generalize f 102 = v102 at *
                        generalize f 104 = v104 at *
                        subst d12
                        subst d14
                        go_simp
                        exact hK.out _ _ hG rfl (fun _ _ _ _ h => h)
                      · -- 16: Op.load 24 t105
                        refine StepA.was ?_
                        refine StepL.act ?_
                        intro f w1 hG hF K hK
                        have d15 : (raF W1.heap.size g4 k c4 q1 q2 q3 q4 (w32 (sched C k))) 15 (f 105) (f 0) w1 := hF 15 (by kernel_rfl)
                        clear hF
                        dsimp only at hK ⊢
                        generalize f 105 = v105 at *
                        subst d15
                        have y := hG.cell (k - 14) (by rw [sched_length]; omega)
                        rw [HQ3.out] at y
                        go_simp
                        exact hK.out _ _ hG rfl (fun _ _ _ _ h => h)
                      · -- 17: Op.binOp BinOp.xor 24 t101 t106 24
                        refine StepA.was ?_
                        refine StepL.act ?_
                        intro f w1 hG hF K hK
                        have d11 : (raF W1.heap.size g4 k c4 q1 q2 q3 q4 (w32 (sched C k))) 11 (f 101) (f 0) w1 := hF 11 (by kernel_rfl)
                        have d16 : (raF W1.heap.size g4 k c4 q1 q2 q3 q4 (w32 (sched C k))) 16 (f 106) (f 0) w1 := hF 16 (by kernel_rfl)
                        clear hF
                        dsimp only at hK ⊢
                        generalize f 101 = v101 at *
                        generalize f 106 = v106 at *
                        subst d11
                        subst d16
                        go_simp
                        exact hK.out _ _ hG rfl (fun _ _ _ _ h => h)
                      · -- 18: Op.move t8
                        intro f w1 hG hO hF K hK
                        have o8 : f 8 = .slice (some ⟨g4, 0, none⟩) k c4 := hO 8 (by kernel_rfl)
                        clear hO
                        clear hF
                        dsimp only at hK ⊢
                        generalize f 8 = y8 at *
                        subst o8
                        go_simp
                        exact hK.out _ _ hG rfl (fun _ _ _ h => h)
                      · -- 19: Op.move t12
                        refine StepA.was ?_
                        refine StepL.act ?_
                        intro f w1 hG hF K hK
                        clear hF
                        dsimp only at hK ⊢
                        go_simp
                        exact hK.out _ _ hG rfl (fun _ _ _ _ h => h)
                      · -- 20: Op.binOp BinOp.sub 3 t109 (const (16:i64)) 3
                        refine StepA.was ?_
                        refine StepL.act ?_
                        intro f w1 hG hF K hK
                        have d19 : (raF W1.heap.size g4 k c4 q1 q2 q3 q4 (w32 (sched C k))) 19 (f 109) (f 0) w1 := hF 19 (by kernel_rfl)
                        clear hF
                        dsimp only at hK ⊢
                        generalize f 109 = v109 at *
                        subst d19
                        go_simp
                        exact hK.out _ _ hG rfl (fun _ _ _ _ h => h)
                      · -- 21: Op.indexAddr 42 t108 t110
                        refine StepA.was ?_
                        refine StepL.act ?_
                        intro f w1 hG hF K hK
                        have d18 : (raF W1.heap.size g4 k c4 q1 q2 q3 q4 (w32 (sched C k))) 18 (f 108) (f 0) w1 := hF 18 (by kernel_rfl)
                        have d20 : (raF W1.heap.size g4 k c4 q1 q2 q3 q4 (w32 (sched C k))) 20 (f 110) (f 0) w1 := hF 20 (by kernel_rfl)
                        clear hF
                        dsimp only at hK ⊢
                        generalize f 108 = v108 at *
                        generalize f 110 = v110 at *
                        subst d18
                        subst d20
                        go_simp
                        exact hK.out _ _ hG rfl (fun _ _ _ _ h => h)
                      · -- 22: Op.load 24 t111
                        refine StepA.was ?_
                        refine StepL.act ?_
                        intro f w1 hG hF K hK
                        have d21 : (raF W1.heap.size g4 k c4 q1 q2 q3 q4 (w32 (sched C k))) 21 (f 111) (f 0) w1 := hF 21 (by kernel_rfl)
                        clear hF
                        dsimp only at hK ⊢
                        generalize f 111 = v111 at *
                        subst d21
                        have y := hG.cell (k - 16) (by rw [sched_length]; omega)
                        rw [HQ4.out] at y
                        go_simp
                        exact hK.out _ _ hG rfl (fun _ _ _ _ h => h)
                      · -- 23: Op.binOp BinOp.xor 24 t107 t112 24
                        refine StepA.was ?_
                        refine StepL.act ?_
                        intro f w1 hG hF K hK
                        have d17 : (raF W1.heap.size g4 k c4 q1 q2 q3 q4 (w32 (sched C k))) 17 (f 107) (f 0) w1 := hF 17 (by kernel_rfl)
                        have d22 : (raF W1.heap.size g4 k c4 q1 q2 q3 q4 (w32 (sched C k))) 22 (f 112) (f 0) w1 := hF 22 (by kernel_rfl)
                        clear hF
                        dsimp only at hK ⊢
                        generalize f 107 = v107 at *
                        generalize f 112 = v112 at *
                        subst d17
                        subst d22
                        go_simp
                        exact hK.out _ _ hG rfl (fun _ _ _ _ h => h)
                      · -- 24: Op.call ( value (Operand.func 26), args := #[t113, const (1:i64)], argTypes := #
                        refine StepA.was ?_
                        refine StepL.act ?_
                        intro f w1 hG hF K hK
                        have d23 : (raF W1.heap.size g4 k c4 q1 q2 q3 q4 (w32 (sched C k))) 23 (f 113) (f 0) w1 := hF 23 (by kernel_rfl)
                        clear hF
                        dsimp only at hK ⊢
                        generalize f 113 = v113 at *
                        subst d23
                        go_simp
                        refine (turn1 _ m3.out w1).mono ?_
                        rintro e w2' ⟨rfl, nn, rfl⟩
                        exact hK.out _ _ (hG.next (below_drewN (Below.refl _ _) nn)) rfl (fun j _ u u' h => raF_bel (below_drewN (Below.refl _ _) nn) j u u' h)
                      · -- 25: Op.buildSlice 42 1 #[(0, t114)]
                        refine StepA.was ?_
                        refine StepL.act ?_
                        intro f w1 hG hF K hK
                        have d24 : (raF W1.heap.size g4 k c4 q1 q2 q3 q4 (w32 (sched C k))) 24 (f 114) (f 0) w1 := hF 24 (by kernel_rfl)
                        clear hF
                        dsimp only at hK ⊢
                        generalize f 114 = v114 at *
                        subst d24
                        go_simp
                        exact hK.out _ _ (hG.next ((Below.refl _ _).alloc (Nat.le_refl _) _)) ⟨w1.heap.size, rfl, (by have := hG.lt; omega), Bk.new w1 _ _⟩ (fun j _ u u' h => raF_bel ((Below.refl _ _).alloc (Nat.le_refl _) _) j u u' h)
                      · -- 26: Op.call ( builtin append, args := #[t90, t115], argTypes := #[42, 42] )
                        refine StepA.was ?_
                        intro f w1 hG hF K hK
                        have d0 : (raF W1.heap.size g4 k c4 q1 q2 q3 q4 (w32 (sched C k))) 0 (f 90) (f 0) w1 := hF 0 (by kernel_rfl)
                        have d25 : (raF W1.heap.size g4 k c4 q1 q2 q3 q4 (w32 (sched C k))) 25 (f 115) (f 0) w1 := hF 25 (by kernel_rfl)
                        clear hF
                        dsimp only at hK ⊢
                        generalize hf90 : f 90 = v90 at *
                        generalize hf115 : f 115 = v115 at *
                        have d0 : v90 = .slice (some ⟨g4, 0, none⟩) k c4 := d0
                        subst d0
                        obtain ⟨g, rfl, hg, hbk⟩ := d25
                        have hcb : ∀ j u, [Value.int .u32 ((rotN 1 (q1 ^^^ q2 ^^^ q3 ^^^ q4) : Nat) : Int)][j]? = some u → w1.cell? ((⟨g, 0, none⟩ : Addr).add j) = some u := fun j u hu => by
                          rw [show ((⟨g, 0, none⟩ : Addr).add j) = ⟨g, j, none⟩ by unfold Addr.add; split <;> simp_all, hbk.cell j]; simpa using hu
                        obtain ⟨v', w2', hrun, hown, hold, hkept, hbb, _⟩ := run_append_two (P := Tryd.prog) w1 W1.heap.size 63 63 52 j0 _ 1 4 Tryd.underlying63 hj0 hj1 hj2 hj3 rfl g4 k c4 (w32 (sched C k)) hG.own ⟨g, 0, none⟩ 1 1 [Value.int .u32 ((rotN 1 (q1 ^^^ q2 ^^^ q3 ^^^ q4) : Nat) : Int)] rfl hcb (by intro u hu; simp only [List.mem_singleton] at hu; subst hu; rfl) (by omega) (by simp only [maxLen]; omega) (by omega) hG.bel.size
                        have HK := hK.out v' w2' (hG.kept hkept hbb hold) hown
                        refine Lib.wp_append_run w1 _ _ _ _ rfl _ _ rfl rfl _ w2' hrun (HK ?_)
                        intro j hj hdep h
                        by_cases h9 : j = 27
                        · subst h9
                          exact absurd hdep (by rw [show depS _ 27 26 = true by kernel_rfl]; decide)
                        · exact raF_kept hkept j hj h9 _ _ h
                      · -- 27: Op.assign t116
                        refine StepA.was ?_
                        refine StepL.act ?_
                        intro f w1 hG hF K hK
                        have d26 : (raF W1.heap.size g4 k c4 q1 q2 q3 q4 (w32 (sched C k))) 26 (f 116) (f 0) w1 := hF 26 (by kernel_rfl)
                        clear hF
                        dsimp only at hK ⊢
                        generalize f 116 = v116 at *
                        obtain ⟨g6, c6, rfl, _, _⟩ := World.ownsRow.form d26 (by omega)
                        go_simp
                        exact hK.out _ _ hG d26 (fun _ _ _ _ h => h)
                      intro f w6 hG hF
                      have f9 : w6.ownsRow W1.heap.size 52 1 (f 8) (k + 1) (w32 (sched C k) ++ [.int .u32 ((rotN 1 (q1 ^^^ q2 ^^^ q3 ^^^ q4) : Nat) : Int)]) := hF 27 (by decide)
                      have HG := Lib.hid hG
                      clear hF hG
                      dsimp only
                      generalize f 90 = v90
                      generalize f 91 = v91
                      generalize f 92 = v92
                      generalize f 93 = v93
                      generalize f 94 = v94
                      generalize f 95 = v95
                      generalize f 96 = v96
                      generalize f 97 = v97
                      generalize f 98 = v98
                      generalize f 99 = v99
                      generalize f 100 = v100
                      generalize f 101 = v101
                      generalize f 102 = v102
                      generalize f 103 = v103
                      generalize f 104 = v104
                      generalize f 105 = v105
                      generalize f 106 = v106
                      generalize f 107 = v107
                      generalize f 108 = v108
                      generalize f 109 = v109
                      generalize f 110 = v110
                      generalize f 111 = v111
                      generalize f 112 = v112
                      generalize f 113 = v113
                      generalize f 114 = v114
                      generalize f 115 = v115
                      generalize f 116 = v116
                      generalize f 8 = v8 at *
                      obtain ⟨g6, c6, rfl, hg6, hl6⟩ := World.ownsRow.form f9 (by omega)
                      have HO6 := Lib.hid f9
                      clear f9
                      go_wp2_with fail
                      go_roundw
                      case rel =>
                        refine ⟨k + 1, by omega, by omega, by go_num, ?_, HG.out.bel⟩
                        rw [HWn.out, w32_append, HNn.out]
                        exact HO6.out
                      case measure => simp [intOf]; omega
                    · obtain rfl : k = 80 := by omega
                      rw [show ((80 : Nat) : Int) = 80 from rfl]
                      have BH := B0.out.bel G0.out.bel
                      have d0 := BH.cell 0
                      have d1 := BH.cell 1
                      have d2 := BH.cell 2
                      have d3 := BH.cell 3
                      have d4 := BH.cell 4
                      simp [stA] at d0 d1 d2 d3 d4
                      have BH := Lib.hid BH
                      go_wp2_with fail
                      go_quiet (fail)
                      clear d0 d1 d2 d3 d4
                      have GW := Lib.hid (G0.out.next (below_drewN (Below.refl _ _) nq))
                      have BH2 := Lib.hid (BH.out.drewN nq)
                      clear BH G0
                      generalize wr.drewN nq = w5 at *
                      have HOs := Lib.hid (steps_ok (sched C 80) s HOk.out)
                      have HM := Lib.hid (show mixN s C = ⟨(s.a + (steps (sched C 80) s 80).a) % 4294967296, (s.b + (steps (sched C 80) s 80).b) % 4294967296, (s.c + (steps (sched C 80) s 80).c) % 4294967296, (s.d + (steps (sched C 80) s 80).d) % 4294967296, (s.e + (steps (sched C 80) s 80).e) % 4294967296⟩ from rfl)
                      have HLen := Lib.hid (sched_length C 80)
                      generalize sched C 80 = ws at *
                      go_wp2_with fail
                      go_loopw [13, 14, 15, 16, 17, 18] (fun a b c d e i wq => ∃ k : Nat, k ≤ 80 ∧ i = .int .i64 k ∧ a = .int .u32 (((steps ws s k).a : Nat) : Int) ∧ b = .int .u32 (((steps ws s k).b : Nat) : Int) ∧ c = .int .u32 (((steps ws s k).c : Nat) : Int) ∧ d = .int .u32 (((steps ws s k).d : Nat) : Int) ∧ e = .int .u32 (((steps ws s k).e : Nat) : Int) ∧ RaG W1 g4 80 c4 (w32 ws) wq ∧ Bk wq hb 52 (stA s)) (fun _ _ _ _ _ i _ => 80 - (intOf i).toNat)
                      case atStart => exact ⟨0, by omega, rfl, rfl, rfl, rfl, rfl, rfl, GW.out, BH2.out⟩
                      case round =>
                        clear GW BH2
                        obtain ⟨k, hk, rfl, rfl, rfl, rfl, rfl, rfl, gr, br⟩ := hrel
                        obtain ⟨o1, o2, o3, o4, o5⟩ := HOs.out k
                        by_cases hltk : k < 80
                        · have y := gr.cell k (by rw [HLen.out]; exact hltk)
                          have GR := Lib.hid gr
                          have BR := Lib.hid br
                          have hn : steps ws s (k + 1) = stepN (ws.getD k 0) k (steps ws s k) := rfl
                          generalize ws.getD k 0 = X at *
                          generalize steps ws s k = S at *
                          obtain ⟨a, b, c', d, e⟩ := S
                          simp only at o1 o2 o3 o4 o5
                          obtain ⟨e1, e2, e3, e4, e5, e6, e7, e8, e9, e10⟩ := bits_facts b c' d o2 o3 o4
                          have O1 := Lib.hid o1
                          have O2 := Lib.hid o2
                          have HN5 := Lib.hid hn
                          clear o1 o2 o3 o4 o5 hn gr br
                          have i0 : (0 : Int) ≤ (k : Int) := by omega
                          have i80 : (k : Int) < 80 := by omega
                          by_cases c20 : k < 20
                          · have u60 : (k : Int) < 60 := by omega
                            have u40 : (k : Int) < 40 := by omega
                            have u20 : (k : Int) < 20 := by omega
                            have HF := Lib.hid (show fN k b c' d = (b &&& c') ||| ((4294967295 - b) &&& d) by unfold fN; rw [if_pos c20])
                            have HK := Lib.hid (show kN k = 1518500249 by unfold kN; rw [if_pos c20])
                            go_wp2_with fail
                            go_quiet ((go_at_call 40; exact Calls.quiet_of (turn5 a O1.out _)))
                            go_wp2_with (go_at_call 40; refine (turn30 b O2.out _).mono ?_; rintro e w' ⟨rfl, nn, rfl⟩)
                            have GN := Lib.hid (GR.out.next (below_drewN (Below.refl _ _) (nq + nn)))
                            have BN := Lib.hid (BR.out.drewN (nq + nn))
                            go_roundw
                            case rel =>
                              refine ⟨k + 1, by omega, by go_num, ?_, ?_, ?_, ?_, ?_, GN.out, BN.out⟩
                              all_goals (rw [HN5.out]; simp [stepN, HF.out, HK.out])
                            case measure => simp [intOf]; omega
                          · have u20 : ¬ (k : Int) < 20 := by omega
                            by_cases c40 : k < 40
                            · have u60 : (k : Int) < 60 := by omega
                              have u40 : (k : Int) < 40 := by omega
                              have HF := Lib.hid (show fN k b c' d = b ^^^ c' ^^^ d by unfold fN; rw [if_neg c20, if_pos c40])
                              have HK := Lib.hid (show kN k = 1859775393 by unfold kN; rw [if_neg c20, if_pos c40])
                              go_wp2_with fail
                              go_quiet ((go_at_call 40; exact Calls.quiet_of (turn5 a O1.out _)))
                              go_wp2_with (go_at_call 40; refine (turn30 b O2.out _).mono ?_; rintro e w' ⟨rfl, nn, rfl⟩)
                              have GN := Lib.hid (GR.out.next (below_drewN (Below.refl _ _) (nq + nn)))
                              have BN := Lib.hid (BR.out.drewN (nq + nn))
                              go_roundw
                              case rel =>
                                refine ⟨k + 1, by omega, by go_num, ?_, ?_, ?_, ?_, ?_, GN.out, BN.out⟩
                                all_goals (rw [HN5.out]; simp [stepN, HF.out, HK.out])
                              case measure => simp [intOf]; omega
                            · have u40 : ¬ (k : Int) < 40 := by omega
                              by_cases c60 : k < 60
                              · have u60 : (k : Int) < 60 := by omega
                                have HF := Lib.hid (show fN k b c' d = (b &&& c') ||| (b &&& d) ||| (c' &&& d) by unfold fN; rw [if_neg c20, if_neg c40, if_pos c60])
                                have HK := Lib.hid (show kN k = 2400959708 by unfold kN; rw [if_neg c20, if_neg c40, if_pos c60])
                                go_wp2_with fail
                                go_quiet ((go_at_call 40; exact Calls.quiet_of (turn5 a O1.out _)))
                                go_wp2_with (go_at_call 40; refine (turn30 b O2.out _).mono ?_; rintro e w' ⟨rfl, nn, rfl⟩)
                                have GN := Lib.hid (GR.out.next (below_drewN (Below.refl _ _) (nq + nn)))
                                have BN := Lib.hid (BR.out.drewN (nq + nn))
                                go_roundw
                                case rel =>
                                  refine ⟨k + 1, by omega, by go_num, ?_, ?_, ?_, ?_, ?_, GN.out, BN.out⟩
                                  all_goals (rw [HN5.out]; simp [stepN, HF.out, HK.out])
                                case measure => simp [intOf]; omega
                              · have u60 : ¬ (k : Int) < 60 := by omega
                                have HF := Lib.hid (show fN k b c' d = b ^^^ c' ^^^ d by unfold fN; rw [if_neg c20, if_neg c40, if_neg c60])
                                have HK := Lib.hid (show kN k = 3395469782 by unfold kN; rw [if_neg c20, if_neg c40, if_neg c60])
                                go_wp2_with fail
                                go_quiet ((go_at_call 40; exact Calls.quiet_of (turn5 a O1.out _)))
                                go_wp2_with (go_at_call 40; refine (turn30 b O2.out _).mono ?_; rintro e w' ⟨rfl, nn, rfl⟩)
                                have GN := Lib.hid (GR.out.next (below_drewN (Below.refl _ _) (nq + nn)))
                                have BN := Lib.hid (BR.out.drewN (nq + nn))
                                go_roundw
                                case rel =>
                                  refine ⟨k + 1, by omega, by go_num, ?_, ?_, ?_, ?_, ?_, GN.out, BN.out⟩
                                  all_goals (rw [HN5.out]; simp [stepN, HF.out, HK.out])
                                case measure => simp [intOf]; omega
                        · obtain rfl : k = 80 := by omega
                          rw [show ((80 : Nat) : Int) = 80 from rfl]
                          have d0 := br.cell 0
                          have d1 := br.cell 1
                          have d2 := br.cell 2
                          have d3 := br.cell 3
                          have d4 := br.cell 4
                          simp [stA] at d0 d1 d2 d3 d4
                          have GR := Lib.hid (gr.next (Below.refl _ _).drew)
                          clear gr br o1 o2 o3 o4 o5
                          generalize steps ws s 80 = S at *
                          go_wp2_with fail
                          go_still_tail 25, (by kernel_rfl)
                          change wpList _ _ _ _ _ wr.drew
                          clear d0 d1 d2 d3 d4
                          generalize wr.drew = w6 at *
                          have HBk := Lib.hid (show Bk (w6.alloc (.cells #[.int .u32 (((s.a : Int) + (S.a : Int)) % 4294967296), .int .u32 (((s.b : Int) + (S.b : Int)) % 4294967296), .int .u32 (((s.c : Int) + (S.c : Int)) % 4294967296), .int .u32 (((s.d : Int) + (S.d : Int)) % 4294967296), .int .u32 (((s.e : Int) + (S.e : Int)) % 4294967296)] 52)) w6.heap.size 52 (stA (chunksN h0N P (q' + 1))) by
                            rw [HNx.out, HM.out]
                            have := Bk.new w6 52 #[.int .u32 (((s.a : Int) + (S.a : Int)) % 4294967296), .int .u32 (((s.b : Int) + (S.b : Int)) % 4294967296), .int .u32 (((s.c : Int) + (S.c : Int)) % 4294967296), .int .u32 (((s.d : Int) + (S.d : Int)) % 4294967296), .int .u32 (((s.e : Int) + (S.e : Int)) % 4294967296)]
                            simpa [stA] using this)
                          have HBl := Lib.hid (BW.out.trans ((GR.out.bel.alloc GR.out.bel.size (.cells #[.int .u32 (((s.a : Int) + (S.a : Int)) % 4294967296), .int .u32 (((s.b : Int) + (S.b : Int)) % 4294967296), .int .u32 (((s.c : Int) + (S.c : Int)) % 4294967296), .int .u32 (((s.d : Int) + (S.d : Int)) % 4294967296), .int .u32 (((s.e : Int) + (S.e : Int)) % 4294967296)] 52)).mono szw))
                          have HSe := Lib.hid (S0.out.bel (GR.out.bel.alloc GR.out.bel.size (.cells #[.int .u32 (((s.a : Int) + (S.a : Int)) % 4294967296), .int .u32 (((s.b : Int) + (S.b : Int)) % 4294967296), .int .u32 (((s.c : Int) + (S.c : Int)) % 4294967296), .int .u32 (((s.d : Int) + (S.d : Int)) % 4294967296), .int .u32 (((s.e : Int) + (S.e : Int)) % 4294967296)] 52)))
                          go_wp2_with fail
                          go_roundw
                          case rel => exact ⟨q' + 1, w6.heap.size, by omega, by go_num, rfl, HBk.out, HBl.out, HSe.out⟩
                          case measure => simp [intOf]; omega
            · obtain rfl : q' = q := by omega
              have hok := Lib.hid (chunksN_ok h0N h0N_ok P q')
              generalize hst : chunksN h0N P q' = s at *
              have HSt := Lib.hid hst
              clear hst
              have OW := Lib.hid (World.ownsRow_lit (base := W1.heap.size) (e := 5) (size := 1) W1 #[] 0 (Nat.le_refl _) (by decide) rfl)
              go_wp2_with fail
              go_loopw [22, 219] (fun v i wq => ∃ p : Nat, p ≤ 5 ∧ i = .int .i64 p ∧ wq.ownsRow W1.heap.size 5 1 v (4 * p) (u8s ((outN s).take (4 * p))) ∧ Below W1.heap.size W1 wq) (fun _ i _ => 5 - (intOf i).toNat)
              case atStart => exact ⟨0, by omega, rfl, OW.out, (Below.refl _ _).alloc (Nat.le_refl _) _⟩
              case round =>
                clear OW
                obtain ⟨p, hp, rfl, hown, hbq⟩ := hrel
                have HO := Lib.hid hown
                have HW3 := Lib.hid hbq
                have hsz := hbq.size
                have hbr := B0.out.bel hbq
                clear hown hbq
                by_cases hltp : p < 5
                · have y := hbr.cell p
                  rw [show (stA s)[p]? = some (.int .u32 ((s.get p : Nat) : Int)) from stA_get s p hltp] at y
                  have hX := get_lt s hok.out p hltp
                  have hT := outN_take s p hltp
                  have HT := Lib.hid hT
                  unfold word4 at HT
                  generalize s.get p = X at *
                  clear hT hbr
                  have i1 : (p : Int) < 5 := by omega
                  obtain ⟨A5, c5, rfl, hc5, _⟩ := own_shape HO.out
                  go_wp2_with (at_builtin; refine wpList_append_seg _ rfl _ _ _ rfl W1.heap.size 5 i0 _ 1 Tryd.underlying22 hi0 hz0 hz1 hz2 rfl _ (4 * p) _ rfl (own_alloc HO.out _) (some ⟨wr.heap.size, 0, none⟩) 4 4 [.int .u8 ((X : Int) / 16777216), .int .u8 ((X : Int) / 65536 % 256), .int .u8 ((X : Int) / 256 % 256), .int .u8 ((X : Int) % 256)] rfl rfl (seg_four _ _ _ _ _ _) (by simp [Value.oneCell']) (by simp only [maxLen]; omega) (by omega) (by simp only [World.size_alloc]; omega) ?_; intro v' w' hown' hb')
                  go_roundw
                  case rel =>
                    refine ⟨p + 1, by omega, by go_num, ?_, (HW3.out.alloc hsz _).trans hb'⟩
                    have e : u8s ((outN s).take (4 * p)) ++ [Value.int .u8 ((X : Int) / 16777216), .int .u8 ((X : Int) / 65536 % 256), .int .u8 ((X : Int) / 256 % 256), .int .u8 ((X : Int) % 256)] = u8s ((outN s).take (4 * (p + 1))) := by
                      rw [HT.out, u8s_append]
                      congr 1
                      have e1 : (X : Int) / 16777216 = ((X / 16777216 % 256 : Nat) : Int) := by omega
                      rw [e1]
                      simp [u8s]
                    rw [e] at hown'
                    exact hown'
                  case measure => simp [intOf]; omega
                · obtain rfl : p = 5 := by omega
                  obtain ⟨A5, c5, rfl, hc5, s5⟩ := own_shape HO.out
                  have hl5 : (outN s).take (4 * 5) = outN s := by rfl
                  rw [hl5] at s5
                  have S5 := Lib.hid s5
                  have O5 := HO.out
                  rw [hl5] at O5
                  have O5 := Lib.hid (own_baseR O5 szw)
                  clear HO s5 hl5 hbr S5
                  rw [show ((5 : Nat) : Int) = 5 from rfl]
                  go_wp2_with fail
                  go_ret
                  exact ⟨A5, c5, rfl, hc5, by rw [HSha.out]; exact O5.out, BW.out.trans (HW3.out.mono szw)⟩
        · rw [show (((m + 1 : Nat) : Int) - 1) = (m : Int) by omega]
          have e1 := shr_len n (7 - m) (by omega) (by omega)
          rw [show 7 - (7 - m) = m by omega] at e1
          have hl8 : (lenN n).length = 8 := by simp [lenN]
          have hs : (lenN n).take (8 - m) = (lenN n).take (8 - (m + 1)) ++ [(n * 8 % 18446744073709551616) / 2 ^ (8 * m) % 256] := by
            rw [show 8 - m = 8 - (m + 1) + 1 by omega, List.take_succ_eq_append_getElem (by omega)]; simp [lenN]; congr 3; omega
          obtain ⟨D, hD⟩ : ∃ D, D = (n * 8 % 18446744073709551616) / 2 ^ (8 * m) % 256 := ⟨_, rfl⟩
          rw [← hD] at e1 hs
          have HS := Lib.hid hs
          clear hD hs hl8
          have t0 : (8 * (m : Int)).toNat = 8 * m := by omega
          go_wp2_with (at_builtin; refine wpList_append_seg _ rfl _ _ _ rfl w.heap.size 5 i0 _ 1 Tryd.underlying22 hi0 hz0 hz1 hz2 rfl _ (n + 1 + j + (8 - (m + 1))) _ rfl (own_alloc HO.out _) (some ⟨wr.heap.size, 0, none⟩) 1 1 [.int .u8 (D : Int)] rfl rfl (seg_new _ _ _) (by simp [Value.oneCell']) (by simp only [maxLen]; omega) (by omega) (by simp only [World.size_alloc]; omega) ?_; intro v' w' hown' hb')
          go_roundw
          case rel =>
            refine ⟨m, by omega, rfl, ?_, (HW2.out.alloc hsz2 _).trans hb'⟩
            rw [HS.out]
            rw [show u8s (l ++ 128 :: List.replicate j 0 ++ (lenN n).take (8 - (m + 1))) ++ [Value.int .u8 (D : Int)] = u8s (l ++ 128 :: List.replicate j 0 ++ ((lenN n).take (8 - (m + 1)) ++ [D])) by simp [u8s], show n + 1 + j + (8 - (m + 1)) + 1 = n + 1 + j + (8 - m) by omega] at hown'
            exact hown'
          case measure => simp [intOf]
end Go.Proofs.YtamhpikjnieeeaaDoor
