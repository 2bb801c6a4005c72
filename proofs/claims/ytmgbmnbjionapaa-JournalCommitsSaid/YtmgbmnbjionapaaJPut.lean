/- The walks of writing a number's lowest bytes into a row, and of reading them. Conditions: the row is known whole; the bytes lie in memory. -/
import Derived.Test.YtmgbmnbjionapaaJM
namespace Go.Proofs.Ytmgbmnbjionapaa
open Go.RowKit

theorem shr_u64 (x k : Nat) : (x : Int) / 2 ^ (8 * k) % 256 = ((x / 2 ^ (8 * k) % 256 : Nat) : Int) := by simp
theorem u8s_put (pre post : List Nat) (a y : Nat) (g : Nat) (w : World) (h : Bk w g 5 (u8s (pre ++ a :: post)).toArray) :
    Bk (w.setCell ⟨g, pre.length, none⟩ (.int .u8 (y : Int))) g 5 (u8s (pre ++ y :: post)).toArray := by
  have := h.put pre.length (.int .u8 (y : Int))
  have e : (u8s (pre ++ a :: post)).toArray.setIfInBounds pre.length (.int .u8 (y : Int)) = (u8s (pre ++ y :: post)).toArray := by
    apply Array.ext_getElem?
    intro j
    rw [Array.getElem?_setIfInBounds]
    simp only [u8s, List.getElem?_toArray, List.getElem?_map, List.size_toArray, List.length_map, List.length_append, List.length_cons]
    by_cases hj : pre.length = j
    · subst hj
      simp
    · rw [if_neg hj]
      by_cases h2 : j < pre.length
      · simp [List.getElem?_append_left h2]
      · rw [List.getElem?_append_right (by omega), List.getElem?_append_right (by omega)]
        obtain ⟨d, hd⟩ : ∃ d, j - pre.length = d + 1 := ⟨j - pre.length - 1, by omega⟩
        rw [hd]; rfl
  rwa [e] at this

set_option maxRecDepth 100000 in
theorem put_any (g off len cap n x : Nat) (pre mid post : List Nat) (hpre : off = pre.length) (hmid : n = mid.length) (hnl : n ≤ len) (_hlc : len ≤ 1000) (_ho : off ≤ 1000) (hn8 : n ≤ 8) (_hx : x < 18446744073709551616) (w : World)
    (hB : Bk w g 5 (u8s (pre ++ (mid ++ post))).toArray) :
    Calls Try.prog 75 #[.slice (some ⟨g, off, none⟩) len cap, .int .i64 n, .int .u64 x] w fun e w' => e = .returned (.tuple #[]) ∧ Bk w' g 5 (u8s (pre ++ (leN x n ++ post))).toArray ∧ Below g w w' := by
  have HB := Lib.hid hB
  have HM := Lib.hid hmid
  have HP := Lib.hid hpre
  clear hB hmid hpre
  go_enter Try.func75, Try.ntmps75
  go_wp2
  go_loopw [8] (fun i wr => ∃ k : Nat, k ≤ n ∧ i = .int .i64 k ∧ Bk wr g 5 (u8s (pre ++ (leN x k ++ (mid.drop k ++ post)))).toArray ∧ Below g w wr) (fun i _ => n - (intOf i).toNat)
  case atStart => exact ⟨0, by omega, rfl, HB.out, Below.refl _ _⟩
  case round =>
    obtain ⟨k, hk, rfl, hb, hbel⟩ := hrel
    by_cases hlt : k < n
    · have hmk : k < mid.length := by rw [← HM.out]; exact hlt
      have hc := hb.cell (off + k)
      have hf := hb.frozen (off + k)
      have e1 : mid.drop k = mid[k] :: mid.drop (k + 1) := (List.getElem_cons_drop ..).symm
      have hlen : (pre ++ leN x k).length = off + k := by rw [List.length_append, leN_length, HP.out]
      have hcell : ∃ v, wr.cell? ⟨g, off + k, none⟩ = some v := by
        rw [hc]
        refine ⟨_, Array.getElem?_eq_getElem ?_⟩
        simp [u8s, leN_length, ← HP.out]
        omega
      obtain ⟨v0, hv0⟩ := hcell
      rw [e1, ← List.append_assoc] at hb
      have hput := u8s_put (pre ++ leN x k) (mid.drop (k + 1) ++ post) mid[k] (x / 2 ^ (8 * k) % 256) g wr hb
      rw [hlen, List.append_assoc, show x / 2 ^ (8 * k) % 256 :: (mid.drop (k + 1) ++ post) = [x / 2 ^ (8 * k) % 256] ++ (mid.drop (k + 1) ++ post) from rfl, ← List.append_assoc (leN x k)] at hput
      rw [show leN x k ++ [x / 2 ^ (8 * k) % 256] = leN x (k + 1) from rfl] at hput
      rw [← shr_u64] at hput
      have HPut := Lib.hid hput
      have HBel := Lib.hid hbel
      have i1 : (0 : Int) ≤ (k : Int) := by omega
      clear hput hb hbel hc e1 hlen hmk
      go_wp2
      go_roundw
      case rel => exact ⟨k + 1, by omega, by go_num, HPut.out, HBel.out.setCell (Nat.le_refl _) _⟩
      case measure => simp [intOf]; omega
    · obtain rfl : k = n := by omega
      rw [show mid.drop k = [] from List.drop_eq_nil_of_le (by rw [← HM.out]; omega), List.nil_append] at hb
      have HBk := Lib.hid hb
      have HBel := Lib.hid hbel
      clear hb hbel
      go_wp2
      go_end0
      exact ⟨rfl, HBk.out, HBel.out⟩

/-- A number read from its lowest bytes, one more byte each round. -/
theorem or_byte (l : List Nat) (hl : ∀ x ∈ l, x < 256) (k : Nat) (hk : k < l.length) : (leGet (l.take k)) ||| (l[k] * 2 ^ (8 * k)) = leGet (l.take (k + 1)) := by
  have hlen : (l.take k).length = k := by rw [List.length_take]; omega
  have h1 := leGet_append (l.take k) [l[k]]
  rw [← List.take_succ_eq_append_getElem hk, hlen] at h1
  have h2 := leGet_lt (l.take k) (fun x hx => hl x (List.mem_of_mem_take hx))
  rw [hlen] at h2
  rw [h1]
  simp only [leGet, Nat.mul_zero, Nat.add_zero]
  have h3 := Nat.two_pow_add_eq_or_of_lt (i := 8 * k) h2 l[k]
  rw [Nat.mul_comm l[k], Nat.or_comm, ← h3, Nat.add_comm]
theorem leGet_take_lt (l : List Nat) (hl : ∀ x ∈ l, x < 256) (n : Nat) (hn : n ≤ 8) : leGet (l.take n) < 18446744073709551616 := by
  have h := leGet_lt (l.take n) (fun x hx => hl x (List.mem_of_mem_take hx))
  have hlen : (l.take n).length ≤ n := List.length_take_le _ _
  exact Nat.lt_of_lt_of_le h (Nat.le_trans (Nat.pow_le_pow_right (by omega) (show 8 * (l.take n).length ≤ 64 by omega)) (by decide))
theorem shl_lt (X k : Nat) (hx : X < 256) (hk : k < 8) : X * 2 ^ (8 * k) < 18446744073709551616 := by
  have h1 : X * 2 ^ (8 * k) < 256 * 2 ^ (8 * k) := Nat.mul_lt_mul_of_pos_right hx (Nat.two_pow_pos _)
  have h2 : 256 * 2 ^ (8 * k) ≤ 2 ^ 64 := by
    rw [show (256 : Nat) = 2 ^ 8 from rfl, ← Nat.pow_add]
    exact Nat.pow_le_pow_right (by omega) (by omega)
  exact Nat.lt_of_lt_of_le h1 h2
theorem wrap_shl (X k : Nat) (hx : X < 256) (hk : k < 8) : IntKind.u64.wrap ((X : Int) * 2 ^ (8 * k)) = ((X * 2 ^ (8 * k) : Nat) : Int) := by
  have h := shl_lt X k hx hk
  rw [show (X : Int) * 2 ^ (8 * k) = ((X * 2 ^ (8 * k) : Nat) : Int) by simp]
  generalize X * 2 ^ (8 * k) = q at *
  rw [IntKind.wrap_u64]
  omega
set_option maxRecDepth 100000 in
theorem get_any (A : Option Addr) (m c n : Nat) (l : List Nat) (hm : m = l.length) (hnm : n ≤ m) (hn8 : n ≤ 8) (w : World) (hA : Seg w A (u8s l)) (hl : ∀ x ∈ l, x < 256) :
    Calls Try.prog 71 #[.slice A m c, .int .i64 n] w fun e w' => e = .returned (.int .u64 ((leGet (l.take n) : Nat) : Int)) ∧ w = w' := by
  have HA := Lib.hid hA
  have HM := Lib.hid hm
  have HL := Lib.hid hl
  clear hA hm hl
  go_enter Try.func71, Try.ntmps71
  go_wp2
  go_loop [5, 8] (fun x i => ∃ k : Nat, k ≤ n ∧ i = .int .i64 k ∧ x = .int .u64 ((leGet (l.take k) : Nat) : Int)) (fun _ i => n - (intOf i).toNat)
  case atStart => exact ⟨0, by omega, rfl, rfl⟩
  case round =>
    obtain ⟨k, hk, rfl, rfl⟩ := hrel
    have hlt64 := leGet_take_lt l HL.out k (by omega)
    by_cases hlt : k < n
    · have hk' : k < l.length := by rw [← HM.out]; omega
      have hor := or_byte l HL.out k hk'
      obtain ⟨b, off, rfl, hbl, _, hc⟩ := HA.out.pick (k := k) (by rw [u8s_length]; exact hk')
      rw [u8s_get l k hk'] at hc
      have hx := HL.out _ (List.getElem_mem hk')
      generalize l[k] = X at *
      have hc' : w.cell? ⟨b, off + k, none⟩ = some (.int .u8 (X : Int)) := hc
      clear hc
      generalize leGet (l.take k) = G at *
      have i1 : (0 : Int) ≤ (k : Int) := by omega
      have HO := Lib.hid hor
      clear hor
      go_wp2
      go_round
      case rel => exact ⟨k + 1, by omega, by go_num, by rw [← HO.out, wrap_shl X k hx (by omega), u64_or_nat G _ hlt64 (shl_lt X k hx (by omega))]⟩
      case measure => simp [intOf]; omega
    · obtain rfl : k = n := by omega
      go_wp2
      go_ret
      exact ⟨rfl, rfl⟩
end Go.Proofs.Ytmgbmnbjionapaa
