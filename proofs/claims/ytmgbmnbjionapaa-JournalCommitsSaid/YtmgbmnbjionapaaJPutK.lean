/- The walk of writing a number's lowest bytes into a row: only the row's own block has changed. Condition: the row is known whole. -/
import Derived.Test.YtmgbmnbjionapaaJPut
import Derived.Test.YtmgbmnbjionapaaKp
namespace Go.Proofs.Ytmgbmnbjionapaa
open Go.RowKit

set_option maxRecDepth 100000 in
theorem put_kp (g off len cap n x : Nat) (pre mid post : List Nat) (hpre : off = pre.length) (hmid : n = mid.length) (hnl : n ≤ len) (_hlc : len ≤ 1000) (_ho : off ≤ 1000) (hn8 : n ≤ 8) (_hx : x < 18446744073709551616) (w : World)
    (hB : Bk w g 5 (u8s (pre ++ (mid ++ post))).toArray) :
    Calls Try.prog 75 #[.slice (some ⟨g, off, none⟩) len cap, .int .i64 n, .int .u64 x] w fun e w' => e = .returned (.tuple #[]) ∧ Bk w' g 5 (u8s (pre ++ (leN x n ++ post))).toArray ∧ Kp (fun i => i = g) (fun i => i = g) w w' := by
  have HB := Lib.hid hB
  have HM := Lib.hid hmid
  have HP := Lib.hid hpre
  clear hB hmid hpre
  go_enter Try.func75, Try.ntmps75
  go_wp2
  go_loopw [8] (fun i wr => ∃ k : Nat, k ≤ n ∧ i = .int .i64 k ∧ Bk wr g 5 (u8s (pre ++ (leN x k ++ (mid.drop k ++ post)))).toArray ∧ Kp (fun i => i = g) (fun i => i = g) w wr) (fun i _ => n - (intOf i).toNat)
  case atStart => exact ⟨0, by omega, rfl, HB.out, Kp.refl _ _⟩
  case round =>
    obtain ⟨k, hk, rfl, hb, hbel⟩ := hrel
    by_cases hlt : k < n
    · have hmk : k < mid.length := by rw [← HM.out]; exact hlt
      have hc := hb.cell (off + k)
      have hf := hb.frozen (off + k)
      have e1 : mid.drop k = mid[k] :: mid.drop (k + 1) := (List.getElem_cons_drop ..).symm
      have hlen : (pre ++ leN x k).length = off + k := by rw [List.length_append, leN_length, HP.out]
      have hcell : ∃ v, wr.cell? ⟨g, off + k, none⟩ = some v := by
        rw [hc]
        refine ⟨_, Array.getElem?_eq_getElem ?_⟩
        simp [u8s, leN_length, ← HP.out]
        omega
      obtain ⟨v0, hv0⟩ := hcell
      rw [e1, ← List.append_assoc] at hb
      have hput := u8s_put (pre ++ leN x k) (mid.drop (k + 1) ++ post) mid[k] (x / 2 ^ (8 * k) % 256) g wr hb
      rw [hlen, List.append_assoc, show x / 2 ^ (8 * k) % 256 :: (mid.drop (k + 1) ++ post) = [x / 2 ^ (8 * k) % 256] ++ (mid.drop (k + 1) ++ post) from rfl, ← List.append_assoc (leN x k)] at hput
      rw [show leN x k ++ [x / 2 ^ (8 * k) % 256] = leN x (k + 1) from rfl] at hput
      rw [← shr_u64] at hput
      have HPut := Lib.hid hput
      have HBel := Lib.hid hbel
      have i1 : (0 : Int) ≤ (k : Int) := by omega
      clear hput hb hbel hc e1 hlen hmk
      go_wp2
      go_roundw
      case rel => exact ⟨k + 1, by omega, by go_num, HPut.out, HBel.out.setCell (.inl rfl) _⟩
      case measure => simp [intOf]; omega
    · obtain rfl : k = n := by omega
      rw [show mid.drop k = [] from List.drop_eq_nil_of_le (by rw [← HM.out]; omega), List.nil_append] at hb
      have HBk := Lib.hid hb
      have HBel := Lib.hid hbel
      clear hb hbel
      go_wp2
      go_end0
      exact ⟨rfl, HBk.out, HBel.out⟩
end Go.Proofs.Ytmgbmnbjionapaa
