/- The walks of the reference's hexadecimal text and of the test whether a text is one. Conditions: the bytes lie in memory; the texts are not too long. -/
import Derived.Test.YtamhpikjnieeeaaDoorHx
import Derived.BigQuiet
import Derived.Deep.QuietTactic
namespace Go.Proofs.YtamhpikjnieeeaaDoor
open Go.RowKit

theorem txt_size (l : List Nat) : (txt l).size = l.length := by simp [txt, ByteArray.size]
theorem txt_append (a b : List Nat) : txt (a ++ b) = txt a ++ txt b := by
  apply ByteArray.ext
  rw [ByteArray.data_append]
  simp [txt]
theorem cut16 (D : Nat) (h : D < 16) : ({ data := #[48, 49, 50, 51, 52, 53, 54, 55, 56, 57, 97, 98, 99, 100, 101, 102] } : ByteArray).extract D (D + 1) = txt [digC D] := by
  revert D; decide +kernel
set_option maxRecDepth 100000 in
set_option maxHeartbeats 1000000 in
theorem refhex_any (A : Option Addr) (n c : Nat) (l : List Nat) (hn : n = l.length) (hx : n ≤ 1000000) (w : World) (hA : Seg w A (u8s l)) (hl : ∀ x ∈ l, x < 256) :
    Calls Tryd.prog 21 #[.slice A n c] w fun e w' => e = .returned (.string (txt (hexN l))) ∧ Below w.heap.size w w' := by
  have HA := Lib.hid hA
  have HL := Lib.hid hl
  have HN := Lib.hid hn
  clear hA hl hn
  go_enter Tryd.func21, Tryd.ntmps21
  go_wp2
  go_loopw [3, 8] (fun v i wr => ∃ k : Nat, k ≤ n ∧ i = .int .i64 k ∧ v = .string (txt (hexN (l.take k))) ∧ Below w.heap.size w wr) (fun _ i _ => n - (intOf i).toNat)
  case atStart => exact ⟨0, by omega, rfl, rfl, Below.refl _ _⟩
  case round =>
    obtain ⟨k, hk, rfl, rfl, hb⟩ := hrel
    have HW := Lib.hid hb
    clear hb
    by_cases hlt : k < n
    · have hAr := HA.out.bel HW.out
      obtain ⟨b, off, rfl, hbl, _, hcell⟩ := hAr.pick (k := k) (by rw [u8s_length, ← HN.out]; exact hlt)
      rw [u8s_get l k (by rw [← HN.out]; exact hlt)] at hcell
      have hX := HL.out _ (List.getElem_mem (by rw [← HN.out]; exact hlt : k < l.length))
      have HT := Lib.hid (show l.take (k + 1) = l.take k ++ [l[k]'(by rw [← HN.out]; exact hlt)] by rw [List.take_succ_eq_append_getElem (by rw [← HN.out]; exact hlt)])
      generalize l[k]'(by rw [← HN.out]; exact hlt) = X at *
      clear hAr
      have k1 := cut16 (X / 16) (by omega)
      have k2 := cut16 (X % 16) (by omega)
      have n1 : (0 : Int) ≤ (X : Int) / 16 := by omega
      have n2 : (X : Int) / 16 ≤ (X : Int) / 16 + 1 := by omega
      have n3 : (X : Int) / 16 + 1 ≤ 16 := by omega
      have n4 : ((X : Int) / 16).toNat = X / 16 := by omega
      have n5 : ((X : Int) / 16 + 1).toNat = X / 16 + 1 := by omega
      have m1 : (0 : Int) ≤ (X : Int) % 16 := by omega
      have m2 : (X : Int) % 16 ≤ (X : Int) % 16 + 1 := by omega
      have m3 : (X : Int) % 16 + 1 ≤ 16 := by omega
      have m4 : ((X : Int) % 16).toNat = X % 16 := by omega
      have m5 : ((X : Int) % 16 + 1).toNat = X % 16 + 1 := by omega
      have hs1 := fun w => run_string_add_sum (P := Tryd.prog) w (txt [digC (X / 16)]) (txt [digC (X % 16)]) (by rw [txt_size, txt_size]; simp)
      have hs2 := fun w => run_string_add_sum (P := Tryd.prog) w (txt (hexN (l.take k))) (txt [digC (X / 16)] ++ txt [digC (X % 16)]) (by rw [ByteArray.size_append, txt_size, txt_size, txt_size, hexN_length, List.length_take]; simp; omega)
      have HE := Lib.hid (show txt (hexN (l.take k)) ++ (txt [digC (X / 16)] ++ txt [digC (X % 16)]) = txt (hexN (l.take (k + 1))) by
        rw [HT.out, hexN_append, txt_append, ← txt_append [digC (X / 16)]]
        simp [hexN])
      generalize txt [digC (X / 16)] = ta at *
      generalize txt [digC (X % 16)] = tb at *
      generalize txt (hexN (l.take k)) = tk at *
      go_wp2_with fail
      go_quiet (fail)
      go_wp2
      go_roundw
      case rel => exact ⟨k + 1, by omega, by go_num, by rw [← HE.out], below_drewN HW.out _⟩
      case measure => simp [intOf]; omega
    · obtain rfl : k = n := by omega
      have hl : l.take k = l := by rw [HN.out]; simp
      rw [hl]
      clear hl
      go_wp2
      go_ret
      exact ⟨rfl, HW.out⟩
end Go.Proofs.YtamhpikjnieeeaaDoor
