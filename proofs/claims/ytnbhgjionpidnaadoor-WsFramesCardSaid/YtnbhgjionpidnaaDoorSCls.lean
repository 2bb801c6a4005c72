/- Closing: the payload of a close frame. Condition: none but the text's size. -/
import Derived.Test.YtnbhgjionpidnaaDoorSAcc
namespace Go.Proofs.YtnbhgjionpidnaaDoor
open Go.RowKit

/-- A close frame's payload. -/
def clsN (code : Int) (r : ByteArray) : ByteArray := if code = 1005 then ⟨#[]⟩ else txt [(code / 256 % 256).toNat, (code % 256).toNat] ++ r
set_option maxRecDepth 100000 in
theorem closing_any (code : Int) (r : ByteArray) (hc : -9223372036854775808 ≤ code ∧ code ≤ 9223372036854775807) (hr : r.size ≤ 100000) (w : World) :
    Calls Tryd.prog 10 #[.int .i64 code, .string r] w fun e w' => e = .returned (.string (clsN code r)) ∧ Below w.heap.size w w' := by
  by_cases h5 : code = 1005
  · subst h5
    go_enter Tryd.func10, Tryd.ntmps10
    go_wp2_with fail
    go_ret
    exact ⟨rfl, Below.refl _ _⟩
  · have i1 : (code == 1005) = false := by simp; exact h5
    have e1 : IntKind.u8.wrap (code / 256) = (((code / 256 % 256).toNat : Nat) : Int) := by rw [IntKind.wrap_u8]; omega
    have e2 : IntKind.u8.wrap code = (((code % 256).toNat : Nat) : Int) := by rw [IntKind.wrap_u8]; omega
    obtain ⟨a, ha⟩ : ∃ a, a = (code / 256 % 256).toNat := ⟨_, rfl⟩
    obtain ⟨b, hb⟩ : ∃ b, b = (code % 256).toNat := ⟨_, rfl⟩
    rw [← ha] at e1
    rw [← hb] at e2
    have ha2 : a < 256 := by omega
    have hb2 : b < 256 := by omega
    obtain ⟨w1, hw1⟩ : ∃ x, x = w.alloc (.cells #[.int .u8 (a : Int), .int .u8 (b : Int)] 5) := ⟨_, rfl⟩
    have hs : Seg w1 (some ⟨w.heap.size, 0, none⟩) (u8s [a, b]) := by
      rw [hw1]
      exact Seg.of_block (heap_alloc_new _ _) (fun i _ => by simp [u8s])
    have cv := run_txt w1 (some ⟨w.heap.size, 0, none⟩) 2 2 [a, b] rfl hs (fun x hx => by
      simp only [List.mem_cons, List.not_mem_nil, or_false] at hx
      rcases hx with rfl | rfl
      · exact ha2
      · exact hb2)
    have HB1 := Lib.hid (show Below w.heap.size w w1 by rw [hw1]; exact (Below.refl _ _).alloc (Nat.le_refl _) _)
    have HW1 := Lib.hid hw1
    have HR := Lib.hid (show clsN code r = txt [a, b] ++ r by unfold clsN; rw [if_neg h5, ← ha, ← hb])
    have htz : (txt [a, b]).size ≤ 2 := by
      show (List.map UInt8.ofNat [a, b]).toArray.size ≤ 2
      simp
    obtain ⟨X, hX⟩ : ∃ X, X = txt [a, b] := ⟨_, rfl⟩
    rw [← hX] at cv htz HR
    rw [hw1] at cv
    obtain ⟨Y, hY⟩ : ∃ Y, Y = X ++ r := ⟨_, rfl⟩
    rw [← hY] at HR
    have hadd : ∀ w' : World, (Op.stringOp .add X r).run Tryd.prog w' = .ok (.string Y) w' := fun w' => by rw [hY]; exact run_string_add_sum (P := Tryd.prog) w' _ _ (by omega)
    clear hs ha hb h5 hX hY
    have HB1 := Lib.hid (show Below w.heap.size w (w.alloc (.cells #[.int .u8 (a : Int), .int .u8 (b : Int)] 5)) from (Below.refl _ _).alloc (Nat.le_refl _) _)
    clear hw1 HW1
    go_enter Tryd.func10, Tryd.ntmps10
    go_wp2_with fail
    go_ret
    exact ⟨by rw [HR.out]; rfl, HB1.out⟩
end Go.Proofs.YtnbhgjionpidnaaDoor
