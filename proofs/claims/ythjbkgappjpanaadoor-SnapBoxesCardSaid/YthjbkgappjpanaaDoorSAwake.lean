/- What Split answers for any text and number, and the fixed answers at the head of each statement of its layer. Condition: the table of the cyclic sum is laid. -/
import Derived.Test.YthjbkgappjpanaaDoorSplit
namespace Go.Proofs.YthjbkgappjpanaaDoor
open Go.RowKit

/-- The pieces' cells, by the piece's number. -/
theorem pcs_at {w : World} {base T c t sm z : Nat} {s : ByteArray} {A : Option Addr} (h : w.ownsRow base 32 4 (.slice A T c) T (pcsV s z t sm T)) (hT : 0 < T) :
    ∃ g, A = some ⟨g, 0, none⟩ ∧ base ≤ g ∧ g < w.heap.size ∧ ∀ i j, i < T → j < 4 → w.cell? ⟨g, i * 4 + j, none⟩ = (pcV s z t sm i)[j]? := by
  obtain ⟨g, cap, hv, hb, hlt⟩ := h.form hT
  obtain rfl : A = some ⟨g, 0, none⟩ := by injection hv
  refine ⟨g, rfl, hb, hlt, fun i j hi hj => ?_⟩
  have hlen : i * 4 + j < (pcsV s z t sm T).length := by rw [pcsV_length]; omega
  have := h.cells (g := g) rfl (i * 4 + j) _ (List.getElem?_eq_getElem hlen)
  rw [show ((⟨g, 0, none⟩ : Addr).add (i * 4 + j)) = ⟨g, i * 4 + j, none⟩ by unfold Addr.add; split <;> simp_all] at this
  rw [this, ← List.getElem?_eq_getElem hlen, pcsV_get _ _ _ _ _ _ _ hi hj]
/-- The error's number. -/
def errN (s : ByteArray) (z : Int) : Nat := if z < 1 then 1 else if 4000 < s.size ∨ 100 < totalN s.size z.toNat then 2 else 0
theorem split_any (s : ByteArray) (z : Int) (w : World) (hz : z ≤ 9223372036854775807) (hs : s.size ≤ 140737488355328) (hT : Tab w) :
    Calls Tryd.prog 8 #[.string s, .int .i64 z] w fun e w' => Below w.heap.size w w' ∧
      ((0 < errN s z ∧ e = .returned (.tuple #[.slice none 0 0, .int .i64 (errN s z : Nat)])) ∨
       (errN s z = 0 ∧ ∃ (zn : Nat) (A : Option Addr) (c : Nat), z = (zn : Int) ∧ 1 ≤ zn ∧ s.size ≤ 4000 ∧ totalN s.size zn ≤ 100 ∧ e = .returned (.tuple #[.slice A (totalN s.size zn) c, .int .i64 0]) ∧
        w'.ownsRow w.heap.size 32 4 (.slice A (totalN s.size zn) c) (totalN s.size zn) (pcsV s zn (totalN s.size zn) (sumN s) (totalN s.size zn)))) := by
  unfold errN
  by_cases h1 : z < 1
  · rw [if_pos h1]
    exact (split_arg s z w h1).mono fun e w' ⟨he, hw⟩ => ⟨by rw [hw]; exact Below.refl _ _, .inl ⟨by decide, he⟩⟩
  · rw [if_neg h1]
    obtain ⟨zn, rfl⟩ : ∃ zn : Nat, z = (zn : Int) := ⟨z.toNat, by omega⟩
    rw [Int.toNat_natCast]
    by_cases h2 : 4000 < s.size ∨ 100 < totalN s.size zn
    · rw [if_pos h2]
      exact (split_big s zn w (by omega) hs h2).mono fun e w' ⟨he, hw⟩ => ⟨by rw [hw]; exact Below.refl _ _, .inl ⟨by decide, he⟩⟩
    · rw [if_neg h2]
      exact (split_ok s zn w (by omega) (by omega) (by omega) (by omega) hT).mono fun e w' ⟨A, c, he, ho, hb⟩ => ⟨hb, .inr ⟨rfl, zn, A, c, rfl, by omega, by omega, by omega, he, ho⟩⟩

theorem abc_total : totalN 5 2 = 3 := by decide
theorem abc_cut : cutS ⟨#[97, 98, 99, 100, 101]⟩ 2 2 = ⟨#[101]⟩ := by decide +kernel
set_option maxRecDepth 100000 in
set_option maxHeartbeats 400000 in
theorem awake_any (w : World) (hT : Tab w) : Calls Tryd.prog 10 #[] w fun e w' => e = .returned (.bool true) ∧ Below w.heap.size w w' := by
  have C1 := Lib.hid (split_ok ⟨#[97, 98, 99, 100, 101]⟩ 2 w (by decide) (by decide) (by decide) (by decide) hT)
  rw [show totalN (ByteArray.mk #[97, 98, 99, 100, 101]).size 2 = 3 from abc_total] at C1
  go_enter Tryd.func10, Tryd.ntmps10
  go_wp2_with fail
  refine C1.out.mono ?_
  rintro e w1 ⟨A, c, rfl, ho, hb⟩
  obtain ⟨g, rfl, hg, hlt, hc⟩ := pcs_at ho (by decide)
  have k1 : w1.cell? ⟨g, 11, none⟩ = some (.string ⟨#[101]⟩) := by rw [hc 2 3 (by decide) (by decide)]; simp [pcV, abc_cut]
  have k2 : w1.cell? ⟨g, 8, none⟩ = some (.int .i64 2) := by rw [hc 2 0 (by decide) (by decide)]; rfl
  have k3 : w1.cell? ⟨g, 1, none⟩ = some (.int .i64 3) := by rw [hc 0 1 (by decide) (by decide)]; rfl
  have HB := Lib.hid hb
  clear C1 ho hb hc
  go_wp2_with fail
  go_ret
  exact ⟨rfl, HB.out⟩
end Go.Proofs.YthjbkgappjpanaaDoor
