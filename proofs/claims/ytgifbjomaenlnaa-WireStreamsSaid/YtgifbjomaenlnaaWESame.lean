/- Two like rows of entries are the same. Condition: both lie in memory. -/
import Derived.Test.YtgifbjomaenlnaaWLong
import Derived.Laws.StructEq
import Derived.BigQuiet
import Derived.Deep.QuietTactic
namespace Go.Proofs.Ytgifbjomaenlnaa
open Go.RowKit

theorem ent_fields : (Try.prog.fieldsOf 54).toList.map (fun f => (f.name, f.type, f.offset)) = [("Term", 3, 0), ("Data", 9, 1)] := by kernel_rfl
theorem ent_eq (a : Int) (d : ByteArray) (w : World) : (Op.equalIn 10000 54 (.agg #[.int .i64 a, .string d]) (.agg #[.int .i64 a, .string d])).run Try.prog w = .ok true w := by
  rw [show (10000 : Nat) = 9998 + 1 + 1 from rfl, run_equalIn_struct w (9998 + 1) 54 _ _ (by kernel_rfl) (by kernel_rfl)]
  have hm := ent_fields
  generalize (Try.prog.fieldsOf 54).toList = fs at hm
  rcases fs with _ | ⟨f0, _ | ⟨f1, _ | ⟨f2, fs⟩⟩⟩ <;> simp only [List.map_nil, List.map_cons, List.cons.injEq, reduceCtorEq, and_false, and_true, Prod.mk.injEq] at hm
  obtain ⟨⟨n0, t0, o0⟩, n1, t1, o1⟩ := hm
  have u3 := Try.underlying3
  have u9 := Try.underlying9
  have a3 := Try.isAgg3
  have a9 := Try.isAgg9
  have z3 := Try.sizeOf3
  have z9 := Try.sizeOf9
  simp only [Op.eqFields, n0, t0, o0, n1, t1, o1]
  go_simp
set_option maxRecDepth 100000 in
theorem esame_any (l : List (Int × ByteArray)) (A B : Option Addr) (n c d : Nat) (w : World) (hA : Es w l A n c) (hB : Es w l B n d) :
    Calls Try.prog 31 #[.slice A n c, .slice B n d] w fun e w' => e = .returned (.bool true) ∧ Below w.heap.size w w' := by
  have hn := hA.bn
  have HN := Lib.hid hA.en
  have HA := Lib.hid hA
  have HB := Lib.hid hB
  have hne : ((n : Int) != (n : Int)) = false := by simp
  clear hA hB
  go_enter Try.func31, Try.ntmps31
  go_wp2
  go_loopw [13] (fun i wr => ∃ k : Nat, k ≤ n ∧ i = .int .i64 k ∧ Hid (Below w.heap.size w wr)) (fun i _ => n - (intOf i).toNat)
  case atStart => exact ⟨0, by omega, rfl, Lib.hid (Below.refl _ _)⟩
  case round =>
    obtain ⟨k, hk, rfl, HW⟩ := hrel
    by_cases hlt : k < n
    · have hkl : k < l.length := by have := HN.out; omega
      obtain ⟨b, off, rfl, hbl, c1, c2⟩ := (HA.out.bel HW.out).at hkl
      obtain ⟨b', off', rfl, hbl', c3, c4⟩ := (HB.out.bel HW.out).at hkl
      have i1 : (0 : Int) ≤ (k : Int) := by omega
      have i2 : (k : Int) < (n : Int) := by omega
      generalize l[k].1 = Z at *
      generalize l[k].2 = T at *
      have hpe : ∀ w : World, (binOp .neq 54 (.agg #[.int .i64 Z, .string T]) (.agg #[.int .i64 Z, .string T])).run Try.prog w = .ok (.bool false) w := fun w => by
        rw [run_neq_struct, ent_eq]
        simp
      have hgd : Try.prog.eqGuardType Try.prog.depth 54 = false := by kernel_rfl
      go_wp2_with fail
      go_quiet (fail)
      go_wp2_with fail
      go_roundw
      case rel => exact ⟨k + 1, by omega, by go_num, Lib.hid (below_drewN HW.out _)⟩
      case measure => simp [intOf]; omega
    · go_wp2
      go_ret
      exact ⟨rfl, HW.out⟩
end Go.Proofs.Ytgifbjomaenlnaa
