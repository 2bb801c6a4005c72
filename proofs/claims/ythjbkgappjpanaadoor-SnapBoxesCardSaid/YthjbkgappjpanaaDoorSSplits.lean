/- The walk of the statement on the pieces: it answers true. Condition: the table of the cyclic sum is laid. -/
import Derived.Test.YthjbkgappjpanaaDoorSRef
import Derived.Laws.StructEq
import Derived.BigQuiet
import Derived.Deep.QuietTactic
namespace Go.Proofs.YthjbkgappjpanaaDoor
open Go.RowKit

theorem piece_fields : (Tryd.prog.fieldsOf 33).toList.map (fun f => (f.name, f.type, f.offset)) = [("Index", 3, 0), ("Total", 3, 1), ("Sum", 30, 2), ("Data", 9, 3)] := by kernel_rfl
theorem piece_eq (a b c : Int) (d : ByteArray) (w : World) : (Op.equalIn 10000 33 (.agg #[.int .i64 a, .int .i64 b, .int .u32 c, .string d]) (.agg #[.int .i64 a, .int .i64 b, .int .u32 c, .string d])).run Tryd.prog w = .ok true w := by
  rw [show (10000 : Nat) = 9998 + 1 + 1 from rfl, run_equalIn_struct w (9998 + 1) 33 _ _ (by kernel_rfl) (by kernel_rfl)]
  have hm := piece_fields
  generalize (Tryd.prog.fieldsOf 33).toList = fs at hm
  rcases fs with _ | ⟨f0, _ | ⟨f1, _ | ⟨f2, _ | ⟨f3, _ | ⟨f4, fs⟩⟩⟩⟩⟩ <;> simp only [List.map_nil, List.map_cons, List.cons.injEq, reduceCtorEq, and_false, and_true, Prod.mk.injEq] at hm
  obtain ⟨⟨n0, t0, o0⟩, ⟨n1, t1, o1⟩, ⟨n2, t2, o2⟩, n3, t3, o3⟩ := hm
  have u3 := Tryd.underlying3
  have u30 := Tryd.underlying30
  have u9 := Tryd.underlying9
  have a3 := Tryd.isAgg3
  have a30 := Tryd.isAgg30
  have a9 := Tryd.isAgg9
  have z3 := Tryd.sizeOf3
  have z30 := Tryd.sizeOf30
  have z9 := Tryd.sizeOf9
  simp only [Op.eqFields, n0, t0, o0, n1, t1, o1, n2, t2, o2, n3, t3, o3]
  go_simp
theorem rpcs_at {w : World} {base T c t sm z : Nat} {s : ByteArray} {A : Option Addr} (h : w.ownsRow base 33 4 (.slice A T c) T (pcsV s z t sm T)) (hT : 0 < T) :
    ∃ g, A = some ⟨g, 0, none⟩ ∧ base ≤ g ∧ g < w.heap.size ∧ ∀ i j, i < T → j < 4 → w.cell? ⟨g, i * 4 + j, none⟩ = (pcV s z t sm i)[j]? := by
  obtain ⟨g, cap, hv, hb, hlt⟩ := h.form hT
  obtain rfl : A = some ⟨g, 0, none⟩ := by injection hv
  refine ⟨g, rfl, hb, hlt, fun i j hi hj => ?_⟩
  have hlen : i * 4 + j < (pcsV s z t sm T).length := by rw [pcsV_length]; omega
  have := h.cells (g := g) rfl (i * 4 + j) _ (List.getElem?_eq_getElem hlen)
  rw [show ((⟨g, 0, none⟩ : Addr).add (i * 4 + j)) = ⟨g, i * 4 + j, none⟩ by unfold Addr.add; split <;> simp_all] at this
  rw [this, ← List.getElem?_eq_getElem hlen, pcsV_get _ _ _ _ _ _ _ hi hj]
/-- What the reference's Split answers for any text and number. -/
theorem rsplit_all (s : ByteArray) (z : Int) (w : World) (hz : z ≤ 9223372036854775807) :
    Calls Tryd.prog 9 #[.string s, .int .i64 z] w fun e w' => Below w.heap.size w w' ∧
      ((0 < errN s z ∧ e = .returned (.tuple #[.slice none 0 0, .int .i64 (errN s z : Nat)])) ∨
       (errN s z = 0 ∧ ∃ (zn : Nat) (A : Option Addr) (c : Nat), z = (zn : Int) ∧ e = .returned (.tuple #[.slice A (totalN s.size zn) c, .int .i64 0]) ∧
        w'.ownsRow w.heap.size 33 4 (.slice A (totalN s.size zn) c) (totalN s.size zn) (pcsV s zn (totalN s.size zn) (sumN s) (totalN s.size zn)))) := by
  unfold errN
  by_cases h1 : z < 1
  · rw [if_pos h1]
    exact (rsplit_arg s z w h1).mono fun e w' ⟨he, hw⟩ => ⟨by rw [hw]; exact Below.refl _ _, .inl ⟨by decide, he⟩⟩
  · rw [if_neg h1]
    obtain ⟨zn, rfl⟩ : ∃ zn : Nat, z = (zn : Int) := ⟨z.toNat, by omega⟩
    rw [Int.toNat_natCast]
    by_cases h4 : 4000 < s.size
    · rw [if_pos (.inl h4)]
      exact (rsplit_big s zn w (by omega) h4).mono fun e w' ⟨he, hw⟩ => ⟨by rw [hw]; exact Below.refl _ _, .inl ⟨by decide, he⟩⟩
    · refine (rsplit_any s zn w (by omega) (by omega) (by omega)).mono ?_
      rintro e w' ⟨hb, h⟩
      refine ⟨hb, ?_⟩
      rcases h with ⟨h5, he⟩ | ⟨h5, A, c, he, ho⟩
      · rw [if_pos (.inr h5)]; exact .inl ⟨by decide, he⟩
      · rw [if_neg (by omega)]; exact .inr ⟨rfl, zn, A, c, rfl, he, ho⟩
set_option maxRecDepth 100000 in
set_option maxHeartbeats 1000000 in
theorem splits_any (s : ByteArray) (z : Int) (w : World) (hz : z ≤ 9223372036854775807) (hs : s.size ≤ 140737488355328) (hT : Tab w) :
    Calls Tryd.prog 3 #[.string s, .int .i64 z] w fun e w' => e = .returned (.bool true) ∧ Below w.heap.size w w' := by
  have C1 := Lib.hid (split_any s z w hz hs hT)
  have HT := Lib.hid hT
  clear hT
  go_enter Tryd.func3, Tryd.ntmps3
  go_wp2_with fail
  refine C1.out.mono ?_
  rintro e w1 ⟨hb1, h1⟩
  have HB1 := Lib.hid hb1
  have C2 := Lib.hid (rsplit_all s z w1 hz)
  clear C1
  rcases h1 with ⟨hn, rfl⟩ | ⟨hn, zn, A, c, rfl, hz1, hs4, ht1, rfl, ho⟩
  · go_wp2_with fail
    refine C2.out.mono ?_
    rintro e w2 ⟨hb2, h2⟩
    rcases h2 with ⟨_, rfl⟩ | ⟨hn2, _⟩
    · have HB2 := Lib.hid (below_step hb1 hb2)
      have HA := Lib.hid (awake_any w2 ((HT.out.below hb1).below hb2))
      clear hb1 hb2 C2
      generalize errN s z = n at *
      go_wp2_with fail
      refine HA.out.mono ?_
      rintro e w3 ⟨rfl, hb3⟩
      have HB3 := Lib.hid (below_step HB2.out hb3)
      clear hb3
      go_wp2_with fail
      go_loopw [39] (fun i wr => i = .int .i64 0 ∧ Below w.heap.size w wr) (fun _ _ => 0)
      case atStart => exact ⟨rfl, HB3.out⟩
      case round =>
        obtain ⟨rfl, hb⟩ := hrel
        have HB4 := Lib.hid hb
        clear hb
        go_wp2_with fail
        go_ret
        exact ⟨rfl, HB4.out⟩
    · omega
  · go_wp2_with fail
    refine C2.out.mono ?_
    rintro e w2 ⟨hb2, h2⟩
    rcases h2 with ⟨hn2, _⟩ | ⟨_, zn', A2, c2, hzz, rfl, ho2⟩
    · omega
    · obtain rfl : zn' = zn := by omega
      have HB2 := Lib.hid (below_step hb1 hb2)
      have HA := Lib.hid (awake_any w2 ((HT.out.below hb1).below hb2))
      obtain ⟨g, rfl, hg, hlt, hc⟩ := pcs_at ho (total_pos _ _)
      obtain ⟨g2, rfl, hg2, hlt2, hc2⟩ := rpcs_at ho2 (total_pos _ _)
      have hlt1 : g < w2.heap.size := Nat.lt_of_lt_of_le hlt hb2.size
      have HC := Lib.hid (fun i j hi hj => (hb2.cell (p := ⟨g, i * 4 + j, none⟩) hlt).trans (hc i j hi hj))
      have HC2 := Lib.hid hc2
      clear hc hc2 ho ho2 hb1 hb2 C2 hzz hn
      generalize totalN s.size zn' = T at *
      go_wp2_with fail
      refine HA.out.mono ?_
      rintro e w3 ⟨rfl, hb3⟩
      have HB3 := Lib.hid (below_step HB2.out hb3)
      have HC3 := Lib.hid (fun i j hi hj => (hb3.cell (p := ⟨g, i * 4 + j, none⟩) hlt1).trans (HC.out i j hi hj))
      have HC4 := Lib.hid (fun i j hi hj => (hb3.cell (p := ⟨g2, i * 4 + j, none⟩) hlt2).trans (HC2.out i j hi hj))
      have hl3 : g < w3.heap.size := Nat.lt_of_lt_of_le hlt1 hb3.size
      have hl4 : g2 < w3.heap.size := Nat.lt_of_lt_of_le hlt2 hb3.size
      clear hb3 HC HC2
      go_wp2_with fail
      go_loopw [39] (fun i wr => ∃ k : Nat, k ≤ T ∧ i = .int .i64 k ∧ Below w3.heap.size w3 wr) (fun i _ => T - (intOf i).toNat)
      case atStart => exact ⟨0, by omega, rfl, Below.refl _ _⟩
      case round =>
        obtain ⟨k, hk, rfl, hb⟩ := hrel
        by_cases hlk : k < T
        · have hlkI : (k : Int) < (T : Int) := by omega
          have i0 : (0 : Int) ≤ (k : Int) := by omega
          have c0 : wr.cell? ⟨g, k * 4, none⟩ = some (.int .i64 (k : Int)) := (hb.cell (p := ⟨g, k * 4, none⟩) hl3).trans (HC3.out k 0 hlk (by decide))
          have c1 : wr.cell? ⟨g, k * 4 + 1, none⟩ = some (.int .i64 (T : Int)) := (hb.cell (p := ⟨g, k * 4 + 1, none⟩) hl3).trans (HC3.out k 1 hlk (by decide))
          have c2' : wr.cell? ⟨g, k * 4 + 2, none⟩ = some (.int .u32 ((sumN s : Nat) : Int)) := (hb.cell (p := ⟨g, k * 4 + 2, none⟩) hl3).trans (HC3.out k 2 hlk (by decide))
          have c3 : wr.cell? ⟨g, k * 4 + 3, none⟩ = some (.string (cutS s zn' k)) := (hb.cell (p := ⟨g, k * 4 + 3, none⟩) hl3).trans (HC3.out k 3 hlk (by decide))
          obtain ⟨D, hD⟩ : ∃ D, D = cutS s zn' k := ⟨_, rfl⟩
          rw [← hD] at c3
          have hal := (Below.refl wr.heap.size wr).alloc (Nat.le_refl _) (.cells #[.int .i64 (k : Int), .int .i64 (T : Int), .int .u32 ((sumN s : Nat) : Int), .string D] 32)
          have HB5 := Lib.hid (below_step hb hal)
          have X5 := Bk.new wr 32 #[.int .i64 (k : Int), .int .i64 (T : Int), .int .u32 ((sumN s : Nat) : Int), .string D]
          have x0 := X5.cell 0
          have x1 := X5.cell 1
          have x2 := X5.cell 2
          have x3 := X5.cell 3
          have d0 := (HB5.out.cell (p := ⟨g2, k * 4, none⟩) hl4).trans (HC4.out k 0 hlk (by decide))
          have d1 := (HB5.out.cell (p := ⟨g2, k * 4 + 1, none⟩) hl4).trans (HC4.out k 1 hlk (by decide))
          have d2 := (HB5.out.cell (p := ⟨g2, k * 4 + 2, none⟩) hl4).trans (HC4.out k 2 hlk (by decide))
          have d3 := (HB5.out.cell (p := ⟨g2, k * 4 + 3, none⟩) hl4).trans (HC4.out k 3 hlk (by decide))
          have hpe : ∀ w : World, (binOp .neq 33 (.agg #[.int .i64 (k : Int), .int .i64 (T : Int), .int .u32 ((sumN s : Nat) : Int), .string D]) (.agg #[.int .i64 (k : Int), .int .i64 (T : Int), .int .u32 ((sumN s : Nat) : Int), .string D])).run Tryd.prog w = .ok (.bool false) w := fun w => by
            rw [run_neq_struct, piece_eq]
            simp
          have hgd : Tryd.prog.eqGuardType Tryd.prog.depth 33 = false := by kernel_rfl
          simp only [pcV, List.getElem?_cons_zero, List.getElem?_cons_succ, ← hD] at d0 d1 d2 d3
          simp only [List.getElem?_toArray, List.getElem?_cons_zero, List.getElem?_cons_succ] at x0 x1 x2 x3
          clear hb hal X5 hD
          generalize sumN s = sm at *
          go_wp2_with fail
          generalize wr.alloc (.cells #[.int .i64 (k : Int), .int .i64 (T : Int), .int .u32 (sm : Int), .string D] 32) = w5 at *
          go_quiet (fail)
          go_wp2_with fail
          go_roundw
          case rel => exact ⟨k + 1, by omega, by go_num, below_drewN HB5.out _⟩
          case measure => simp [intOf]; omega
        · obtain rfl : k = T := by omega
          have HB4 := Lib.hid (below_step HB3.out hb)
          clear hb
          go_wp2_with fail
          go_ret
          exact ⟨rfl, HB4.out⟩
end Go.Proofs.YthjbkgappjpanaaDoor
