/- The numbers of the pieces that are wanting. Condition: the box lies in memory. -/
import Derived.Test.YthjbkgappjpanaaDoorSCheck
import Derived.Deep.AppendLies
namespace Go.Proofs.YthjbkgappjpanaaDoor
open Go.RowKit

def missN (th : Nat → Bool) (k : Nat) : List Nat := (List.range k).filter fun i => !th i
theorem missN_succ (th : Nat → Bool) (k : Nat) : missN th (k + 1) = missN th k ++ (if th k then [] else [k]) := by
  unfold missN
  rw [List.range_succ, List.filter_append]
  congr 1
  cases h : th k <;> simp [h]
theorem missN_le (th : Nat → Bool) (k : Nat) : (missN th k).length ≤ k := by
  unfold missN
  exact Nat.le_trans (List.length_filter_le _ _) (by simp)
def ints (l : List Nat) : List Value := l.map fun (x : Nat) => Value.int .i64 (x : Int)
theorem ints_append (l m : List Nat) : ints (l ++ m) = ints l ++ ints m := by simp [ints]
theorem infoInt : (Tryd.prog.info? 3).map (fun i => (i.zero, i.size, i.bytes)) = some (some (.int .i64 0), 1, 8) := by kernel_rfl
theorem int_one (a : Int) : ∀ u ∈ [Value.int .i64 a], u.oneCell' = true := by
  intro u hu; simp only [List.mem_cons, List.not_mem_nil, or_false] at hu; subst hu; rfl
set_option maxRecDepth 100000 in
set_option maxHeartbeats 1000000 in
theorem miss_any (g T sm : Nat) (th : Nat → Bool) (dt : Nat → ByteArray) (w : World) (hB : Bx w g (bxC T sm th dt)) (hT : T ≤ 100) :
    Calls Tryd.prog 16 #[.pointer (some ⟨g, 0, none⟩)] w fun e w' => ∃ A c, e = .returned (.slice A (missN th T).length c) ∧ w'.ownsRow w.heap.size 3 1 (.slice A (missN th T).length c) (missN th T).length (ints (missN th T)) ∧ Below w.heap.size w w' := by
  obtain ⟨j0, hj0, hy0, hy1, hyb⟩ := info_parts infoInt
  have b0 := hB.cell 0 (by decide)
  rw [bx_zero] at b0
  have hlt := hB.lt
  have HX := Lib.hid hB
  have hTI : (T : Int) ≤ 100 := by omega
  have hTJ : (0 : Int) ≤ (T : Int) := by omega
  clear hB
  go_enter Tryd.func16, Tryd.ntmps16
  go_wp2_with fail
  go_quiet (fail)
  have HB := Lib.hid (below_drewN (Below.refl w.heap.size w) nq)
  go_wp2_with fail
  go_loopw [3, 15] (fun v i wr => ∃ k : Nat, k ≤ T ∧ i = .int .i64 k ∧ wr.ownsRow w.heap.size 3 1 v (missN th k).length (ints (missN th k)) ∧ Below w.heap.size w wr) (fun _ i _ => T - (intOf i).toNat)
  case atStart => exact ⟨0, by omega, rfl, ⟨rfl, .inl ⟨rfl, rfl⟩⟩, HB.out⟩
  case round =>
    obtain ⟨k, hk, rfl, ho, hb⟩ := hrel
    obtain ⟨A, c, rfl, hc, hS⟩ := own_shape ho
    have HO := Lib.hid ho
    have HB1 := Lib.hid hb
    have hsz := hb.size
    have hml := missN_le th k
    by_cases hlk : k < T
    · have hlkI : (k : Int) < (T : Int) := by omega
      have b2 : wr.cell? ⟨g, 2 + k, none⟩ = some (.bool (th k)) := by rw [hb.cell (p := ⟨g, 2 + k, none⟩) hlt, HX.out.cell (2 + k) (by omega), bx_there k (by omega)]
      have hms := missN_succ th k
      clear ho hb hS hc
      cases ht : th k
      case true =>
        rw [ht] at b2 hms
        simp only [if_true, List.append_nil] at hms
        have HMS := Lib.hid hms
        clear ht hms
        go_wp2_with fail
        exact ⟨⟨k + 1, by omega, by go_num, by rw [HMS.out]; exact HO.out, HB1.out⟩, by simp [intOf]; omega⟩
      case false =>
        rw [ht] at b2 hms
        simp only [Bool.false_eq_true, if_false] at hms
        have HMS := Lib.hid hms
        clear ht hms
        generalize hML : missN th k = ML at *
        have HML := Lib.hid hML
        clear hML
        obtain ⟨L, hL⟩ : ∃ L, L = ML.length := ⟨_, rfl⟩
        rw [← hL] at hml HO ⊢
        have HL := Lib.hid hL
        clear hL
        go_wp2_with (at_builtin; refine wpList_append_seg _ rfl _ _ _ rfl w.heap.size 3 j0 _ 8 Tryd.underlying48 hj0 hy0 hy1 hyb rfl _ L _ rfl (own_alloc HO.out _) (some ⟨wr.heap.size, 0, none⟩) 1 1 [.int .i64 (k : Int)] rfl rfl (seg_new _ _ _) (int_one _) (by simp only [maxLen]; omega) (by omega) (by simp only [World.size_alloc]; omega) ?_; intro v2 w2 hown2 hb2; have O2 := Lib.hid hown2; have B2 := Lib.hid ((HB1.out.alloc hsz (.cells #[.int .i64 (k : Int)] 3)).trans hb2); clear hown2 hb2)
        exact ⟨⟨k + 1, by omega, by go_num, by rw [HMS.out, List.length_append, ints_append, ← HL.out]; exact O2.out, B2.out⟩, by simp [intOf]; omega⟩
    · obtain rfl : k = T := by omega
      clear ho hb hS
      obtain ⟨L, hL⟩ : ∃ L, L = (missN th k).length := ⟨_, rfl⟩
      rw [← hL] at HO hc hml
      have HL := Lib.hid hL
      clear hL
      go_wp2_with fail
      go_ret
      exact ⟨A, c, by rw [← HL.out]; rfl, by rw [← HL.out]; exact HO.out, HB1.out⟩
end Go.Proofs.YthjbkgappjpanaaDoor
