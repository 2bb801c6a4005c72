/- The walk of spreading a chunk. Condition: the bytes lie in memory. -/
import Derived.Test.YtbpclifgafafdaaDoorSpread
namespace Go.Proofs.YtbpclifgafafdaaDoor
open Go.RowKit


set_option maxRecDepth 100000 in
set_option maxHeartbeats 4000000 in
theorem spread_any (A : Option Addr) (c : Nat) (p : List Nat) (hp : p.length = 64) (w : World) (hA : Seg w A (u8s p)) (hl : ∀ x ∈ p, x < 256) :
    Calls Tryd.prog 47 #[.slice A 64 c] w fun e w' => e = .returned (.agg (wArr (sched p 80))) ∧ Below w.heap.size w w' := by
  have hz := zero47
  obtain ⟨b, off, rfl, hbl, hall, hq⟩ := hA.pick (k := 0) (by rw [u8s_length]; omega)
  clear hq
  have hcell : ∀ i, i < 64 → w.cell? ⟨b, off + i, none⟩ = some (.int .u8 ((p.getD i 0 : Nat) : Int)) := by
    intro i hi
    rw [hall i (by rw [u8s_length]; omega), List.getElem?_eq_getElem (by rw [u8s_length]; omega), u8s_get p i (by omega)]
    simp [hp, hi]
  have hbyte : ∀ i, p.getD i 0 < 256 := by
    intro i
    by_cases hj : i < p.length
    · rw [show p.getD i 0 = p[i] by simp [hj]]; exact hl _ (List.getElem_mem hj)
    · rw [show p.getD i 0 = 0 by simp [List.getD, List.getElem?_eq_none (by omega : p.length ≤ i)]]; omega
  have HC := Lib.hid hcell
  have HB := Lib.hid hbyte
  have HP := Lib.hid (sched_lt p hl)
  have HS := Lib.hid (sched_length p)
  clear hA hall hcell hbyte hl hp
  go_enter Tryd.func47, Tryd.ntmps47
  go_wp2
  have b0 : Bk ((w.alloc (.cells (wArr []) 94)).alloc (.cells (wArr []) 94)) w.heap.size 94 (wArr []) := (Bk.new w 94 (wArr [])).alloc _
  have b1 : Bk ((w.alloc (.cells (wArr []) 94)).alloc (.cells (wArr []) 94)) (w.heap.size + 1) 94 (wArr []) := by
    have := Bk.new (w.alloc (.cells (wArr []) 94)) 94 (wArr [])
    rwa [World.size_alloc] at this
  have bw : Below w.heap.size w ((w.alloc (.cells (wArr []) 94)).alloc (.cells (wArr []) 94)) := ((Below.refl _ _).alloc (Nat.le_refl _) _).alloc (by simp) _
  go_loopw [6] (fun i wr => ∃ k : Nat, k ≤ 16 ∧ i = .int .i64 k ∧ Bk wr w.heap.size 94 (wArr []) ∧ Bk wr (w.heap.size + 1) 94 (wArr (sched p k)) ∧ Below w.heap.size w wr) (fun i _ => 16 - (intOf i).toNat)
  case atStart => exact ⟨0, by omega, rfl, b0, b1, bw⟩
  case round =>
    obtain ⟨k, hk, rfl, c0, c1, cw⟩ := hrel
    have C0 := Lib.hid c0
    have C1 := Lib.hid c1
    have CW := Lib.hid cw
    clear c0 c1 cw b0 b1 bw
    by_cases hlt : k < 16
    · have l0 := HB.out (4 * k)
      have l1 := HB.out (4 * k + 1)
      have l2 := HB.out (4 * k + 2)
      have l3 := HB.out (4 * k + 3)
      have hc : ∀ i, i < 64 → wr.cell? ⟨b, off + i, none⟩ = some (.int .u8 ((p.getD i 0 : Nat) : Int)) := fun i hi => (CW.out.cell (p := ⟨b, off + i, none⟩) hbl).trans (HC.out i hi)
      have d0 := hc (4 * k) (by omega)
      have d1 := hc (4 * k + 1) (by omega)
      have d2 := hc (4 * k + 2) (by omega)
      have d3 := hc (4 * k + 3) (by omega)
      have hw : sched p (k + 1) = sched p k ++ [wordN p k] := by show sched p k ++ [if k < 16 then wordN p k else _] = _; rw [if_pos hlt]
      have hwd : wordN p k = p.getD (4 * k) 0 * 16777216 + p.getD (4 * k + 1) 0 * 65536 + p.getD (4 * k + 2) 0 * 256 + p.getD (4 * k + 3) 0 := rfl
      generalize p.getD (4 * k) 0 = p0 at *
      generalize p.getD (4 * k + 1) 0 = p1 at *
      generalize p.getD (4 * k + 2) 0 = p2 at *
      generalize p.getD (4 * k + 3) 0 = p3 at *
      obtain ⟨o1, o2, o3⟩ := word_eq p0 p1 p2 p3 l0 l1 l2 l3
      simp only [Int.natCast_add, Int.natCast_mul, Int.cast_ofNat_Int] at o1 o2 o3
      have s1 := C1.out.cell k
      rw [wArr_get _ _ (by omega)] at s1
      have s2 := C1.out.frozen k
      have i1 : (0 : Int) ≤ 4 * (k : Int) := by omega
      have i2 : 4 * (k : Int) < 64 := by omega
      have i3 : (0 : Int) ≤ 4 * (k : Int) + 1 := by omega
      have i4 : 4 * (k : Int) + 1 < 64 := by omega
      have i5 : (0 : Int) ≤ 4 * (k : Int) + 2 := by omega
      have i6 : 4 * (k : Int) + 2 < 64 := by omega
      have i7 : (0 : Int) ≤ 4 * (k : Int) + 3 := by omega
      have i8 : 4 * (k : Int) + 3 < 64 := by omega
      have HW := Lib.hid hw
      have HWd := Lib.hid hwd
      clear hw hwd hc
      have i9 : (0 : Int) ≤ (k : Int) := by omega
      have i10 : (k : Int) < 80 := by omega
      have t0 : (4 * (k : Int)).toNat = 4 * k := by omega
      have t1 : (4 * (k : Int) + 1).toNat = 4 * k + 1 := by omega
      have t2 : (4 * (k : Int) + 2).toNat = 4 * k + 2 := by omega
      have t3 : (4 * (k : Int) + 3).toNat = 4 * k + 3 := by omega
      have x0 : IntKind.i64.wrap (4 * (k : Int)) = 4 * (k : Int) := IntWalk.i64_in _ (by omega)
      have x1 : IntKind.i64.wrap (4 * (k : Int) + 1) = 4 * (k : Int) + 1 := IntWalk.i64_in _ (by omega)
      have x2 : IntKind.i64.wrap (4 * (k : Int) + 2) = 4 * (k : Int) + 2 := IntWalk.i64_in _ (by omega)
      have x3 : IntKind.i64.wrap (4 * (k : Int) + 3) = 4 * (k : Int) + 3 := IntWalk.i64_in _ (by omega)
      go_wp2
      go_still_tail 35, (by kernel_rfl)
      clear x0 x1 x2 x3
      change wpList _ _ _ _ _ wr.drew
      generalize hwd : wr.drew = w2
      have C0' := Lib.hid (show Bk w2 w.heap.size 94 (wArr []) by rw [← hwd]; exact C0.out.drew)
      have C1' := Lib.hid (show Bk w2 (w.heap.size + 1) 94 (wArr (sched p k)) by rw [← hwd]; exact C1.out.drew)
      have CW' := Lib.hid (show Below w.heap.size w w2 by rw [← hwd]; exact CW.out.drew)
      clear s1 s2 hwd d0 d1 d2 d3
      have s1 := C1'.out.cell k
      rw [wArr_get _ _ (by omega)] at s1
      have s2 := C1'.out.frozen k
      go_wp2
      go_roundw
      case rel =>
        refine ⟨k + 1, by omega, by go_num, C0'.out.far (by simp) _, ?_, CW'.out.setCell (by simp) _⟩
        have hset := wArr_set (sched p k) ((p0 : Int) * 16777216 + (p1 : Int) * 65536 + (p2 : Int) * 256 + (p3 : Int)) (wordN p k) (by rw [HWd.out]; simp) (by rw [HS.out]; omega)
        rw [HS.out, ← HW.out] at hset
        rw [← hset]
        exact C1'.out.put k _
      case measure => simp [intOf]; omega
    · obtain rfl : k = 16 := by omega
      rw [show ((16 : Nat) : Int) = 16 from rfl]
      go_wp2
      go_loopw [5] (fun i wr => ∃ k : Nat, 16 ≤ k ∧ k ≤ 80 ∧ i = .int .i64 k ∧ Bk wr w.heap.size 94 (wArr []) ∧ Bk wr (w.heap.size + 1) 94 (wArr (sched p k)) ∧ Below w.heap.size w wr) (fun i _ => 80 - (intOf i).toNat)
      case atStart => exact ⟨16, by omega, by omega, rfl, C0.out, C1.out, CW.out⟩
      case round =>
        obtain ⟨k, hk16, hk, rfl, c0, c1, cw⟩ := hrel
        clear C0 C1 CW
        have C0 := Lib.hid c0
        have C1 := Lib.hid c1
        have CW := Lib.hid cw
        clear c0 c1 cw
        by_cases hlt : k < 80
        · have hw : sched p (k + 1) = sched p k ++ [nextN (sched p k) k] := by show sched p k ++ [if k < 16 then wordN p k else _] = _; rw [if_neg (by omega)]
          have hn : nextN (sched p k) k = rotN 1 ((sched p k).getD (k - 3) 0 ^^^ (sched p k).getD (k - 8) 0 ^^^ (sched p k).getD (k - 14) 0 ^^^ (sched p k).getD (k - 16) 0) := rfl
          have d1 := C1.out.cell (k - 3)
          have d2 := C1.out.cell (k - 8)
          have d3 := C1.out.cell (k - 14)
          have d4 := C1.out.cell (k - 16)
          rw [wArr_get _ _ (by omega)] at d1 d2 d3 d4
          have l1 := HP.out k (k - 3)
          have l2 := HP.out k (k - 8)
          have l3 := HP.out k (k - 14)
          have l4 := HP.out k (k - 16)
          generalize (sched p k).getD (k - 3) 0 = q1 at *
          generalize (sched p k).getD (k - 8) 0 = q2 at *
          generalize (sched p k).getD (k - 14) 0 = q3 at *
          generalize (sched p k).getD (k - 16) 0 = q4 at *
          have e1 := u32_xor_nat q1 q2 l1 l2
          have m1 := Nat.xor_lt_two_pow (n := 32) l1 l2
          have e2 := u32_xor_nat (q1 ^^^ q2) q3 m1 l3
          have m2 := Nat.xor_lt_two_pow (n := 32) m1 l3
          have e3 := u32_xor_nat (q1 ^^^ q2 ^^^ q3) q4 m2 l4
          have m3 := Lib.hid (Nat.xor_lt_two_pow (n := 32) m2 l4)
          have HW := Lib.hid hw
          have HN := Lib.hid hn
          clear hw hn m1 m2 l1 l2 l3 l4
          have i1 : (0 : Int) ≤ (k : Int) - 3 := by omega
          have i2 : (k : Int) - 3 < 80 := by omega
          have i3 : (0 : Int) ≤ (k : Int) - 8 := by omega
          have i4 : (k : Int) - 8 < 80 := by omega
          have i5 : (0 : Int) ≤ (k : Int) - 14 := by omega
          have i6 : (k : Int) - 14 < 80 := by omega
          have i7 : (0 : Int) ≤ (k : Int) - 16 := by omega
          have i8 : (k : Int) - 16 < 80 := by omega
          have j1 : (3 : Int) ≤ (k : Int) := by omega
          have j2 : (8 : Int) ≤ (k : Int) := by omega
          have j3 : (14 : Int) ≤ (k : Int) := by omega
          have j4 : (16 : Int) ≤ (k : Int) := by omega
          have i9 : (0 : Int) ≤ (k : Int) := by omega
          have i10 : (k : Int) < 80 := by omega
          have t0 : ((k : Int) - 3).toNat = k - 3 := by omega
          have t1 : ((k : Int) - 8).toNat = k - 8 := by omega
          have t2 : ((k : Int) - 14).toNat = k - 14 := by omega
          have t3 : ((k : Int) - 16).toNat = k - 16 := by omega
          have x0 : IntKind.i64.wrap ((k : Int) - 3) = (k : Int) - 3 := IntWalk.i64_in _ (by omega)
          have x1 : IntKind.i64.wrap ((k : Int) - 8) = (k : Int) - 8 := IntWalk.i64_in _ (by omega)
          have x2 : IntKind.i64.wrap ((k : Int) - 14) = (k : Int) - 14 := IntWalk.i64_in _ (by omega)
          have x3 : IntKind.i64.wrap ((k : Int) - 16) = (k : Int) - 16 := IntWalk.i64_in _ (by omega)
          go_wp2_with fail
          go_still_tail 22, (by kernel_rfl)
          still_call ((rot1 _ m3.out _).mono fun _ _ ⟨h1, h2⟩ => ⟨h1, h2.symm⟩)
          repeat still_step
          refine wpStill_nil ?_
          clear x0 x1 x2 x3
          change wpList _ _ _ _ _ wr.drew
          generalize hwd : wr.drew = w2
          have C0' := Lib.hid (show Bk w2 w.heap.size 94 (wArr []) by rw [← hwd]; exact C0.out.drew)
          have C1' := Lib.hid (show Bk w2 (w.heap.size + 1) 94 (wArr (sched p k)) by rw [← hwd]; exact C1.out.drew)
          have CW' := Lib.hid (show Below w.heap.size w w2 by rw [← hwd]; exact CW.out.drew)
          clear hwd d1 d2 d3 d4
          have s1 := C1'.out.cell k
          rw [wArr_get _ _ (by omega)] at s1
          have s2 := C1'.out.frozen k
          go_wp2
          go_roundw
          case rel =>
            refine ⟨k + 1, by omega, by omega, by go_num, C0'.out.far (by simp) _, ?_, CW'.out.setCell (by simp) _⟩
            have hset := wArr_set (sched p k) _ (nextN (sched p k) k) rfl (by rw [HS.out]; omega)
            rw [HS.out, ← HW.out] at hset
            rw [← hset, HN.out]
            exact C1'.out.put k _
          case measure => simp [intOf]; omega
        · obtain rfl : k = 80 := by omega
          have g0 : wr.heap[w.heap.size]? = some (.cells (wArr []) 94 (0, 0)) := C0.out
          have g1 : wr.heap[w.heap.size + 1]? = some (.cells (wArr (sched p 80)) 94 (0, 0)) := C1.out
          have G2 := Lib.hid (show (wr.setRow w.heap.size (wArr (sched p 80))).heap[w.heap.size]? = some (.cells (wArr (sched p 80)) 94 (0, 0)) from C0.out.row _)
          have HI := Lib.hid (show (Tryd.prog.info? 94).map (·.size) = some (wArr (sched p 80)).size by rw [wArr_size]; kernel_rfl)
          have G0 := Lib.hid g0
          have G1 := Lib.hid g1
          have HB1 := Lib.hid (show (wArr (sched p 80)).all (·.oneCell') = true by
            rw [Array.all_eq_true_iff_forall_mem]
            intro x hx
            simp only [wArr, List.mem_toArray, List.mem_map] at hx
            obtain ⟨i, _, rfl⟩ := hx
            rfl)
          clear g0 g1
          go_wp2_with (first
            | (refine wpList_load_row rfl 94 _ rfl (w.heap.size + 1) rfl 94 (wArr (sched p 80)) (0, 0) _ G1.out Tryd.underlying94 rfl HI.out ?_)
            | (refine wpList_store_row rfl 94 _ _ rfl w.heap.size (wArr (sched p 80)) rfl rfl 94 (wArr []) G0.out HI.out (by rw [wArr_size, wArr_size]) HB1.out ?_))
          refine bodyPost_ret (results_cell_row rfl _ _ w.heap.size 94 (wArr (sched p 80)) (0, 0) _ rfl G2.out Tryd.underlying94 rfl HI.out) rfl ⟨rfl, below_setRow_ CW.out (Nat.le_refl _) _⟩
end Go.Proofs.YtbpclifgafafdaaDoor
