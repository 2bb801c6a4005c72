/- The walk of taking a chunk into the sum. Condition: the bytes lie in memory. -/
import Derived.Test.YtbpclifgafafdaaDoorSpread2
namespace Go.Proofs.YtbpclifgafafdaaDoor
open Go.RowKit

def stA (s : St) : Array Value := #[.int .u32 (s.a : Int), .int .u32 (s.b : Int), .int .u32 (s.c : Int), .int .u32 (s.d : Int), .int .u32 (s.e : Int)]
theorem run_index80 (l : List Nat) (k : Nat) (hk : k < 80) (w : World) : (Instr.index 94 (.agg (wArr l)) (.int .i64 (k : Int))).run Tryd.prog w = .ok (.int .u32 ((l.getD k 0 : Nat) : Int)) w := by
  have hg := wArr_get l k hk
  have hs := wArr_size l
  generalize wArr l = C at *
  have ha : ∀ w, (asIntOf (Value.int .i64 (k : Int))).run Tryd.prog w = .ok (.i64, (k : Int)) w := fun _ => rfl
  have hp : (part 78 C k).run Tryd.prog w = .ok (.int .u32 ((l.getD k 0 : Nat) : Int)) w := by
    simp [part, sizeOf, typeInfo, hg]
  simp [Instr.index, run_underlying Tryd.underlying94, ha]
  rw [if_pos (by omega)]
  simpa using hp

set_option maxRecDepth 100000 in
set_option maxHeartbeats 4000000 in
theorem mix_any (h : St) (hh : h.ok) (A : Option Addr) (c : Nat) (p : List Nat) (hp : p.length = 64) (w : World) (hA : Seg w A (u8s p)) (hl : ∀ x ∈ p, x < 256) :
    Calls Tryd.prog 37 #[.agg (stA h), .slice A 64 c] w fun e w' => e = .returned (.agg (stA (mixN h p))) ∧ Below w.heap.size w w' := by
  have HP := Lib.hid hp
  have HL := Lib.hid hl
  have HH := Lib.hid hh
  have HA := Lib.hid hA
  obtain ⟨ha, hb, hc, hd, he⟩ := h
  clear hp hl hh hA
  unfold stA
  go_enter Tryd.func37, Tryd.ntmps37
  go_wp2_with fail
  go_quiet (fail)
  go_wp2_with fail
  have bw : Below w.heap.size w (((w.alloc (.cells #[.int .u32 (ha : Int), .int .u32 (hb : Int), .int .u32 (hc : Int), .int .u32 (hd : Int), .int .u32 (he : Int)] 79)).alloc (.cells #[.int .u32 0, .int .u32 0, .int .u32 0, .int .u32 0, .int .u32 0] 79)).drewN nq) :=
    below_drewN (((Below.refl _ _).alloc (Nat.le_refl _) _).alloc (by simp) _) nq
  have b0 : Bk (((w.alloc (.cells #[.int .u32 (ha : Int), .int .u32 (hb : Int), .int .u32 (hc : Int), .int .u32 (hd : Int), .int .u32 (he : Int)] 79)).alloc (.cells #[.int .u32 0, .int .u32 0, .int .u32 0, .int .u32 0, .int .u32 0] 79)).drewN nq) w.heap.size 79 #[.int .u32 (ha : Int), .int .u32 (hb : Int), .int .u32 (hc : Int), .int .u32 (hd : Int), .int .u32 (he : Int)] := ((Bk.new w 79 _).alloc _).drewN nq
  have b1 : Bk (((w.alloc (.cells #[.int .u32 (ha : Int), .int .u32 (hb : Int), .int .u32 (hc : Int), .int .u32 (hd : Int), .int .u32 (he : Int)] 79)).alloc (.cells #[.int .u32 0, .int .u32 0, .int .u32 0, .int .u32 0, .int .u32 0] 79)).drewN nq) (w.heap.size + 1) 79 #[.int .u32 0, .int .u32 0, .int .u32 0, .int .u32 0, .int .u32 0] := by
    have := (Bk.new (w.alloc (.cells #[.int .u32 (ha : Int), .int .u32 (hb : Int), .int .u32 (hc : Int), .int .u32 (hd : Int), .int .u32 (he : Int)] 79)) 79 #[.int .u32 0, .int .u32 0, .int .u32 0, .int .u32 0, .int .u32 0]).drewN nq
    rwa [World.size_alloc] at this
  generalize (((w.alloc (.cells #[.int .u32 (ha : Int), .int .u32 (hb : Int), .int .u32 (hc : Int), .int .u32 (hd : Int), .int .u32 (he : Int)] 79)).alloc (.cells #[.int .u32 0, .int .u32 0, .int .u32 0, .int .u32 0, .int .u32 0] 79)).drewN nq) = w1 at *
  have B0 := Lib.hid b0
  have B1 := Lib.hid b1
  have BW := Lib.hid bw
  clear b0 b1 bw
  refine (spread_any A c p HP.out w1 (HA.out.bel BW.out) HL.out).mono ?_; rintro e w2 ⟨rfl, b2⟩
  have C0 := Lib.hid (B0.out.bel b2)
  have C1 := Lib.hid (B1.out.bel b2)
  have CW := Lib.hid (BW.out.trans (b2.mono BW.out.size))
  have HW := Lib.hid (sched_lt p HL.out 80)
  clear b2 B0 B1 BW
  go_wp2_with fail
  have HM := Lib.hid (show mixN ⟨ha, hb, hc, hd, he⟩ p = ⟨(ha + (steps (sched p 80) ⟨ha, hb, hc, hd, he⟩ 80).a) % 4294967296, (hb + (steps (sched p 80) ⟨ha, hb, hc, hd, he⟩ 80).b) % 4294967296, (hc + (steps (sched p 80) ⟨ha, hb, hc, hd, he⟩ 80).c) % 4294967296, (hd + (steps (sched p 80) ⟨ha, hb, hc, hd, he⟩ 80).d) % 4294967296, (he + (steps (sched p 80) ⟨ha, hb, hc, hd, he⟩ 80).e) % 4294967296⟩ from rfl)
  have HOk := Lib.hid (steps_ok (sched p 80) ⟨ha, hb, hc, hd, he⟩ HH.out)
  generalize sched p 80 = ws at *
  go_loop [5, 6, 7, 8, 9, 27] (fun a b c d e i => ∃ k : Nat, k ≤ 80 ∧ i = .int .i64 k ∧ a = .int .u32 (((steps ws ⟨ha, hb, hc, hd, he⟩ k).a : Nat) : Int) ∧ b = .int .u32 (((steps ws ⟨ha, hb, hc, hd, he⟩ k).b : Nat) : Int) ∧ c = .int .u32 (((steps ws ⟨ha, hb, hc, hd, he⟩ k).c : Nat) : Int) ∧ d = .int .u32 (((steps ws ⟨ha, hb, hc, hd, he⟩ k).d : Nat) : Int) ∧ e = .int .u32 (((steps ws ⟨ha, hb, hc, hd, he⟩ k).e : Nat) : Int)) (fun _ _ _ _ _ i => 80 - (intOf i).toNat)
  case atStart => exact ⟨0, by omega, rfl, rfl, rfl, rfl, rfl, rfl⟩
  case round =>
    obtain ⟨k, hk, rfl, rfl, rfl, rfl, rfl, rfl⟩ := hrel
    obtain ⟨o1, o2, o3, o4, o5⟩ := HOk.out k
    by_cases hlt : k < 80
    · have hx := run_index80 ws k hlt
      have hn : steps ws ⟨ha, hb, hc, hd, he⟩ (k + 1) = stepN (ws.getD k 0) k (steps ws ⟨ha, hb, hc, hd, he⟩ k) := rfl
      have hxl := HW.out k
      generalize ws.getD k 0 = X at *
      generalize steps ws ⟨ha, hb, hc, hd, he⟩ k = s at *
      obtain ⟨a, b, c', d, e⟩ := s
      simp only at o1 o2 o3 o4 o5
      have O1 := Lib.hid o1
      have O2 := Lib.hid o2
      have O3 := Lib.hid o3
      have O4 := Lib.hid o4
      have HN := Lib.hid hn
      clear o1 o2 o3 o4 o5 hn hxl
      go_wp2_with (first
        | (go_at_call 48; refine (blend_any k b c' d O2.out O3.out O4.out _).mono ?_; rintro e w' ⟨rfl, rfl⟩)
        | (go_at_call 49; (with_reducible refine (rot5 a O1.out _).mono ?_); rintro e w' ⟨rfl, rfl⟩)
        | (go_at_call 49; (with_reducible refine (rot30 b O2.out _).mono ?_); rintro e w' ⟨rfl, rfl⟩))
      go_round
      case rel =>
        refine ⟨k + 1, by omega, by go_num, ?_, ?_, ?_, ?_, ?_⟩
        all_goals (rw [HN.out]; simp [stepN])
      case measure => simp [intOf]; omega
    · obtain rfl : k = 80 := by omega
      generalize steps ws ⟨ha, hb, hc, hd, he⟩ 80 = s at *
      have d0 := C0.out.cell 0
      have d1 := C0.out.cell 1
      have d2 := C0.out.cell 2
      have d3 := C0.out.cell 3
      have d4 := C0.out.cell 4
      simp at d0 d1 d2 d3 d4
      clear o1 o2 o3 o4 o5
      have y0 := C1.out.cell 0
      have f0 := C1.out.frozen 0
      have y1 := C1.out.cell 1
      have f1 := C1.out.frozen 1
      have y2 := C1.out.cell 2
      have f2 := C1.out.frozen 2
      have y3 := C1.out.cell 3
      have f3 := C1.out.frozen 3
      have y4 := C1.out.cell 4
      have f4 := C1.out.frozen 4
      simp at y0 y1 y2 y3 y4
      have G2 := Lib.hid (show (((((w2.setCell ⟨w.heap.size + 1, 0, none⟩ (.int .u32 (((ha : Int) + (s.a : Int)) % 4294967296))).setCell ⟨w.heap.size + 1, 1, none⟩ (.int .u32 (((hb : Int) + (s.b : Int)) % 4294967296))).setCell ⟨w.heap.size + 1, 2, none⟩ (.int .u32 (((hc : Int) + (s.c : Int)) % 4294967296))).setCell ⟨w.heap.size + 1, 3, none⟩ (.int .u32 (((hd : Int) + (s.d : Int)) % 4294967296))).setCell ⟨w.heap.size + 1, 4, none⟩ (.int .u32 (((he : Int) + (s.e : Int)) % 4294967296))).heap[w.heap.size + 1]? = some (.cells #[.int .u32 (((ha : Int) + (s.a : Int)) % 4294967296), .int .u32 (((hb : Int) + (s.b : Int)) % 4294967296), .int .u32 (((hc : Int) + (s.c : Int)) % 4294967296), .int .u32 (((hd : Int) + (s.d : Int)) % 4294967296), .int .u32 (((he : Int) + (s.e : Int)) % 4294967296)] 79 (0, 0)) from (((((C1.out).put 0 (.int .u32 (((ha : Int) + (s.a : Int)) % 4294967296))).put 1 (.int .u32 (((hb : Int) + (s.b : Int)) % 4294967296))).put 2 (.int .u32 (((hc : Int) + (s.c : Int)) % 4294967296))).put 3 (.int .u32 (((hd : Int) + (s.d : Int)) % 4294967296))).put 4 (.int .u32 (((he : Int) + (s.e : Int)) % 4294967296)))
      have HI := Lib.hid (show (Tryd.prog.info? 79).map (·.size) = some 5 by kernel_rfl)
      have GB := Lib.hid (show Below w.heap.size w (((((w2.setCell ⟨w.heap.size + 1, 0, none⟩ (.int .u32 (((ha : Int) + (s.a : Int)) % 4294967296))).setCell ⟨w.heap.size + 1, 1, none⟩ (.int .u32 (((hb : Int) + (s.b : Int)) % 4294967296))).setCell ⟨w.heap.size + 1, 2, none⟩ (.int .u32 (((hc : Int) + (s.c : Int)) % 4294967296))).setCell ⟨w.heap.size + 1, 3, none⟩ (.int .u32 (((hd : Int) + (s.d : Int)) % 4294967296))).setCell ⟨w.heap.size + 1, 4, none⟩ (.int .u32 (((he : Int) + (s.e : Int)) % 4294967296))) from ((((((((((CW.out).setCell (by simp) _)).setCell (by simp) _)).setCell (by simp) _)).setCell (by simp) _)).setCell (by simp) _))
      go_wp2
      refine bodyPost_ret (results_cell_row rfl _ _ (w.heap.size + 1) 79 #[.int .u32 (((ha : Int) + (s.a : Int)) % 4294967296), .int .u32 (((hb : Int) + (s.b : Int)) % 4294967296), .int .u32 (((hc : Int) + (s.c : Int)) % 4294967296), .int .u32 (((hd : Int) + (s.d : Int)) % 4294967296), .int .u32 (((he : Int) + (s.e : Int)) % 4294967296)] (0, 0) _ rfl G2.out Tryd.underlying79 rfl HI.out) rfl ⟨?_, GB.out⟩
      rw [HM.out]
      simp
end Go.Proofs.YtbpclifgafafdaaDoor
