/- first: the frame at the beginning of some bytes. Condition: the bytes lie in memory. -/
import Derived.Test.YtgifbjomaenlnaaWRunM
import Derived.Test.YtgifbjomaenlnaaWDec
import Derived.BigQuiet
import Derived.Deep.QuietTactic
namespace Go.Proofs.Ytgifbjomaenlnaa
open Go.RowKit

theorem or_two (x y : Nat) (hx : x < 256) (hy : y < 256) : bits .or .i64 ((x : Int) * 256) (y : Int) = ((256 * x + y : Nat) : Int) := by
  have e : (x : Int) * 256 = ((256 * x : Nat) : Int) := by omega
  have h : 256 * x ||| y = 256 * x + y := (Nat.two_pow_add_eq_or_of_lt (i := 8) hy x).symm
  rw [e]
  show IntKind.i64.wrap ((BitVec.ofInt 64 ((256 * x : Nat) : Int) ||| BitVec.ofInt 64 (y : Int)).toNat : Int) = _
  rw [BitVec.toNat_or, ofInt_u64 _ (by omega), ofInt_u64 _ (by omega), h, IntKind.wrap_i64]
  omega
/-- What first comes to. -/
def FirstPost (w0 : World) (l : List Nat) (e : Ending) (w' : World) : Prop :=
  Below w0.heap.size w0 w' ∧ match firstN l with
  | none => e = .returned (.tuple #[.agg zMsg, .int .i64 0, .int .i64 ((firstE l : Nat) : Int)])
  | some (m, s) => ∃ A c, e = .returned (.tuple #[.agg (msgC m A m.ents.length c), .int .i64 (s : Int), .int .i64 0]) ∧ Mg w' m A m.ents.length c ∧ ∀ a, A = some a → w0.heap.size < a.block
set_option maxRecDepth 100000 in
set_option maxHeartbeats 4000000 in
theorem first_any (A : Option Addr) (n c : Nat) (l : List Nat) (hn : n = l.length) (hnc : n ≤ c) (hz : n ≤ 140737488355328) (hl : ∀ x ∈ l, x < 256) (w : World) (hA : Seg w A (u8s l)) :
    Calls Try.prog 29 #[.slice A n c] w (FirstPost w l) := by
  obtain ⟨wa, hwa⟩ : ∃ wa, wa = w.alloc (.cells zMsg 24) := ⟨_, rfl⟩
  have hsa : wa.heap.size = w.heap.size + 1 := by rw [hwa]; simp
  have HBA := Lib.hid (show Below w.heap.size w wa by rw [hwa]; exact (Below.refl _ _).alloc (Nat.le_refl _) _)
  have HXA := Lib.hid (show Bk wa w.heap.size 24 zMsg by rw [hwa]; exact Bk.new w _ _)
  have HWA := Lib.hid hwa
  have HSA := Lib.hid hsa
  have HL := Lib.hid hl
  have HN := Lib.hid hn
  have HA := Lib.hid hA
  unfold zMsg at HWA
  clear hwa hsa hl hA hn
  by_cases h2 : n < 2
  · have i1 : (n : Int) < 2 := by omega
    have HNO := Lib.hid (show firstN l = none by unfold firstN; rw [if_neg (fun hf => by have := (fit_of hf).1; have := HN.out; omega)])
    have HFE := Lib.hid (show firstE l = 0 by unfold firstE; rw [if_pos (by have := HN.out; omega)])
    go_enter Try.func29, Try.ntmps29
    go_upto_region 2 with fail
    rw [← HWA.out]
    have t0 : wa.cell? ⟨w.heap.size, 0, none⟩ = some (.int .i64 0) := HXA.out.cell 0
    have t1 : wa.cell? ⟨w.heap.size, 1, none⟩ = some (.int .i64 0) := HXA.out.cell 1
    have t2 : wa.cell? ⟨w.heap.size, 2, none⟩ = some (.int .i64 0) := HXA.out.cell 2
    have t3 : wa.cell? ⟨w.heap.size, 3, none⟩ = some (.int .i64 0) := HXA.out.cell 3
    have t4 : wa.cell? ⟨w.heap.size, 4, none⟩ = some (.int .i64 0) := HXA.out.cell 4
    have t5 : wa.cell? ⟨w.heap.size, 5, none⟩ = some (.int .i64 0) := HXA.out.cell 5
    have t6 : wa.cell? ⟨w.heap.size, 6, none⟩ = some (.int .i64 0) := HXA.out.cell 6
    have t7 : wa.cell? ⟨w.heap.size, 7, none⟩ = some (.slice none 0 0) := HXA.out.cell 7
    have t8 : wa.cell? ⟨w.heap.size, 8, none⟩ = some (.bool false) := HXA.out.cell 8
    have t9 : wa.cell? ⟨w.heap.size, 9, none⟩ = some (.int .i64 0) := HXA.out.cell 9
    have z0 := HXA.out.frozen 0
    have z1 := HXA.out.frozen 1
    have z2 := HXA.out.frozen 2
    have z3 := HXA.out.frozen 3
    have z4 := HXA.out.frozen 4
    have z5 := HXA.out.frozen 5
    have z6 := HXA.out.frozen 6
    have z7 := HXA.out.frozen 7
    have z8 := HXA.out.frozen 8
    have z9 := HXA.out.frozen 9
    have HSET := Lib.hid (set_msg (Nat.le_refl _) HBA.out HXA.out (.int .i64 0) (.int .i64 0) (.int .i64 0) (.int .i64 0) (.int .i64 0) (.int .i64 0) (.int .i64 0) (.slice none 0 0) (.bool false) (.int .i64 0))
    go_wp2_with fail
    generalize hwf : ((((((((((wa.setCell ⟨w.heap.size, 0, none⟩ (.int .i64 0)).setCell ⟨w.heap.size, 1, none⟩ (.int .i64 0)).setCell ⟨w.heap.size, 2, none⟩ (.int .i64 0)).setCell ⟨w.heap.size, 3, none⟩ (.int .i64 0)).setCell ⟨w.heap.size, 4, none⟩ (.int .i64 0)).setCell ⟨w.heap.size, 5, none⟩ (.int .i64 0)).setCell ⟨w.heap.size, 6, none⟩ (.int .i64 0)).setCell ⟨w.heap.size, 7, none⟩ (.slice none 0 0)).setCell ⟨w.heap.size, 8, none⟩ (.bool false)).setCell ⟨w.heap.size, 9, none⟩ (.int .i64 0)) = wf
    obtain ⟨g1, g2, g3⟩ := HSET.out wf hwf
    clear hwf HSET t0 t1 t2 t3 t4 t5 t6 t7 t8 t9 z0 z1 z2 z3 z4 z5 z6 z7 z8 z9
    have s0 : wf.cell? ⟨w.heap.size, 0, none⟩ = some (.int .i64 0) := g2.cell 0
    have s1 : wf.cell? ⟨w.heap.size, 1, none⟩ = some (.int .i64 0) := g2.cell 1
    have s2 : wf.cell? ⟨w.heap.size, 2, none⟩ = some (.int .i64 0) := g2.cell 2
    have s3 : wf.cell? ⟨w.heap.size, 3, none⟩ = some (.int .i64 0) := g2.cell 3
    have s4 : wf.cell? ⟨w.heap.size, 4, none⟩ = some (.int .i64 0) := g2.cell 4
    have s5 : wf.cell? ⟨w.heap.size, 5, none⟩ = some (.int .i64 0) := g2.cell 5
    have s6 : wf.cell? ⟨w.heap.size, 6, none⟩ = some (.int .i64 0) := g2.cell 6
    have s7 : wf.cell? ⟨w.heap.size, 7, none⟩ = some (.slice none 0 0) := g2.cell 7
    have s8 : wf.cell? ⟨w.heap.size, 8, none⟩ = some (.bool false) := g2.cell 8
    have s9 : wf.cell? ⟨w.heap.size, 9, none⟩ = some (.int .i64 0) := g2.cell 9
    refine bodyPost_ret (v := .tuple #[.agg #[.int .i64 0, .int .i64 0, .int .i64 0, .int .i64 0, .int .i64 0, .int .i64 0, .int .i64 0, .slice none 0 0, .bool false, .int .i64 0], .int .i64 0, .int .i64 0]) (by simp [results, Try.results29, go_sem, s0, s1, s2, s3, s4, s5, s6, s7, s8, s9]) rfl ⟨g1, ?_⟩
    rw [HNO.out]
    show _ = Ending.returned (.tuple #[.agg zMsg, .int .i64 0, .int .i64 ((firstE l : Nat) : Int)])
    rw [HFE.out]
    rfl
  · obtain ⟨x, y, r, rfl⟩ : ∃ x y r, l = x :: y :: r := by
      match l, HN.out with
      | [], h => simp at h; omega
      | [x], h => simp at h; omega
      | x :: y :: r, _ => exact ⟨x, y, r, rfl⟩
    have i1 : ¬ (n : Int) < 2 := by omega
    have hx := HL.out x (by simp)
    have hy := HL.out y (by simp)
    obtain ⟨b, off, rfl, hbl, hc⟩ := (HA.out.bel HBA.out) (by simp [u8s])
    have hAb := Lib.hid (show b < w.heap.size by
      obtain ⟨b', off', e, h, _⟩ := HA.out (by simp [u8s])
      injection e with e
      injection e with e
      rw [e]; exact h)
    have y0 : wa.cell? ⟨b, off, none⟩ = some (.int .u8 (x : Int)) := by have := hc 0 (by simp [u8s]); exact this
    have y1 : wa.cell? ⟨b, off + 1, none⟩ = some (.int .u8 (y : Int)) := by have := hc 1 (by simp [u8s]); exact this
    obtain ⟨sz, hsz⟩ : ∃ sz, sz = 256 * x + y := ⟨_, rfl⟩
    have o1 := or_two x y hx hy
    rw [← hsz] at o1
    have HSZ := Lib.hid (show sizeN (x :: y :: r) = sz by rw [hsz]; rfl)
    have hszb : sz < 65536 := by omega
    have i3 : (0 : Int) < (n : Int) := by omega
    have i4 : (1 : Int) < (n : Int) := by omega
    have HLEN := Lib.hid (show 2 ≤ (x :: y :: r).length by simp)
    clear hsz hc
    by_cases h9 : 900 < sz
    · have i5 : (900 : Int) < (sz : Int) := by omega
      have HNO := Lib.hid (show firstN (x :: y :: r) = none by unfold firstN; rw [if_neg (fun hf => by have := (fit_of hf).2.1; have := HSZ.out; omega)])
      have HFE := Lib.hid (show firstE (x :: y :: r) = 2 by unfold firstE; rw [if_neg (by have := HLEN.out; omega), if_pos (by rw [HSZ.out]; exact h9)])
      generalize x :: y :: r = l at *
      go_enter Try.func29, Try.ntmps29
      go_upto_region 3 with fail
      rw [← HWA.out]
      go_quiet (fail)
      have HBQ := Lib.hid (below_drewN HBA.out nq)
      have HXQ := Lib.hid (HXA.out.drewN nq)
      have HSQ := Lib.hid (show (wa.drewN nq).heap.size = w.heap.size + 1 from HSA.out)
      generalize wa.drewN nq = wq at *
      clear y0 y1 o1
      have t0 : wq.cell? ⟨w.heap.size, 0, none⟩ = some (.int .i64 0) := HXQ.out.cell 0
      have t1 : wq.cell? ⟨w.heap.size, 1, none⟩ = some (.int .i64 0) := HXQ.out.cell 1
      have t2 : wq.cell? ⟨w.heap.size, 2, none⟩ = some (.int .i64 0) := HXQ.out.cell 2
      have t3 : wq.cell? ⟨w.heap.size, 3, none⟩ = some (.int .i64 0) := HXQ.out.cell 3
      have t4 : wq.cell? ⟨w.heap.size, 4, none⟩ = some (.int .i64 0) := HXQ.out.cell 4
      have t5 : wq.cell? ⟨w.heap.size, 5, none⟩ = some (.int .i64 0) := HXQ.out.cell 5
      have t6 : wq.cell? ⟨w.heap.size, 6, none⟩ = some (.int .i64 0) := HXQ.out.cell 6
      have t7 : wq.cell? ⟨w.heap.size, 7, none⟩ = some (.slice none 0 0) := HXQ.out.cell 7
      have t8 : wq.cell? ⟨w.heap.size, 8, none⟩ = some (.bool false) := HXQ.out.cell 8
      have t9 : wq.cell? ⟨w.heap.size, 9, none⟩ = some (.int .i64 0) := HXQ.out.cell 9
      have z0 := HXQ.out.frozen 0
      have z1 := HXQ.out.frozen 1
      have z2 := HXQ.out.frozen 2
      have z3 := HXQ.out.frozen 3
      have z4 := HXQ.out.frozen 4
      have z5 := HXQ.out.frozen 5
      have z6 := HXQ.out.frozen 6
      have z7 := HXQ.out.frozen 7
      have z8 := HXQ.out.frozen 8
      have z9 := HXQ.out.frozen 9
      have HSET := Lib.hid (set_msg (Nat.le_refl _) HBQ.out HXQ.out (.int .i64 0) (.int .i64 0) (.int .i64 0) (.int .i64 0) (.int .i64 0) (.int .i64 0) (.int .i64 0) (.slice none 0 0) (.bool false) (.int .i64 0))
      go_wp2_with fail
      generalize hwf : ((((((((((wq.setCell ⟨w.heap.size, 0, none⟩ (.int .i64 0)).setCell ⟨w.heap.size, 1, none⟩ (.int .i64 0)).setCell ⟨w.heap.size, 2, none⟩ (.int .i64 0)).setCell ⟨w.heap.size, 3, none⟩ (.int .i64 0)).setCell ⟨w.heap.size, 4, none⟩ (.int .i64 0)).setCell ⟨w.heap.size, 5, none⟩ (.int .i64 0)).setCell ⟨w.heap.size, 6, none⟩ (.int .i64 0)).setCell ⟨w.heap.size, 7, none⟩ (.slice none 0 0)).setCell ⟨w.heap.size, 8, none⟩ (.bool false)).setCell ⟨w.heap.size, 9, none⟩ (.int .i64 0)) = wf
      obtain ⟨g1, g2, g3⟩ := HSET.out wf hwf
      clear hwf HSET t0 t1 t2 t3 t4 t5 t6 t7 t8 t9 z0 z1 z2 z3 z4 z5 z6 z7 z8 z9
      have s0 : wf.cell? ⟨w.heap.size, 0, none⟩ = some (.int .i64 0) := g2.cell 0
      have s1 : wf.cell? ⟨w.heap.size, 1, none⟩ = some (.int .i64 0) := g2.cell 1
      have s2 : wf.cell? ⟨w.heap.size, 2, none⟩ = some (.int .i64 0) := g2.cell 2
      have s3 : wf.cell? ⟨w.heap.size, 3, none⟩ = some (.int .i64 0) := g2.cell 3
      have s4 : wf.cell? ⟨w.heap.size, 4, none⟩ = some (.int .i64 0) := g2.cell 4
      have s5 : wf.cell? ⟨w.heap.size, 5, none⟩ = some (.int .i64 0) := g2.cell 5
      have s6 : wf.cell? ⟨w.heap.size, 6, none⟩ = some (.int .i64 0) := g2.cell 6
      have s7 : wf.cell? ⟨w.heap.size, 7, none⟩ = some (.slice none 0 0) := g2.cell 7
      have s8 : wf.cell? ⟨w.heap.size, 8, none⟩ = some (.bool false) := g2.cell 8
      have s9 : wf.cell? ⟨w.heap.size, 9, none⟩ = some (.int .i64 0) := g2.cell 9
      refine bodyPost_ret (v := .tuple #[.agg #[.int .i64 0, .int .i64 0, .int .i64 0, .int .i64 0, .int .i64 0, .int .i64 0, .int .i64 0, .slice none 0 0, .bool false, .int .i64 0], .int .i64 0, .int .i64 2]) (by simp [results, Try.results29, go_sem, s0, s1, s2, s3, s4, s5, s6, s7, s8, s9]) rfl ⟨g1, ?_⟩
      rw [HNO.out]
      show _ = Ending.returned (.tuple #[.agg zMsg, .int .i64 0, .int .i64 ((firstE l : Nat) : Int)])
      rw [HFE.out]
      rfl
    · have i5 : ¬ (900 : Int) < (sz : Int) := by omega
      by_cases hlen : n < sz + 2
      · have i6 : (n : Int) < (sz : Int) + 2 := by omega
        have HNO := Lib.hid (show firstN (x :: y :: r) = none by unfold firstN; rw [if_neg (fun hf => by have := (fit_of hf).2.2; have := HSZ.out; have := HN.out; omega)])
        have HFE := Lib.hid (show firstE (x :: y :: r) = 0 by unfold firstE; rw [if_neg (by have := HLEN.out; omega), if_neg (by rw [HSZ.out]; exact h9), if_pos (by rw [HSZ.out]; have := HN.out; omega)])
        generalize x :: y :: r = l at *
        go_enter Try.func29, Try.ntmps29
        go_upto_region 3 with fail
        rw [← HWA.out]
        go_quiet (fail)
        have HBQ := Lib.hid (below_drewN HBA.out nq)
        have HXQ := Lib.hid (HXA.out.drewN nq)
        have HSQ := Lib.hid (show (wa.drewN nq).heap.size = w.heap.size + 1 from HSA.out)
        generalize wa.drewN nq = wq at *
        clear y0 y1 o1
        have t0 : wq.cell? ⟨w.heap.size, 0, none⟩ = some (.int .i64 0) := HXQ.out.cell 0
        have t1 : wq.cell? ⟨w.heap.size, 1, none⟩ = some (.int .i64 0) := HXQ.out.cell 1
        have t2 : wq.cell? ⟨w.heap.size, 2, none⟩ = some (.int .i64 0) := HXQ.out.cell 2
        have t3 : wq.cell? ⟨w.heap.size, 3, none⟩ = some (.int .i64 0) := HXQ.out.cell 3
        have t4 : wq.cell? ⟨w.heap.size, 4, none⟩ = some (.int .i64 0) := HXQ.out.cell 4
        have t5 : wq.cell? ⟨w.heap.size, 5, none⟩ = some (.int .i64 0) := HXQ.out.cell 5
        have t6 : wq.cell? ⟨w.heap.size, 6, none⟩ = some (.int .i64 0) := HXQ.out.cell 6
        have t7 : wq.cell? ⟨w.heap.size, 7, none⟩ = some (.slice none 0 0) := HXQ.out.cell 7
        have t8 : wq.cell? ⟨w.heap.size, 8, none⟩ = some (.bool false) := HXQ.out.cell 8
        have t9 : wq.cell? ⟨w.heap.size, 9, none⟩ = some (.int .i64 0) := HXQ.out.cell 9
        have z0 := HXQ.out.frozen 0
        have z1 := HXQ.out.frozen 1
        have z2 := HXQ.out.frozen 2
        have z3 := HXQ.out.frozen 3
        have z4 := HXQ.out.frozen 4
        have z5 := HXQ.out.frozen 5
        have z6 := HXQ.out.frozen 6
        have z7 := HXQ.out.frozen 7
        have z8 := HXQ.out.frozen 8
        have z9 := HXQ.out.frozen 9
        have HSET := Lib.hid (set_msg (Nat.le_refl _) HBQ.out HXQ.out (.int .i64 0) (.int .i64 0) (.int .i64 0) (.int .i64 0) (.int .i64 0) (.int .i64 0) (.int .i64 0) (.slice none 0 0) (.bool false) (.int .i64 0))
        go_wp2_with fail
        generalize hwf : ((((((((((wq.setCell ⟨w.heap.size, 0, none⟩ (.int .i64 0)).setCell ⟨w.heap.size, 1, none⟩ (.int .i64 0)).setCell ⟨w.heap.size, 2, none⟩ (.int .i64 0)).setCell ⟨w.heap.size, 3, none⟩ (.int .i64 0)).setCell ⟨w.heap.size, 4, none⟩ (.int .i64 0)).setCell ⟨w.heap.size, 5, none⟩ (.int .i64 0)).setCell ⟨w.heap.size, 6, none⟩ (.int .i64 0)).setCell ⟨w.heap.size, 7, none⟩ (.slice none 0 0)).setCell ⟨w.heap.size, 8, none⟩ (.bool false)).setCell ⟨w.heap.size, 9, none⟩ (.int .i64 0)) = wf
        obtain ⟨g1, g2, g3⟩ := HSET.out wf hwf
        clear hwf HSET t0 t1 t2 t3 t4 t5 t6 t7 t8 t9 z0 z1 z2 z3 z4 z5 z6 z7 z8 z9
        have s0 : wf.cell? ⟨w.heap.size, 0, none⟩ = some (.int .i64 0) := g2.cell 0
        have s1 : wf.cell? ⟨w.heap.size, 1, none⟩ = some (.int .i64 0) := g2.cell 1
        have s2 : wf.cell? ⟨w.heap.size, 2, none⟩ = some (.int .i64 0) := g2.cell 2
        have s3 : wf.cell? ⟨w.heap.size, 3, none⟩ = some (.int .i64 0) := g2.cell 3
        have s4 : wf.cell? ⟨w.heap.size, 4, none⟩ = some (.int .i64 0) := g2.cell 4
        have s5 : wf.cell? ⟨w.heap.size, 5, none⟩ = some (.int .i64 0) := g2.cell 5
        have s6 : wf.cell? ⟨w.heap.size, 6, none⟩ = some (.int .i64 0) := g2.cell 6
        have s7 : wf.cell? ⟨w.heap.size, 7, none⟩ = some (.slice none 0 0) := g2.cell 7
        have s8 : wf.cell? ⟨w.heap.size, 8, none⟩ = some (.bool false) := g2.cell 8
        have s9 : wf.cell? ⟨w.heap.size, 9, none⟩ = some (.int .i64 0) := g2.cell 9
        refine bodyPost_ret (v := .tuple #[.agg #[.int .i64 0, .int .i64 0, .int .i64 0, .int .i64 0, .int .i64 0, .int .i64 0, .int .i64 0, .slice none 0 0, .bool false, .int .i64 0], .int .i64 0, .int .i64 0]) (by simp [results, Try.results29, go_sem, s0, s1, s2, s3, s4, s5, s6, s7, s8, s9]) rfl ⟨g1, ?_⟩
        rw [HNO.out]
        show _ = Ending.returned (.tuple #[.agg zMsg, .int .i64 0, .int .i64 ((firstE l : Nat) : Int)])
        rw [HFE.out]
        rfl
      · have i6 : ¬ (n : Int) < (sz : Int) + 2 := by omega
        have i7 : (sz : Int) + 2 ≤ (c : Int) := by omega
        have HFIT := Lib.hid (show fitB (x :: y :: r) = true from fit_mk HLEN.out (by rw [HSZ.out]; omega) (by rw [HSZ.out]; have := HN.out; omega))
        generalize x :: y :: r = l at *
        go_enter Try.func29, Try.ntmps29
        go_upto_region 3 with fail
        rw [← HWA.out]
        go_quiet (fail)
        have HBQ := Lib.hid (below_drewN HBA.out nq)
        have HXQ := Lib.hid (HXA.out.drewN nq)
        have HSQ := Lib.hid (show (wa.drewN nq).heap.size = w.heap.size + 1 from HSA.out)
        generalize wa.drewN nq = wq at *
        clear y0 y1 o1
        obtain ⟨A3, hA3⟩ : ∃ A3, A3 = if c = 2 then some (⟨b, off, none⟩ : Addr) else (some (⟨b, off, none⟩ : Addr)).map (·.add 2) := ⟨_, rfl⟩
        have hsl : ∀ w : World, (Instr.sliceAt 26 (.slice (some ⟨b, off, none⟩) n c) (some (.int .i64 2)) (some (.int .i64 ((sz : Int) + 2))) none).run Try.prog w = .ok (.slice A3 sz (c - 2)) w := fun w => by
          have hu : Try.prog.underlying 26 = some (.slice (Try.prog.elem 26)) := by kernel_rfl
          have he : Try.prog.elem 26 = 5 := by kernel_rfl
          obtain ⟨i0, hi0, hz0, hz1, hz2⟩ := info_parts info5
          rw [run_sliceAt_slice (P := Try.prog) w 26 _ _ _ _ hu, run_slice_lh (P := Try.prog) w 26 (some ⟨b, off, none⟩) n c hu .i64 .i64 2 ((sz : Int) + 2) (by omega) (by omega) (by omega), he]
          have hsz5 : (sizeOf 5).run Try.prog w = .ok 1 w := by simp [sizeOf, typeInfo, hi0, hz1]
          rw [hsz5, hA3, show ((sz : Int) + 2).toNat = sz + 2 by omega]
          simp [Result.andThen, sliced]
        have hcut := ((HA.out.bel HBQ.out).take (sz + 2)).cut 2 c (by rw [List.length_take, u8s_length]; omega)
        have HS3 := Lib.hid (show Seg wq A3 (u8s ((l.drop 2).take sz)) by
          rw [hA3]
          have e : u8s ((l.drop 2).take sz) = ((u8s l).take (sz + 2)).drop 2 := by
            unfold u8s
            rw [← List.map_take, ← List.map_drop, List.drop_take]
            congr 1
          rw [e]
          exact hcut)
        have HB3 := Lib.hid (show ∀ a, A3 = some a → a.block < wq.heap.size from fun a e => by
          have h1 := hAb.out
          have h2 := HSQ.out
          rw [hA3] at e
          split at e
          · injection e with e
            subst e
            show b < _
            omega
          · simp only [Option.map_some, Option.some.injEq] at e
            subst e
            rw [show ((⟨b, off, none⟩ : Addr).add 2).block = b by unfold Addr.add; split <;> rfl]
            omega)
        have hlen3 : sz = ((l.drop 2).take sz).length := by rw [List.length_take, List.length_drop]; have := HN.out; omega
        have C1 := dec_any A3 sz (c - 2) ((l.drop 2).take sz) hlen3 (by omega) (by omega) (fun z hz => HL.out z (List.mem_of_mem_drop (List.mem_of_mem_take hz))) wq HS3.out HB3.out
        have HLE := Lib.hid (show ((l.drop 2).take sz).length ≤ 900 by omega)
        have HFN := Lib.hid (show firstN l = (bodyP ((l.drop 2).take sz)).map fun m => (m, sz + 2) by unfold firstN; rw [if_pos HFIT.out, HSZ.out])
        have HFE2 := Lib.hid (show firstN l = none → firstE l = 3 from fun h => by
          obtain ⟨f1, f2, f3⟩ := fit_of HFIT.out
          unfold firstE
          rw [if_neg (by omega), if_neg (by omega), if_neg (by omega), if_pos h])
        obtain ⟨lb, hlb⟩ : ∃ lb, lb = (l.drop 2).take sz := ⟨_, rfl⟩
        rw [← hlb] at C1 HLE HFN
        have C1 := Lib.hid C1
        clear hlen3 hcut hA3 HS3 HB3 hlb HL HN HA HFIT HLEN HSZ
        go_wp2_with fail
        refine C1.out.mono ?_
        rintro e w2 ⟨hb2, hpost⟩
        rw [if_pos HLE.out] at hpost
        have HB2 := Lib.hid (HBQ.out.trans (hb2.mono HBQ.out.size))
        have HX2 := Lib.hid (HXQ.out.bel hb2)
        have hs2 : w.heap.size < w2.heap.size := HX2.out.lt
        cases hbp : bodyP lb with
        | none =>
          rw [hbp] at hpost
          have hpost : e = .returned (.tuple #[.agg #[.int .i64 0, .int .i64 0, .int .i64 0, .int .i64 0, .int .i64 0, .int .i64 0, .int .i64 0, .slice none 0 0, .bool false, .int .i64 0], .int .i64 3]) := hpost
          subst hpost
          have HNO := Lib.hid (show firstN l = none by rw [HFN.out, hbp]; rfl)
          have HFE := Lib.hid (HFE2.out HNO.out)
          have HB4 := Lib.hid (HB2.out.alloc HB2.out.size (.cells #[.int .i64 0, .int .i64 0, .int .i64 0, .int .i64 0, .int .i64 0, .int .i64 0, .int .i64 0, .slice none 0 0, .bool false, .int .i64 0] 24))
          have HX4 := Lib.hid (HX2.out.alloc (.cells #[.int .i64 0, .int .i64 0, .int .i64 0, .int .i64 0, .int .i64 0, .int .i64 0, .int .i64 0, .slice none 0 0, .bool false, .int .i64 0] 24))
          have HWV := Lib.hid (show ∀ w4, w2.alloc (.cells #[.int .i64 0, .int .i64 0, .int .i64 0, .int .i64 0, .int .i64 0, .int .i64 0, .int .i64 0, .slice none 0 0, .bool false, .int .i64 0] 24) = w4 → Below w.heap.size w w4 ∧ Bk w4 w.heap.size 24 zMsg from fun w4 h => by subst h; exact ⟨HB4.out, HX4.out⟩)
          clear hb2 hbp HB4 HX4 HFE2
          go_upto_region 10 with fail
          generalize hw4 : w2.alloc (.cells #[.int .i64 0, .int .i64 0, .int .i64 0, .int .i64 0, .int .i64 0, .int .i64 0, .int .i64 0, .slice none 0 0, .bool false, .int .i64 0] 24) = w4
          obtain ⟨b4, x4⟩ := HWV.out w4 hw4
          have HB4 := Lib.hid b4
          have HX4 := Lib.hid x4
          clear hw4 HWV b4 x4
          have t0 : w4.cell? ⟨w.heap.size, 0, none⟩ = some (.int .i64 0) := HX4.out.cell 0
          have t1 : w4.cell? ⟨w.heap.size, 1, none⟩ = some (.int .i64 0) := HX4.out.cell 1
          have t2 : w4.cell? ⟨w.heap.size, 2, none⟩ = some (.int .i64 0) := HX4.out.cell 2
          have t3 : w4.cell? ⟨w.heap.size, 3, none⟩ = some (.int .i64 0) := HX4.out.cell 3
          have t4 : w4.cell? ⟨w.heap.size, 4, none⟩ = some (.int .i64 0) := HX4.out.cell 4
          have t5 : w4.cell? ⟨w.heap.size, 5, none⟩ = some (.int .i64 0) := HX4.out.cell 5
          have t6 : w4.cell? ⟨w.heap.size, 6, none⟩ = some (.int .i64 0) := HX4.out.cell 6
          have t7 : w4.cell? ⟨w.heap.size, 7, none⟩ = some (.slice none 0 0) := HX4.out.cell 7
          have t8 : w4.cell? ⟨w.heap.size, 8, none⟩ = some (.bool false) := HX4.out.cell 8
          have t9 : w4.cell? ⟨w.heap.size, 9, none⟩ = some (.int .i64 0) := HX4.out.cell 9
          have z0 := HX4.out.frozen 0
          have z1 := HX4.out.frozen 1
          have z2 := HX4.out.frozen 2
          have z3 := HX4.out.frozen 3
          have z4 := HX4.out.frozen 4
          have z5 := HX4.out.frozen 5
          have z6 := HX4.out.frozen 6
          have z7 := HX4.out.frozen 7
          have z8 := HX4.out.frozen 8
          have z9 := HX4.out.frozen 9
          have HSET := Lib.hid (set_msg (Nat.le_refl _) HB4.out HX4.out (.int .i64 0) (.int .i64 0) (.int .i64 0) (.int .i64 0) (.int .i64 0) (.int .i64 0) (.int .i64 0) (.slice none 0 0) (.bool false) (.int .i64 0))
          go_wp2_with fail
          generalize hwf : ((((((((((w4.setCell ⟨w.heap.size, 0, none⟩ (.int .i64 0)).setCell ⟨w.heap.size, 1, none⟩ (.int .i64 0)).setCell ⟨w.heap.size, 2, none⟩ (.int .i64 0)).setCell ⟨w.heap.size, 3, none⟩ (.int .i64 0)).setCell ⟨w.heap.size, 4, none⟩ (.int .i64 0)).setCell ⟨w.heap.size, 5, none⟩ (.int .i64 0)).setCell ⟨w.heap.size, 6, none⟩ (.int .i64 0)).setCell ⟨w.heap.size, 7, none⟩ (.slice none 0 0)).setCell ⟨w.heap.size, 8, none⟩ (.bool false)).setCell ⟨w.heap.size, 9, none⟩ (.int .i64 0)) = wf
          obtain ⟨g1, g2, g3⟩ := HSET.out wf hwf
          clear hwf HSET t0 t1 t2 t3 t4 t5 t6 t7 t8 t9 z0 z1 z2 z3 z4 z5 z6 z7 z8 z9
          have s0 : wf.cell? ⟨w.heap.size, 0, none⟩ = some (.int .i64 0) := g2.cell 0
          have s1 : wf.cell? ⟨w.heap.size, 1, none⟩ = some (.int .i64 0) := g2.cell 1
          have s2 : wf.cell? ⟨w.heap.size, 2, none⟩ = some (.int .i64 0) := g2.cell 2
          have s3 : wf.cell? ⟨w.heap.size, 3, none⟩ = some (.int .i64 0) := g2.cell 3
          have s4 : wf.cell? ⟨w.heap.size, 4, none⟩ = some (.int .i64 0) := g2.cell 4
          have s5 : wf.cell? ⟨w.heap.size, 5, none⟩ = some (.int .i64 0) := g2.cell 5
          have s6 : wf.cell? ⟨w.heap.size, 6, none⟩ = some (.int .i64 0) := g2.cell 6
          have s7 : wf.cell? ⟨w.heap.size, 7, none⟩ = some (.slice none 0 0) := g2.cell 7
          have s8 : wf.cell? ⟨w.heap.size, 8, none⟩ = some (.bool false) := g2.cell 8
          have s9 : wf.cell? ⟨w.heap.size, 9, none⟩ = some (.int .i64 0) := g2.cell 9
          refine bodyPost_ret (v := .tuple #[.agg #[.int .i64 0, .int .i64 0, .int .i64 0, .int .i64 0, .int .i64 0, .int .i64 0, .int .i64 0, .slice none 0 0, .bool false, .int .i64 0], .int .i64 0, .int .i64 3]) (by simp [results, Try.results29, go_sem, s0, s1, s2, s3, s4, s5, s6, s7, s8, s9]) rfl ⟨g1, ?_⟩
          rw [HNO.out]
          show _ = Ending.returned (.tuple #[.agg zMsg, .int .i64 0, .int .i64 ((firstE l : Nat) : Int)])
          rw [HFE.out]
          rfl
        | some m =>
          rw [hbp] at hpost
          obtain ⟨A2, c2, rfl, hmg, hfr⟩ := hpost
          have HSO := Lib.hid (show firstN l = some (m, sz + 2) by rw [HFN.out, hbp]; rfl)
          have HFR := Lib.hid (show ∀ a, A2 = some a → w.heap.size < a.block from fun a e => by have := hfr a e; have := HSQ.out; omega)
          have HMG := Lib.hid (show ∀ w', Seg w' A2 (entV m.ents) → Mg w' m A2 m.ents.length c2 from fun w' hs => ⟨hmg.en, hs, hmg.nc, hmg.bn, hmg.bk, hmg.bm, hmg.be⟩)
          have HWV := Lib.hid (show ∀ w4, w2.alloc (.cells #[.int .i64 m.kind, .int .i64 m.n0, .int .i64 m.n1, .int .i64 m.n2, .int .i64 m.n3, .int .i64 m.n4, .int .i64 m.n5, .slice A2 m.ents.length c2, .bool m.ok, .int .i64 m.n6] 24) = w4 → Below w.heap.size w w4 ∧ Bk w4 w.heap.size 24 zMsg ∧ Bk w4 w2.heap.size 24 #[.int .i64 m.kind, .int .i64 m.n0, .int .i64 m.n1, .int .i64 m.n2, .int .i64 m.n3, .int .i64 m.n4, .int .i64 m.n5, .slice A2 m.ents.length c2, .bool m.ok, .int .i64 m.n6] ∧ Seg w4 A2 (entV m.ents) from fun w4 h => by subst h; exact ⟨HB2.out.alloc HB2.out.size _, HX2.out.alloc _, Bk.new w2 _ _, hmg.es.bel ((Below.refl _ _).alloc (Nat.le_refl _) _)⟩)
          clear hb2 hbp HFE2 hmg hfr
          unfold msgC
          go_upto_region 10 with fail
          generalize hw4 : w2.alloc (.cells #[.int .i64 m.kind, .int .i64 m.n0, .int .i64 m.n1, .int .i64 m.n2, .int .i64 m.n3, .int .i64 m.n4, .int .i64 m.n5, .slice A2 m.ents.length c2, .bool m.ok, .int .i64 m.n6] 24) = w4
          obtain ⟨b4, x4, m4, s4⟩ := HWV.out w4 hw4
          have HB4 := Lib.hid b4
          have HX4 := Lib.hid x4
          have HSG4 := Lib.hid s4
          have u0 : w4.cell? ⟨w2.heap.size, 0, none⟩ = some (.int .i64 m.kind) := m4.cell 0
          have u1 : w4.cell? ⟨w2.heap.size, 1, none⟩ = some (.int .i64 m.n0) := m4.cell 1
          have u2 : w4.cell? ⟨w2.heap.size, 2, none⟩ = some (.int .i64 m.n1) := m4.cell 2
          have u3 : w4.cell? ⟨w2.heap.size, 3, none⟩ = some (.int .i64 m.n2) := m4.cell 3
          have u4 : w4.cell? ⟨w2.heap.size, 4, none⟩ = some (.int .i64 m.n3) := m4.cell 4
          have u5 : w4.cell? ⟨w2.heap.size, 5, none⟩ = some (.int .i64 m.n4) := m4.cell 5
          have u6 : w4.cell? ⟨w2.heap.size, 6, none⟩ = some (.int .i64 m.n5) := m4.cell 6
          have u7 : w4.cell? ⟨w2.heap.size, 7, none⟩ = some (.slice A2 m.ents.length c2) := m4.cell 7
          have u8 : w4.cell? ⟨w2.heap.size, 8, none⟩ = some (.bool m.ok) := m4.cell 8
          have u9 : w4.cell? ⟨w2.heap.size, 9, none⟩ = some (.int .i64 m.n6) := m4.cell 9
          clear hw4 HWV b4 x4 m4 s4
          have t0 : w4.cell? ⟨w.heap.size, 0, none⟩ = some (.int .i64 0) := HX4.out.cell 0
          have t1 : w4.cell? ⟨w.heap.size, 1, none⟩ = some (.int .i64 0) := HX4.out.cell 1
          have t2 : w4.cell? ⟨w.heap.size, 2, none⟩ = some (.int .i64 0) := HX4.out.cell 2
          have t3 : w4.cell? ⟨w.heap.size, 3, none⟩ = some (.int .i64 0) := HX4.out.cell 3
          have t4 : w4.cell? ⟨w.heap.size, 4, none⟩ = some (.int .i64 0) := HX4.out.cell 4
          have t5 : w4.cell? ⟨w.heap.size, 5, none⟩ = some (.int .i64 0) := HX4.out.cell 5
          have t6 : w4.cell? ⟨w.heap.size, 6, none⟩ = some (.int .i64 0) := HX4.out.cell 6
          have t7 : w4.cell? ⟨w.heap.size, 7, none⟩ = some (.slice none 0 0) := HX4.out.cell 7
          have t8 : w4.cell? ⟨w.heap.size, 8, none⟩ = some (.bool false) := HX4.out.cell 8
          have t9 : w4.cell? ⟨w.heap.size, 9, none⟩ = some (.int .i64 0) := HX4.out.cell 9
          have z0 := HX4.out.frozen 0
          have z1 := HX4.out.frozen 1
          have z2 := HX4.out.frozen 2
          have z3 := HX4.out.frozen 3
          have z4 := HX4.out.frozen 4
          have z5 := HX4.out.frozen 5
          have z6 := HX4.out.frozen 6
          have z7 := HX4.out.frozen 7
          have z8 := HX4.out.frozen 8
          have z9 := HX4.out.frozen 9
          have HSET := Lib.hid (set_msg (Nat.le_refl _) HB4.out HX4.out (.int .i64 m.kind) (.int .i64 m.n0) (.int .i64 m.n1) (.int .i64 m.n2) (.int .i64 m.n3) (.int .i64 m.n4) (.int .i64 m.n5) (.slice A2 m.ents.length c2) (.bool m.ok) (.int .i64 m.n6))
          go_wp2_with fail
          generalize hwf : ((((((((((w4.setCell ⟨w.heap.size, 0, none⟩ (.int .i64 m.kind)).setCell ⟨w.heap.size, 1, none⟩ (.int .i64 m.n0)).setCell ⟨w.heap.size, 2, none⟩ (.int .i64 m.n1)).setCell ⟨w.heap.size, 3, none⟩ (.int .i64 m.n2)).setCell ⟨w.heap.size, 4, none⟩ (.int .i64 m.n3)).setCell ⟨w.heap.size, 5, none⟩ (.int .i64 m.n4)).setCell ⟨w.heap.size, 6, none⟩ (.int .i64 m.n5)).setCell ⟨w.heap.size, 7, none⟩ (.slice A2 m.ents.length c2)).setCell ⟨w.heap.size, 8, none⟩ (.bool m.ok)).setCell ⟨w.heap.size, 9, none⟩ (.int .i64 m.n6)) = wf
          obtain ⟨g1, g2, g3⟩ := HSET.out wf hwf
          clear hwf HSET t0 t1 t2 t3 t4 t5 t6 t7 t8 t9 z0 z1 z2 z3 z4 z5 z6 z7 z8 z9
          have HS5 := Lib.hid (HSG4.out.kept g3 (fun a e => by have := HFR.out a e; omega))
          clear u0 u1 u2 u3 u4 u5 u6 u7 u8 u9
          have s0 : wf.cell? ⟨w.heap.size, 0, none⟩ = some (.int .i64 m.kind) := g2.cell 0
          have s1 : wf.cell? ⟨w.heap.size, 1, none⟩ = some (.int .i64 m.n0) := g2.cell 1
          have s2 : wf.cell? ⟨w.heap.size, 2, none⟩ = some (.int .i64 m.n1) := g2.cell 2
          have s3 : wf.cell? ⟨w.heap.size, 3, none⟩ = some (.int .i64 m.n2) := g2.cell 3
          have s4 : wf.cell? ⟨w.heap.size, 4, none⟩ = some (.int .i64 m.n3) := g2.cell 4
          have s5 : wf.cell? ⟨w.heap.size, 5, none⟩ = some (.int .i64 m.n4) := g2.cell 5
          have s6 : wf.cell? ⟨w.heap.size, 6, none⟩ = some (.int .i64 m.n5) := g2.cell 6
          have s7 : wf.cell? ⟨w.heap.size, 7, none⟩ = some (.slice A2 m.ents.length c2) := g2.cell 7
          have s8 : wf.cell? ⟨w.heap.size, 8, none⟩ = some (.bool m.ok) := g2.cell 8
          have s9 : wf.cell? ⟨w.heap.size, 9, none⟩ = some (.int .i64 m.n6) := g2.cell 9
          refine bodyPost_ret (v := .tuple #[.agg #[.int .i64 m.kind, .int .i64 m.n0, .int .i64 m.n1, .int .i64 m.n2, .int .i64 m.n3, .int .i64 m.n4, .int .i64 m.n5, .slice A2 m.ents.length c2, .bool m.ok, .int .i64 m.n6], .int .i64 ((sz : Int) + 2), .int .i64 0]) (by simp [results, Try.results29, go_sem, s0, s1, s2, s3, s4, s5, s6, s7, s8, s9]) rfl ⟨g1, ?_⟩
          rw [HSO.out]
          exact ⟨A2, c2, by rw [show (((sz + 2 : Nat)) : Int) = (sz : Int) + 2 by omega]; rfl, HMG.out wf HS5.out, HFR.out⟩
end Go.Proofs.Ytgifbjomaenlnaa
