/- A journal opened again. Conditions: the disk lies in memory; the head tells of no commit. -/
import Derived.Test.YtmgbmnbjionapaaJFin
import Derived.Test.YtmgbmnbjionapaaGuard
import Derived.BigQuiet
namespace Go.Proofs.Ytmgbmnbjionapaa
open Go.RowKit

set_option maxRecDepth 100000 in
set_option maxHeartbeats 2000000 in
theorem recc_zero (gp gb gs gj gn ge p T b s : Nat) (tp tb ts tj tn te : TypeId) (xj xn xe : Value) (S : Nat → Prop) (D : DM) (w : World) (hp : Bk w gp tp #[.pointer (some ⟨p, 0, none⟩)]) (hgb : Bk w gb tb #[.int .i64 (b : Int)]) (hgs : Bk w gs ts #[.int .i64 (s : Int)]) (hj : Bk w gj tj #[xj]) (hn : Bk w gn tn #[xn]) (he : Bk w ge te #[xe]) (njn : gn ≠ gj) (nje : ge ≠ gj) (nne : ge ≠ gn)
    (hD : Dsk w S p T D) (hf : Fits T b s) (hB : ∀ x ∈ D.rd b, x < 256) (seq : Nat) (hx : (D.rd b)[17]? = some 0) (hseq : seq = leGet (((D.rd b).drop 20).take 8)) (hyes : (D.rd b).take 32 = sectN b s 0 seq) :
    Calls Try.prog 60 #[.pointer (some ⟨gp, 0, none⟩), .pointer (some ⟨gb, 0, none⟩), .pointer (some ⟨gs, 0, none⟩), .pointer (some ⟨gj, 0, none⟩), .pointer (some ⟨gn, 0, none⟩), .pointer (some ⟨ge, 0, none⟩)] w fun e w' => e = .returned (.tuple #[]) ∧ ∃ w1, Below w.heap.size w w1 ∧ Bk w1 w.heap.size 101 (JrC p b s) ∧ w' = ((w1.setCell ⟨gj, 0, none⟩ (.pointer (some ⟨w.heap.size, 0, none⟩))).setCell ⟨gn, 0, none⟩ (.int .i64 0)).setCell ⟨ge, 0, none⟩ (.int .i64 0) := by
  have CO := Lib.hid (open_zero p T b s S D w hD hf hB seq hx hseq hyes)
  have x1 := hp.cell 0
  have x2 := hgb.cell 0
  have x3 := hgs.cell 0
  simp only [List.getElem?_toArray, List.getElem?_cons_zero] at x1 x2 x3
  have HJ := Lib.hid hj
  have HN := Lib.hid hn
  have HE := Lib.hid he
  clear hp hgb hgs hj hn he hD hf hB hx hseq hyes
  go_enter Try.func60, Try.ntmps60
  go_wp2_with fail
  refine CO.out.mono ?_
  rintro e w1 ⟨rfl, hj1, hb1⟩
  have f1 := (HJ.out.bel hb1).frozen 0
  have f2 := (HN.out.bel hb1).frozen 0
  have f3 := (HE.out.bel hb1).frozen 0
  have c1 := (HJ.out.bel hb1).cell 0
  have c2 := ((HN.out.bel hb1).far (p := ⟨gj, 0, none⟩) njn (.pointer (some ⟨w.heap.size, 0, none⟩))).cell 0
  have c3 := (((HE.out.bel hb1).far (p := ⟨gj, 0, none⟩) nje (.pointer (some ⟨w.heap.size, 0, none⟩))).far (p := ⟨gn, 0, none⟩) nne (.int .i64 0)).cell 0
  simp only [List.getElem?_toArray, List.getElem?_cons_zero] at c1 c2 c3
  have HJ1 := Lib.hid hj1
  have HB1 := Lib.hid hb1
  clear hj1 hb1
  go_wp2_with fail
  go_end0
  exact ⟨rfl, w1, HB1.out, HJ1.out, rfl⟩
set_option maxRecDepth 100000 in
set_option maxHeartbeats 2000000 in
theorem recover_zero (p T b s : Nat) (S : Nat → Prop) (D : DM) (w : World) (hD : Dsk w S p T D) (hf : Fits T b s) (hB : ∀ x ∈ D.rd b, x < 256) (seq : Nat) (hx : (D.rd b)[17]? = some 0) (hseq : seq = leGet (((D.rd b).drop 20).take 8)) (hyes : (D.rd b).take 32 = sectN b s 0 seq) : Calls Try.prog 33 #[.pointer (some ⟨p, 0, none⟩), .int .i64 (b : Int), .int .i64 (s : Int)] w fun e w' => ∃ q, e = .returned (.tuple #[.pointer (some ⟨q, 0, none⟩), .int .i64 0, .int .i64 0]) ∧ w.heap.size ≤ q ∧ Bk w' q 101 (JrC p b s) ∧ Below w.heap.size w w' := by
  obtain ⟨w6, hw6⟩ : ∃ w6, w6 = ((((((w.alloc (.cells #[.pointer (some ⟨p, 0, none⟩)] 43)).alloc (.cells #[.int .i64 (b : Int)] 3)).alloc (.cells #[.int .i64 (s : Int)] 3)).alloc (.cells #[.pointer none] 56)).alloc (.cells #[.int .i64 0] 3)).alloc (.cells #[.int .i64 0] 40)) := ⟨_, rfl⟩
  have z6 : w6.heap.size = w.heap.size + 1 + 1 + 1 + 1 + 1 + 1 := by rw [hw6]; simp only [World.size_alloc]
  have k0 : Bk w6 w.heap.size 43 #[.pointer (some ⟨p, 0, none⟩)] := by rw [hw6]; exact (((((Bk.new w _ _).alloc _).alloc _).alloc _).alloc _).alloc _
  have k1 : Bk w6 (w.heap.size + 1) 3 #[.int .i64 (b : Int)] := by
    have h := ((((Bk.new (w.alloc (.cells #[.pointer (some ⟨p, 0, none⟩)] 43)) 3 #[.int .i64 (b : Int)]).alloc (.cells #[.int .i64 (s : Int)] 3)).alloc (.cells #[.pointer none] 56)).alloc (.cells #[.int .i64 0] 3)).alloc (.cells #[.int .i64 0] 40)
    simp only [World.size_alloc] at h
    rw [hw6]; exact h
  have k2 : Bk w6 (w.heap.size + 1 + 1) 3 #[.int .i64 (s : Int)] := by
    have h := (((Bk.new ((w.alloc (.cells #[.pointer (some ⟨p, 0, none⟩)] 43)).alloc (.cells #[.int .i64 (b : Int)] 3)) 3 #[.int .i64 (s : Int)]).alloc (.cells #[.pointer none] 56)).alloc (.cells #[.int .i64 0] 3)).alloc (.cells #[.int .i64 0] 40)
    simp only [World.size_alloc] at h
    rw [hw6]; exact h
  have k3 : Bk w6 (w.heap.size + 1 + 1 + 1) 56 #[.pointer none] := by
    have h := ((Bk.new (((w.alloc (.cells #[.pointer (some ⟨p, 0, none⟩)] 43)).alloc (.cells #[.int .i64 (b : Int)] 3)).alloc (.cells #[.int .i64 (s : Int)] 3)) 56 #[.pointer none]).alloc (.cells #[.int .i64 0] 3)).alloc (.cells #[.int .i64 0] 40)
    simp only [World.size_alloc] at h
    rw [hw6]; exact h
  have k4 : Bk w6 (w.heap.size + 1 + 1 + 1 + 1) 3 #[.int .i64 0] := by
    have h := (Bk.new ((((w.alloc (.cells #[.pointer (some ⟨p, 0, none⟩)] 43)).alloc (.cells #[.int .i64 (b : Int)] 3)).alloc (.cells #[.int .i64 (s : Int)] 3)).alloc (.cells #[.pointer none] 56)) 3 #[.int .i64 0]).alloc (.cells #[.int .i64 0] 40)
    simp only [World.size_alloc] at h
    rw [hw6]; exact h
  have k5 : Bk w6 (w.heap.size + 1 + 1 + 1 + 1 + 1) 40 #[.int .i64 0] := by
    have h := Bk.new (((((w.alloc (.cells #[.pointer (some ⟨p, 0, none⟩)] 43)).alloc (.cells #[.int .i64 (b : Int)] 3)).alloc (.cells #[.int .i64 (s : Int)] 3)).alloc (.cells #[.pointer none] 56)).alloc (.cells #[.int .i64 0] 3)) 40 #[.int .i64 0]
    simp only [World.size_alloc] at h
    rw [hw6]; exact h
  have B6 : Below w.heap.size w w6 := by
    rw [hw6]
    exact ((((((Below.refl _ _).alloc (Nat.le_refl _) _).alloc (by simp) _).alloc (by simp; omega) _).alloc (by simp; omega) _).alloc (by simp; omega) _).alloc (by simp; omega) _
  have B7 : Below w6.heap.size w6 (w6.alloc (.cells #[.bool false] 4)) := (Below.refl _ _).alloc (Nat.le_refl _) _
  have kb : Bk (w6.alloc (.cells #[.bool false] 4)) w6.heap.size 4 #[.bool false] := Bk.new _ _ _
  have z7 : (w6.alloc (.cells #[.bool false] 4)).heap.size = w6.heap.size + 1 := World.size_alloc ..
  have CR := recc_zero w.heap.size (w.heap.size + 1) (w.heap.size + 1 + 1) (w.heap.size + 1 + 1 + 1) (w.heap.size + 1 + 1 + 1 + 1) (w.heap.size + 1 + 1 + 1 + 1 + 1) p T b s _ _ _ _ _ _ _ _ _ S D (w6.alloc (.cells #[.bool false] 4)) (k0.alloc _) (k1.alloc _) (k2.alloc _) (k3.alloc _) (k4.alloc _) (k5.alloc _) (by omega) (by omega) (by omega) ((hD.bel B6).bel B7) hf hB seq hx hseq hyes
  have HGU := Lib.hid (guard_any 60 #[.pointer (some ⟨w.heap.size, 0, none⟩), .pointer (some ⟨w.heap.size + 1, 0, none⟩), .pointer (some ⟨w.heap.size + 1 + 1, 0, none⟩), .pointer (some ⟨w.heap.size + 1 + 1 + 1, 0, none⟩), .pointer (some ⟨w.heap.size + 1 + 1 + 1 + 1, 0, none⟩), .pointer (some ⟨w.heap.size + 1 + 1 + 1 + 1 + 1, 0, none⟩)] w6
    (fun bb w' => bb = false ∧ ∃ q, w.heap.size ≤ q ∧ Bk w' q 101 (JrC p b s) ∧ Bk w' (w.heap.size + 1 + 1 + 1) 56 #[.pointer (some ⟨q, 0, none⟩)] ∧ Bk w' (w.heap.size + 1 + 1 + 1 + 1) 3 #[.int .i64 0] ∧ Bk w' (w.heap.size + 1 + 1 + 1 + 1 + 1) 40 #[.int .i64 0] ∧ Below w.heap.size w w') (fun _ => rfl) (CR.mono (by
      rintro e w' ⟨rfl, w1, hb1, hj1, rfl⟩
      refine ⟨(((kb.bel hb1).far ?_ _).far ?_ _).far ?_ _, .inl ⟨rfl, rfl, _, ?_, (((hj1.far ?_ _).far ?_ _).far ?_ _).far ?_ _, ((((((k3.alloc _).bel hb1).put 0 _).far ?_ _).far ?_ _).far ?_ _), (((((k4.alloc _).bel hb1).far ?_ _).put 0 _).far ?_ _).far ?_ _, (((((k5.alloc _).bel hb1).far ?_ _).far ?_ _).put 0 _).far ?_ _, ?_⟩⟩
      all_goals first
        | (simp only [ne_eq]; omega)
        | omega
        | exact ((((((B6.trans (B7.mono B6.size)).trans (hb1.mono (by omega))).setCell (p := ⟨w.heap.size + 1 + 1 + 1, 0, none⟩) (by simp only; omega) _).setCell (p := ⟨w.heap.size + 1 + 1 + 1 + 1, 0, none⟩) (by simp only; omega) _).setCell (p := ⟨w.heap.size + 1 + 1 + 1 + 1 + 1, 0, none⟩) (by simp only; omega) _).setCell (p := ⟨w6.heap.size, 0, none⟩) (by simp only; omega) _))))
  have HW6 := Lib.hid hw6
  clear hD hf hB hx hseq hyes k0 k1 k2 k3 k4 k5 kb CR B6 B7 hw6
  go_enter Try.func33, Try.ntmps33
  go_upto_region 3 with fail
  rw [← HW6.out]
  go_wp2_with fail
  refine HGU.out.mono ?_
  rintro e w7 ⟨bb, rfl, rfl, q, hq, hj, c3, c4, c5, hb⟩
  have x3 := c3.cell 0
  have x4 := c4.cell 0
  have x5 := c5.cell 0
  simp only [List.getElem?_toArray, List.getElem?_cons_zero] at x3 x4 x5
  have HJ := Lib.hid hj
  have HB := Lib.hid hb
  clear hj hb c3 c4 c5
  go_upto_region 5 with fail
  go_quiet (fail)
  go_wp2_with fail
  refine bodyPost_ret (v := .tuple #[.pointer (some ⟨q, 0, none⟩), .int .i64 0, .int .i64 0]) (by simp [results, Try.results33, go_sem]) rfl ⟨q, rfl, hq, HJ.out.drewN nq, below_drewN HB.out nq⟩
end Go.Proofs.Ytmgbmnbjionapaa
