/- The reference's Do: what it refuses. Condition: its disk and the call's bytes lie in memory. -/
import Derived.Test.YtmgbmnbjionapaaDpB
import Derived.Test.YtmgbmnbjionapaaDpC
namespace Go.Proofs.Ytmgbmnbjionapaa
open Go.RowKit

def refL (D : DM) : Int := if D.arm then D.left else -1
/-- Waiting writes in memory, in blocks of a kind. -/
structure WtN (w : World) (N : Nat → Prop) (A : Option Addr) (wts : List (Nat × List Nat)) : Prop where
  at' : ∀ k (hk : k < wts.length), ∃ b off Ad c, A = some ⟨b, off, none⟩ ∧ b < w.heap.size ∧ N b ∧ w.cell? ⟨b, off + k * 2, none⟩ = some (.int .i64 ((wts[k]).1 : Int)) ∧ w.cell? ⟨b, off + k * 2 + 1, none⟩ = some (.slice Ad 256 c) ∧ 256 ≤ c ∧ SegN w N Ad (u8s (wts[k]).2)
theorem WtN.wt {w : World} {N : Nat → Prop} {A : Option Addr} {wts : List (Nat × List Nat)} (h : WtN w N A wts) : WtAt w A wts := ⟨fun k hk => by
  obtain ⟨b, off, Ad, c, h1, h2, _, h4, h5, h6, h7⟩ := h.at' k hk
  exact ⟨b, off, Ad, c, h1, h2, h4, h5, h6, h7.seg⟩⟩
theorem SegN.bel {w w' : World} {N : Nat → Prop} {A : Option Addr} {xs : List Value} (h : SegN w N A xs) (k : Below w.heap.size w w') : SegN w' N A xs := fun hn => by
  obtain ⟨b, off, e1, e2, e3, e4⟩ := h hn
  exact ⟨b, off, e1, Nat.lt_of_lt_of_le e2 k.size, e3, fun j hj => (k.cell (p := ⟨b, off + j, none⟩) e2).trans (e4 j hj)⟩
theorem SegN.set {w : World} {N : Nat → Prop} {A : Option Addr} {xs : List Value} {g i : Nat} {u : Value} (h : SegN w N A xs) (hg : ¬ N g) : SegN (w.setCell ⟨g, i, none⟩ u) N A xs := fun hn => by
  obtain ⟨b, off, e1, e2, e3, e4⟩ := h hn
  refine ⟨b, off, e1, by simpa using e2, e3, fun j hj => ?_⟩
  rw [World.cell?_of_block (Below.heap_setCell w ⟨g, i, none⟩ u b (fun e => hg (by rw [show g = b from e.symm]; exact e3)))]
  exact e4 j hj
theorem WtN.bel {w w' : World} {N : Nat → Prop} {A : Option Addr} {wts : List (Nat × List Nat)} (h : WtN w N A wts) (k : Below w.heap.size w w') : WtN w' N A wts := ⟨fun i hi => by
  obtain ⟨b, off, Ad, c, h1, h2, h3, h4, h5, h6, h7⟩ := h.at' i hi
  exact ⟨b, off, Ad, c, h1, Nat.lt_of_lt_of_le h2 k.size, h3, (k.cell (p := ⟨b, off + i * 2, none⟩) h2).trans h4, (k.cell (p := ⟨b, off + i * 2 + 1, none⟩) h2).trans h5, h6, h7.bel k⟩⟩
theorem WtN.set {w : World} {N : Nat → Prop} {A : Option Addr} {wts : List (Nat × List Nat)} {g i : Nat} {u : Value} (h : WtN w N A wts) (hg : ¬ N g) : WtN (w.setCell ⟨g, i, none⟩ u) N A wts := ⟨fun k hk => by
  obtain ⟨b, off, Ad, c, h1, h2, h3, h4, h5, h6, h7⟩ := h.at' k hk
  exact ⟨b, off, Ad, c, h1, by simpa using h2, h3, (World.cell?_of_block (Below.heap_setCell w ⟨g, i, none⟩ u b (fun e => hg (by rw [show g = b from e.symm]; exact h3)))).trans h4, (World.cell?_of_block (Below.heap_setCell w ⟨g, i, none⟩ u b (fun e => hg (by rw [show g = b from e.symm]; exact h3)))).trans h5, h6, h7.set hg⟩⟩
/-- The reference's disk in memory. -/
structure RfD (N : Nat → Prop) (w : World) (Ab Aw : Option Addr) (D : DM) (T : Nat) : Prop where
  rs : RsN w N Ab (rowsN D.img T)
  wt : WtN w N Aw D.wts
  ok : D.Ok T
theorem RfD.bel {N : Nat → Prop} {w w' : World} {Ab Aw : Option Addr} {D : DM} {T : Nat} (h : RfD N w Ab Aw D T) (hb : Below w.heap.size w w') : RfD N w' Ab Aw D T := ⟨h.rs.bel hb, h.wt.bel hb, h.ok⟩
def RfV (Ab : Option Addr) (T cb : Nat) (Aw : Option Addr) (m cw : Nat) (lf : Int) : Value := .agg #[.slice Ab T cb, .slice Aw m cw, .int .i64 lf]
def RdPost (N : Nat → Prop) (w : World) (T : Nat) (x : DM × List Nat × Int) (e : Ending) (w' : World) : Prop :=
  ∃ Ab cb Aw cw Ar cr, e = .returned (.tuple #[RfV Ab T cb Aw x.1.wts.length cw (refL x.1), .slice Ar x.2.1.length cr, .int .i64 x.2.2]) ∧ RfD N w' Ab Aw x.1 T ∧ Seg w' Ar (u8s x.2.1) ∧ Below w.heap.size w w'
theorem refL_high {D : DM} {T : Nat} (h : D.Ok T) : -1 ≤ refL D ∧ refL D < 9223372036854775808 := by
  have h1 := h.low
  have h2 := h.high
  unfold refL
  split <;> omega
theorem ref_use {D : DM} {T : Nat} (h : D.Ok T) : (refL D = 0 ∧ D.use = none) ∨ (0 < refL D ∧ ∃ D', D.use = some D' ∧ D'.img = D.img ∧ D'.wts = D.wts ∧ refL D' = refL D - 1) ∨ (refL D < 0 ∧ D.use = some D) := by
  have h1 := h.low
  unfold refL DM.use
  cases ha : D.arm with
  | false => right; right; simp
  | true =>
    by_cases hl : D.left = 0
    · left; simp [hl]
    · right; left
      refine ⟨by simp; omega, ⟨D.img, D.wts, true, D.left - 1⟩, by simp [hl], rfl, rfl, by simp⟩
/-- A place of the call: none, or one. -/
def inP (o : OpM) (T : Nat) : Prop := 0 ≤ o.block ∧ o.block < (T : Int)
set_option maxRecDepth 100000 in
set_option maxHeartbeats 4000000 in
/-- Calls of no kind. -/
theorem rdo_other (N : Nat → Prop) (Ab Aw : Option Addr) (T cb cw : Nat) (D : DM) (o : OpM) (A : Option Addr) (c : Nat) (w : World) (h : RfD N w Ab Aw D T) (h1 : o.kind ≠ 1) (h2 : o.kind ≠ 2) (h3 : o.kind ≠ 3) (h4 : o.kind ≠ 4) : Calls Try.prog 17 #[RfV Ab T cb Aw D.wts.length cw (refL D), .agg (o.cells A c)] w (RdPost N w T (D, [], 1)) := by
  have hk1 : (o.kind == 1) = false := by rw [beq_eq_false_iff_ne]; exact h1
  have hk2 : (o.kind == 2) = false := by rw [beq_eq_false_iff_ne]; exact h2
  have hk3 : (o.kind == 3) = false := by rw [beq_eq_false_iff_ne]; exact h3
  have hk4 : (o.kind == 4) = false := by rw [beq_eq_false_iff_ne]; exact h4
  have hg4 : w.heap.size ≤ w.heap.size + 1 + 1 := by omega
  clear h1 h2 h3 h4
  obtain ⟨lf, hlf⟩ : ∃ lf, lf = refL D := ⟨_, rfl⟩
  obtain ⟨m, hm⟩ : ∃ m, m = D.wts.length := ⟨_, rfl⟩
  obtain ⟨dl, hdl⟩ : ∃ dl, dl = o.data.length := ⟨_, rfl⟩
  have hT := h.ok.top
  have hT1 := h.ok.one
  have hfew : m ≤ 64 := by rw [hm]; exact h.ok.few
  obtain ⟨wA, hwA⟩ : ∃ wA, wA = w.alloc (.cells #[.slice Ab T cb, .slice Aw m cw, .int .i64 lf] 32) := ⟨_, rfl⟩
  have hsA : wA.heap.size = w.heap.size + 1 := by rw [hwA]; simp
  obtain ⟨wB, hwB⟩ : ∃ wB, wB = wA.alloc (.cells #[.int .i64 o.kind, .int .i64 o.block, .slice A dl c, .int .u64 (o.keep : Int), .int .i64 o.tear, .int .i64 o.sectors] 36) := ⟨_, rfl⟩
  have hsB : wB.heap.size = w.heap.size + 1 + 1 := by rw [hwB]; simp [hsA]
  obtain ⟨wC, hwC⟩ : ∃ wC, wC = wB.alloc (.cells ResC 32) := ⟨_, rfl⟩
  have hsC : wC.heap.size = w.heap.size + 1 + 1 + 1 := by rw [hwC]; simp [hsB]
  have X2 : Bk wC w.heap.size 32 #[.slice Ab T cb, .slice Aw m cw, .int .i64 lf] := by rw [hwC, hwB, hwA]; exact ((Bk.new w _ _).alloc _).alloc _
  have X3 : Bk wC (w.heap.size + 1) 36 #[.int .i64 o.kind, .int .i64 o.block, .slice A dl c, .int .u64 (o.keep : Int), .int .i64 o.tear, .int .i64 o.sectors] := by rw [hwC, hwB, ← hsA]; exact (Bk.new wA _ _).alloc _
  have X4 : Bk wC (w.heap.size + 1 + 1) 32 ResC := by rw [hwC, ← hsB]; exact Bk.new wB _ _
  have BC : Below w.heap.size w wC := by rw [hwC, hwB, hwA]; exact (((Below.refl _ _).alloc (Nat.le_refl _) _).alloc (by simp) _).alloc (by simp; omega) _
  have x0 := X2.cell 0
  have x1 := X2.cell 1
  have x2 := X2.cell 2
  have y0 := X3.cell 0
  have y1 := X3.cell 1
  have y2 := X3.cell 2
  have y3 := X3.cell 3
  have y4 := X3.cell 4
  have y5 := X3.cell 5
  have z0 := X4.cell 0
  have z1 := X4.cell 1
  have z2 := X4.cell 2
  simp only [ResC, List.getElem?_toArray, List.getElem?_cons_zero, List.getElem?_cons_succ] at x0 x1 x2 y0 y1 y2 y3 y4 y5 z0 z1 z2
  have f0 := X4.frozen 0
  have f1 := X4.frozen 1
  have f2 := X4.frozen 2
  have fx2 := X2.frozen 2
  have HX2 := Lib.hid X2
  have HX3 := Lib.hid X3
  have HX4 := Lib.hid X4
  have HBC := Lib.hid BC
  have HH := Lib.hid h
  have HLF := Lib.hid hlf
  have HM := Lib.hid hm
  have HDL := Lib.hid hdl
  have HSC := Lib.hid hsC
  have HWW := Lib.hid (show ((w.alloc (.cells #[.slice Ab T cb, .slice Aw m cw, .int .i64 lf] 32)).alloc (.cells #[.int .i64 o.kind, .int .i64 o.block, .slice A dl c, .int .u64 (o.keep : Int), .int .i64 o.tear, .int .i64 o.sectors] 36)).alloc (.cells #[.slice none 0 0, .slice none 0 0, .int .i64 0] 32) = wC by rw [hwC, hwB, hwA]; rfl)
  rw [← hlf, ← hm]
  unfold RfV OpM.cells
  rw [← hdl]
  clear hwA hwB hwC hsA hsB hsC X2 X3 X4 BC h hlf hm hdl
  go_enter Try.func17, Try.ntmps17
  go_upto_region 1 with fail
  rw [HWW.out]
  by_cases hb0 : 0 ≤ o.block
  · by_cases hbT : o.block < (T : Int)
    · skip
      have BF := Lib.hid ((((HBC.out).setCell (p := ⟨w.heap.size + 1 + 1, 0, none⟩) hg4 (Value.slice Ab T cb)).setCell (p := ⟨w.heap.size + 1 + 1, 1, none⟩) hg4 (Value.slice Aw m cw)).setCell (p := ⟨w.heap.size + 1 + 1, 2, none⟩) hg4 (.int .i64 (lf)))
      have YF := Lib.hid ((((HX4.out).put 0 (Value.slice Ab T cb)).put 1 (Value.slice Aw m cw)).put 2 (.int .i64 (lf)))
      go_wp2_with fail
      generalize ((wC.setCell { block := w.heap.size + 1 + 1, off := 0 } (Value.slice Ab T cb)).setCell { block := w.heap.size + 1 + 1, off := 1 } (Value.slice Aw m cw)).setCell { block := w.heap.size + 1 + 1, off := 2 } (Value.int IntKind.i64 (lf)) = wf at *
      have q0 : wf.cell? ⟨w.heap.size + 1 + 1, 0, none⟩ = some (Value.slice Ab T cb) := by rw [YF.out.cell 0]; rfl
      have q1 : wf.cell? ⟨w.heap.size + 1 + 1, 1, none⟩ = some (Value.slice Aw m cw) := by rw [YF.out.cell 1]; rfl
      have q2 : wf.cell? ⟨w.heap.size + 1 + 1, 2, none⟩ = some (.int .i64 (lf)) := by rw [YF.out.cell 2]; rfl
      exact bodyPost_ret (v := .tuple #[.agg #[Value.slice Ab T cb, Value.slice Aw m cw, .int .i64 (lf)], .slice none 0 0, .int .i64 1]) (by simp [results, Try.results17, go_sem, q0, q1, q2]) rfl ⟨Ab, cb, Aw, cw, none, 0, by unfold RfV; rw [← HLF.out, ← HM.out]; rfl, HH.out.bel BF.out, Seg.nil _ _, BF.out⟩
    · skip
      have BF := Lib.hid ((((HBC.out).setCell (p := ⟨w.heap.size + 1 + 1, 0, none⟩) hg4 (Value.slice Ab T cb)).setCell (p := ⟨w.heap.size + 1 + 1, 1, none⟩) hg4 (Value.slice Aw m cw)).setCell (p := ⟨w.heap.size + 1 + 1, 2, none⟩) hg4 (.int .i64 (lf)))
      have YF := Lib.hid ((((HX4.out).put 0 (Value.slice Ab T cb)).put 1 (Value.slice Aw m cw)).put 2 (.int .i64 (lf)))
      go_wp2_with fail
      generalize ((wC.setCell { block := w.heap.size + 1 + 1, off := 0 } (Value.slice Ab T cb)).setCell { block := w.heap.size + 1 + 1, off := 1 } (Value.slice Aw m cw)).setCell { block := w.heap.size + 1 + 1, off := 2 } (Value.int IntKind.i64 (lf)) = wf at *
      have q0 : wf.cell? ⟨w.heap.size + 1 + 1, 0, none⟩ = some (Value.slice Ab T cb) := by rw [YF.out.cell 0]; rfl
      have q1 : wf.cell? ⟨w.heap.size + 1 + 1, 1, none⟩ = some (Value.slice Aw m cw) := by rw [YF.out.cell 1]; rfl
      have q2 : wf.cell? ⟨w.heap.size + 1 + 1, 2, none⟩ = some (.int .i64 (lf)) := by rw [YF.out.cell 2]; rfl
      exact bodyPost_ret (v := .tuple #[.agg #[Value.slice Ab T cb, Value.slice Aw m cw, .int .i64 (lf)], .slice none 0 0, .int .i64 1]) (by simp [results, Try.results17, go_sem, q0, q1, q2]) rfl ⟨Ab, cb, Aw, cw, none, 0, by unfold RfV; rw [← HLF.out, ← HM.out]; rfl, HH.out.bel BF.out, Seg.nil _ _, BF.out⟩
  · skip
    have BF := Lib.hid ((((HBC.out).setCell (p := ⟨w.heap.size + 1 + 1, 0, none⟩) hg4 (Value.slice Ab T cb)).setCell (p := ⟨w.heap.size + 1 + 1, 1, none⟩) hg4 (Value.slice Aw m cw)).setCell (p := ⟨w.heap.size + 1 + 1, 2, none⟩) hg4 (.int .i64 (lf)))
    have YF := Lib.hid ((((HX4.out).put 0 (Value.slice Ab T cb)).put 1 (Value.slice Aw m cw)).put 2 (.int .i64 (lf)))
    go_wp2_with fail
    generalize ((wC.setCell { block := w.heap.size + 1 + 1, off := 0 } (Value.slice Ab T cb)).setCell { block := w.heap.size + 1 + 1, off := 1 } (Value.slice Aw m cw)).setCell { block := w.heap.size + 1 + 1, off := 2 } (Value.int IntKind.i64 (lf)) = wf at *
    have q0 : wf.cell? ⟨w.heap.size + 1 + 1, 0, none⟩ = some (Value.slice Ab T cb) := by rw [YF.out.cell 0]; rfl
    have q1 : wf.cell? ⟨w.heap.size + 1 + 1, 1, none⟩ = some (Value.slice Aw m cw) := by rw [YF.out.cell 1]; rfl
    have q2 : wf.cell? ⟨w.heap.size + 1 + 1, 2, none⟩ = some (.int .i64 (lf)) := by rw [YF.out.cell 2]; rfl
    exact bodyPost_ret (v := .tuple #[.agg #[Value.slice Ab T cb, Value.slice Aw m cw, .int .i64 (lf)], .slice none 0 0, .int .i64 1]) (by simp [results, Try.results17, go_sem, q0, q1, q2]) rfl ⟨Ab, cb, Aw, cw, none, 0, by unfold RfV; rw [← HLF.out, ← HM.out]; rfl, HH.out.bel BF.out, Seg.nil _ _, BF.out⟩
set_option maxRecDepth 100000 in
set_option maxHeartbeats 8000000 in
theorem rdo_write_no (N : Nat → Prop) (Ab Aw : Option Addr) (T cb cw : Nat) (D : DM) (o : OpM) (A : Option Addr) (c : Nat) (w : World) (h : RfD N w Ab Aw D T) (hk : o.kind = 1) (hbad : ¬ inP o T ∨ o.data.length ≠ 256) : Calls Try.prog 17 #[RfV Ab T cb Aw D.wts.length cw (refL D), .agg (o.cells A c)] w (RdPost N w T (D, [], 1)) := by
  have hk1 : (o.kind == 1) = true := by rw [hk]; rfl
  have hk2 : (o.kind == 2) = false := by rw [hk]; rfl
  have hk3 : (o.kind == 3) = false := by rw [hk]; rfl
  have hk4 : (o.kind == 4) = false := by rw [hk]; rfl
  have hg4 : w.heap.size ≤ w.heap.size + 1 + 1 := by omega
  unfold inP at hbad
  clear hk
  obtain ⟨lf, hlf⟩ : ∃ lf, lf = refL D := ⟨_, rfl⟩
  obtain ⟨m, hm⟩ : ∃ m, m = D.wts.length := ⟨_, rfl⟩
  obtain ⟨dl, hdl⟩ : ∃ dl, dl = o.data.length := ⟨_, rfl⟩
  have hT := h.ok.top
  have hT1 := h.ok.one
  have hfew : m ≤ 64 := by rw [hm]; exact h.ok.few
  obtain ⟨wA, hwA⟩ : ∃ wA, wA = w.alloc (.cells #[.slice Ab T cb, .slice Aw m cw, .int .i64 lf] 32) := ⟨_, rfl⟩
  have hsA : wA.heap.size = w.heap.size + 1 := by rw [hwA]; simp
  obtain ⟨wB, hwB⟩ : ∃ wB, wB = wA.alloc (.cells #[.int .i64 o.kind, .int .i64 o.block, .slice A dl c, .int .u64 (o.keep : Int), .int .i64 o.tear, .int .i64 o.sectors] 36) := ⟨_, rfl⟩
  have hsB : wB.heap.size = w.heap.size + 1 + 1 := by rw [hwB]; simp [hsA]
  obtain ⟨wC, hwC⟩ : ∃ wC, wC = wB.alloc (.cells ResC 32) := ⟨_, rfl⟩
  have hsC : wC.heap.size = w.heap.size + 1 + 1 + 1 := by rw [hwC]; simp [hsB]
  have X2 : Bk wC w.heap.size 32 #[.slice Ab T cb, .slice Aw m cw, .int .i64 lf] := by rw [hwC, hwB, hwA]; exact ((Bk.new w _ _).alloc _).alloc _
  have X3 : Bk wC (w.heap.size + 1) 36 #[.int .i64 o.kind, .int .i64 o.block, .slice A dl c, .int .u64 (o.keep : Int), .int .i64 o.tear, .int .i64 o.sectors] := by rw [hwC, hwB, ← hsA]; exact (Bk.new wA _ _).alloc _
  have X4 : Bk wC (w.heap.size + 1 + 1) 32 ResC := by rw [hwC, ← hsB]; exact Bk.new wB _ _
  have BC : Below w.heap.size w wC := by rw [hwC, hwB, hwA]; exact (((Below.refl _ _).alloc (Nat.le_refl _) _).alloc (by simp) _).alloc (by simp; omega) _
  have x0 := X2.cell 0
  have x1 := X2.cell 1
  have x2 := X2.cell 2
  have y0 := X3.cell 0
  have y1 := X3.cell 1
  have y2 := X3.cell 2
  have y3 := X3.cell 3
  have y4 := X3.cell 4
  have y5 := X3.cell 5
  have z0 := X4.cell 0
  have z1 := X4.cell 1
  have z2 := X4.cell 2
  simp only [ResC, List.getElem?_toArray, List.getElem?_cons_zero, List.getElem?_cons_succ] at x0 x1 x2 y0 y1 y2 y3 y4 y5 z0 z1 z2
  have f0 := X4.frozen 0
  have f1 := X4.frozen 1
  have f2 := X4.frozen 2
  have fx2 := X2.frozen 2
  have HX2 := Lib.hid X2
  have HX3 := Lib.hid X3
  have HX4 := Lib.hid X4
  have HBC := Lib.hid BC
  have HH := Lib.hid h
  have HLF := Lib.hid hlf
  have HM := Lib.hid hm
  have HDL := Lib.hid hdl
  have HSC := Lib.hid hsC
  have HWW := Lib.hid (show ((w.alloc (.cells #[.slice Ab T cb, .slice Aw m cw, .int .i64 lf] 32)).alloc (.cells #[.int .i64 o.kind, .int .i64 o.block, .slice A dl c, .int .u64 (o.keep : Int), .int .i64 o.tear, .int .i64 o.sectors] 36)).alloc (.cells #[.slice none 0 0, .slice none 0 0, .int .i64 0] 32) = wC by rw [hwC, hwB, hwA]; rfl)
  rw [← hlf, ← hm]
  unfold RfV OpM.cells
  rw [← hdl]
  clear hwA hwB hwC hsA hsB hsC X2 X3 X4 BC h hlf hm hdl
  go_enter Try.func17, Try.ntmps17
  go_upto_region 1 with fail
  rw [HWW.out]
  rw [← HDL.out] at hbad
  by_cases hb0 : 0 ≤ o.block
  · by_cases hbT : o.block < (T : Int)
    · have hdd : ((dl : Int) != 256) = true := by rw [bne_iff_ne]; omega
      clear hbad
      have BF := Lib.hid ((((HBC.out).setCell (p := ⟨w.heap.size + 1 + 1, 0, none⟩) hg4 (Value.slice Ab T cb)).setCell (p := ⟨w.heap.size + 1 + 1, 1, none⟩) hg4 (Value.slice Aw m cw)).setCell (p := ⟨w.heap.size + 1 + 1, 2, none⟩) hg4 (.int .i64 (lf)))
      have YF := Lib.hid ((((HX4.out).put 0 (Value.slice Ab T cb)).put 1 (Value.slice Aw m cw)).put 2 (.int .i64 (lf)))
      go_wp2_with fail
      generalize ((wC.setCell { block := w.heap.size + 1 + 1, off := 0 } (Value.slice Ab T cb)).setCell { block := w.heap.size + 1 + 1, off := 1 } (Value.slice Aw m cw)).setCell { block := w.heap.size + 1 + 1, off := 2 } (Value.int IntKind.i64 (lf)) = wf at *
      have q0 : wf.cell? ⟨w.heap.size + 1 + 1, 0, none⟩ = some (Value.slice Ab T cb) := by rw [YF.out.cell 0]; rfl
      have q1 : wf.cell? ⟨w.heap.size + 1 + 1, 1, none⟩ = some (Value.slice Aw m cw) := by rw [YF.out.cell 1]; rfl
      have q2 : wf.cell? ⟨w.heap.size + 1 + 1, 2, none⟩ = some (.int .i64 (lf)) := by rw [YF.out.cell 2]; rfl
      exact bodyPost_ret (v := .tuple #[.agg #[Value.slice Ab T cb, Value.slice Aw m cw, .int .i64 (lf)], .slice none 0 0, .int .i64 1]) (by simp [results, Try.results17, go_sem, q0, q1, q2]) rfl ⟨Ab, cb, Aw, cw, none, 0, by unfold RfV; rw [← HLF.out, ← HM.out]; rfl, HH.out.bel BF.out, Seg.nil _ _, BF.out⟩
    · clear hbad
      have BF := Lib.hid ((((HBC.out).setCell (p := ⟨w.heap.size + 1 + 1, 0, none⟩) hg4 (Value.slice Ab T cb)).setCell (p := ⟨w.heap.size + 1 + 1, 1, none⟩) hg4 (Value.slice Aw m cw)).setCell (p := ⟨w.heap.size + 1 + 1, 2, none⟩) hg4 (.int .i64 (lf)))
      have YF := Lib.hid ((((HX4.out).put 0 (Value.slice Ab T cb)).put 1 (Value.slice Aw m cw)).put 2 (.int .i64 (lf)))
      go_wp2_with fail
      generalize ((wC.setCell { block := w.heap.size + 1 + 1, off := 0 } (Value.slice Ab T cb)).setCell { block := w.heap.size + 1 + 1, off := 1 } (Value.slice Aw m cw)).setCell { block := w.heap.size + 1 + 1, off := 2 } (Value.int IntKind.i64 (lf)) = wf at *
      have q0 : wf.cell? ⟨w.heap.size + 1 + 1, 0, none⟩ = some (Value.slice Ab T cb) := by rw [YF.out.cell 0]; rfl
      have q1 : wf.cell? ⟨w.heap.size + 1 + 1, 1, none⟩ = some (Value.slice Aw m cw) := by rw [YF.out.cell 1]; rfl
      have q2 : wf.cell? ⟨w.heap.size + 1 + 1, 2, none⟩ = some (.int .i64 (lf)) := by rw [YF.out.cell 2]; rfl
      exact bodyPost_ret (v := .tuple #[.agg #[Value.slice Ab T cb, Value.slice Aw m cw, .int .i64 (lf)], .slice none 0 0, .int .i64 1]) (by simp [results, Try.results17, go_sem, q0, q1, q2]) rfl ⟨Ab, cb, Aw, cw, none, 0, by unfold RfV; rw [← HLF.out, ← HM.out]; rfl, HH.out.bel BF.out, Seg.nil _ _, BF.out⟩
  · clear hbad
    have BF := Lib.hid ((((HBC.out).setCell (p := ⟨w.heap.size + 1 + 1, 0, none⟩) hg4 (Value.slice Ab T cb)).setCell (p := ⟨w.heap.size + 1 + 1, 1, none⟩) hg4 (Value.slice Aw m cw)).setCell (p := ⟨w.heap.size + 1 + 1, 2, none⟩) hg4 (.int .i64 (lf)))
    have YF := Lib.hid ((((HX4.out).put 0 (Value.slice Ab T cb)).put 1 (Value.slice Aw m cw)).put 2 (.int .i64 (lf)))
    go_wp2_with fail
    generalize ((wC.setCell { block := w.heap.size + 1 + 1, off := 0 } (Value.slice Ab T cb)).setCell { block := w.heap.size + 1 + 1, off := 1 } (Value.slice Aw m cw)).setCell { block := w.heap.size + 1 + 1, off := 2 } (Value.int IntKind.i64 (lf)) = wf at *
    have q0 : wf.cell? ⟨w.heap.size + 1 + 1, 0, none⟩ = some (Value.slice Ab T cb) := by rw [YF.out.cell 0]; rfl
    have q1 : wf.cell? ⟨w.heap.size + 1 + 1, 1, none⟩ = some (Value.slice Aw m cw) := by rw [YF.out.cell 1]; rfl
    have q2 : wf.cell? ⟨w.heap.size + 1 + 1, 2, none⟩ = some (.int .i64 (lf)) := by rw [YF.out.cell 2]; rfl
    exact bodyPost_ret (v := .tuple #[.agg #[Value.slice Ab T cb, Value.slice Aw m cw, .int .i64 (lf)], .slice none 0 0, .int .i64 1]) (by simp [results, Try.results17, go_sem, q0, q1, q2]) rfl ⟨Ab, cb, Aw, cw, none, 0, by unfold RfV; rw [← HLF.out, ← HM.out]; rfl, HH.out.bel BF.out, Seg.nil _ _, BF.out⟩
set_option maxRecDepth 100000 in
set_option maxHeartbeats 8000000 in
theorem rdo_write_out (N : Nat → Prop) (Ab Aw : Option Addr) (T cb cw : Nat) (D : DM) (o : OpM) (A : Option Addr) (c : Nat) (w : World) (h : RfD N w Ab Aw D T) (hk : o.kind = 1) (hin : inP o T) (hl : o.data.length = 256) (h0 : refL D = 0) : Calls Try.prog 17 #[RfV Ab T cb Aw D.wts.length cw (refL D), .agg (o.cells A c)] w (RdPost N w T (D, [], 9)) := by
  have hk1 : (o.kind == 1) = true := by rw [hk]; rfl
  have hk2 : (o.kind == 2) = false := by rw [hk]; rfl
  have hk3 : (o.kind == 3) = false := by rw [hk]; rfl
  have hk4 : (o.kind == 4) = false := by rw [hk]; rfl
  have hg4 : w.heap.size ≤ w.heap.size + 1 + 1 := by omega
  unfold inP at hin
  obtain ⟨hb0, hbT⟩ := hin
  clear hk
  obtain ⟨lf, hlf⟩ : ∃ lf, lf = refL D := ⟨_, rfl⟩
  obtain ⟨m, hm⟩ : ∃ m, m = D.wts.length := ⟨_, rfl⟩
  obtain ⟨dl, hdl⟩ : ∃ dl, dl = o.data.length := ⟨_, rfl⟩
  have hT := h.ok.top
  have hT1 := h.ok.one
  have hfew : m ≤ 64 := by rw [hm]; exact h.ok.few
  obtain ⟨wA, hwA⟩ : ∃ wA, wA = w.alloc (.cells #[.slice Ab T cb, .slice Aw m cw, .int .i64 lf] 32) := ⟨_, rfl⟩
  have hsA : wA.heap.size = w.heap.size + 1 := by rw [hwA]; simp
  obtain ⟨wB, hwB⟩ : ∃ wB, wB = wA.alloc (.cells #[.int .i64 o.kind, .int .i64 o.block, .slice A dl c, .int .u64 (o.keep : Int), .int .i64 o.tear, .int .i64 o.sectors] 36) := ⟨_, rfl⟩
  have hsB : wB.heap.size = w.heap.size + 1 + 1 := by rw [hwB]; simp [hsA]
  obtain ⟨wC, hwC⟩ : ∃ wC, wC = wB.alloc (.cells ResC 32) := ⟨_, rfl⟩
  have hsC : wC.heap.size = w.heap.size + 1 + 1 + 1 := by rw [hwC]; simp [hsB]
  have X2 : Bk wC w.heap.size 32 #[.slice Ab T cb, .slice Aw m cw, .int .i64 lf] := by rw [hwC, hwB, hwA]; exact ((Bk.new w _ _).alloc _).alloc _
  have X3 : Bk wC (w.heap.size + 1) 36 #[.int .i64 o.kind, .int .i64 o.block, .slice A dl c, .int .u64 (o.keep : Int), .int .i64 o.tear, .int .i64 o.sectors] := by rw [hwC, hwB, ← hsA]; exact (Bk.new wA _ _).alloc _
  have X4 : Bk wC (w.heap.size + 1 + 1) 32 ResC := by rw [hwC, ← hsB]; exact Bk.new wB _ _
  have BC : Below w.heap.size w wC := by rw [hwC, hwB, hwA]; exact (((Below.refl _ _).alloc (Nat.le_refl _) _).alloc (by simp) _).alloc (by simp; omega) _
  have x0 := X2.cell 0
  have x1 := X2.cell 1
  have x2 := X2.cell 2
  have y0 := X3.cell 0
  have y1 := X3.cell 1
  have y2 := X3.cell 2
  have y3 := X3.cell 3
  have y4 := X3.cell 4
  have y5 := X3.cell 5
  have z0 := X4.cell 0
  have z1 := X4.cell 1
  have z2 := X4.cell 2
  simp only [ResC, List.getElem?_toArray, List.getElem?_cons_zero, List.getElem?_cons_succ] at x0 x1 x2 y0 y1 y2 y3 y4 y5 z0 z1 z2
  have f0 := X4.frozen 0
  have f1 := X4.frozen 1
  have f2 := X4.frozen 2
  have fx2 := X2.frozen 2
  have HX2 := Lib.hid X2
  have HX3 := Lib.hid X3
  have HX4 := Lib.hid X4
  have HBC := Lib.hid BC
  have HH := Lib.hid h
  have HLF := Lib.hid hlf
  have HM := Lib.hid hm
  have HDL := Lib.hid hdl
  have HSC := Lib.hid hsC
  have HWW := Lib.hid (show ((w.alloc (.cells #[.slice Ab T cb, .slice Aw m cw, .int .i64 lf] 32)).alloc (.cells #[.int .i64 o.kind, .int .i64 o.block, .slice A dl c, .int .u64 (o.keep : Int), .int .i64 o.tear, .int .i64 o.sectors] 36)).alloc (.cells #[.slice none 0 0, .slice none 0 0, .int .i64 0] 32) = wC by rw [hwC, hwB, hwA]; rfl)
  rw [← hlf, ← hm]
  unfold RfV OpM.cells
  rw [← hdl]
  clear hwA hwB hwC hsA hsB hsC X2 X3 X4 BC h hlf hm hdl
  go_enter Try.func17, Try.ntmps17
  go_upto_region 1 with fail
  rw [HWW.out]
  rw [← HLF.out] at h0
  rw [← HDL.out] at hl
  have hdd : ((dl : Int) != 256) = false := by rw [bne_eq_false_iff_eq]; omega
  have hlz : (lf == 0) = true := by rw [h0]; rfl
  clear h0 hl
  have BF := Lib.hid ((((HBC.out).setCell (p := ⟨w.heap.size + 1 + 1, 0, none⟩) hg4 (Value.slice Ab T cb)).setCell (p := ⟨w.heap.size + 1 + 1, 1, none⟩) hg4 (Value.slice Aw m cw)).setCell (p := ⟨w.heap.size + 1 + 1, 2, none⟩) hg4 (.int .i64 (lf)))
  have YF := Lib.hid ((((HX4.out).put 0 (Value.slice Ab T cb)).put 1 (Value.slice Aw m cw)).put 2 (.int .i64 (lf)))
  go_wp2_with fail
  generalize ((wC.setCell { block := w.heap.size + 1 + 1, off := 0 } (Value.slice Ab T cb)).setCell { block := w.heap.size + 1 + 1, off := 1 } (Value.slice Aw m cw)).setCell { block := w.heap.size + 1 + 1, off := 2 } (Value.int IntKind.i64 (lf)) = wf at *
  have q0 : wf.cell? ⟨w.heap.size + 1 + 1, 0, none⟩ = some (Value.slice Ab T cb) := by rw [YF.out.cell 0]; rfl
  have q1 : wf.cell? ⟨w.heap.size + 1 + 1, 1, none⟩ = some (Value.slice Aw m cw) := by rw [YF.out.cell 1]; rfl
  have q2 : wf.cell? ⟨w.heap.size + 1 + 1, 2, none⟩ = some (.int .i64 (lf)) := by rw [YF.out.cell 2]; rfl
  exact bodyPost_ret (v := .tuple #[.agg #[Value.slice Ab T cb, Value.slice Aw m cw, .int .i64 (lf)], .slice none 0 0, .int .i64 9]) (by simp [results, Try.results17, go_sem, q0, q1, q2]) rfl ⟨Ab, cb, Aw, cw, none, 0, by unfold RfV; rw [← HLF.out, ← HM.out]; rfl, HH.out.bel BF.out, Seg.nil _ _, BF.out⟩
set_option maxRecDepth 100000 in
set_option maxHeartbeats 8000000 in
theorem rdo_flush_out (N : Nat → Prop) (Ab Aw : Option Addr) (T cb cw : Nat) (D : DM) (o : OpM) (A : Option Addr) (c : Nat) (w : World) (h : RfD N w Ab Aw D T) (hk : o.kind = 3) (h0 : refL D = 0) : Calls Try.prog 17 #[RfV Ab T cb Aw D.wts.length cw (refL D), .agg (o.cells A c)] w (RdPost N w T (D, [], 9)) := by
  have hk1 : (o.kind == 1) = false := by rw [hk]; rfl
  have hk2 : (o.kind == 2) = false := by rw [hk]; rfl
  have hk3 : (o.kind == 3) = true := by rw [hk]; rfl
  have hk4 : (o.kind == 4) = false := by rw [hk]; rfl
  have hg4 : w.heap.size ≤ w.heap.size + 1 + 1 := by omega
  clear hk
  obtain ⟨lf, hlf⟩ : ∃ lf, lf = refL D := ⟨_, rfl⟩
  obtain ⟨m, hm⟩ : ∃ m, m = D.wts.length := ⟨_, rfl⟩
  obtain ⟨dl, hdl⟩ : ∃ dl, dl = o.data.length := ⟨_, rfl⟩
  have hT := h.ok.top
  have hT1 := h.ok.one
  have hfew : m ≤ 64 := by rw [hm]; exact h.ok.few
  obtain ⟨wA, hwA⟩ : ∃ wA, wA = w.alloc (.cells #[.slice Ab T cb, .slice Aw m cw, .int .i64 lf] 32) := ⟨_, rfl⟩
  have hsA : wA.heap.size = w.heap.size + 1 := by rw [hwA]; simp
  obtain ⟨wB, hwB⟩ : ∃ wB, wB = wA.alloc (.cells #[.int .i64 o.kind, .int .i64 o.block, .slice A dl c, .int .u64 (o.keep : Int), .int .i64 o.tear, .int .i64 o.sectors] 36) := ⟨_, rfl⟩
  have hsB : wB.heap.size = w.heap.size + 1 + 1 := by rw [hwB]; simp [hsA]
  obtain ⟨wC, hwC⟩ : ∃ wC, wC = wB.alloc (.cells ResC 32) := ⟨_, rfl⟩
  have hsC : wC.heap.size = w.heap.size + 1 + 1 + 1 := by rw [hwC]; simp [hsB]
  have X2 : Bk wC w.heap.size 32 #[.slice Ab T cb, .slice Aw m cw, .int .i64 lf] := by rw [hwC, hwB, hwA]; exact ((Bk.new w _ _).alloc _).alloc _
  have X3 : Bk wC (w.heap.size + 1) 36 #[.int .i64 o.kind, .int .i64 o.block, .slice A dl c, .int .u64 (o.keep : Int), .int .i64 o.tear, .int .i64 o.sectors] := by rw [hwC, hwB, ← hsA]; exact (Bk.new wA _ _).alloc _
  have X4 : Bk wC (w.heap.size + 1 + 1) 32 ResC := by rw [hwC, ← hsB]; exact Bk.new wB _ _
  have BC : Below w.heap.size w wC := by rw [hwC, hwB, hwA]; exact (((Below.refl _ _).alloc (Nat.le_refl _) _).alloc (by simp) _).alloc (by simp; omega) _
  have x0 := X2.cell 0
  have x1 := X2.cell 1
  have x2 := X2.cell 2
  have y0 := X3.cell 0
  have y1 := X3.cell 1
  have y2 := X3.cell 2
  have y3 := X3.cell 3
  have y4 := X3.cell 4
  have y5 := X3.cell 5
  have z0 := X4.cell 0
  have z1 := X4.cell 1
  have z2 := X4.cell 2
  simp only [ResC, List.getElem?_toArray, List.getElem?_cons_zero, List.getElem?_cons_succ] at x0 x1 x2 y0 y1 y2 y3 y4 y5 z0 z1 z2
  have f0 := X4.frozen 0
  have f1 := X4.frozen 1
  have f2 := X4.frozen 2
  have fx2 := X2.frozen 2
  have HX2 := Lib.hid X2
  have HX3 := Lib.hid X3
  have HX4 := Lib.hid X4
  have HBC := Lib.hid BC
  have HH := Lib.hid h
  have HLF := Lib.hid hlf
  have HM := Lib.hid hm
  have HDL := Lib.hid hdl
  have HSC := Lib.hid hsC
  have HWW := Lib.hid (show ((w.alloc (.cells #[.slice Ab T cb, .slice Aw m cw, .int .i64 lf] 32)).alloc (.cells #[.int .i64 o.kind, .int .i64 o.block, .slice A dl c, .int .u64 (o.keep : Int), .int .i64 o.tear, .int .i64 o.sectors] 36)).alloc (.cells #[.slice none 0 0, .slice none 0 0, .int .i64 0] 32) = wC by rw [hwC, hwB, hwA]; rfl)
  rw [← hlf, ← hm]
  unfold RfV OpM.cells
  rw [← hdl]
  clear hwA hwB hwC hsA hsB hsC X2 X3 X4 BC h hlf hm hdl
  go_enter Try.func17, Try.ntmps17
  go_upto_region 1 with fail
  rw [HWW.out]
  rw [← HLF.out] at h0
  have hlz : (lf == 0) = true := by rw [h0]; rfl
  clear h0
  by_cases hb0 : 0 ≤ o.block
  · by_cases hbT : o.block < (T : Int)
    · skip
      have BF := Lib.hid ((((HBC.out).setCell (p := ⟨w.heap.size + 1 + 1, 0, none⟩) hg4 (Value.slice Ab T cb)).setCell (p := ⟨w.heap.size + 1 + 1, 1, none⟩) hg4 (Value.slice Aw m cw)).setCell (p := ⟨w.heap.size + 1 + 1, 2, none⟩) hg4 (.int .i64 (lf)))
      have YF := Lib.hid ((((HX4.out).put 0 (Value.slice Ab T cb)).put 1 (Value.slice Aw m cw)).put 2 (.int .i64 (lf)))
      go_wp2_with fail
      generalize ((wC.setCell { block := w.heap.size + 1 + 1, off := 0 } (Value.slice Ab T cb)).setCell { block := w.heap.size + 1 + 1, off := 1 } (Value.slice Aw m cw)).setCell { block := w.heap.size + 1 + 1, off := 2 } (Value.int IntKind.i64 (lf)) = wf at *
      have q0 : wf.cell? ⟨w.heap.size + 1 + 1, 0, none⟩ = some (Value.slice Ab T cb) := by rw [YF.out.cell 0]; rfl
      have q1 : wf.cell? ⟨w.heap.size + 1 + 1, 1, none⟩ = some (Value.slice Aw m cw) := by rw [YF.out.cell 1]; rfl
      have q2 : wf.cell? ⟨w.heap.size + 1 + 1, 2, none⟩ = some (.int .i64 (lf)) := by rw [YF.out.cell 2]; rfl
      exact bodyPost_ret (v := .tuple #[.agg #[Value.slice Ab T cb, Value.slice Aw m cw, .int .i64 (lf)], .slice none 0 0, .int .i64 9]) (by simp [results, Try.results17, go_sem, q0, q1, q2]) rfl ⟨Ab, cb, Aw, cw, none, 0, by unfold RfV; rw [← HLF.out, ← HM.out]; rfl, HH.out.bel BF.out, Seg.nil _ _, BF.out⟩
    · skip
      have BF := Lib.hid ((((HBC.out).setCell (p := ⟨w.heap.size + 1 + 1, 0, none⟩) hg4 (Value.slice Ab T cb)).setCell (p := ⟨w.heap.size + 1 + 1, 1, none⟩) hg4 (Value.slice Aw m cw)).setCell (p := ⟨w.heap.size + 1 + 1, 2, none⟩) hg4 (.int .i64 (lf)))
      have YF := Lib.hid ((((HX4.out).put 0 (Value.slice Ab T cb)).put 1 (Value.slice Aw m cw)).put 2 (.int .i64 (lf)))
      go_wp2_with fail
      generalize ((wC.setCell { block := w.heap.size + 1 + 1, off := 0 } (Value.slice Ab T cb)).setCell { block := w.heap.size + 1 + 1, off := 1 } (Value.slice Aw m cw)).setCell { block := w.heap.size + 1 + 1, off := 2 } (Value.int IntKind.i64 (lf)) = wf at *
      have q0 : wf.cell? ⟨w.heap.size + 1 + 1, 0, none⟩ = some (Value.slice Ab T cb) := by rw [YF.out.cell 0]; rfl
      have q1 : wf.cell? ⟨w.heap.size + 1 + 1, 1, none⟩ = some (Value.slice Aw m cw) := by rw [YF.out.cell 1]; rfl
      have q2 : wf.cell? ⟨w.heap.size + 1 + 1, 2, none⟩ = some (.int .i64 (lf)) := by rw [YF.out.cell 2]; rfl
      exact bodyPost_ret (v := .tuple #[.agg #[Value.slice Ab T cb, Value.slice Aw m cw, .int .i64 (lf)], .slice none 0 0, .int .i64 9]) (by simp [results, Try.results17, go_sem, q0, q1, q2]) rfl ⟨Ab, cb, Aw, cw, none, 0, by unfold RfV; rw [← HLF.out, ← HM.out]; rfl, HH.out.bel BF.out, Seg.nil _ _, BF.out⟩
  · skip
    have BF := Lib.hid ((((HBC.out).setCell (p := ⟨w.heap.size + 1 + 1, 0, none⟩) hg4 (Value.slice Ab T cb)).setCell (p := ⟨w.heap.size + 1 + 1, 1, none⟩) hg4 (Value.slice Aw m cw)).setCell (p := ⟨w.heap.size + 1 + 1, 2, none⟩) hg4 (.int .i64 (lf)))
    have YF := Lib.hid ((((HX4.out).put 0 (Value.slice Ab T cb)).put 1 (Value.slice Aw m cw)).put 2 (.int .i64 (lf)))
    go_wp2_with fail
    generalize ((wC.setCell { block := w.heap.size + 1 + 1, off := 0 } (Value.slice Ab T cb)).setCell { block := w.heap.size + 1 + 1, off := 1 } (Value.slice Aw m cw)).setCell { block := w.heap.size + 1 + 1, off := 2 } (Value.int IntKind.i64 (lf)) = wf at *
    have q0 : wf.cell? ⟨w.heap.size + 1 + 1, 0, none⟩ = some (Value.slice Ab T cb) := by rw [YF.out.cell 0]; rfl
    have q1 : wf.cell? ⟨w.heap.size + 1 + 1, 1, none⟩ = some (Value.slice Aw m cw) := by rw [YF.out.cell 1]; rfl
    have q2 : wf.cell? ⟨w.heap.size + 1 + 1, 2, none⟩ = some (.int .i64 (lf)) := by rw [YF.out.cell 2]; rfl
    exact bodyPost_ret (v := .tuple #[.agg #[Value.slice Ab T cb, Value.slice Aw m cw, .int .i64 (lf)], .slice none 0 0, .int .i64 9]) (by simp [results, Try.results17, go_sem, q0, q1, q2]) rfl ⟨Ab, cb, Aw, cw, none, 0, by unfold RfV; rw [← HLF.out, ← HM.out]; rfl, HH.out.bel BF.out, Seg.nil _ _, BF.out⟩
set_option maxRecDepth 100000 in
set_option maxHeartbeats 8000000 in
theorem rdo_read_no (N : Nat → Prop) (Ab Aw : Option Addr) (T cb cw : Nat) (D : DM) (o : OpM) (A : Option Addr) (c : Nat) (w : World) (h : RfD N w Ab Aw D T) (hk : o.kind = 2) (hbad : ¬ inP o T) : Calls Try.prog 17 #[RfV Ab T cb Aw D.wts.length cw (refL D), .agg (o.cells A c)] w (RdPost N w T (D, [], 1)) := by
  have hk1 : (o.kind == 1) = false := by rw [hk]; rfl
  have hk2 : (o.kind == 2) = true := by rw [hk]; rfl
  have hk3 : (o.kind == 3) = false := by rw [hk]; rfl
  have hk4 : (o.kind == 4) = false := by rw [hk]; rfl
  have hg4 : w.heap.size ≤ w.heap.size + 1 + 1 := by omega
  unfold inP at hbad
  clear hk
  obtain ⟨lf, hlf⟩ : ∃ lf, lf = refL D := ⟨_, rfl⟩
  obtain ⟨m, hm⟩ : ∃ m, m = D.wts.length := ⟨_, rfl⟩
  obtain ⟨dl, hdl⟩ : ∃ dl, dl = o.data.length := ⟨_, rfl⟩
  have hT := h.ok.top
  have hT1 := h.ok.one
  have hfew : m ≤ 64 := by rw [hm]; exact h.ok.few
  obtain ⟨wA, hwA⟩ : ∃ wA, wA = w.alloc (.cells #[.slice Ab T cb, .slice Aw m cw, .int .i64 lf] 32) := ⟨_, rfl⟩
  have hsA : wA.heap.size = w.heap.size + 1 := by rw [hwA]; simp
  obtain ⟨wB, hwB⟩ : ∃ wB, wB = wA.alloc (.cells #[.int .i64 o.kind, .int .i64 o.block, .slice A dl c, .int .u64 (o.keep : Int), .int .i64 o.tear, .int .i64 o.sectors] 36) := ⟨_, rfl⟩
  have hsB : wB.heap.size = w.heap.size + 1 + 1 := by rw [hwB]; simp [hsA]
  obtain ⟨wC, hwC⟩ : ∃ wC, wC = wB.alloc (.cells ResC 32) := ⟨_, rfl⟩
  have hsC : wC.heap.size = w.heap.size + 1 + 1 + 1 := by rw [hwC]; simp [hsB]
  have X2 : Bk wC w.heap.size 32 #[.slice Ab T cb, .slice Aw m cw, .int .i64 lf] := by rw [hwC, hwB, hwA]; exact ((Bk.new w _ _).alloc _).alloc _
  have X3 : Bk wC (w.heap.size + 1) 36 #[.int .i64 o.kind, .int .i64 o.block, .slice A dl c, .int .u64 (o.keep : Int), .int .i64 o.tear, .int .i64 o.sectors] := by rw [hwC, hwB, ← hsA]; exact (Bk.new wA _ _).alloc _
  have X4 : Bk wC (w.heap.size + 1 + 1) 32 ResC := by rw [hwC, ← hsB]; exact Bk.new wB _ _
  have BC : Below w.heap.size w wC := by rw [hwC, hwB, hwA]; exact (((Below.refl _ _).alloc (Nat.le_refl _) _).alloc (by simp) _).alloc (by simp; omega) _
  have x0 := X2.cell 0
  have x1 := X2.cell 1
  have x2 := X2.cell 2
  have y0 := X3.cell 0
  have y1 := X3.cell 1
  have y2 := X3.cell 2
  have y3 := X3.cell 3
  have y4 := X3.cell 4
  have y5 := X3.cell 5
  have z0 := X4.cell 0
  have z1 := X4.cell 1
  have z2 := X4.cell 2
  simp only [ResC, List.getElem?_toArray, List.getElem?_cons_zero, List.getElem?_cons_succ] at x0 x1 x2 y0 y1 y2 y3 y4 y5 z0 z1 z2
  have f0 := X4.frozen 0
  have f1 := X4.frozen 1
  have f2 := X4.frozen 2
  have fx2 := X2.frozen 2
  have HX2 := Lib.hid X2
  have HX3 := Lib.hid X3
  have HX4 := Lib.hid X4
  have HBC := Lib.hid BC
  have HH := Lib.hid h
  have HLF := Lib.hid hlf
  have HM := Lib.hid hm
  have HDL := Lib.hid hdl
  have HSC := Lib.hid hsC
  have HWW := Lib.hid (show ((w.alloc (.cells #[.slice Ab T cb, .slice Aw m cw, .int .i64 lf] 32)).alloc (.cells #[.int .i64 o.kind, .int .i64 o.block, .slice A dl c, .int .u64 (o.keep : Int), .int .i64 o.tear, .int .i64 o.sectors] 36)).alloc (.cells #[.slice none 0 0, .slice none 0 0, .int .i64 0] 32) = wC by rw [hwC, hwB, hwA]; rfl)
  rw [← hlf, ← hm]
  unfold RfV OpM.cells
  rw [← hdl]
  clear hwA hwB hwC hsA hsB hsC X2 X3 X4 BC h hlf hm hdl
  go_enter Try.func17, Try.ntmps17
  go_upto_region 1 with fail
  rw [HWW.out]
  by_cases hb0 : 0 ≤ o.block
  · have hbT : ¬ o.block < (T : Int) := fun h => hbad ⟨hb0, h⟩
    clear hbad
    have BF := Lib.hid ((((HBC.out).setCell (p := ⟨w.heap.size + 1 + 1, 0, none⟩) hg4 (Value.slice Ab T cb)).setCell (p := ⟨w.heap.size + 1 + 1, 1, none⟩) hg4 (Value.slice Aw m cw)).setCell (p := ⟨w.heap.size + 1 + 1, 2, none⟩) hg4 (.int .i64 (lf)))
    have YF := Lib.hid ((((HX4.out).put 0 (Value.slice Ab T cb)).put 1 (Value.slice Aw m cw)).put 2 (.int .i64 (lf)))
    go_wp2_with fail
    generalize ((wC.setCell { block := w.heap.size + 1 + 1, off := 0 } (Value.slice Ab T cb)).setCell { block := w.heap.size + 1 + 1, off := 1 } (Value.slice Aw m cw)).setCell { block := w.heap.size + 1 + 1, off := 2 } (Value.int IntKind.i64 (lf)) = wf at *
    have q0 : wf.cell? ⟨w.heap.size + 1 + 1, 0, none⟩ = some (Value.slice Ab T cb) := by rw [YF.out.cell 0]; rfl
    have q1 : wf.cell? ⟨w.heap.size + 1 + 1, 1, none⟩ = some (Value.slice Aw m cw) := by rw [YF.out.cell 1]; rfl
    have q2 : wf.cell? ⟨w.heap.size + 1 + 1, 2, none⟩ = some (.int .i64 (lf)) := by rw [YF.out.cell 2]; rfl
    exact bodyPost_ret (v := .tuple #[.agg #[Value.slice Ab T cb, Value.slice Aw m cw, .int .i64 (lf)], .slice none 0 0, .int .i64 1]) (by simp [results, Try.results17, go_sem, q0, q1, q2]) rfl ⟨Ab, cb, Aw, cw, none, 0, by unfold RfV; rw [← HLF.out, ← HM.out]; rfl, HH.out.bel BF.out, Seg.nil _ _, BF.out⟩
  · clear hbad
    have BF := Lib.hid ((((HBC.out).setCell (p := ⟨w.heap.size + 1 + 1, 0, none⟩) hg4 (Value.slice Ab T cb)).setCell (p := ⟨w.heap.size + 1 + 1, 1, none⟩) hg4 (Value.slice Aw m cw)).setCell (p := ⟨w.heap.size + 1 + 1, 2, none⟩) hg4 (.int .i64 (lf)))
    have YF := Lib.hid ((((HX4.out).put 0 (Value.slice Ab T cb)).put 1 (Value.slice Aw m cw)).put 2 (.int .i64 (lf)))
    go_wp2_with fail
    generalize ((wC.setCell { block := w.heap.size + 1 + 1, off := 0 } (Value.slice Ab T cb)).setCell { block := w.heap.size + 1 + 1, off := 1 } (Value.slice Aw m cw)).setCell { block := w.heap.size + 1 + 1, off := 2 } (Value.int IntKind.i64 (lf)) = wf at *
    have q0 : wf.cell? ⟨w.heap.size + 1 + 1, 0, none⟩ = some (Value.slice Ab T cb) := by rw [YF.out.cell 0]; rfl
    have q1 : wf.cell? ⟨w.heap.size + 1 + 1, 1, none⟩ = some (Value.slice Aw m cw) := by rw [YF.out.cell 1]; rfl
    have q2 : wf.cell? ⟨w.heap.size + 1 + 1, 2, none⟩ = some (.int .i64 (lf)) := by rw [YF.out.cell 2]; rfl
    exact bodyPost_ret (v := .tuple #[.agg #[Value.slice Ab T cb, Value.slice Aw m cw, .int .i64 (lf)], .slice none 0 0, .int .i64 1]) (by simp [results, Try.results17, go_sem, q0, q1, q2]) rfl ⟨Ab, cb, Aw, cw, none, 0, by unfold RfV; rw [← HLF.out, ← HM.out]; rfl, HH.out.bel BF.out, Seg.nil _ _, BF.out⟩
set_option maxRecDepth 100000 in
set_option maxHeartbeats 8000000 in
theorem rdo_write_full (N : Nat → Prop) (Ab Aw : Option Addr) (T cb cw : Nat) (D : DM) (o : OpM) (A : Option Addr) (c : Nat) (w : World) (h : RfD N w Ab Aw D T) (hk : o.kind = 1) (hin : inP o T) (hl : o.data.length = 256) (D' : DM) (hu : D.use = some D') (hfull : ¬ D'.wts.length < 64) : Calls Try.prog 17 #[RfV Ab T cb Aw D.wts.length cw (refL D), .agg (o.cells A c)] w (RdPost N w T (D', [], 2)) := by
  have hk1 : (o.kind == 1) = true := by rw [hk]; rfl
  have hk2 : (o.kind == 2) = false := by rw [hk]; rfl
  have hk3 : (o.kind == 3) = false := by rw [hk]; rfl
  have hk4 : (o.kind == 4) = false := by rw [hk]; rfl
  have hg4 : w.heap.size ≤ w.heap.size + 1 + 1 := by omega
  unfold inP at hin
  obtain ⟨hb0, hbT⟩ := hin
  have hok := h.ok.use hu
  obtain ⟨hu1, hu2⟩ := DM.use_img hu
  have hr := refL_high h.ok
  have hue := ref_use h.ok
  clear hk
  obtain ⟨lf, hlf⟩ : ∃ lf, lf = refL D := ⟨_, rfl⟩
  obtain ⟨m, hm⟩ : ∃ m, m = D.wts.length := ⟨_, rfl⟩
  obtain ⟨dl, hdl⟩ : ∃ dl, dl = o.data.length := ⟨_, rfl⟩
  have hT := h.ok.top
  have hT1 := h.ok.one
  have hfew : m ≤ 64 := by rw [hm]; exact h.ok.few
  obtain ⟨wA, hwA⟩ : ∃ wA, wA = w.alloc (.cells #[.slice Ab T cb, .slice Aw m cw, .int .i64 lf] 32) := ⟨_, rfl⟩
  have hsA : wA.heap.size = w.heap.size + 1 := by rw [hwA]; simp
  obtain ⟨wB, hwB⟩ : ∃ wB, wB = wA.alloc (.cells #[.int .i64 o.kind, .int .i64 o.block, .slice A dl c, .int .u64 (o.keep : Int), .int .i64 o.tear, .int .i64 o.sectors] 36) := ⟨_, rfl⟩
  have hsB : wB.heap.size = w.heap.size + 1 + 1 := by rw [hwB]; simp [hsA]
  obtain ⟨wC, hwC⟩ : ∃ wC, wC = wB.alloc (.cells ResC 32) := ⟨_, rfl⟩
  have hsC : wC.heap.size = w.heap.size + 1 + 1 + 1 := by rw [hwC]; simp [hsB]
  have X2 : Bk wC w.heap.size 32 #[.slice Ab T cb, .slice Aw m cw, .int .i64 lf] := by rw [hwC, hwB, hwA]; exact ((Bk.new w _ _).alloc _).alloc _
  have X3 : Bk wC (w.heap.size + 1) 36 #[.int .i64 o.kind, .int .i64 o.block, .slice A dl c, .int .u64 (o.keep : Int), .int .i64 o.tear, .int .i64 o.sectors] := by rw [hwC, hwB, ← hsA]; exact (Bk.new wA _ _).alloc _
  have X4 : Bk wC (w.heap.size + 1 + 1) 32 ResC := by rw [hwC, ← hsB]; exact Bk.new wB _ _
  have BC : Below w.heap.size w wC := by rw [hwC, hwB, hwA]; exact (((Below.refl _ _).alloc (Nat.le_refl _) _).alloc (by simp) _).alloc (by simp; omega) _
  have x0 := X2.cell 0
  have x1 := X2.cell 1
  have x2 := X2.cell 2
  have y0 := X3.cell 0
  have y1 := X3.cell 1
  have y2 := X3.cell 2
  have y3 := X3.cell 3
  have y4 := X3.cell 4
  have y5 := X3.cell 5
  have z0 := X4.cell 0
  have z1 := X4.cell 1
  have z2 := X4.cell 2
  simp only [ResC, List.getElem?_toArray, List.getElem?_cons_zero, List.getElem?_cons_succ] at x0 x1 x2 y0 y1 y2 y3 y4 y5 z0 z1 z2
  have f0 := X4.frozen 0
  have f1 := X4.frozen 1
  have f2 := X4.frozen 2
  have fx2 := X2.frozen 2
  have HX2 := Lib.hid X2
  have HX3 := Lib.hid X3
  have HX4 := Lib.hid X4
  have HBC := Lib.hid BC
  have HH := Lib.hid h
  have HLF := Lib.hid hlf
  have HM := Lib.hid hm
  have HDL := Lib.hid hdl
  have HSC := Lib.hid hsC
  have HWW := Lib.hid (show ((w.alloc (.cells #[.slice Ab T cb, .slice Aw m cw, .int .i64 lf] 32)).alloc (.cells #[.int .i64 o.kind, .int .i64 o.block, .slice A dl c, .int .u64 (o.keep : Int), .int .i64 o.tear, .int .i64 o.sectors] 36)).alloc (.cells #[.slice none 0 0, .slice none 0 0, .int .i64 0] 32) = wC by rw [hwC, hwB, hwA]; rfl)
  rw [← hlf, ← hm]
  unfold RfV OpM.cells
  rw [← hdl]
  clear hwA hwB hwC hsA hsB hsC X2 X3 X4 BC h hlf hm hdl
  go_enter Try.func17, Try.ntmps17
  go_upto_region 1 with fail
  rw [HWW.out]
  rw [hu2, ← HM.out] at hfull
  rw [← HLF.out] at hue hr
  rw [← HDL.out] at hl
  have hdd : ((dl : Int) != 256) = false := by rw [bne_eq_false_iff_eq]; omega
  have hmI : (64 : Int) ≤ (m : Int) := by omega
  clear hl
  rcases hue with ⟨_, hn⟩ | ⟨hpos, D2, hD2, _, _, hu3⟩ | ⟨hneg, hD2⟩
  · rw [hu] at hn; cases hn
  · obtain rfl : D' = D2 := by rw [hu] at hD2; exact Option.some.inj hD2
    have hlz : (lf == 0) = false := by rw [beq_eq_false_iff_ne]; omega

    obtain ⟨wS, hwS⟩ : ∃ wS, wS = wC.setCell ⟨w.heap.size, 2, none⟩ (.int .i64 (lf - 1)) := ⟨_, rfl⟩
    have X2 : Bk wS w.heap.size 32 #[.slice Ab T cb, .slice Aw m cw, .int .i64 (lf - 1)] := by rw [hwS]; exact HX2.out.put 2 _
    have X3 : Bk wS (w.heap.size + 1) 36 #[.int .i64 o.kind, .int .i64 o.block, .slice A dl c, .int .u64 (o.keep : Int), .int .i64 o.tear, .int .i64 o.sectors] := by rw [hwS]; exact HX3.out.far (by simp) _
    have X4 : Bk wS (w.heap.size + 1 + 1) 32 ResC := by rw [hwS]; exact HX4.out.far (by simp only; omega) _
    have BS : Below w.heap.size w wS := by rw [hwS]; exact HBC.out.setCell (Nat.le_refl _) _
    have hzS : wS.heap.size = w.heap.size + 1 + 1 + 1 := by rw [hwS, ← HSC.out]; simp
    have hsub : wrap64 (lf - 1) = lf - 1 := IntWalk.wrap64_in _ ⟨by omega, by omega⟩
    have hsub2 : IntKind.i64.wrap (lf - 1) = lf - 1 := IntWalk.i64_in _ ⟨by omega, by omega⟩
    have HWS := Lib.hid hwS
    clear hwS hfull hD2 hu
    go_upto_region 10 with fail
    rw [← HWS.out]
    clear x0 x1 x2 y0 y1 y2 y3 y4 y5 z0 z1 z2 f0 f1 f2 fx2
    have x0 := X2.cell 0
    have x1 := X2.cell 1
    have x2 := X2.cell 2
    have y0 := X3.cell 0
    have y1 := X3.cell 1
    have y2 := X3.cell 2
    have y3 := X3.cell 3
    have y4 := X3.cell 4
    have y5 := X3.cell 5
    have z0 := X4.cell 0
    have z1 := X4.cell 1
    have z2 := X4.cell 2
    simp only [ResC, List.getElem?_toArray, List.getElem?_cons_zero, List.getElem?_cons_succ] at x0 x1 x2 y0 y1 y2 y3 y4 y5 z0 z1 z2
    have f0 := X4.frozen 0
    have f1 := X4.frozen 1
    have f2 := X4.frozen 2
    have BF := Lib.hid ((((BS).setCell (p := ⟨w.heap.size + 1 + 1, 0, none⟩) hg4 (Value.slice Ab T cb)).setCell (p := ⟨w.heap.size + 1 + 1, 1, none⟩) hg4 (Value.slice Aw m cw)).setCell (p := ⟨w.heap.size + 1 + 1, 2, none⟩) hg4 (.int .i64 (lf - 1)))
    have YF := Lib.hid ((((X4).put 0 (Value.slice Ab T cb)).put 1 (Value.slice Aw m cw)).put 2 (.int .i64 (lf - 1)))
    go_wp2_with fail
    generalize ((wS.setCell { block := w.heap.size + 1 + 1, off := 0 } (Value.slice Ab T cb)).setCell { block := w.heap.size + 1 + 1, off := 1 } (Value.slice Aw m cw)).setCell { block := w.heap.size + 1 + 1, off := 2 } (Value.int IntKind.i64 (lf - 1)) = wf at *
    have q0 : wf.cell? ⟨w.heap.size + 1 + 1, 0, none⟩ = some (Value.slice Ab T cb) := by rw [YF.out.cell 0]; rfl
    have q1 : wf.cell? ⟨w.heap.size + 1 + 1, 1, none⟩ = some (Value.slice Aw m cw) := by rw [YF.out.cell 1]; rfl
    have q2 : wf.cell? ⟨w.heap.size + 1 + 1, 2, none⟩ = some (.int .i64 (lf - 1)) := by rw [YF.out.cell 2]; rfl
    exact bodyPost_ret (v := .tuple #[.agg #[Value.slice Ab T cb, Value.slice Aw m cw, .int .i64 (lf - 1)], .slice none 0 0, .int .i64 2]) (by simp [results, Try.results17, go_sem, q0, q1, q2]) rfl ⟨Ab, cb, Aw, cw, none, 0, by unfold RfV; rw [hu3, hu2, ← HM.out]; rfl, ⟨by rw [hu1]; exact HH.out.rs.bel BF.out, by rw [hu2]; exact HH.out.wt.bel BF.out, hok⟩, Seg.nil _ _, BF.out⟩
  · obtain rfl : D = D' := by rw [hu] at hD2; exact (Option.some.inj hD2).symm
    have hlz : (lf == 0) = false := by rw [beq_eq_false_iff_ne]; omega
    have hlp : ¬ 0 < lf := by omega
    clear hfull hD2 hu
    have BF := Lib.hid ((((HBC.out).setCell (p := ⟨w.heap.size + 1 + 1, 0, none⟩) hg4 (Value.slice Ab T cb)).setCell (p := ⟨w.heap.size + 1 + 1, 1, none⟩) hg4 (Value.slice Aw m cw)).setCell (p := ⟨w.heap.size + 1 + 1, 2, none⟩) hg4 (.int .i64 (lf)))
    have YF := Lib.hid ((((HX4.out).put 0 (Value.slice Ab T cb)).put 1 (Value.slice Aw m cw)).put 2 (.int .i64 (lf)))
    go_wp2_with fail
    generalize ((wC.setCell { block := w.heap.size + 1 + 1, off := 0 } (Value.slice Ab T cb)).setCell { block := w.heap.size + 1 + 1, off := 1 } (Value.slice Aw m cw)).setCell { block := w.heap.size + 1 + 1, off := 2 } (Value.int IntKind.i64 (lf)) = wf at *
    have q0 : wf.cell? ⟨w.heap.size + 1 + 1, 0, none⟩ = some (Value.slice Ab T cb) := by rw [YF.out.cell 0]; rfl
    have q1 : wf.cell? ⟨w.heap.size + 1 + 1, 1, none⟩ = some (Value.slice Aw m cw) := by rw [YF.out.cell 1]; rfl
    have q2 : wf.cell? ⟨w.heap.size + 1 + 1, 2, none⟩ = some (.int .i64 (lf)) := by rw [YF.out.cell 2]; rfl
    exact bodyPost_ret (v := .tuple #[.agg #[Value.slice Ab T cb, Value.slice Aw m cw, .int .i64 (lf)], .slice none 0 0, .int .i64 2]) (by simp [results, Try.results17, go_sem, q0, q1, q2]) rfl ⟨Ab, cb, Aw, cw, none, 0, by unfold RfV; rw [← HLF.out, ← HM.out]; rfl, HH.out.bel BF.out, Seg.nil _ _, BF.out⟩
end Go.Proofs.Ytmgbmnbjionapaa
