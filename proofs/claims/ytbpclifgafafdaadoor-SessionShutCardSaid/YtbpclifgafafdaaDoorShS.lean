/- A feed sees one event of a channel of which its user is a member. Condition: the feed and the workspace lie in memory. -/
import Derived.Test.YtbpclifgafafdaaDoorShM
import Derived.Test.YtbpclifgafafdaaDoorShQ
import Derived.Test.YtbpclifgafafdaaDoorStableG
import Derived.BigQuiet
import Derived.Deep.RegionHeld3
namespace Go.Proofs.YtbpclifgafafdaaDoor
open Go.RowKit Go.Shelf

/-- What holds throughout See's first region. -/
structure SeG (w0 : World) (gu gc gm q : Nat) (K : Value) (b : Bool) (w : World) : Prop where
  bel : Below w0.heap.size w0 w
  s1 : Bk w w0.heap.size 33 (spC gu gc)
  s2 : Bk w (w0.heap.size + 1) 33 (spC gu gc)
  s : Sp w gu gc gm
  fd : Bk w q 50 (fdC K b)
  us : gu < w0.heap.size ∧ gc < w0.heap.size ∧ gm < w0.heap.size
def nwF (c : List Value) (i : Nat) (v _u : Value) (_w : World) : Prop :=
  match c[i]? with
  | some x => v = x
  | none => True
section
variable {w0 w w' : World} {gu gc gm q : Nat} {K : Value} {b : Bool}
theorem SeG.big (h : SeG w0 gu gc gm q K b w) : w0.heap.size < w.heap.size := h.s1.lt
theorem SeG.next (h : SeG w0 gu gc gm q K b w) (hb : Below w.heap.size w w') : SeG w0 gu gc gm q K b w' :=
  ⟨h.bel.trans (hb.mono (Nat.le_of_lt h.big)), h.s1.bel hb, h.s2.bel hb, h.s.bel hb, h.fd.bel hb, h.us⟩
def seF (gu gc q : Nat) (j : Nat) (v _u : Value) (w : World) : Prop := match j with
  | 0 => v = .pointer (some ⟨q, 0, none⟩)
  | 1 => v = .agg #[.slice (some ⟨gu, 0, none⟩) 1 1, .slice (some ⟨gc, 0, none⟩) 1 1, .slice none 0 0, .slice none 0 0, .slice none 0 0, .slice none 0 0, .int .i64 0]
  | 2 => ∃ p u, v = cloV p u ∧ Mc gu gc p u w
  | 3 => v = .pointer (some ⟨q, 0, none⟩)
  | 4 => v = .agg #[.slice (some ⟨gu, 0, none⟩) 1 1, .slice (some ⟨gc, 0, none⟩) 1 1, .slice none 0 0, .slice none 0 0, .slice none 0 0, .slice none 0 0, .int .i64 0]
  | 5 => ∃ p u, v = cloV p u ∧ Mc gu gc p u w
  | 6 => ∃ p u, v = cloV p u ∧ Mc gu gc p u w
  | 7 => ∃ p u, v = cloV p u ∧ Mc gu gc p u w
  | _ => True
theorem seF_bel (hb : Below w.heap.size w w') : ∀ j u u', seF gu gc q j u u' w → seF gu gc q j u u' w' := by
  intro j u u' h
  unfold seF at *
  split at h <;> first | exact h | (obtain ⟨p, u, hv, h0⟩ := h; exact ⟨p, u, hv, h0.bel hb⟩)
end
/-- What the condition of the loop reads. -/
structure SeW (w1 : World) (gu gc gm p u q gx : Nat) (pos : Int) (t : ByteArray) (K : Value) (b : Bool) (w : World) : Prop where
  bel : Below w1.heap.size w1 w
  s : Sp w gu gc gm
  m : Mc gu gc p u w
  fd : Bk w q 50 (fdC K b)
  e : Bk w gx 38 #[.int .i64 pos, .int .i64 0, .string t]
section
variable {w1 w w' : World} {gu gc gm p u q gx : Nat} {pos : Int} {t : ByteArray} {K : Value} {b : Bool}
theorem SeW.step (h : SeW w1 gu gc gm p u q gx pos t K b w) (hb : Below w.heap.size w w') : SeW w1 gu gc gm p u q gx pos t K b w' := ⟨h.bel.trans (hb.mono h.bel.size), h.s.bel hb, h.m.bel hb, h.fd.bel hb, h.e.bel hb⟩
theorem SeW.drew (h : SeW w1 gu gc gm p u q gx pos t K b w) : SeW w1 gu gc gm p u q gx pos t K b w.drew := h.step (Below.refl _ _).drew
theorem SeW.S (h : SeW w1 gu gc gm p u q gx pos t K b w) : w.cell? ⟨gx, 0, none⟩ = some (.int .i64 pos) ∧ w.cell? ⟨gx, 1, none⟩ = some (.int .i64 0) ∧ w.cell? ⟨gx, 2, none⟩ = some (.string t) ∧ w.cell? ⟨q, 1, none⟩ = some (.int .i64 0) ∧ SeW w1 gu gc gm p u q gx pos t K b w := ⟨h.e.cell 0, h.e.cell 1, h.e.cell 2, fd1 h.fd, h⟩
end
theorem cell_below {w w' : World} {B : Nat} (hb : Below B w w') {g i : Nat} (hg : g < B) {v : Value} (h : w.cell? ⟨g, i, none⟩ = some v) : w'.cell? ⟨g, i, none⟩ = some v := by
  rw [← h]
  exact World.cell?_of_block (w := w) (a := ⟨g, i, none⟩) (hb.block g hg)
set_option maxRecDepth 100000 in
set_option maxHeartbeats 4000000 in
theorem see_any (R : World → Prop) (B gu gc gm q ge n : Nat) (K : Value) (xs : List Value) (b : Bool) (pos : Int) (hp : 0 < pos) (s : ByteArray) (w : World) (hS : Sp w gu gc gm) (hF : Fd B q K n xs b w) (hl : gu < B ∧ gc < B ∧ gm < B) (hge : ge < w.heap.size)
    (he0 : w.cell? ⟨ge, 0, none⟩ = some (.int .i64 pos)) (he1 : w.cell? ⟨ge, 1, none⟩ = some (.int .i64 0)) (he2 : w.cell? ⟨ge, 2, none⟩ = some (.string s))
    (hpush : ∀ w1, Below w.heap.size w w1 → Calls Tryd.prog 13 #[.pointer (some ⟨q, 0, none⟩), .agg #[.int .i64 pos, .int .i64 0, .string s]] w1 fun e w' => e = .returned (.tuple #[]) ∧ R w' ∧ Below B w1 w') :
    Calls Tryd.prog 6 #[.pointer (some ⟨q, 0, none⟩), spV gu gc, spV gu gc, .slice (some ⟨ge, 0, none⟩) 1 1] w fun e w' => e = .returned (.tuple #[]) ∧ R w' ∧ Below B w w' := by
  have hB := hF.big
  have ba := (Below.refl w.heap.size w).alloc (Nat.le_refl _) (.cells (spC gu gc) 33)
  have bb := ba.alloc (by simp) (.cells (spC gu gc) 33)
  have e1 : (w.alloc (.cells (spC gu gc) 33)).heap.size = w.heap.size + 1 := by simp
  have G0 := Lib.hid (show SeG w gu gc gm q K b ((w.alloc (.cells (spC gu gc) 33)).alloc (.cells (spC gu gc) 33)).drew from
    ⟨bb.drew, ((Bk.new w _ _).alloc _).drew, (by rw [← e1]; exact (Bk.new _ _ _).drew), (hS.bel bb).bel (Below.refl _ _).drew, (hF.bk.bel bb).drew, by omega⟩)
  have HP := Lib.hid hpush
  have HB0 := Lib.hid hB
  have HL := Lib.hid hl
  have HGE := Lib.hid hge
  have HE0 := Lib.hid he0
  have HE1 := Lib.hid he1
  have HE2 := Lib.hid he2
  have HPos := Lib.hid hp
  have HFD := Lib.hid hF
  clear ba bb hS hF hl hB hge he0 he1 he2 hpush hp
  unfold spV
  unfold spC at G0 e1
  go_enter Tryd.func6, Tryd.ntmps6
  go_wp2_with fail
  clear e1
  generalize (w.alloc (.cells #[.slice (some ⟨gu, 0, none⟩) 1 1, .slice (some ⟨gc, 0, none⟩) 1 1, .slice none 0 0, .slice none 0 0, .slice none 0 0, .slice none 0 0, .int .i64 0] 33)).alloc (.cells #[.slice (some ⟨gu, 0, none⟩) 1 1, .slice (some ⟨gc, 0, none⟩) 1 1, .slice none 0 0, .slice none 0 0, .slice none 0 0, .slice none 0 0, .int .i64 0] 33) = wr at *
  refine wp_region_late [some 12, some 13, some 14, some 15, some 16, some 17, some 8, some 9] (fun _ => 0) (seF gu gc q) (SeG w gu gc gm q K b) (fun _ _ => True) (by kernel_rfl) G0.out (fun _ _ => trivial) rfl (by kernel_rfl) (by kernel_rfl) (by kernel_rfl) (by kernel_rfl) (fun T hT => ?_)
  simp only [List.filterMap_cons, List.filterMap_nil, id, putsS, Act.put, List.setIfInBounds_toArray, List.set_cons_zero, List.set_cons_succ] at hT
  subst hT
  refine ⟨⟨?_, ?_, ?_, ?_, ?_, ?_, ?_, ?_, trivial⟩, ?_⟩
  · -- 0
    intro f w1 hG hO hL hF K0 hK
    clear hF hO hL
    dsimp only at hK ⊢
    go_simp
    exact hK.out _ _ hG rfl (fun _ _ _ h => h) (fun _ _ h => h)
  · -- 1
    intro f w1 hG hO hL hF K0 hK
    clear hF hO hL
    dsimp only at hK ⊢
    have y0 : w1.cell? ⟨w.heap.size, 0, none⟩ = some (.slice (some ⟨gu, 0, none⟩) 1 1) := hG.s1.cell 0
    have y1 : w1.cell? ⟨w.heap.size, 1, none⟩ = some (.slice (some ⟨gc, 0, none⟩) 1 1) := hG.s1.cell 1
    have y2 : w1.cell? ⟨w.heap.size, 2, none⟩ = some (.slice none 0 0) := hG.s1.cell 2
    have y3 : w1.cell? ⟨w.heap.size, 3, none⟩ = some (.slice none 0 0) := hG.s1.cell 3
    have y4 : w1.cell? ⟨w.heap.size, 4, none⟩ = some (.slice none 0 0) := hG.s1.cell 4
    have y5 : w1.cell? ⟨w.heap.size, 5, none⟩ = some (.slice none 0 0) := hG.s1.cell 5
    have y6 : w1.cell? ⟨w.heap.size, 6, none⟩ = some (.int .i64 0) := hG.s1.cell 6
    go_simp
    exact hK.out _ _ hG rfl (fun _ _ _ h => h) (fun _ _ h => h)
  · -- 2
    intro f w1 hG hO hL hF K0 hK
    have d0 : (seF gu gc q) 0 (f 12) (f 0) w1 := hF 0 (by kernel_rfl)
    have d1 : (seF gu gc q) 1 (f 13) (f 0) w1 := hF 1 (by kernel_rfl)
    clear hF hO hL
    dsimp only at hK ⊢
    generalize hf12 : f 12 = v12 at *
    generalize hf13 : f 13 = v13 at *
    subst d0
    subst d1
    go_simp
    refine (membership_any gu gc gm q K b w1 hG.s hG.fd (by have := hG.us; have := hG.big; omega)).mono ?_
    rintro e w2 ⟨⟨p, u, rfl, hm⟩, hb⟩
    exact hK.out _ _ (hG.next hb) ⟨p, u, rfl, hm⟩ (fun j _ _ h => seF_bel hb j _ _ h) (fun _ _ h => h)
  · -- 3
    intro f w1 hG hO hL hF K0 hK
    clear hF hO hL
    dsimp only at hK ⊢
    go_simp
    exact hK.out _ _ hG rfl (fun _ _ _ h => h) (fun _ _ h => h)
  · -- 4
    intro f w1 hG hO hL hF K0 hK
    clear hF hO hL
    dsimp only at hK ⊢
    have y0 : w1.cell? ⟨w.heap.size + 1, 0, none⟩ = some (.slice (some ⟨gu, 0, none⟩) 1 1) := hG.s2.cell 0
    have y1 : w1.cell? ⟨w.heap.size + 1, 1, none⟩ = some (.slice (some ⟨gc, 0, none⟩) 1 1) := hG.s2.cell 1
    have y2 : w1.cell? ⟨w.heap.size + 1, 2, none⟩ = some (.slice none 0 0) := hG.s2.cell 2
    have y3 : w1.cell? ⟨w.heap.size + 1, 3, none⟩ = some (.slice none 0 0) := hG.s2.cell 3
    have y4 : w1.cell? ⟨w.heap.size + 1, 4, none⟩ = some (.slice none 0 0) := hG.s2.cell 4
    have y5 : w1.cell? ⟨w.heap.size + 1, 5, none⟩ = some (.slice none 0 0) := hG.s2.cell 5
    have y6 : w1.cell? ⟨w.heap.size + 1, 6, none⟩ = some (.int .i64 0) := hG.s2.cell 6
    go_simp
    exact hK.out _ _ hG rfl (fun _ _ _ h => h) (fun _ _ h => h)
  · -- 5
    intro f w1 hG hO hL hF K0 hK
    have d3 : (seF gu gc q) 3 (f 15) (f 0) w1 := hF 3 (by kernel_rfl)
    have d4 : (seF gu gc q) 4 (f 16) (f 0) w1 := hF 4 (by kernel_rfl)
    clear hF hO hL
    dsimp only at hK ⊢
    generalize hf15 : f 15 = v15 at *
    generalize hf16 : f 16 = v16 at *
    subst d3
    subst d4
    go_simp
    refine (membership_any gu gc gm q K b w1 hG.s hG.fd (by have := hG.us; have := hG.big; omega)).mono ?_
    rintro e w2 ⟨⟨p, u, rfl, hm⟩, hb⟩
    exact hK.out _ _ (hG.next hb) ⟨p, u, rfl, hm⟩ (fun j _ _ h => seF_bel hb j _ _ h) (fun _ _ h => h)
  · -- 6
    intro f w1 hG hO hL hF K0 hK
    have d2 : (seF gu gc q) 2 (f 14) (f 0) w1 := hF 2 (by kernel_rfl)
    clear hF hO hL
    dsimp only at hK ⊢
    generalize hf14 : f 14 = v14 at *
    obtain ⟨p, u, rfl, hm⟩ := d2
    unfold cloV
    go_simp
    exact hK.out _ _ hG ⟨p, u, rfl, hm⟩ (fun _ _ _ h => h) (fun _ _ h => h)
  · -- 7
    intro f w1 hG hO hL hF K0 hK
    have d5 : (seF gu gc q) 5 (f 17) (f 0) w1 := hF 5 (by kernel_rfl)
    clear hF hO hL
    dsimp only at hK ⊢
    generalize hf17 : f 17 = v17 at *
    obtain ⟨p, u, rfl, hm⟩ := d5
    unfold cloV
    go_simp
    exact hK.out _ _ hG ⟨p, u, rfl, hm⟩ (fun _ _ _ h => h) (fun _ _ h => h)
  intro f w6 hG hF
  obtain ⟨p, u, g1, g2⟩ : seF gu gc q 6 (f 8) (f 0) w6 := hF 6 (by decide)
  obtain ⟨p', u', g3, g4⟩ : seF gu gc q 7 (f 9) (f 0) w6 := hF 7 (by decide)
  have HG := Lib.hid hG
  have HM := Lib.hid g2
  clear hF hG g2 g4 G0
  dsimp only
  rw [g1, g3]
  unfold cloV
  generalize f 12 = v12
  generalize f 13 = v13
  generalize f 14 = v14
  generalize f 15 = v15
  generalize f 16 = v16
  generalize f 17 = v17
  go_wp2_with fail
  go_loopw [20] (fun i wr => (i = .int .i64 0 ∧ wr = w6) ∨ (i = .int .i64 1 ∧ R wr ∧ Below B w wr)) (fun i _ => 1 - (intOf i).toNat)
  case atStart => exact .inl ⟨rfl, rfl⟩
  case round =>
    rcases hrel with ⟨rfl, rfl⟩ | ⟨rfl, hR, hb⟩
    · have z0 := cell_below HG.out.bel HGE.out HE0.out
      have z1 := cell_below HG.out.bel HGE.out HE1.out
      have z2 := cell_below HG.out.bel HGE.out HE2.out
      go_wp2_with fail
      have ba := (Below.refl wr.heap.size wr).alloc (Nat.le_refl _) (.cells #[.int .i64 pos, .int .i64 0, .string s] 38)
      have C0 := Lib.hid (show SeW (wr.alloc (.cells #[.int .i64 pos, .int .i64 0, .string s] 38)) gu gc gm p u q wr.heap.size pos s K b (wr.alloc (.cells #[.int .i64 pos, .int .i64 0, .string s] 38)) from
        ⟨Below.refl _ _, HG.out.s.bel ba, HM.out.bel ba, HG.out.fd.bel ba, Bk.new wr _ _⟩)
      have B8 := Lib.hid (HG.out.bel.trans (ba.mono (Nat.le_of_lt HG.out.big)))
      clear ba z0 z1 z2
      generalize wr.alloc (.cells #[.int .i64 pos, .int .i64 0, .string s] 38) = w8 at *
      have hS := C0.out.S
      have hd : decide ((0 : Int) < pos) = true := decide_eq_true HPos.out
      clear hS
      refine wp_region_guarded [some 24, some 25, some 26, some 27, some 28, some 29, some 30, some 31, some 32, some 33, some 34, some 35, some 36, some 37, some 38, some 39, some 40, some 41, some 42] (fun _ => 0) (nwF [.pointer (some ⟨wr.heap.size, 0, none⟩), .int .i64 pos, .pointer (some ⟨q, 0, none⟩), .pointer (some ⟨q, 0, none⟩), .pointer (some ⟨q, 1, none⟩), .int .i64 0, .bool true, .bool true, .func (.func 23) #[] #[.pointer (some ⟨p, 0, none⟩), .pointer (some ⟨u, 0, none⟩)], .pointer (some ⟨wr.heap.size, 1, none⟩), .int .i64 0, .bool true, .bool true, undef, undef, undef, undef, .bool true, .bool true]) (SeW w8 gu gc gm p u q wr.heap.size pos s K b) (by kernel_rfl) C0.out.drew rfl (by kernel_rfl) (by kernel_rfl) (by kernel_rfl) (fun T hT => ?_)
      simp only [List.filterMap_cons, List.filterMap_nil, id, putsS, Act.put, List.setIfInBounds_toArray, List.set_cons_zero, List.set_cons_succ] at hT
      subst hT
      refine ⟨⟨?_, ?_, ?_, ?_, ?_, ?_, ?_, ?_, ?_, ?_, ?_, ?_, ?_, ?_, ?_, ?_, ?_, ?_, ?_, trivial⟩, ?_⟩
      · refine StepA.guarded rfl ?_
        intro f w1 hG hF K0 hK
        clear hF
        dsimp only at hK ⊢
        go_simp
        exact hK.out _ _ hG rfl (fun _ _ _ h => h)
      · refine StepA.guarded rfl ?_
        intro f w1 hG hF K0 hK
        have d0 : f 24 = .pointer (some ⟨wr.heap.size, 0, none⟩) := hF 0 (by kernel_rfl)
        clear hF
        dsimp only at hK ⊢
        generalize f 24 = v24 at *
        subst d0
        have y0 : w1.cell? ⟨wr.heap.size, 0, none⟩ = some (.int .i64 pos) := hG.e.cell 0
        go_simp
        exact hK.out _ _ hG rfl (fun _ _ _ h => h)
      · refine StepA.guarded rfl ?_
        intro f w1 hG hF K0 hK
        clear hF
        dsimp only at hK ⊢
        go_simp
        exact hK.out _ _ hG rfl (fun _ _ _ h => h)
      · refine StepA.guarded rfl ?_
        intro f w1 hG hF K0 hK
        have d2 : f 26 = .pointer (some ⟨q, 0, none⟩) := hF 2 (by kernel_rfl)
        clear hF
        dsimp only at hK ⊢
        generalize f 26 = v26 at *
        subst d2
        go_simp
        exact hK.out _ _ hG rfl (fun _ _ _ h => h)
      · refine StepA.guarded rfl ?_
        intro f w1 hG hF K0 hK
        have d3 : f 27 = .pointer (some ⟨q, 0, none⟩) := hF 3 (by kernel_rfl)
        clear hF
        dsimp only at hK ⊢
        generalize f 27 = v27 at *
        subst d3
        go_simp
        exact hK.out _ _ hG rfl (fun _ _ _ h => h)
      · refine StepA.guarded rfl ?_
        intro f w1 hG hF K0 hK
        have d4 : f 28 = .pointer (some ⟨q, 1, none⟩) := hF 4 (by kernel_rfl)
        clear hF
        dsimp only at hK ⊢
        generalize f 28 = v28 at *
        subst d4
        have y0 : w1.cell? ⟨q, 1, none⟩ = some (.int .i64 0) := fd1 hG.fd
        go_simp
        exact hK.out _ _ hG rfl (fun _ _ _ h => h)
      · refine StepA.guarded rfl ?_
        intro f w1 hG hF K0 hK
        have d1 : f 25 = .int .i64 pos := hF 1 (by kernel_rfl)
        have d5 : f 29 = .int .i64 0 := hF 5 (by kernel_rfl)
        clear hF
        dsimp only at hK ⊢
        generalize f 25 = v25 at *
        generalize f 29 = v29 at *
        subst d1
        subst d5
        go_simp
        exact hK.out _ _ hG rfl (fun _ _ _ h => h)
      · refine StepA.guarded rfl ?_
        intro f w1 hG hF K0 hK
        have d6 : f 30 = .bool true := hF 6 (by kernel_rfl)
        clear hF
        dsimp only at hK ⊢
        generalize f 30 = v30 at *
        subst d6
        go_simp
        exact hK.out _ _ hG rfl (fun _ _ _ h => h)
      · intro f w1 hG hF K0 hK
        have d7 : f 31 = .bool true := hF 7 (by kernel_rfl)
        clear hF
        rw [if_pos (by rw [wanted_val (g := 7) (d := 31) (b := true) (c := true) rfl (by kernel_rfl) (show some (f 31) = some (.bool true) from congrArg some d7)]; rfl)]
        dsimp only at hK ⊢
        generalize f 31 = v31 at *
        subst d7
        go_simp
        exact hK.out _ _ hG rfl (fun _ _ _ h => h)
      · intro f w1 hG hF K0 hK
        have d7 : f 31 = .bool true := hF 7 (by kernel_rfl)
        clear hF
        rw [if_pos (by rw [wanted_val (g := 7) (d := 31) (b := true) (c := true) rfl (by kernel_rfl) (show some (f 31) = some (.bool true) from congrArg some d7)]; rfl)]
        dsimp only at hK ⊢
        generalize f 31 = v31 at *
        subst d7
        go_simp
        exact hK.out _ _ hG rfl (fun _ _ _ h => h)
      · intro f w1 hG hF K0 hK
        have d7 : f 31 = .bool true := hF 7 (by kernel_rfl)
        have d9 : f 33 = .pointer (some ⟨wr.heap.size, 1, none⟩) := hF 9 (by kernel_rfl)
        clear hF
        rw [if_pos (by rw [wanted_val (g := 7) (d := 31) (b := true) (c := true) rfl (by kernel_rfl) (show some (f 31) = some (.bool true) from congrArg some d7)]; rfl)]
        dsimp only at hK ⊢
        generalize f 31 = v31 at *
        generalize f 33 = v33 at *
        subst d7
        subst d9
        have y0 : w1.cell? ⟨wr.heap.size, 1, none⟩ = some (.int .i64 0) := hG.e.cell 1
        go_simp
        exact hK.out _ _ hG rfl (fun _ _ _ h => h)
      · intro f w1 hG hF K0 hK
        have d7 : f 31 = .bool true := hF 7 (by kernel_rfl)
        have d8 : f 32 = .func (.func 23) #[] #[.pointer (some ⟨p, 0, none⟩), .pointer (some ⟨u, 0, none⟩)] := hF 8 (by kernel_rfl)
        have d10 : f 34 = .int .i64 0 := hF 10 (by kernel_rfl)
        clear hF
        rw [if_pos (by rw [wanted_val (g := 7) (d := 31) (b := true) (c := true) rfl (by kernel_rfl) (show some (f 31) = some (.bool true) from congrArg some d7)]; rfl)]
        dsimp only at hK ⊢
        generalize f 31 = v31 at *
        generalize f 32 = v32 at *
        generalize f 34 = v34 at *
        subst d7
        subst d8
        subst d10
        go_simp
        refine (clo_any gu gc gm p u w1 hG.s hG.m).mono ?_
        rintro e w20 ⟨rfl, hb⟩
        exact hK.out _ _ (hG.step hb) rfl (fun _ _ _ h => h)
      · intro f w1 hG hF K0 hK
        have d7 : f 31 = .bool true := hF 7 (by kernel_rfl)
        have d11 : f 35 = .bool true := hF 11 (by kernel_rfl)
        clear hF
        rw [if_pos (by rw [wanted_val (g := 7) (d := 31) (b := true) (c := true) rfl (by kernel_rfl) (show some (f 31) = some (.bool true) from congrArg some d7)]; rfl)]
        dsimp only at hK ⊢
        generalize f 31 = v31 at *
        generalize f 35 = v35 at *
        subst d7
        subst d11
        go_simp
        exact hK.out _ _ hG rfl (fun _ _ _ h => h)
      · intro f w1 hG hF K0 hK
        have d12 : f 36 = .bool true := hF 12 (by kernel_rfl)
        clear hF
        rw [if_neg (by rw [wanted_val (g := 12) (d := 36) (b := false) (c := true) rfl (by kernel_rfl) (show some (f 36) = some (.bool true) from congrArg some d12)]; decide)]
        exact hK.out _ _ hG rfl (fun _ _ _ h => h)
      · intro f w1 hG hF K0 hK
        have d12 : f 36 = .bool true := hF 12 (by kernel_rfl)
        clear hF
        rw [if_neg (by rw [wanted_val (g := 12) (d := 36) (b := false) (c := true) rfl (by kernel_rfl) (show some (f 36) = some (.bool true) from congrArg some d12)]; decide)]
        exact hK.out _ _ hG rfl (fun _ _ _ h => h)
      · intro f w1 hG hF K0 hK
        have d12 : f 36 = .bool true := hF 12 (by kernel_rfl)
        clear hF
        rw [if_neg (by rw [wanted_val (g := 12) (d := 36) (b := false) (c := true) rfl (by kernel_rfl) (show some (f 36) = some (.bool true) from congrArg some d12)]; decide)]
        exact hK.out _ _ hG rfl (fun _ _ _ h => h)
      · intro f w1 hG hF K0 hK
        have d12 : f 36 = .bool true := hF 12 (by kernel_rfl)
        clear hF
        rw [if_neg (by rw [wanted_val (g := 12) (d := 36) (b := false) (c := true) rfl (by kernel_rfl) (show some (f 36) = some (.bool true) from congrArg some d12)]; decide)]
        exact hK.out _ _ hG rfl (fun _ _ _ h => h)
      · intro f w1 hG hF K0 hK
        have d7 : f 31 = .bool true := hF 7 (by kernel_rfl)
        have d12 : f 36 = .bool true := hF 12 (by kernel_rfl)
        have d16 : f 40 = undef := hF 16 (by kernel_rfl)
        clear hF
        rw [if_pos (by rw [wanted_val (g := 7) (d := 31) (b := true) (c := true) rfl (by kernel_rfl) (show some (f 31) = some (.bool true) from congrArg some d7)]; rfl)]
        dsimp only at hK ⊢
        generalize f 31 = v31 at *
        generalize f 36 = v36 at *
        generalize f 40 = v40 at *
        subst d7
        subst d12
        subst d16
        go_simp
        exact hK.out _ _ hG rfl (fun _ _ _ h => h)
      · refine StepA.guarded rfl ?_
        intro f w1 hG hF K0 hK
        have d7 : f 31 = .bool true := hF 7 (by kernel_rfl)
        have d17 : f 41 = .bool true := hF 17 (by kernel_rfl)
        clear hF
        dsimp only at hK ⊢
        generalize f 31 = v31 at *
        generalize f 41 = v41 at *
        subst d7
        subst d17
        go_simp
        exact hK.out _ _ hG rfl (fun _ _ _ h => h)
      intro f w7 hG7 hF7
      have d18 : f 42 = .bool true := hF7 18 (by decide)
      have hS7 := hG7.S
      have C7 := Lib.hid hG7
      clear hF7 hG7
      dsimp only
      rw [d18]
      generalize f 24 = x24
      generalize f 25 = x25
      generalize f 26 = x26
      generalize f 27 = x27
      generalize f 28 = x28
      generalize f 29 = x29
      generalize f 30 = x30
      generalize f 31 = x31
      generalize f 32 = x32
      generalize f 33 = x33
      generalize f 34 = x34
      generalize f 35 = x35
      generalize f 36 = x36
      generalize f 37 = x37
      generalize f 38 = x38
      generalize f 39 = x39
      generalize f 40 = x40
      generalize f 41 = x41
      obtain ⟨e0, e1, e2, e3, _⟩ := hS7
      go_wp2_with fail
      have B7 := Lib.hid (B8.out.trans (C7.out.bel.mono B8.out.size))
      refine (HP.out _ B7.out).mono ?_
      rintro e w9 ⟨rfl, hR, hb9⟩
      have HR9 := Lib.hid hR
      have H9 := Lib.hid ((B7.out.mono HB0.out).trans hb9)
      clear hR hb9 e0 e1 e2 e3 hd
      dsimp only
      go_wp2_with fail
      exact ⟨.inr ⟨rfl, HR9.out, H9.out⟩, by simp [intOf]⟩
    · go_wp2_with fail
      go_end0
      exact ⟨rfl, hR, hb⟩
end Go.Proofs.YtbpclifgafafdaaDoor
