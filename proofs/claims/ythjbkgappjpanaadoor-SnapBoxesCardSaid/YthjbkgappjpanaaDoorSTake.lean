/- A piece put into a box. Condition: the box lies in memory, the piece is one that it takes. -/
import Derived.Test.YthjbkgappjpanaaDoorSMiss
import Derived.Test.YthjbkgappjpanaaDoorStable
import Derived.Test.YthjbkgappjpanaaDoorSClone
import Derived.WalkLawsBesides
namespace Go.Proofs.YthjbkgappjpanaaDoor
open Go.RowKit

/-- A region that stores into block g: the piece's own block p lies still, of the box only the cells in S have changed. -/
structure TkW (w0 : World) (p g : Nat) (pc : Array Value) (F0 : Nat → Value) (S : Nat → Prop) (w : World) : Prop where
  bk : Bk w p 32 pc
  onl : Onl g w0 w
  box : ∃ F, Bx w g F ∧ ∀ i, i < 202 → ¬ S i → F i = F0 i
theorem TkW.store {w0 w : World} {p g : Nat} {pc : Array Value} {F0 : Nat → Value} {S : Nat → Prop} (h : TkW w0 p g pc F0 S w) (hp : p ≠ g) (i : Nat) (hi : i < 202) (hS : S i) (v : Value) : TkW w0 p g pc F0 S (w.setCell ⟨g, i, none⟩ v) := by
  obtain ⟨F, hb, he⟩ := h.box
  refine ⟨bk_onl h.bk (Onl.set w g i v) hp, h.onl.trans (Onl.set w g i v), _, hb.put i hi v, fun k hk hn => ?_⟩
  unfold updF
  by_cases e : k = i
  · subst e; exact absurd hS hn
  · rw [if_neg e, he k hk hn]
theorem TkW.bel {w0 w w' : World} {p g : Nat} {pc : Array Value} {F0 : Nat → Value} {S : Nat → Prop} (h : TkW w0 p g pc F0 S w) (hb : Below w.heap.size w w') : TkW w0 p g pc F0 S w' := by
  obtain ⟨F, hx, he⟩ := h.box
  exact ⟨h.bk.bel hb, h.onl.trans (Onl.of_below hb), F, hx.bel hb, he⟩
theorem TkW.old {w0 w : World} {p g : Nat} {pc : Array Value} {F0 : Nat → Value} {S : Nat → Prop} (h : TkW w0 p g pc F0 S w) (i : Nat) (hi : i < 202) : (∃ x, w.cell? ⟨g, i, none⟩ = some x) ∧ w.frozen? ⟨g, i, none⟩ = false := by
  obtain ⟨F, hx, _⟩ := h.box
  exact ⟨⟨_, hx.cell i hi⟩, hx.frozen i⟩
theorem set_at {w : World} {g i : Nat} {x v : Value} (h : w.cell? ⟨g, i, none⟩ = some x) : (w.setCell ⟨g, i, none⟩ v).cell? ⟨g, i, none⟩ = some v := World.cell?_setCell_same' w _ v (by rw [h]; rfl)
theorem set_by {w : World} {g i k : Nat} {v : Value} (h : i ≠ k) : (w.setCell ⟨g, i, none⟩ v).cell? ⟨g, k, none⟩ = w.cell? ⟨g, k, none⟩ := by
  apply World.cell?_setCell_other
  intro e
  injection e with _ e
  exact h e
def tk4 (p g : Nat) (t c : Int) (i : Nat) (v _u : Value) (w : World) : Prop := match i with
  | 0 => v = .pointer (some ⟨g, 0, none⟩)
  | 1 => v = .pointer (some ⟨g, 0, none⟩)
  | 2 => v = .pointer (some ⟨p, 1, none⟩)
  | 3 => v = .int .i64 t
  | 4 => v = .pointer (some ⟨p, 2, none⟩)
  | 5 => v = .int .u32 c
  | 6 => v = .pointer (some ⟨g, 0, none⟩)
  | 7 => v = .pointer (some ⟨g, 0, none⟩)
  | 8 => w.cell? ⟨g, 0, none⟩ = some (.int .i64 t)
  | 9 => v = .pointer (some ⟨g, 0, none⟩)
  | 10 => v = .pointer (some ⟨g, 1, none⟩)
  | 11 => w.cell? ⟨g, 1, none⟩ = some (.int .u32 c)
  | _ => True
theorem tk4_set0 {p g : Nat} {t c : Int} {w : World} {x : Value} : ∀ j, j ≠ 8 → ∀ u u', tk4 p g t c j u u' w → tk4 p g t c j u u' (w.setCell ⟨g, 0, none⟩ x) := by
  intro j hj u u' h
  unfold tk4 at *
  split at h <;> first | exact h | exact absurd rfl hj | (rw [set_by (by decide)]; exact h)
theorem tk4_set1 {p g : Nat} {t c : Int} {w : World} {x : Value} : ∀ j, j ≠ 11 → ∀ u u', tk4 p g t c j u u' w → tk4 p g t c j u u' (w.setCell ⟨g, 1, none⟩ x) := by
  intro j hj u u' h
  unfold tk4 at *
  split at h <;> first | exact h | exact absurd rfl hj | (rw [set_by (by decide)]; exact h)
def tk5 (p g i0 : Nat) (i : Nat) (v _u : Value) (w : World) : Prop := match i with
  | 0 => v = .pointer (some ⟨g, 0, none⟩)
  | 1 => v = .pointer (some ⟨p, 0, none⟩)
  | 2 => v = .int .i64 (i0 : Int)
  | 3 => v = .pointer (some ⟨g, 0, none⟩)
  | 4 => v = .pointer (some ⟨g, 2, none⟩)
  | 5 => v = .pointer (some ⟨g, 2 + i0, none⟩)
  | 6 => w.cell? ⟨g, 2 + i0, none⟩ = some (.bool true)
  | _ => True
theorem tk5_set {p g i0 : Nat} {w w' : World} : ∀ j, j ≠ 6 → ∀ u u', tk5 p g i0 j u u' w → tk5 p g i0 j u u' w' := by
  intro j hj u u' h
  unfold tk5 at *
  split at h <;> first | exact h | exact absurd rfl hj
def tk6 (p g i0 : Nat) (d : ByteArray) (i : Nat) (v _u : Value) (w : World) : Prop := match i with
  | 0 => v = .pointer (some ⟨g, 0, none⟩)
  | 1 => v = .pointer (some ⟨p, 0, none⟩)
  | 2 => v = .int .i64 (i0 : Int)
  | 3 => v = .pointer (some ⟨p, 3, none⟩)
  | 4 => v = .string d
  | 5 => v = .string d
  | 6 => v = .pointer (some ⟨g, 0, none⟩)
  | 7 => v = .pointer (some ⟨g, 102, none⟩)
  | 8 => v = .pointer (some ⟨g, 102 + i0, none⟩)
  | 9 => w.cell? ⟨g, 102 + i0, none⟩ = some (.string d)
  | _ => True
theorem tk6_set {p g i0 : Nat} {d : ByteArray} {w w' : World} : ∀ j, j ≠ 9 → ∀ u u', tk6 p g i0 d j u u' w → tk6 p g i0 d j u u' w' := by
  intro j hj u u' h
  unfold tk6 at *
  split at h <;> first | exact h | exact absurd rfl hj
theorem tk6_bel {p g i0 : Nat} {d : ByteArray} {w w' : World} (hg : g < w.heap.size) (hb : Below w.heap.size w w') : ∀ j u u', tk6 p g i0 d j u u' w → tk6 p g i0 d j u u' w' := by
  intro j u u' h
  by_cases hj : j = 9
  · subst hj
    exact (hb.cell (p := ⟨g, 102 + i0, none⟩) hg).trans h
  · exact tk6_set j hj u u' h
def updT (th : Nat → Bool) (i : Nat) : Nat → Bool := fun k => if k = i then true else th k
def updD (dt : Nat → ByteArray) (i : Nat) (d : ByteArray) : Nat → ByteArray := fun k => if k = i then d else dt k
/-- The cells behind the three regions. -/
theorem bx_taken {F0 F1 F2 F3 : Nat → Value} {T sm t c i : Nat} {th : Nat → Bool} {dt : Nat → ByteArray} {d : ByteArray} (hi : i < 100) (h0 : ∀ k, k < 202 → F0 k = bxC T sm th dt k)
    (h1 : ∀ k, k < 202 → ¬ k < 2 → F1 k = F0 k) (a0 : F1 0 = .int .i64 (t : Int)) (a1 : F1 1 = .int .u32 (c : Int))
    (h2 : ∀ k, k < 202 → ¬ k = 2 + i → F2 k = F1 k) (b : F2 (2 + i) = .bool true) (h3 : ∀ k, k < 202 → ¬ k = 102 + i → F3 k = F2 k) (e : F3 (102 + i) = .string d) :
    ∀ k, k < 202 → F3 k = bxC t c (updT th i) (updD dt i d) k := by
  intro k hk
  by_cases k3 : k = 102 + i
  · subst k3; rw [bx_data, e]; simp [updD]
  rw [h3 k hk k3]
  by_cases k2 : k = 2 + i
  · subst k2; rw [bx_there i hi, b]; simp [updT]
  rw [h2 k hk k2]
  by_cases k0 : k = 0
  · subst k0; rw [a0]; rfl
  by_cases k1 : k = 1
  · subst k1; rw [a1]; rfl
  rw [h1 k hk (by omega), h0 k hk]
  unfold bxC updT updD
  rw [if_neg k0, if_neg k1, if_neg k0, if_neg k1]
  by_cases k4 : k < 102
  · rw [if_pos k4, if_pos k4, if_neg (by omega)]
  · rw [if_neg k4, if_neg k4, if_neg (by omega)]
set_option maxRecDepth 100000 in
set_option maxHeartbeats 1000000 in
theorem take_ok (g T sm : Nat) (th : Nat → Bool) (dt : Nat → ByteArray) (i t c : Nat) (d : ByteArray) (w : World) (hB : Bx w g (bxC T sm th dt)) (h1 : 1 ≤ t) (h2 : t ≤ 100) (h3 : i < t) (h4 : d.size ≤ 4000) (hc : chkOk T sm th dt i t c d = 0) :
    Calls Tryd.prog 11 #[.pointer (some ⟨g, 0, none⟩), .agg #[.int .i64 (i : Int), .int .i64 (t : Int), .int .u32 (c : Int), .string d]] w fun e w' => e = .returned (.tuple #[.bool (decide ((missN (updT th i) t).length = 0)), .int .i64 0]) ∧ Bx w' g (bxC t c (updT th i) (updD dt i d)) ∧ Onl g w w' := by
  obtain ⟨p, hp⟩ : ∃ p, p = w.heap.size := ⟨_, rfl⟩
  obtain ⟨w1, hw1⟩ : ∃ w1, w1 = w.alloc (.cells #[.int .i64 (i : Int), .int .i64 (t : Int), .int .u32 (c : Int), .string d] 32) := ⟨_, rfl⟩
  have X1 : Bk w1 w.heap.size 32 #[.int .i64 (i : Int), .int .i64 (t : Int), .int .u32 (c : Int), .string d] := by rw [hw1]; exact Bk.new w _ _
  have HB := Lib.hid (show Below w.heap.size w w1 by rw [hw1]; exact (Below.refl w.heap.size w).alloc (Nat.le_refl _) _)
  have BX := Lib.hid (hB.bel HB.out)
  have x0 := X1.cell 0
  have x1 := X1.cell 1
  have x2 := X1.cell 2
  have x3 := X1.cell 3
  simp only [List.getElem?_toArray, List.getElem?_cons_zero, List.getElem?_cons_succ] at x0 x1 x2 x3
  have hpg : w.heap.size ≠ g := by have := hB.lt; omega
  have HX1 := Lib.hid X1
  have C1 := Lib.hid (check_good g T sm th dt i t c d w1 BX.out h1 h2 h3 h4)
  rw [hc] at C1
  have HW := Lib.hid hw1
  clear hB hw1 X1 hc hp
  go_enter Tryd.func11, Tryd.ntmps11
  go_wp2_with fail
  rw [← HW.out]
  go_wp2_with fail
  refine C1.out.mono ?_
  rintro e w2 ⟨rfl, hb2⟩
  have H4 := Lib.hid (show TkW w w.heap.size g #[.int .i64 (i : Int), .int .i64 (t : Int), .int .u32 (c : Int), .string d] (bxC T sm th dt) (fun k => k < 2) w2.drew from ⟨(HX1.out.bel hb2).drew, ((Onl.of_below HB.out).trans (Onl.of_below hb2)).drew, _, bx_drew (BX.out.bel hb2), fun _ _ _ => rfl⟩)
  clear hb2 C1 BX HX1 HB x0 x1 x2 x3
  go_wp2_with fail
  refine wp_region_list [some 13, some 14, some 15, some 16, some 17, some 18, some 19, some 20, none, some 21, some 22, none] (fun _ => 0) (tk4 w.heap.size g (t : Int) (c : Int)) (TkW w w.heap.size g #[.int .i64 (i : Int), .int .i64 (t : Int), .int .u32 (c : Int), .string d] (bxC T sm th dt) (fun k => k < 2)) (by kernel_rfl) H4.out rfl (by kernel_rfl) (by kernel_rfl) (by kernel_rfl) (by kernel_rfl) (fun T hT => ?_)
  simp only [List.filterMap_cons, List.filterMap_nil, id, putsS, Act.put, List.setIfInBounds_toArray, List.set_cons_zero, List.set_cons_succ] at hT
  subst hT
  refine ⟨⟨?_, ?_, ?_, ?_, ?_, ?_, ?_, ?_, ?_, ?_, ?_, ?_, trivial⟩, ?_⟩
  · -- 0: Op.move t0
    refine StepL.act ?_
    intro f w1 hG hF K hK
    clear hF
    dsimp only at hK ⊢
    go_simp
    exact hK.out _ _ hG rfl (fun _ _ _ _ h => h)
  · -- 1: Op.move t0
    refine StepL.act ?_
    intro f w1 hG hF K hK
    clear hF
    dsimp only at hK ⊢
    go_simp
    exact hK.out _ _ hG rfl (fun _ _ _ _ h => h)
  · -- 2: Op.fieldAddr 32 t3 1
    refine StepL.act ?_
    intro f w1 hG hF K hK
    clear hF
    dsimp only at hK ⊢
    go_simp
    exact hK.out _ _ hG rfl (fun _ _ _ _ h => h)
  · -- 3: Op.load 3 t15
    refine StepL.act ?_
    intro f w1 hG hF K hK
    have d2 : (tk4 w.heap.size g (t : Int) (c : Int)) 2 (f 15) (f 0) w1 := hF 2 (by kernel_rfl)
    clear hF
    dsimp only at hK ⊢
    generalize f 15 = v15 at *
    subst d2
    have y := hG.bk.cell 1
    simp only [List.getElem?_toArray, List.getElem?_cons_zero, List.getElem?_cons_succ] at y
    go_simp
    exact hK.out _ _ hG rfl (fun _ _ _ _ h => h)
  · -- 4: Op.fieldAddr 32 t3 2
    refine StepL.act ?_
    intro f w1 hG hF K hK
    clear hF
    dsimp only at hK ⊢
    go_simp
    exact hK.out _ _ hG rfl (fun _ _ _ _ h => h)
  · -- 5: Op.load 30 t17
    refine StepL.act ?_
    intro f w1 hG hF K hK
    have d4 : (tk4 w.heap.size g (t : Int) (c : Int)) 4 (f 17) (f 0) w1 := hF 4 (by kernel_rfl)
    clear hF
    dsimp only at hK ⊢
    generalize f 17 = v17 at *
    subst d4
    have y := hG.bk.cell 2
    simp only [List.getElem?_toArray, List.getElem?_cons_zero, List.getElem?_cons_succ] at y
    go_simp
    exact hK.out _ _ hG rfl (fun _ _ _ _ h => h)
  · -- 6: Op.nilCheck t13
    refine StepL.act ?_
    intro f w1 hG hF K hK
    have d0 : (tk4 w.heap.size g (t : Int) (c : Int)) 0 (f 13) (f 0) w1 := hF 0 (by kernel_rfl)
    clear hF
    dsimp only at hK ⊢
    generalize f 13 = v13 at *
    subst d0
    go_simp
    exact hK.out _ _ hG rfl (fun _ _ _ _ h => h)
  · -- 7: Op.fieldAddr 38 t19 0
    refine StepL.act ?_
    intro f w1 hG hF K hK
    have d6 : (tk4 w.heap.size g (t : Int) (c : Int)) 6 (f 19) (f 0) w1 := hF 6 (by kernel_rfl)
    clear hF
    dsimp only at hK ⊢
    generalize f 19 = v19 at *
    subst d6
    go_simp
    exact hK.out _ _ hG rfl (fun _ _ _ _ h => h)
  · -- 8: Op.store 3 t20 t16
    refine StepL.act ?_
    intro f w1 hG hF K hK
    have d7 : (tk4 w.heap.size g (t : Int) (c : Int)) 7 (f 20) (f 0) w1 := hF 7 (by kernel_rfl)
    have d3 : (tk4 w.heap.size g (t : Int) (c : Int)) 3 (f 16) (f 0) w1 := hF 3 (by kernel_rfl)
    clear hF
    dsimp only at hK ⊢
    generalize f 20 = v20 at *
    generalize f 16 = v16 at *
    subst d7 d3
    obtain ⟨⟨x, hx⟩, hfz⟩ := hG.old (0) (by omega)
    have HG := Lib.hid hG
    clear hG
    go_simp
    exact hK.out undef _ (HG.out.store hpg (0) (by omega) (by decide) (.int .i64 (t : Int))) (set_at hx) (fun j hj u u' h => tk4_set0 j hj u u' h)
  · -- 9: Op.nilCheck t14
    refine StepL.act ?_
    intro f w1 hG hF K hK
    have d1 : (tk4 w.heap.size g (t : Int) (c : Int)) 1 (f 14) (f 0) w1 := hF 1 (by kernel_rfl)
    clear hF
    dsimp only at hK ⊢
    generalize f 14 = v14 at *
    subst d1
    go_simp
    exact hK.out _ _ hG rfl (fun _ _ _ _ h => h)
  · -- 10: Op.fieldAddr 38 t21 1
    refine StepL.act ?_
    intro f w1 hG hF K hK
    have d9 : (tk4 w.heap.size g (t : Int) (c : Int)) 9 (f 21) (f 0) w1 := hF 9 (by kernel_rfl)
    clear hF
    dsimp only at hK ⊢
    generalize f 21 = v21 at *
    subst d9
    go_simp
    exact hK.out _ _ hG rfl (fun _ _ _ _ h => h)
  · -- 11: Op.store 30 t22 t18
    refine StepL.act ?_
    intro f w1 hG hF K hK
    have d10 : (tk4 w.heap.size g (t : Int) (c : Int)) 10 (f 22) (f 0) w1 := hF 10 (by kernel_rfl)
    have d5 : (tk4 w.heap.size g (t : Int) (c : Int)) 5 (f 18) (f 0) w1 := hF 5 (by kernel_rfl)
    clear hF
    dsimp only at hK ⊢
    generalize f 22 = v22 at *
    generalize f 18 = v18 at *
    subst d10 d5
    obtain ⟨⟨x, hx⟩, hfz⟩ := hG.old (1) (by omega)
    have HG := Lib.hid hG
    clear hG
    go_simp
    exact hK.out undef _ (HG.out.store hpg (1) (by omega) (by decide) (.int .u32 (c : Int))) (set_at hx) (fun j hj u u' h => tk4_set1 j hj u u' h)
  intro f w1 hG hF
  have f8 : w1.cell? ⟨g, 0, none⟩ = some (.int .i64 (t : Int)) := hF 8 (by decide)
  have f11 : w1.cell? ⟨g, 1, none⟩ = some (.int .u32 (c : Int)) := hF 11 (by decide)
  obtain ⟨F1, hF1, hE1⟩ := hG.box
  have A0 := Lib.hid (show F1 0 = .int .i64 (t : Int) from Option.some.inj ((hF1.cell 0 (by decide)).symm.trans f8))
  have A1 := Lib.hid (show F1 1 = .int .u32 (c : Int) from Option.some.inj ((hF1.cell 1 (by decide)).symm.trans f11))
  have HE1 := Lib.hid hE1
  have H5 := Lib.hid (show TkW w w.heap.size g #[.int .i64 (i : Int), .int .i64 (t : Int), .int .u32 (c : Int), .string d] F1 (fun k => k = 2 + i) w1.drew from ⟨hG.bk.drew, hG.onl.drew, _, bx_drew hF1, fun _ _ _ => rfl⟩)
  clear f8 f11 hE1 hF1 H4
  clear hF hG
  dsimp only
  generalize f 13 = v13
  generalize f 14 = v14
  generalize f 15 = v15
  generalize f 16 = v16
  generalize f 17 = v17
  generalize f 18 = v18
  generalize f 19 = v19
  generalize f 20 = v20
  generalize f 21 = v21
  generalize f 22 = v22
  have g6 : (0 : Int) ≤ (i : Int) := by omega
  have g7 : (i : Int) < 100 := by omega
  go_wp2_with fail
  refine wp_region_list [some 23, some 24, some 25, some 26, some 27, some 28, none] (fun _ => 0) (tk5 w.heap.size g i) (TkW w w.heap.size g #[.int .i64 (i : Int), .int .i64 (t : Int), .int .u32 (c : Int), .string d] F1 (fun k => k = 2 + i)) (by kernel_rfl) H5.out rfl (by kernel_rfl) (by kernel_rfl) (by kernel_rfl) (by kernel_rfl) (fun T hT => ?_)
  simp only [List.filterMap_cons, List.filterMap_nil, id, putsS, Act.put, List.setIfInBounds_toArray, List.set_cons_zero, List.set_cons_succ] at hT
  subst hT
  refine ⟨⟨?_, ?_, ?_, ?_, ?_, ?_, ?_, trivial⟩, ?_⟩
  · -- 0: Op.move t0
    refine StepL.act ?_
    intro f w1 hG hF K hK
    clear hF
    dsimp only at hK ⊢
    go_simp
    exact hK.out _ _ hG rfl (fun _ _ _ _ h => h)
  · -- 1: Op.fieldAddr 32 t3 0
    refine StepL.act ?_
    intro f w1 hG hF K hK
    clear hF
    dsimp only at hK ⊢
    go_simp
    exact hK.out _ _ hG rfl (fun _ _ _ _ h => h)
  · -- 2: Op.load 3 t24
    refine StepL.act ?_
    intro f w1 hG hF K hK
    have d1 : (tk5 w.heap.size g i) 1 (f 24) (f 0) w1 := hF 1 (by kernel_rfl)
    clear hF
    dsimp only at hK ⊢
    generalize f 24 = v24 at *
    subst d1
    have y := hG.bk.cell 0
    simp only [List.getElem?_toArray, List.getElem?_cons_zero] at y
    go_simp
    exact hK.out _ _ hG rfl (fun _ _ _ _ h => h)
  · -- 3: Op.nilCheck t23
    refine StepL.act ?_
    intro f w1 hG hF K hK
    have d0 : (tk5 w.heap.size g i) 0 (f 23) (f 0) w1 := hF 0 (by kernel_rfl)
    clear hF
    dsimp only at hK ⊢
    generalize f 23 = v23 at *
    subst d0
    go_simp
    exact hK.out _ _ hG rfl (fun _ _ _ _ h => h)
  · -- 4: Op.fieldAddr 38 t26 2
    refine StepL.act ?_
    intro f w1 hG hF K hK
    have d3 : (tk5 w.heap.size g i) 3 (f 26) (f 0) w1 := hF 3 (by kernel_rfl)
    clear hF
    dsimp only at hK ⊢
    generalize f 26 = v26 at *
    subst d3
    go_simp
    exact hK.out _ _ hG rfl (fun _ _ _ _ h => h)
  · -- 5: Op.indexAddr 35 t27 t25
    refine StepL.act ?_
    intro f w1 hG hF K hK
    have d4 : (tk5 w.heap.size g i) 4 (f 27) (f 0) w1 := hF 4 (by kernel_rfl)
    have d2 : (tk5 w.heap.size g i) 2 (f 25) (f 0) w1 := hF 2 (by kernel_rfl)
    clear hF
    dsimp only at hK ⊢
    generalize f 27 = v27 at *
    generalize f 25 = v25 at *
    subst d2 d4
    go_simp
    exact hK.out _ _ hG rfl (fun _ _ _ _ h => h)
  · -- 6: Op.store 4 t28 (const (Value.bool true))
    refine StepL.act ?_
    intro f w1 hG hF K hK
    have d5 : (tk5 w.heap.size g i) 5 (f 28) (f 0) w1 := hF 5 (by kernel_rfl)
    clear hF
    dsimp only at hK ⊢
    generalize f 28 = v28 at *
    subst d5
    obtain ⟨⟨x, hx⟩, hfz⟩ := hG.old (2 + i) (by omega)
    have HG := Lib.hid hG
    clear hG
    go_simp
    exact hK.out undef _ (HG.out.store hpg (2 + i) (by omega) rfl (.bool true)) (set_at hx) (fun j hj u u' h => tk5_set j hj u u' h)
  intro f w1 hG hF
  have f6 : w1.cell? ⟨g, 2 + i, none⟩ = some (.bool true) := hF 6 (by decide)
  obtain ⟨F2, hF2, hE2⟩ := hG.box
  have A2 := Lib.hid (show F2 (2 + i) = .bool true from Option.some.inj ((hF2.cell (2 + i) (by omega)).symm.trans f6))
  have HE2 := Lib.hid hE2
  have H6 := Lib.hid (show TkW w w.heap.size g #[.int .i64 (i : Int), .int .i64 (t : Int), .int .u32 (c : Int), .string d] F2 (fun k => k = 102 + i) w1.drew from ⟨hG.bk.drew, hG.onl.drew, _, bx_drew hF2, fun _ _ _ => rfl⟩)
  clear f6 hE2 hF2 H5
  clear hF hG
  dsimp only
  generalize f 23 = v23
  generalize f 24 = v24
  generalize f 25 = v25
  generalize f 26 = v26
  generalize f 27 = v27
  generalize f 28 = v28
  go_wp2_with fail
  refine wp_region_list [some 29, some 30, some 31, some 32, some 33, some 34, some 35, some 36, some 37, none] (fun _ => 0) (tk6 w.heap.size g i d) (TkW w w.heap.size g #[.int .i64 (i : Int), .int .i64 (t : Int), .int .u32 (c : Int), .string d] F2 (fun k => k = 102 + i)) (by kernel_rfl) H6.out rfl (by kernel_rfl) (by kernel_rfl) (by kernel_rfl) (by kernel_rfl) (fun T hT => ?_)
  simp only [List.filterMap_cons, List.filterMap_nil, id, putsS, Act.put, List.setIfInBounds_toArray, List.set_cons_zero, List.set_cons_succ] at hT
  subst hT
  refine ⟨⟨?_, ?_, ?_, ?_, ?_, ?_, ?_, ?_, ?_, ?_, trivial⟩, ?_⟩
  · -- 0: Op.move t0
    refine StepL.act ?_
    intro f w1 hG hF K hK
    clear hF
    dsimp only at hK ⊢
    go_simp
    exact hK.out _ _ hG rfl (fun _ _ _ _ h => h)
  · -- 1: Op.fieldAddr 32 t3 0
    refine StepL.act ?_
    intro f w1 hG hF K hK
    clear hF
    dsimp only at hK ⊢
    go_simp
    exact hK.out _ _ hG rfl (fun _ _ _ _ h => h)
  · -- 2: Op.load 3 t30
    refine StepL.act ?_
    intro f w1 hG hF K hK
    have d1 : (tk6 w.heap.size g i d) 1 (f 30) (f 0) w1 := hF 1 (by kernel_rfl)
    clear hF
    dsimp only at hK ⊢
    generalize f 30 = v30 at *
    subst d1
    have y := hG.bk.cell 0
    simp only [List.getElem?_toArray, List.getElem?_cons_zero] at y
    go_simp
    exact hK.out _ _ hG rfl (fun _ _ _ _ h => h)
  · -- 3: Op.fieldAddr 32 t3 3
    refine StepL.act ?_
    intro f w1 hG hF K hK
    clear hF
    dsimp only at hK ⊢
    go_simp
    exact hK.out _ _ hG rfl (fun _ _ _ _ h => h)
  · -- 4: Op.load 9 t32
    refine StepL.act ?_
    intro f w1 hG hF K hK
    have d3 : (tk6 w.heap.size g i d) 3 (f 32) (f 0) w1 := hF 3 (by kernel_rfl)
    clear hF
    dsimp only at hK ⊢
    generalize f 32 = v32 at *
    subst d3
    have y := hG.bk.cell 3
    simp only [List.getElem?_toArray, List.getElem?_cons_zero, List.getElem?_cons_succ] at y
    go_simp
    exact hK.out _ _ hG rfl (fun _ _ _ _ h => h)
  · -- 5: Op.call ( value (Operand.func 19), args := #[t33], argTypes := #[9] )
    refine StepL.act ?_
    intro f w1 hG hF K hK
    have d4 : (tk6 w.heap.size g i d) 4 (f 33) (f 0) w1 := hF 4 (by kernel_rfl)
    clear hF
    dsimp only at hK ⊢
    generalize f 33 = v33 at *
    subst d4
    have CL := Lib.hid (sclone_any d w1 (Nat.le_trans h4 (by decide)))
    go_simp
    refine CL.out.mono ?_
    rintro e w2' ⟨rfl, hb⟩
    exact hK.out _ _ (hG.bel hb) rfl (fun j _ u u' h => tk6_bel (by obtain ⟨F, hx, _⟩ := hG.box; exact hx.lt) hb j u u' h)
  · -- 6: Op.nilCheck t29
    refine StepL.act ?_
    intro f w1 hG hF K hK
    have d0 : (tk6 w.heap.size g i d) 0 (f 29) (f 0) w1 := hF 0 (by kernel_rfl)
    clear hF
    dsimp only at hK ⊢
    generalize f 29 = v29 at *
    subst d0
    go_simp
    exact hK.out _ _ hG rfl (fun _ _ _ _ h => h)
  · -- 7: Op.fieldAddr 38 t35 3
    refine StepL.act ?_
    intro f w1 hG hF K hK
    have d6 : (tk6 w.heap.size g i d) 6 (f 35) (f 0) w1 := hF 6 (by kernel_rfl)
    clear hF
    dsimp only at hK ⊢
    generalize f 35 = v35 at *
    subst d6
    go_simp
    exact hK.out _ _ hG rfl (fun _ _ _ _ h => h)
  · -- 8: Op.indexAddr 36 t36 t31
    refine StepL.act ?_
    intro f w1 hG hF K hK
    have d7 : (tk6 w.heap.size g i d) 7 (f 36) (f 0) w1 := hF 7 (by kernel_rfl)
    have d2 : (tk6 w.heap.size g i d) 2 (f 31) (f 0) w1 := hF 2 (by kernel_rfl)
    clear hF
    dsimp only at hK ⊢
    generalize f 36 = v36 at *
    generalize f 31 = v31 at *
    subst d7 d2
    go_simp
    exact hK.out _ _ hG rfl (fun _ _ _ _ h => h)
  · -- 9: Op.store 9 t37 t34
    refine StepL.act ?_
    intro f w1 hG hF K hK
    have d8 : (tk6 w.heap.size g i d) 8 (f 37) (f 0) w1 := hF 8 (by kernel_rfl)
    have d5 : (tk6 w.heap.size g i d) 5 (f 34) (f 0) w1 := hF 5 (by kernel_rfl)
    clear hF
    dsimp only at hK ⊢
    generalize f 37 = v37 at *
    generalize f 34 = v34 at *
    subst d8 d5
    obtain ⟨⟨x, hx⟩, hfz⟩ := hG.old (102 + i) (by omega)
    have HG := Lib.hid hG
    clear hG
    go_simp
    exact hK.out undef _ (HG.out.store hpg (102 + i) (by omega) rfl (.string d)) (set_at hx) (fun j hj u u' h => tk6_set j hj u u' h)
  intro f w1 hG hF
  have f9 : w1.cell? ⟨g, 102 + i, none⟩ = some (.string d) := hF 9 (by decide)
  obtain ⟨F3, hF3, hE3⟩ := hG.box
  have hxx : Bx w1 g (bxC t c (updT th i) (updD dt i d)) := hF3.congr (bx_taken (by omega) (fun _ _ => rfl) HE1.out A0.out A1.out HE2.out A2.out hE3 (Option.some.inj ((hF3.cell (102 + i) (by omega)).symm.trans f9)))
  have HXX := Lib.hid hxx
  have HON := Lib.hid hG.onl
  have CM := Lib.hid (miss_any g t c (updT th i) (updD dt i d) w1 hxx h2)
  clear f9 hE3 hF3 H6 HE1 HE2 A0 A1 A2 hxx
  clear hF hG
  dsimp only
  generalize f 29 = v29
  generalize f 30 = v30
  generalize f 31 = v31
  generalize f 32 = v32
  generalize f 33 = v33
  generalize f 34 = v34
  generalize f 35 = v35
  generalize f 36 = v36
  generalize f 37 = v37
  go_wp2_with fail
  refine CM.out.mono ?_
  rintro e w3 ⟨A, cc, rfl, ho, hb3⟩
  have HXX3 := Lib.hid (HXX.out.bel hb3)
  have HON3 := Lib.hid (HON.out.trans (Onl.of_below hb3))
  clear ho hb3 CM
  obtain ⟨L, hLL⟩ : ∃ L, L = (missN (updT th i) t).length := ⟨_, rfl⟩
  rw [← hLL]
  have HLL := Lib.hid hLL
  clear hLL
  by_cases hL : L = 0
  · have hd : decide (L = 0) = true := decide_eq_true hL
    have hd2 : ((L : Int) == 0) = true := by rw [hL]; rfl
    have HD := Lib.hid hd
    clear hL hd
    go_wp2_with fail
    go_ret2
    exact ⟨by rw [← HLL.out, HD.out]; rfl, HXX3.out, HON3.out⟩
  · have hd : decide (L = 0) = false := decide_eq_false hL
    have hd2 : ((L : Int) == 0) = false := by simp; omega
    have HD := Lib.hid hd
    clear hL hd
    go_wp2_with fail
    go_ret2
    exact ⟨by rw [← HLL.out, HD.out]; rfl, HXX3.out, HON3.out⟩
end Go.Proofs.YthjbkgappjpanaaDoor
