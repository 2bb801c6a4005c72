/- Who is a member, as a closure. Condition: the feed and the workspace lie in memory. -/
import Derived.Test.YtbpclifgafafdaaDoorShP
namespace Go.Proofs.YtbpclifgafafdaaDoor
open Go.RowKit Go.Shelf

/-- The workspace's cells. -/
def spC (gu gc : Nat) : Array Value := #[.slice (some ⟨gu, 0, none⟩) 1 1, .slice (some ⟨gc, 0, none⟩) 1 1, .slice none 0 0, .slice none 0 0, .slice none 0 0, .slice none 0 0, .int .i64 0]
theorem Sp.bel {w w' : World} {gu gc gm : Nat} (h : Sp w gu gc gm) (hb : Below w.heap.size w w') : Sp w' gu gc gm := by
  have lt : ∀ (g i : Nat) (v : Value), w.cell? ⟨g, i, none⟩ = some v → w'.cell? ⟨g, i, none⟩ = some v := fun g i v hv => by
    rw [← hv]
    refine World.cell?_of_block (w := w) (a := ⟨g, i, none⟩) (hb.block g ?_)
    rcases Nat.lt_or_ge g w.heap.size with h | h
    · exact h
    · exfalso
      have hn : w.heap[g]? = none := Array.getElem?_eq_none h
      unfold World.cell? at hv
      simp [hn] at hv
  exact ⟨lt _ _ _ h.us, lt _ _ _ h.ms, lt _ _ _ h.me⟩
/-- The two variables that the closure holds. -/
structure Mc (gu gc p u : Nat) (w : World) : Prop where
  sp : Bk w p 33 (spC gu gc)
  us : Bk w u 3 #[.int .i64 0]
theorem Mc.bel {gu gc p u : Nat} {w w' : World} (h : Mc gu gc p u w) (hb : Below w.heap.size w w') : Mc gu gc p u w' := ⟨h.sp.bel hb, h.us.bel hb⟩
def cloV (p u : Nat) : Value := .func (.func 23) #[] #[.pointer (some ⟨p, 0, none⟩), .pointer (some ⟨u, 0, none⟩)]
set_option maxRecDepth 100000 in
set_option maxHeartbeats 1000000 in
theorem clo_any (gu gc gm p u : Nat) (w : World) (hS : Sp w gu gc gm) (hM : Mc gu gc p u w) :
    Calls Tryd.prog 23 #[.int .i64 0, .pointer (some ⟨p, 0, none⟩), .pointer (some ⟨u, 0, none⟩)] w fun e w' => e = .returned (.bool true) ∧ Below w.heap.size w w' := by
  have y0 : w.cell? ⟨p, 0, none⟩ = some (.slice (some ⟨gu, 0, none⟩) 1 1) := hM.sp.cell 0
  have y1 : w.cell? ⟨p, 1, none⟩ = some (.slice (some ⟨gc, 0, none⟩) 1 1) := hM.sp.cell 1
  have y2 : w.cell? ⟨p, 2, none⟩ = some (.slice none 0 0) := hM.sp.cell 2
  have y3 : w.cell? ⟨p, 3, none⟩ = some (.slice none 0 0) := hM.sp.cell 3
  have y4 : w.cell? ⟨p, 4, none⟩ = some (.slice none 0 0) := hM.sp.cell 4
  have y5 : w.cell? ⟨p, 5, none⟩ = some (.slice none 0 0) := hM.sp.cell 5
  have y6 : w.cell? ⟨p, 6, none⟩ = some (.int .i64 0) := hM.sp.cell 6
  have u0 : w.cell? ⟨u, 0, none⟩ = some (.int .i64 0) := hM.us.cell 0
  have HC := Lib.hid (member_any gu gc gm w hS)
  clear hS hM
  unfold spV at HC
  go_enter Tryd.func23, Tryd.ntmps23
  go_wp2_with (go_at_call 24; refine HC.out.mono ?_; rintro e w' ⟨rfl, hb⟩)
  go_ret
  exact ⟨rfl, hb⟩
/-- What holds throughout in membership. -/
structure MbG (w0 : World) (gu gc gm q : Nat) (K : Value) (b : Bool) (w : World) : Prop where
  bel : Below w0.heap.size w0 w
  sp : Bk w w0.heap.size 33 (spC gu gc)
  s : Sp w gu gc gm
  fd : Bk w q 50 (fdC K b)
  lt : q < w0.heap.size
  us : gu < w0.heap.size ∧ gc < w0.heap.size ∧ gm < w0.heap.size
section
variable {w0 w w' : World} {gu gc gm q : Nat} {K : Value} {b : Bool}
theorem MbG.big (h : MbG w0 gu gc gm q K b w) : w0.heap.size < w.heap.size := h.sp.lt
theorem MbG.next (h : MbG w0 gu gc gm q K b w) (hb : Below w.heap.size w w') : MbG w0 gu gc gm q K b w' :=
  ⟨h.bel.trans (hb.mono (Nat.le_of_lt h.big)), h.sp.bel hb, h.s.bel hb, h.fd.bel hb, h.lt, h.us⟩
theorem MbG.set (h : MbG w0 gu gc gm q K b w) (g : Nat) (hg : w0.heap.size < g) (v : Value) : MbG w0 gu gc gm q K b (w.setCell ⟨g, 0, none⟩ v) := by
  have k := Kept1.set w g 0 v
  have hc : ∀ (x i : Nat) (y : Value), x ≠ g → w.cell? ⟨x, i, none⟩ = some y → (w.setCell ⟨g, 0, none⟩ v).cell? ⟨x, i, none⟩ = some y := fun x i y hx hy => by
    rw [← hy]
    exact World.cell?_of_block (w := w) (a := ⟨x, i, none⟩) (Below.heap_setCell w ⟨g, 0, none⟩ v x hx)
  exact ⟨h.bel.setCell (p := ⟨g, 0, none⟩) (Nat.le_of_lt hg) _, bk_kept h.sp (by omega) k, ⟨hc _ _ _ (by have := h.us; omega) h.s.us, hc _ _ _ (by have := h.us; omega) h.s.ms, hc _ _ _ (by have := h.us; omega) h.s.me⟩, bk_kept h.fd (by have := h.lt; omega) k, h.lt, h.us⟩
def mbF (n0 gu gc q : Nat) (j : Nat) (v _u : Value) (w : World) : Prop := match j with
  | 0 => v = .agg #[.slice (some ⟨gu, 0, none⟩) 1 1, .slice (some ⟨gc, 0, none⟩) 1 1, .slice none 0 0, .slice none 0 0, .slice none 0 0, .slice none 0 0, .int .i64 0]
  | 1 => v = .pointer (some ⟨q, 0, none⟩)
  | 2 => v = .pointer (some ⟨q, 0, none⟩)
  | 3 => v = .pointer (some ⟨q, 0, none⟩)
  | 4 => v = .string annZ
  | 5 => v = .int .i64 0
  | 6 => ∃ g, v = .pointer (some ⟨g, 0, none⟩) ∧ n0 < g ∧ Bk w g 3 #[.int .i64 0]
  | _ => True
theorem mbF_bel {n0 : Nat} (hb : Below w.heap.size w w') : ∀ j u u', mbF n0 gu gc q j u u' w → mbF n0 gu gc q j u u' w' := by
  intro j u u' h
  unfold mbF at *
  split at h <;> first | exact h | skip
  · obtain ⟨g, hv, h0, h1⟩ := h
    exact ⟨g, hv, h0, h1.bel hb⟩
theorem mbF_set {n0 g : Nat} (hb : Bk w g 3 #[.int .i64 0]) : ∀ j u u', mbF n0 gu gc q j u u' w → mbF n0 gu gc q j u u' (w.setCell ⟨g, 0, none⟩ (.int .i64 0)) := by
  intro j u u' h
  unfold mbF at *
  split at h <;> first | exact h | skip
  · obtain ⟨g2, hv, h0, h1⟩ := h
    refine ⟨g2, hv, h0, ?_⟩
    by_cases e : g2 = g
    · subst e; exact hb.put 0 _
    · exact bk_kept h1 e (Kept1.set w g 0 _)
end
set_option maxRecDepth 100000 in
set_option maxHeartbeats 2000000 in
theorem membership_any (gu gc gm q : Nat) (K : Value) (b : Bool) (w : World) (hS : Sp w gu gc gm) (hF : Bk w q 50 (fdC K b)) (hl : gu < w.heap.size ∧ gc < w.heap.size ∧ gm < w.heap.size) :
    Calls Tryd.prog 12 #[.pointer (some ⟨q, 0, none⟩), spV gu gc] w fun e w' => (∃ p u, e = .returned (cloV p u) ∧ Mc gu gc p u w') ∧ Below w.heap.size w w' := by
  have hmf : ∀ (fn : Fn) (first cap : Array Value) (w : World), (Instr.makeFunc fn first cap).run Tryd.prog w = .ok (.func fn first cap) w := fun _ _ _ _ => rfl
  have ba := (Below.refl w.heap.size w).alloc (Nat.le_refl _) (.cells (spC gu gc) 33)
  have G0 := Lib.hid (show MbG w gu gc gm q K b (w.alloc (.cells (spC gu gc) 33)).drew from by
    exact ⟨ba.drew, (Bk.new w _ _).drew, (hS.bel ba).bel (Below.refl _ _).drew, (hF.bel ba).drew, hF.lt, hl⟩)
  clear ba hS hF hl
  unfold spV
  unfold spC at G0
  go_enter Tryd.func12, Tryd.ntmps12
  go_wp2_with fail
  generalize w.alloc (.cells #[.slice (some ⟨gu, 0, none⟩) 1 1, .slice (some ⟨gc, 0, none⟩) 1 1, .slice none 0 0, .slice none 0 0, .slice none 0 0, .slice none 0 0, .int .i64 0] 33) = wr at *
  refine wp_region_late [some 6, some 7, some 8, some 9, some 10, some 11, some 5, none] (fun _ => 0) (mbF w.heap.size gu gc q) (MbG w gu gc gm q K b) (fun _ _ => True) (by kernel_rfl) G0.out (fun _ _ => trivial) rfl (by kernel_rfl) (by kernel_rfl) (by kernel_rfl) (by kernel_rfl) (fun T hT => ?_)
  simp only [List.filterMap_cons, List.filterMap_nil, id, putsS, Act.put, List.setIfInBounds_toArray, List.set_cons_zero, List.set_cons_succ] at hT
  subst hT
  refine ⟨⟨?_, ?_, ?_, ?_, ?_, ?_, ?_, ?_, trivial⟩, ?_⟩
  · -- 0
    intro f w1 hG hO hL hF K0 hK
    clear hF hO hL
    dsimp only at hK ⊢
    have y0 : w1.cell? ⟨w.heap.size, 0, none⟩ = some (.slice (some ⟨gu, 0, none⟩) 1 1) := hG.sp.cell 0
    have y1 : w1.cell? ⟨w.heap.size, 1, none⟩ = some (.slice (some ⟨gc, 0, none⟩) 1 1) := hG.sp.cell 1
    have y2 : w1.cell? ⟨w.heap.size, 2, none⟩ = some (.slice none 0 0) := hG.sp.cell 2
    have y3 : w1.cell? ⟨w.heap.size, 3, none⟩ = some (.slice none 0 0) := hG.sp.cell 3
    have y4 : w1.cell? ⟨w.heap.size, 4, none⟩ = some (.slice none 0 0) := hG.sp.cell 4
    have y5 : w1.cell? ⟨w.heap.size, 5, none⟩ = some (.slice none 0 0) := hG.sp.cell 5
    have y6 : w1.cell? ⟨w.heap.size, 6, none⟩ = some (.int .i64 0) := hG.sp.cell 6
    go_simp
    exact hK.out _ _ hG rfl (fun _ _ _ h => h) (fun _ _ h => h)
  · -- 1
    intro f w1 hG hO hL hF K0 hK
    clear hF hO hL
    dsimp only at hK ⊢
    go_simp
    exact hK.out _ _ hG rfl (fun _ _ _ h => h) (fun _ _ h => h)
  · -- 2
    intro f w1 hG hO hL hF K0 hK
    have d1 : (mbF w.heap.size gu gc q) 1 (f 7) (f 0) w1 := hF 1 (by kernel_rfl)
    clear hF hO hL
    dsimp only at hK ⊢
    generalize hf7 : f 7 = v7 at *
    subst d1
    go_simp
    exact hK.out _ _ hG rfl (fun _ _ _ h => h) (fun _ _ h => h)
  · -- 3
    intro f w1 hG hO hL hF K0 hK
    have d2 : (mbF w.heap.size gu gc q) 2 (f 8) (f 0) w1 := hF 2 (by kernel_rfl)
    clear hF hO hL
    dsimp only at hK ⊢
    generalize hf8 : f 8 = v8 at *
    subst d2
    go_simp
    exact hK.out _ _ hG rfl (fun _ _ _ h => h) (fun _ _ h => h)
  · -- 4
    intro f w1 hG hO hL hF K0 hK
    have d3 : (mbF w.heap.size gu gc q) 3 (f 9) (f 0) w1 := hF 3 (by kernel_rfl)
    clear hF hO hL
    dsimp only at hK ⊢
    generalize hf9 : f 9 = v9 at *
    subst d3
    have y : w1.cell? ⟨q, 0, none⟩ = some (.string annZ) := fd0 hG.fd
    go_simp
    exact hK.out _ _ hG rfl (fun _ _ _ h => h) (fun _ _ h => h)
  · -- 5
    intro f w1 hG hO hL hF K0 hK
    have d0 : (mbF w.heap.size gu gc q) 0 (f 6) (f 0) w1 := hF 0 (by kernel_rfl)
    have d4 : (mbF w.heap.size gu gc q) 4 (f 10) (f 0) w1 := hF 4 (by kernel_rfl)
    clear hF hO hL
    dsimp only at hK ⊢
    generalize hf6 : f 6 = v6 at *
    generalize hf10 : f 10 = v10 at *
    subst d0
    subst d4
    go_simp
    refine (user_any gu gc gm w1 hG.s).mono ?_
    rintro e w2 ⟨rfl, hb⟩
    exact hK.out _ _ (hG.next hb) rfl (fun j _ _ h => mbF_bel hb j _ _ h) (fun _ _ h => h)
  · -- 6
    intro f w1 hG hO hL hF K0 hK
    clear hF hO hL
    dsimp only at hK ⊢
    go_simp
    exact hK.out _ _ (hG.next ((Below.refl _ _).alloc (Nat.le_refl _) _)) ⟨w1.heap.size, rfl, hG.big, Bk.new w1 _ _⟩ (fun j _ _ h => mbF_bel ((Below.refl _ _).alloc (Nat.le_refl _) _) j _ _ h) (fun _ _ h => h)
  · -- 7
    intro f w1 hG hO hL hF K0 hK
    have d5 : (mbF w.heap.size gu gc q) 5 (f 11) (f 0) w1 := hF 5 (by kernel_rfl)
    have d6 : (mbF w.heap.size gu gc q) 6 (f 5) (f 0) w1 := hF 6 (by kernel_rfl)
    clear hF hO hL
    dsimp only at hK ⊢
    generalize hf11 : f 11 = v11 at *
    generalize hf5 : f 5 = v5 at *
    subst d5
    obtain ⟨g, rfl, h0, h1⟩ := d6
    have y0 : w1.cell? ⟨g, 0, none⟩ = some (.int .i64 0) := h1.cell 0
    have f0 := h1.frozen 0
    have H1 := Lib.hid h1
    have HG := Lib.hid hG
    clear h1 hG
    go_simp
    exact hK.out undef _ (HG.out.set g h0 _) trivial (fun j _ _ h => mbF_set H1.out j _ _ h) (fun _ _ h => h)
  intro f w6 hG hF
  obtain ⟨g, hg, h0, h1⟩ : mbF w.heap.size gu gc q 6 (f 5) (f 0) w6 := hF 6 (by decide)
  have HG := Lib.hid hG
  have H1 := Lib.hid h1
  clear hF hG h1 h0
  dsimp only
  rw [hg]
  generalize f 6 = v6
  generalize f 7 = v7
  generalize f 8 = v8
  generalize f 9 = v9
  generalize f 10 = v10
  generalize f 11 = v11
  go_wp2_with fail
  go_ret
  exact ⟨⟨_, _, rfl, HG.out.sp, H1.out⟩, HG.out.bel⟩
end Go.Proofs.YtbpclifgafafdaaDoor
