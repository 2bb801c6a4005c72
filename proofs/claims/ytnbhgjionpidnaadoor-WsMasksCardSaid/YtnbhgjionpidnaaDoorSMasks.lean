/- WsMasks. Condition: the tables of UTF-8 are laid. -/
import Derived.Test.YtnbhgjionpidnaaDoorSEncM
import Derived.Test.YtnbhgjionpidnaaDoorStableF
namespace Go.Proofs.YtnbhgjionpidnaaDoor
open Go.RowKit

def msA (M : Nat → Nat) : Array Value := #[.int .u8 (M 0 : Nat), .int .u8 (M 1 : Nat), .int .u8 (M 2 : Nat), .int .u8 (M 3 : Nat)]
def frO (fin : Bool) (op : Int) (msk : Bool) (M : Nat → Nat) (p : ByteArray) : Array Value := #[.bool fin, .int .i64 op, .bool msk, .int .u8 (M 0 : Nat), .int .u8 (M 1 : Nat), .int .u8 (M 2 : Nat), .int .u8 (M 3 : Nat), .string p]
set_option maxRecDepth 100000 in
set_option maxHeartbeats 2000000 in
theorem masks_bad (fin msk : Bool) (op : Int) (M a b : Nat → Nat) (p : ByteArray) (hbad : 4000 < p.size ∨ op < 0 ∨ 15 < op) (w : World) (hT : Tabs w) :
    Calls Tryd.prog 7 #[.agg (frO fin op msk M p), .agg (msA a), .agg (msA b)] w fun e w' => e = .returned (.bool true) ∧ Below w.heap.size w w' := by
  obtain ⟨w1, hw1⟩ : ∃ x, x = w.alloc (.cells (frO fin op msk M p) 24) := ⟨_, rfl⟩
  obtain ⟨w2, hw2⟩ : ∃ x, x = w1.alloc (.cells (msA a) 22) := ⟨_, rfl⟩
  obtain ⟨w3, hw3⟩ : ∃ x, x = w2.alloc (.cells (msA b) 22) := ⟨_, rfl⟩
  have b1 : Below w.heap.size w w1 := by rw [hw1]; exact (Below.refl _ _).alloc (Nat.le_refl _) _
  have b2 : Below w.heap.size w w2 := by rw [hw2]; exact b1.alloc b1.size _
  have b3 : Below w.heap.size w w3 := by rw [hw3]; exact b2.alloc b2.size _
  obtain ⟨g, hg⟩ : ∃ x, x = w.heap.size := ⟨_, rfl⟩
  have hB : Bk w3 g 24 (frO fin op msk M p) := by rw [hw3, hw2, hw1, hg]; exact ((Bk.new w _ _).alloc _).alloc _
  have y1 : w3.cell? ⟨g, 1, none⟩ = some (.int .i64 op) := hB.cell 1
  have y7 : w3.cell? ⟨g, 7, none⟩ = some (.string p) := hB.cell 7
  have CA := Lib.hid (awake_any w3 (hT.bel b3))
  have HB3 := Lib.hid b3
  have HW1 := Lib.hid hw1
  have HW2 := Lib.hid hw2
  have HW3 := Lib.hid hw3
  have HG := Lib.hid hg
  obtain ⟨n, hn⟩ : ∃ x, x = p.size := ⟨_, rfl⟩
  clear hw1 hw2 hw3 b1 b2 b3 hB hT hg
  unfold frO at HW1 ⊢
  unfold msA at HW2 HW3 ⊢
  by_cases h1 : 4000 < p.size
  · have i1 : decide ((4000 : Int) < (p.size : Int)) = true := by simp; omega
    have i2 : (4000 : Int) < (p.size : Int) := by omega
    clear hbad hn
    go_enter Tryd.func7, Tryd.ntmps7
    go_upto_region 1 with fail
    rw [← HW1.out, ← HW2.out, ← HW3.out, ← HG.out]
    go_wp2_with fail
    refine CA.out.mono ?_
    rintro e w4 ⟨rfl, hb4⟩
    have HB4 := Lib.hid (HB3.out.trans (hb4.mono HB3.out.size))
    clear hb4
    go_wp2_with fail
    go_ret
    exact ⟨rfl, HB4.out⟩
  · have i1 : decide ((4000 : Int) < (p.size : Int)) = false := by simp; omega
    have i2 : ¬ (4000 : Int) < (p.size : Int) := by omega
    by_cases h2 : op < 0
    · have i3 : decide (op < 0) = true := by simp; omega
      clear hbad hn
      go_enter Tryd.func7, Tryd.ntmps7
      go_upto_region 1 with fail
      rw [← HW1.out, ← HW2.out, ← HW3.out, ← HG.out]
      go_wp2_with fail
      refine CA.out.mono ?_
      rintro e w4 ⟨rfl, hb4⟩
      have HB4 := Lib.hid (HB3.out.trans (hb4.mono HB3.out.size))
      clear hb4
      go_wp2_with fail
      go_ret
      exact ⟨rfl, HB4.out⟩
    · have i3 : decide (op < 0) = false := by simp; omega
      have i4 : (15 : Int) < op := by omega
      clear hbad hn
      go_enter Tryd.func7, Tryd.ntmps7
      go_upto_region 1 with fail
      rw [← HW1.out, ← HW2.out, ← HW3.out, ← HG.out]
      go_wp2_with fail
      refine CA.out.mono ?_
      rintro e w4 ⟨rfl, hb4⟩
      have HB4 := Lib.hid (HB3.out.trans (hb4.mono HB3.out.size))
      clear hb4
      go_wp2_with fail
      go_ret
      exact ⟨rfl, HB4.out⟩

def mkF (z : Nat) (fin msk : Bool) (op : Nat) (M : Nat → Nat) (p : ByteArray) (j : Nat) (v u : Value) (w : World) : Prop := match j with
  | 0 => v = .agg #[.bool fin, .int .i64 (op : Nat), .bool msk, .int .u8 (M 0 : Nat), .int .u8 (M 1 : Nat), .int .u8 (M 2 : Nat), .int .u8 (M 3 : Nat), .string p]
  | 1 => v = .agg #[.bool fin, .int .i64 (op : Nat), .bool msk, .int .u8 (M 0 : Nat), .int .u8 (M 1 : Nat), .int .u8 (M 2 : Nat), .int .u8 (M 3 : Nat), .string p]
  | 2 => v = .agg #[.bool fin, .int .i64 (op : Nat), .bool msk, .int .u8 (M 0 : Nat), .int .u8 (M 1 : Nat), .int .u8 (M 2 : Nat), .int .u8 (M 3 : Nat), .string p]
  | 3 => ∃ g, v = .pointer (some ⟨g, 0, none⟩) ∧ z ≤ g ∧ ∃ c0 c1 c2 c3 c4 c5 c6 c7, Bk w g 24 #[c0, c1, c2, c3, c4, c5, c6, c7]
  | 4 => ∃ g, v = .pointer (some ⟨g, 0, none⟩) ∧ z ≤ g ∧ ∃ c0 c1 c2 c3 c4 c5 c6 c7, Bk w g 24 #[c0, c1, c2, c3, c4, c5, c6, c7]
  | 5 => ∃ g, v = .pointer (some ⟨g, 0, none⟩) ∧ z ≤ g ∧ ∃ c0 c1 c2 c3 c4 c5 c6 c7, Bk w g 24 #[c0, c1, c2, c3, c4, c5, c6, c7]
  | 6 => ∃ g, u = .pointer (some ⟨g, 0, none⟩) ∧ z ≤ g ∧ Bk w g 24 (frO fin (op : Nat) msk M p)
  | 7 => ∃ g, u = .pointer (some ⟨g, 0, none⟩) ∧ z ≤ g ∧ Bk w g 24 (frO fin (op : Nat) msk M p)
  | 8 => ∃ g, u = .pointer (some ⟨g, 0, none⟩) ∧ z ≤ g ∧ Bk w g 24 (frO fin (op : Nat) msk M p)
  | _ => True
/-- The three pointers are apart. -/
def apartF (n : Nat) (f : Nat → Value) : Prop := ∀ g, (f 7 = .pointer (some ⟨g, 0, none⟩) → g < n ∧ f 8 ≠ .pointer (some ⟨g, 0, none⟩) ∧ f 9 ≠ .pointer (some ⟨g, 0, none⟩)) ∧ (f 8 = .pointer (some ⟨g, 0, none⟩) → g < n ∧ f 9 ≠ .pointer (some ⟨g, 0, none⟩)) ∧ (f 9 = .pointer (some ⟨g, 0, none⟩) → g < n)
def mkG (W : World) (f : Nat → Value) (w : World) : Prop := Below W.heap.size W w ∧ apartF w.heap.size f
section
variable {z op : Nat} {fin msk : Bool} {M : Nat → Nat} {p : ByteArray} {w w' : World}
theorem mkF_bel (hb : Below w.heap.size w w') : ∀ j u u', mkF z fin msk op M p j u u' w → mkF z fin msk op M p j u u' w' := by
  intro j u u' h
  unfold mkF at *
  split at h <;> first | exact h | (obtain ⟨g, h1, h2, c0, c1, c2, c3, c4, c5, c6, c7, h3⟩ := h; exact ⟨g, h1, h2, c0, c1, c2, c3, c4, c5, c6, c7, h3.bel hb⟩) | (obtain ⟨g, h1, h2, h3⟩ := h; exact ⟨g, h1, h2, h3.bel hb⟩)
theorem far8 {g g' : Nat} {t : TypeId} {cs : Array Value} (h : Bk w g' t cs) (hn : g' ≠ g) (a b c d e f x y : Value) : Bk (set8 w g a b c d e f x y) g' t cs := bk_kept h hn (kept8 w g a b c d e f x y)
theorem any8 {g g' : Nat} {t : TypeId} {c0 c1 c2 c3 c4 c5 c6 c7 a0 a1 a2 a3 a4 a5 a6 a7 : Value} (hb : Bk w g t #[c0, c1, c2, c3, c4, c5, c6, c7]) (h : ∃ d0 d1 d2 d3 d4 d5 d6 d7, Bk w g' t #[d0, d1, d2, d3, d4, d5, d6, d7]) : ∃ d0 d1 d2 d3 d4 d5 d6 d7, Bk (set8 w g a0 a1 a2 a3 a4 a5 a6 a7) g' t #[d0, d1, d2, d3, d4, d5, d6, d7] := by
  by_cases e : g' = g
  · rw [e]
    exact ⟨_, _, _, _, _, _, _, _, box8 hb a0 a1 a2 a3 a4 a5 a6 a7⟩
  · obtain ⟨d0, d1, d2, d3, d4, d5, d6, d7, h⟩ := h
    exact ⟨_, _, _, _, _, _, _, _, far8 h e a0 a1 a2 a3 a4 a5 a6 a7⟩
theorem one8 {g g' : Nat} {t : TypeId} {c0 c1 c2 c3 c4 c5 c6 c7 a0 a1 a2 a3 a4 a5 a6 a7 : Value} (hb : Bk w g t #[c0, c1, c2, c3, c4, c5, c6, c7]) (h : Bk w g' t #[a0, a1, a2, a3, a4, a5, a6, a7]) : Bk (set8 w g a0 a1 a2 a3 a4 a5 a6 a7) g' t #[a0, a1, a2, a3, a4, a5, a6, a7] := by
  by_cases e : g' = g
  · rw [e]
    exact box8 hb a0 a1 a2 a3 a4 a5 a6 a7
  · exact far8 h e a0 a1 a2 a3 a4 a5 a6 a7
theorem mkF_set (hA : ∀ g', (∃ d0 d1 d2 d3 d4 d5 d6 d7, Bk w g' 24 #[d0, d1, d2, d3, d4, d5, d6, d7]) → ∃ d0 d1 d2 d3 d4 d5 d6 d7, Bk w' g' 24 #[d0, d1, d2, d3, d4, d5, d6, d7]) (hO : ∀ g', Bk w g' 24 (frO fin (op : Nat) msk M p) → Bk w' g' 24 (frO fin (op : Nat) msk M p)) : ∀ j u u', mkF z fin msk op M p j u u' w → mkF z fin msk op M p j u u' w'
  | 0, _, _, h => h
  | 1, _, _, h => h
  | 2, _, _, h => h
  | 3, _, _, ⟨g', h1, h2, h3⟩ => ⟨g', h1, h2, hA g' h3⟩
  | 4, _, _, ⟨g', h1, h2, h3⟩ => ⟨g', h1, h2, hA g' h3⟩
  | 5, _, _, ⟨g', h1, h2, h3⟩ => ⟨g', h1, h2, hA g' h3⟩
  | 6, _, _, ⟨g', h1, h2, h3⟩ => ⟨g', h1, h2, hO g' h3⟩
  | 7, _, _, ⟨g', h1, h2, h3⟩ => ⟨g', h1, h2, hO g' h3⟩
  | 8, _, _, ⟨g', h1, h2, h3⟩ => ⟨g', h1, h2, hO g' h3⟩
  | _ + 9, _, _, _ => trivial
theorem apart_mono {n n' : Nat} {f : Nat → Value} (h : apartF n f) (hn : n ≤ n') : apartF n' f := fun g =>
  ⟨fun e => ⟨Nat.lt_of_lt_of_le ((h g).1 e).1 hn, ((h g).1 e).2⟩, fun e => ⟨Nat.lt_of_lt_of_le ((h g).2.1 e).1 hn, ((h g).2.1 e).2⟩, fun e => Nat.lt_of_lt_of_le ((h g).2.2 e) hn⟩
theorem apart_upd {n d : Nat} {f : Nat → Value} {v : Value} (h : apartF n f) (hd : d ≠ 7 ∧ d ≠ 8 ∧ d ≠ 9) : apartF n (updS f (some d) v) := by
  have e7 : updS f (some d) v 7 = f 7 := by simp [updS, Ne.symm hd.1]
  have e8 : updS f (some d) v 8 = f 8 := by simp [updS, Ne.symm hd.2.1]
  have e9 : updS f (some d) v 9 = f 9 := by simp [updS, Ne.symm hd.2.2]
  intro g
  rw [e7, e8, e9]
  exact h g
theorem ptr_inj {g h : Nat} (e : Value.pointer (some ⟨g, 0, none⟩) = Value.pointer (some ⟨h, 0, none⟩)) : g = h := by
  injection e with e
  injection e with e
  injection e with e
theorem apart_new {n d : Nat} {f : Nat → Value} (h : apartF n f) (hd : d = 7 ∨ d = 8 ∨ d = 9) : apartF (n + 1) (updS f (some d) (.pointer (some ⟨n, 0, none⟩))) := by
  have l7 : ∀ g, f 7 = .pointer (some ⟨g, 0, none⟩) → g < n := fun g e => ((h g).1 e).1
  have l8 : ∀ g, f 8 = .pointer (some ⟨g, 0, none⟩) → g < n := fun g e => ((h g).2.1 e).1
  have l9 : ∀ g, f 9 = .pointer (some ⟨g, 0, none⟩) → g < n := fun g e => (h g).2.2 e
  intro g
  rcases hd with rfl | rfl | rfl
  · simp only [updS, if_true, Nat.reduceEqDiff, if_false]
    refine ⟨fun e => ?_, fun e => ⟨by have := l8 g e; omega, ((h g).2.1 e).2⟩, fun e => by have := l9 g e; omega⟩
    have := ptr_inj e
    subst this
    exact ⟨by omega, fun e => by have := l8 _ e; omega, fun e => by have := l9 _ e; omega⟩
  · simp only [updS, if_true, Nat.reduceEqDiff, if_false]
    refine ⟨fun e => ⟨by have := l7 g e; omega, fun e2 => by have := ptr_inj e2; have := l7 g e; omega, ((h g).1 e).2.2⟩, fun e => ?_, fun e => by have := l9 g e; omega⟩
    have := ptr_inj e
    subst this
    exact ⟨by omega, fun e => by have := l9 _ e; omega⟩
  · simp only [updS, if_true, Nat.reduceEqDiff, if_false]
    refine ⟨fun e => ⟨by have := l7 g e; omega, ((h g).1 e).2.1, fun e2 => by have := ptr_inj e2; have := l7 g e; omega⟩, fun e => ⟨by have := l8 g e; omega, fun e2 => by have := ptr_inj e2; have := l8 g e; omega⟩, fun e => ?_⟩
    have := ptr_inj e
    omega
end
/-- A new reader, and bytes that were made ahead of it. -/
def Mq1 (z g : Nat) (mk : Bool) (P : Option Addr) (l : List Nat) (w : World) : Prop := Bk w g 59 (rd0 mk) ∧ Seg w P (u8s l) ∧ ∀ a, P = some a → a.block < z
theorem Mq1.bel {z g : Nat} {mk : Bool} {P : Option Addr} {l : List Nat} {w w' : World} (h : Mq1 z g mk P l w) (hb : Below w.heap.size w w') : Mq1 z g mk P l w' := ⟨h.1.bel hb, h.2.1.bel hb, h.2.2⟩
theorem Mq1.kq {z g g' : Nat} {mk : Bool} {P : Option Addr} {l : List Nat} {w w' : World} (h : Mq1 z g mk P l w) (k : KQ g' w w') (hg : g ≠ g') (hz : z ≤ g') : Mq1 z g mk P l w' := ⟨bk_kept h.1 hg k.kept, h.2.1.kept k.kept (fun a e => by have := h.2.2 a e; omega), h.2.2⟩
/-- The three frames and both masks. -/
structure MkS (w : World) (g q7 q8 q9 : Nat) (C7 C8 C9 : Array Value) (a b : Nat → Nat) (w1 : World) : Prop where
  bel : Below w.heap.size w w1
  k7 : Bk w1 q7 24 C7
  k8 : Bk w1 q8 24 C8
  k9 : Bk w1 q9 24 C9
  a4 : Bk w1 (g + 1) 22 (msA a)
  a5 : Bk w1 (g + 2) 22 (msA b)
def MkP (w : World) (g q7 q8 q9 : Nat) : Prop := (g + 2 < q7 ∧ g + 2 < q8 ∧ g + 2 < q9) ∧ q7 ≠ q8 ∧ q7 ≠ q9 ∧ q8 ≠ q9 ∧ w.heap.size ≤ q7 ∧ w.heap.size ≤ q8 ∧ w.heap.size ≤ q9
section
variable {w w1 : World} {g q7 q8 q9 : Nat} {C7 C8 C9 : Array Value} {a b : Nat → Nat}
theorem MkS.put7 (h : MkS w g q7 q8 q9 C7 C8 C9 a b w1) (p : MkP w g q7 q8 q9) (i : Nat) (x : Value) : MkS w g q7 q8 q9 (C7.setIfInBounds i x) C8 C9 a b (w1.setCell ⟨q7, i, none⟩ x) := by
  obtain ⟨⟨p7, p8, p9⟩, n1, n2, n3, z1, z2, z3⟩ := p
  have k := Kept1.set w1 q7 i x
  exact ⟨h.bel.setCell (p := ⟨q7, i, none⟩) z1 _, h.k7.put i x, bk_kept h.k8 (Ne.symm n1) k, bk_kept h.k9 (Ne.symm n2) k, bk_kept h.a4 (by omega) k, bk_kept h.a5 (by omega) k⟩
theorem MkS.put8 (h : MkS w g q7 q8 q9 C7 C8 C9 a b w1) (p : MkP w g q7 q8 q9) (i : Nat) (x : Value) : MkS w g q7 q8 q9 C7 (C8.setIfInBounds i x) C9 a b (w1.setCell ⟨q8, i, none⟩ x) := by
  obtain ⟨⟨p7, p8, p9⟩, n1, n2, n3, z1, z2, z3⟩ := p
  have k := Kept1.set w1 q8 i x
  exact ⟨h.bel.setCell (p := ⟨q8, i, none⟩) z2 _, bk_kept h.k7 n1 k, h.k8.put i x, bk_kept h.k9 (Ne.symm n3) k, bk_kept h.a4 (by omega) k, bk_kept h.a5 (by omega) k⟩
theorem MkS.put9 (h : MkS w g q7 q8 q9 C7 C8 C9 a b w1) (p : MkP w g q7 q8 q9) (i : Nat) (x : Value) : MkS w g q7 q8 q9 C7 C8 (C9.setIfInBounds i x) a b (w1.setCell ⟨q9, i, none⟩ x) := by
  obtain ⟨⟨p7, p8, p9⟩, n1, n2, n3, z1, z2, z3⟩ := p
  have k := Kept1.set w1 q9 i x
  exact ⟨h.bel.setCell (p := ⟨q9, i, none⟩) z3 _, bk_kept h.k7 n2 k, bk_kept h.k8 n3 k, h.k9.put i x, bk_kept h.a4 (by omega) k, bk_kept h.a5 (by omega) k⟩
end
set_option maxRecDepth 100000 in
set_option maxHeartbeats 4000000 in
theorem masks_ok (fin msk : Bool) (op : Nat) (M a b : Nat → Nat) (p : ByteArray) (hop : op < 16) (hp : p.size ≤ 4000) (ha : ∀ i, i < 4 → a i < 256) (hb : ∀ i, i < 4 → b i < 256) (hM : ∀ i, i < 4 → M i < 256) (w : World) (hT : Tabs w) :
    Calls Tryd.prog 7 #[.agg (frO fin (op : Nat) msk M p), .agg (msA a), .agg (msA b)] w fun e w' => e = .returned (.bool true) ∧ Below w.heap.size w w' := by
  obtain ⟨w1, hw1⟩ : ∃ x, x = w.alloc (.cells (frO fin (op : Nat) msk M p) 24) := ⟨_, rfl⟩
  obtain ⟨w2, hw2⟩ : ∃ x, x = w1.alloc (.cells (msA a) 22) := ⟨_, rfl⟩
  obtain ⟨w3, hw3⟩ : ∃ x, x = w2.alloc (.cells (msA b) 22) := ⟨_, rfl⟩
  have b1 : Below w.heap.size w w1 := by rw [hw1]; exact (Below.refl _ _).alloc (Nat.le_refl _) _
  have b2 : Below w.heap.size w w2 := by rw [hw2]; exact b1.alloc b1.size _
  have b3 : Below w.heap.size w w3 := by rw [hw3]; exact b2.alloc b2.size _
  obtain ⟨g, hg⟩ : ∃ x, x = w.heap.size := ⟨_, rfl⟩
  have s1 : w1.heap.size = g + 1 := by rw [hw1, hg]; simp
  have s2 : w2.heap.size = g + 2 := by rw [hw2]; simp [s1]
  have hB : Bk w3 g 24 (frO fin (op : Nat) msk M p) := by rw [hw3, hw2, hw1, hg]; exact ((Bk.new w _ _).alloc _).alloc _
  have hA4 : Bk w3 (g + 1) 22 (msA a) := by rw [hw3, hw2, ← s1]; exact (Bk.new w1 _ _).alloc _
  have hA5 : Bk w3 (g + 2) 22 (msA b) := by rw [hw3, ← s2]; exact Bk.new w2 _ _
  have y1 : w3.cell? ⟨g, 1, none⟩ = some (.int .i64 (op : Nat)) := hB.cell 1
  have y7 : w3.cell? ⟨g, 7, none⟩ = some (.string p) := hB.cell 7
  have i1 : decide ((4000 : Int) < (p.size : Int)) = false := by simp; omega
  have i2 : ¬ (4000 : Int) < (p.size : Int) := by omega
  have i3 : decide ((op : Int) < 0) = false := by simp
  have i4 : ¬ (op : Int) < 0 := by omega
  have i5 : ¬ (15 : Int) < (op : Int) := by omega
  have HB3 := Lib.hid b3
  have HB := Lib.hid hB
  have HA4 := Lib.hid hA4
  have HA5 := Lib.hid hA5
  have HW1 := Lib.hid hw1
  have HW2 := Lib.hid hw2
  have HW3 := Lib.hid hw3
  have HG := Lib.hid hg
  have HT := Lib.hid hT
  have HLT := Lib.hid (show g + 2 < w3.heap.size from hA5.lt)
  clear hw1 hw2 hw3 b1 b2 b3 hB hT hg hA4 hA5 s1 s2
  unfold frO at HW1 ⊢
  unfold msA at HW2 HW3 ⊢
  go_enter Tryd.func7, Tryd.ntmps7
  go_upto_region 1 with fail
  rw [← HW1.out, ← HW2.out, ← HW3.out, ← HG.out]
  go_upto_region 3 with fail
  clear y1 y7 i1 i2 i3
  refine wp_region_listF [some 35, some 36, some 37, some 7, some 8, some 9, none, none, none] (fun j => bif j == 6 then 7 else bif j == 7 then 8 else bif j == 8 then 9 else 0) (mkF w3.heap.size fin msk op M p) (mkG w3) (by kernel_rfl) (by refine ⟨(Below.refl _ _).drew, fun q => ⟨fun e => ?_, fun e => ?_, fun e => ?_⟩⟩ <;> cases e) rfl (by kernel_rfl) (by kernel_rfl) (by kernel_rfl) (by kernel_rfl) (fun T hT => ?_)
  simp only [List.filterMap_cons, List.filterMap_nil, id, putsS, Act.put, List.setIfInBounds_toArray, List.set_cons_zero, List.set_cons_succ] at hT
  subst hT
  refine ⟨⟨?_, ?_, ?_, ?_, ?_, ?_, ?_, ?_, ?_, trivial⟩, ?_⟩
  · -- 0: Op.load 24 t3
    intro f w1 hG hF K hK
    clear hF
    dsimp only at hK ⊢
    obtain ⟨y0, y1, y2, y3, y4, y5, y6, y7⟩ := cells8 (show Bk w1 g 24 #[.bool fin, .int .i64 (op : Nat), .bool msk, .int .u8 (M 0 : Nat), .int .u8 (M 1 : Nat), .int .u8 (M 2 : Nat), .int .u8 (M 3 : Nat), .string p] from HB.out.bel hG.1)
    go_simp
    exact hK.out _ _ ⟨hG.1, apart_upd hG.2 (by decide)⟩ rfl (fun _ _ _ h => h)
  · -- 1: Op.load 24 t3
    intro f w1 hG hF K hK
    clear hF
    dsimp only at hK ⊢
    obtain ⟨y0, y1, y2, y3, y4, y5, y6, y7⟩ := cells8 (show Bk w1 g 24 #[.bool fin, .int .i64 (op : Nat), .bool msk, .int .u8 (M 0 : Nat), .int .u8 (M 1 : Nat), .int .u8 (M 2 : Nat), .int .u8 (M 3 : Nat), .string p] from HB.out.bel hG.1)
    go_simp
    exact hK.out _ _ ⟨hG.1, apart_upd hG.2 (by decide)⟩ rfl (fun _ _ _ h => h)
  · -- 2: Op.load 24 t3
    intro f w1 hG hF K hK
    clear hF
    dsimp only at hK ⊢
    obtain ⟨y0, y1, y2, y3, y4, y5, y6, y7⟩ := cells8 (show Bk w1 g 24 #[.bool fin, .int .i64 (op : Nat), .bool msk, .int .u8 (M 0 : Nat), .int .u8 (M 1 : Nat), .int .u8 (M 2 : Nat), .int .u8 (M 3 : Nat), .string p] from HB.out.bel hG.1)
    go_simp
    exact hK.out _ _ ⟨hG.1, apart_upd hG.2 (by decide)⟩ rfl (fun _ _ _ h => h)
  · -- 3: Op.alloc 24
    intro f w1 hG hF K hK
    clear hF
    dsimp only at hK ⊢
    go_simp
    have al := (Below.refl w1.heap.size w1).alloc (Nat.le_refl _) (.cells #[.bool false, .int .i64 0, .bool false, .int .u8 0, .int .u8 0, .int .u8 0, .int .u8 0, .string ⟨#[]⟩] 24)
    exact hK.out _ _ ⟨hG.1.alloc hG.1.size _, by have := apart_new (d := 7) hG.2 (by decide); simpa using this⟩ ⟨w1.heap.size, rfl, hG.1.size, _, _, _, _, _, _, _, _, Bk.new w1 _ _⟩ (fun j _ _ h => mkF_bel al j _ _ h)
  · -- 4: Op.alloc 24
    intro f w1 hG hF K hK
    clear hF
    dsimp only at hK ⊢
    go_simp
    have al := (Below.refl w1.heap.size w1).alloc (Nat.le_refl _) (.cells #[.bool false, .int .i64 0, .bool false, .int .u8 0, .int .u8 0, .int .u8 0, .int .u8 0, .string ⟨#[]⟩] 24)
    exact hK.out _ _ ⟨hG.1.alloc hG.1.size _, by have := apart_new (d := 8) hG.2 (by decide); simpa using this⟩ ⟨w1.heap.size, rfl, hG.1.size, _, _, _, _, _, _, _, _, Bk.new w1 _ _⟩ (fun j _ _ h => mkF_bel al j _ _ h)
  · -- 5: Op.alloc 24
    intro f w1 hG hF K hK
    clear hF
    dsimp only at hK ⊢
    go_simp
    have al := (Below.refl w1.heap.size w1).alloc (Nat.le_refl _) (.cells #[.bool false, .int .i64 0, .bool false, .int .u8 0, .int .u8 0, .int .u8 0, .int .u8 0, .string ⟨#[]⟩] 24)
    exact hK.out _ _ ⟨hG.1.alloc hG.1.size _, by have := apart_new (d := 9) hG.2 (by decide); simpa using this⟩ ⟨w1.heap.size, rfl, hG.1.size, _, _, _, _, _, _, _, _, Bk.new w1 _ _⟩ (fun j _ _ h => mkF_bel al j _ _ h)
  · -- 6: Op.store 24 t7 t35
    intro f w1 hG hF K hK
    have d3 : (mkF w3.heap.size fin msk op M p) 3 (f 7) (f 0) w1 := hF 3 (by kernel_rfl)
    have d0 : (mkF w3.heap.size fin msk op M p) 0 (f 35) (f 0) w1 := hF 0 (by kernel_rfl)
    clear hF
    dsimp only at hK ⊢
    generalize hf7 : f 7 = v7 at *
    generalize hf35 : f 35 = v35 at *
    obtain ⟨g9, rfl, hg9, c0, c1, c2, c3, c4, c5, c6, c7, hb9⟩ := d3
    subst d0
    obtain ⟨y0, y1, y2, y3, y4, y5, y6, y7⟩ := cells8 hb9
    have f0 := hb9.frozen 0
    have f1 := hb9.frozen 1
    have f2 := hb9.frozen 2
    have f3 := hb9.frozen 3
    have f4 := hb9.frozen 4
    have f5 := hb9.frozen 5
    have f6 := hb9.frozen 6
    have f7 := hb9.frozen 7
    have hN := below8 hG.1 hg9 (.bool fin) (.int .i64 (op : Nat)) (.bool msk) (.int .u8 (M 0 : Nat)) (.int .u8 (M 1 : Nat)) (.int .u8 (M 2 : Nat)) (.int .u8 (M 3 : Nat)) (.string p)
    have hM2 := box8 hb9 (.bool fin) (.int .i64 (op : Nat)) (.bool msk) (.int .u8 (M 0 : Nat)) (.int .u8 (M 1 : Nat)) (.int .u8 (M 2 : Nat)) (.int .u8 (M 3 : Nat)) (.string p)
    have hKK := (kept8 w1 g9 (.bool fin) (.int .i64 (op : Nat)) (.bool msk) (.int .u8 (M 0 : Nat)) (.int .u8 (M 1 : Nat)) (.int .u8 (M 2 : Nat)) (.int .u8 (M 3 : Nat)) (.string p)).size
    have hF1 := fun g' h => any8 (g' := g') (a0 := .bool fin) (a1 := .int .i64 (op : Nat)) (a2 := .bool msk) (a3 := .int .u8 (M 0 : Nat)) (a4 := .int .u8 (M 1 : Nat)) (a5 := .int .u8 (M 2 : Nat)) (a6 := .int .u8 (M 3 : Nat)) (a7 := .string p) hb9 h
    have hF2 := fun g' h => one8 (g' := g') (a0 := .bool fin) (a1 := .int .i64 (op : Nat)) (a2 := .bool msk) (a3 := .int .u8 (M 0 : Nat)) (a4 := .int .u8 (M 1 : Nat)) (a5 := .int .u8 (M 2 : Nat)) (a6 := .int .u8 (M 3 : Nat)) (a7 := .string p) hb9 h
    obtain ⟨W9, hW9⟩ : ∃ x, x = set8 w1 g9 (.bool fin) (.int .i64 (op : Nat)) (.bool msk) (.int .u8 (M 0 : Nat)) (.int .u8 (M 1 : Nat)) (.int .u8 (M 2 : Nat)) (.int .u8 (M 3 : Nat)) (.string p) := ⟨_, rfl⟩
    rw [← hW9] at hN hM2 hKK
    simp only [← hW9] at hF1 hF2
    have hFF := mkF_set (z := w3.heap.size) (fin := fin) (msk := msk) (op := op) (M := M) (p := p) hF1 hF2
    unfold set8 at hW9
    go_simp
    rw [← hW9]
    exact hK.out undef _ ⟨hN, apart_mono hG.2 hKK⟩ ⟨g9, hf7, hg9, hM2⟩ (fun j _ _ h => hFF j _ _ h)
  · -- 7: Op.store 24 t8 t36
    intro f w1 hG hF K hK
    have d4 : (mkF w3.heap.size fin msk op M p) 4 (f 8) (f 0) w1 := hF 4 (by kernel_rfl)
    have d1 : (mkF w3.heap.size fin msk op M p) 1 (f 36) (f 0) w1 := hF 1 (by kernel_rfl)
    clear hF
    dsimp only at hK ⊢
    generalize hf8 : f 8 = v8 at *
    generalize hf36 : f 36 = v36 at *
    obtain ⟨g9, rfl, hg9, c0, c1, c2, c3, c4, c5, c6, c7, hb9⟩ := d4
    subst d1
    obtain ⟨y0, y1, y2, y3, y4, y5, y6, y7⟩ := cells8 hb9
    have f0 := hb9.frozen 0
    have f1 := hb9.frozen 1
    have f2 := hb9.frozen 2
    have f3 := hb9.frozen 3
    have f4 := hb9.frozen 4
    have f5 := hb9.frozen 5
    have f6 := hb9.frozen 6
    have f7 := hb9.frozen 7
    have hN := below8 hG.1 hg9 (.bool fin) (.int .i64 (op : Nat)) (.bool msk) (.int .u8 (M 0 : Nat)) (.int .u8 (M 1 : Nat)) (.int .u8 (M 2 : Nat)) (.int .u8 (M 3 : Nat)) (.string p)
    have hM2 := box8 hb9 (.bool fin) (.int .i64 (op : Nat)) (.bool msk) (.int .u8 (M 0 : Nat)) (.int .u8 (M 1 : Nat)) (.int .u8 (M 2 : Nat)) (.int .u8 (M 3 : Nat)) (.string p)
    have hKK := (kept8 w1 g9 (.bool fin) (.int .i64 (op : Nat)) (.bool msk) (.int .u8 (M 0 : Nat)) (.int .u8 (M 1 : Nat)) (.int .u8 (M 2 : Nat)) (.int .u8 (M 3 : Nat)) (.string p)).size
    have hF1 := fun g' h => any8 (g' := g') (a0 := .bool fin) (a1 := .int .i64 (op : Nat)) (a2 := .bool msk) (a3 := .int .u8 (M 0 : Nat)) (a4 := .int .u8 (M 1 : Nat)) (a5 := .int .u8 (M 2 : Nat)) (a6 := .int .u8 (M 3 : Nat)) (a7 := .string p) hb9 h
    have hF2 := fun g' h => one8 (g' := g') (a0 := .bool fin) (a1 := .int .i64 (op : Nat)) (a2 := .bool msk) (a3 := .int .u8 (M 0 : Nat)) (a4 := .int .u8 (M 1 : Nat)) (a5 := .int .u8 (M 2 : Nat)) (a6 := .int .u8 (M 3 : Nat)) (a7 := .string p) hb9 h
    obtain ⟨W9, hW9⟩ : ∃ x, x = set8 w1 g9 (.bool fin) (.int .i64 (op : Nat)) (.bool msk) (.int .u8 (M 0 : Nat)) (.int .u8 (M 1 : Nat)) (.int .u8 (M 2 : Nat)) (.int .u8 (M 3 : Nat)) (.string p) := ⟨_, rfl⟩
    rw [← hW9] at hN hM2 hKK
    simp only [← hW9] at hF1 hF2
    have hFF := mkF_set (z := w3.heap.size) (fin := fin) (msk := msk) (op := op) (M := M) (p := p) hF1 hF2
    unfold set8 at hW9
    go_simp
    rw [← hW9]
    exact hK.out undef _ ⟨hN, apart_mono hG.2 hKK⟩ ⟨g9, hf8, hg9, hM2⟩ (fun j _ _ h => hFF j _ _ h)
  · -- 8: Op.store 24 t9 t37
    intro f w1 hG hF K hK
    have d5 : (mkF w3.heap.size fin msk op M p) 5 (f 9) (f 0) w1 := hF 5 (by kernel_rfl)
    have d2 : (mkF w3.heap.size fin msk op M p) 2 (f 37) (f 0) w1 := hF 2 (by kernel_rfl)
    clear hF
    dsimp only at hK ⊢
    generalize hf9 : f 9 = v9 at *
    generalize hf37 : f 37 = v37 at *
    obtain ⟨g9, rfl, hg9, c0, c1, c2, c3, c4, c5, c6, c7, hb9⟩ := d5
    subst d2
    obtain ⟨y0, y1, y2, y3, y4, y5, y6, y7⟩ := cells8 hb9
    have f0 := hb9.frozen 0
    have f1 := hb9.frozen 1
    have f2 := hb9.frozen 2
    have f3 := hb9.frozen 3
    have f4 := hb9.frozen 4
    have f5 := hb9.frozen 5
    have f6 := hb9.frozen 6
    have f7 := hb9.frozen 7
    have hN := below8 hG.1 hg9 (.bool fin) (.int .i64 (op : Nat)) (.bool msk) (.int .u8 (M 0 : Nat)) (.int .u8 (M 1 : Nat)) (.int .u8 (M 2 : Nat)) (.int .u8 (M 3 : Nat)) (.string p)
    have hM2 := box8 hb9 (.bool fin) (.int .i64 (op : Nat)) (.bool msk) (.int .u8 (M 0 : Nat)) (.int .u8 (M 1 : Nat)) (.int .u8 (M 2 : Nat)) (.int .u8 (M 3 : Nat)) (.string p)
    have hKK := (kept8 w1 g9 (.bool fin) (.int .i64 (op : Nat)) (.bool msk) (.int .u8 (M 0 : Nat)) (.int .u8 (M 1 : Nat)) (.int .u8 (M 2 : Nat)) (.int .u8 (M 3 : Nat)) (.string p)).size
    have hF1 := fun g' h => any8 (g' := g') (a0 := .bool fin) (a1 := .int .i64 (op : Nat)) (a2 := .bool msk) (a3 := .int .u8 (M 0 : Nat)) (a4 := .int .u8 (M 1 : Nat)) (a5 := .int .u8 (M 2 : Nat)) (a6 := .int .u8 (M 3 : Nat)) (a7 := .string p) hb9 h
    have hF2 := fun g' h => one8 (g' := g') (a0 := .bool fin) (a1 := .int .i64 (op : Nat)) (a2 := .bool msk) (a3 := .int .u8 (M 0 : Nat)) (a4 := .int .u8 (M 1 : Nat)) (a5 := .int .u8 (M 2 : Nat)) (a6 := .int .u8 (M 3 : Nat)) (a7 := .string p) hb9 h
    obtain ⟨W9, hW9⟩ : ∃ x, x = set8 w1 g9 (.bool fin) (.int .i64 (op : Nat)) (.bool msk) (.int .u8 (M 0 : Nat)) (.int .u8 (M 1 : Nat)) (.int .u8 (M 2 : Nat)) (.int .u8 (M 3 : Nat)) (.string p) := ⟨_, rfl⟩
    rw [← hW9] at hN hM2 hKK
    simp only [← hW9] at hF1 hF2
    have hFF := mkF_set (z := w3.heap.size) (fin := fin) (msk := msk) (op := op) (M := M) (p := p) hF1 hF2
    unfold set8 at hW9
    go_simp
    rw [← hW9]
    exact hK.out undef _ ⟨hN, apart_mono hG.2 hKK⟩ ⟨g9, hf9, hg9, hM2⟩ (fun j _ _ h => hFF j _ _ h)
  intro f w7 hG hF
  have R6 : ∃ q, f 7 = .pointer (some ⟨q, 0, none⟩) ∧ w3.heap.size ≤ q ∧ Bk w7 q 24 (frO fin (op : Nat) msk M p) := hF 6 (by decide)
  have R7 : ∃ q, f 8 = .pointer (some ⟨q, 0, none⟩) ∧ w3.heap.size ≤ q ∧ Bk w7 q 24 (frO fin (op : Nat) msk M p) := hF 7 (by decide)
  have R8 : ∃ q, f 9 = .pointer (some ⟨q, 0, none⟩) ∧ w3.heap.size ≤ q ∧ Bk w7 q 24 (frO fin (op : Nat) msk M p) := hF 8 (by decide)
  clear hF
  obtain ⟨q7, e7, l7, k7⟩ := R6
  obtain ⟨q8, e8, l8, k8⟩ := R7
  obtain ⟨q9, e9, l9, k9⟩ := R8
  have n78 : q7 ≠ q8 := fun e => by subst e; exact ((hG.2 q7).1 e7).2.1 e8
  have n79 : q7 ≠ q9 := fun e => by subst e; exact ((hG.2 q7).1 e7).2.2 e9
  have n89 : q8 ≠ q9 := fun e => by subst e; exact ((hG.2 q8).2.1 e8).2 e9
  dsimp only
  rw [e7, e8, e9]
  generalize f 35 = v35
  generalize f 36 = v36
  generalize f 37 = v37
  have HBW := Lib.hid (show Below w.heap.size w w7 from HB3.out.trans (hG.1.mono HB3.out.size))
  have A4 := HA4.out.bel hG.1
  have A5 := HA5.out.bel hG.1
  have p7 : g + 2 < q7 := by have := HLT.out; omega
  have p8 : g + 2 < q8 := by have := HLT.out; omega
  have p9 : g + 2 < q9 := by have := HLT.out; omega
  have HP := Lib.hid (show MkP w g q7 q8 q9 from ⟨⟨p7, p8, p9⟩, n78, n79, n89, by have := HG.out; omega, by have := HG.out; omega, by have := HG.out; omega⟩)
  have HS0 := Lib.hid (show MkS w g q7 q8 q9 (frO fin (op : Nat) msk M p) (frO fin (op : Nat) msk M p) (frO fin (op : Nat) msk M p) a b w7 from ⟨HBW.out, k7, k8, k9, A4, A5⟩)
  clear hG k7 k8 k9 A4 A5 p7 p8 p9 n78 n79 n89 e7 e8 e9 l7 l8 l9 HBW HA4 HA5 HB HW1 HW2 HW3 HB3
  go_upto_region 4 with fail
  have y2 : w7.cell? ⟨q7, 2, none⟩ = some (.bool msk) := HS0.out.k7.cell 2
  have z2 := HS0.out.k7.frozen 2
  obtain ⟨w8, hw8⟩ : ∃ x, x = w7.setCell ⟨q7, 2, none⟩ (.bool true) := ⟨_, rfl⟩
  have HS1 := Lib.hid (show MkS w g q7 q8 q9 (frO fin (op : Nat) true M p) (frO fin (op : Nat) msk M p) (frO fin (op : Nat) msk M p) a b w8 by rw [hw8]; exact HS0.out.put7 HP.out 2 _)
  have HW8 := Lib.hid hw8
  clear hw8 HS0
  go_upto_region 5 with fail
  rw [← HW8.out]
  clear y2 z2
  have HC := HS1.out
  have x0 : w8.cell? ⟨g + 1, 0, none⟩ = some (.int .u8 (a 0 : Nat)) := HC.a4.cell 0
  have y0 : w8.cell? ⟨q7, 3, none⟩ = some (.int .u8 (M 0 : Nat)) := HC.k7.cell 3
  have z0 := HC.k7.frozen 3
  have x1 : w8.cell? ⟨g + 1, 1, none⟩ = some (.int .u8 (a 1 : Nat)) := HC.a4.cell 1
  have y1 : w8.cell? ⟨q7, 4, none⟩ = some (.int .u8 (M 1 : Nat)) := HC.k7.cell 4
  have z1 := HC.k7.frozen 4
  have x2 : w8.cell? ⟨g + 1, 2, none⟩ = some (.int .u8 (a 2 : Nat)) := HC.a4.cell 2
  have y2 : w8.cell? ⟨q7, 5, none⟩ = some (.int .u8 (M 2 : Nat)) := HC.k7.cell 5
  have z2 := HC.k7.frozen 5
  have x3 : w8.cell? ⟨g + 1, 3, none⟩ = some (.int .u8 (a 3 : Nat)) := HC.a4.cell 3
  have y3 : w8.cell? ⟨q7, 6, none⟩ = some (.int .u8 (M 3 : Nat)) := HC.k7.cell 6
  have z3 := HC.k7.frozen 6
  obtain ⟨w9, hw9⟩ : ∃ x, x = ((((w8.setCell ⟨q7, 3, none⟩ (.int .u8 (a 0 : Nat))).setCell ⟨q7, 4, none⟩ (.int .u8 (a 1 : Nat))).setCell ⟨q7, 5, none⟩ (.int .u8 (a 2 : Nat))).setCell ⟨q7, 6, none⟩ (.int .u8 (a 3 : Nat))) := ⟨_, rfl⟩
  have HS2 := Lib.hid (show MkS w g q7 q8 q9 (frO fin (op : Nat) true a p) (frO fin (op : Nat) msk M p) (frO fin (op : Nat) msk M p) a b w9 by rw [hw9]; exact (((HC.put7 HP.out 3 _).put7 HP.out 4 _).put7 HP.out 5 _).put7 HP.out 6 _)
  have HW9 := Lib.hid hw9
  clear hw9 HS1 HC
  go_upto_region 6 with fail
  rw [← HW9.out]
  clear x0 x1 x2 x3 y0 y1 y2 y3 z0 z1 z2 z3
  have y2 : w9.cell? ⟨q8, 2, none⟩ = some (.bool msk) := HS2.out.k8.cell 2
  have z2 := HS2.out.k8.frozen 2
  obtain ⟨w10, hw10⟩ : ∃ x, x = w9.setCell ⟨q8, 2, none⟩ (.bool true) := ⟨_, rfl⟩
  have HS3 := Lib.hid (show MkS w g q7 q8 q9 (frO fin (op : Nat) true a p) (frO fin (op : Nat) true M p) (frO fin (op : Nat) msk M p) a b w10 by rw [hw10]; exact HS2.out.put8 HP.out 2 _)
  have HW10 := Lib.hid hw10
  clear hw10 HS2
  go_upto_region 7 with fail
  rw [← HW10.out]
  clear y2 z2
  have HC := HS3.out
  have x0 : w10.cell? ⟨g + 2, 0, none⟩ = some (.int .u8 (b 0 : Nat)) := HC.a5.cell 0
  have y0 : w10.cell? ⟨q8, 3, none⟩ = some (.int .u8 (M 0 : Nat)) := HC.k8.cell 3
  have z0 := HC.k8.frozen 3
  have x1 : w10.cell? ⟨g + 2, 1, none⟩ = some (.int .u8 (b 1 : Nat)) := HC.a5.cell 1
  have y1 : w10.cell? ⟨q8, 4, none⟩ = some (.int .u8 (M 1 : Nat)) := HC.k8.cell 4
  have z1 := HC.k8.frozen 4
  have x2 : w10.cell? ⟨g + 2, 2, none⟩ = some (.int .u8 (b 2 : Nat)) := HC.a5.cell 2
  have y2 : w10.cell? ⟨q8, 5, none⟩ = some (.int .u8 (M 2 : Nat)) := HC.k8.cell 5
  have z2 := HC.k8.frozen 5
  have x3 : w10.cell? ⟨g + 2, 3, none⟩ = some (.int .u8 (b 3 : Nat)) := HC.a5.cell 3
  have y3 : w10.cell? ⟨q8, 6, none⟩ = some (.int .u8 (M 3 : Nat)) := HC.k8.cell 6
  have z3 := HC.k8.frozen 6
  obtain ⟨w11, hw11⟩ : ∃ x, x = ((((w10.setCell ⟨q8, 3, none⟩ (.int .u8 (b 0 : Nat))).setCell ⟨q8, 4, none⟩ (.int .u8 (b 1 : Nat))).setCell ⟨q8, 5, none⟩ (.int .u8 (b 2 : Nat))).setCell ⟨q8, 6, none⟩ (.int .u8 (b 3 : Nat))) := ⟨_, rfl⟩
  have HS4 := Lib.hid (show MkS w g q7 q8 q9 (frO fin (op : Nat) true a p) (frO fin (op : Nat) true b p) (frO fin (op : Nat) msk M p) a b w11 by rw [hw11]; exact (((HC.put8 HP.out 3 _).put8 HP.out 4 _).put8 HP.out 5 _).put8 HP.out 6 _)
  have HW11 := Lib.hid hw11
  clear hw11 HS3 HC
  go_upto_region 8 with fail
  rw [← HW11.out]
  clear x0 x1 x2 x3 y0 y1 y2 y3 z0 z1 z2 z3
  have y2 : w11.cell? ⟨q9, 2, none⟩ = some (.bool msk) := HS4.out.k9.cell 2
  have z2 := HS4.out.k9.frozen 2
  obtain ⟨w12, hw12⟩ : ∃ x, x = w11.setCell ⟨q9, 2, none⟩ (.bool false) := ⟨_, rfl⟩
  have HS5 := Lib.hid (show MkS w g q7 q8 q9 (frO fin (op : Nat) true a p) (frO fin (op : Nat) true b p) (frO fin (op : Nat) false M p) a b w12 by rw [hw12]; exact HS4.out.put9 HP.out 2 _)
  have HW12 := Lib.hid hw12
  clear hw12 HS4
  go_upto_region 9 with fail
  rw [← HW12.out]
  clear y2 z2
  have hp4 : p.size ≤ 4096 := by omega
  have HK8 := Lib.hid HS5.out.k8
  have HK9 := Lib.hid HS5.out.k9
  have HBA := Lib.hid HS5.out.bel
  obtain ⟨y0, y1, y2, y3, y4, y5, y6, y7⟩ := cells8 (show Bk w12 q7 24 #[.bool fin, .int .i64 (op : Nat), .bool true, .int .u8 (a 0 : Nat), .int .u8 (a 1 : Nat), .int .u8 (a 2 : Nat), .int .u8 (a 3 : Nat), .string p] from HS5.out.k7)
  have HOP := Lib.hid (show op < 16 ∧ p.size ≤ 4096 ∧ (∀ i, i < 4 → a i < 256) ∧ (∀ i, i < 4 → b i < 256) ∧ (∀ i, i < 4 → M i < 256) from ⟨hop, hp4, ha, hb, hM⟩)
  have hLL := runN_enc fin op true true p a b hop hp4
  have hLL2 := runN_enc fin op true false p a M hop hp4
  obtain ⟨la, hla⟩ : ∃ x, x = encN ⟨fin, op, true, p⟩ a := ⟨_, rfl⟩
  obtain ⟨lb, hlb⟩ : ∃ x, x = encN ⟨fin, op, true, p⟩ b := ⟨_, rfl⟩
  obtain ⟨lc, hlc⟩ : ∃ x, x = encN ⟨fin, op, false, p⟩ M := ⟨_, rfl⟩
  have e1 := encN_length fin op true p a
  have e2 := encN_length fin op true p b
  have e3 := encN_length fin op false p M
  rw [← hla] at e1 hLL hLL2
  rw [← hlb] at e2 hLL
  rw [← hlc] at e3 hLL2
  have HE1 := Lib.hid hla
  have HE2 := Lib.hid hlb
  have HE3 := Lib.hid hlc
  have HL1 := Lib.hid (show ∀ x ∈ la, x < 256 by rw [hla]; exact encN_lt fin op true p a hop hp4 ha)
  have HL2 := Lib.hid (show ∀ x ∈ lb, x < 256 by rw [hlb]; exact encN_lt fin op true p b hop hp4 hb)
  have HL3 := Lib.hid (show ∀ x ∈ lc, x < 256 by rw [hlc]; exact encN_lt fin op false p M hop hp4 hM)
  obtain ⟨L, hL⟩ : ∃ x, x = (feedN true st0 la).1 := ⟨_, rfl⟩
  rw [← hL] at hLL hLL2
  have HLA := Lib.hid hL
  have HLB := Lib.hid hLL
  have HLC := Lib.hid hLL2
  obtain ⟨na, hna⟩ : ∃ x, x = la.length := ⟨_, rfl⟩
  obtain ⟨nb, hnb⟩ : ∃ x, x = lb.length := ⟨_, rfl⟩
  obtain ⟨nc, hnc⟩ : ∃ x, x = lc.length := ⟨_, rfl⟩
  have hnab : na = nb := by rw [hna, hnb, e1, e2]
  have hnac : na = nc + 4 := by
    rw [hna, hnc, e1, e3, if_pos rfl, if_neg (show ¬ (false = true) by decide)]
    omega
  have hn5 : nc ≤ 4100 := by rw [hnc, e3, if_neg (show ¬ (false = true) by decide)]; split <;> omega
  have hLn : L.length ≤ 5000 := by
    rw [hL]
    have := feedN_count true la
    omega
  have HNA := Lib.hid hna
  have HNB := Lib.hid hnb
  have HNC := Lib.hid hnc
  have HLN := Lib.hid hLn
  have HAB := Lib.hid hnab
  have HAC := Lib.hid hnac
  have HN5 := Lib.hid hn5
  clear e1 e2 e3 hla hlb hlc hL hLL hLL2 hna hnb hnc hnab hnac hn5 hLn HS5 hop hp hp4 ha hb hM
  go_upto_region 10 with (go_at_call 9; refine (enc_any fin true op a p HOP.out.1 HOP.out.2.1 HOP.out.2.2.1 w12).mono ?_; rintro e w13 ⟨v1, rfl, o1, b1⟩; rw [← HE1.out, ← HNA.out] at o1; obtain ⟨P1, c1, rfl, m1, s1, l1⟩ := own_seg o1; have HS1 := Lib.hid s1; have HX1 := Lib.hid l1; have HB1 := Lib.hid b1; have HM1 := Lib.hid m1; clear o1 s1 l1 b1 m1)
  clear y0 y1 y2 y3 y4 y5 y6 y7
  obtain ⟨y0, y1, y2, y3, y4, y5, y6, y7⟩ := cells8 (show Bk w13 q8 24 #[.bool fin, .int .i64 (op : Nat), .bool true, .int .u8 (b 0 : Nat), .int .u8 (b 1 : Nat), .int .u8 (b 2 : Nat), .int .u8 (b 3 : Nat), .string p] from HK8.out.bel HB1.out)
  go_upto_region 11 with (go_at_call 9; refine (enc_any fin true op b p HOP.out.1 HOP.out.2.1 HOP.out.2.2.2.1 w13).mono ?_; rintro e w14 ⟨v1, rfl, o1, b1⟩; rw [← HE2.out, ← HNB.out] at o1; obtain ⟨P2, c2, rfl, m1, s1, l1⟩ := own_seg o1; have HS2 := Lib.hid s1; have HX2 := Lib.hid l1; have HB2 := Lib.hid b1; have HM2 := Lib.hid m1; clear o1 s1 l1 b1 m1)
  clear y0 y1 y2 y3 y4 y5 y6 y7
  obtain ⟨y0, y1, y2, y3, y4, y5, y6, y7⟩ := cells8 (show Bk w14 q9 24 #[.bool fin, .int .i64 (op : Nat), .bool false, .int .u8 (M 0 : Nat), .int .u8 (M 1 : Nat), .int .u8 (M 2 : Nat), .int .u8 (M 3 : Nat), .string p] from (HK9.out.bel HB1.out).bel HB2.out)
  go_upto_region 12 with (go_at_call 9; refine (enc_any fin false op M p HOP.out.1 HOP.out.2.1 HOP.out.2.2.2.2 w14).mono ?_; rintro e w15 ⟨v1, rfl, o1, b1⟩; rw [← HE3.out, ← HNC.out] at o1; obtain ⟨P3, c3, rfl, m1, s1, l1⟩ := own_seg o1; have HS3 := Lib.hid s1; have HX3 := Lib.hid l1; have HB3 := Lib.hid b1; have HM3 := Lib.hid m1; clear o1 s1 l1 b1 m1)
  clear y0 y1 y2 y3 y4 y5 y6 y7
  go_wp2_with fail
  refine (newReader_any true w15).mono ?_
  rintro e w16 ⟨rfl, r16, b16⟩
  have HR16 := Lib.hid r16
  have HB16 := Lib.hid b16
  clear r16 b16
  go_wp2_with fail
  refine (newReader_any true w16).mono ?_
  rintro e w17 ⟨rfl, r17, b17⟩
  have HR17 := Lib.hid r17
  have HB17 := Lib.hid b17
  clear r17 b17
  go_wp2_with fail
  refine (newReader_any false w17).mono ?_
  rintro e w18 ⟨rfl, r18, b18⟩
  have r16 := (HR16.out.bel HB17.out).bel b18
  have r17 := HR17.out.bel b18
  obtain ⟨gr, hgr⟩ : ∃ x, x = w15.heap.size := ⟨_, rfl⟩
  obtain ⟨gt, hgt⟩ : ∃ x, x = w16.heap.size := ⟨_, rfl⟩
  obtain ⟨gu, hgu⟩ : ∃ x, x = w17.heap.size := ⟨_, rfl⟩
  have t16 : gr < gt := by rw [hgr, hgt]; exact HR16.out.lt
  have t17 : gt < gu := by rw [hgt, hgu]; exact HR17.out.lt
  have t18 : gu < w18.heap.size := by rw [hgu]; exact r18.lt
  rw [← hgr] at r16
  rw [← hgt] at r17
  rw [← hgu] at r18
  rw [← hgr, ← hgt, ← hgu]
  have hbw : Below w.heap.size w w15 := ((HBA.out.trans (HB1.out.mono HBA.out.size)).trans (HB2.out.mono (HBA.out.trans (HB1.out.mono HBA.out.size)).size)).trans (HB3.out.mono ((HBA.out.trans (HB1.out.mono HBA.out.size)).trans (HB2.out.mono (HBA.out.trans (HB1.out.mono HBA.out.size)).size)).size)
  have b1518 : Below w15.heap.size w15 w18 := (HB16.out.trans (HB17.out.mono HB16.out.size)).trans (b18.mono (Nat.le_trans HB16.out.size HB17.out.size))
  have HB18 := Lib.hid (hbw.trans (b1518.mono hbw.size))
  have HGS := Lib.hid (show w.heap.size ≤ gr ∧ gr < gt ∧ gt < gu ∧ gu < w18.heap.size from ⟨by rw [hgr]; exact hbw.size, t16, t17, t18⟩)
  have Q1 := Lib.hid (show Mq1 gr gr true P1 la w18 from ⟨r16, ((HS1.out.bel HB2.out).bel HB3.out).bel b1518, fun x e => by have := (HX1.out x e).2; have := HB2.out.size; have := HB3.out.size; omega⟩)
  have Q2 := Lib.hid (show Mq1 gr gt true P2 lb w18 from ⟨r17, (HS2.out.bel HB3.out).bel b1518, fun x e => by have := (HX2.out x e).2; have := HB3.out.size; omega⟩)
  have Q3 := Lib.hid (show Mq1 gr gu false P3 lc w18 from ⟨r18, HS3.out.bel b1518, fun x e => by have := (HX3.out x e).2; omega⟩)
  clear r16 r17 r18 t16 t17 t18 hbw b1518 b18 hgr hgt hgu HR16 HR17 HB16 HB17 HS1 HS2 HS3 HX1 HX2 HX3 HB1 HB2 HB3 HK8 HK9 HBA HE1 HE2 HE3 HOP HP
  obtain ⟨nl, hnl⟩ : ∃ x, x = L.length := ⟨_, rfl⟩
  have HNL := Lib.hid hnl
  clear hnl
  have CF := Lib.hid (feed_any gr true st0 0 P1 na c1 la HNA.out (by have := HAC.out; have := HN5.out; omega) (st0_b _) HL1.out w18 ⟨w, HT.out, HB18.out, HGS.out.1⟩ (rds0 Q1.out.1) Q1.out.2.1)
  go_wp2_with fail
  refine CF.out.mono ?_
  rintro e w19 ⟨k19, v, rfl, o19, _⟩
  rw [← HLA.out, ← HNL.out] at o19
  obtain ⟨A1, d1, rfl, _, s19, _⟩ := own_seg o19
  have HB19 := Lib.hid (show Below w.heap.size w w19 from HB18.out.trans (k19.bel.mono HGS.out.1))
  have Q2b := Lib.hid (Q2.out.kq k19 (by have := HGS.out; omega) (Nat.le_refl _))
  have Q3b := Lib.hid (Q3.out.kq k19 (by have := HGS.out; omega) (Nat.le_refl _))
  have HK19 := Lib.hid k19.kept.size
  have CT := Lib.hid (told_any L A1 nl d1 HNL.out (by have := HLN.out; have := HNL.out; omega) w19 s19)
  clear k19 o19 s19 Q1 Q2 Q3 CF
  go_wp2_with fail
  refine CT.out.mono ?_
  rintro e w20 ⟨v, rfl, o20, b20⟩
  have R20 := RowS.of_own (z := w18.heap.size) o20 HK19.out
  have HB20 := Lib.hid (HB19.out.trans (b20.mono HB19.out.size))
  have CA := Lib.hid (awake_any w20 (HT.out.bel HB20.out))
  have HR20 := Lib.hid R20
  have Q2c := Lib.hid (Q2b.out.bel b20)
  have Q3c := Lib.hid (Q3b.out.bel b20)
  have HK20 := Lib.hid (Nat.le_trans HK19.out b20.size)
  clear R20 o20 b20 CT Q2b Q3b
  go_wp2_with fail
  refine CA.out.mono ?_
  rintro e w21 ⟨rfl, b21⟩
  have HB21 := Lib.hid (HB20.out.trans (b21.mono HB20.out.size))
  have Q2d := Lib.hid (Q2c.out.bel b21)
  have Q3d := Lib.hid (Q3c.out.bel b21)
  have HR21 := Lib.hid (HR20.out.bel b21)
  have HK21 := Lib.hid (Nat.le_trans HK20.out b21.size)
  have CF := Lib.hid (feed_any gt true st0 0 P2 nb c2 lb HNB.out (by have := HAC.out; have := HN5.out; have := HAB.out; omega) (st0_b _) HL2.out w21 ⟨w, HT.out, HB21.out, by have := HGS.out; omega⟩ (rds0 Q2d.out.1) Q2d.out.2.1)
  clear b21 CA Q2c Q3c HR20
  obtain ⟨Ax, dx, rfl, hdx, sx, hx⟩ := HR21.out
  go_wp2_with fail
  refine CF.out.mono ?_
  rintro e w22 ⟨k22, v, rfl, o22, _⟩
  rw [← HLB.out, ← HNL.out] at o22
  obtain ⟨A2, d2, rfl, _, s22, _⟩ := own_seg o22
  have HB22 := Lib.hid (show Below w.heap.size w w22 from HB21.out.trans (k22.bel.mono (by have := HGS.out; omega)))
  have Q3e := Lib.hid (Q3d.out.kq k22 (by have := HGS.out; omega) (by have := HGS.out; omega))
  have HSX := Lib.hid (sx.kept k22.kept (fun a e => by have := hx a e; have := HGS.out; omega))
  have HHX := Lib.hid hx
  have HK22 := Lib.hid (Nat.le_trans HK21.out k22.kept.size)
  have CT := Lib.hid (told_any L A2 nl d2 HNL.out (by have := HLN.out; have := HNL.out; omega) w22 s22)
  clear k22 o22 s22 Q2d Q3d CF sx hx HR21
  go_wp2_with fail
  refine CT.out.mono ?_
  rintro e w23 ⟨v, rfl, o23, b23⟩
  obtain ⟨A3, d3, rfl, _, s23, _⟩ := own_seg o23
  have HB23 := Lib.hid (HB22.out.trans (b23.mono HB22.out.size))
  have Q3f := Lib.hid (Q3e.out.bel b23)
  have HSX2 := Lib.hid (HSX.out.bel b23)
  have CS := Lib.hid (isame_any L Ax A3 nl dx d3 HNL.out (by have := HLN.out; have := HNL.out; omega) w23 HSX2.out s23)
  clear o23 s23 b23 CT Q3e HSX
  go_wp2_with fail
  refine CS.out.mono ?_
  rintro e w24 ⟨rfl, b24⟩
  have HB24 := Lib.hid (HB23.out.trans (b24.mono HB23.out.size))
  have Q3g := Lib.hid (Q3f.out.bel b24)
  have HSX3 := Lib.hid (HSX2.out.bel b24)
  have CF := Lib.hid (feed_any gu false st0 0 P3 nc c3 lc HNC.out (by have := HN5.out; omega) (st0_b _) HL3.out w24 ⟨w, HT.out, HB24.out, by have := HGS.out; omega⟩ (rds0 Q3g.out.1) Q3g.out.2.1)
  clear b24 CS Q3f HSX2
  go_wp2_with fail
  refine CF.out.mono ?_
  rintro e w25 ⟨k25, v, rfl, o25, _⟩
  rw [← HLC.out, ← HNL.out] at o25
  obtain ⟨A4, d4, rfl, _, s25, _⟩ := own_seg o25
  have HB25 := Lib.hid (show Below w.heap.size w w25 from HB24.out.trans (k25.bel.mono (by have := HGS.out; omega)))
  have HSX4 := Lib.hid (HSX3.out.kept k25.kept (fun a e => by have := HHX.out a e; have := HGS.out; omega))
  have CT := Lib.hid (told_any L A4 nl d4 HNL.out (by have := HLN.out; have := HNL.out; omega) w25 s25)
  clear k25 o25 s25 CF HSX3 Q3g
  go_wp2_with fail
  refine CT.out.mono ?_
  rintro e w26 ⟨v, rfl, o26, b26⟩
  obtain ⟨A5, d5, rfl, _, s26, _⟩ := own_seg o26
  have HB26 := Lib.hid (HB25.out.trans (b26.mono HB25.out.size))
  have CS := Lib.hid (isame_any L Ax A5 nl dx d5 HNL.out (by have := HLN.out; have := HNL.out; omega) w26 (HSX4.out.bel b26) s26)
  have j1 : ((na : Int) == (nb : Int)) = true := by have := HAB.out; simp; omega
  have j2 : ((na : Int) == (nc : Int) + 4) = true := by have := HAC.out; simp; omega
  have j3 : nc ≤ 4100 := HN5.out
  clear o26 s26 b26 CT HSX4
  go_wp2_with fail
  refine CS.out.mono ?_
  rintro e w27 ⟨rfl, b27⟩
  have HB27 := Lib.hid (HB26.out.trans (b27.mono HB26.out.size))
  clear b27
  go_wp2_with fail
  go_ret
  exact ⟨rfl, HB27.out⟩
theorem masks_any (fin msk : Bool) (op : Int) (M a b : Nat → Nat) (p : ByteArray) (ha : ∀ i, i < 4 → a i < 256) (hb : ∀ i, i < 4 → b i < 256) (hM : ∀ i, i < 4 → M i < 256) (w : World) (hT : Tabs w) :
    Calls Tryd.prog 7 #[.agg (frO fin op msk M p), .agg (msA a), .agg (msA b)] w fun e w' => e = .returned (.bool true) ∧ Below w.heap.size w w' := by
  by_cases hbad : 4000 < p.size ∨ op < 0 ∨ 15 < op
  · exact masks_bad fin msk op M a b p hbad w hT
  · obtain ⟨o, rfl⟩ : ∃ o : Nat, op = (o : Int) := ⟨op.toNat, by omega⟩
    exact masks_ok fin msk o M a b p (by omega) (by omega) ha hb hM w hT
end Go.Proofs.YtnbhgjionpidnaaDoor
