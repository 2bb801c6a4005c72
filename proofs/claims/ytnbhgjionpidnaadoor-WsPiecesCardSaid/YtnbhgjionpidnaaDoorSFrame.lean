/- The reader's next frame. Condition: the reader and what it has left lie in memory. -/
import Derived.Test.YtnbhgjionpidnaaDoorSItem2
import Derived.Test.YtnbhgjionpidnaaDoorTxtP
import Derived.Test.YtnbhgjionpidnaaDoorStableG
import Derived.Test.YtnbhgjionpidnaaDoorStableH
namespace Go.Proofs.YtnbhgjionpidnaaDoor
open Go.RowKit

/-- Slots that are known ahead. -/
def gvF (c : List Value) (j : Nat) (v _u : Value) (_w : World) : Prop := v = c.getD j undef
def maskF (l : List Nat) : Nat → Nat := fun i => l.getD i 0
/-- The next frame, with its mask, and what is left; or a code. -/
def frameN (mk : Bool) (kind tz : Nat) (l : List Nat) : Rs (FrM × (Nat → Nat)) :=
  if l.length < 2 then .no 0
  else if l.getD 0 0 / 16 % 8 ≠ 0 ∨ decide (128 ≤ l.getD 1 0) ≠ mk ∨ fitsB kind (l.getD 0 0 % 16) (decide (128 ≤ l.getD 0 0)) (l.getD 1 0 % 128) = false then .no 1002
  else match lngN (l.getD 1 0 % 128) (l.drop 2) with
  | .no c => .no c
  | .ok size l2 =>
    if l.getD 0 0 % 16 < 8 ∧ 4096 < tz + size then .no 1009
    else if mk = true then
      (if l2.length < 4 then .no 0 else if (l2.drop 4).length < size then .no 0
        else .ok (⟨decide (128 ≤ l.getD 0 0), l.getD 0 0 % 16, mk, txt (xorN (maskF l2) ((l2.drop 4).take size))⟩, maskF l2) ((l2.drop 4).drop size))
    else (if l2.length < size then .no 0
      else .ok (⟨decide (128 ≤ l.getD 0 0), l.getD 0 0 % 16, mk, txt (xorN (fun _ => 0) (l2.take size))⟩, fun _ => 0) (l2.drop size))
/-- Each operation's fact, where the frame's first two bytes are read. -/
def sfF (b off c2 a y p q : Nat) (fin : Bool) (op : Nat) (msk : Bool) (W : World) (j : Nat) (v u : Value) (w : World) : Prop := match j with
  | 0 => v = .slice (some ⟨b, off, none⟩) 2 c2
  | 1 => v = .pointer (some ⟨b, off, none⟩)
  | 2 => v = .int .u8 (a : Int)
  | 3 => v = .int .u8 (p : Int)
  | 4 => v = .bool fin
  | 5 => v = .slice (some ⟨b, off, none⟩) 2 c2
  | 6 => v = .pointer (some ⟨b, off, none⟩)
  | 7 => v = .int .u8 (a : Int)
  | 8 => v = .int .u8 (op : Int)
  | 9 => v = .int .i64 (op : Int)
  | 10 => v = .slice (some ⟨b, off, none⟩) 2 c2
  | 11 => v = .pointer (some ⟨b, off + 1, none⟩)
  | 12 => v = .int .u8 (y : Int)
  | 13 => v = .int .u8 (q : Int)
  | 14 => v = .bool msk
  | 15 => v = .agg #[.bool fin, .int .i64 (op : Int), .bool msk, .int .u8 0, .int .u8 0, .int .u8 0, .int .u8 0, .string ⟨#[]⟩]
  | 16 => ∃ g, v = .pointer (some ⟨g, 0, none⟩) ∧ W.heap.size ≤ g ∧ ∃ c0 c1 c2 c3 c4 c5 c6 c7, Bk w g 24 #[c0, c1, c2, c3, c4, c5, c6, c7]
  | 17 => ∃ g, u = .pointer (some ⟨g, 0, none⟩) ∧ W.heap.size ≤ g ∧ Bk w g 24 #[.bool fin, .int .i64 (op : Int), .bool msk, .int .u8 0, .int .u8 0, .int .u8 0, .int .u8 0, .string ⟨#[]⟩]
  | _ => True
theorem sfF_bel {b off c2 a y p q : Nat} {fin : Bool} {op : Nat} {msk : Bool} {W w w' : World} (hb : Below w.heap.size w w') : ∀ j u u', sfF b off c2 a y p q fin op msk W j u u' w → sfF b off c2 a y p q fin op msk W j u u' w' := by
  intro j u u' s
  unfold sfF at *
  split at s <;> first | exact s | (obtain ⟨g, h1, h2, c0, c1, c2, c3, c4, c5, c6, c7, h3⟩ := s; exact ⟨g, h1, h2, c0, c1, c2, c3, c4, c5, c6, c7, h3.bel hb⟩) | (obtain ⟨g, h1, h2, h3⟩ := s; exact ⟨g, h1, h2, h3.bel hb⟩)
def set8 (w : World) (g : Nat) (a b c d e f h i : Value) : World := (((((((w.setCell ⟨g, 0, none⟩ a).setCell ⟨g, 1, none⟩ b).setCell ⟨g, 2, none⟩ c).setCell ⟨g, 3, none⟩ d).setCell ⟨g, 4, none⟩ e).setCell ⟨g, 5, none⟩ f).setCell ⟨g, 6, none⟩ h).setCell ⟨g, 7, none⟩ i
theorem box8 {w : World} {g : Nat} {t : TypeId} {x0 x1 x2 x3 x4 x5 x6 x7 : Value} (k0 : Bk w g t #[x0, x1, x2, x3, x4, x5, x6, x7]) (a b c d e f h i : Value) : Bk (set8 w g a b c d e f h i) g t #[a, b, c, d, e, f, h, i] := by
  have k := (((((((k0.put 0 a).put 1 b).put 2 c).put 3 d).put 4 e).put 5 f).put 6 h).put 7 i
  simp only [List.setIfInBounds_toArray, List.set_cons_zero, List.set_cons_succ] at k
  exact k
theorem below8 {B g : Nat} {w w' : World} (k : Below B w w') (hg : B ≤ g) (a b c d e f h i : Value) : Below B w (set8 w' g a b c d e f h i) :=
  (((((((k.setCell (p := ⟨g, 0, none⟩) hg a).setCell (p := ⟨g, 1, none⟩) hg b).setCell (p := ⟨g, 2, none⟩) hg c).setCell (p := ⟨g, 3, none⟩) hg d).setCell (p := ⟨g, 4, none⟩) hg e).setCell (p := ⟨g, 5, none⟩) hg f).setCell (p := ⟨g, 6, none⟩) hg h).setCell (p := ⟨g, 7, none⟩) hg i
theorem cells8 {w : World} {g : Nat} {t : TypeId} {x0 x1 x2 x3 x4 x5 x6 x7 : Value} (h : Bk w g t #[x0, x1, x2, x3, x4, x5, x6, x7]) : w.cell? ⟨g, 0, none⟩ = some x0 ∧ w.cell? ⟨g, 1, none⟩ = some x1 ∧ w.cell? ⟨g, 2, none⟩ = some x2 ∧ w.cell? ⟨g, 3, none⟩ = some x3 ∧ w.cell? ⟨g, 4, none⟩ = some x4 ∧ w.cell? ⟨g, 5, none⟩ = some x5 ∧ w.cell? ⟨g, 6, none⟩ = some x6 ∧ w.cell? ⟨g, 7, none⟩ = some x7 :=
  ⟨h.cell 0, h.cell 1, h.cell 2, h.cell 3, h.cell 4, h.cell 5, h.cell 6, h.cell 7⟩
theorem sfF_far {b off c2 a y p q : Nat} {fin : Bool} {op : Nat} {msk : Bool} {W w w' : World} {u u' : Value} : ∀ j, j ≠ 16 → j ≠ 17 → sfF b off c2 a y p q fin op msk W j u u' w → sfF b off c2 a y p q fin op msk W j u u' w' := by
  intro j h9 h10 s
  unfold sfF at *
  split at s <;> first | exact s | exact absurd rfl h9 | exact absurd rfl h10
theorem and_hi (a : Nat) (ha : a < 256) : bits .and .u8 (a : Int) 128 = ((a / 128 * 128 : Nat) : Int) := by
  have h : ∀ x, x < 256 → x &&& 128 = x / 128 * 128 := by decide +kernel
  rw [show (128 : Int) = ((128 : Nat) : Int) from rfl, u8_and_nat _ _ ha (by omega), h a ha]
theorem and_op (a : Nat) (ha : a < 256) : bits .and .u8 (a : Int) 15 = ((a % 16 : Nat) : Int) := by
  have h : ∀ x, x < 256 → x &&& 15 = x % 16 := by decide +kernel
  rw [show (15 : Int) = ((15 : Nat) : Int) from rfl, u8_and_nat _ _ ha (by omega), h a ha]
theorem and_rsv (a : Nat) (ha : a < 256) : bits .and .u8 (a : Int) 112 = ((a / 16 % 8 * 16 : Nat) : Int) := by
  have h : ∀ x, x < 256 → x &&& 112 = x / 16 % 8 * 16 := by decide +kernel
  rw [show (112 : Int) = ((112 : Nat) : Int) from rfl, u8_and_nat _ _ ha (by omega), h a ha]
theorem clear_hi (a : Nat) (ha : a < 256) : bits .andNot .u8 (a : Int) 128 = ((a % 128 : Nat) : Int) := by
  have h : ∀ x, x < 256 → bits .andNot .u8 ((x : Nat) : Int) 128 = ((x % 128 : Nat) : Int) := by decide +kernel
  exact h a ha
/-- What the call leaves. -/
def FramePost (B0 gr : Nat) (mk : Bool) (A : Option Addr) (n c : Nat) (kind : Nat) (text : ByteArray) (w : World) (r : Rs (FrM × (Nat → Nat))) (e : Ending) (w' : World) : Prop := KQ gr w w' ∧ match r with
  | .ok fm l' => ∃ A' c', e = .returned (frV fm.1 fm.2) ∧ Bk w' gr 59 (rdC mk (.slice A' l'.length c') kind text false) ∧ l'.length ≤ c' ∧ Seg w' A' (u8s l') ∧ ∀ a, A' = some a → a.block < B0
  | .no z => e = .panicked (giveE z) ∧ Bk w' gr 59 (rdC mk (.slice A n c) kind text false)
theorem lngN_sub {short k : Nat} {l l2 : List Nat} (h : Rs.ok k l2 = lngN short l) : ∃ d, l2 = l.drop d := by
  unfold lngN at h
  split at h
  · split at h
    · cases h
    · split at h
      · cases h
      · injection h with _ h
        exact ⟨2, h⟩
  · split at h
    · split at h
      · cases h
      · split at h <;> cases h
    · injection h with _ h
      exact ⟨0, h⟩
theorem seg_far {w : World} {gr kind : Nat} {t : TypeId} {mk dead : Bool} {L : Value} {text : ByteArray} {A : Option Addr} {l : List Nat} (hb : Bk w gr t (rdC mk L kind text dead)) (hs : Seg w A (u8s l)) (hL : ∀ x, L ≠ .int .u8 x) (i : Nat) (v : Value) : Seg (w.setCell ⟨gr, i, none⟩ v) A (u8s l) := by
  cases l with
  | nil => exact fun hn => absurd rfl hn
  | cons x l =>
    obtain ⟨b, off, rfl, hbl, _, hc⟩ := hs.pick (k := 0) (by rw [u8s_length]; simp)
    have hne : b ≠ gr := by
      intro e
      subst e
      have h := hb.cell off
      rw [Nat.add_zero] at hc
      rw [hc] at h
      rcases off with _ | _ | _ | _ | _ | off <;> simp [rdC, u8s] at h
      exact hL _ h.symm
    exact hs.kept (Kept1.set w gr i v) (fun a e => by injection e with e; subst e; exact hne)
def fpC (fin : Bool) (op : Nat) (msk : Bool) (M : Nat → Nat) (s : ByteArray) : Array Value := #[.bool fin, .int .i64 (op : Nat), .bool msk, .int .u8 (M 0 : Nat), .int .u8 (M 1 : Nat), .int .u8 (M 2 : Nat), .int .u8 (M 3 : Nat), .string s]
def FpG (w : World) (gf g9 : Nat) (w' : World) : Prop := Below w.heap.size w w' ∧ g9 < w'.heap.size ∧ Bk w' gf 24 #[.bool false, .int .i64 0, .bool false, .int .u8 0, .int .u8 0, .int .u8 0, .int .u8 0, .string ⟨#[]⟩]
def fpF (B gq g9 size : Nat) (A : Option Addr) (c : Nat) (l3 : List Nat) (fin : Bool) (op : Nat) (msk : Bool) (M : Nat → Nat) (j : Nat) (v _u : Value) (w : World) : Prop := match j with
  | 0 => v = .int .i64 (size : Nat)
  | 1 => v = .slice A size c ∧ Seg w A (u8s (l3.take size)) ∧ Rd B w gq (l3.drop size)
  | 2 => v = .pointer (some ⟨g9, 3, none⟩)
  | 3 => v = .agg #[.int .u8 (M 0 : Nat), .int .u8 (M 1 : Nat), .int .u8 (M 2 : Nat), .int .u8 (M 3 : Nat)]
  | 4 => ∃ A5 c5, v = .slice A5 size c5 ∧ Seg w A5 (u8s (xorN M (l3.take size))) ∧ ∀ a, A5 = some a → a.block ≠ g9 ∧ a.block ≠ gq
  | 5 => v = .string (txt (xorN M (l3.take size)))
  | 6 => v = .pointer (some ⟨g9, 7, none⟩)
  | 7 => Bk w g9 24 (fpC fin op msk M (txt (xorN M (l3.take size))))
  | _ => True
/-- The same where too few bytes are left. -/
def fpN (g9 size : Nat) (M : Nat → Nat) (j : Nat) (v _u : Value) (_w : World) : Prop := match j with
  | 0 => v = .int .i64 (size : Nat)
  | 2 => v = .pointer (some ⟨g9, 3, none⟩)
  | 3 => v = .agg #[.int .u8 (M 0 : Nat), .int .u8 (M 1 : Nat), .int .u8 (M 2 : Nat), .int .u8 (M 3 : Nat)]
  | 6 => v = .pointer (some ⟨g9, 7, none⟩)
  | _ => False
def fpH (gq g9 : Nat) (A : Option Addr) (c : Nat) (l3 : List Nat) (fin : Bool) (op : Nat) (msk : Bool) (M : Nat → Nat) (m : Nat) (w : World) : Prop := match m with
  | 1 => Bk w gq 89 #[.slice A l3.length c] ∧ Seg w A (u8s l3)
  | 7 => Bk w g9 24 (fpC fin op msk M ⟨#[]⟩)
  | _ => True
section
variable {B gq g9 gf size c op : Nat} {A : Option Addr} {l3 : List Nat} {fin msk : Bool} {M : Nat → Nat} {W w w' : World}
theorem FpG.bel (h : FpG W gf g9 w) (hb : Below w.heap.size w w') : FpG W gf g9 w' := ⟨h.1.trans (hb.mono h.1.size), Nat.lt_of_lt_of_le h.2.1 hb.size, h.2.2.bel hb⟩
theorem FpG.call (h : FpG W gf g9 w) (k : KQ gq w w') (h1 : W.heap.size ≤ gq) (h2 : gf < gq) : FpG W gf g9 w' := ⟨h.1.trans (k.bel.mono h1), Nat.lt_of_lt_of_le h.2.1 k.kept.size, bk_kept h.2.2 (by omega) k.kept⟩
theorem FpG.set (h : FpG W gf g9 w) (h1 : W.heap.size ≤ g9) (h2 : gf < g9) (i : Nat) (u : Value) : FpG W gf g9 (w.setCell ⟨g9, i, none⟩ u) := ⟨h.1.setCell (p := ⟨g9, i, none⟩) h1 u, by simpa using h.2.1, h.2.2.far (p := ⟨g9, i, none⟩) (by show gf ≠ g9; omega) u⟩
theorem fpF_bel (hb : Below w.heap.size w w') : ∀ j u u', fpF B gq g9 size A c l3 fin op msk M j u u' w → fpF B gq g9 size A c l3 fin op msk M j u u' w' := by
  intro j u u' h
  unfold fpF at *
  split at h <;> first | exact h | exact ⟨h.1, h.2.1.bel hb, h.2.2.bel hb⟩ | (obtain ⟨A5, c5, h1, h2, h3⟩ := h; exact ⟨A5, c5, h1, h2.bel hb, h3⟩) | exact h.bel hb
theorem fpH_bel (hb : Below w.heap.size w w') : ∀ m, fpH gq g9 A c l3 fin op msk M m w → fpH gq g9 A c l3 fin op msk M m w' := by
  intro m h
  unfold fpH at *
  split at h <;> first | exact h | exact ⟨h.1.bel hb, h.2.bel hb⟩ | exact h.bel hb
theorem fpF_call (k : KQ gq w w') (h9 : gq < g9) : ∀ j, j ≠ 1 → ∀ u u', fpF B gq g9 size A c l3 fin op msk M j u u' w → fpF B gq g9 size A c l3 fin op msk M j u u' w' := by
  intro j hj u u' h
  unfold fpF at *
  split at h <;> first | exact h | exact absurd rfl hj | (obtain ⟨A5, c5, h1, h2, h3⟩ := h; exact ⟨A5, c5, h1, h2.kept k.kept (fun a e => (h3 a e).2), h3⟩) | exact bk_kept h (by omega) k.kept
theorem fpH_call (k : KQ gq w w') (h9 : gq < g9) : ∀ m, m ≠ 1 → fpH gq g9 A c l3 fin op msk M m w → fpH gq g9 A c l3 fin op msk M m w' := by
  intro m hm h
  unfold fpH at *
  split at h <;> first | exact h | exact absurd rfl hm | exact bk_kept h (by omega) k.kept
theorem fpF_set (hA : ∀ a, A = some a → a.block ≠ g9) (hB : B ≤ g9) (h9 : gq < g9) (i : Nat) (u0 : Value) : ∀ j, j ≠ 7 → ∀ u u', fpF B gq g9 size A c l3 fin op msk M j u u' w → fpF B gq g9 size A c l3 fin op msk M j u u' (w.setCell ⟨g9, i, none⟩ u0) := by
  intro j hj u u' h
  have k := Kept1.set w g9 i u0
  unfold fpF at *
  split at h <;> first | exact h | exact absurd rfl hj | exact ⟨h.1, h.2.1.kept k hA, h.2.2.other k (by omega) (Or.inr hB)⟩ | (obtain ⟨A5, c5, h1, h2, h3⟩ := h; exact ⟨A5, c5, h1, h2.kept k (fun a e => (h3 a e).1), h3⟩)
theorem fpH_set (hA : ∀ a, A = some a → a.block ≠ g9) (h9 : gq < g9) (i : Nat) (u0 : Value) : ∀ m, m ≠ 7 → fpH gq g9 A c l3 fin op msk M m w → fpH gq g9 A c l3 fin op msk M m (w.setCell ⟨g9, i, none⟩ u0) := by
  intro m hm h
  have k := Kept1.set w g9 i u0
  unfold fpH at *
  split at h <;> first | exact h | exact absurd rfl hm | exact ⟨bk_kept h.1 (by omega) k, h.2.kept k hA⟩
end
theorem run_arr4 (A : Option Addr) (n c : Nat) (h : 4 ≤ n) (w : World) : (Instr.arrayAt 22 (.slice A n c)).run Tryd.prog w = .ok (.pointer A) w := run_arrayAt w _ _ 4 A n c Tryd.underlying22 h
theorem four {w : World} {A : Option Addr} {l : List Nat} (h : Seg w A (u8s (l.take 4))) (h4 : 4 ≤ l.length) : ∃ b o, A = some ⟨b, o, none⟩ ∧ b < w.heap.size ∧ w.cell? ⟨b, o, none⟩ = some (.int .u8 (maskF l 0 : Nat)) ∧ w.cell? ⟨b, o + 1, none⟩ = some (.int .u8 (maskF l 1 : Nat)) ∧ w.cell? ⟨b, o + 2, none⟩ = some (.int .u8 (maskF l 2 : Nat)) ∧ w.cell? ⟨b, o + 3, none⟩ = some (.int .u8 (maskF l 3 : Nat)) := by
  have gl : ∀ k, k < 4 → (u8s (l.take 4))[k]? = some (.int .u8 ((l.getD k 0 : Nat) : Int)) := fun k hk => by
    have : k < l.length := by omega
    unfold u8s
    rw [List.getElem?_map, List.getElem?_take, if_pos hk, List.getD_eq_getElem?_getD, List.getElem?_eq_getElem this]
    rfl
  obtain ⟨b, o, rfl, hb, _, _⟩ := h.pick (k := 0) (by rw [u8s_length, List.length_take]; omega)
  have g : ∀ k, k < 4 → w.cell? ⟨b, o + k, none⟩ = some (.int .u8 ((l.getD k 0 : Nat) : Int)) := fun k hk => by
    obtain ⟨b', o', e, _, _, hc⟩ := h.pick (k := k) (by rw [u8s_length, List.length_take]; omega)
    injection e with e
    injection e with e1 e2
    subst e1
    subst e2
    rw [hc, ← List.getElem?_eq_getElem, gl k hk]
  exact ⟨b, o, rfl, hb, g 0 (by decide), g 1 (by decide), g 2 (by decide), g 3 (by decide)⟩
theorem kept8 (w : World) (g : Nat) (a b c d e f h i : Value) : Kept1 g w (set8 w g a b c d e f h i) :=
  (((((((Kept1.set w g 0 a).trans (Kept1.set _ g 1 b)).trans (Kept1.set _ g 2 c)).trans (Kept1.set _ g 3 d)).trans (Kept1.set _ g 4 e)).trans (Kept1.set _ g 5 f)).trans (Kept1.set _ g 6 h)).trans (Kept1.set _ g 7 i)
theorem frame_fin {B0 gr gf gq n c kind m8 c8 : Nat} {mk : Bool} {A A8 : Option Addr} {text : ByteArray} {w w8 w9 : World} {R : Rs (FrM × (Nat → Nat))} {fm : FrM × (Nat → Nat)} {l4 : List Nat} (hR : R = .ok fm l4) (hn : gr < w.heap.size ∧ gf = w.heap.size ∧ gq = w.heap.size + 1) (hk : KQ gr w w8) (hb : Bk w8 gr 59 (rdC mk (.slice A8 m8 c8) kind text false)) (hs : Seg w8 A8 (u8s l4)) (hc : m8 = l4.length ∧ m8 ≤ c8 ∧ ∀ a, A8 = some a → a.block ≠ gq ∧ a.block < B0) (hB0 : B0 ≤ w.heap.size) (k : Kept1 gf w8 w9) (hbl : Below gr w w9) : FramePost B0 gr mk A n c kind text w R (.returned (frV fm.1 fm.2)) w9 := by
  obtain ⟨hn1, hn2, _⟩ := hn
  obtain ⟨rfl, hc2, hc3⟩ := hc
  subst hR
  have hblk : ∀ b, b < w.heap.size → w9.heap[b]? = w8.heap[b]? := fun b hb => k.block b (Nat.lt_of_lt_of_le hb hk.kept.size) (by omega)
  refine ⟨⟨hbl, ⟨Nat.le_trans hk.kept.size k.size, fun b hb hq => ?_⟩⟩, A8, c8, rfl, bk_kept hb (by omega) k, hc2, hs.kept k (fun a e => by have := hc3 a e; omega), fun a e => (hc3 a e).2⟩
  · rw [hblk b hb]
    exact hk.kept.block b hb hq
set_option maxRecDepth 100000 in
set_option maxHeartbeats 4000000 in
theorem frame_two (B0 gr : Nat) (mk : Bool) (A : Option Addr) (n c : Nat) (kind : Nat) (text : ByteArray) (l : List Nat) (hn : n = l.length) (hc : n ≤ c) (hz : n ≤ 1000000) (hl : ∀ x ∈ l, x < 256) (w : World) (h : Bk w gr 59 (rdC mk (.slice A n c) kind text false)) (hs : Seg w A (u8s l)) (ha : ∀ a, A = some a → a.block < B0) (hB0 : B0 ≤ w.heap.size) (h2 : 2 ≤ n) (htz : text.size ≤ 4096) :
    Calls Tryd.prog 44 #[.pointer (some ⟨gr, 0, none⟩)] w (FramePost B0 gr mk A n c kind text w (frameN mk kind text.size l)) := by
  obtain ⟨R, hR⟩ : ∃ R, R = frameN mk kind text.size l := ⟨_, rfl⟩
  have HR := Lib.hid hR
  rw [← hR]
  obtain ⟨w0, hw0⟩ : ∃ x, x = w.alloc (.cells #[.bool false, .int .i64 0, .bool false, .int .u8 0, .int .u8 0, .int .u8 0, .int .u8 0, .string ⟨#[]⟩] 24) := ⟨_, rfl⟩
  have al0 : Below w.heap.size w w0 := by rw [hw0]; exact (Below.refl _ _).alloc (Nat.le_refl _) _
  have hs0 : w0.heap.size = w.heap.size + 1 := by rw [hw0]; simp
  obtain ⟨w1, hw1⟩ : ∃ x, x = w0.alloc (.cells #[.slice A n c] 89) := ⟨_, rfl⟩
  have al1 : Below w0.heap.size w0 w1 := by rw [hw1]; exact (Below.refl _ _).alloc (Nat.le_refl _) _
  have al : Below w.heap.size w w1 := al0.trans (al1.mono al0.size)
  have bq : Bk w1 w0.heap.size 89 #[.slice A n c] := by rw [hw1]; exact Bk.new w0 _ _
  have bf : Bk w1 w.heap.size 24 #[.bool false, .int .i64 0, .bool false, .int .u8 0, .int .u8 0, .int .u8 0, .int .u8 0, .string ⟨#[]⟩] := by
    have : Bk w0 w.heap.size 24 #[.bool false, .int .i64 0, .bool false, .int .u8 0, .int .u8 0, .int .u8 0, .int .u8 0, .string ⟨#[]⟩] := by rw [hw0]; exact Bk.new w _ _
    exact this.bel al1
  obtain ⟨gf, hgf⟩ : ∃ g, g = w.heap.size := ⟨_, rfl⟩
  obtain ⟨gq, hgq⟩ : ∃ g, g = w0.heap.size := ⟨_, rfl⟩
  rw [← hgf] at bf
  rw [← hgq] at bq
  have hrd : Rd B0 w1 gq l := ⟨A, c, by rw [← hn]; exact bq, by omega, hs.bel al, fun a e => by have := ha a e; omega⟩
  have HRD := Lib.hid hrd
  have HGR := Lib.hid (h.bel al)
  have HGR0 := Lib.hid (show w0.cell? ⟨gr, 1, none⟩ = some (.slice A n c) from (h.bel al0).cell 1)
  have HBF := Lib.hid bf
  have HW0 := Lib.hid hw0
  have HW1 := Lib.hid hw1
  have HGF := Lib.hid hgf
  have HGQ := Lib.hid hgq
  have HAL := Lib.hid al
  have HNE := Lib.hid (show gr < w.heap.size ∧ gf = w.heap.size ∧ gq = w.heap.size + 1 from ⟨h.lt, hgf, by omega⟩)
  have HA := Lib.hid ha
  have HB0 := Lib.hid hB0
  have HL := Lib.hid hl
  have TK := Lib.hid (take_ok (B := B0) gq 2 l w1 hrd (by omega))
  have g1 := HGR0.out
  have HN := Lib.hid hn
  have HC := Lib.hid hc
  have H0 := Lib.hid h
  clear hw0 al0 hs0 hw1 al1 al bq bf hgf hgq hrd h hs ha hl hR hn hc hB0
  go_enter Tryd.func44, Tryd.ntmps44
  go_upto_region 1 with fail
  rw [← HW0.out]
  go_upto_region 2 with fail
  rw [← HW1.out, ← HGF.out, ← HGQ.out]
  clear g1
  go_wp2_with fail
  refine TK.out.mono ?_
  rintro e w2 ⟨⟨A2, c2, rfl, hc2, hs2⟩, hr2, hk2⟩
  obtain ⟨b, off, rfl, hbl, _, hcell0⟩ := hs2.pick (k := 0) (by rw [u8s_length, List.length_take, ← HN.out]; omega)
  obtain ⟨b', off', e', _, _, hcell1⟩ := hs2.pick (k := 1) (by rw [u8s_length, List.length_take, ← HN.out]; omega)
  injection e' with e'
  injection e' with e1 e2
  subst e1
  subst e2
  obtain ⟨a, hA0⟩ : ∃ a, a = l.getD 0 0 := ⟨_, rfl⟩
  obtain ⟨y, hY0⟩ : ∃ y, y = l.getD 1 0 := ⟨_, rfl⟩
  have gl : ∀ k, k < 2 → (u8s (l.take 2))[k]? = some (.int .u8 ((l.getD k 0 : Nat) : Int)) := fun k hk => by
    have : k < l.length := by have := HN.out; omega
    unfold u8s
    rw [List.getElem?_map, List.getElem?_take, if_pos hk, List.getD_eq_getElem?_getD, List.getElem?_eq_getElem this]
    rfl
  have ca : w2.cell? ⟨b, off, none⟩ = some (.int .u8 (a : Int)) := by
    have h0 := hcell0
    rw [Nat.add_zero] at h0
    rw [h0, ← List.getElem?_eq_getElem, gl 0 (by decide), hA0]
  have cb : w2.cell? ⟨b, off + 1, none⟩ = some (.int .u8 (y : Int)) := by
    rw [hcell1, ← List.getElem?_eq_getElem, gl 1 (by decide), hY0]
  have hm : ∀ k, l.getD k 0 < 256 := fun k => by
    rw [List.getD_eq_getElem?_getD]
    rcases Nat.lt_or_ge k l.length with h | h
    · rw [List.getElem?_eq_getElem h]; exact HL.out _ (List.getElem_mem h)
    · rw [List.getElem?_eq_none h]; decide
  have ha8 : a < 256 := by rw [hA0]; exact hm 0
  have hy8 : y < 256 := by rw [hY0]; exact hm 1
  have HCA := Lib.hid (fun (w' : World) (hb : Below w2.heap.size w2 w') => show w'.cell? ⟨b, off, none⟩ = some (.int .u8 (a : Int)) from (World.cell?_of_block (hb.block b hbl)).trans ca)
  have HCB := Lib.hid (fun (w' : World) (hb : Below w2.heap.size w2 w') => show w'.cell? ⟨b, off + 1, none⟩ = some (.int .u8 (y : Int)) from (World.cell?_of_block (hb.block b hbl)).trans cb)
  have HA0 := Lib.hid hA0
  have HY0 := Lib.hid hY0
  have HR2 := Lib.hid hr2
  have HF2 := Lib.hid (bk_kept HBF.out (by have := HNE.out; omega) hk2.kept)
  have HK2 := Lib.hid hk2
  obtain ⟨p, hp⟩ : ∃ p, p = a / 128 * 128 := ⟨_, rfl⟩
  obtain ⟨q, hq⟩ : ∃ q, q = y / 128 * 128 := ⟨_, rfl⟩
  obtain ⟨op, hop⟩ : ∃ q, q = a % 16 := ⟨_, rfl⟩
  obtain ⟨fin, hfin⟩ : ∃ q, q = decide (128 ≤ a) := ⟨_, rfl⟩
  obtain ⟨msk, hmsk⟩ : ∃ q, q = decide (128 ≤ y) := ⟨_, rfl⟩
  have b1 : bits .and .u8 (a : Int) 128 = (p : Int) := by rw [hp]; exact and_hi a ha8
  have b2 : bits .and .u8 (y : Int) 128 = (q : Int) := by rw [hq]; exact and_hi y hy8
  have b3 : bits .and .u8 (a : Int) 15 = (op : Int) := by rw [hop]; exact and_op a ha8
  have b4 : ((p : Int) != 0) = fin := by
    rw [hfin, hp]
    by_cases h : 128 ≤ a
    · rw [decide_eq_true h]; simp; omega
    · rw [decide_eq_false h]; simp; omega
  have b5 : ((q : Int) != 0) = msk := by
    rw [hmsk, hq]
    by_cases h : 128 ≤ y
    · rw [decide_eq_true h]; simp; omega
    · rw [decide_eq_false h]; simp; omega
  have hop16 : op < 16 := by rw [hop]; omega
  have EW := Lib.hid (show IntKind.i64.wrap (op : Int) = (op : Int) by rw [IntKind.wrap_i64]; omega)
  have i1 : (0 : Int) < 2 := by decide
  have i2 : (1 : Int) < 2 := by decide
  have HFIN := Lib.hid hfin
  have HMSK := Lib.hid hmsk
  have HOP := Lib.hid hop
  clear hs2 hr2 hk2 hcell0 hcell1 gl ca cb hm hA0 hY0 hp hq hop hfin hmsk TK
  go_wp2_with fail
  refine wp_region_list [some 14, some 15, some 16, some 17, some 18, some 19, some 20, some 21, some 22, some 23, some 24, some 25, some 26, some 27, some 28, some 29, some 5, none] (fun j => bif j == 17 then 5 else 0) (sfF b off c2 a y p q fin op msk w2) (fun w1 => Below w2.heap.size w2 w1) (by kernel_rfl) (Below.refl _ _).drew rfl (by kernel_rfl) (by kernel_rfl) (by kernel_rfl) (by kernel_rfl) (fun U hU => ?_)
  simp only [List.filterMap_cons, List.filterMap_nil, id, putsS, Act.put, List.setIfInBounds_toArray, List.set_cons_zero, List.set_cons_succ] at hU
  subst hU
  refine ⟨⟨?_, ?_, ?_, ?_, ?_, ?_, ?_, ?_, ?_, ?_, ?_, ?_, ?_, ?_, ?_, ?_, ?_, ?_, trivial⟩, ?_⟩
  · -- 0: Op.move t4
    refine StepL.act ?_
    intro f w1 hG hF K hK
    clear hF
    dsimp only at hK ⊢
    go_simp
    exact hK.out _ _ hG rfl (fun _ _ _ _ h => h)
  · -- 1: Op.indexAddr 25 t14 (const (0:i64))
    refine StepL.act ?_
    intro f w1 hG hF K hK
    have d0 : (sfF b off c2 a y p q fin op msk w2) 0 (f 14) (f 0) w1 := hF 0 (by kernel_rfl)
    clear hF
    dsimp only at hK ⊢
    generalize f 14 = v14 at *
    subst d0
    go_simp
    exact hK.out _ _ hG rfl (fun _ _ _ _ h => h)
  · -- 2: Op.load 5 t15
    refine StepL.act ?_
    intro f w1 hG hF K hK
    have d1 : (sfF b off c2 a y p q fin op msk w2) 1 (f 15) (f 0) w1 := hF 1 (by kernel_rfl)
    clear hF
    dsimp only at hK ⊢
    generalize f 15 = v15 at *
    subst d1
    have y9 : w1.cell? ⟨b, off, none⟩ = some (.int .u8 (a : Int)) := HCA.out w1 hG
    go_simp
    exact hK.out _ _ hG rfl (fun _ _ _ _ h => h)
  · -- 3: Op.binOp BinOp.and 5 t16 (const (128:u8)) 5
    refine StepL.act ?_
    intro f w1 hG hF K hK
    have d2 : (sfF b off c2 a y p q fin op msk w2) 2 (f 16) (f 0) w1 := hF 2 (by kernel_rfl)
    clear hF
    dsimp only at hK ⊢
    generalize f 16 = v16 at *
    subst d2
    go_simp
    exact hK.out _ _ hG rfl (fun _ _ _ _ h => h)
  · -- 4: Op.binOp BinOp.neq 5 t17 (const (0:u8)) 5
    refine StepL.act ?_
    intro f w1 hG hF K hK
    have d3 : (sfF b off c2 a y p q fin op msk w2) 3 (f 17) (f 0) w1 := hF 3 (by kernel_rfl)
    clear hF
    dsimp only at hK ⊢
    generalize f 17 = v17 at *
    subst d3
    go_simp
    exact hK.out _ _ hG rfl (fun _ _ _ _ h => h)
  · -- 5: Op.move t4
    refine StepL.act ?_
    intro f w1 hG hF K hK
    clear hF
    dsimp only at hK ⊢
    go_simp
    exact hK.out _ _ hG rfl (fun _ _ _ _ h => h)
  · -- 6: Op.indexAddr 25 t19 (const (0:i64))
    refine StepL.act ?_
    intro f w1 hG hF K hK
    have d5 : (sfF b off c2 a y p q fin op msk w2) 5 (f 19) (f 0) w1 := hF 5 (by kernel_rfl)
    clear hF
    dsimp only at hK ⊢
    generalize f 19 = v19 at *
    subst d5
    go_simp
    exact hK.out _ _ hG rfl (fun _ _ _ _ h => h)
  · -- 7: Op.load 5 t20
    refine StepL.act ?_
    intro f w1 hG hF K hK
    have d6 : (sfF b off c2 a y p q fin op msk w2) 6 (f 20) (f 0) w1 := hF 6 (by kernel_rfl)
    clear hF
    dsimp only at hK ⊢
    generalize f 20 = v20 at *
    subst d6
    have y9 : w1.cell? ⟨b, off, none⟩ = some (.int .u8 (a : Int)) := HCA.out w1 hG
    go_simp
    exact hK.out _ _ hG rfl (fun _ _ _ _ h => h)
  · -- 8: Op.binOp BinOp.and 5 t21 (const (15:u8)) 5
    refine StepL.act ?_
    intro f w1 hG hF K hK
    have d7 : (sfF b off c2 a y p q fin op msk w2) 7 (f 21) (f 0) w1 := hF 7 (by kernel_rfl)
    clear hF
    dsimp only at hK ⊢
    generalize f 21 = v21 at *
    subst d7
    go_simp
    exact hK.out _ _ hG rfl (fun _ _ _ _ h => h)
  · -- 9: Op.convert 5 3 t22
    refine StepL.act ?_
    intro f w1 hG hF K hK
    have d8 : (sfF b off c2 a y p q fin op msk w2) 8 (f 22) (f 0) w1 := hF 8 (by kernel_rfl)
    clear hF
    dsimp only at hK ⊢
    generalize f 22 = v22 at *
    subst d8
    go_simp
    exact hK.out _ _ hG (show Value.int .i64 (IntKind.i64.wrap (op : Int)) = .int .i64 (op : Int) by rw [EW.out]) (fun _ _ _ _ h => h)
  · -- 10: Op.move t4
    refine StepL.act ?_
    intro f w1 hG hF K hK
    clear hF
    dsimp only at hK ⊢
    go_simp
    exact hK.out _ _ hG rfl (fun _ _ _ _ h => h)
  · -- 11: Op.indexAddr 25 t24 (const (1:i64))
    refine StepL.act ?_
    intro f w1 hG hF K hK
    have d10 : (sfF b off c2 a y p q fin op msk w2) 10 (f 24) (f 0) w1 := hF 10 (by kernel_rfl)
    clear hF
    dsimp only at hK ⊢
    generalize f 24 = v24 at *
    subst d10
    go_simp
    exact hK.out _ _ hG rfl (fun _ _ _ _ h => h)
  · -- 12: Op.load 5 t25
    refine StepL.act ?_
    intro f w1 hG hF K hK
    have d11 : (sfF b off c2 a y p q fin op msk w2) 11 (f 25) (f 0) w1 := hF 11 (by kernel_rfl)
    clear hF
    dsimp only at hK ⊢
    generalize f 25 = v25 at *
    subst d11
    have y9 : w1.cell? ⟨b, off + 1, none⟩ = some (.int .u8 (y : Int)) := HCB.out w1 hG
    go_simp
    exact hK.out _ _ hG rfl (fun _ _ _ _ h => h)
  · -- 13: Op.binOp BinOp.and 5 t26 (const (128:u8)) 5
    refine StepL.act ?_
    intro f w1 hG hF K hK
    have d12 : (sfF b off c2 a y p q fin op msk w2) 12 (f 26) (f 0) w1 := hF 12 (by kernel_rfl)
    clear hF
    dsimp only at hK ⊢
    generalize f 26 = v26 at *
    subst d12
    go_simp
    exact hK.out _ _ hG rfl (fun _ _ _ _ h => h)
  · -- 14: Op.binOp BinOp.neq 5 t27 (const (0:u8)) 5
    refine StepL.act ?_
    intro f w1 hG hF K hK
    have d13 : (sfF b off c2 a y p q fin op msk w2) 13 (f 27) (f 0) w1 := hF 13 (by kernel_rfl)
    clear hF
    dsimp only at hK ⊢
    generalize f 27 = v27 at *
    subst d13
    go_simp
    exact hK.out _ _ hG rfl (fun _ _ _ _ h => h)
  · -- 15: Op.build 24 #[(0, t18), (1, t23), (2, t28)]
    refine StepL.act ?_
    intro f w1 hG hF K hK
    have d4 : (sfF b off c2 a y p q fin op msk w2) 4 (f 18) (f 0) w1 := hF 4 (by kernel_rfl)
    have d9 : (sfF b off c2 a y p q fin op msk w2) 9 (f 23) (f 0) w1 := hF 9 (by kernel_rfl)
    have d14 : (sfF b off c2 a y p q fin op msk w2) 14 (f 28) (f 0) w1 := hF 14 (by kernel_rfl)
    clear hF
    dsimp only at hK ⊢
    generalize f 18 = v18 at *
    generalize f 23 = v23 at *
    generalize f 28 = v28 at *
    subst d4
    subst d9
    subst d14
    go_simp
    exact hK.out _ _ hG rfl (fun _ _ _ _ h => h)
  · -- 16: Op.alloc 24
    refine StepL.act ?_
    intro f w1 hG hF K hK
    clear hF
    dsimp only at hK ⊢
    go_simp
    exact hK.out _ _ (hG.alloc hG.size _) ⟨w1.heap.size, rfl, hG.size, _, _, _, _, _, _, _, _, Bk.new w1 _ _⟩ (fun j _ _ _ h => sfF_bel ((Below.refl _ _).alloc (Nat.le_refl _) _) j _ _ h)
  · -- 17: Op.store 24 t5 t29
    intro f w1 hG hF K hK
    have d16 : (sfF b off c2 a y p q fin op msk w2) 16 (f 5) (f 0) w1 := hF 16 (by kernel_rfl)
    have d15 : (sfF b off c2 a y p q fin op msk w2) 15 (f 29) (f 0) w1 := hF 15 (by kernel_rfl)
    clear hF
    dsimp only at hK ⊢
    generalize hf5 : f 5 = v5 at *
    generalize hf29 : f 29 = v29 at *
    obtain ⟨g9, rfl, hg9, e0, e1, e2, e3, e4, e5, e6, e7, hb9⟩ := d16
    subst d15
    obtain ⟨y0, y1, y2, y3, y4, y5, y6, y7⟩ := cells8 hb9
    have f0 := hb9.frozen 0
    have f1 := hb9.frozen 1
    have f2 := hb9.frozen 2
    have f3 := hb9.frozen 3
    have f4 := hb9.frozen 4
    have f5 := hb9.frozen 5
    have f6 := hb9.frozen 6
    have f7 := hb9.frozen 7
    have hN := below8 hG hg9 (.bool fin) (.int .i64 (op : Int)) (.bool msk) (.int .u8 0) (.int .u8 0) (.int .u8 0) (.int .u8 0) (.string ⟨#[]⟩)
    have hM := box8 hb9 (.bool fin) (.int .i64 (op : Int)) (.bool msk) (.int .u8 0) (.int .u8 0) (.int .u8 0) (.int .u8 0) (.string ⟨#[]⟩)
    obtain ⟨W9, hW9⟩ : ∃ x, x = set8 w1 g9 (.bool fin) (.int .i64 (op : Int)) (.bool msk) (.int .u8 0) (.int .u8 0) (.int .u8 0) (.int .u8 0) (.string ⟨#[]⟩) := ⟨_, rfl⟩
    rw [← hW9] at hN hM
    have HW9 := Lib.hid hW9
    unfold set8 at hW9
    go_simp
    rw [← hW9]
    exact hK.out undef _ hN ⟨g9, hf5, hg9, hM⟩ (fun j h1 _ h => by
      by_cases h9 : j = 16
      · subst h9
        exact ⟨g9, hf5, hg9, _, _, _, _, _, _, _, _, hM⟩
      · exact sfF_far j h9 h1 h)
  intro f w3 hG hF
  have R9 : ∃ g, f 5 = .pointer (some ⟨g, 0, none⟩) ∧ w2.heap.size ≤ g ∧ Bk w3 g 24 #[.bool fin, .int .i64 (op : Int), .bool msk, .int .u8 0, .int .u8 0, .int .u8 0, .int .u8 0, .string ⟨#[]⟩] := hF 17 (by decide)
  obtain ⟨g9, e9, hg9, hb9⟩ := R9
  have hbw2 : Below w.heap.size w w2 := HAL.out.trans (HK2.out.bel.mono (by have := HNE.out; omega))
  have HBW := Lib.hid (hbw2.trans (hG.mono hbw2.size))
  have HR3 := Lib.hid (HR2.out.bel hG)
  have HF3 := Lib.hid (HF2.out.bel hG)
  have HB9 := Lib.hid hb9
  have HG9 := Lib.hid hg9
  have HQ9 := Lib.hid (show gq < g9 from by have h9 := HR2.out; obtain ⟨_, _, h9, _⟩ := h9; have := h9.lt; omega)
  have cb := HCB.out w3 hG
  have ca := HCA.out w3 hG
  have HCA3 := Lib.hid (fun (w' : World) (hb : Below w3.heap.size w3 w') => HCA.out w' (hG.trans (hb.mono hG.size)))
  have rd3 := H0.out.below HBW.out HNE.out.1
  have r0 : w3.cell? ⟨gr, 0, none⟩ = some (.bool mk) := rd3.cell 0
  have f2 : w3.cell? ⟨g9, 2, none⟩ = some (.bool msk) := hb9.cell 2
  have HRD3 := Lib.hid rd3
  clear hF hG hb9 hg9 hbw2 HCA HCB HR2 HK2 rd3 b1 b2 b3 b4 b5
  dsimp only
  generalize f 14 = v14
  generalize f 15 = v15
  generalize f 16 = v16
  generalize f 17 = v17
  generalize f 18 = v18
  generalize f 19 = v19
  generalize f 20 = v20
  generalize f 21 = v21
  generalize f 22 = v22
  generalize f 23 = v23
  generalize f 24 = v24
  generalize f 25 = v25
  generalize f 26 = v26
  generalize f 27 = v27
  generalize f 28 = v28
  generalize f 29 = v29
  generalize f 5 = v5 at *
  subst e9
  obtain ⟨short, hsh⟩ : ∃ q, q = y % 128 := ⟨_, rfl⟩
  obtain ⟨rs, hrs⟩ : ∃ q, q = a / 16 % 8 * 16 := ⟨_, rfl⟩
  have b6 : bits .andNot .u8 (y : Int) 128 = (short : Int) := by rw [hsh]; exact clear_hi y hy8
  have b7 : bits .and .u8 (a : Int) 112 = (rs : Int) := by rw [hrs]; exact and_rsv a ha8
  have HSH := Lib.hid hsh
  have HRS := Lib.hid hrs
  clear hsh hrs
  by_cases hrs0 : rs = 0
  · subst hrs0
    have hA16 : a / 16 % 8 = 0 := by have := HRS.out; omega
    by_cases hmk : msk = mk
    · subst hmk
      have hft := fun (w' : World) (hb : Below w3.heap.size w3 w') => fits_any gr msk (.slice A n c) kind text false ⟨fin, op, msk, ⟨#[]⟩⟩ (fun _ => 0) hop16 short w' (HRD3.out.bel hb)
      obtain ⟨fb, hfb⟩ : ∃ q, q = fitsB kind op fin short := ⟨_, rfl⟩
      dsimp only at hft
      rw [← hfb] at hft
      unfold frV at hft
      dsimp only at hft
      have HFT := Lib.hid hft
      have HFB := Lib.hid hfb
      clear hft hfb r0 f2
      go_wp2_with fail
      refine wp_region_guarded [some 34, some 35, some 36, some 37, some 38, some 39, some 40, some 41, some 42, some 43, some 44, some 45, some 46, some 47, some 48, some 49, some 50, some 51, some 52, some 53, some 54] (fun _ => 0) (gvF [.slice (some ⟨b, off, none⟩) 2 c2, .pointer (some ⟨b, off, none⟩), .int .u8 (a : Int), .int .u8 0, .bool false, .bool false, .pointer (some ⟨g9, 2, none⟩), .bool msk, .pointer (some ⟨gr, 0, none⟩), .pointer (some ⟨gr, 0, none⟩), .pointer (some ⟨gr, 0, none⟩), .bool msk, .bool false, .bool false, .bool false, .pointer (some ⟨gr, 0, none⟩), .agg #[.bool fin, .int .i64 (op : Int), .bool msk, .int .u8 0, .int .u8 0, .int .u8 0, .int .u8 0, .string ⟨#[]⟩], .int .u8 (short : Int), .bool fb, .bool (!fb), .bool (!fb)]) (fun w' => Below w3.heap.size w3 w') (by kernel_rfl) (Below.refl _ _).drew rfl (by kernel_rfl) (by kernel_rfl) (by kernel_rfl) (fun T hT => ?_)
      simp only [List.filterMap_cons, List.filterMap_nil, id, putsS, Act.put, List.setIfInBounds_toArray, List.set_cons_zero, List.set_cons_succ] at hT
      subst hT
      refine ⟨⟨?_, ?_, ?_, ?_, ?_, ?_, ?_, ?_, ?_, ?_, ?_, ?_, ?_, ?_, ?_, ?_, ?_, ?_, ?_, ?_, ?_, trivial⟩, ?_⟩
      · refine StepA.guarded rfl ?_
        intro f w1 hG hF K hK
        clear hF
        dsimp only at hK ⊢
        go_simp
        exact hK.out _ _ hG rfl (fun _ _ _ h => h)
      · refine StepA.guarded rfl ?_
        intro f w1 hG hF K hK
        have d0 : f 34 = .slice (some ⟨b, off, none⟩) 2 c2 := hF 0 (by kernel_rfl)
        clear hF
        dsimp only at hK ⊢
        generalize f 34 = v34 at *
        subst d0
        go_simp
        exact hK.out _ _ hG rfl (fun _ _ _ h => h)
      · refine StepA.guarded rfl ?_
        intro f w1 hG hF K hK
        have d1 : f 35 = .pointer (some ⟨b, off, none⟩) := hF 1 (by kernel_rfl)
        clear hF
        dsimp only at hK ⊢
        generalize f 35 = v35 at *
        subst d1
        have y9 := HCA3.out w1 hG
        go_simp
        exact hK.out _ _ hG rfl (fun _ _ _ h => h)
      · refine StepA.guarded rfl ?_
        intro f w1 hG hF K hK
        have d2 : f 36 = .int .u8 (a : Int) := hF 2 (by kernel_rfl)
        clear hF
        dsimp only at hK ⊢
        generalize f 36 = v36 at *
        subst d2
        go_simp
        exact hK.out _ _ hG rfl (fun _ _ _ h => h)
      · refine StepA.guarded rfl ?_
        intro f w1 hG hF K hK
        have d3 : f 37 = .int .u8 0 := hF 3 (by kernel_rfl)
        clear hF
        dsimp only at hK ⊢
        generalize f 37 = v37 at *
        subst d3
        go_simp
        exact hK.out _ _ hG rfl (fun _ _ _ h => h)
      · refine StepA.guarded rfl ?_
        intro f w1 hG hF K hK
        have d4 : f 38 = .bool false := hF 4 (by kernel_rfl)
        clear hF
        dsimp only at hK ⊢
        generalize f 38 = v38 at *
        subst d4
        go_simp
        exact hK.out _ _ hG rfl (fun _ _ _ h => h)
      · intro f w1 hG hF K hK
        have d5 : f 39 = .bool false := hF 5 (by kernel_rfl)
        clear hF
        rw [if_pos (by rw [wanted_val (g := 5) (d := 39) (b := false) (c := false) rfl (by kernel_rfl) (show some (f 39) = some (.bool false) from congrArg some d5)]; rfl)]
        dsimp only at hK ⊢
        generalize f 39 = v39 at *
        subst d5
        go_simp
        exact hK.out _ _ hG rfl (fun _ _ _ h => h)
      · intro f w1 hG hF K hK
        have d5 : f 39 = .bool false := hF 5 (by kernel_rfl)
        have d6 : f 40 = .pointer (some ⟨g9, 2, none⟩) := hF 6 (by kernel_rfl)
        clear hF
        rw [if_pos (by rw [wanted_val (g := 5) (d := 39) (b := false) (c := false) rfl (by kernel_rfl) (show some (f 39) = some (.bool false) from congrArg some d5)]; rfl)]
        dsimp only at hK ⊢
        generalize f 39 = v39 at *
        generalize f 40 = v40 at *
        subst d5
        subst d6
        have y9 : w1.cell? ⟨g9, 2, none⟩ = some (.bool msk) := (HB9.out.bel hG).cell 2
        go_simp
        exact hK.out _ _ hG rfl (fun _ _ _ h => h)
      · intro f w1 hG hF K hK
        have d5 : f 39 = .bool false := hF 5 (by kernel_rfl)
        clear hF
        rw [if_pos (by rw [wanted_val (g := 5) (d := 39) (b := false) (c := false) rfl (by kernel_rfl) (show some (f 39) = some (.bool false) from congrArg some d5)]; rfl)]
        dsimp only at hK ⊢
        generalize f 39 = v39 at *
        subst d5
        go_simp
        exact hK.out _ _ hG rfl (fun _ _ _ h => h)
      · intro f w1 hG hF K hK
        have d5 : f 39 = .bool false := hF 5 (by kernel_rfl)
        have d8 : f 42 = .pointer (some ⟨gr, 0, none⟩) := hF 8 (by kernel_rfl)
        clear hF
        rw [if_pos (by rw [wanted_val (g := 5) (d := 39) (b := false) (c := false) rfl (by kernel_rfl) (show some (f 39) = some (.bool false) from congrArg some d5)]; rfl)]
        dsimp only at hK ⊢
        generalize f 39 = v39 at *
        generalize f 42 = v42 at *
        subst d5
        subst d8
        go_simp
        exact hK.out _ _ hG rfl (fun _ _ _ h => h)
      · intro f w1 hG hF K hK
        have d5 : f 39 = .bool false := hF 5 (by kernel_rfl)
        have d9 : f 43 = .pointer (some ⟨gr, 0, none⟩) := hF 9 (by kernel_rfl)
        clear hF
        rw [if_pos (by rw [wanted_val (g := 5) (d := 39) (b := false) (c := false) rfl (by kernel_rfl) (show some (f 39) = some (.bool false) from congrArg some d5)]; rfl)]
        dsimp only at hK ⊢
        generalize f 39 = v39 at *
        generalize f 43 = v43 at *
        subst d5
        subst d9
        go_simp
        exact hK.out _ _ hG rfl (fun _ _ _ h => h)
      · intro f w1 hG hF K hK
        have d5 : f 39 = .bool false := hF 5 (by kernel_rfl)
        have d10 : f 44 = .pointer (some ⟨gr, 0, none⟩) := hF 10 (by kernel_rfl)
        clear hF
        rw [if_pos (by rw [wanted_val (g := 5) (d := 39) (b := false) (c := false) rfl (by kernel_rfl) (show some (f 39) = some (.bool false) from congrArg some d5)]; rfl)]
        dsimp only at hK ⊢
        generalize f 39 = v39 at *
        generalize f 44 = v44 at *
        subst d5
        subst d10
        have y9 : w1.cell? ⟨gr, 0, none⟩ = some (.bool msk) := (HRD3.out.bel hG).cell 0
        go_simp
        exact hK.out _ _ hG rfl (fun _ _ _ h => h)
      · intro f w1 hG hF K hK
        have d5 : f 39 = .bool false := hF 5 (by kernel_rfl)
        have d7 : f 41 = .bool msk := hF 7 (by kernel_rfl)
        have d11 : f 45 = .bool msk := hF 11 (by kernel_rfl)
        clear hF
        rw [if_pos (by rw [wanted_val (g := 5) (d := 39) (b := false) (c := false) rfl (by kernel_rfl) (show some (f 39) = some (.bool false) from congrArg some d5)]; rfl)]
        dsimp only at hK ⊢
        generalize f 39 = v39 at *
        generalize f 41 = v41 at *
        generalize f 45 = v45 at *
        subst d5
        subst d7
        subst d11
        have y9 : (msk != msk) = false := by cases msk <;> rfl
        go_simp
        exact hK.out _ _ hG rfl (fun _ _ _ h => h)
      · refine StepA.guarded rfl ?_
        intro f w1 hG hF K hK
        have d5 : f 39 = .bool false := hF 5 (by kernel_rfl)
        have d12 : f 46 = .bool false := hF 12 (by kernel_rfl)
        clear hF
        dsimp only at hK ⊢
        generalize f 39 = v39 at *
        generalize f 46 = v46 at *
        subst d5
        subst d12
        go_simp
        exact hK.out _ _ hG rfl (fun _ _ _ h => h)
      · refine StepA.guarded rfl ?_
        intro f w1 hG hF K hK
        have d13 : f 47 = .bool false := hF 13 (by kernel_rfl)
        clear hF
        dsimp only at hK ⊢
        generalize f 47 = v47 at *
        subst d13
        go_simp
        exact hK.out _ _ hG rfl (fun _ _ _ h => h)
      · intro f w1 hG hF K hK
        have d14 : f 48 = .bool false := hF 14 (by kernel_rfl)
        clear hF
        rw [if_pos (by rw [wanted_val (g := 14) (d := 48) (b := false) (c := false) rfl (by kernel_rfl) (show some (f 48) = some (.bool false) from congrArg some d14)]; rfl)]
        dsimp only at hK ⊢
        generalize f 48 = v48 at *
        subst d14
        go_simp
        exact hK.out _ _ hG rfl (fun _ _ _ h => h)
      · intro f w1 hG hF K hK
        have d14 : f 48 = .bool false := hF 14 (by kernel_rfl)
        clear hF
        rw [if_pos (by rw [wanted_val (g := 14) (d := 48) (b := false) (c := false) rfl (by kernel_rfl) (show some (f 48) = some (.bool false) from congrArg some d14)]; rfl)]
        dsimp only at hK ⊢
        generalize f 48 = v48 at *
        subst d14
        obtain ⟨y0, y1, y2, y3, y4, y5, y6, y7⟩ := cells8 (HB9.out.bel hG)
        go_simp
        exact hK.out _ _ hG rfl (fun _ _ _ h => h)
      · intro f w1 hG hF K hK
        have d14 : f 48 = .bool false := hF 14 (by kernel_rfl)
        clear hF
        rw [if_pos (by rw [wanted_val (g := 14) (d := 48) (b := false) (c := false) rfl (by kernel_rfl) (show some (f 48) = some (.bool false) from congrArg some d14)]; rfl)]
        dsimp only at hK ⊢
        generalize f 48 = v48 at *
        subst d14
        go_simp
        exact hK.out _ _ hG rfl (fun _ _ _ h => h)
      · intro f w1 hG hF K hK
        have d14 : f 48 = .bool false := hF 14 (by kernel_rfl)
        have d15 : f 49 = .pointer (some ⟨gr, 0, none⟩) := hF 15 (by kernel_rfl)
        have d16 : f 50 = .agg #[.bool fin, .int .i64 (op : Int), .bool msk, .int .u8 0, .int .u8 0, .int .u8 0, .int .u8 0, .string ⟨#[]⟩] := hF 16 (by kernel_rfl)
        have d17 : f 51 = .int .u8 (short : Int) := hF 17 (by kernel_rfl)
        clear hF
        rw [if_pos (by rw [wanted_val (g := 14) (d := 48) (b := false) (c := false) rfl (by kernel_rfl) (show some (f 48) = some (.bool false) from congrArg some d14)]; rfl)]
        dsimp only at hK ⊢
        generalize f 48 = v48 at *
        generalize f 49 = v49 at *
        generalize f 50 = v50 at *
        generalize f 51 = v51 at *
        subst d14
        subst d15
        subst d16
        subst d17
        go_simp
        refine (HFT.out w1 hG).mono ?_
        rintro e w20 ⟨rfl, hb20⟩
        exact hK.out _ _ (hG.trans (hb20.mono hG.size)) rfl (fun j _ _ h => h)
      · intro f w1 hG hF K hK
        have d14 : f 48 = .bool false := hF 14 (by kernel_rfl)
        have d18 : f 52 = .bool fb := hF 18 (by kernel_rfl)
        clear hF
        rw [if_pos (by rw [wanted_val (g := 14) (d := 48) (b := false) (c := false) rfl (by kernel_rfl) (show some (f 48) = some (.bool false) from congrArg some d14)]; rfl)]
        dsimp only at hK ⊢
        generalize f 48 = v48 at *
        generalize f 52 = v52 at *
        subst d14
        subst d18
        go_simp
        exact hK.out _ _ hG rfl (fun _ _ _ h => h)
      · refine StepA.guarded rfl ?_
        intro f w1 hG hF K hK
        have d14 : f 48 = .bool false := hF 14 (by kernel_rfl)
        have d19 : f 53 = .bool (!fb) := hF 19 (by kernel_rfl)
        clear hF
        dsimp only at hK ⊢
        generalize f 48 = v48 at *
        generalize f 53 = v53 at *
        subst d14
        subst d19
        go_simp
        exact hK.out _ _ hG rfl (fun _ _ _ h => h)
      intro f w20 hG hF
      have eL : f 54 = .bool (!fb) := hF 20 (by decide)
      have HB20 := Lib.hid hG
      clear hF hG
      dsimp only
      generalize f 34 = v34
      generalize f 35 = v35
      generalize f 36 = v36
      generalize f 37 = v37
      generalize f 38 = v38
      generalize f 39 = v39
      generalize f 40 = v40
      generalize f 41 = v41
      generalize f 42 = v42
      generalize f 43 = v43
      generalize f 44 = v44
      generalize f 45 = v45
      generalize f 46 = v46
      generalize f 47 = v47
      generalize f 48 = v48
      generalize f 49 = v49
      generalize f 50 = v50
      generalize f 51 = v51
      generalize f 52 = v52
      generalize f 53 = v53
      generalize f 54 = v54 at *
      subst eL
      have HBW2 := Lib.hid (HBW.out.trans (HB20.out.mono HBW.out.size))
      have HR4 := Lib.hid (HR3.out.bel HB20.out)
      have HF4 := Lib.hid (HF3.out.bel HB20.out)
      have HRD4 := Lib.hid (HRD3.out.bel HB20.out)
      have HB94 := Lib.hid (HB9.out.bel HB20.out)
      clear HB20 HR3 HRD3 HB9 HCA3 HFT ca cb
      cases fb with
      | false =>
        have HRV := Lib.hid (show R = .no 1002 by
          rw [HR.out]
          unfold frameN
          rw [if_neg (by have := HN.out; omega), if_pos (Or.inr (Or.inr (by rw [← HA0.out, ← HY0.out, ← HOP.out, ← HFIN.out, ← HSH.out]; exact HFB.out.symm)))])
        go_wp2_with fail
        refine ⟨rfl, ?_⟩
        rw [HRV.out]
        exact ⟨KQ.of_below HNE.out.1 HBW2.out, rfl, H0.out.below HBW2.out HNE.out.1⟩
      | true =>
        have hlb : ∀ x ∈ l.drop 2, x < 256 := fun x hx => HL.out x (List.mem_of_mem_drop hx)
        have LC := Lib.hid (length_any (B := B0) gq short (by have := HSH.out; omega) (l.drop 2) w20 HR4.out hlb)
        have HRL := Lib.hid (show R = (match lngN short (l.drop 2) with
          | .no c => .no c
          | .ok size l2 =>
            if op < 8 ∧ 4096 < text.size + size then .no 1009
            else if msk = true then
              (if l2.length < 4 then .no 0 else if (l2.drop 4).length < size then .no 0
                else .ok (⟨fin, op, msk, txt (xorN (maskF l2) ((l2.drop 4).take size))⟩, maskF l2) ((l2.drop 4).drop size))
            else (if l2.length < size then .no 0
              else .ok (⟨fin, op, msk, txt (xorN (fun _ => 0) (l2.take size))⟩, fun _ => 0) (l2.drop size))) by
          rw [HR.out]
          unfold frameN
          rw [if_neg (by have := HN.out; omega), if_neg (by
            rw [← HA0.out, ← HY0.out, ← HOP.out, ← HFIN.out, ← HSH.out, ← HMSK.out, ← HFB.out]
            intro h
            rcases h with h | h | h
            · exact h hA16
            · exact h rfl
            · cases h), ← HA0.out, ← HY0.out, ← HOP.out, ← HFIN.out, ← HSH.out])
        obtain ⟨lr, hlr⟩ : ∃ q, q = lngN short (l.drop 2) := ⟨_, rfl⟩
        have HLR := Lib.hid hlr
        rw [← hlr] at LC HRL
        clear hlb hlr hA16
        go_wp2_with fail
        refine LC.out.mono ?_
        rintro e w4 hpost
        cases lr with
        | no z =>
          obtain ⟨rfl, hk⟩ := hpost
          have HBW4 := Lib.hid (HBW2.out.trans (hk.bel.mono (by have := HNE.out; omega)))
          have HRV := Lib.hid (show R = .no z from HRL.out)
          clear hk
          go_wp2_with fail
          refine ⟨rfl, ?_⟩
          rw [HRV.out]
          exact ⟨KQ.of_below HNE.out.1 HBW4.out, rfl, H0.out.below HBW4.out HNE.out.1⟩
        | ok size l2 =>
          obtain ⟨rfl, hrd, hk⟩ := hpost
          have hbw4 := HBW2.out.trans (hk.bel.mono (by have := HNE.out; omega))
          have HBW4 := Lib.hid hbw4
          have HR5 := Lib.hid hrd
          have HF5 := Lib.hid (bk_kept HF4.out (by have := HNE.out; omega) hk.kept)
          have k9 := bk_kept HB94.out (by have := HQ9.out; omega) hk.kept
          have HB95 := Lib.hid k9
          have f1 : w4.cell? ⟨g9, 1, none⟩ = some (.int .i64 (op : Int)) := k9.cell 1
          have f2 : w4.cell? ⟨g9, 2, none⟩ = some (.bool msk) := k9.cell 2
          have r3 : w4.cell? ⟨gr, 3, none⟩ = some (.string text) := (H0.out.below hbw4 HNE.out.1).cell 3
          have hSub : IntKind.i64.wrap (4096 - (text.size : Int)) = 4096 - (text.size : Int) := by rw [IntKind.wrap_i64]; omega
          have HL2 := Lib.hid (show l2.length ≤ 1000000 ∧ ∀ x ∈ l2, x < 256 from by
            obtain ⟨d, hd⟩ := lngN_sub HLR.out
            subst hd
            exact ⟨by simp only [List.length_drop]; have := HN.out; omega, fun x hx => HL.out x (List.mem_of_mem_drop (List.mem_of_mem_drop hx))⟩)
          have HZ := Lib.hid (show w.heap.size ≤ g9 by have := HNE.out; have := HQ9.out; omega)
          clear hk hrd hbw4 k9 HR4 HRD4 HB94 LC
          by_cases hop8 : op < 8
          · have g8 : decide ((op : Int) < 8) = true := decide_eq_true (by omega)
            by_cases hbig : 4096 < text.size + size
            · have gb : decide (4096 - (text.size : Int) < (size : Int)) = true := decide_eq_true (by omega)
              have HRV := Lib.hid (show R = .no 1009 by
                rw [HRL.out]
                dsimp only
                rw [if_pos ⟨hop8, hbig⟩])
              clear hop8 hbig
              go_wp2_with fail
              refine ⟨rfl, ?_⟩
              rw [HRV.out]
              exact ⟨KQ.of_below HNE.out.1 HBW4.out, rfl, H0.out.below HBW4.out HNE.out.1⟩
            · have gb : decide (4096 - (text.size : Int) < (size : Int)) = false := decide_eq_false (by omega)
              have HRN := Lib.hid (HRL.out.trans (if_neg (fun h => hbig h.2)))
              clear hop8 hbig
              cases msk with
              | false =>
                obtain ⟨M, hM⟩ : ∃ M, M = (fun _ => 0 : Nat → Nat) := ⟨_, rfl⟩
                obtain ⟨l3, hl3⟩ : ∃ q, q = l2 := ⟨_, rfl⟩
                have HRF := Lib.hid (show R = if l3.length < size then .no 0 else .ok (⟨fin, op, false, txt (xorN M (l3.take size))⟩, M) (l3.drop size) by
                  rw [HRN.out, if_neg (by decide), hl3, hM])
                have HM := Lib.hid (show ∀ i, i < 4 → M i < 256 from fun i hi => by
                  rw [hM]
                  exact (by decide : (0 : Nat) < 256))
                have HL3 := Lib.hid (show l3.length ≤ 1000000 ∧ ∀ x ∈ l3, x < 256 from by
                  rw [hl3]
                  exact HL2.out)
                have HB6 := Lib.hid (show Bk w4 g9 24 (fpC fin op false M ⟨#[]⟩) by
                  rw [hM]
                  exact HB95.out)
                have HR6 := Lib.hid (show Rd B0 w4 gq l3 by
                  rw [hl3]
                  exact HR5.out)
                have HBW6 := Lib.hid HBW4.out
                have HF6 := Lib.hid HF5.out
                clear hM hl3
                go_wp2_with fail
                clear f1 f2 r3
                obtain ⟨A6, c6, hb6, hc6, hs6, ha6⟩ := HR6.out
                have HA6 := Lib.hid (And.intro hc6 ha6)
                have GD := Lib.hid (show FpG w gf g9 w4.drew from ⟨HBW6.out.drew, HB6.out.lt, HF6.out.drew⟩)
                have HD := Lib.hid (show ∀ m, m < 8 → fpH gq g9 A6 c6 l3 fin op false M m w4.drew from fun m hm => by
                  unfold fpH
                  split
                  · exact ⟨hb6.drew, hs6⟩
                  · exact HB6.out.drew
                  · trivial)
                clear hb6 hc6 hs6 ha6
                by_cases hsz : l3.length < size
                · have HRV := Lib.hid (show R = .no 0 by rw [HRF.out, if_pos hsz])
                  have HSZ := Lib.hid hsz
                  clear hsz
                  refine wp_region_late [some 78, some 79, some 80, some 81, some 82, some 83, some 84, none] (fun _ => 0) (fpN g9 size M) (FpG w gf g9) (fpH gq g9 A6 c6 l3 fin op false M) (by kernel_rfl) GD.out HD.out rfl (by kernel_rfl) (by kernel_rfl) (by kernel_rfl) (by kernel_rfl) (fun T hT => ?_)
                  simp only [List.filterMap_cons, List.filterMap_nil, id, putsS, Act.put, List.setIfInBounds_toArray, List.set_cons_zero, List.set_cons_succ] at hT
                  subst hT
                  refine ⟨⟨?_, ?_, ?_, ?_, ?_, ?_, ?_, ?_, trivial⟩, ?_⟩
                  · intro f w1 hG hO hL hF K hK
                    clear hF hO hL
                    dsimp only at hK ⊢
                    go_simp
                    exact hK.out _ _ hG rfl (fun _ _ _ h => h) (fun _ _ h => h)
                  · intro f w1 hG hO hL hF K hK
                    have l1 : (fpH gq g9 A6 c6 l3 fin op false M) 1 w1 := hL 1 (Nat.le_of_ble_eq_true (by kernel_rfl)) (by kernel_rfl)
                    have d0 : (fpN g9 size M) 0 (f 78) (f 0) w1 := hF 0 (by kernel_rfl)
                    clear hF hO hL
                    dsimp only at hK ⊢
                    generalize hf78 : f 78 = v78 at *
                    subst d0
                    go_simp
                    refine (take_no (B := B0) gq size l3 w1 ⟨A6, c6, l1.1, HA6.out.1, l1.2, HA6.out.2⟩ HSZ.out).mono ?_
                    rintro e w21 ⟨rfl, rfl⟩
                    refine ⟨rfl, ?_⟩
                    rw [HRV.out]
                    exact ⟨KQ.of_below HNE.out.1 hG.1, rfl, H0.out.below hG.1 HNE.out.1⟩
                  · intro f w1 hG hO hL hF K hK
                    clear hF hO hL
                    dsimp only at hK ⊢
                    go_simp
                    exact hK.out _ _ hG rfl (fun _ _ _ h => h) (fun _ _ h => h)
                  · intro f w1 hG hO hL hF K hK
                    have l7 : Bk w1 g9 24 (fpC fin op false M ⟨#[]⟩) := hL 7 (Nat.le_of_ble_eq_true (by kernel_rfl)) (by kernel_rfl)
                    have d2 : (fpN g9 size M) 2 (f 80) (f 0) w1 := hF 2 (by kernel_rfl)
                    clear hF hO hL
                    dsimp only at hK ⊢
                    generalize hf80 : f 80 = v80 at *
                    subst d2
                    obtain ⟨y0, y1, y2, y3, y4, y5, y6, y7⟩ := cells8 l7
                    go_simp
                    exact hK.out _ _ hG rfl (fun _ _ _ h => h) (fun _ _ h => h)
                  · intro f w1 hG hO hL hF K hK
                    have d1 : (fpN g9 size M) 1 (f 79) (f 0) w1 := hF 1 (by kernel_rfl)
                    have d3 : (fpN g9 size M) 3 (f 81) (f 0) w1 := hF 3 (by kernel_rfl)
                    clear hF hO hL
                    dsimp only at hK ⊢
                    generalize hf79 : f 79 = v79 at *
                    generalize hf81 : f 81 = v81 at *
                    exact False.elim d1
                  · intro f w1 hG hO hL hF K hK
                    have d4 : (fpN g9 size M) 4 (f 82) (f 0) w1 := hF 4 (by kernel_rfl)
                    clear hF hO hL
                    dsimp only at hK ⊢
                    generalize hf82 : f 82 = v82 at *
                    exact False.elim d4
                  · intro f w1 hG hO hL hF K hK
                    clear hF hO hL
                    dsimp only at hK ⊢
                    go_simp
                    exact hK.out _ _ hG rfl (fun _ _ _ h => h) (fun _ _ h => h)
                  · intro f w1 hG hO hL hF K hK
                    have l7 : Bk w1 g9 24 (fpC fin op false M ⟨#[]⟩) := hL 7 (Nat.le_of_ble_eq_true (by kernel_rfl)) (by kernel_rfl)
                    have d6 : (fpN g9 size M) 6 (f 84) (f 0) w1 := hF 6 (by kernel_rfl)
                    have d5 : (fpN g9 size M) 5 (f 83) (f 0) w1 := hF 5 (by kernel_rfl)
                    clear hF hO hL
                    dsimp only at hK ⊢
                    generalize hf84 : f 84 = v84 at *
                    generalize hf83 : f 83 = v83 at *
                    exact False.elim d5
                  intro f w7 hG hF
                  have f3 : False := hF 1 (by decide)
                  exact f3.elim
                · have HRV := Lib.hid (show R = .ok (⟨fin, op, false, txt (xorN M (l3.take size))⟩, M) (l3.drop size) by rw [HRF.out, if_neg hsz])
                  have HSZ := Lib.hid (show size ≤ l3.length by omega)
                  have HC6 := Lib.hid (show size ≤ c6 by have := HA6.out.1; omega)
                  clear hsz
                  refine wp_region_late [some 78, some 79, some 80, some 81, some 82, some 83, some 84, none] (fun _ => 0) (fpF B0 gq g9 size A6 c6 l3 fin op false M) (FpG w gf g9) (fpH gq g9 A6 c6 l3 fin op false M) (by kernel_rfl) GD.out HD.out rfl (by kernel_rfl) (by kernel_rfl) (by kernel_rfl) (by kernel_rfl) (fun T hT => ?_)
                  simp only [List.filterMap_cons, List.filterMap_nil, id, putsS, Act.put, List.setIfInBounds_toArray, List.set_cons_zero, List.set_cons_succ] at hT
                  subst hT
                  refine ⟨⟨?_, ?_, ?_, ?_, ?_, ?_, ?_, ?_, trivial⟩, ?_⟩
                  · intro f w1 hG hO hL hF K hK
                    clear hF hO hL
                    dsimp only at hK ⊢
                    go_simp
                    exact hK.out _ _ hG rfl (fun _ _ _ h => h) (fun _ _ h => h)
                  · intro f w1 hG hO hL hF K hK
                    have l1 : (fpH gq g9 A6 c6 l3 fin op false M) 1 w1 := hL 1 (Nat.le_of_ble_eq_true (by kernel_rfl)) (by kernel_rfl)
                    have d0 : (fpF B0 gq g9 size A6 c6 l3 fin op false M) 0 (f 78) (f 0) w1 := hF 0 (by kernel_rfl)
                    clear hF hO hL
                    dsimp only at hK ⊢
                    generalize hf78 : f 78 = v78 at *
                    subst d0
                    go_simp
                    refine (take_at gq size l3 A6 c6 w1 l1.1 HA6.out.1 l1.2 HA6.out.2 HSZ.out).mono ?_
                    rintro e w21 ⟨⟨rfl, _, hs⟩, hr, hk⟩
                    exact hK.out _ _ (FpG.call hG hk (by have := HNE.out; omega) (by have := HNE.out; omega)) ⟨rfl, hs, hr⟩ (fun j hj _ h => fpF_call hk HQ9.out j hj _ _ h) (fun m hm h => fpH_call hk HQ9.out m hm h)
                  · intro f w1 hG hO hL hF K hK
                    clear hF hO hL
                    dsimp only at hK ⊢
                    go_simp
                    exact hK.out _ _ hG rfl (fun _ _ _ h => h) (fun _ _ h => h)
                  · intro f w1 hG hO hL hF K hK
                    have l7 : Bk w1 g9 24 (fpC fin op false M ⟨#[]⟩) := hL 7 (Nat.le_of_ble_eq_true (by kernel_rfl)) (by kernel_rfl)
                    have d2 : (fpF B0 gq g9 size A6 c6 l3 fin op false M) 2 (f 80) (f 0) w1 := hF 2 (by kernel_rfl)
                    clear hF hO hL
                    dsimp only at hK ⊢
                    generalize hf80 : f 80 = v80 at *
                    subst d2
                    obtain ⟨y0, y1, y2, y3, y4, y5, y6, y7⟩ := cells8 l7
                    go_simp
                    exact hK.out _ _ hG rfl (fun _ _ _ h => h) (fun _ _ h => h)
                  · intro f w1 hG hO hL hF K hK
                    have d1 : (fpF B0 gq g9 size A6 c6 l3 fin op false M) 1 (f 79) (f 0) w1 := hF 1 (by kernel_rfl)
                    have d3 : (fpF B0 gq g9 size A6 c6 l3 fin op false M) 3 (f 81) (f 0) w1 := hF 3 (by kernel_rfl)
                    clear hF hO hL
                    dsimp only at hK ⊢
                    generalize hf79 : f 79 = v79 at *
                    generalize hf81 : f 81 = v81 at *
                    obtain ⟨rfl, hs1, hr1⟩ := d1
                    subst d3
                    go_simp
                    refine (turned_any A6 size c6 (l3.take size) M HM.out (fun x hx => HL3.out.2 x (List.mem_of_mem_take hx)) (by rw [List.length_take, Nat.min_eq_left HSZ.out]) HC6.out (Nat.le_trans HSZ.out HL3.out.1) w1 hs1).mono ?_
                    rintro e w21 ⟨⟨v, rfl, ho⟩, hb⟩
                    obtain ⟨A5, c5, rfl, h5, hs5⟩ := own_shape ho
                    exact hK.out _ _ (FpG.bel hG hb) ⟨A5, c5, rfl, hs5, fun a e => by subst e; have h1 := (ho.lt a.block rfl).1; have h2 := hG.2.1; have h3 := HQ9.out; exact ⟨by omega, by omega⟩⟩ (fun j hj _ h => fpF_bel hb j _ _ h) (fun m hm h => fpH_bel hb m h)
                  · intro f w1 hG hO hL hF K hK
                    have d4 : (fpF B0 gq g9 size A6 c6 l3 fin op false M) 4 (f 82) (f 0) w1 := hF 4 (by kernel_rfl)
                    clear hF hO hL
                    dsimp only at hK ⊢
                    generalize hf82 : f 82 = v82 at *
                    obtain ⟨A5, c5, rfl, hs5, _⟩ := d4
                    have cv := run_txt w1 A5 size c5 _ (by rw [xorN_length, List.length_take, Nat.min_eq_left HSZ.out]) hs5 (xorFrom_lt HM.out 0 _ (fun x hx => HL3.out.2 x (List.mem_of_mem_take hx)))
                    go_simp
                    exact hK.out _ _ hG rfl (fun _ _ _ h => h) (fun _ _ h => h)
                  · intro f w1 hG hO hL hF K hK
                    clear hF hO hL
                    dsimp only at hK ⊢
                    go_simp
                    exact hK.out _ _ hG rfl (fun _ _ _ h => h) (fun _ _ h => h)
                  · intro f w1 hG hO hL hF K hK
                    have l7 : Bk w1 g9 24 (fpC fin op false M ⟨#[]⟩) := hL 7 (Nat.le_of_ble_eq_true (by kernel_rfl)) (by kernel_rfl)
                    have d6 : (fpF B0 gq g9 size A6 c6 l3 fin op false M) 6 (f 84) (f 0) w1 := hF 6 (by kernel_rfl)
                    have d5 : (fpF B0 gq g9 size A6 c6 l3 fin op false M) 5 (f 83) (f 0) w1 := hF 5 (by kernel_rfl)
                    clear hF hO hL
                    dsimp only at hK ⊢
                    generalize hf84 : f 84 = v84 at *
                    generalize hf83 : f 83 = v83 at *
                    subst d6
                    subst d5
                    have y7 : w1.cell? ⟨g9, 7, none⟩ = some (.string ⟨#[]⟩) := l7.cell 7
                    have z7 := l7.frozen 7
                    have hN := l7.put 7 (.string (txt (xorN M (l3.take size))))
                    unfold fpC at hN
                    simp only [List.setIfInBounds_toArray, List.set_cons_zero, List.set_cons_succ] at hN
                    go_simp
                    exact hK.out undef _ (FpG.set hG HZ.out (by have := HNE.out; have := HQ9.out; omega) 7 _) hN (fun j hj _ h => fpF_set (fun a e => by have := HA6.out.2 a e; have := HZ.out; have := HB0.out; omega) (Nat.le_trans HB0.out HZ.out) HQ9.out 7 _ j hj _ _ h) (fun m hm h => fpH_set (fun a e => by have := HA6.out.2 a e; have := HZ.out; have := HB0.out; omega) HQ9.out 7 _ m hm h)
                  intro f w7 hG hF
                  have d1 : (fpF B0 gq g9 size A6 c6 l3 fin op false M) 1 (f 79) (f 0) w7 := hF 1 (by decide)
                  have d7 : Bk w7 g9 24 (fpC fin op false M (txt (xorN M (l3.take size)))) := hF 7 (by decide)
                  clear hF
                  obtain ⟨_, _, hr7⟩ := d1
                  dsimp only
                  generalize f 78 = v78
                  generalize f 79 = v79
                  generalize f 80 = v80
                  generalize f 81 = v81
                  generalize f 82 = v82
                  generalize f 83 = v83
                  generalize f 84 = v84
                  obtain ⟨l4, hl4⟩ : ∃ q, q = l3.drop size := ⟨_, rfl⟩
                  obtain ⟨tx, htx⟩ : ∃ q, q = txt (xorN M (l3.take size)) := ⟨_, rfl⟩
                  rw [← htx] at d7
                  rw [← hl4] at hr7
                  have HRW := Lib.hid (HRV.out.trans (by rw [← htx, ← hl4] : _ = Rs.ok ((⟨fin, op, false, tx⟩ : FrM), M) l4))
                  obtain ⟨A8, c8, hb8, hc8, hs8, ha8⟩ := hr7
                  obtain ⟨m8, hm8⟩ : ∃ q, q = l4.length := ⟨_, rfl⟩
                  rw [← hm8] at hb8 hc8
                  obtain ⟨hbw7, _, hf7⟩ := hG
                  have rd7 := H0.out.below hbw7 HNE.out.1
                  have q0 : w7.cell? ⟨gq, 0, none⟩ = some (.slice A8 m8 c8) := hb8.cell 0
                  have r1 : w7.cell? ⟨gr, 1, none⟩ = some (.slice A n c) := rd7.cell 1
                  have zr := rd7.frozen 1
                  obtain ⟨w8, hw8⟩ : ∃ x, x = w7.setCell ⟨gr, 1, none⟩ (.slice A8 m8 c8) := ⟨_, rfl⟩
                  have d8 : Bk w8 g9 24 (fpC fin op false M tx) := by
                    rw [hw8]
                    exact d7.far (p := ⟨gr, 1, none⟩) (by show g9 ≠ gr; have := HNE.out; have := HZ.out; omega) _
                  have f8 := hf7
                  have hf8 : Bk w8 gf 24 #[.bool false, .int .i64 0, .bool false, .int .u8 0, .int .u8 0, .int .u8 0, .int .u8 0, .string ⟨#[]⟩] := by
                    rw [hw8]
                    exact hf7.far (p := ⟨gr, 1, none⟩) (by show gf ≠ gr; have := HNE.out; omega) _
                  have hs9 := seg_far rd7 hs8 (fun _ h => by cases h) 1 (.slice A8 m8 c8)
                  have k8 : KQ gr w w8 := by
                    rw [hw8]
                    exact (KQ.of_below HNE.out.1 hbw7).trans (KQ.set gr 1 w7 _)
                  have rd8 : Bk w8 gr 59 (rdC false (.slice A8 m8 c8) kind text false) := by
                    rw [hw8]
                    have k := rd7.put 1 (.slice A8 m8 c8)
                    exact k
                  rw [← hw8] at hs9
                  have HW8 := Lib.hid hw8
                  have HRD8 := Lib.hid rd8
                  have HK8 := Lib.hid k8
                  have HS8 := Lib.hid hs9
                  have HC8 := Lib.hid (And.intro hm8 (And.intro hc8 ha8))
                  have HF8 := Lib.hid hf8
                  have HB8 := Lib.hid d8
                  clear hw8 rd8 k8 hs9 f8 hf7 hs8 hb8 hbw7 hc8 ha8 hl4 htx d7 rd7
                  clear d8 hf8 hm8
                  go_upto_region 14 with fail
                  rw [← HW8.out]
                  clear q0 r1 zr
                  obtain ⟨y0, y1, y2, y3, y4, y5, y6, y7⟩ := cells8 HB8.out
                  obtain ⟨x0, x1, x2, x3, x4, x5, x6, x7⟩ := cells8 HF8.out
                  have z0 := HF8.out.frozen 0
                  have z1 := HF8.out.frozen 1
                  have z2 := HF8.out.frozen 2
                  have z3 := HF8.out.frozen 3
                  have z4 := HF8.out.frozen 4
                  have z5 := HF8.out.frozen 5
                  have z6 := HF8.out.frozen 6
                  have z7 := HF8.out.frozen 7
                  go_wp2_with fail
                  clear y0 y1 y2 y3 y4 y5 y6 y7 x0 x1 x2 x3 x4 x5 x6 x7 z0 z1 z2 z3 z4 z5 z6 z7
                  have FB := box8 HF8.out (.bool fin) (.int .i64 (op : Nat)) (.bool false) (.int .u8 (M 0 : Nat)) (.int .u8 (M 1 : Nat)) (.int .u8 (M 2 : Nat)) (.int .u8 (M 3 : Nat)) (.string tx)
                  obtain ⟨r0, r1, r2, r3, r4, r5, r6, r7⟩ := cells8 FB
                  have K8 := kept8 w8 gf (.bool fin) (.int .i64 (op : Nat)) (.bool false) (.int .u8 (M 0 : Nat)) (.int .u8 (M 1 : Nat)) (.int .u8 (M 2 : Nat)) (.int .u8 (M 3 : Nat)) (.string tx)
                  have FIN := Lib.hid (frame_fin (A := A) (n := n) (c := c) HRW.out HNE.out HK8.out HRD8.out HS8.out HC8.out HB0.out K8 (below8 HK8.out.bel (by have := HNE.out; omega) _ _ _ _ _ _ _ _))
                  clear K8 FB
                  unfold set8 at r0 r1 r2 r3 r4 r5 r6 r7
                  exact bodyPost_ret (v := frV ⟨fin, op, false, tx⟩ M) (by simp [results, Tryd.results44, go_sem, r0, r1, r2, r3, r4, r5, r6, r7, frV]) rfl FIN.out
              
              | true =>
                by_cases h4 : l2.length < 4
                · have TN := Lib.hid (take_no gq 4 l2 w4 HR5.out h4)
                  have HRV := Lib.hid (show R = .no 0 by
                    rw [HRN.out, if_pos rfl, if_pos h4])
                  clear h4
                  go_wp2_with fail
                  refine TN.out.mono ?_
                  rintro e w5 ⟨rfl, rfl⟩
                  go_wp2_with fail
                  refine ⟨rfl, ?_⟩
                  rw [HRV.out]
                  exact ⟨KQ.of_below HNE.out.1 HBW4.out, rfl, H0.out.below HBW4.out HNE.out.1⟩
                · have h4' : 4 ≤ l2.length := by omega
                  obtain ⟨M, hM⟩ : ∃ M, M = maskF l2 := ⟨_, rfl⟩
                  obtain ⟨l3, hl3⟩ : ∃ q, q = l2.drop 4 := ⟨_, rfl⟩
                  have HRF := Lib.hid (show R = if l3.length < size then .no 0 else .ok (⟨fin, op, true, txt (xorN M (l3.take size))⟩, M) (l3.drop size) by
                    rw [HRN.out, if_pos rfl, if_neg h4, hl3, hM])
                  have HM := Lib.hid (show ∀ i, i < 4 → M i < 256 from fun i hi => by
                    rw [hM]
                    unfold maskF
                    rw [List.getD_eq_getElem?_getD, List.getElem?_eq_getElem (show i < l2.length by omega)]
                    exact HL2.out.2 _ (List.getElem_mem _))
                  have HL3 := Lib.hid (show l3.length ≤ 1000000 ∧ ∀ x ∈ l3, x < 256 from by
                    rw [hl3]
                    exact ⟨by rw [List.length_drop]; have := HL2.out.1; omega, fun x hx => HL2.out.2 x (List.mem_of_mem_drop hx)⟩)
                  clear h4
                  obtain ⟨A4, c4, hb4, hc4, hs4, ha4⟩ := HR5.out
                  have TK4 := Lib.hid (take_at gq 4 l2 A4 c4 w4 hb4 hc4 hs4 ha4 h4')
                  have H4 := Lib.hid h4'
                  have HMM := Lib.hid hM
                  have HLL := Lib.hid hl3
                  clear hb4 hc4 hs4 ha4 h4' hM hl3
                  go_wp2_with fail
                  refine TK4.out.mono ?_
                  rintro e w5 ⟨⟨rfl, hc5, hs5⟩, hr5, hk5⟩
                  obtain ⟨b4, o4, rfl, hbl4, m0, m1, m2, m3⟩ := four hs5 H4.out
                  rw [← HMM.out] at m0 m1 m2 m3
                  rw [← HLL.out] at hr5
                  have k9 := bk_kept HB95.out (by have := HQ9.out; omega) hk5.kept
                  have hbw5 := HBW4.out.trans (hk5.bel.mono (by have := HNE.out; omega))
                  have k5 := bk_kept HF5.out (by have := HNE.out; omega) hk5.kept
                  obtain ⟨y0, y1, y2, y3, y4, y5, y6, y7⟩ := cells8 k9
                  have z3 := k9.frozen 3
                  have z4 := k9.frozen 4
                  have z5 := k9.frozen 5
                  have z6 := k9.frozen 6
                  obtain ⟨w6, hw6⟩ : ∃ x, x = (((w5.setCell ⟨g9, 3, none⟩ (.int .u8 (M 0 : Nat))).setCell ⟨g9, 4, none⟩ (.int .u8 (M 1 : Nat))).setCell ⟨g9, 5, none⟩ (.int .u8 (M 2 : Nat))).setCell ⟨g9, 6, none⟩ (.int .u8 (M 3 : Nat)) := ⟨_, rfl⟩
                  have HB6 := Lib.hid (show Bk w6 g9 24 (fpC fin op true M ⟨#[]⟩) by
                    have k := (((k9.put 3 (.int .u8 (M 0 : Nat))).put 4 (.int .u8 (M 1 : Nat))).put 5 (.int .u8 (M 2 : Nat))).put 6 (.int .u8 (M 3 : Nat))
                    simp only [List.setIfInBounds_toArray, List.set_cons_zero, List.set_cons_succ] at k
                    rw [hw6]
                    exact k)
                  have kk : Kept1 g9 w5 w6 := by
                    rw [hw6]
                    exact (((Kept1.set w5 g9 3 _).trans (Kept1.set _ g9 4 _)).trans (Kept1.set _ g9 5 _)).trans (Kept1.set _ g9 6 _)
                  have HBW6 := Lib.hid (show Below w.heap.size w w6 by
                    rw [hw6]
                    exact (((hbw5.setCell (p := ⟨g9, 3, none⟩) HZ.out _).setCell (p := ⟨g9, 4, none⟩) HZ.out _).setCell (p := ⟨g9, 5, none⟩) HZ.out _).setCell (p := ⟨g9, 6, none⟩) HZ.out _)
                  have HR6 := Lib.hid (hr5.other kk (by have := HQ9.out; omega) (Or.inr (Nat.le_trans HB0.out HZ.out)))
                  have HF6 := Lib.hid (bk_kept k5 (by have := HNE.out; have := HQ9.out; omega) kk)
                  have HW6 := Lib.hid hw6
                  have harr := run_arr4 (some ⟨b4, o4, none⟩) 4 c4 (Nat.le_refl 4)
                  clear hs5 hr5 hk5 k9 TK4 hbw5 k5 kk hw6
                  go_wp2_with fail
                  rw [← HW6.out]
                  clear y0 y1 y2 y3 y4 y5 y6 y7 z3 z4 z5 z6 m0 m1 m2 m3 harr f1 f2 r3
                  obtain ⟨A6, c6, hb6, hc6, hs6, ha6⟩ := HR6.out
                  have HA6 := Lib.hid (And.intro hc6 ha6)
                  have GD := Lib.hid (show FpG w gf g9 w6.drew from ⟨HBW6.out.drew, HB6.out.lt, HF6.out.drew⟩)
                  have HD := Lib.hid (show ∀ m, m < 8 → fpH gq g9 A6 c6 l3 fin op true M m w6.drew from fun m hm => by
                    unfold fpH
                    split
                    · exact ⟨hb6.drew, hs6⟩
                    · exact HB6.out.drew
                    · trivial)
                  clear hb6 hc6 hs6 ha6
                  by_cases hsz : l3.length < size
                  · have HRV := Lib.hid (show R = .no 0 by rw [HRF.out, if_pos hsz])
                    have HSZ := Lib.hid hsz
                    clear hsz
                    refine wp_region_late [some 78, some 79, some 80, some 81, some 82, some 83, some 84, none] (fun _ => 0) (fpN g9 size M) (FpG w gf g9) (fpH gq g9 A6 c6 l3 fin op true M) (by kernel_rfl) GD.out HD.out rfl (by kernel_rfl) (by kernel_rfl) (by kernel_rfl) (by kernel_rfl) (fun T hT => ?_)
                    simp only [List.filterMap_cons, List.filterMap_nil, id, putsS, Act.put, List.setIfInBounds_toArray, List.set_cons_zero, List.set_cons_succ] at hT
                    subst hT
                    refine ⟨⟨?_, ?_, ?_, ?_, ?_, ?_, ?_, ?_, trivial⟩, ?_⟩
                    · intro f w1 hG hO hL hF K hK
                      clear hF hO hL
                      dsimp only at hK ⊢
                      go_simp
                      exact hK.out _ _ hG rfl (fun _ _ _ h => h) (fun _ _ h => h)
                    · intro f w1 hG hO hL hF K hK
                      have l1 : (fpH gq g9 A6 c6 l3 fin op true M) 1 w1 := hL 1 (Nat.le_of_ble_eq_true (by kernel_rfl)) (by kernel_rfl)
                      have d0 : (fpN g9 size M) 0 (f 78) (f 0) w1 := hF 0 (by kernel_rfl)
                      clear hF hO hL
                      dsimp only at hK ⊢
                      generalize hf78 : f 78 = v78 at *
                      subst d0
                      go_simp
                      refine (take_no (B := B0) gq size l3 w1 ⟨A6, c6, l1.1, HA6.out.1, l1.2, HA6.out.2⟩ HSZ.out).mono ?_
                      rintro e w21 ⟨rfl, rfl⟩
                      refine ⟨rfl, ?_⟩
                      rw [HRV.out]
                      exact ⟨KQ.of_below HNE.out.1 hG.1, rfl, H0.out.below hG.1 HNE.out.1⟩
                    · intro f w1 hG hO hL hF K hK
                      clear hF hO hL
                      dsimp only at hK ⊢
                      go_simp
                      exact hK.out _ _ hG rfl (fun _ _ _ h => h) (fun _ _ h => h)
                    · intro f w1 hG hO hL hF K hK
                      have l7 : Bk w1 g9 24 (fpC fin op true M ⟨#[]⟩) := hL 7 (Nat.le_of_ble_eq_true (by kernel_rfl)) (by kernel_rfl)
                      have d2 : (fpN g9 size M) 2 (f 80) (f 0) w1 := hF 2 (by kernel_rfl)
                      clear hF hO hL
                      dsimp only at hK ⊢
                      generalize hf80 : f 80 = v80 at *
                      subst d2
                      obtain ⟨y0, y1, y2, y3, y4, y5, y6, y7⟩ := cells8 l7
                      go_simp
                      exact hK.out _ _ hG rfl (fun _ _ _ h => h) (fun _ _ h => h)
                    · intro f w1 hG hO hL hF K hK
                      have d1 : (fpN g9 size M) 1 (f 79) (f 0) w1 := hF 1 (by kernel_rfl)
                      have d3 : (fpN g9 size M) 3 (f 81) (f 0) w1 := hF 3 (by kernel_rfl)
                      clear hF hO hL
                      dsimp only at hK ⊢
                      generalize hf79 : f 79 = v79 at *
                      generalize hf81 : f 81 = v81 at *
                      exact False.elim d1
                    · intro f w1 hG hO hL hF K hK
                      have d4 : (fpN g9 size M) 4 (f 82) (f 0) w1 := hF 4 (by kernel_rfl)
                      clear hF hO hL
                      dsimp only at hK ⊢
                      generalize hf82 : f 82 = v82 at *
                      exact False.elim d4
                    · intro f w1 hG hO hL hF K hK
                      clear hF hO hL
                      dsimp only at hK ⊢
                      go_simp
                      exact hK.out _ _ hG rfl (fun _ _ _ h => h) (fun _ _ h => h)
                    · intro f w1 hG hO hL hF K hK
                      have l7 : Bk w1 g9 24 (fpC fin op true M ⟨#[]⟩) := hL 7 (Nat.le_of_ble_eq_true (by kernel_rfl)) (by kernel_rfl)
                      have d6 : (fpN g9 size M) 6 (f 84) (f 0) w1 := hF 6 (by kernel_rfl)
                      have d5 : (fpN g9 size M) 5 (f 83) (f 0) w1 := hF 5 (by kernel_rfl)
                      clear hF hO hL
                      dsimp only at hK ⊢
                      generalize hf84 : f 84 = v84 at *
                      generalize hf83 : f 83 = v83 at *
                      exact False.elim d5
                    intro f w7 hG hF
                    have f3 : False := hF 1 (by decide)
                    exact f3.elim
                  · have HRV := Lib.hid (show R = .ok (⟨fin, op, true, txt (xorN M (l3.take size))⟩, M) (l3.drop size) by rw [HRF.out, if_neg hsz])
                    have HSZ := Lib.hid (show size ≤ l3.length by omega)
                    have HC6 := Lib.hid (show size ≤ c6 by have := HA6.out.1; omega)
                    clear hsz
                    refine wp_region_late [some 78, some 79, some 80, some 81, some 82, some 83, some 84, none] (fun _ => 0) (fpF B0 gq g9 size A6 c6 l3 fin op true M) (FpG w gf g9) (fpH gq g9 A6 c6 l3 fin op true M) (by kernel_rfl) GD.out HD.out rfl (by kernel_rfl) (by kernel_rfl) (by kernel_rfl) (by kernel_rfl) (fun T hT => ?_)
                    simp only [List.filterMap_cons, List.filterMap_nil, id, putsS, Act.put, List.setIfInBounds_toArray, List.set_cons_zero, List.set_cons_succ] at hT
                    subst hT
                    refine ⟨⟨?_, ?_, ?_, ?_, ?_, ?_, ?_, ?_, trivial⟩, ?_⟩
                    · intro f w1 hG hO hL hF K hK
                      clear hF hO hL
                      dsimp only at hK ⊢
                      go_simp
                      exact hK.out _ _ hG rfl (fun _ _ _ h => h) (fun _ _ h => h)
                    · intro f w1 hG hO hL hF K hK
                      have l1 : (fpH gq g9 A6 c6 l3 fin op true M) 1 w1 := hL 1 (Nat.le_of_ble_eq_true (by kernel_rfl)) (by kernel_rfl)
                      have d0 : (fpF B0 gq g9 size A6 c6 l3 fin op true M) 0 (f 78) (f 0) w1 := hF 0 (by kernel_rfl)
                      clear hF hO hL
                      dsimp only at hK ⊢
                      generalize hf78 : f 78 = v78 at *
                      subst d0
                      go_simp
                      refine (take_at gq size l3 A6 c6 w1 l1.1 HA6.out.1 l1.2 HA6.out.2 HSZ.out).mono ?_
                      rintro e w21 ⟨⟨rfl, _, hs⟩, hr, hk⟩
                      exact hK.out _ _ (FpG.call hG hk (by have := HNE.out; omega) (by have := HNE.out; omega)) ⟨rfl, hs, hr⟩ (fun j hj _ h => fpF_call hk HQ9.out j hj _ _ h) (fun m hm h => fpH_call hk HQ9.out m hm h)
                    · intro f w1 hG hO hL hF K hK
                      clear hF hO hL
                      dsimp only at hK ⊢
                      go_simp
                      exact hK.out _ _ hG rfl (fun _ _ _ h => h) (fun _ _ h => h)
                    · intro f w1 hG hO hL hF K hK
                      have l7 : Bk w1 g9 24 (fpC fin op true M ⟨#[]⟩) := hL 7 (Nat.le_of_ble_eq_true (by kernel_rfl)) (by kernel_rfl)
                      have d2 : (fpF B0 gq g9 size A6 c6 l3 fin op true M) 2 (f 80) (f 0) w1 := hF 2 (by kernel_rfl)
                      clear hF hO hL
                      dsimp only at hK ⊢
                      generalize hf80 : f 80 = v80 at *
                      subst d2
                      obtain ⟨y0, y1, y2, y3, y4, y5, y6, y7⟩ := cells8 l7
                      go_simp
                      exact hK.out _ _ hG rfl (fun _ _ _ h => h) (fun _ _ h => h)
                    · intro f w1 hG hO hL hF K hK
                      have d1 : (fpF B0 gq g9 size A6 c6 l3 fin op true M) 1 (f 79) (f 0) w1 := hF 1 (by kernel_rfl)
                      have d3 : (fpF B0 gq g9 size A6 c6 l3 fin op true M) 3 (f 81) (f 0) w1 := hF 3 (by kernel_rfl)
                      clear hF hO hL
                      dsimp only at hK ⊢
                      generalize hf79 : f 79 = v79 at *
                      generalize hf81 : f 81 = v81 at *
                      obtain ⟨rfl, hs1, hr1⟩ := d1
                      subst d3
                      go_simp
                      refine (turned_any A6 size c6 (l3.take size) M HM.out (fun x hx => HL3.out.2 x (List.mem_of_mem_take hx)) (by rw [List.length_take, Nat.min_eq_left HSZ.out]) HC6.out (Nat.le_trans HSZ.out HL3.out.1) w1 hs1).mono ?_
                      rintro e w21 ⟨⟨v, rfl, ho⟩, hb⟩
                      obtain ⟨A5, c5, rfl, h5, hs5⟩ := own_shape ho
                      exact hK.out _ _ (FpG.bel hG hb) ⟨A5, c5, rfl, hs5, fun a e => by subst e; have h1 := (ho.lt a.block rfl).1; have h2 := hG.2.1; have h3 := HQ9.out; exact ⟨by omega, by omega⟩⟩ (fun j hj _ h => fpF_bel hb j _ _ h) (fun m hm h => fpH_bel hb m h)
                    · intro f w1 hG hO hL hF K hK
                      have d4 : (fpF B0 gq g9 size A6 c6 l3 fin op true M) 4 (f 82) (f 0) w1 := hF 4 (by kernel_rfl)
                      clear hF hO hL
                      dsimp only at hK ⊢
                      generalize hf82 : f 82 = v82 at *
                      obtain ⟨A5, c5, rfl, hs5, _⟩ := d4
                      have cv := run_txt w1 A5 size c5 _ (by rw [xorN_length, List.length_take, Nat.min_eq_left HSZ.out]) hs5 (xorFrom_lt HM.out 0 _ (fun x hx => HL3.out.2 x (List.mem_of_mem_take hx)))
                      go_simp
                      exact hK.out _ _ hG rfl (fun _ _ _ h => h) (fun _ _ h => h)
                    · intro f w1 hG hO hL hF K hK
                      clear hF hO hL
                      dsimp only at hK ⊢
                      go_simp
                      exact hK.out _ _ hG rfl (fun _ _ _ h => h) (fun _ _ h => h)
                    · intro f w1 hG hO hL hF K hK
                      have l7 : Bk w1 g9 24 (fpC fin op true M ⟨#[]⟩) := hL 7 (Nat.le_of_ble_eq_true (by kernel_rfl)) (by kernel_rfl)
                      have d6 : (fpF B0 gq g9 size A6 c6 l3 fin op true M) 6 (f 84) (f 0) w1 := hF 6 (by kernel_rfl)
                      have d5 : (fpF B0 gq g9 size A6 c6 l3 fin op true M) 5 (f 83) (f 0) w1 := hF 5 (by kernel_rfl)
                      clear hF hO hL
                      dsimp only at hK ⊢
                      generalize hf84 : f 84 = v84 at *
                      generalize hf83 : f 83 = v83 at *
                      subst d6
                      subst d5
                      have y7 : w1.cell? ⟨g9, 7, none⟩ = some (.string ⟨#[]⟩) := l7.cell 7
                      have z7 := l7.frozen 7
                      have hN := l7.put 7 (.string (txt (xorN M (l3.take size))))
                      unfold fpC at hN
                      simp only [List.setIfInBounds_toArray, List.set_cons_zero, List.set_cons_succ] at hN
                      go_simp
                      exact hK.out undef _ (FpG.set hG HZ.out (by have := HNE.out; have := HQ9.out; omega) 7 _) hN (fun j hj _ h => fpF_set (fun a e => by have := HA6.out.2 a e; have := HZ.out; have := HB0.out; omega) (Nat.le_trans HB0.out HZ.out) HQ9.out 7 _ j hj _ _ h) (fun m hm h => fpH_set (fun a e => by have := HA6.out.2 a e; have := HZ.out; have := HB0.out; omega) HQ9.out 7 _ m hm h)
                    intro f w7 hG hF
                    have d1 : (fpF B0 gq g9 size A6 c6 l3 fin op true M) 1 (f 79) (f 0) w7 := hF 1 (by decide)
                    have d7 : Bk w7 g9 24 (fpC fin op true M (txt (xorN M (l3.take size)))) := hF 7 (by decide)
                    clear hF
                    obtain ⟨_, _, hr7⟩ := d1
                    dsimp only
                    generalize f 78 = v78
                    generalize f 79 = v79
                    generalize f 80 = v80
                    generalize f 81 = v81
                    generalize f 82 = v82
                    generalize f 83 = v83
                    generalize f 84 = v84
                    obtain ⟨l4, hl4⟩ : ∃ q, q = l3.drop size := ⟨_, rfl⟩
                    obtain ⟨tx, htx⟩ : ∃ q, q = txt (xorN M (l3.take size)) := ⟨_, rfl⟩
                    rw [← htx] at d7
                    rw [← hl4] at hr7
                    have HRW := Lib.hid (HRV.out.trans (by rw [← htx, ← hl4] : _ = Rs.ok ((⟨fin, op, true, tx⟩ : FrM), M) l4))
                    obtain ⟨A8, c8, hb8, hc8, hs8, ha8⟩ := hr7
                    obtain ⟨m8, hm8⟩ : ∃ q, q = l4.length := ⟨_, rfl⟩
                    rw [← hm8] at hb8 hc8
                    obtain ⟨hbw7, _, hf7⟩ := hG
                    have rd7 := H0.out.below hbw7 HNE.out.1
                    have q0 : w7.cell? ⟨gq, 0, none⟩ = some (.slice A8 m8 c8) := hb8.cell 0
                    have r1 : w7.cell? ⟨gr, 1, none⟩ = some (.slice A n c) := rd7.cell 1
                    have zr := rd7.frozen 1
                    obtain ⟨w8, hw8⟩ : ∃ x, x = w7.setCell ⟨gr, 1, none⟩ (.slice A8 m8 c8) := ⟨_, rfl⟩
                    have d8 : Bk w8 g9 24 (fpC fin op true M tx) := by
                      rw [hw8]
                      exact d7.far (p := ⟨gr, 1, none⟩) (by show g9 ≠ gr; have := HNE.out; have := HZ.out; omega) _
                    have f8 := hf7
                    have hf8 : Bk w8 gf 24 #[.bool false, .int .i64 0, .bool false, .int .u8 0, .int .u8 0, .int .u8 0, .int .u8 0, .string ⟨#[]⟩] := by
                      rw [hw8]
                      exact hf7.far (p := ⟨gr, 1, none⟩) (by show gf ≠ gr; have := HNE.out; omega) _
                    have hs9 := seg_far rd7 hs8 (fun _ h => by cases h) 1 (.slice A8 m8 c8)
                    have k8 : KQ gr w w8 := by
                      rw [hw8]
                      exact (KQ.of_below HNE.out.1 hbw7).trans (KQ.set gr 1 w7 _)
                    have rd8 : Bk w8 gr 59 (rdC true (.slice A8 m8 c8) kind text false) := by
                      rw [hw8]
                      have k := rd7.put 1 (.slice A8 m8 c8)
                      exact k
                    rw [← hw8] at hs9
                    have HW8 := Lib.hid hw8
                    have HRD8 := Lib.hid rd8
                    have HK8 := Lib.hid k8
                    have HS8 := Lib.hid hs9
                    have HC8 := Lib.hid (And.intro hm8 (And.intro hc8 ha8))
                    have HF8 := Lib.hid hf8
                    have HB8 := Lib.hid d8
                    clear hw8 rd8 k8 hs9 f8 hf7 hs8 hb8 hbw7 hc8 ha8 hl4 htx d7 rd7
                    clear d8 hf8 hm8
                    go_upto_region 14 with fail
                    rw [← HW8.out]
                    clear q0 r1 zr
                    obtain ⟨y0, y1, y2, y3, y4, y5, y6, y7⟩ := cells8 HB8.out
                    obtain ⟨x0, x1, x2, x3, x4, x5, x6, x7⟩ := cells8 HF8.out
                    have z0 := HF8.out.frozen 0
                    have z1 := HF8.out.frozen 1
                    have z2 := HF8.out.frozen 2
                    have z3 := HF8.out.frozen 3
                    have z4 := HF8.out.frozen 4
                    have z5 := HF8.out.frozen 5
                    have z6 := HF8.out.frozen 6
                    have z7 := HF8.out.frozen 7
                    go_wp2_with fail
                    clear y0 y1 y2 y3 y4 y5 y6 y7 x0 x1 x2 x3 x4 x5 x6 x7 z0 z1 z2 z3 z4 z5 z6 z7
                    have FB := box8 HF8.out (.bool fin) (.int .i64 (op : Nat)) (.bool true) (.int .u8 (M 0 : Nat)) (.int .u8 (M 1 : Nat)) (.int .u8 (M 2 : Nat)) (.int .u8 (M 3 : Nat)) (.string tx)
                    obtain ⟨r0, r1, r2, r3, r4, r5, r6, r7⟩ := cells8 FB
                    have K8 := kept8 w8 gf (.bool fin) (.int .i64 (op : Nat)) (.bool true) (.int .u8 (M 0 : Nat)) (.int .u8 (M 1 : Nat)) (.int .u8 (M 2 : Nat)) (.int .u8 (M 3 : Nat)) (.string tx)
                    have FIN := Lib.hid (frame_fin (A := A) (n := n) (c := c) HRW.out HNE.out HK8.out HRD8.out HS8.out HC8.out HB0.out K8 (below8 HK8.out.bel (by have := HNE.out; omega) _ _ _ _ _ _ _ _))
                    clear K8 FB
                    unfold set8 at r0 r1 r2 r3 r4 r5 r6 r7
                    exact bodyPost_ret (v := frV ⟨fin, op, true, tx⟩ M) (by simp [results, Tryd.results44, go_sem, r0, r1, r2, r3, r4, r5, r6, r7, frV]) rfl FIN.out
          · have g8 : decide ((op : Int) < 8) = false := decide_eq_false (by omega)
            have HRN := Lib.hid (HRL.out.trans (if_neg (fun h => hop8 h.1)))
            clear hop8
            cases msk with
            | false =>
              obtain ⟨M, hM⟩ : ∃ M, M = (fun _ => 0 : Nat → Nat) := ⟨_, rfl⟩
              obtain ⟨l3, hl3⟩ : ∃ q, q = l2 := ⟨_, rfl⟩
              have HRF := Lib.hid (show R = if l3.length < size then .no 0 else .ok (⟨fin, op, false, txt (xorN M (l3.take size))⟩, M) (l3.drop size) by
                rw [HRN.out, if_neg (by decide), hl3, hM])
              have HM := Lib.hid (show ∀ i, i < 4 → M i < 256 from fun i hi => by
                rw [hM]
                exact (by decide : (0 : Nat) < 256))
              have HL3 := Lib.hid (show l3.length ≤ 1000000 ∧ ∀ x ∈ l3, x < 256 from by
                rw [hl3]
                exact HL2.out)
              have HB6 := Lib.hid (show Bk w4 g9 24 (fpC fin op false M ⟨#[]⟩) by
                rw [hM]
                exact HB95.out)
              have HR6 := Lib.hid (show Rd B0 w4 gq l3 by
                rw [hl3]
                exact HR5.out)
              have HBW6 := Lib.hid HBW4.out
              have HF6 := Lib.hid HF5.out
              clear hM hl3
              go_wp2_with fail
              clear f1 f2 r3
              obtain ⟨A6, c6, hb6, hc6, hs6, ha6⟩ := HR6.out
              have HA6 := Lib.hid (And.intro hc6 ha6)
              have GD := Lib.hid (show FpG w gf g9 w4.drew from ⟨HBW6.out.drew, HB6.out.lt, HF6.out.drew⟩)
              have HD := Lib.hid (show ∀ m, m < 8 → fpH gq g9 A6 c6 l3 fin op false M m w4.drew from fun m hm => by
                unfold fpH
                split
                · exact ⟨hb6.drew, hs6⟩
                · exact HB6.out.drew
                · trivial)
              clear hb6 hc6 hs6 ha6
              by_cases hsz : l3.length < size
              · have HRV := Lib.hid (show R = .no 0 by rw [HRF.out, if_pos hsz])
                have HSZ := Lib.hid hsz
                clear hsz
                refine wp_region_late [some 78, some 79, some 80, some 81, some 82, some 83, some 84, none] (fun _ => 0) (fpN g9 size M) (FpG w gf g9) (fpH gq g9 A6 c6 l3 fin op false M) (by kernel_rfl) GD.out HD.out rfl (by kernel_rfl) (by kernel_rfl) (by kernel_rfl) (by kernel_rfl) (fun T hT => ?_)
                simp only [List.filterMap_cons, List.filterMap_nil, id, putsS, Act.put, List.setIfInBounds_toArray, List.set_cons_zero, List.set_cons_succ] at hT
                subst hT
                refine ⟨⟨?_, ?_, ?_, ?_, ?_, ?_, ?_, ?_, trivial⟩, ?_⟩
                · intro f w1 hG hO hL hF K hK
                  clear hF hO hL
                  dsimp only at hK ⊢
                  go_simp
                  exact hK.out _ _ hG rfl (fun _ _ _ h => h) (fun _ _ h => h)
                · intro f w1 hG hO hL hF K hK
                  have l1 : (fpH gq g9 A6 c6 l3 fin op false M) 1 w1 := hL 1 (Nat.le_of_ble_eq_true (by kernel_rfl)) (by kernel_rfl)
                  have d0 : (fpN g9 size M) 0 (f 78) (f 0) w1 := hF 0 (by kernel_rfl)
                  clear hF hO hL
                  dsimp only at hK ⊢
                  generalize hf78 : f 78 = v78 at *
                  subst d0
                  go_simp
                  refine (take_no (B := B0) gq size l3 w1 ⟨A6, c6, l1.1, HA6.out.1, l1.2, HA6.out.2⟩ HSZ.out).mono ?_
                  rintro e w21 ⟨rfl, rfl⟩
                  refine ⟨rfl, ?_⟩
                  rw [HRV.out]
                  exact ⟨KQ.of_below HNE.out.1 hG.1, rfl, H0.out.below hG.1 HNE.out.1⟩
                · intro f w1 hG hO hL hF K hK
                  clear hF hO hL
                  dsimp only at hK ⊢
                  go_simp
                  exact hK.out _ _ hG rfl (fun _ _ _ h => h) (fun _ _ h => h)
                · intro f w1 hG hO hL hF K hK
                  have l7 : Bk w1 g9 24 (fpC fin op false M ⟨#[]⟩) := hL 7 (Nat.le_of_ble_eq_true (by kernel_rfl)) (by kernel_rfl)
                  have d2 : (fpN g9 size M) 2 (f 80) (f 0) w1 := hF 2 (by kernel_rfl)
                  clear hF hO hL
                  dsimp only at hK ⊢
                  generalize hf80 : f 80 = v80 at *
                  subst d2
                  obtain ⟨y0, y1, y2, y3, y4, y5, y6, y7⟩ := cells8 l7
                  go_simp
                  exact hK.out _ _ hG rfl (fun _ _ _ h => h) (fun _ _ h => h)
                · intro f w1 hG hO hL hF K hK
                  have d1 : (fpN g9 size M) 1 (f 79) (f 0) w1 := hF 1 (by kernel_rfl)
                  have d3 : (fpN g9 size M) 3 (f 81) (f 0) w1 := hF 3 (by kernel_rfl)
                  clear hF hO hL
                  dsimp only at hK ⊢
                  generalize hf79 : f 79 = v79 at *
                  generalize hf81 : f 81 = v81 at *
                  exact False.elim d1
                · intro f w1 hG hO hL hF K hK
                  have d4 : (fpN g9 size M) 4 (f 82) (f 0) w1 := hF 4 (by kernel_rfl)
                  clear hF hO hL
                  dsimp only at hK ⊢
                  generalize hf82 : f 82 = v82 at *
                  exact False.elim d4
                · intro f w1 hG hO hL hF K hK
                  clear hF hO hL
                  dsimp only at hK ⊢
                  go_simp
                  exact hK.out _ _ hG rfl (fun _ _ _ h => h) (fun _ _ h => h)
                · intro f w1 hG hO hL hF K hK
                  have l7 : Bk w1 g9 24 (fpC fin op false M ⟨#[]⟩) := hL 7 (Nat.le_of_ble_eq_true (by kernel_rfl)) (by kernel_rfl)
                  have d6 : (fpN g9 size M) 6 (f 84) (f 0) w1 := hF 6 (by kernel_rfl)
                  have d5 : (fpN g9 size M) 5 (f 83) (f 0) w1 := hF 5 (by kernel_rfl)
                  clear hF hO hL
                  dsimp only at hK ⊢
                  generalize hf84 : f 84 = v84 at *
                  generalize hf83 : f 83 = v83 at *
                  exact False.elim d5
                intro f w7 hG hF
                have f3 : False := hF 1 (by decide)
                exact f3.elim
              · have HRV := Lib.hid (show R = .ok (⟨fin, op, false, txt (xorN M (l3.take size))⟩, M) (l3.drop size) by rw [HRF.out, if_neg hsz])
                have HSZ := Lib.hid (show size ≤ l3.length by omega)
                have HC6 := Lib.hid (show size ≤ c6 by have := HA6.out.1; omega)
                clear hsz
                refine wp_region_late [some 78, some 79, some 80, some 81, some 82, some 83, some 84, none] (fun _ => 0) (fpF B0 gq g9 size A6 c6 l3 fin op false M) (FpG w gf g9) (fpH gq g9 A6 c6 l3 fin op false M) (by kernel_rfl) GD.out HD.out rfl (by kernel_rfl) (by kernel_rfl) (by kernel_rfl) (by kernel_rfl) (fun T hT => ?_)
                simp only [List.filterMap_cons, List.filterMap_nil, id, putsS, Act.put, List.setIfInBounds_toArray, List.set_cons_zero, List.set_cons_succ] at hT
                subst hT
                refine ⟨⟨?_, ?_, ?_, ?_, ?_, ?_, ?_, ?_, trivial⟩, ?_⟩
                · intro f w1 hG hO hL hF K hK
                  clear hF hO hL
                  dsimp only at hK ⊢
                  go_simp
                  exact hK.out _ _ hG rfl (fun _ _ _ h => h) (fun _ _ h => h)
                · intro f w1 hG hO hL hF K hK
                  have l1 : (fpH gq g9 A6 c6 l3 fin op false M) 1 w1 := hL 1 (Nat.le_of_ble_eq_true (by kernel_rfl)) (by kernel_rfl)
                  have d0 : (fpF B0 gq g9 size A6 c6 l3 fin op false M) 0 (f 78) (f 0) w1 := hF 0 (by kernel_rfl)
                  clear hF hO hL
                  dsimp only at hK ⊢
                  generalize hf78 : f 78 = v78 at *
                  subst d0
                  go_simp
                  refine (take_at gq size l3 A6 c6 w1 l1.1 HA6.out.1 l1.2 HA6.out.2 HSZ.out).mono ?_
                  rintro e w21 ⟨⟨rfl, _, hs⟩, hr, hk⟩
                  exact hK.out _ _ (FpG.call hG hk (by have := HNE.out; omega) (by have := HNE.out; omega)) ⟨rfl, hs, hr⟩ (fun j hj _ h => fpF_call hk HQ9.out j hj _ _ h) (fun m hm h => fpH_call hk HQ9.out m hm h)
                · intro f w1 hG hO hL hF K hK
                  clear hF hO hL
                  dsimp only at hK ⊢
                  go_simp
                  exact hK.out _ _ hG rfl (fun _ _ _ h => h) (fun _ _ h => h)
                · intro f w1 hG hO hL hF K hK
                  have l7 : Bk w1 g9 24 (fpC fin op false M ⟨#[]⟩) := hL 7 (Nat.le_of_ble_eq_true (by kernel_rfl)) (by kernel_rfl)
                  have d2 : (fpF B0 gq g9 size A6 c6 l3 fin op false M) 2 (f 80) (f 0) w1 := hF 2 (by kernel_rfl)
                  clear hF hO hL
                  dsimp only at hK ⊢
                  generalize hf80 : f 80 = v80 at *
                  subst d2
                  obtain ⟨y0, y1, y2, y3, y4, y5, y6, y7⟩ := cells8 l7
                  go_simp
                  exact hK.out _ _ hG rfl (fun _ _ _ h => h) (fun _ _ h => h)
                · intro f w1 hG hO hL hF K hK
                  have d1 : (fpF B0 gq g9 size A6 c6 l3 fin op false M) 1 (f 79) (f 0) w1 := hF 1 (by kernel_rfl)
                  have d3 : (fpF B0 gq g9 size A6 c6 l3 fin op false M) 3 (f 81) (f 0) w1 := hF 3 (by kernel_rfl)
                  clear hF hO hL
                  dsimp only at hK ⊢
                  generalize hf79 : f 79 = v79 at *
                  generalize hf81 : f 81 = v81 at *
                  obtain ⟨rfl, hs1, hr1⟩ := d1
                  subst d3
                  go_simp
                  refine (turned_any A6 size c6 (l3.take size) M HM.out (fun x hx => HL3.out.2 x (List.mem_of_mem_take hx)) (by rw [List.length_take, Nat.min_eq_left HSZ.out]) HC6.out (Nat.le_trans HSZ.out HL3.out.1) w1 hs1).mono ?_
                  rintro e w21 ⟨⟨v, rfl, ho⟩, hb⟩
                  obtain ⟨A5, c5, rfl, h5, hs5⟩ := own_shape ho
                  exact hK.out _ _ (FpG.bel hG hb) ⟨A5, c5, rfl, hs5, fun a e => by subst e; have h1 := (ho.lt a.block rfl).1; have h2 := hG.2.1; have h3 := HQ9.out; exact ⟨by omega, by omega⟩⟩ (fun j hj _ h => fpF_bel hb j _ _ h) (fun m hm h => fpH_bel hb m h)
                · intro f w1 hG hO hL hF K hK
                  have d4 : (fpF B0 gq g9 size A6 c6 l3 fin op false M) 4 (f 82) (f 0) w1 := hF 4 (by kernel_rfl)
                  clear hF hO hL
                  dsimp only at hK ⊢
                  generalize hf82 : f 82 = v82 at *
                  obtain ⟨A5, c5, rfl, hs5, _⟩ := d4
                  have cv := run_txt w1 A5 size c5 _ (by rw [xorN_length, List.length_take, Nat.min_eq_left HSZ.out]) hs5 (xorFrom_lt HM.out 0 _ (fun x hx => HL3.out.2 x (List.mem_of_mem_take hx)))
                  go_simp
                  exact hK.out _ _ hG rfl (fun _ _ _ h => h) (fun _ _ h => h)
                · intro f w1 hG hO hL hF K hK
                  clear hF hO hL
                  dsimp only at hK ⊢
                  go_simp
                  exact hK.out _ _ hG rfl (fun _ _ _ h => h) (fun _ _ h => h)
                · intro f w1 hG hO hL hF K hK
                  have l7 : Bk w1 g9 24 (fpC fin op false M ⟨#[]⟩) := hL 7 (Nat.le_of_ble_eq_true (by kernel_rfl)) (by kernel_rfl)
                  have d6 : (fpF B0 gq g9 size A6 c6 l3 fin op false M) 6 (f 84) (f 0) w1 := hF 6 (by kernel_rfl)
                  have d5 : (fpF B0 gq g9 size A6 c6 l3 fin op false M) 5 (f 83) (f 0) w1 := hF 5 (by kernel_rfl)
                  clear hF hO hL
                  dsimp only at hK ⊢
                  generalize hf84 : f 84 = v84 at *
                  generalize hf83 : f 83 = v83 at *
                  subst d6
                  subst d5
                  have y7 : w1.cell? ⟨g9, 7, none⟩ = some (.string ⟨#[]⟩) := l7.cell 7
                  have z7 := l7.frozen 7
                  have hN := l7.put 7 (.string (txt (xorN M (l3.take size))))
                  unfold fpC at hN
                  simp only [List.setIfInBounds_toArray, List.set_cons_zero, List.set_cons_succ] at hN
                  go_simp
                  exact hK.out undef _ (FpG.set hG HZ.out (by have := HNE.out; have := HQ9.out; omega) 7 _) hN (fun j hj _ h => fpF_set (fun a e => by have := HA6.out.2 a e; have := HZ.out; have := HB0.out; omega) (Nat.le_trans HB0.out HZ.out) HQ9.out 7 _ j hj _ _ h) (fun m hm h => fpH_set (fun a e => by have := HA6.out.2 a e; have := HZ.out; have := HB0.out; omega) HQ9.out 7 _ m hm h)
                intro f w7 hG hF
                have d1 : (fpF B0 gq g9 size A6 c6 l3 fin op false M) 1 (f 79) (f 0) w7 := hF 1 (by decide)
                have d7 : Bk w7 g9 24 (fpC fin op false M (txt (xorN M (l3.take size)))) := hF 7 (by decide)
                clear hF
                obtain ⟨_, _, hr7⟩ := d1
                dsimp only
                generalize f 78 = v78
                generalize f 79 = v79
                generalize f 80 = v80
                generalize f 81 = v81
                generalize f 82 = v82
                generalize f 83 = v83
                generalize f 84 = v84
                obtain ⟨l4, hl4⟩ : ∃ q, q = l3.drop size := ⟨_, rfl⟩
                obtain ⟨tx, htx⟩ : ∃ q, q = txt (xorN M (l3.take size)) := ⟨_, rfl⟩
                rw [← htx] at d7
                rw [← hl4] at hr7
                have HRW := Lib.hid (HRV.out.trans (by rw [← htx, ← hl4] : _ = Rs.ok ((⟨fin, op, false, tx⟩ : FrM), M) l4))
                obtain ⟨A8, c8, hb8, hc8, hs8, ha8⟩ := hr7
                obtain ⟨m8, hm8⟩ : ∃ q, q = l4.length := ⟨_, rfl⟩
                rw [← hm8] at hb8 hc8
                obtain ⟨hbw7, _, hf7⟩ := hG
                have rd7 := H0.out.below hbw7 HNE.out.1
                have q0 : w7.cell? ⟨gq, 0, none⟩ = some (.slice A8 m8 c8) := hb8.cell 0
                have r1 : w7.cell? ⟨gr, 1, none⟩ = some (.slice A n c) := rd7.cell 1
                have zr := rd7.frozen 1
                obtain ⟨w8, hw8⟩ : ∃ x, x = w7.setCell ⟨gr, 1, none⟩ (.slice A8 m8 c8) := ⟨_, rfl⟩
                have d8 : Bk w8 g9 24 (fpC fin op false M tx) := by
                  rw [hw8]
                  exact d7.far (p := ⟨gr, 1, none⟩) (by show g9 ≠ gr; have := HNE.out; have := HZ.out; omega) _
                have f8 := hf7
                have hf8 : Bk w8 gf 24 #[.bool false, .int .i64 0, .bool false, .int .u8 0, .int .u8 0, .int .u8 0, .int .u8 0, .string ⟨#[]⟩] := by
                  rw [hw8]
                  exact hf7.far (p := ⟨gr, 1, none⟩) (by show gf ≠ gr; have := HNE.out; omega) _
                have hs9 := seg_far rd7 hs8 (fun _ h => by cases h) 1 (.slice A8 m8 c8)
                have k8 : KQ gr w w8 := by
                  rw [hw8]
                  exact (KQ.of_below HNE.out.1 hbw7).trans (KQ.set gr 1 w7 _)
                have rd8 : Bk w8 gr 59 (rdC false (.slice A8 m8 c8) kind text false) := by
                  rw [hw8]
                  have k := rd7.put 1 (.slice A8 m8 c8)
                  exact k
                rw [← hw8] at hs9
                have HW8 := Lib.hid hw8
                have HRD8 := Lib.hid rd8
                have HK8 := Lib.hid k8
                have HS8 := Lib.hid hs9
                have HC8 := Lib.hid (And.intro hm8 (And.intro hc8 ha8))
                have HF8 := Lib.hid hf8
                have HB8 := Lib.hid d8
                clear hw8 rd8 k8 hs9 f8 hf7 hs8 hb8 hbw7 hc8 ha8 hl4 htx d7 rd7
                clear d8 hf8 hm8
                go_upto_region 14 with fail
                rw [← HW8.out]
                clear q0 r1 zr
                obtain ⟨y0, y1, y2, y3, y4, y5, y6, y7⟩ := cells8 HB8.out
                obtain ⟨x0, x1, x2, x3, x4, x5, x6, x7⟩ := cells8 HF8.out
                have z0 := HF8.out.frozen 0
                have z1 := HF8.out.frozen 1
                have z2 := HF8.out.frozen 2
                have z3 := HF8.out.frozen 3
                have z4 := HF8.out.frozen 4
                have z5 := HF8.out.frozen 5
                have z6 := HF8.out.frozen 6
                have z7 := HF8.out.frozen 7
                go_wp2_with fail
                clear y0 y1 y2 y3 y4 y5 y6 y7 x0 x1 x2 x3 x4 x5 x6 x7 z0 z1 z2 z3 z4 z5 z6 z7
                have FB := box8 HF8.out (.bool fin) (.int .i64 (op : Nat)) (.bool false) (.int .u8 (M 0 : Nat)) (.int .u8 (M 1 : Nat)) (.int .u8 (M 2 : Nat)) (.int .u8 (M 3 : Nat)) (.string tx)
                obtain ⟨r0, r1, r2, r3, r4, r5, r6, r7⟩ := cells8 FB
                have K8 := kept8 w8 gf (.bool fin) (.int .i64 (op : Nat)) (.bool false) (.int .u8 (M 0 : Nat)) (.int .u8 (M 1 : Nat)) (.int .u8 (M 2 : Nat)) (.int .u8 (M 3 : Nat)) (.string tx)
                have FIN := Lib.hid (frame_fin (A := A) (n := n) (c := c) HRW.out HNE.out HK8.out HRD8.out HS8.out HC8.out HB0.out K8 (below8 HK8.out.bel (by have := HNE.out; omega) _ _ _ _ _ _ _ _))
                clear K8 FB
                unfold set8 at r0 r1 r2 r3 r4 r5 r6 r7
                exact bodyPost_ret (v := frV ⟨fin, op, false, tx⟩ M) (by simp [results, Tryd.results44, go_sem, r0, r1, r2, r3, r4, r5, r6, r7, frV]) rfl FIN.out
            
            | true =>
              by_cases h4 : l2.length < 4
              · have TN := Lib.hid (take_no gq 4 l2 w4 HR5.out h4)
                have HRV := Lib.hid (show R = .no 0 by
                  rw [HRN.out, if_pos rfl, if_pos h4])
                clear h4
                go_wp2_with fail
                refine TN.out.mono ?_
                rintro e w5 ⟨rfl, rfl⟩
                go_wp2_with fail
                refine ⟨rfl, ?_⟩
                rw [HRV.out]
                exact ⟨KQ.of_below HNE.out.1 HBW4.out, rfl, H0.out.below HBW4.out HNE.out.1⟩
              · have h4' : 4 ≤ l2.length := by omega
                obtain ⟨M, hM⟩ : ∃ M, M = maskF l2 := ⟨_, rfl⟩
                obtain ⟨l3, hl3⟩ : ∃ q, q = l2.drop 4 := ⟨_, rfl⟩
                have HRF := Lib.hid (show R = if l3.length < size then .no 0 else .ok (⟨fin, op, true, txt (xorN M (l3.take size))⟩, M) (l3.drop size) by
                  rw [HRN.out, if_pos rfl, if_neg h4, hl3, hM])
                have HM := Lib.hid (show ∀ i, i < 4 → M i < 256 from fun i hi => by
                  rw [hM]
                  unfold maskF
                  rw [List.getD_eq_getElem?_getD, List.getElem?_eq_getElem (show i < l2.length by omega)]
                  exact HL2.out.2 _ (List.getElem_mem _))
                have HL3 := Lib.hid (show l3.length ≤ 1000000 ∧ ∀ x ∈ l3, x < 256 from by
                  rw [hl3]
                  exact ⟨by rw [List.length_drop]; have := HL2.out.1; omega, fun x hx => HL2.out.2 x (List.mem_of_mem_drop hx)⟩)
                clear h4
                obtain ⟨A4, c4, hb4, hc4, hs4, ha4⟩ := HR5.out
                have TK4 := Lib.hid (take_at gq 4 l2 A4 c4 w4 hb4 hc4 hs4 ha4 h4')
                have H4 := Lib.hid h4'
                have HMM := Lib.hid hM
                have HLL := Lib.hid hl3
                clear hb4 hc4 hs4 ha4 h4' hM hl3
                go_wp2_with fail
                refine TK4.out.mono ?_
                rintro e w5 ⟨⟨rfl, hc5, hs5⟩, hr5, hk5⟩
                obtain ⟨b4, o4, rfl, hbl4, m0, m1, m2, m3⟩ := four hs5 H4.out
                rw [← HMM.out] at m0 m1 m2 m3
                rw [← HLL.out] at hr5
                have k9 := bk_kept HB95.out (by have := HQ9.out; omega) hk5.kept
                have hbw5 := HBW4.out.trans (hk5.bel.mono (by have := HNE.out; omega))
                have k5 := bk_kept HF5.out (by have := HNE.out; omega) hk5.kept
                obtain ⟨y0, y1, y2, y3, y4, y5, y6, y7⟩ := cells8 k9
                have z3 := k9.frozen 3
                have z4 := k9.frozen 4
                have z5 := k9.frozen 5
                have z6 := k9.frozen 6
                obtain ⟨w6, hw6⟩ : ∃ x, x = (((w5.setCell ⟨g9, 3, none⟩ (.int .u8 (M 0 : Nat))).setCell ⟨g9, 4, none⟩ (.int .u8 (M 1 : Nat))).setCell ⟨g9, 5, none⟩ (.int .u8 (M 2 : Nat))).setCell ⟨g9, 6, none⟩ (.int .u8 (M 3 : Nat)) := ⟨_, rfl⟩
                have HB6 := Lib.hid (show Bk w6 g9 24 (fpC fin op true M ⟨#[]⟩) by
                  have k := (((k9.put 3 (.int .u8 (M 0 : Nat))).put 4 (.int .u8 (M 1 : Nat))).put 5 (.int .u8 (M 2 : Nat))).put 6 (.int .u8 (M 3 : Nat))
                  simp only [List.setIfInBounds_toArray, List.set_cons_zero, List.set_cons_succ] at k
                  rw [hw6]
                  exact k)
                have kk : Kept1 g9 w5 w6 := by
                  rw [hw6]
                  exact (((Kept1.set w5 g9 3 _).trans (Kept1.set _ g9 4 _)).trans (Kept1.set _ g9 5 _)).trans (Kept1.set _ g9 6 _)
                have HBW6 := Lib.hid (show Below w.heap.size w w6 by
                  rw [hw6]
                  exact (((hbw5.setCell (p := ⟨g9, 3, none⟩) HZ.out _).setCell (p := ⟨g9, 4, none⟩) HZ.out _).setCell (p := ⟨g9, 5, none⟩) HZ.out _).setCell (p := ⟨g9, 6, none⟩) HZ.out _)
                have HR6 := Lib.hid (hr5.other kk (by have := HQ9.out; omega) (Or.inr (Nat.le_trans HB0.out HZ.out)))
                have HF6 := Lib.hid (bk_kept k5 (by have := HNE.out; have := HQ9.out; omega) kk)
                have HW6 := Lib.hid hw6
                have harr := run_arr4 (some ⟨b4, o4, none⟩) 4 c4 (Nat.le_refl 4)
                clear hs5 hr5 hk5 k9 TK4 hbw5 k5 kk hw6
                go_wp2_with fail
                rw [← HW6.out]
                clear y0 y1 y2 y3 y4 y5 y6 y7 z3 z4 z5 z6 m0 m1 m2 m3 harr f1 f2 r3
                obtain ⟨A6, c6, hb6, hc6, hs6, ha6⟩ := HR6.out
                have HA6 := Lib.hid (And.intro hc6 ha6)
                have GD := Lib.hid (show FpG w gf g9 w6.drew from ⟨HBW6.out.drew, HB6.out.lt, HF6.out.drew⟩)
                have HD := Lib.hid (show ∀ m, m < 8 → fpH gq g9 A6 c6 l3 fin op true M m w6.drew from fun m hm => by
                  unfold fpH
                  split
                  · exact ⟨hb6.drew, hs6⟩
                  · exact HB6.out.drew
                  · trivial)
                clear hb6 hc6 hs6 ha6
                by_cases hsz : l3.length < size
                · have HRV := Lib.hid (show R = .no 0 by rw [HRF.out, if_pos hsz])
                  have HSZ := Lib.hid hsz
                  clear hsz
                  refine wp_region_late [some 78, some 79, some 80, some 81, some 82, some 83, some 84, none] (fun _ => 0) (fpN g9 size M) (FpG w gf g9) (fpH gq g9 A6 c6 l3 fin op true M) (by kernel_rfl) GD.out HD.out rfl (by kernel_rfl) (by kernel_rfl) (by kernel_rfl) (by kernel_rfl) (fun T hT => ?_)
                  simp only [List.filterMap_cons, List.filterMap_nil, id, putsS, Act.put, List.setIfInBounds_toArray, List.set_cons_zero, List.set_cons_succ] at hT
                  subst hT
                  refine ⟨⟨?_, ?_, ?_, ?_, ?_, ?_, ?_, ?_, trivial⟩, ?_⟩
                  · intro f w1 hG hO hL hF K hK
                    clear hF hO hL
                    dsimp only at hK ⊢
                    go_simp
                    exact hK.out _ _ hG rfl (fun _ _ _ h => h) (fun _ _ h => h)
                  · intro f w1 hG hO hL hF K hK
                    have l1 : (fpH gq g9 A6 c6 l3 fin op true M) 1 w1 := hL 1 (Nat.le_of_ble_eq_true (by kernel_rfl)) (by kernel_rfl)
                    have d0 : (fpN g9 size M) 0 (f 78) (f 0) w1 := hF 0 (by kernel_rfl)
                    clear hF hO hL
                    dsimp only at hK ⊢
                    generalize hf78 : f 78 = v78 at *
                    subst d0
                    go_simp
                    refine (take_no (B := B0) gq size l3 w1 ⟨A6, c6, l1.1, HA6.out.1, l1.2, HA6.out.2⟩ HSZ.out).mono ?_
                    rintro e w21 ⟨rfl, rfl⟩
                    refine ⟨rfl, ?_⟩
                    rw [HRV.out]
                    exact ⟨KQ.of_below HNE.out.1 hG.1, rfl, H0.out.below hG.1 HNE.out.1⟩
                  · intro f w1 hG hO hL hF K hK
                    clear hF hO hL
                    dsimp only at hK ⊢
                    go_simp
                    exact hK.out _ _ hG rfl (fun _ _ _ h => h) (fun _ _ h => h)
                  · intro f w1 hG hO hL hF K hK
                    have l7 : Bk w1 g9 24 (fpC fin op true M ⟨#[]⟩) := hL 7 (Nat.le_of_ble_eq_true (by kernel_rfl)) (by kernel_rfl)
                    have d2 : (fpN g9 size M) 2 (f 80) (f 0) w1 := hF 2 (by kernel_rfl)
                    clear hF hO hL
                    dsimp only at hK ⊢
                    generalize hf80 : f 80 = v80 at *
                    subst d2
                    obtain ⟨y0, y1, y2, y3, y4, y5, y6, y7⟩ := cells8 l7
                    go_simp
                    exact hK.out _ _ hG rfl (fun _ _ _ h => h) (fun _ _ h => h)
                  · intro f w1 hG hO hL hF K hK
                    have d1 : (fpN g9 size M) 1 (f 79) (f 0) w1 := hF 1 (by kernel_rfl)
                    have d3 : (fpN g9 size M) 3 (f 81) (f 0) w1 := hF 3 (by kernel_rfl)
                    clear hF hO hL
                    dsimp only at hK ⊢
                    generalize hf79 : f 79 = v79 at *
                    generalize hf81 : f 81 = v81 at *
                    exact False.elim d1
                  · intro f w1 hG hO hL hF K hK
                    have d4 : (fpN g9 size M) 4 (f 82) (f 0) w1 := hF 4 (by kernel_rfl)
                    clear hF hO hL
                    dsimp only at hK ⊢
                    generalize hf82 : f 82 = v82 at *
                    exact False.elim d4
                  · intro f w1 hG hO hL hF K hK
                    clear hF hO hL
                    dsimp only at hK ⊢
                    go_simp
                    exact hK.out _ _ hG rfl (fun _ _ _ h => h) (fun _ _ h => h)
                  · intro f w1 hG hO hL hF K hK
                    have l7 : Bk w1 g9 24 (fpC fin op true M ⟨#[]⟩) := hL 7 (Nat.le_of_ble_eq_true (by kernel_rfl)) (by kernel_rfl)
                    have d6 : (fpN g9 size M) 6 (f 84) (f 0) w1 := hF 6 (by kernel_rfl)
                    have d5 : (fpN g9 size M) 5 (f 83) (f 0) w1 := hF 5 (by kernel_rfl)
                    clear hF hO hL
                    dsimp only at hK ⊢
                    generalize hf84 : f 84 = v84 at *
                    generalize hf83 : f 83 = v83 at *
                    exact False.elim d5
                  intro f w7 hG hF
                  have f3 : False := hF 1 (by decide)
                  exact f3.elim
                · have HRV := Lib.hid (show R = .ok (⟨fin, op, true, txt (xorN M (l3.take size))⟩, M) (l3.drop size) by rw [HRF.out, if_neg hsz])
                  have HSZ := Lib.hid (show size ≤ l3.length by omega)
                  have HC6 := Lib.hid (show size ≤ c6 by have := HA6.out.1; omega)
                  clear hsz
                  refine wp_region_late [some 78, some 79, some 80, some 81, some 82, some 83, some 84, none] (fun _ => 0) (fpF B0 gq g9 size A6 c6 l3 fin op true M) (FpG w gf g9) (fpH gq g9 A6 c6 l3 fin op true M) (by kernel_rfl) GD.out HD.out rfl (by kernel_rfl) (by kernel_rfl) (by kernel_rfl) (by kernel_rfl) (fun T hT => ?_)
                  simp only [List.filterMap_cons, List.filterMap_nil, id, putsS, Act.put, List.setIfInBounds_toArray, List.set_cons_zero, List.set_cons_succ] at hT
                  subst hT
                  refine ⟨⟨?_, ?_, ?_, ?_, ?_, ?_, ?_, ?_, trivial⟩, ?_⟩
                  · intro f w1 hG hO hL hF K hK
                    clear hF hO hL
                    dsimp only at hK ⊢
                    go_simp
                    exact hK.out _ _ hG rfl (fun _ _ _ h => h) (fun _ _ h => h)
                  · intro f w1 hG hO hL hF K hK
                    have l1 : (fpH gq g9 A6 c6 l3 fin op true M) 1 w1 := hL 1 (Nat.le_of_ble_eq_true (by kernel_rfl)) (by kernel_rfl)
                    have d0 : (fpF B0 gq g9 size A6 c6 l3 fin op true M) 0 (f 78) (f 0) w1 := hF 0 (by kernel_rfl)
                    clear hF hO hL
                    dsimp only at hK ⊢
                    generalize hf78 : f 78 = v78 at *
                    subst d0
                    go_simp
                    refine (take_at gq size l3 A6 c6 w1 l1.1 HA6.out.1 l1.2 HA6.out.2 HSZ.out).mono ?_
                    rintro e w21 ⟨⟨rfl, _, hs⟩, hr, hk⟩
                    exact hK.out _ _ (FpG.call hG hk (by have := HNE.out; omega) (by have := HNE.out; omega)) ⟨rfl, hs, hr⟩ (fun j hj _ h => fpF_call hk HQ9.out j hj _ _ h) (fun m hm h => fpH_call hk HQ9.out m hm h)
                  · intro f w1 hG hO hL hF K hK
                    clear hF hO hL
                    dsimp only at hK ⊢
                    go_simp
                    exact hK.out _ _ hG rfl (fun _ _ _ h => h) (fun _ _ h => h)
                  · intro f w1 hG hO hL hF K hK
                    have l7 : Bk w1 g9 24 (fpC fin op true M ⟨#[]⟩) := hL 7 (Nat.le_of_ble_eq_true (by kernel_rfl)) (by kernel_rfl)
                    have d2 : (fpF B0 gq g9 size A6 c6 l3 fin op true M) 2 (f 80) (f 0) w1 := hF 2 (by kernel_rfl)
                    clear hF hO hL
                    dsimp only at hK ⊢
                    generalize hf80 : f 80 = v80 at *
                    subst d2
                    obtain ⟨y0, y1, y2, y3, y4, y5, y6, y7⟩ := cells8 l7
                    go_simp
                    exact hK.out _ _ hG rfl (fun _ _ _ h => h) (fun _ _ h => h)
                  · intro f w1 hG hO hL hF K hK
                    have d1 : (fpF B0 gq g9 size A6 c6 l3 fin op true M) 1 (f 79) (f 0) w1 := hF 1 (by kernel_rfl)
                    have d3 : (fpF B0 gq g9 size A6 c6 l3 fin op true M) 3 (f 81) (f 0) w1 := hF 3 (by kernel_rfl)
                    clear hF hO hL
                    dsimp only at hK ⊢
                    generalize hf79 : f 79 = v79 at *
                    generalize hf81 : f 81 = v81 at *
                    obtain ⟨rfl, hs1, hr1⟩ := d1
                    subst d3
                    go_simp
                    refine (turned_any A6 size c6 (l3.take size) M HM.out (fun x hx => HL3.out.2 x (List.mem_of_mem_take hx)) (by rw [List.length_take, Nat.min_eq_left HSZ.out]) HC6.out (Nat.le_trans HSZ.out HL3.out.1) w1 hs1).mono ?_
                    rintro e w21 ⟨⟨v, rfl, ho⟩, hb⟩
                    obtain ⟨A5, c5, rfl, h5, hs5⟩ := own_shape ho
                    exact hK.out _ _ (FpG.bel hG hb) ⟨A5, c5, rfl, hs5, fun a e => by subst e; have h1 := (ho.lt a.block rfl).1; have h2 := hG.2.1; have h3 := HQ9.out; exact ⟨by omega, by omega⟩⟩ (fun j hj _ h => fpF_bel hb j _ _ h) (fun m hm h => fpH_bel hb m h)
                  · intro f w1 hG hO hL hF K hK
                    have d4 : (fpF B0 gq g9 size A6 c6 l3 fin op true M) 4 (f 82) (f 0) w1 := hF 4 (by kernel_rfl)
                    clear hF hO hL
                    dsimp only at hK ⊢
                    generalize hf82 : f 82 = v82 at *
                    obtain ⟨A5, c5, rfl, hs5, _⟩ := d4
                    have cv := run_txt w1 A5 size c5 _ (by rw [xorN_length, List.length_take, Nat.min_eq_left HSZ.out]) hs5 (xorFrom_lt HM.out 0 _ (fun x hx => HL3.out.2 x (List.mem_of_mem_take hx)))
                    go_simp
                    exact hK.out _ _ hG rfl (fun _ _ _ h => h) (fun _ _ h => h)
                  · intro f w1 hG hO hL hF K hK
                    clear hF hO hL
                    dsimp only at hK ⊢
                    go_simp
                    exact hK.out _ _ hG rfl (fun _ _ _ h => h) (fun _ _ h => h)
                  · intro f w1 hG hO hL hF K hK
                    have l7 : Bk w1 g9 24 (fpC fin op true M ⟨#[]⟩) := hL 7 (Nat.le_of_ble_eq_true (by kernel_rfl)) (by kernel_rfl)
                    have d6 : (fpF B0 gq g9 size A6 c6 l3 fin op true M) 6 (f 84) (f 0) w1 := hF 6 (by kernel_rfl)
                    have d5 : (fpF B0 gq g9 size A6 c6 l3 fin op true M) 5 (f 83) (f 0) w1 := hF 5 (by kernel_rfl)
                    clear hF hO hL
                    dsimp only at hK ⊢
                    generalize hf84 : f 84 = v84 at *
                    generalize hf83 : f 83 = v83 at *
                    subst d6
                    subst d5
                    have y7 : w1.cell? ⟨g9, 7, none⟩ = some (.string ⟨#[]⟩) := l7.cell 7
                    have z7 := l7.frozen 7
                    have hN := l7.put 7 (.string (txt (xorN M (l3.take size))))
                    unfold fpC at hN
                    simp only [List.setIfInBounds_toArray, List.set_cons_zero, List.set_cons_succ] at hN
                    go_simp
                    exact hK.out undef _ (FpG.set hG HZ.out (by have := HNE.out; have := HQ9.out; omega) 7 _) hN (fun j hj _ h => fpF_set (fun a e => by have := HA6.out.2 a e; have := HZ.out; have := HB0.out; omega) (Nat.le_trans HB0.out HZ.out) HQ9.out 7 _ j hj _ _ h) (fun m hm h => fpH_set (fun a e => by have := HA6.out.2 a e; have := HZ.out; have := HB0.out; omega) HQ9.out 7 _ m hm h)
                  intro f w7 hG hF
                  have d1 : (fpF B0 gq g9 size A6 c6 l3 fin op true M) 1 (f 79) (f 0) w7 := hF 1 (by decide)
                  have d7 : Bk w7 g9 24 (fpC fin op true M (txt (xorN M (l3.take size)))) := hF 7 (by decide)
                  clear hF
                  obtain ⟨_, _, hr7⟩ := d1
                  dsimp only
                  generalize f 78 = v78
                  generalize f 79 = v79
                  generalize f 80 = v80
                  generalize f 81 = v81
                  generalize f 82 = v82
                  generalize f 83 = v83
                  generalize f 84 = v84
                  obtain ⟨l4, hl4⟩ : ∃ q, q = l3.drop size := ⟨_, rfl⟩
                  obtain ⟨tx, htx⟩ : ∃ q, q = txt (xorN M (l3.take size)) := ⟨_, rfl⟩
                  rw [← htx] at d7
                  rw [← hl4] at hr7
                  have HRW := Lib.hid (HRV.out.trans (by rw [← htx, ← hl4] : _ = Rs.ok ((⟨fin, op, true, tx⟩ : FrM), M) l4))
                  obtain ⟨A8, c8, hb8, hc8, hs8, ha8⟩ := hr7
                  obtain ⟨m8, hm8⟩ : ∃ q, q = l4.length := ⟨_, rfl⟩
                  rw [← hm8] at hb8 hc8
                  obtain ⟨hbw7, _, hf7⟩ := hG
                  have rd7 := H0.out.below hbw7 HNE.out.1
                  have q0 : w7.cell? ⟨gq, 0, none⟩ = some (.slice A8 m8 c8) := hb8.cell 0
                  have r1 : w7.cell? ⟨gr, 1, none⟩ = some (.slice A n c) := rd7.cell 1
                  have zr := rd7.frozen 1
                  obtain ⟨w8, hw8⟩ : ∃ x, x = w7.setCell ⟨gr, 1, none⟩ (.slice A8 m8 c8) := ⟨_, rfl⟩
                  have d8 : Bk w8 g9 24 (fpC fin op true M tx) := by
                    rw [hw8]
                    exact d7.far (p := ⟨gr, 1, none⟩) (by show g9 ≠ gr; have := HNE.out; have := HZ.out; omega) _
                  have f8 := hf7
                  have hf8 : Bk w8 gf 24 #[.bool false, .int .i64 0, .bool false, .int .u8 0, .int .u8 0, .int .u8 0, .int .u8 0, .string ⟨#[]⟩] := by
                    rw [hw8]
                    exact hf7.far (p := ⟨gr, 1, none⟩) (by show gf ≠ gr; have := HNE.out; omega) _
                  have hs9 := seg_far rd7 hs8 (fun _ h => by cases h) 1 (.slice A8 m8 c8)
                  have k8 : KQ gr w w8 := by
                    rw [hw8]
                    exact (KQ.of_below HNE.out.1 hbw7).trans (KQ.set gr 1 w7 _)
                  have rd8 : Bk w8 gr 59 (rdC true (.slice A8 m8 c8) kind text false) := by
                    rw [hw8]
                    have k := rd7.put 1 (.slice A8 m8 c8)
                    exact k
                  rw [← hw8] at hs9
                  have HW8 := Lib.hid hw8
                  have HRD8 := Lib.hid rd8
                  have HK8 := Lib.hid k8
                  have HS8 := Lib.hid hs9
                  have HC8 := Lib.hid (And.intro hm8 (And.intro hc8 ha8))
                  have HF8 := Lib.hid hf8
                  have HB8 := Lib.hid d8
                  clear hw8 rd8 k8 hs9 f8 hf7 hs8 hb8 hbw7 hc8 ha8 hl4 htx d7 rd7
                  clear d8 hf8 hm8
                  go_upto_region 14 with fail
                  rw [← HW8.out]
                  clear q0 r1 zr
                  obtain ⟨y0, y1, y2, y3, y4, y5, y6, y7⟩ := cells8 HB8.out
                  obtain ⟨x0, x1, x2, x3, x4, x5, x6, x7⟩ := cells8 HF8.out
                  have z0 := HF8.out.frozen 0
                  have z1 := HF8.out.frozen 1
                  have z2 := HF8.out.frozen 2
                  have z3 := HF8.out.frozen 3
                  have z4 := HF8.out.frozen 4
                  have z5 := HF8.out.frozen 5
                  have z6 := HF8.out.frozen 6
                  have z7 := HF8.out.frozen 7
                  go_wp2_with fail
                  clear y0 y1 y2 y3 y4 y5 y6 y7 x0 x1 x2 x3 x4 x5 x6 x7 z0 z1 z2 z3 z4 z5 z6 z7
                  have FB := box8 HF8.out (.bool fin) (.int .i64 (op : Nat)) (.bool true) (.int .u8 (M 0 : Nat)) (.int .u8 (M 1 : Nat)) (.int .u8 (M 2 : Nat)) (.int .u8 (M 3 : Nat)) (.string tx)
                  obtain ⟨r0, r1, r2, r3, r4, r5, r6, r7⟩ := cells8 FB
                  have K8 := kept8 w8 gf (.bool fin) (.int .i64 (op : Nat)) (.bool true) (.int .u8 (M 0 : Nat)) (.int .u8 (M 1 : Nat)) (.int .u8 (M 2 : Nat)) (.int .u8 (M 3 : Nat)) (.string tx)
                  have FIN := Lib.hid (frame_fin (A := A) (n := n) (c := c) HRW.out HNE.out HK8.out HRD8.out HS8.out HC8.out HB0.out K8 (below8 HK8.out.bel (by have := HNE.out; omega) _ _ _ _ _ _ _ _))
                  clear K8 FB
                  unfold set8 at r0 r1 r2 r3 r4 r5 r6 r7
                  exact bodyPost_ret (v := frV ⟨fin, op, true, tx⟩ M) (by simp [results, Tryd.results44, go_sem, r0, r1, r2, r3, r4, r5, r6, r7, frV]) rfl FIN.out
    · have HRV := Lib.hid (show R = .no 1002 by
        rw [HR.out]
        unfold frameN
        rw [if_neg (by have := HN.out; omega), if_pos (Or.inr (Or.inl (by rw [← HY0.out, ← HMSK.out]; exact hmk)))])
      have b8 : bits .and .u8 (a : Int) 112 = 0 := b7
      clear hA16 b7
      cases msk with
      | false => cases mk with
        | false => exact absurd rfl hmk
        | true =>
          clear hmk
          go_wp2_with fail
          go_quiet (fail)
          go_wp2_with fail
          refine ⟨rfl, ?_⟩
          rw [HRV.out]
          have kb : Below w.heap.size w (w3.drewN nq) := below_drewN HBW.out _
          exact ⟨KQ.of_below HNE.out.1 kb, rfl, H0.out.below kb HNE.out.1⟩
      | true => cases mk with
        | true => exact absurd rfl hmk
        | false =>
          clear hmk
          go_wp2_with fail
          go_quiet (fail)
          go_wp2_with fail
          refine ⟨rfl, ?_⟩
          rw [HRV.out]
          have kb : Below w.heap.size w (w3.drewN nq) := below_drewN HBW.out _
          exact ⟨KQ.of_below HNE.out.1 kb, rfl, H0.out.below kb HNE.out.1⟩
  · have g0 : ((rs : Int) != 0) = true := by simpa using hrs0
    have HRV := Lib.hid (show R = .no 1002 by
      rw [HR.out]
      unfold frameN
      rw [if_neg (by have := HN.out; omega), if_pos (Or.inl (by have h1 := HRS.out; rw [HA0.out] at h1; intro h; rw [h] at h1; exact hrs0 h1))])
    clear hrs0
    go_wp2_with fail
    go_quiet (fail)
    go_wp2_with fail
    refine ⟨rfl, ?_⟩
    rw [HRV.out]
    have kb : Below w.heap.size w (w3.drewN nq) := below_drewN HBW.out _
    exact ⟨KQ.of_below HNE.out.1 kb, rfl, H0.out.below kb HNE.out.1⟩
end Go.Proofs.YtnbhgjionpidnaaDoor
