/- The walk of the statement on pages: a leaf grows pair by pair, is cut, and each part is read back. Condition: the pairs lie in memory. -/
import Derived.Test.YtopkkolcimmedaaPgW
import Derived.Test.YtopkkolcimmedaaPgOpen
import Derived.Test.YtopkkolcimmedaaStA
import Derived.LoopTactic
import Derived.Deep.LoopGhost
import Derived.WalkLawsBesides
import Derived.BigQuiet
import Derived.Deep.QuietTactic
import Derived.Deep.CutBlock
import Derived.Deep.DeepCutAuto
namespace Go.Proofs.Ytopkkolcimmedaa
open Go.RowKit

theorem less3 (x k : ByteArray) : (lessB x k = true ∧ Op.bytesLess k.toList x.toList = false ∧ (k.toList == x.toList) = false) ∨ (lessB x k = false ∧ Op.bytesLess k.toList x.toList = true ∧ (k.toList == x.toList) = false) ∨ (lessB x k = false ∧ Op.bytesLess k.toList x.toList = false ∧ (k.toList == x.toList) = true) := by
  rw [beq_toList]
  by_cases e : k = x
  · subst e
    exact Or.inr (Or.inr ⟨lessB_irr _, lessB_irr _, decide_eq_true rfl⟩)
  · rw [decide_eq_false e]
    cases h : lessB x k with
    | true =>
      refine Or.inl ⟨rfl, ?_, rfl⟩
      cases h2 : Op.bytesLess k.toList x.toList with
      | false => rfl
      | true => have := lessB_trans h h2; rw [lessB_irr] at this; cases this
    | false => exact Or.inr (Or.inl ⟨rfl, lessB_tri h (fun hc => e hc.symm), rfl⟩)
/-- What each operation of the region that sets a pair in a part leaves. -/
def sgF (w0 : World) (gx b off a np cp : Nat) (x y : ByteArray) (vn : Value) (p2 : PartM) (j : Nat) (v u : Value) (w : World) : Prop := match j with
  | 0 => v = .slice (some ⟨b, off, none⟩) np cp
  | 1 => v = .int .i64 (a : Int)
  | 2 => v = .pointer (some ⟨b, off + a * 4, none⟩)
  | 3 => v = vn
  | 4 => v = .pointer (some ⟨gx, 0, none⟩)
  | 5 => v = .string x
  | 6 => v = .pointer (some ⟨gx, 1, none⟩)
  | 7 => v = .string y
  | 8 => ∃ K V, v = .agg #[.bool true, K, V, .slice none 0 0] ∧ LfR w p2 K V
  | 9 => ∃ g ds, v = .pointer (some ⟨g, 0, none⟩) ∧ w0.heap.size ≤ g ∧ ds.size = 4 ∧ Bk w g 30 ds
  | 10 => ∃ g K V, u = .pointer (some ⟨g, 0, none⟩) ∧ w0.heap.size ≤ g ∧ Bk w g 30 #[.bool true, K, V, .slice none 0 0] ∧ LfR w p2 K V
  | _ => True
section
variable {w0 : World} {gx b off a np cp : Nat} {x y : ByteArray} {vn : Value} {p2 : PartM}
theorem sgF.bel {w w' : World} (k : Below w.heap.size w w') : ∀ j u u', sgF w0 gx b off a np cp x y vn p2 j u u' w → sgF w0 gx b off a np cp x y vn p2 j u u' w' := by
  intro j u u' h
  unfold sgF at *
  split at h <;> first | exact h | skip
  · obtain ⟨K, V, h1, h2⟩ := h
    exact ⟨K, V, h1, h2.bel k⟩
  · obtain ⟨g, ds, h1, h2, h3, h4⟩ := h
    exact ⟨g, ds, h1, h2, h3, h4.bel k⟩
  · obtain ⟨g, K, V, h1, h2, h3, h4⟩ := h
    exact ⟨g, K, V, h1, h2, h3.bel k, h4.bel k⟩
theorem LfR.kept {w w' : World} {p : PartM} {K V : Value} {g : Nat} {cs : Array Value} (h : LfR w p K V) (hb : Bk w g 30 cs) (k : Kept1 g w w') : LfR w' p K V :=
  ⟨own_apart h.ok hb (by decide) k, own_apart h.ov hb (by decide) k⟩
theorem sgF.kept {w w' : World} {g : Nat} {ds : Array Value} (hb : Bk w g 30 ds) (k : Kept1 g w w') (hd : ∃ ds', ds'.size = 4 ∧ Bk w' g 30 ds') : ∀ j, j ≠ 10 → ∀ u u', sgF w0 gx b off a np cp x y vn p2 j u u' w → sgF w0 gx b off a np cp x y vn p2 j u u' w' := by
  intro j hj u u' h
  unfold sgF at *
  split at h <;> first | exact h | skip
  · obtain ⟨K, V, h1, h2⟩ := h
    exact ⟨K, V, h1, h2.kept hb k⟩
  · obtain ⟨g', ds', h1, h2, h3, h4⟩ := h
    by_cases he : g' = g
    · subst he
      obtain ⟨d2, k1, k2⟩ := hd
      exact ⟨g', d2, h1, h2, k1, k2⟩
    · exact ⟨g', ds', h1, h2, h3, (k.block g' h4.lt he).trans h4⟩
  · exact absurd rfl hj
end
/-- What has been read back: its box, and its two rows, in memory that is new from B on. -/
structure GtR (B m : Nat) (ks vs : List ByteArray) (K V : Value) (w : World) : Prop where
  bk : Bk w B 30 #[.bool true, K, V, .slice none 0 0]
  ok : w.ownsRow B 9 1 K m (strV ks)
  ov : w.ownsRow B 9 1 V m (strV vs)
  ap : Apart K V
theorem GtR.lf {B m : Nat} {ks vs : List ByteArray} {K V : Value} {w : World} (h : GtR B m ks vs K V w) : LfR w (ks, vs) K V := LfR.of h.ok h.ov
theorem GtR.next {B m : Nat} {ks vs : List ByteArray} {K V : Value} {w w' : World} (h : GtR B m ks vs K V w) (hb : Below w.heap.size w w') : GtR B m ks vs K V w' := ⟨h.bk.bel hb, own_belS h.ok hb, own_belS h.ov hb, h.ap⟩
theorem GtR.zero {B : Nat} {w : World} (h : Bk w B 30 #[.bool true, .slice none 0 0, .slice none 0 0, .slice none 0 0]) : GtR B 0 (flatK []) (flatV []) (.slice none 0 0) (.slice none 0 0) w :=
  ⟨h, World.ownsRow_nil _ _ _ _, World.ownsRow_nil _ _ _ _, apart_nil0 _⟩
theorem textN_lt (s : ByteArray) : ∀ x ∈ textN s, x < 256 := by
  intro x hx
  unfold textN at hx
  rcases List.mem_cons.1 hx with rfl | hx
  · omega
  · unfold bytesN at hx
    obtain ⟨y, _, rfl⟩ := List.mem_map.1 hx
    exact y.toNat_lt
theorem kidB_lt (k : Int) : ∀ x ∈ kidB k, x < 256 := by
  intro x hx
  unfold kidB at hx
  simp only [List.mem_cons, List.not_mem_nil, or_false] at hx
  omega
theorem encTo_lt (n : NodeM) : ∀ j, ∀ x ∈ encTo n j, x < 256
  | 0 => by
    intro x hx
    change x ∈ headB n at hx
    unfold headB at hx
    split at hx
    · simp only [List.mem_cons, List.not_mem_nil, or_false] at hx; omega
    · rcases List.mem_append.1 hx with hx | hx
      · simp only [List.mem_cons, List.not_mem_nil, or_false] at hx; omega
      · exact kidB_lt _ x hx
  | j + 1 => by
    intro x hx
    change x ∈ encTo n j ++ pieceB n j at hx
    rcases List.mem_append.1 hx with hx | hx
    · exact encTo_lt n j x hx
    · unfold pieceB at hx
      rcases List.mem_append.1 hx with hx | hx
      · exact textN_lt _ x hx
      · split at hx
        · exact textN_lt _ x hx
        · exact kidB_lt _ x hx
theorem encB_lt (n : NodeM) (_hf : formB n = true) : ∀ x ∈ encB n, x < 256 := by
  intro x hx
  unfold encB padB at hx
  rcases List.mem_append.1 hx with hx | hx
  · exact encTo_lt n _ x hx
  · rw [List.eq_of_mem_replicate hx]; omega
theorem grown_raw {w w' : World} {row : Option Nat} {g : Nat} (hg : w.grownBy w' row) (hl : g < w.heap.size) (hn : row ≠ some g) : w'.heap[g]? = w.heap[g]? := hg.block g hl (fun e => hn e.symm)
/-- What holds while a row of what was read back grows. -/
structure GsG (w0 w4 : World) (B gN gO s1 s2 : Nat) (N : Array Value) (U : Value) (n2 : Nat) (ys : List Value) (kb : Option Nat) (w : World) : Prop where
  bel : Below B w0 w
  nb : Bk w gN 30 N
  r1 : w.heap[s1]? = w4.heap[s1]?
  r2 : w.heap[s2]? = w4.heap[s2]?
  l1 : s1 < w.heap.size
  l2 : s2 < w.heap.size
  lt : gO < w.heap.size
  o : w.ownsRow B 9 1 U n2 ys
  kl : ∀ b, kb = some b → B ≤ b ∧ b < w.heap.size
  ge : B ≤ gO
  ne : gN ≠ gO
  n1 : s1 ≠ gO
  n2' : s2 ≠ gO
  sz : B ≤ w.heap.size
section
variable {w0 w4 w w' : World} {B gN gO s1 s2 : Nat} {N : Array Value} {U : Value} {n2 : Nat} {ys : List Value} {kb : Option Nat}
theorem GsG.next (h : GsG w0 w4 B gN gO s1 s2 N U n2 ys kb w) (hb : Below w.heap.size w w') : GsG w0 w4 B gN gO s1 s2 N U n2 ys kb w' :=
  ⟨h.bel.trans (hb.mono h.sz), h.nb.bel hb, (hb.block s1 h.l1).trans h.r1, (hb.block s2 h.l2).trans h.r2, Nat.lt_of_lt_of_le h.l1 hb.size, Nat.lt_of_lt_of_le h.l2 hb.size, Nat.lt_of_lt_of_le h.lt hb.size, own_belS h.o hb, fun b e => ⟨(h.kl b e).1, Nat.lt_of_lt_of_le (h.kl b e).2 hb.size⟩, h.ge, h.ne, h.n1, h.n2', Nat.le_trans h.sz hb.size⟩
theorem GsG.app (h : GsG w0 w4 B gN gO s1 s2 N U n2 ys kb w) (k : w.grownBy w' kb) (h1 : kb ≠ some gN) (h2 : kb ≠ some s1) (h3 : kb ≠ some s2) (ha : kb = none ∨ U.ownBlock ≠ kb) : GsG w0 w4 B gN gO s1 s2 N U n2 ys kb w' := by
  have hb : Below B w w' := (Below.refl B w).grown k h.sz (fun j e => (h.kl j e).1)
  refine ⟨h.bel.trans hb, grown_bk k h.nb h1, (grown_raw k h.l1 h2).trans h.r1, (grown_raw k h.l2 h3).trans h.r2, Nat.lt_of_lt_of_le h.l1 k.size, Nat.lt_of_lt_of_le h.l2 k.size, Nat.lt_of_lt_of_le h.lt k.size, ?_, fun b e => ⟨(h.kl b e).1, Nat.lt_of_lt_of_le (h.kl b e).2 k.size⟩, h.ge, h.ne, h.n1, h.n2', Nat.le_trans h.sz k.size⟩
  rcases ha with ha | ha
  · subst ha
    cases hU : U.ownBlock with
    | none => exact h.o.kept k (Or.inl hU)
    | some b => exact h.o.kept k (Or.inr (by rw [hU]; exact fun e => by cases e))
  · exact h.o.kept k (Or.inr ha)
theorem GsG.set (h : GsG w0 w4 B gN gO s1 s2 N U n2 ys kb w) {cs : Array Value} (hb : Bk w gO 30 cs) (i : Nat) (u : Value) : GsG w0 w4 B gN gO s1 s2 N U n2 ys kb (w.setCell ⟨gO, i, none⟩ u) := by
  have k := Kept1.set w gO i u
  exact ⟨h.bel.setCell (p := ⟨gO, i, none⟩) h.ge _, bk_kept h.nb h.ne k, (k.block s1 h.l1 h.n1).trans h.r1, (k.block s2 h.l2 h.n2').trans h.r2, Nat.lt_of_lt_of_le h.l1 k.size, Nat.lt_of_lt_of_le h.l2 k.size, Nat.lt_of_lt_of_le h.lt k.size, own_st h.o k (own_tyne h.o hb (by decide)), fun b e => ⟨(h.kl b e).1, Nat.lt_of_lt_of_le (h.kl b e).2 k.size⟩, h.ge, h.ne, h.n1, h.n2', Nat.le_trans h.sz k.size⟩
end
/-- A loop's state while a part's pairs are put behind those that were read back. -/
structure LpR (w0 w4 : World) (B gN s1 s2 m : Nat) (N : Array Value) (ks vs : List ByteArray) (K V : Value) (w : World) : Prop where
  bel : Below B w0 w
  nb : Bk w gN 30 N
  r1 : w.heap[s1]? = w4.heap[s1]?
  r2 : w.heap[s2]? = w4.heap[s2]?
  l1 : s1 < w.heap.size
  l2 : s2 < w.heap.size
  gt : GtR B m ks vs K V w
  k1 : K.ownBlock ≠ some s1
  k2 : K.ownBlock ≠ some s2
  v1 : V.ownBlock ≠ some s1
  v2 : V.ownBlock ≠ some s2
  ne : gN ≠ B
  n1 : s1 ≠ B
  n2 : s2 ≠ B
  sz : B ≤ w.heap.size
theorem LpR.next {w0 w4 w w' : World} {B gN s1 s2 m : Nat} {N : Array Value} {ks vs : List ByteArray} {K V : Value} (h : LpR w0 w4 B gN s1 s2 m N ks vs K V w) (hb : Below w.heap.size w w') : LpR w0 w4 B gN s1 s2 m N ks vs K V w' :=
  ⟨h.bel.trans (hb.mono h.sz), h.nb.bel hb, (hb.block s1 h.l1).trans h.r1, (hb.block s2 h.l2).trans h.r2, Nat.lt_of_lt_of_le h.l1 hb.size, Nat.lt_of_lt_of_le h.l2 hb.size, h.gt.next hb, h.k1, h.k2, h.v1, h.v2, h.ne, h.n1, h.n2, Nat.le_trans h.sz hb.size⟩
/-- Each operation's fact. -/
def gsF (B gN gO f fn : Nat) (tN e : TypeId) (cells : Value → Array Value) (K R J P x : Value) (Nw : Value → Prop) (n : Nat) (xs : List Value) (j : Nat) (v _u : Value) (w : World) : Prop := match j with
  | 0 => v = .pointer (some ⟨gO, f, none⟩)
  | 1 => v = K
  | 2 => v = .pointer (some ⟨gN, fn, none⟩)
  | 3 => v = R
  | 4 => v = J
  | 5 => v = P
  | 6 => v = x
  | 7 => ∃ g, v = .slice (some ⟨g, 0, none⟩) 1 1 ∧ B ≤ g ∧ g ≠ gO ∧ K.ownBlock ≠ some g ∧ Bk w g e #[x]
  | 8 => w.ownsRow B e 1 v (n + 1) (xs ++ [x]) ∧ Nw v
  | 9 => v = .pointer (some ⟨gO, f, none⟩)
  | 10 => ∃ v', Bk w gO tN (cells v') ∧ w.ownsRow B e 1 v' (n + 1) (xs ++ [x]) ∧ Nw v'
  | _ => True
section
variable {w0 w w' : World} {B gN gR gO f fn n : Nat} {tN e : TypeId} {cells : Value → Array Value} {K R J P x : Value} {Nw : Value → Prop} {xs : List Value}
theorem gsF_bel (hb : Below w.heap.size w w') : ∀ j u u', gsF B gN gO f fn tN e cells K R J P x Nw n xs j u u' w → gsF B gN gO f fn tN e cells K R J P x Nw n xs j u u' w' := by
  intro j u u' h
  unfold gsF at *
  split at h <;> first | exact h | exact ⟨own_belS h.1 hb, h.2⟩ | skip
  · obtain ⟨g, hv, h0, h1, h2, h3⟩ := h
    exact ⟨g, hv, h0, h1, h2, h3.bel hb⟩
  · obtain ⟨v', h1, h2, h3⟩ := h
    exact ⟨v', h1.bel hb, own_belS h2 hb, h3⟩
theorem gsF_app {kb : Option Nat} (hkb : K.ownBlock = kb) (k : w.grownBy w' kb) : ∀ j, j ≠ 8 → j ≠ 10 → ∀ u u', gsF B gN gO f fn tN e cells K R J P x Nw n xs j u u' w → gsF B gN gO f fn tN e cells K R J P x Nw n xs j u u' w' := by
  intro j h8 h10 u u' h
  unfold gsF at *
  split at h <;> first | exact h | exact absurd rfl h8 | exact absurd rfl h10 | skip
  · obtain ⟨g, hv, h0, h1, h2, h3⟩ := h
    exact ⟨g, hv, h0, h1, h2, grown_bk k h3 (by rw [← hkb]; exact h2)⟩
theorem gsF_set {cs : Array Value} (hb : Bk w gO tN cs) (te : e ≠ tN) (i : Nat) (u0 : Value) : ∀ j, j ≠ 10 → ∀ u u', gsF B gN gO f fn tN e cells K R J P x Nw n xs j u u' w → gsF B gN gO f fn tN e cells K R J P x Nw n xs j u u' (w.setCell ⟨gO, i, none⟩ u0) := by
  intro j h10 u u' h
  have k := Kept1.set w gO i u0
  unfold gsF at *
  split at h <;> first | exact h | exact absurd rfl h10 | skip
  · obtain ⟨g, hv, h0, h1, h2, h3⟩ := h
    exact ⟨g, hv, h0, h1, h2, bk_kept h3 h1 k⟩
  · exact ⟨own_st h.1 k (own_tyne h.1 hb te), h.2⟩
end
set_option maxRecDepth 100000 in
set_option maxHeartbeats 64000000 in
theorem pages_any (A : Option Addr) (n cap : Nat) (l : List PairM) (hn : n = l.length) (W : World) (hA : Seg W A (prsV l)) :
    Calls Try.prog 3 #[.slice A n cap] W fun e w' => e = .returned (.bool true) ∧ Below W.heap.size W w' := by
  have HA := Lib.hid hA
  have HN := Lib.hid hn
  obtain ⟨i0, hi0, hz0, hz1, hz2⟩ := info_parts info_node
  have HI0 := Lib.hid hi0
  clear hA hn hi0
  go_enter Try.func3, Try.ntmps3
  go_wp2_with fail
  refine (new_ok 4 W (by omega) (by omega)).mono ?_
  rintro e w1 ⟨rfl, hp1, hb1⟩
  obtain ⟨gp, hgp⟩ : ∃ g, g = W.heap.size := ⟨_, rfl⟩
  have HP1 := Lib.hid (show PgA W.heap.size gp 4 [] (.slice none 0 0) w1 by rw [hgp]; exact hp1)
  rw [← hgp]
  have HB1 := Lib.hid hb1
  clear hp1 hb1 hgp
  obtain ⟨w3, hw3⟩ : ∃ w, w = (w1.alloc (.cells #[.bool true, .slice none 0 0, .slice none 0 0, .slice none 0 0] 30)).alloc (.cells #[.bool true, .slice none 0 0, .slice none 0 0, .slice none 0 0] 30) := ⟨_, rfl⟩
  have hal : Below w1.heap.size w1 w3 := by rw [hw3]; exact ((Below.refl _ _).alloc (Nat.le_refl _) _).alloc (by simp) _
  have HW3 := Lib.hid hw3
  go_upto_region 6 with fail
  rw [← HW3.out]
  obtain ⟨g6, hg6⟩ : ∃ g, g = w1.heap.size + 1 := ⟨_, rfl⟩
  have HP3 := Lib.hid (HP1.out.bel hal)
  have HR3 := Lib.hid (show PgQ W g6 0 [⟨([], []), .slice none 0 0, .slice none 0 0⟩] w1.heap.size 0 1 1 w3 ∧ MdR g6 (flatK [([], [])], flatV [([], [])]) (.slice none 0 0) (.slice none 0 0) w3 by
    have z := HB1.out.size
    have k1 := Bk.new w1 30 #[.bool true, .slice none 0 0, .slice none 0 0, .slice none 0 0]
    have k2 := Bk.new (w1.alloc (.cells #[.bool true, .slice none 0 0, .slice none 0 0, .slice none 0 0] 30)) 30 #[.bool true, .slice none 0 0, .slice none 0 0, .slice none 0 0]
    rw [World.size_alloc, ← hw3] at k2
    have k3 := k1.alloc (.cells #[.bool true, .slice none 0 0, .slice none 0 0, .slice none 0 0] 30)
    rw [← hw3] at k3
    refine ⟨⟨HB1.out.trans (hal.mono z), by omega, PartsOk.zero, rfl, Nat.le_refl _, by omega, by decide, Seg.of_block k3 (fun i hi => by rw [show rowI [(⟨([], []), .slice none 0 0, .slice none 0 0⟩ : ItM)] = [.bool true, .slice none 0 0, .slice none 0 0, .slice none 0 0] from rfl, ← Array.getElem?_toList]), ⟨_, k3⟩, by omega, fun x hx => ?_⟩, by rw [hg6]; exact k2, ⟨World.ownsRow_nil _ _ _ _, World.ownsRow_nil _ _ _ _⟩⟩
    simp only [List.mem_singleton] at hx
    subst hx
    exact ⟨World.ownsRow_nil _ _ _ _, World.ownsRow_nil _ _ _ _⟩)
  rw [← hg6]
  clear hal hg6 HW3 HP1 HB1 hw3
  generalize w1.heap.size = b0 at *
  clear w1
  go_upto_block 0 with fail
  go_cut [5] (fun s5 wx => ∃ (i : Nat) (its : List ItM) (K V : Value) (b off np cp : Nat), i ≤ 40 ∧ s5 = .slice (some ⟨b, off, none⟩) np cp ∧ Hid (PgQ W g6 i its b off np cp wx) ∧ Hid (MdR g6 (flatK (psI its), flatV (psI its)) K V wx))
  case first =>
    go_wp2_with fail
    go_loopw [5, 7] (fun s5 s7 wr => ∃ (i : Nat) (q : List HeldM) (v : Value) (its : List ItM) (K V : Value) (b off np cp : Nat), i ≤ 40 ∧ s7 = .int .i64 i ∧ s5 = .slice (some ⟨b, off, none⟩) np cp ∧ Hid (Calm q) ∧ Hid (PgA W.heap.size gp 4 q v wr) ∧ Hid (PgQ W g6 i its b off np cp wr) ∧ Hid (MdR g6 (flatK (psI its), flatV (psI its)) K V wr)) (fun _ s7 _ => 40 - (intOf s7).toNat)
    case atStart => exact ⟨0, [], _, _, _, _, _, _, _, _, by omega, rfl, rfl, Lib.hid Calm.nil, HP3, Lib.hid HR3.out.1, Lib.hid HR3.out.2⟩
    case round =>
      clear HP3 HR3
      obtain ⟨i, q, v, its, K, V, b, off, np, cp, hi40, rfl, rfl, HQ, HP, HR, HM⟩ := hrel
      by_cases hlt : i < n
      · by_cases h40 : i < 40
        · have i1 : (i : Int) < (n : Int) := by omega
          have i2 : (i : Int) < 40 := by omega
          have i3 : (0 : Int) ≤ (i : Int) := by omega
          go_upto_block 1 with fail
          go_cut [5, 7] (fun s5 s7 wx => ∃ (q : List HeldM) (v : Value) (its : List ItM) (K V : Value) (b off np cp : Nat), s7 = .int .i64 i ∧ s5 = .slice (some ⟨b, off, none⟩) np cp ∧ Hid (Calm q) ∧ Hid (PgA W.heap.size gp 4 q v wx) ∧ Hid (PgQ W g6 (i + 1) its b off np cp wx) ∧ Hid (MdR g6 (flatK (psI its), flatV (psI its)) K V wx))
          case first =>
            have hil : i < l.length := by have := HN.out; omega
            have hprs : prsV l ≠ [] := fun e => by
              have := congrArg List.length e
              rw [prsV_length] at this
              simp only [List.length_nil] at this
              omega
            obtain ⟨ba, oa, rfl, hbl, hcell⟩ := HA.out.bel HR.out.bel hprs
            obtain ⟨o, ho⟩ : ∃ o, o = l[i] := ⟨_, rfl⟩
            have rd : ∀ k, k < 3 → wr.cell? ⟨ba, oa + (i * 3 + k), none⟩ = (pairV o)[k]? := fun k hk => by
              rw [hcell (i * 3 + k) (by rw [prsV_length]; omega), prsV_at hil hk, ho]
            obtain ⟨x, y, gone⟩ := o
            have c0 : wr.cell? ⟨ba, oa + i * 3, none⟩ = some (.string x) := by have := rd 0 (by omega); rw [Nat.add_zero] at this; exact this
            have c1 : wr.cell? ⟨ba, oa + i * 3 + 1, none⟩ = some (.string y) := by have := rd 1 (by omega); rw [← Nat.add_assoc] at this; exact this
            have c2 : wr.cell? ⟨ba, oa + i * 3 + 2, none⟩ = some (.bool gone) := by have := rd 2 (by omega); rw [← Nat.add_assoc] at this; exact this
            clear rd hcell hprs hbl ho
            obtain ⟨w8, hw8⟩ : ∃ w, w = wr.alloc (.cells #[.string x, .string y, .bool gone] 33) := ⟨_, rfl⟩
            have hal : Below wr.heap.size wr w8 := by rw [hw8]; exact (Below.refl _ _).alloc (Nat.le_refl _) _
            have HP8 := Lib.hid (HP.out.bel hal)
            have HR8 := Lib.hid (HR.out.next hal)
            have HM8 := Lib.hid (HM.out.next hal)
            have X8 := Lib.hid (show Bk w8 wr.heap.size 33 #[.string x, .string y, .bool gone] by rw [hw8]; exact Bk.new wr _ _)
            have HW8 := Lib.hid hw8
            clear hal HP HR HM hw8
            go_upto_region 10 with fail
            rw [← HW8.out]
            obtain ⟨g8, hg8⟩ : ∃ g, g = wr.heap.size := ⟨_, rfl⟩
            rw [← hg8] at X8 ⊢
            clear hg8 HW8 c0 c1 c2
            clear wr
            have p0 : w8.cell? ⟨g8, 0, none⟩ = some (.string x) := X8.out.cell 0
            have p1 : w8.cell? ⟨g8, 1, none⟩ = some (.string y) := X8.out.cell 1
            by_cases b1 : x.size < 1
            · go_wp2_with fail
              go_meet
              exact ⟨q, v, its, K, V, b, off, np, cp, rfl, rfl, HQ, HP8, Lib.hid (HR8.out.up), HM8⟩
            · by_cases b2 : 20 < x.size
              · go_wp2_with fail
                go_meet
                exact ⟨q, v, its, K, V, b, off, np, cp, rfl, rfl, HQ, HP8, Lib.hid (HR8.out.up), HM8⟩
              · by_cases b3 : 100 < y.size
                · go_wp2_with fail
                  go_meet
                  exact ⟨q, v, its, K, V, b, off, np, cp, rfl, rfl, HQ, HP8, Lib.hid (HR8.out.up), HM8⟩
                · have hf6 := flat_form HR8.out.ok
                  have hl6 := HR8.out.ml
                  obtain ⟨m6, hm6⟩ : ∃ m, m = (flatK (psI its)).length := ⟨_, rfl⟩
                  rw [← hm6] at hl6
                  obtain ⟨A6, B6, ca6, cb6, rfl, rfl, nd6, na6, nb6, nc6, nd6'⟩ := HM8.out.mr.nd hf6 m6 hm6 (by omega)
                  have y0 := HM8.out.mb.cell 0
                  have y1 := HM8.out.mb.cell 1
                  have y2 := HM8.out.mb.cell 2
                  have y3 := HM8.out.mb.cell 3
                  have CR := Lib.hid (rset_any (flatK (psI its)) (flatV (psI its)) [] A6 B6 none m6 ca6 cb6 0 0 x y w8 nd6 HR8.out.ok.keys (by omega))
                  clear hf6 hl6 hm6 nd6 na6 nb6 nc6 nd6'
                  go_wp2_with fail
                  refine CR.out.mono ?_
                  rintro e w9 ⟨⟨K9, V9, m9, rfl, ok9, ov9⟩, b9⟩
                  obtain ⟨A9, c9, rfl, hc9, _⟩ := own_shape ok9
                  obtain ⟨B9, d9, rfl, hd9, _⟩ := own_shape ov9
                  have HP9 := Lib.hid (HP8.out.bel b9)
                  have HR9 := Lib.hid (HR8.out.next b9)
                  have HM9 := Lib.hid (HM8.out.next b9)
                  have X9 := Lib.hid (X8.out.bel b9)
                  have LN9 := Lib.hid (LfR.of ok9 ov9)
                  have HS9 := Lib.hid (Md_store HM9.out LN9.out)
                  have z0 := HM9.out.mb.cell 0
                  have z1 := HM9.out.mb.cell 1
                  have z2 := HM9.out.mb.cell 2
                  have z3 := HM9.out.mb.cell 3
                  have f0 := HM9.out.mb.frozen 0
                  have f1 := HM9.out.mb.frozen 1
                  have f2 := HM9.out.mb.frozen 2
                  have f3 := HM9.out.mb.frozen 3
                  clear b9 ok9 ov9 CR y0 y1 y2 y3 p0 p1 HP8 HR8 HM8 X8
                  go_upto_region 12 with fail
                  obtain ⟨w10, hw10⟩ : ∃ w, w = ((((w9.setCell ⟨g6, 0, none⟩ (.bool true)).setCell ⟨g6, 1, none⟩ (.slice A9 m9 c9)).setCell ⟨g6, 2, none⟩ (.slice B9 m9 d9)).setCell ⟨g6, 3, none⟩ (.slice none 0 0)) := ⟨_, rfl⟩
                  rw [← hw10] at HS9 ⊢
                  have HM := Lib.hid HS9.out.1
                  have HP := Lib.hid (HP9.out.box HM9.out.mb HS9.out.2)
                  have HR := Lib.hid (HR9.out.kp (far_box HM9.out.mb) (fun j hj => by rw [hj]; exact HR9.out.ge) HS9.out.2)
                  have X8 := Lib.hid (HS9.out.2.bk X9.out (fun hc => by
                    have hc : g8 = g6 := hc
                    have h1 := X9.out
                    rw [hc] at h1
                    have := bk_type h1 HM9.out.mb
                    revert this; decide))
                  clear z0 z1 z2 z3 f0 f1 f2 f3 hw10 HS9 HP9 HR9 HM9 X9 LN9 hc9 hd9
                  generalize Value.slice A9 m9 c9 = K at *
                  generalize Value.slice B9 m9 d9 = V at *
                  have hx1 : 1 ≤ x.size := by omega
                  have hx2 : x.size ≤ 20 := by omega
                  have hx3 : y.size ≤ 100 := by omega
                  have HNP := Lib.hid HR.out.n
                  have hnc := HR.out.nc
                  have hsz := HR.out.sz
                  clear b1 b2 b3
                  go_upto_block 2 with fail
                  go_cut [9] (fun s9 wx => s9 = .int .i64 ((atTo (psI its) x np : Nat) : Int) ∧ Hid (Below w10.heap.size w10 wx))
                  case first => as_aux_lemma =>
                    go_wp2_with fail
                    go_loopw [9, 76] (fun s9 s76 wr => ∃ k : Nat, k ≤ np ∧ s76 = .int .i64 k ∧ s9 = .int .i64 ((atTo (psI its) x k : Nat) : Int) ∧ Hid (Below w10.heap.size w10 wr)) (fun _ s76 _ => np - (intOf s76).toNat)
                    case atStart => exact ⟨0, Nat.zero_le _, rfl, rfl, Lib.hid (Below.refl _ _)⟩
                    case round =>
                      obtain ⟨k, hk, rfl, rfl, HB⟩ := hrel
                      by_cases hkn : k < np
                      · have j1 : (k : Int) < (np : Int) := by omega
                        have j2 : (0 : Int) ≤ (k : Int) := by omega
                        have hkl : k < its.length := by have := HNP.out; omega
                        obtain ⟨it, hit⟩ : ∃ it, it = its[k] := ⟨_, rfl⟩
                        have hmem : it ∈ its := by rw [hit]; exact List.getElem_mem hkl
                        have hpk : (psI its).getD k ([], []) = it.p := by rw [hit]; simp [psI, hkl]
                        have HR1 := HR.out.next HB.out
                        have hfo := (HR1.ok.each it.p (by unfold psI; exact List.mem_map.2 ⟨it, hmem, rfl⟩))
                        obtain ⟨nk, hnk⟩ : ∃ m, m = it.p.1.length := ⟨_, rfl⟩
                        have hnks : nk ≤ 256 := by rw [hnk]; exact part_small hfo.1 hfo.2
                        obtain ⟨Ak, Bk', ca, cb, eK, eV, nd, _, _, hca, hcb⟩ := (HR1.each it hmem).nd hfo.1 nk hnk (by omega)
                        obtain ⟨_, _, hrow, hbl, hcell⟩ := HR1.row (by intro e; have := congrArg List.length e; rw [rowI_length] at this; simp only [List.length_nil] at this; omega)
                        injection hrow with hrow
                        injection hrow with h1 h2
                        subst h1
                        subst h2
                        have rd : ∀ j, j < 4 → wr.cell? ⟨b, off + (k * 4 + j), none⟩ = (itV it)[j]? := fun j hj => by
                          rw [hcell (k * 4 + j) (by rw [rowI_length]; omega), rowI_at hkl hj, hit]
                        have c0 : wr.cell? ⟨b, off + k * 4, none⟩ = some (.bool true) := by have := rd 0 (by omega); rw [Nat.add_zero] at this; exact this
                        have c1 : wr.cell? ⟨b, off + k * 4 + 1, none⟩ = some (.slice Ak nk ca) := by have := rd 1 (by omega); rw [← Nat.add_assoc] at this; rw [this, ← eK]; rfl
                        have c2 : wr.cell? ⟨b, off + k * 4 + 2, none⟩ = some (.slice Bk' nk cb) := by have := rd 2 (by omega); rw [← Nat.add_assoc] at this; rw [this, ← eV]; rfl
                        have c3 : wr.cell? ⟨b, off + k * 4 + 3, none⟩ = some (.slice none 0 0) := by have := rd 3 (by omega); rw [← Nat.add_assoc] at this; exact this
                        obtain ⟨wn, hwn⟩ : ∃ w, w = wr.alloc (.cells #[.bool true, .slice Ak nk ca, .slice Bk' nk cb, .slice none 0 0] 30) := ⟨_, rfl⟩
                        have hal : Below wr.heap.size wr wn := by rw [hwn]; exact (Below.refl _ _).alloc (Nat.le_refl _) _
                        have XN := Lib.hid (show Bk wn wr.heap.size 30 #[.bool true, .slice Ak nk ca, .slice Bk' nk cb, .slice none 0 0] by rw [hwn]; exact Bk.new wr _ _)
                        have HB2 := Lib.hid (HB.out.trans (hal.mono HB.out.size))
                        have X82 := Lib.hid (X8.out.bel HB2.out)
                        have HWN := Lib.hid hwn
                        have SK := nd.sk.bel hal
                        have HG := Lib.hid hpk
                        have HNK := Lib.hid hnk
                        clear rd hcell hbl eK eV nd HR1 hfo hmem hpk hnk hit hal hwn
                        go_upto_region 16 with fail
                        rw [← HWN.out]
                        obtain ⟨gn, hgn⟩ : ∃ g, g = wr.heap.size := ⟨_, rfl⟩
                        rw [← hgn] at XN ⊢
                        clear HWN c0 c1 c2 c3 hgn HB
                        clear wr
                        have n1 : wn.cell? ⟨gn, 1, none⟩ = some (.slice Ak nk ca) := XN.out.cell 1
                        have n8 : wn.cell? ⟨g8, 0, none⟩ = some (.string x) := X82.out.cell 0
                        have HAT := Lib.hid (show atTo (psI its) x (k + 1) = if geP it.p x then k else atTo (psI its) x k by rw [← HG.out]; rfl)
                        by_cases hpos : 0 < nk
                        · obtain ⟨bk, ok, rfl, hbk, hck⟩ := SK.str (k := 0) (by rw [← HNK.out]; exact hpos)
                          have hck : wn.cell? ⟨bk, ok, none⟩ = some (.string it.p.1[0]) := by simpa using hck
                          have HGE := Lib.hid (show geP it.p x = !(lessB x it.p.1[0]) by unfold geP; rw [decide_eq_true (by rw [← HNK.out]; exact hpos), getD_at (by rw [← HNK.out]; exact hpos)]; rfl)
                          generalize it.p.1[0] = kx at *
                          have j3 : decide ((nk : Int) > 0) = true := decide_eq_true (by omega)
                          have j4 : (0 : Int) < (nk : Int) := by omega
                          clear SK
                          rcases less3 x kx with ⟨l1, l2, l3⟩ | ⟨l1, l2, l3⟩ | ⟨l1, l2, l3⟩
                          all_goals
                            rw [l1] at HGE
                            go_quiet (fail)
                            generalize hW : wn.drewN nq = W2
                            have hal : Below wn.heap.size wn W2 := by rw [← hW]; exact below_drewN (Below.refl _ _) nq
                            have HB3 := Lib.hid (HB2.out.trans (hal.mono HB2.out.size))
                            clear hW hal l1
                            go_wp2_with fail
                            go_roundw
                            case rel => exact ⟨k + 1, by omega, by go_num, by rw [HAT.out, HGE.out]; rfl, HB3⟩
                            case measure => simp [intOf]; omega
                        · have j3 : decide ((nk : Int) > 0) = false := decide_eq_false (by omega)
                          have j4 : ¬ (0 : Int) < (nk : Int) := by omega
                          have HGE := Lib.hid (show geP it.p x = false by unfold geP; rw [decide_eq_false (by rw [← HNK.out]; exact hpos)]; rfl)
                          go_quiet (fail)
                          generalize hW : wn.drewN nq = W2
                          have hal : Below wn.heap.size wn W2 := by rw [← hW]; exact below_drewN (Below.refl _ _) nq
                          have HB3 := Lib.hid (HB2.out.trans (hal.mono HB2.out.size))
                          clear hW hal
                          go_wp2_with fail
                          go_roundw
                          case rel => exact ⟨k + 1, by omega, by go_num, by rw [HAT.out, HGE.out]; rfl, HB3⟩
                          case measure => simp [intOf]; omega
                      · obtain rfl : k = np := by omega
                        have j1 : ¬ (k : Int) < (k : Int) := by omega
                        go_wp2_with fail
                        go_meet
                        exact And.intro rfl HB
                  case rest =>
                    obtain ⟨rfl, HB⟩ := hcut
                    have HPc := Lib.hid (HP.out.bel HB.out)
                    have HRc := Lib.hid (HR.out.next HB.out)
                    have HMc := Lib.hid (HM.out.next HB.out)
                    have Xc := Lib.hid (X8.out.bel HB.out)
                    clear HP HR HM X8 HB
                    have hlen : (psI its).length = np := by have := HNP.out; simp [psI]; omega
                    obtain ⟨a, ha⟩ : ∃ a, a = atTo (psI its) x np := ⟨_, rfl⟩
                    rw [← ha]
                    have hpos : 0 < np := by rw [← hlen]; exact List.length_pos_iff.2 HRc.out.ok.some
                    have hal : a < np := by have := atTo_le (psI its) x np; omega
                    have HAT := Lib.hid (show atTo (psI its) x (psI its).length = a by rw [hlen, ha])
                    clear ha hlen
                    have hil2 : a < its.length := by have := HNP.out; omega
                    obtain ⟨it, hit⟩ : ∃ it, it = its[a] := ⟨_, rfl⟩
                    have hmem : it ∈ its := by rw [hit]; exact List.getElem_mem hil2
                    have HPA := Lib.hid (show (psI its).getD a ([], []) = it.p by rw [hit]; simp [psI, hil2])
                    have hfo := HRc.out.ok.each it.p (by unfold psI; exact List.mem_map.2 ⟨it, hmem, rfl⟩)
                    obtain ⟨na, hna⟩ : ∃ m, m = it.p.1.length := ⟨_, rfl⟩
                    have hnas : na ≤ 256 := by rw [hna]; exact part_small hfo.1 hfo.2
                    obtain ⟨Ak, Bk2, ca, cb, eK, eV, nd, eA, eB, hca, hcb⟩ := (HRc.out.each it hmem).nd hfo.1 na hna (by omega)
                    obtain ⟨_, _, hrow, hbl, hcell⟩ := HRc.out.row (by intro e; have := congrArg List.length e; rw [rowI_length] at this; simp only [List.length_nil] at this; omega)
                    injection hrow with hrow
                    injection hrow with h1 h2
                    subst h1
                    subst h2
                    have rd : ∀ j, j < 4 → wc.cell? ⟨b, off + (a * 4 + j), none⟩ = (itV it)[j]? := fun j hj => by
                      rw [hcell (a * 4 + j) (by rw [rowI_length]; omega), rowI_at hil2 hj, hit]
                    have RD := Lib.hid (show ∀ w1, Below wc.heap.size wc w1 → w1.cell? ⟨b, off + a * 4, none⟩ = some (.bool true) ∧ w1.cell? ⟨b, off + a * 4 + 1, none⟩ = some (.slice Ak na ca) ∧ w1.cell? ⟨b, off + a * 4 + 2, none⟩ = some (.slice Bk2 na cb) ∧ w1.cell? ⟨b, off + a * 4 + 3, none⟩ = some (.slice none 0 0) ∧ w1.cell? ⟨g8, 0, none⟩ = some (.string x) ∧ w1.cell? ⟨g8, 1, none⟩ = some (.string y) from fun w1 hb1 => by
                      have e : ∀ o, w1.cell? ⟨b, o, none⟩ = wc.cell? ⟨b, o, none⟩ := fun o => World.cell?_of_block (hb1.block b hbl)
                      have X1 := Xc.out.bel hb1
                      refine ⟨?_, ?_, ?_, ?_, X1.cell 0, X1.cell 1⟩
                      · rw [e]; have := rd 0 (by omega); rw [Nat.add_zero] at this; exact this
                      · rw [e]; have := rd 1 (by omega); rw [← Nat.add_assoc] at this; rw [this, ← eK]; rfl
                      · rw [e]; have := rd 2 (by omega); rw [← Nat.add_assoc] at this; rw [this, ← eV]; rfl
                      · rw [e]; have := rd 3 (by omega); rw [← Nat.add_assoc] at this; exact this)
                    have CS := Lib.hid (fun (w1 : World) (hb : Below wc.heap.size wc w1) => pset_any it.p.1 it.p.2 [] Ak Bk2 none na ca cb 0 0 x y w1 (nd.bel hb) hfo.1 eA eB (by omega))
                    obtain ⟨p2, hp2⟩ : ∃ p, p = grownP it.p x y := ⟨_, rfl⟩
                    have g1 : formB (ndP p2) = true := by rw [hp2]; exact leaf_set hfo.1 hx1 hx2 hx3
                    have g2 : sizeN (ndP p2) ≤ 378 := by rw [hp2]; exact size_set hfo.1 hfo.2 hx2 hx3
                    have HP2 := Lib.hid hp2
                    have g3 : p2.1.length ≤ 1000 := by
                      rw [hp2]
                      have h4 := setK_length (ks := it.p.1) (x := x) (form_keys hfo.1)
                      have h5 : (grownP it.p x y).1.length = (setK it.p.1 x).length := rfl
                      have h6 : (ndP it.p).keys.length = it.p.1.length := rfl
                      show (setK it.p.1 x).length ≤ 1000
                      rw [h4]
                      split <;> omega
                    have HG12 := Lib.hid (And.intro g1 g2)
                    have HSPL := Lib.hid (show stepP (psI its) x y = psI (its.take a) ++ cutP p2 ++ psI (its.drop (a + 1)) by
                      unfold stepP
                      rw [HAT.out, HPA.out, hp2]
                      unfold psI
                      rw [List.map_take, List.map_drop])
                    clear rd hcell hbl eK eV nd eA eB hfo hmem hna hp2 g1 g2 hit
                    go_upto_region 19 with fail
                    refine wp_region_list [some 96, some 97, some 98, some 99, some 100, some 101, some 102, some 103, some 104, some 12, none] (fun j => if j = 10 then 12 else 0) (sgF wc g8 b off a np cp x y (.agg #[.bool true, .slice Ak na ca, .slice Bk2 na cb, .slice none 0 0]) p2) (fun w1 => Below wc.heap.size wc w1) (by kernel_rfl) (Below.refl _ _).drew rfl (by kernel_rfl) (by kernel_rfl) (by kernel_rfl) (by kernel_rfl) (fun T hT => ?_)
                    simp only [List.filterMap_cons, List.filterMap_nil, id, putsS, Act.put, List.setIfInBounds_toArray, List.set_cons_zero, List.set_cons_succ] at hT
                    subst hT
                    refine ⟨⟨?_, ?_, ?_, ?_, ?_, ?_, ?_, ?_, ?_, ?_, ?_, trivial⟩, ?_⟩
                    · -- 0: Op.move t5
                      refine StepL.act ?_
                      intro f w1 hG hF K hK
                      clear hF
                      dsimp only at hK ⊢
                      go_simp
                      exact hK.out _ _ hG rfl (fun _ _ _ _ h => h)
                    · -- 1: Op.move t9
                      refine StepL.act ?_
                      intro f w1 hG hF K hK
                      clear hF
                      dsimp only at hK ⊢
                      go_simp
                      exact hK.out _ _ hG rfl (fun _ _ _ _ h => h)
                    · -- 2: Op.indexAddr 31 t96 t97
                      refine StepL.act ?_
                      intro f w1 hG hF K hK
                      have d0 : (sgF wc g8 b off a np cp x y (.agg #[.bool true, .slice Ak na ca, .slice Bk2 na cb, .slice none 0 0]) p2) 0 (f 96) (f 0) w1 := hF 0 (by kernel_rfl)
                      have d1 : (sgF wc g8 b off a np cp x y (.agg #[.bool true, .slice Ak na ca, .slice Bk2 na cb, .slice none 0 0]) p2) 1 (f 97) (f 0) w1 := hF 1 (by kernel_rfl)
                      clear hF
                      dsimp only at hK ⊢
                      generalize f 96 = v96 at *
                      generalize f 97 = v97 at *
                      subst d0
                      subst d1
                      go_simp
                      exact hK.out _ _ hG rfl (fun _ _ _ _ h => h)
                    · -- 3: Op.load 30 t98
                      refine StepL.act ?_
                      intro f w1 hG hF K hK
                      have d2 : (sgF wc g8 b off a np cp x y (.agg #[.bool true, .slice Ak na ca, .slice Bk2 na cb, .slice none 0 0]) p2) 2 (f 98) (f 0) w1 := hF 2 (by kernel_rfl)
                      clear hF
                      dsimp only at hK ⊢
                      generalize f 98 = v98 at *
                      subst d2
                      obtain ⟨y0, y1, y2, y3, _, _⟩ := RD.out w1 hG
                      go_simp
                      exact hK.out _ _ hG rfl (fun _ _ _ _ h => h)
                    · -- 4: Op.fieldAddr 33 t8 0
                      refine StepL.act ?_
                      intro f w1 hG hF K hK
                      clear hF
                      dsimp only at hK ⊢
                      go_simp
                      exact hK.out _ _ hG rfl (fun _ _ _ _ h => h)
                    · -- 5: Op.load 9 t100
                      refine StepL.act ?_
                      intro f w1 hG hF K hK
                      have d4 : (sgF wc g8 b off a np cp x y (.agg #[.bool true, .slice Ak na ca, .slice Bk2 na cb, .slice none 0 0]) p2) 4 (f 100) (f 0) w1 := hF 4 (by kernel_rfl)
                      clear hF
                      dsimp only at hK ⊢
                      generalize f 100 = v100 at *
                      subst d4
                      obtain ⟨_, _, _, _, y4, _⟩ := RD.out w1 hG
                      go_simp
                      exact hK.out _ _ hG rfl (fun _ _ _ _ h => h)
                    · -- 6: Op.fieldAddr 33 t8 1
                      refine StepL.act ?_
                      intro f w1 hG hF K hK
                      clear hF
                      dsimp only at hK ⊢
                      go_simp
                      exact hK.out _ _ hG rfl (fun _ _ _ _ h => h)
                    · -- 7: Op.load 9 t102
                      refine StepL.act ?_
                      intro f w1 hG hF K hK
                      have d6 : (sgF wc g8 b off a np cp x y (.agg #[.bool true, .slice Ak na ca, .slice Bk2 na cb, .slice none 0 0]) p2) 6 (f 102) (f 0) w1 := hF 6 (by kernel_rfl)
                      clear hF
                      dsimp only at hK ⊢
                      generalize f 102 = v102 at *
                      subst d6
                      obtain ⟨_, _, _, _, _, y5⟩ := RD.out w1 hG
                      go_simp
                      exact hK.out _ _ hG rfl (fun _ _ _ _ h => h)
                    · -- 8: Op.call ( value (Operand.func 6), args := #[t99, t101, t103], argTypes := #[30, 
                      refine StepL.act ?_
                      intro f w1 hG hF K hK
                      have d3 : (sgF wc g8 b off a np cp x y (.agg #[.bool true, .slice Ak na ca, .slice Bk2 na cb, .slice none 0 0]) p2) 3 (f 99) (f 0) w1 := hF 3 (by kernel_rfl)
                      have d5 : (sgF wc g8 b off a np cp x y (.agg #[.bool true, .slice Ak na ca, .slice Bk2 na cb, .slice none 0 0]) p2) 5 (f 101) (f 0) w1 := hF 5 (by kernel_rfl)
                      have d7 : (sgF wc g8 b off a np cp x y (.agg #[.bool true, .slice Ak na ca, .slice Bk2 na cb, .slice none 0 0]) p2) 7 (f 103) (f 0) w1 := hF 7 (by kernel_rfl)
                      clear hF
                      dsimp only at hK ⊢
                      generalize f 99 = v99 at *
                      generalize f 101 = v101 at *
                      generalize f 103 = v103 at *
                      subst d3 d5 d7
                      have CL := Lib.hid (CS.out w1 hG)
                      go_simp
                      refine CL.out.mono ?_
                      rintro e w2 ⟨⟨K2, V2, m2, rfl, ok2, ov2⟩, hb⟩
                      exact hK.out _ _ (hG.trans (hb.mono hG.size)) ⟨K2, V2, rfl, by rw [HP2.out]; exact LfR.of ok2 ov2⟩ (fun j _ u u' h => sgF.bel hb j u u' h)
                    · -- 9: Op.alloc 30
                      refine StepL.act ?_
                      intro f w1 hG hF K hK
                      clear hF
                      dsimp only at hK ⊢
                      go_simp
                      exact hK.out _ _ (hG.alloc hG.size _) ⟨w1.heap.size, _, rfl, hG.size, rfl, Bk.new w1 _ _⟩ (fun j _ u u' h => sgF.bel ((Below.refl _ _).alloc (Nat.le_refl _) _) j u u' h)
                    · -- 10: Op.store 30 t12 t104
                      intro f w1 hG hF K hK
                      have d9 : (sgF wc g8 b off a np cp x y (.agg #[.bool true, .slice Ak na ca, .slice Bk2 na cb, .slice none 0 0]) p2) 9 (f 12) (f 0) w1 := hF 9 (by kernel_rfl)
                      have d8 : (sgF wc g8 b off a np cp x y (.agg #[.bool true, .slice Ak na ca, .slice Bk2 na cb, .slice none 0 0]) p2) 8 (f 104) (f 0) w1 := hF 8 (by kernel_rfl)
                      clear hF
                      dsimp only at hK ⊢
                      generalize hf12 : f 12 = v12 at *
                      generalize hf104 : f 104 = v104 at *
                      obtain ⟨g, ds, rfl, hg, hds, hbk⟩ := d9
                      obtain ⟨K2, V2, rfl, R⟩ := d8
                      obtain ⟨x0, x1, x2, x3, rfl⟩ := array4 hds
                      have y0 : w1.cell? ⟨g, 0, none⟩ = some x0 := hbk.cell 0
                      have f0 := hbk.frozen 0
                      have y1 : w1.cell? ⟨g, 1, none⟩ = some x1 := hbk.cell 1
                      have f1 := hbk.frozen 1
                      have y2 : w1.cell? ⟨g, 2, none⟩ = some x2 := hbk.cell 2
                      have f2 := hbk.frozen 2
                      have y3 : w1.cell? ⟨g, 3, none⟩ = some x3 := hbk.cell 3
                      have f3 := hbk.frozen 3
                      have HRR := Lib.hid R
                      obtain ⟨A1, c1, rfl, _, _⟩ := own_shape R.ok
                      obtain ⟨A2, c2, rfl, _, _⟩ := own_shape R.ov
                      have HKK := Lib.hid ((((Kept1.set w1 g 0 (.bool true)).trans (Kept1.set _ g 1 (.slice A1 p2.1.length c1))).trans (Kept1.set _ g 2 (.slice A2 p2.2.length c2))).trans (Kept1.set _ g 3 (.slice none 0 0)))
                      have HBK := Lib.hid ((((hbk.put 0 (.bool true)).put 1 (.slice A1 p2.1.length c1)).put 2 (.slice A2 p2.2.length c2)).put 3 (.slice none 0 0))
                      have HBL := Lib.hid ((((hG.setCell (p := ⟨g, 0, none⟩) hg (.bool true)).setCell (p := ⟨g, 1, none⟩) hg (.slice A1 p2.1.length c1)).setCell (p := ⟨g, 2, none⟩) hg (.slice A2 p2.2.length c2)).setCell (p := ⟨g, 3, none⟩) hg (.slice none 0 0))
                      have HB0 := Lib.hid hbk
                      clear R hbk
                      go_simp
                      exact hK.out undef _ HBL.out ⟨g, _, _, hf12, hg, HBK.out, HRR.out.kept HB0.out HKK.out⟩ (fun j hj _ h => sgF.kept HB0.out HKK.out ⟨_, rfl, HBK.out⟩ j hj _ _ h)
                    intro f w19 hG hF
                    obtain ⟨g12, K2, V2, hp, hg, hbk, R⟩ : ∃ g K V, f 12 = .pointer (some ⟨g, 0, none⟩) ∧ wc.heap.size ≤ g ∧ Bk w19 g 30 #[.bool true, K, V, .slice none 0 0] ∧ LfR w19 p2 K V := hF 10 (by decide)
                    have HP19 := Lib.hid (HPc.out.bel hG)
                    have HR19 := Lib.hid (HRc.out.next hG)
                    have HM19 := Lib.hid (HMc.out.next hG)
                    have X12 := Lib.hid hbk
                    have R12 := Lib.hid R
                    have hg6 : g6 < w19.heap.size := HM19.out.mb.lt
                    clear hF hbk R hG
                    dsimp only
                    generalize f 12 = v12 at *
                    subst hp
                    generalize f 96 = v96
                    generalize f 97 = v97
                    generalize f 98 = v98
                    generalize f 99 = v99
                    generalize f 100 = v100
                    generalize f 101 = v101
                    generalize f 102 = v102
                    generalize f 103 = v103
                    generalize f 104 = v104
                    clear RD CS HPc HRc HMc Xc
                    obtain ⟨m2, hm2⟩ : ∃ m, m = p2.1.length := ⟨_, rfl⟩
                    have hm2b : m2 ≤ 1000 := by rw [hm2]; exact g3
                    obtain ⟨A1, B1, c1, d1, rfl, rfl, nd2, eA2, eB2, hc1, hd1⟩ := R12.out.nd HG12.out.1 m2 hm2 (by omega)
                    have HND := Lib.hid nd2
                    have HM2 := Lib.hid hm2
                    clear g3 hm2 nd2
                    have hcell : ∀ j, j < its.length * 4 → w19.cell? ⟨b, off + j, none⟩ = (rowI its)[j]? := by
                      obtain ⟨_, _, hrow, hbl, hcell⟩ := HR19.out.row (by intro e; have := congrArg List.length e; rw [rowI_length] at this; simp only [List.length_nil] at this; omega)
                      injection hrow with hrow
                      injection hrow with h1 h2
                      subst h1
                      subst h2
                      intro j hj
                      exact hcell j (by rw [rowI_length]; exact hj)
                    have hbb : b < w19.heap.size := by obtain ⟨cs, hcs⟩ := HR19.out.bk; exact hcs.lt
                    have hal20 : Below w19.heap.size w19 (w19.alloc (.cells #[] 30)) := (Below.refl _ _).alloc (Nat.le_refl _) _
                    have hnp40 : np ≤ 100 := by omega
                    obtain ⟨v20, w20, hr20, ho20, hb20, _⟩ := app_parts (w19.alloc (.cells #[] 30)) w19.heap.size 31 (by simp) (.slice (some ⟨w19.heap.size, 0, none⟩) 0 0) 0 [] (World.ownsRow_lit (size := 4) w19 #[] 0 (Nat.le_refl _) (by decide) rfl) b off a cp (its.take a) (by rw [List.length_take]; omega) (by omega) (fun j hj => by
                      have e : (w19.alloc (.cells #[] 30)).cell? ⟨b, off + j, none⟩ = w19.cell? ⟨b, off + j, none⟩ := World.cell?_of_block (hal20.block b hbb)
                      rw [e, hcell j (by omega), ← rowI_take its a (by omega), List.getElem?_take, if_pos hj]) (fun z hz => (HR19.out.each z (List.mem_of_mem_take hz)).bel hal20)
                    have B20 := Lib.hid (hal20.trans hb20)
                    have HO20 := Lib.hid (show w20.ownsRow w19.heap.size 30 4 v20 a (rowI (its.take a)) by rw [Nat.zero_add, List.nil_append] at ho20; exact ho20)
                    have HR20 := Lib.hid hr20
                    have X20 := Lib.hid (X12.out.bel B20.out)
                    have R20 := Lib.hid (R12.out.bel B20.out)
                    have ND20 := Lib.hid (HND.out.bel B20.out)
                    have HCE := Lib.hid hcell
                    clear hr20 ho20 hb20 hal20 hcell X12 R12 HND
                    have k1 : a ≤ cp := by omega
                    have k2 : ¬ cp = 0 := by omega
                    have k3 : ¬ cp = a := by omega
                    go_upto_region 21 with (at_builtin; refine Lib.wpList_append_run _ rfl _ _ _ _ rfl _ _ rfl rfl _ _ HR20.out ?_)
                    have y0 := X20.out.cell 0
                    have y1 := X20.out.cell 1
                    have y2 := X20.out.cell 2
                    have y3 := X20.out.cell 3
                    have CZ := Lib.hid (size_any true p2.1 p2.2 [] A1 B1 none m2 c1 m2 d1 0 0 w20 ND20.out)
                    obtain ⟨sz, hsz⟩ : ∃ s, s = sizeN (ndP p2) := ⟨_, rfl⟩
                    have CZ := Lib.hid (show Calls Try.prog 7 #[.agg #[.bool true, .slice A1 m2 c1, .slice B1 m2 d1, .slice none 0 0]] w20 fun e w' => e = .returned (.int .i64 (sz : Int)) ∧ Below w20.heap.size w20 w' by
                      have h := CZ.out
                      have h378 := HG12.out.2
                      rw [show sizeN ⟨true, p2.1, p2.2, []⟩ = sz from hsz.symm, show IntKind.i64.wrap (sz : Nat) = (sz : Nat) by rw [IntKind.wrap_i64]; omega] at h
                      exact h)
                    have HSZ := Lib.hid hsz
                    clear hsz
                    go_upto_if 112 with (go_at_call 7; refine CZ.out.mono ?_; rintro e w21 ⟨rfl, b21⟩; have B21 := Lib.hid (B20.out.trans (b21.mono B20.out.size)); have HO21 := Lib.hid (own_bel4 HO20.out b21); have X21 := Lib.hid (X20.out.bel b21); have R21 := Lib.hid (R20.out.bel b21); have ND21 := Lib.hid (ND20.out.bel b21); clear b21)
                    obtain ⟨B0, hB0⟩ : ∃ n, n = w19.heap.size := ⟨_, rfl⟩
                    have HBB := Lib.hid hB0
                    rw [← hB0] at HO21
                    go_cut [13] (fun s13 wx => ∃ its2 : List ItM, psI its2 = cutP p2 ∧ its2.length ≤ 2 ∧ Hid (∀ z ∈ its2, LfR wx z.p z.K z.V) ∧ Hid (wx.ownsRow B0 30 4 s13 (a + its2.length) (rowI (its.take a ++ its2))) ∧ Hid (Below w19.heap.size w19 wx))
                    case first =>
                      by_cases hbig : 256 < sz
                      · have j1 : (256 : Int) < (sz : Int) := by omega
                        have hsz2 : 256 < sizeN (ndP p2) := by rw [← HSZ.out]; exact hbig
                        have hm := mid_in HG12.out.1 hsz2
                        have h2 := size_two (ks := p2.1) (vs := p2.2) HG12.out.1 hsz2
                        have HC2 := Lib.hid (show cutP p2 = [(p2.1.take (midN (ndP p2)), p2.2.take (midN (ndP p2))), (p2.1.drop (midN (ndP p2)), p2.2.drop (midN (ndP p2)))] by unfold cutP; rw [if_pos hsz2])
                        have CH := halve_leaf p2.1 p2.2 [] A1 B1 none m2 c1 m2 d1 0 0 w21 ND21.out HG12.out.1 (by show 2 + 0 ≤ m2; have := HM2.out; omega)
                        rw [show partM ⟨true, p2.1, p2.2, []⟩ 0 (midN ⟨true, p2.1, p2.2, []⟩) = ndP (p2.1.take (midN (ndP p2)), p2.2.take (midN (ndP p2))) from part_lo p2, show partM ⟨true, p2.1, p2.2, []⟩ (midN ⟨true, p2.1, p2.2, []⟩ + betN true) m2 = ndP (p2.1.drop (midN (ndP p2)), p2.2.drop (midN (ndP p2))) by rw [HM2.out]; exact part_hi HG12.out.1] at CH
                        have hce := cut_each HG12.out.1 HG12.out.2
                        rw [HC2.out] at hce
                        obtain ⟨pa, hpa⟩ : ∃ p : PartM, p = (p2.1.take (midN (ndP p2)), p2.2.take (midN (ndP p2))) := ⟨_, rfl⟩
                        obtain ⟨pb, hpb⟩ : ∃ p : PartM, p = (p2.1.drop (midN (ndP p2)), p2.2.drop (midN (ndP p2))) := ⟨_, rfl⟩
                        rw [← hpa, ← hpb] at CH hce HC2
                        obtain ⟨nb, hnb⟩ : ∃ k, k = pb.1.length := ⟨_, rfl⟩
                        obtain ⟨na2, hna2⟩ : ∃ k, k = pa.1.length := ⟨_, rfl⟩
                        have hnb1 : 1 ≤ nb := by rw [hnb, hpb]; show 1 ≤ (p2.1.drop _).length; rw [List.length_drop]; omega
                        obtain ⟨kx, hkx⟩ : ∃ k, k = p2.1.getD (midN (ndP p2)) ByteArray.empty := ⟨_, rfl⟩
                        have hkb : pb.1[0]? = some kx := by
                          rw [hkx, hpb]
                          show (p2.1.drop _)[0]? = _
                          rw [List.getElem?_drop, Nat.add_zero, List.getElem?_eq_getElem hm.2, getD_at hm.2]
                        have CH := Lib.hid (show Calls Try.prog 8 #[.agg #[.bool true, .slice A1 m2 c1, .slice B1 m2 d1, .slice none 0 0]] w21 fun e w' => (∃ v1 v2, e = .returned (.tuple #[v1, .string kx, v2]) ∧ NodeV w21 (ndP pa) v1 w' ∧ NodeV w21 (ndP pb) v2 w') ∧ Below w21.heap.size w21 w' by rw [hkx]; exact CH)
                        have HEA := Lib.hid (hce pa (by simp))
                        have HEB := Lib.hid (hce pb (by simp))
                        have hnas2 : na2 ≤ 256 := by rw [hna2]; exact part_small HEA.out.1 HEA.out.2
                        have hnbs2 : nb ≤ 256 := by rw [hnb]; exact part_small HEB.out.1 HEB.out.2
                        have HKB := Lib.hid hkb
                        have HNB := Lib.hid hnb
                        have HNA := Lib.hid hna2
                        clear hsz2 hm h2 hce hpa hpb hkx hkb hnb hna2
                        have y0 := X21.out.cell 0
                        have y1 := X21.out.cell 1
                        have y2 := X21.out.cell 2
                        have y3 := X21.out.cell 3
                        go_wp2_with fail
                        refine CH.out.mono ?_
                        rintro e w22 ⟨⟨u1, u2, rfl, hu1, hu2⟩, b22⟩
                        obtain ⟨Ka, Va, rfl, La⟩ := nodeV_lf hu1
                        obtain ⟨Kb, Vb, rfl, Lb⟩ := nodeV_lf hu2
                        obtain ⟨Aa, Ba, ca2, da2, rfl, rfl, nda, _, _, hca2, hda2⟩ := La.nd HEA.out.1 na2 HNA.out (by omega)
                        obtain ⟨Ab, Bb, cb2, db2, rfl, rfl, ndb, _, _, hcb2, hdb2⟩ := Lb.nd HEB.out.1 nb HNB.out (by omega)
                        obtain ⟨w23, hw23⟩ : ∃ w, w = (w22.alloc (.cells #[.bool true, .slice Aa na2 ca2, .slice Ba na2 da2, .slice none 0 0] 30)).alloc (.cells #[.bool true, .slice Ab nb cb2, .slice Bb nb db2, .slice none 0 0] 30) := ⟨_, rfl⟩
                        have al23 : Below w22.heap.size w22 w23 := by rw [hw23]; exact ((Below.refl _ _).alloc (Nat.le_refl _) _).alloc (by simp) _
                        have HXa := Lib.hid (show Bk w23 w22.heap.size 30 #[.bool true, .slice Aa na2 ca2, .slice Ba na2 da2, .slice none 0 0] by rw [hw23]; exact (Bk.new w22 _ _).alloc _)
                        have HXb := Lib.hid (show Bk w23 (w22.heap.size + 1) 30 #[.bool true, .slice Ab nb cb2, .slice Bb nb db2, .slice none 0 0] by
                          rw [hw23]
                          have k1 := Bk.new (w22.alloc (.cells #[.bool true, .slice Aa na2 ca2, .slice Ba na2 da2, .slice none 0 0] 30)) 30 #[.bool true, .slice Ab nb cb2, .slice Bb nb db2, .slice none 0 0]
                          rw [World.size_alloc] at k1
                          exact k1)
                        have HLa := Lib.hid (La.bel al23)
                        have HLb := Lib.hid (Lb.bel al23)
                        have HDa := Lib.hid (nda.bel al23)
                        have HDb := Lib.hid (ndb.bel al23)
                        have H23 := Lib.hid (b22.trans (al23.mono b22.size))
                        have HW23 := Lib.hid hw23
                        clear hu1 hu2 La Lb nda ndb b22 al23 hw23 y0 y1 y2 y3 CH
                        go_upto_region 23 with fail
                        rw [← HW23.out]
                        generalize w22.heap.size = ga at *
                        clear HW23
                        obtain ⟨bb, ob, rfl, hbb2, hkc⟩ := HDb.out.sk.str (k := 0) (by rw [← HNB.out]; omega)
                        have hkc : w23.cell? ⟨bb, ob, none⟩ = some (.string kx) := by
                          rw [Nat.add_zero] at hkc
                          rw [hkc]
                          have h0 := HKB.out
                          have hl0 : 0 < pb.1.length := by rw [← HNB.out]; omega
                          rw [List.getElem?_eq_getElem hl0] at h0
                          rw [Option.some.inj h0]
                        have CKa := Lib.hid (fun (w1 : World) (hb : Below w23.heap.size w23 w1) => show Calls Try.prog 9 #[.agg #[.bool true, .slice Aa na2 ca2, .slice Ba na2 da2, .slice none 0 0]] w1 fun e w' => e = .returned (.int .i64 0) ∧ Below w1.heap.size w1 w' from by
                          have h := check_any (ndP pa) Aa Ba none na2 ca2 na2 da2 0 0 w1 (HDa.out.bel hb) (by have := HEA.out.2; omega)
                          rw [checkN_zero.2 ⟨HEA.out.1, HEA.out.2⟩] at h
                          exact h)
                        have CKb := Lib.hid (fun (w1 : World) (hb : Below w23.heap.size w23 w1) => show Calls Try.prog 9 #[.agg #[.bool true, .slice (some ⟨bb, ob, none⟩) nb cb2, .slice Bb nb db2, .slice none 0 0]] w1 fun e w' => e = .returned (.int .i64 0) ∧ Below w1.heap.size w1 w' from by
                          have h := check_any (ndP pb) (some ⟨bb, ob, none⟩) Bb none nb cb2 nb db2 0 0 w1 (HDb.out.bel hb) (by have := HEB.out.2; omega)
                          rw [checkN_zero.2 ⟨HEB.out.1, HEB.out.2⟩] at h
                          exact h)
                        have l1 : ((nb : Int) == 0) = false := by rw [beq_eq_false_iff_ne]; omega
                        have l2 : (0 : Int) < (nb : Int) := by omega
                        have ya0 := HXa.out.cell 0
                        have ya1 := HXa.out.cell 1
                        have ya2 := HXa.out.cell 2
                        have ya3 := HXa.out.cell 3
                        have yb1 := HXb.out.cell 1
                        go_wp2_with fail
                        refine (CKa.out w23 (Below.refl _ _)).mono ?_
                        rintro e w24 ⟨rfl, b24⟩
                        have HXb4 := Lib.hid (HXb.out.bel b24)
                        have H24 := Lib.hid b24
                        have yc0 := HXb4.out.cell 0
                        have yc1 := HXb4.out.cell 1
                        have yc2 := HXb4.out.cell 2
                        have yc3 := HXb4.out.cell 3
                        clear b24 ya0 ya1 ya2 ya3 yb1
                        go_wp2_with fail
                        refine (CKb.out w24 H24.out).mono ?_
                        rintro e w25 ⟨rfl, b25⟩
                        have H25 := Lib.hid (H24.out.trans (b25.mono H24.out.size))
                        have HXa5 := Lib.hid (HXa.out.bel H25.out)
                        have HXb5 := Lib.hid (HXb4.out.bel b25)
                        clear b25 yc0 yc1 yc2 yc3
                        go_upto_region 25 with fail
                        have ya0 := HXa5.out.cell 0
                        have ya1 := HXa5.out.cell 1
                        have ya2 := HXa5.out.cell 2
                        have ya3 := HXa5.out.cell 3
                        have yb0 := HXb5.out.cell 0
                        have yb1 := HXb5.out.cell 1
                        have yb2 := HXb5.out.cell 2
                        have yb3 := HXb5.out.cell 3
                        have H2125 := Lib.hid (H23.out.trans (H25.out.mono H23.out.size))
                        obtain ⟨o8, ho8⟩ : ∃ o, o = (#[.bool true, .slice Aa na2 ca2, .slice Ba na2 da2, .slice none 0 0, .bool true, .slice (some ⟨bb, ob, none⟩) nb cb2, .slice Bb nb db2, .slice none 0 0] : Array Value) := ⟨_, rfl⟩
                        have hal : Below w25.heap.size w25 (w25.alloc (.cells o8 30)) := (Below.refl _ _).alloc (Nat.le_refl _) _
                        have hb0 : B0 ≤ w25.heap.size := by have h1 := B21.out.size; have h2 := H2125.out.size; have := HBB.out; omega
                        have LA5 := Lib.hid (HLa.out.bel (H25.out.trans (hal.mono H25.out.size)))
                        have LB5 := Lib.hid (HLb.out.bel (H25.out.trans (hal.mono H25.out.size)))
                        have hnew : ∀ z ∈ [(⟨pa, .slice Aa na2 ca2, .slice Ba na2 da2⟩ : ItM), ⟨pb, .slice (some ⟨bb, ob, none⟩) nb cb2, .slice Bb nb db2⟩], LfR (w25.alloc (.cells o8 30)) z.p z.K z.V := fun z hz => by
                          simp only [List.mem_cons, List.not_mem_nil, or_false] at hz
                          rcases hz with rfl | rfl
                          · exact LA5.out
                          · exact LB5.out
                        obtain ⟨v26, w26, hr26, ho26, hb26, hl26⟩ := app_parts (w25.alloc (.cells o8 30)) B0 31 (by simp; omega) v20 a (its.take a) (own_bel4 (own_bel4 HO21.out H2125.out) hal) w25.heap.size 0 2 2 [⟨pa, .slice Aa na2 ca2, .slice Ba na2 da2⟩, ⟨pb, .slice (some ⟨bb, ob, none⟩) nb cb2, .slice Bb nb db2⟩] rfl (by omega) (fun j hj => by
                          rw [Nat.zero_add, (Bk.new w25 _ _).cell j, ← Array.getElem?_toList, ho8]; rfl) hnew
                        rw [ho8] at hr26
                        have HR26 := Lib.hid hr26
                        have HX26 := Lib.hid (fun z hz => hl26 _ _ _ (hnew z hz))
                        have HO26 := Lib.hid ho26
                        have HB26 := Lib.hid (show Below w19.heap.size w19 w26 from (B21.out.trans (H2125.out.mono B21.out.size)).trans ((hal.mono (by have h1 := B21.out.size; have h2 := H2125.out.size; omega)).trans (by rw [← HBB.out]; exact hb26)))
                        clear hl26 hr26 ho26 hb26 hal hb0 hnew ho8
                        go_wp2_with (at_builtin; refine Lib.wpList_append_run _ rfl _ _ _ _ rfl _ _ rfl rfl _ _ HR26.out ?_)
                        go_meet
                        exact ⟨[⟨pa, .slice Aa na2 ca2, .slice Ba na2 da2⟩, ⟨pb, .slice (some ⟨bb, ob, none⟩) nb cb2, .slice Bb nb db2⟩], by rw [HC2.out]; rfl, by simp, HX26, HO26, HB26⟩
                      · have j1 : ¬ (256 : Int) < (sz : Int) := by omega
                        have y0 := X21.out.cell 0
                        have y1 := X21.out.cell 1
                        have y2 := X21.out.cell 2
                        have y3 := X21.out.cell 3
                        have hal : Below w21.heap.size w21 (w21.alloc (.cells #[.bool true, .slice A1 m2 c1, .slice B1 m2 d1, .slice none 0 0] 30)) := (Below.refl _ _).alloc (Nat.le_refl _) _
                        have hb0 : B0 ≤ w21.heap.size := by have := B21.out.size; have := HBB.out; omega
                        obtain ⟨v26, w26, hr26, ho26, hb26, hl26⟩ := app_parts (w21.alloc (.cells #[.bool true, .slice A1 m2 c1, .slice B1 m2 d1, .slice none 0 0] 30)) B0 31 (by simp; omega) v20 a (its.take a) (own_bel4 HO21.out hal) w21.heap.size 0 1 1 [⟨p2, .slice A1 m2 c1, .slice B1 m2 d1⟩] rfl (by omega) (fun j hj => by
                          rw [Nat.zero_add, (Bk.new w21 _ _).cell j, ← Array.getElem?_toList]; rfl) (fun z hz => by
                          simp only [List.mem_singleton] at hz
                          subst hz
                          exact R21.out.bel hal)
                        have HR26 := Lib.hid hr26
                        have HX26 := Lib.hid (show ∀ z ∈ [(⟨p2, .slice A1 m2 c1, .slice B1 m2 d1⟩ : ItM)], LfR w26 z.p z.K z.V from fun z hz => by
                          simp only [List.mem_singleton] at hz
                          subst hz
                          exact hl26 _ _ _ (R21.out.bel hal))
                        have HO26 := Lib.hid ho26
                        have HB26 := Lib.hid (show Below w19.heap.size w19 w26 from B21.out.trans ((hal.mono (by have := B21.out.size; omega)).trans (by rw [← HBB.out]; exact hb26)))
                        clear hl26 hr26 ho26 hb26 hal hb0
                        go_wp2_with (at_builtin; refine Lib.wpList_append_run _ rfl _ _ _ _ rfl _ _ rfl rfl _ _ HR26.out ?_)
                        go_meet
                        exact ⟨[⟨p2, .slice A1 m2 c1, .slice B1 m2 d1⟩], by unfold cutP; rw [if_neg (by rw [← HSZ.out]; exact hbig)]; rfl, by simp, HX26, HO26, HB26⟩
                    case rest => as_aux_lemma =>
                      obtain ⟨its2, hi1, hi2, HI3, HO, HBc⟩ := hcut
                      have HI1 := Lib.hid hi1
                      obtain ⟨L2, hL2⟩ : ∃ k, k = its2.length := ⟨_, rfl⟩
                      rw [← hL2] at hi2 HO
                      have HL2 := Lib.hid hL2
                      clear hi1 hL2 X21 R21 ND21 B21 HO21 CZ X20 R20 ND20 HO20
                      have hit1 : ∀ z ∈ its, LfR wc z.p z.K z.V := fun z hz => (HR19.out.each z hz).bel HBc.out
                      have hce2 : ∀ j, j < its.length * 4 → wc.cell? ⟨b, off + j, none⟩ = (rowI its)[j]? := fun j hj => by
                        have e : wc.cell? ⟨b, off + j, none⟩ = w19.cell? ⟨b, off + j, none⟩ := World.cell?_of_block (HBc.out.block b hbb)
                        rw [e]; exact HCE.out j hj
                      have k4 : a + 1 ≤ cp := by omega
                      have k5 : a + 1 ≤ np := by omega
                      have hbB : B0 ≤ wc.heap.size := by have := HBc.out.size; have := HBB.out; omega
                      go_upto_region 27 with fail
                      go_cut [5] (fun s5 wx => ∃ v27 its3 : _, s5 = v27 ∧ psI its3 = stepP (psI its) x y ∧ Hid (∀ z ∈ its3, LfR wx z.p z.K z.V) ∧ Hid (∃ n3, wx.ownsRow B0 30 4 v27 n3 (rowI its3)) ∧ Hid (Below w19.heap.size w19 wx))
                      case first =>
                        have hrest : ∀ o' : Nat, (np - (a + 1) = 0 ∨ o' = off + (a + 1) * 4) → ∀ j, j < (np - (a + 1)) * 4 → wc.cell? ⟨b, o' + j, none⟩ = (rowI (its.drop (a + 1)))[j]? := fun o' ho' j hj => by
                          rcases ho' with h0 | h0
                          · omega
                          · rw [h0, Nat.add_assoc, hce2 ((a + 1) * 4 + j) (by have := HNP.out; omega), ← rowI_drop its (a + 1) (by have := HNP.out; omega), List.getElem?_drop]
                        have hlen3 : (its.drop (a + 1)).length = np - (a + 1) := by rw [List.length_drop]; have := HNP.out; omega
                        have happ := fun (o' c' m' : Nat) (hm' : m' = np - (a + 1)) (ho' : np - (a + 1) = 0 ∨ o' = off + (a + 1) * 4) => app_parts wc B0 31 hbB _ (a + L2) (its.take a ++ its2) HO.out b o' m' c' (its.drop (a + 1)) (hlen3.trans hm'.symm) (by omega) (fun j hj => hrest o' ho' j (by rw [← hm']; exact hj)) (fun z hz => hit1 z (List.mem_of_mem_drop hz))
                        have hfin : ∀ (w27 : World) (v27 : Value) (n27 : Nat), (w27.ownsRow B0 30 4 v27 n27 (rowI (its.take a ++ its2 ++ its.drop (a + 1)))) → Below B0 wc w27 → (∀ p K V, LfR wc p K V → LfR w27 p K V) → ∃ v, ∃ its3, v27 = v ∧ psI its3 = stepP (psI its) x y ∧ Hid (∀ z ∈ its3, LfR w27 z.p z.K z.V) ∧ Hid (∃ n3, w27.ownsRow B0 30 4 v n3 (rowI its3)) ∧ Hid (Below w19.heap.size w19 w27) := fun w27 v27 n27 h1 h2 h3 =>
                          ⟨v27, its.take a ++ its2 ++ its.drop (a + 1), rfl, by rw [HSPL.out, ← HI1.out]; unfold psI; rw [List.map_append, List.map_append], Lib.hid (fun z hz => by
                            rcases List.mem_append.1 hz with hz | hz
                            · rcases List.mem_append.1 hz with hz | hz
                              · exact h3 _ _ _ (hit1 z (List.mem_of_mem_take hz))
                              · exact h3 _ _ _ (HI3.out z hz)
                            · exact h3 _ _ _ (hit1 z (List.mem_of_mem_drop hz))), Lib.hid ⟨n27, h1⟩, Lib.hid (HBc.out.trans (by rw [← HBB.out]; exact h2))⟩
                        have HFIN := Lib.hid hfin
                        have HAPP := Lib.hid happ
                        clear hfin happ hrest hlen3
                        by_cases hcp : cp = a + 1
                        · subst hcp
                          obtain ⟨v27, w27, hr27, ho27, hb27, hl27⟩ := HAPP.out off 0 0 (by omega) (Or.inl (by omega))
                          have HR27 := Lib.hid hr27
                          have HF27 := Lib.hid (HFIN.out w27 v27 _ ho27 hb27 hl27)
                          clear hr27 ho27 hb27 hl27 HAPP HFIN
                          go_wp2_with (at_builtin; refine Lib.wpList_append_run _ rfl _ _ _ _ rfl _ _ rfl rfl _ _ HR27.out ?_)
                          go_meet
                          exact HF27.out
                        · obtain ⟨v27, w27, hr27, ho27, hb27, hl27⟩ := HAPP.out (off + (a + 1) * 4) (cp - (a + 1)) (np - (a + 1)) rfl (Or.inr rfl)
                          have HR27 := Lib.hid hr27
                          have HF27 := Lib.hid (HFIN.out w27 v27 _ ho27 hb27 hl27)
                          clear hr27 ho27 hb27 hl27 HAPP HFIN
                          go_wp2_with (at_builtin; refine Lib.wpList_append_run _ rfl _ _ _ _ rfl _ _ rfl rfl _ _ HR27.out ?_)
                          go_meet
                          exact HF27.out
                      case rest =>
                        obtain ⟨v27, its3, rfl, hps, HI4, HO4, HB4⟩ := hcut
                        obtain ⟨n3, ho3⟩ := HO4.out
                        obtain ⟨b3, cp3, rfl, hq3⟩ := PgQ.step HR19.out HB4.out hg6 (by rw [HBB.out]; exact Nat.le_refl _) hps hx1 hx2 hx3 ho3 HI4.out
                        have HR5 := Lib.hid hq3
                        have HP5 := Lib.hid (HP19.out.bel HB4.out)
                        have HM5 := Lib.hid (HM19.out.next HB4.out)
                        have HPS := Lib.hid hps
                        have HST := Lib.hid (step_flat (y := y) HR19.out.ok hx1)
                        clear ho3 hq3 hps HI4 HO4 HB4 HO HI3 HBc HCE HR19 HP19 HM19 hit1 hce2
                        obtain ⟨r, hr1, hrr⟩ := calm_pin HQ.out (a : Int) (by omega)
                        have HRR := Lib.hid hrr
                        have hap : (0 : Int) ≤ (a : Int) := by omega
                        have hrl := hrr.len
                        have CP1 := do_any W.heap.size gp 4 q v wc HP5.out (by have := HQ.out.len; omega) 1 (a : Int) (fun z hz => by rw [(HQ.out.each z hz).1]; omega)
                        have CP1 := Lib.hid CP1
                        have hsml : ∀ (k : Nat) (t : Bool), k ≤ 1 → ∀ z ∈ r ++ [(⟨(a : Int), k, t⟩ : HeldM)], z.pins ≤ 4611686018427387904 := fun k t hk z hz => by
                          rcases List.mem_append.1 hz with hz | hz
                          · rw [(HRR.out.each z hz).1]; omega
                          · simp only [List.mem_singleton] at hz
                            subst hz
                            show k ≤ _
                            omega
                        have HSML := Lib.hid hsml
                        have hlen1 : ∀ (k : Nat) (t : Bool), (r ++ [(⟨(a : Int), k, t⟩ : HeldM)]).length ≤ 1000000 := fun k t => by simp; omega
                        have HLEN1 := Lib.hid hlen1
                        clear hrr hsml hlen1
                        go_wp2_with fail
                        refine CP1.out.mono ?_
                        rintro e w28 ⟨W28, v28, rfl, o28, p28, k28⟩
                        rw [hr1] at p28
                        have HR6 := Lib.hid (HR5.out.kp (far_pg HP5.out g6) (fun j hj => HP5.out.far j hj) k28)
                        have HM6 := Lib.hid (HM5.out.pg HP5.out k28)
                        have HP6 := Lib.hid p28
                        obtain ⟨_, _, rfl, _, _⟩ := own_shape o28
                        clear o28 p28 k28 hr1 CP1
                        have CP2 := do_any W.heap.size gp 4 _ v28 w28 HP6.out (HLEN1.out _ _) 3 (a : Int) (HSML.out _ _ (by omega))
                        have CP2 := Lib.hid CP2
                        go_wp2_with fail
                        refine CP2.out.mono ?_
                        rintro e w29 ⟨W29, v29, rfl, o29, p29, k29⟩
                        rw [calm_chg HRR.out hap 3 (Or.inr rfl)] at p29
                        have HR7 := Lib.hid (HR6.out.kp (far_pg HP6.out g6) (fun j hj => HP6.out.far j hj) k29)
                        have HM7 := Lib.hid (HM6.out.pg HP6.out k29)
                        have HP7 := Lib.hid (show PgA W.heap.size gp 4 (r ++ [⟨(a : Int), 1, true⟩]) v29 w29 from p29)
                        obtain ⟨_, _, rfl, _, _⟩ := own_shape o29
                        clear o29 p29 k29 CP2
                        have CP3 := do_any W.heap.size gp 4 _ v29 w29 HP7.out (HLEN1.out _ _) 2 (a : Int) (HSML.out _ _ (by omega))
                        have CP3 := Lib.hid CP3
                        go_wp2_with fail
                        refine CP3.out.mono ?_
                        rintro e w30 ⟨W30, v30, rfl, o30, p30, k30⟩
                        rw [calm_chg HRR.out hap 2 (Or.inl rfl)] at p30
                        have HR8' := Lib.hid (HR7.out.kp (far_pg HP7.out g6) (fun j hj => HP7.out.far j hj) k30)
                        have HM8' := Lib.hid (HM7.out.pg HP7.out k30)
                        have HP8' := Lib.hid (show PgA W.heap.size gp 4 (r ++ [⟨(a : Int), 0, true⟩]) v30 w30 from p30)
                        obtain ⟨_, _, rfl, _, _⟩ := own_shape o30
                        clear o30 p30 k30 CP3
                        have CP4 := do_any W.heap.size gp 4 _ v30 w30 HP8'.out (HLEN1.out _ _) 4 0 (HSML.out _ _ (by omega))
                        have CP4 := Lib.hid CP4
                        have hfd : ∀ (x1 x2 x3 x4 : Value) (w : World), (Instr.field 40 (.agg #[x1, x2, x3, x4]) 3).run Try.prog w = .ok x4 w := fun _ _ _ _ _ => rfl
                        go_wp2_with fail
                        refine CP4.out.mono ?_
                        rintro e w31 ⟨W31, v31, rfl, o31, p31, k31⟩
                        obtain ⟨f1, f2, f3⟩ := calm_flush HRR.out 0
                        rw [f1] at p31
                        rw [f2] at o31
                        have HR9' := Lib.hid (HR8'.out.kp (far_pg HP8'.out g6) (fun j hj => HP8'.out.far j hj) k31)
                        have HM9' := Lib.hid (HM8'.out.pg HP8'.out k31)
                        have HP9' := Lib.hid p31
                        have HQ9 := Lib.hid f3
                        obtain ⟨_, _, rfl, _, _⟩ := own_shape o31
                        clear o31 p31 k31 CP4 f1 f2 f3
                        go_wp2_with fail
                        go_meet
                        exact ⟨_, v31, its3, K, V, b3, 0, n3, cp3, rfl, rfl, HQ9, HP9', HR9', Lib.hid (by rw [HPS.out, HST.out.1, HST.out.2]; exact HM9'.out)⟩
          case rest =>
            obtain ⟨q, v, its, K, V, b, off, np, cp, rfl, rfl, HQ, HP, HR, HM⟩ := hcut
            go_wp2_with fail
            go_roundw
            case rel => exact ⟨i + 1, q, v, its, K, V, b, off, np, cp, by omega, by go_num, rfl, HQ, HP, HR, HM⟩
            case measure => simp [intOf]; omega
        · have i2 : ¬ (i : Int) < 40 := by omega
          have i1 : (i : Int) < (n : Int) := by omega
          go_wp2_with fail
          go_meet
          exact ⟨i, its, K, V, b, off, np, cp, hi40, rfl, HR, HM⟩
      · have i1 : ¬ (i : Int) < (n : Int) := by omega
        go_wp2_with fail
        go_meet
        exact ⟨i, its, K, V, b, off, np, cp, hi40, rfl, HR, HM⟩
  case rest => as_aux_lemma =>
    obtain ⟨i, its, K, V, b, off, np, cp, hi40, rfl, HR, HM⟩ := hcut
    clear HP3 HR3
    obtain ⟨W4, hW4⟩ : ∃ w, w = wc := ⟨_, rfl⟩
    have HB := Lib.hid (show Below W.heap.size W wc from HR.out.bel)
    have hnp := Lib.hid HR.out.n
    have hnc := HR.out.nc
    have hsz := HR.out.sz
    have hcell : ∀ j, j < its.length * 4 → wc.cell? ⟨b, off + j, none⟩ = (rowI its)[j]? := by
      obtain ⟨_, _, hrow, hbl, hcell⟩ := HR.out.row (by
        intro e
        have h1 := congrArg List.length e
        rw [rowI_length] at h1
        simp only [List.length_nil] at h1
        have h2 := List.length_pos_iff.2 HR.out.ok.some
        have h3 : (psI its).length = its.length := by simp [psI]
        omega)
      injection hrow with hrow
      injection hrow with h1 h2
      subst h1
      subst h2
      intro j hj
      exact hcell j (by rw [rowI_length]; exact hj)
    have hbb : b < wc.heap.size := by obtain ⟨cs, hcs⟩ := HR.out.bk; exact hcs.lt
    have HCE := Lib.hid (show ∀ w1, Below wc.heap.size wc w1 → ∀ j, j < its.length * 4 → w1.cell? ⟨b, off + j, none⟩ = (rowI its)[j]? from fun w1 hb1 j hj => by
      have e : w1.cell? ⟨b, off + j, none⟩ = wc.cell? ⟨b, off + j, none⟩ := World.cell?_of_block (hb1.block b hbb)
      rw [e]; exact hcell j hj)
    clear hcell hW4
    clear W4
    obtain ⟨wg, hwg⟩ : ∃ w, w = wc.alloc (.cells #[.bool true, .slice none 0 0, .slice none 0 0, .slice none 0 0] 30) := ⟨_, rfl⟩
    have hag : Below wc.heap.size wc wg := by rw [hwg]; exact (Below.refl _ _).alloc (Nat.le_refl _) _
    have XG := Lib.hid (show Bk wg wc.heap.size 30 #[.bool true, .slice none 0 0, .slice none 0 0, .slice none 0 0] by rw [hwg]; exact Bk.new wc _ _)
    have HAG := Lib.hid hag
    have HWG := Lib.hid hwg
    clear hag hwg
    obtain ⟨B0, hB0⟩ : ∃ n, n = wc.heap.size := ⟨_, rfl⟩
    have HBB := Lib.hid hB0
    go_upto_region 34 with fail
    rw [← HWG.out, ← hB0]
    rw [← hB0] at XG
    clear hB0
    go_upto_block 4 with fail
    go_cut [] (fun wx => ∃ m K2 V2, Hid (Below wc.heap.size wc wx) ∧ Hid (GtR B0 m (flatK (psI its)) (flatV (psI its)) K2 V2 wx))
    case first =>
      go_wp2_with fail
      go_loopw [177] (fun s wr => ∃ (k m : Nat) (K2 V2 : Value), k ≤ np ∧ m ≤ k * 256 ∧ s = .int .i64 k ∧ Hid (Below wc.heap.size wc wr) ∧ Hid (GtR B0 m (flatK ((psI its).take k)) (flatV ((psI its).take k)) K2 V2 wr)) (fun s _ => np - (intOf s).toNat)
      case atStart => exact ⟨0, 0, _, _, Nat.zero_le _, Nat.zero_le _, rfl, HAG, Lib.hid (by rw [List.take_zero]; exact GtR.zero XG.out)⟩
      case round =>
        clear XG HAG
        obtain ⟨k, m, K2, V2, hk, hmk, rfl, HBr, HG⟩ := hrel
        by_cases hkn : k < np
        · have j1 : (k : Int) < (np : Int) := by omega
          have j2 : (0 : Int) ≤ (k : Int) := by omega
          go_upto_block 5 with fail
          go_cut [177] (fun s wx => s = .int .i64 k ∧ ∃ m' K' V', m' ≤ (k + 1) * 256 ∧ Hid (Below wc.heap.size wc wx) ∧ Hid (GtR B0 m' (flatK ((psI its).take (k + 1))) (flatV ((psI its).take (k + 1))) K' V' wx))
          case first =>
            have HR3 := Lib.hid (HR.out.next HBr.out)
            have hkl : k < its.length := by have := hnp.out; omega
            obtain ⟨it, hit⟩ : ∃ it, it = its[k] := ⟨_, rfl⟩
            have hmem : it ∈ its := by rw [hit]; exact List.getElem_mem hkl
            have hfo := HR.out.ok.each it.p (by unfold psI; exact List.mem_map.2 ⟨it, hmem, rfl⟩)
            obtain ⟨nk, hnk⟩ : ∃ m, m = it.p.1.length := ⟨_, rfl⟩
            have hnks : nk ≤ 256 := by rw [hnk]; exact part_small hfo.1 hfo.2
            have hnkv : it.p.2.length = it.p.1.length := ((leaf_form it.p.1 it.p.2).1 hfo.1).2.1
            obtain ⟨Ak, Bk2, ca, cb, eK, eV, nd, _, _, hca, hcb⟩ := (HR3.out.each it hmem).nd hfo.1 nk hnk (by omega)
            have HSK := Lib.hid (show flatK ((psI its).take (k + 1)) = flatK ((psI its).take k) ++ it.p.1 ∧ flatV ((psI its).take (k + 1)) = flatV ((psI its).take k) ++ it.p.2 by
              have hl : k < (psI its).length := by simp [psI]; exact hkl
              rw [take_next hl, flatK_append, flatV_append, flatK_one, flatV_one]
              have e : (psI its)[k] = it.p := by rw [hit]; simp [psI]
              rw [e]
              exact ⟨rfl, rfl⟩)
            have rd : ∀ j, j < 4 → wr.cell? ⟨b, off + (k * 4 + j), none⟩ = (itV it)[j]? := fun j hj => by
              rw [HCE.out wr HBr.out (k * 4 + j) (by omega), rowI_at hkl hj, hit]
            have c0 : wr.cell? ⟨b, off + k * 4, none⟩ = some (.bool true) := by have := rd 0 (by omega); rw [Nat.add_zero] at this; exact this
            have c1 : wr.cell? ⟨b, off + k * 4 + 1, none⟩ = some (.slice Ak nk ca) := by have := rd 1 (by omega); rw [← Nat.add_assoc] at this; rw [this, ← eK]; rfl
            have c2 : wr.cell? ⟨b, off + k * 4 + 2, none⟩ = some (.slice Bk2 nk cb) := by have := rd 2 (by omega); rw [← Nat.add_assoc] at this; rw [this, ← eV]; rfl
            have c3 : wr.cell? ⟨b, off + k * 4 + 3, none⟩ = some (.slice none 0 0) := by have := rd 3 (by omega); rw [← Nat.add_assoc] at this; exact this
            obtain ⟨wn, hwn⟩ : ∃ w, w = wr.alloc (.cells #[.bool true, .slice Ak nk ca, .slice Bk2 nk cb, .slice none 0 0] 30) := ⟨_, rfl⟩
            have hal : Below wr.heap.size wr wn := by rw [hwn]; exact (Below.refl _ _).alloc (Nat.le_refl _) _
            have XN := Lib.hid (show Bk wn wr.heap.size 30 #[.bool true, .slice Ak nk ca, .slice Bk2 nk cb, .slice none 0 0] by rw [hwn]; exact Bk.new wr _ _)
            have HNDn := Lib.hid (nd.bel hal)
            have HALn := Lib.hid hal
            have HWN := Lib.hid hwn
            have HFO := Lib.hid hfo
            have HNK := Lib.hid hnk
            have HNV := Lib.hid hnkv
            clear hal hwn rd eK eV nd hfo hmem hit hnk hnkv
            go_upto_region 37 with fail
            rw [← HWN.out]
            obtain ⟨gn, hgn⟩ : ∃ g, g = wr.heap.size := ⟨_, rfl⟩
            have HGN := Lib.hid hgn
            rw [← hgn] at XN ⊢
            have hgnl := XN.out.lt
            clear HWN c0 c1 c2 c3 hgn
            have x0 := XN.out.cell 0
            have x1 := XN.out.cell 1
            have x2 := XN.out.cell 2
            have x3 := XN.out.cell 3
            have CE := Lib.hid (show Calls Try.prog 11 #[.agg #[.bool true, .slice Ak nk ca, .slice Bk2 nk cb, .slice none 0 0]] wn fun e w' => (∃ g, e = .returned (.tuple #[.slice (some ⟨g, 0, none⟩) 256 256, .int .i64 0]) ∧ Seg w' (some ⟨g, 0, none⟩) (u8s (encB (ndP it.p)))) ∧ Below wn.heap.size wn w' from by
              refine (nencode_any (ndP it.p) Ak Bk2 none nk ca nk cb 0 0 wn HNDn.out HFO.out.1 HFO.out.2).mono ?_
              rintro e w' ⟨⟨g, he, _, hE⟩, hb⟩
              refine ⟨⟨g, he, ?_⟩, hb⟩
              rw [show encB (ndP it.p) = padB (encTo (ndP it.p) nk) by rw [HNK.out]; rfl]
              exact Seg.of_block hE (fun i hi => by simp))
            go_wp2_with fail
            refine CE.out.mono ?_
            rintro e w5 ⟨⟨g5, rfl, s5⟩, b5⟩
            have HB5 := Lib.hid b5
            have CD := Lib.hid (dec_any (some ⟨g5, 0, none⟩) 256 256 (encB (ndP it.p)) (encB_length HFO.out.1 HFO.out.2).symm (Nat.le_refl _) (encB_lt (ndP it.p) HFO.out.1) w5 s5)
            clear b5 s5 CE x0 x1 x2 x3
            go_wp2_with fail
            refine CD.out.mono ?_
            rintro e w6 ⟨b6, hpost⟩
            rw [if_pos (encB_length HFO.out.1 HFO.out.2), nodeP_enc (ndP it.p) HFO.out.1 HFO.out.2] at hpost
            obtain ⟨Am, Cm, Dm, cm, dm, em, rfl, hnd, hfA, hfC⟩ := hpost
            have hnd : Nd w6 ⟨true, it.p.1, it.p.2, []⟩ Am Cm Dm nk cm nk dm 0 em := by
              have h := hnd
              rw [show (ndP it.p).keys.length = nk from HNK.out.symm, show (ndP it.p).vals.length = nk by rw [HNK.out]; exact HNV.out] at h
              exact h
            rw [show (ndP it.p).leaf = true from rfl, show (ndP it.p).keys.length = nk from HNK.out.symm, show (ndP it.p).vals.length = nk by rw [HNK.out]; exact HNV.out, show (ndP it.p).kids.length = 0 from rfl]
            have hB6 : Below wn.heap.size wn w6 := HB5.out.trans (b6.mono HB5.out.size)
            have hsrc : ∀ (Ax : Option Addr) (l : List ByteArray), Seg w6 Ax (strV l) → (∀ a, Ax = some a → w5.heap.size ≤ a.block) → ∃ s1 o1, wn.heap.size ≤ s1 ∧ s1 < w6.heap.size + 1 ∧ (0 < l.length → Ax = some ⟨s1, o1, none⟩ ∧ s1 < w6.heap.size ∧ ∀ j (h : j < l.length), w6.cell? ⟨s1, o1 + j, none⟩ = some (.string l[j])) := fun Ax l hs hf => by
              by_cases h0 : 0 < l.length
              · obtain ⟨b1, o1, e1, hl1, _⟩ := hs.str h0
                refine ⟨b1, o1, ?_, by omega, fun _ => ⟨e1, hl1, fun j hj => ?_⟩⟩
                · have := hf _ e1; have := HB5.out.size; exact Nat.le_trans this (hf _ e1)
                · obtain ⟨b2, o2, e2, _, hc⟩ := hs.str hj
                  rw [e1] at e2
                  injection e2 with e2
                  injection e2 with h1 h2
                  rw [h1, h2]
                  exact hc
              · exact ⟨w6.heap.size, 0, hB6.size, by omega, fun h => absurd h h0⟩
            obtain ⟨s1, o1, hs1, hs1b, hc1⟩ := hsrc Am it.p.1 hnd.sk hfA
            obtain ⟨s2, o2, hs2, hs2b, hc2⟩ := hsrc Cm it.p.2 hnd.sv hfC
            obtain ⟨NN, hNN⟩ : ∃ N, N = (#[.bool true, .slice Am nk cm, .slice Cm nk dm, .slice Dm 0 em] : Array Value) := ⟨_, rfl⟩
            obtain ⟨w7, hw7⟩ : ∃ w, w = w6.alloc (.cells #[.bool true, .slice Am nk cm, .slice Cm nk dm, .slice Dm 0 em] 30) := ⟨_, rfl⟩
            have hal7 : Below w6.heap.size w6 w7 := by rw [hw7]; exact (Below.refl _ _).alloc (Nat.le_refl _) _
            have XM := Lib.hid (show Bk w7 w6.heap.size 30 #[.bool true, .slice Am nk cm, .slice Cm nk dm, .slice Dm 0 em] by rw [hw7]; exact Bk.new w6 _ _)
            have sz7 : w7.heap.size = w6.heap.size + 1 := by rw [hw7]; simp
            have ND7 := Lib.hid (hnd.bel hal7)
            have hBn7 : Below wn.heap.size wn w7 := hB6.trans (hal7.mono hB6.size)
            have NDo7 := Lib.hid (HNDn.out.bel hBn7)
            have XN7 := Lib.hid (XN.out.bel hBn7)
            have HC7 := Lib.hid (And.intro hc1 hc2)
            have HBn7 := Lib.hid hBn7
            have HW7 := Lib.hid hw7
            have HSZ7 := Lib.hid sz7
            have HAL7 := Lib.hid hal7
            clear hsrc hnd hfA hfC hc1 hc2 hw7 hal7 hBn7 hB6 b6 sz7 XN
            go_upto_region 39 with fail
            rw [← HW7.out]
            obtain ⟨gm, hgm⟩ : ∃ g, g = w6.heap.size := ⟨_, rfl⟩
            rw [← hgm] at XM ⊢
            have HGM := Lib.hid hgm
            clear hgm HW7
            have x0 := XN7.out.cell 0
            have x1 := XN7.out.cell 1
            have x2 := XN7.out.cell 2
            have x3 := XN7.out.cell 3
            have y0 := XM.out.cell 0
            have y1 := XM.out.cell 1
            have y2 := XM.out.cell 2
            have y3 := XM.out.cell 3
            have SM := Lib.hid (nsame_any true it.p.1 it.p.2 [] Am Cm Dm Ak Bk2 none nk cm nk dm 0 em ca cb 0 w7 ND7.out NDo7.out)
            go_wp2_with fail
            refine SM.out.mono ?_
            rintro e w8 ⟨rfl, b8⟩
            have HB8 := Lib.hid b8
            have XM8 := Lib.hid (XM.out.bel b8)
            clear b8 SM x0 x1 x2 x3 y0 y1 y2 y3
            have y1 := XM8.out.cell 1
            go_upto_block 6 with fail
            clear y1
            have hn8 : Below wn.heap.size wn w8 := HBn7.out.trans (HB8.out.mono HBn7.out.size)
            have hr8 : Below wr.heap.size wr w8 := HALn.out.trans (hn8.mono HALn.out.size)
            have hc8 : Below wc.heap.size wc w8 := HBr.out.trans (hr8.mono HBr.out.size)
            have HC8 := Lib.hid hc8
            have hwn := HALn.out.size
            have hw8 := HB8.out.size
            have hgb := HG.out.bk.lt
            have hnw := hn8.size
            have hgnr := HGN.out
            have HG8 := Lib.hid (HG.out.next hr8)
            have hB0 := HBB.out
            have hszw := hc8.size
            have hs7 := HSZ7.out
            have hgm := HGM.out
            have hn0 : wn.heap.size ≤ s1 ∧ wn.heap.size ≤ s2 ∧ wn.heap.size ≤ gm := by
              refine ⟨hs1, hs2, ?_⟩
              rw [hgm]
              have := HBn7.out.size
              have := HAL7.out.size
              omega
            have hlow : ∀ (U : Value) (xs : List Value) (q : Nat), w8.ownsRow B0 9 1 U m xs → (∀ b, U.ownBlock = some b → b < wr.heap.size) → wn.heap.size ≤ q → U.ownBlock ≠ some q := fun U xs q _ h1 h2 e => by have := h1 q e; omega
            have hK1 := fun b e => (own_ge (b := b) HG.out.ok e).2
            have hV1 := fun b e => (own_ge (b := b) HG.out.ov e).2
            by_cases h0 : nk = 0
            · have e1 : it.p.1 = [] := List.eq_nil_of_length_eq_zero (by rw [← HNK.out]; exact h0)
              have e2 : it.p.2 = [] := List.eq_nil_of_length_eq_zero (by rw [HNV.out, ← HNK.out]; exact h0)
              have HSK0 := Lib.hid (show flatK ((psI its).take (k + 1)) = flatK ((psI its).take k) ∧ flatV ((psI its).take (k + 1)) = flatV ((psI its).take k) by
                rw [HSK.out.1, HSK.out.2, e1, e2, List.append_nil, List.append_nil]
                exact ⟨rfl, rfl⟩)
              have q1 : ¬ (0 : Int) < (nk : Int) := by omega
              clear hlow hK1 hV1 hn0 hs1b hs2b e1 e2 hB0 hs7 hgm hgnr hszw hwn hw8 hgb hnw hgnl hc8 hr8 hn8
              go_wp2_with fail
              go_loopw [206] (fun s w => s = .int .i64 0 ∧ w = w8) (fun _ _ => 0)
              case atStart => exact ⟨rfl, rfl⟩
              case round =>
                obtain ⟨rfl, rfl⟩ := hrel
                go_wp2_with fail
                go_meet
                exact And.intro rfl ⟨m, K2, V2, by omega, HC8, by rw [HSK0.out.1, HSK0.out.2]; exact HG8⟩
            · have hc1 := HC7.out.1 (by rw [← HNK.out]; omega)
              have hc2 := HC7.out.2 (by rw [HNV.out, ← HNK.out]; omega)
              obtain ⟨rfl, hl1, hce1⟩ := hc1
              obtain ⟨rfl, hl2, hce2⟩ := hc2
              have hw68 : Below w6.heap.size w6 w8 := HAL7.out.trans (HB8.out.mono HAL7.out.size)
              have HCE1 := Lib.hid (show ∀ j (h : j < it.p.1.length) (w1 : World), w1.heap[s1]? = w8.heap[s1]? → w1.cell? ⟨s1, o1 + j, none⟩ = some (.string it.p.1[j]) from fun j h w1 hh => by
                rw [← hce1 j h]
                exact (World.cell?_of_block hh).trans (World.cell?_of_block (hw68.block s1 hl1)))
              have HCE2 := Lib.hid (show ∀ j (h : j < it.p.2.length) (w1 : World), w1.heap[s2]? = w8.heap[s2]? → w1.cell? ⟨s2, o2 + j, none⟩ = some (.string it.p.2[j]) from fun j h w1 hh => by
                rw [← hce2 j h]
                exact (World.cell?_of_block hh).trans (World.cell?_of_block (hw68.block s2 hl2)))
              have HL := Lib.hid (show LpR wc w8 B0 gm s1 s2 m #[.bool true, .slice (some ⟨s1, o1, none⟩) nk cm, .slice (some ⟨s2, o2, none⟩) nk dm, .slice Dm 0 em] (flatK ((psI its).take k) ++ it.p.1.take 0) (flatV ((psI its).take k) ++ it.p.2.take 0) K2 V2 w8 from by
                rw [List.take_zero, List.append_nil, List.take_zero, List.append_nil]
                exact ⟨by rw [hB0]; exact hc8, XM8.out, rfl, rfl, by omega, by omega, HG8.out, hlow _ _ _ HG8.out.ok hK1 hn0.1, hlow _ _ _ HG8.out.ok hK1 hn0.2.1, hlow _ _ _ HG8.out.ov hV1 hn0.1, hlow _ _ _ HG8.out.ov hV1 hn0.2.1, by omega, by omega, by omega, by omega⟩)
              clear hlow hK1 hV1 hn0 hs1b hs2b hl1 hl2 hce1 hce2 hw68 HG8 HC8 hc8 hr8 hn8 hB0 hs7 hgm hgnr hszw hwn hw8 hgb hnw hgnl
              go_wp2_with fail
              go_loopw [206] (fun s w => ∃ (j m2 : Nat) (K3 V3 : Value), j ≤ nk ∧ m2 ≤ k * 256 + j ∧ s = .int .i64 j ∧ Hid (LpR wc w8 B0 gm s1 s2 m2 #[.bool true, .slice (some ⟨s1, o1, none⟩) nk cm, .slice (some ⟨s2, o2, none⟩) nk dm, .slice Dm 0 em] (flatK ((psI its).take k) ++ it.p.1.take j) (flatV ((psI its).take k) ++ it.p.2.take j) K3 V3 w)) (fun s _ => nk - (intOf s).toNat)
              case atStart => exact ⟨0, m, K2, V2, Nat.zero_le _, by omega, rfl, HL⟩
              case round =>
                clear HL
                obtain ⟨j, m2, K3, V3, hj, hm2, rfl, HS⟩ := hrel
                by_cases hjn : j < nk
                · have hjk : j < it.p.1.length := by rw [← HNK.out]; exact hjn
                  have hjv : j < it.p.2.length := by rw [HNV.out, ← HNK.out]; exact hjn
                  have HT := Lib.hid (And.intro (take_next hjk) (take_next hjv))
                  obtain ⟨xk, hxk⟩ : ∃ x, x = it.p.1[j] := ⟨_, rfl⟩
                  obtain ⟨xv, hxv⟩ : ∃ x, x = it.p.2[j] := ⟨_, rfl⟩
                  have HC1 := Lib.hid (HCE1.out j hjk)
                  have HC2 := Lib.hid (HCE2.out j hjv)
                  rw [← hxk] at HC1 HT
                  rw [← hxv] at HC2 HT
                  obtain ⟨ks2, hks2⟩ : ∃ l, l = flatK ((psI its).take k) ++ it.p.1.take j := ⟨_, rfl⟩
                  obtain ⟨vs2, hvs2⟩ : ∃ l, l = flatV ((psI its).take k) ++ it.p.2.take j := ⟨_, rfl⟩
                  rw [← hks2, ← hvs2] at HS
                  have HNX := Lib.hid (show flatK ((psI its).take k) ++ it.p.1.take (j + 1) = ks2 ++ [xk] ∧ flatV ((psI its).take k) ++ it.p.2.take (j + 1) = vs2 ++ [xv] by
                    rw [HT.out.1, HT.out.2, hks2, hvs2, List.append_assoc, List.append_assoc]
                    exact ⟨rfl, rfl⟩)
                  have hks3 : np ≤ 100 := by omega
                  obtain ⟨Ak2, ck2, rfl, _, _⟩ := own_shape HS.out.gt.ok
                  obtain ⟨Av2, dv2, rfl, _, _⟩ := own_shape HS.out.gt.ov
                  clear hks2 hvs2 hxk hxv hjk hjv HT
                  have q1 : (j : Int) < (nk : Int) := by omega
                  have q2 : (0 : Int) ≤ (j : Int) := by omega
                  have HN1 := Lib.hid (And.intro HS.out.gt.ap (And.intro HS.out.k1 HS.out.k2))
                  have G1 := Lib.hid (show GsG wc w8 B0 gm B0 s1 s2 #[.bool true, .slice (some ⟨s1, o1, none⟩) nk cm, .slice (some ⟨s2, o2, none⟩) nk dm, .slice Dm 0 em] (.slice Av2 m2 dv2) m2 (strV vs2) (Value.ownBlock (.slice Ak2 m2 ck2)) wr.drew from
                    ⟨HS.out.bel.drew, HS.out.nb, HS.out.r1, HS.out.r2, HS.out.l1, HS.out.l2, HS.out.gt.bk.lt, own_belS HS.out.gt.ov (Below.refl _ _).drew, fun b e => own_ge HS.out.gt.ok e, Nat.le_refl _, HS.out.ne, HS.out.n1, HS.out.n2, HS.out.sz⟩)
                  have H1 := Lib.hid (show ∀ m', m' < 11 → grH B0 B0 30 9 (fun v => #[.bool true, v, .slice Av2 m2 dv2, .slice none 0 0]) (.slice Ak2 m2 ck2) m2 (strV ks2) m' wr.drew from fun m' _ => by
                    unfold grH
                    split
                    · exact own_belS HS.out.gt.ok (Below.refl _ _).drew
                    · exact HS.out.gt.bk
                    · trivial)
                  go_wp2_with fail
                  refine wp_region_late [some 209, some 210, some 211, some 212, some 213, some 214, some 215, some 216, some 217, some 218, none] (fun _ => 0) (gsF B0 gm B0 1 1 30 9 (fun v => #[.bool true, v, .slice Av2 m2 dv2, .slice none 0 0]) (.slice Ak2 m2 ck2) (.slice (some ⟨s1, o1, none⟩) nk cm) (.int .i64 (j : Int)) (.pointer (some ⟨s1, o1 + j, none⟩)) (.string xk) (fun v => Apart v (.slice Av2 m2 dv2) ∧ v.ownBlock ≠ some s1 ∧ v.ownBlock ≠ some s2) m2 (strV ks2)) (GsG wc w8 B0 gm B0 s1 s2 #[.bool true, .slice (some ⟨s1, o1, none⟩) nk cm, .slice (some ⟨s2, o2, none⟩) nk dm, .slice Dm 0 em] (.slice Av2 m2 dv2) m2 (strV vs2) (Value.ownBlock (.slice Ak2 m2 ck2))) (grH B0 B0 30 9 (fun v => #[.bool true, v, .slice Av2 m2 dv2, .slice none 0 0]) (.slice Ak2 m2 ck2) m2 (strV ks2)) (by kernel_rfl) G1.out H1.out rfl (by kernel_rfl) (by kernel_rfl) (by kernel_rfl) (by kernel_rfl) (fun T hT => ?_)
                  simp only [List.filterMap_cons, List.filterMap_nil, id, putsS, Act.put, List.setIfInBounds_toArray, List.set_cons_zero, List.set_cons_succ] at hT
                  subst hT
                  refine ⟨⟨?_, ?_, ?_, ?_, ?_, ?_, ?_, ?_, ?_, ?_, ?_, trivial⟩, ?_⟩
                  · -- 0: Op.fieldAddr 30 t17 1
                    intro f w1 hG hO hL hF K hK
                    clear hF hO hL
                    dsimp only at hK ⊢
                    go_simp
                    exact hK.out _ _ hG rfl (fun _ _ _ h => h) (fun _ _ h => h)
                  · -- 1: Op.load 27 t209
                    intro f w1 hG hO hL hF K hK
                    have l10 : (grH B0 B0 30 9 (fun v => #[.bool true, v, .slice Av2 m2 dv2, .slice none 0 0]) (.slice Ak2 m2 ck2) m2 (strV ks2)) 10 w1 := hL 10 (Nat.le_of_ble_eq_true (by kernel_rfl)) (by kernel_rfl)
                    have d0 : (gsF B0 gm B0 1 1 30 9 (fun v => #[.bool true, v, .slice Av2 m2 dv2, .slice none 0 0]) (.slice Ak2 m2 ck2) (.slice (some ⟨s1, o1, none⟩) nk cm) (.int .i64 (j : Int)) (.pointer (some ⟨s1, o1 + j, none⟩)) (.string xk) (fun v => Apart v (.slice Av2 m2 dv2) ∧ v.ownBlock ≠ some s1 ∧ v.ownBlock ≠ some s2) m2 (strV ks2)) 0 (f 209) (f 0) w1 := hF 0 (by kernel_rfl)
                    clear hF hO hL
                    dsimp only at hK ⊢
                    generalize hf209 : f 209 = v209 at *
                    subst d0
                    have y : w1.cell? ⟨B0, 1, none⟩ = some (.slice Ak2 m2 ck2) := Bk.cell l10 1
                    go_simp
                    exact hK.out _ _ hG rfl (fun _ _ _ h => h) (fun _ _ h => h)
                  · -- 2: Op.fieldAddr 30 t22 1
                    intro f w1 hG hO hL hF K hK
                    clear hF hO hL
                    dsimp only at hK ⊢
                    go_simp
                    exact hK.out _ _ hG rfl (fun _ _ _ h => h) (fun _ _ h => h)
                  · -- 3: Op.load 27 t211
                    intro f w1 hG hO hL hF K hK
                    have d2 : (gsF B0 gm B0 1 1 30 9 (fun v => #[.bool true, v, .slice Av2 m2 dv2, .slice none 0 0]) (.slice Ak2 m2 ck2) (.slice (some ⟨s1, o1, none⟩) nk cm) (.int .i64 (j : Int)) (.pointer (some ⟨s1, o1 + j, none⟩)) (.string xk) (fun v => Apart v (.slice Av2 m2 dv2) ∧ v.ownBlock ≠ some s1 ∧ v.ownBlock ≠ some s2) m2 (strV ks2)) 2 (f 211) (f 0) w1 := hF 2 (by kernel_rfl)
                    clear hF hO hL
                    dsimp only at hK ⊢
                    generalize hf211 : f 211 = v211 at *
                    subst d2
                    have y := Bk.cell hG.nb 1
                    go_simp
                    exact hK.out _ _ hG rfl (fun _ _ _ h => h) (fun _ _ h => h)
                  · -- 4: Op.move t24
                    intro f w1 hG hO hL hF K hK
                    clear hF hO hL
                    dsimp only at hK ⊢
                    go_simp
                    exact hK.out _ _ hG rfl (fun _ _ _ h => h) (fun _ _ h => h)
                  · -- 5: Op.indexAddr 27 t212 t213
                    intro f w1 hG hO hL hF K hK
                    have d3 : (gsF B0 gm B0 1 1 30 9 (fun v => #[.bool true, v, .slice Av2 m2 dv2, .slice none 0 0]) (.slice Ak2 m2 ck2) (.slice (some ⟨s1, o1, none⟩) nk cm) (.int .i64 (j : Int)) (.pointer (some ⟨s1, o1 + j, none⟩)) (.string xk) (fun v => Apart v (.slice Av2 m2 dv2) ∧ v.ownBlock ≠ some s1 ∧ v.ownBlock ≠ some s2) m2 (strV ks2)) 3 (f 212) (f 0) w1 := hF 3 (by kernel_rfl)
                    have d4 : (gsF B0 gm B0 1 1 30 9 (fun v => #[.bool true, v, .slice Av2 m2 dv2, .slice none 0 0]) (.slice Ak2 m2 ck2) (.slice (some ⟨s1, o1, none⟩) nk cm) (.int .i64 (j : Int)) (.pointer (some ⟨s1, o1 + j, none⟩)) (.string xk) (fun v => Apart v (.slice Av2 m2 dv2) ∧ v.ownBlock ≠ some s1 ∧ v.ownBlock ≠ some s2) m2 (strV ks2)) 4 (f 213) (f 0) w1 := hF 4 (by kernel_rfl)
                    clear hF hO hL
                    dsimp only at hK ⊢
                    generalize hf212 : f 212 = v212 at *
                    generalize hf213 : f 213 = v213 at *
                    subst d3
                    subst d4
                    go_simp
                    exact hK.out _ _ hG rfl (fun _ _ _ h => h) (fun _ _ h => h)
                  · -- 6: Op.load 9 t214
                    intro f w1 hG hO hL hF K hK
                    have d5 : (gsF B0 gm B0 1 1 30 9 (fun v => #[.bool true, v, .slice Av2 m2 dv2, .slice none 0 0]) (.slice Ak2 m2 ck2) (.slice (some ⟨s1, o1, none⟩) nk cm) (.int .i64 (j : Int)) (.pointer (some ⟨s1, o1 + j, none⟩)) (.string xk) (fun v => Apart v (.slice Av2 m2 dv2) ∧ v.ownBlock ≠ some s1 ∧ v.ownBlock ≠ some s2) m2 (strV ks2)) 5 (f 214) (f 0) w1 := hF 5 (by kernel_rfl)
                    clear hF hO hL
                    dsimp only at hK ⊢
                    generalize hf214 : f 214 = v214 at *
                    subst d5
                    have y := HC1.out w1 hG.r1
                    go_simp
                    exact hK.out _ _ hG rfl (fun _ _ _ h => h) (fun _ _ h => h)
                  · -- 7: Op.buildSlice 27 1 #[(0, t215)]
                    intro f w1 hG hO hL hF K hK
                    have d6 : (gsF B0 gm B0 1 1 30 9 (fun v => #[.bool true, v, .slice Av2 m2 dv2, .slice none 0 0]) (.slice Ak2 m2 ck2) (.slice (some ⟨s1, o1, none⟩) nk cm) (.int .i64 (j : Int)) (.pointer (some ⟨s1, o1 + j, none⟩)) (.string xk) (fun v => Apart v (.slice Av2 m2 dv2) ∧ v.ownBlock ≠ some s1 ∧ v.ownBlock ≠ some s2) m2 (strV ks2)) 6 (f 215) (f 0) w1 := hF 6 (by kernel_rfl)
                    clear hF hO hL
                    dsimp only at hK ⊢
                    generalize hf215 : f 215 = v215 at *
                    subst d6
                    go_simp
                    exact hK.out _ _ (hG.next ((Below.refl _ _).alloc (Nat.le_refl _) _)) ⟨w1.heap.size, rfl, hG.sz, (by have := hG.lt; omega), (fun e => absurd (hG.kl _ e).2 (Nat.lt_irrefl _)), Bk.new w1 _ _⟩ (fun j _ _ h => gsF_bel ((Below.refl _ _).alloc (Nat.le_refl _) _) j _ _ h) (fun m _ h => grH_bel ((Below.refl _ _).alloc (Nat.le_refl _) _) m h)
                  · -- 8: Op.call ( builtin append, args := #[t210, t216], argTypes := #[27, 27] )
                    intro f w1 hG hO hL hF K hK
                    have l8 : (grH B0 B0 30 9 (fun v => #[.bool true, v, .slice Av2 m2 dv2, .slice none 0 0]) (.slice Ak2 m2 ck2) m2 (strV ks2)) 8 w1 := hL 8 (Nat.le_of_ble_eq_true (by kernel_rfl)) (by kernel_rfl)
                    have l10 : (grH B0 B0 30 9 (fun v => #[.bool true, v, .slice Av2 m2 dv2, .slice none 0 0]) (.slice Ak2 m2 ck2) m2 (strV ks2)) 10 w1 := hL 10 (Nat.le_of_ble_eq_true (by kernel_rfl)) (by kernel_rfl)
                    have d1 : (gsF B0 gm B0 1 1 30 9 (fun v => #[.bool true, v, .slice Av2 m2 dv2, .slice none 0 0]) (.slice Ak2 m2 ck2) (.slice (some ⟨s1, o1, none⟩) nk cm) (.int .i64 (j : Int)) (.pointer (some ⟨s1, o1 + j, none⟩)) (.string xk) (fun v => Apart v (.slice Av2 m2 dv2) ∧ v.ownBlock ≠ some s1 ∧ v.ownBlock ≠ some s2) m2 (strV ks2)) 1 (f 210) (f 0) w1 := hF 1 (by kernel_rfl)
                    have d7 : (gsF B0 gm B0 1 1 30 9 (fun v => #[.bool true, v, .slice Av2 m2 dv2, .slice none 0 0]) (.slice Ak2 m2 ck2) (.slice (some ⟨s1, o1, none⟩) nk cm) (.int .i64 (j : Int)) (.pointer (some ⟨s1, o1 + j, none⟩)) (.string xk) (fun v => Apart v (.slice Av2 m2 dv2) ∧ v.ownBlock ≠ some s1 ∧ v.ownBlock ≠ some s2) m2 (strV ks2)) 7 (f 216) (f 0) w1 := hF 7 (by kernel_rfl)
                    clear hF hO hL
                    dsimp only at hK ⊢
                    generalize hf210 : f 210 = v210 at *
                    generalize hf216 : f 216 = v216 at *
                    have d1 : v210 = (.slice Ak2 m2 ck2) := d1
                    subst d1
                    obtain ⟨g, rfl, h0, h1, h2, h3⟩ := d7
                    have hcb : ∀ j u, [(.string xk)][j]? = some u → w1.cell? ((⟨g, 0, none⟩ : Addr).add j) = some u := fun j u hu => by
                      rw [Go.WideShapes.add_plain, Nat.zero_add, h3.cell j]; simpa using hu
                    obtain ⟨i0, hi0, hz0, hz1, hz2⟩ := info_parts info_str
                    obtain ⟨v', w2', hrun, hown, hgr, _, hat⟩ := run_append_own_at (P := Try.prog) (w := w1) B0 27 27 9 i0 _ 1 16 Try.underlying27 hi0 hz0 hz1 hz2 rfl (by decide) (.slice Ak2 m2 ck2) m2 (strV ks2) l8 ⟨g, 0, none⟩ 1 1 [(.string xk)] rfl hcb (by intro u hu; simp only [List.mem_singleton] at hu; subst hu; rfl) (by simp only [maxLen]; omega) (by omega) hG.sz
                    have hsl1 := hG.l1
                    have hsl2 := hG.l2
                    have ap1 : (fun v => Apart v (.slice Av2 m2 dv2) ∧ v.ownBlock ≠ some s1 ∧ v.ownBlock ≠ some s2) v' := ⟨fun b hb hb2 => by
                        rcases hat with h | h
                        · exact HN1.out.1 b (h ▸ hb) hb2
                        · rw [h] at hb
                          injection hb with hb
                          subst hb
                          exact absurd (own_ge hG.o hb2).2 (Nat.lt_irrefl _), fun hb => by
                        rcases hat with h | h
                        · exact HN1.out.2.1 (h ▸ hb)
                        · rw [h] at hb
                          injection hb with hb
                          omega, fun hb => by
                        rcases hat with h | h
                        · exact HN1.out.2.2 (h ▸ hb)
                        · rw [h] at hb
                          injection hb with hb
                          omega⟩
                    have kn : (Value.ownBlock (.slice Ak2 m2 ck2) = none ∨ (Value.ownBlock (.slice Av2 m2 dv2)) ≠ Value.ownBlock (.slice Ak2 m2 ck2)) := by
                      cases hK : Value.ownBlock (.slice Ak2 m2 ck2) with
                      | none => exact Or.inl rfl
                      | some b => exact Or.inr (HN1.out.1 b hK)
                    have nkO : Value.ownBlock (.slice Ak2 m2 ck2) ≠ some B0 := own_tyne l8 l10 (by decide)
                    have nkN : Value.ownBlock (.slice Ak2 m2 ck2) ≠ some gm := own_tyne l8 hG.nb (by decide)
                    refine Lib.wp_append_run w1 _ _ _ _ rfl _ _ rfl rfl _ w2' hrun (hK.out v' w2' (hG.app hgr nkN HN1.out.2.1 HN1.out.2.2 kn) ⟨hown, ap1⟩ ?_ (fun m hm h => grH_app hgr nkO m hm h))
                    intro j hj hdep h
                    by_cases h10 : j = 10
                    · subst h10
                      exact absurd hdep (by rw [show depS _ 10 8 = true by kernel_rfl]; decide)
                    · exact gsF_app rfl hgr j hj h10 _ _ h
                  · -- 9: Op.fieldAddr 30 t17 1
                    intro f w1 hG hO hL hF K hK
                    clear hF hO hL
                    dsimp only at hK ⊢
                    go_simp
                    exact hK.out _ _ hG rfl (fun _ _ _ h => h) (fun _ _ h => h)
                  · -- 10: Op.store 27 t218 t217
                    intro f w1 hG hO hL hF K hK
                    have l10 : (grH B0 B0 30 9 (fun v => #[.bool true, v, .slice Av2 m2 dv2, .slice none 0 0]) (.slice Ak2 m2 ck2) m2 (strV ks2)) 10 w1 := hL 10 (Nat.le_of_ble_eq_true (by kernel_rfl)) (by kernel_rfl)
                    have d9 : (gsF B0 gm B0 1 1 30 9 (fun v => #[.bool true, v, .slice Av2 m2 dv2, .slice none 0 0]) (.slice Ak2 m2 ck2) (.slice (some ⟨s1, o1, none⟩) nk cm) (.int .i64 (j : Int)) (.pointer (some ⟨s1, o1 + j, none⟩)) (.string xk) (fun v => Apart v (.slice Av2 m2 dv2) ∧ v.ownBlock ≠ some s1 ∧ v.ownBlock ≠ some s2) m2 (strV ks2)) 9 (f 218) (f 0) w1 := hF 9 (by kernel_rfl)
                    have d8 : (gsF B0 gm B0 1 1 30 9 (fun v => #[.bool true, v, .slice Av2 m2 dv2, .slice none 0 0]) (.slice Ak2 m2 ck2) (.slice (some ⟨s1, o1, none⟩) nk cm) (.int .i64 (j : Int)) (.pointer (some ⟨s1, o1 + j, none⟩)) (.string xk) (fun v => Apart v (.slice Av2 m2 dv2) ∧ v.ownBlock ≠ some s1 ∧ v.ownBlock ≠ some s2) m2 (strV ks2)) 8 (f 217) (f 0) w1 := hF 8 (by kernel_rfl)
                    clear hF hO hL
                    dsimp only at hK ⊢
                    generalize hf218 : f 218 = v218 at *
                    generalize hf217 : f 217 = v217 at *
                    subst d9
                    have hd8 : w1.ownsRow B0 9 1 v217 (m2 + 1) ((strV ks2) ++ [(.string xk)]) ∧ (fun v => Apart v (.slice Av2 m2 dv2) ∧ v.ownBlock ≠ some s1 ∧ v.ownBlock ≠ some s2) v217 := d8
                    clear d8
                    obtain ⟨A5, c5, rfl, _, _⟩ := own_shape hd8.1
                    have hl10 : Bk w1 B0 30 ((fun v => #[.bool true, v, .slice Av2 m2 dv2, .slice none 0 0]) (.slice Ak2 m2 ck2)) := l10
                    have y0 : w1.cell? ⟨B0, 1, none⟩ = some (.slice Ak2 m2 ck2) := Bk.cell hl10 1
                    have f0 := Bk.frozen hl10 1
                    have HD8 := Lib.hid hd8
                    have HL10 := Lib.hid hl10
                    have HGg := Lib.hid hG
                    clear hd8 hl10 l10 hG
                    go_simp
                    refine hK.out undef _ (HGg.out.set HL10.out 1 (.slice A5 (m2 + 1) c5)) ⟨_, HL10.out.put 1 (.slice A5 (m2 + 1) c5), own_st HD8.out.1 (Kept1.set w1 B0 1 _) (own_tyne HD8.out.1 HL10.out (by decide)), HD8.out.2⟩ (fun j hj _ h => gsF_set HL10.out (by decide) 1 _ j hj _ _ h) (fun m hm h => grH_set HL10.out (by decide) 1 _ m hm h)
                  intro f w9 hG hF
                  obtain ⟨V', r1', r2', r3'⟩ : (gsF B0 gm B0 1 1 30 9 (fun v => #[.bool true, v, .slice Av2 m2 dv2, .slice none 0 0]) (.slice Ak2 m2 ck2) (.slice (some ⟨s1, o1, none⟩) nk cm) (.int .i64 (j : Int)) (.pointer (some ⟨s1, o1 + j, none⟩)) (.string xk) (fun v => Apart v (.slice Av2 m2 dv2) ∧ v.ownBlock ≠ some s1 ∧ v.ownBlock ≠ some s2) m2 (strV ks2)) 10 undef undef w9 := hF 10 (by decide)
                  have HG1 := Lib.hid hG
                  clear hF hG
                  dsimp only
                  generalize f 209 = v209
                  generalize f 210 = v210
                  generalize f 211 = v211
                  generalize f 212 = v212
                  generalize f 213 = v213
                  generalize f 214 = v214
                  generalize f 215 = v215
                  generalize f 216 = v216
                  generalize f 217 = v217
                  generalize f 218 = v218
                  have HV1 := Lib.hid r2'
                  obtain ⟨A6, c6, rfl, _, _⟩ := own_shape r2'
                  have HV2 := Lib.hid r3'
                  have HV3 := Lib.hid r1'
                  clear r1' r2' r3' G1 H1
                  have HN2 := Lib.hid (And.intro HV2.out.1.sym (And.intro HS.out.v1 HS.out.v2))
                  have G2 := Lib.hid (show GsG wc w8 B0 gm B0 s1 s2 #[.bool true, .slice (some ⟨s1, o1, none⟩) nk cm, .slice (some ⟨s2, o2, none⟩) nk dm, .slice Dm 0 em] (.slice A6 (m2 + 1) c6) (m2 + 1) (strV ks2 ++ [.string xk]) (Value.ownBlock (.slice Av2 m2 dv2)) w9.drew from
                    ⟨HG1.out.bel.drew, HG1.out.nb, HG1.out.r1, HG1.out.r2, HG1.out.l1, HG1.out.l2, HG1.out.lt, own_belS HV1.out (Below.refl _ _).drew, fun b e => own_ge HG1.out.o e, HG1.out.ge, HG1.out.ne, HG1.out.n1, HG1.out.n2', HG1.out.sz⟩)
                  have H2 := Lib.hid (show ∀ m', m' < 11 → grH B0 B0 30 9 (fun v => #[.bool true, .slice A6 (m2 + 1) c6, v, .slice none 0 0]) (.slice Av2 m2 dv2) m2 (strV vs2) m' w9.drew from fun m' _ => by
                    unfold grH
                    split
                    · exact own_belS HG1.out.o (Below.refl _ _).drew
                    · exact HV3.out
                    · trivial)
                  go_wp2_with fail
                  refine wp_region_late [some 219, some 220, some 221, some 222, some 223, some 224, some 225, some 226, some 227, some 228, none] (fun _ => 0) (gsF B0 gm B0 2 2 30 9 (fun v => #[.bool true, .slice A6 (m2 + 1) c6, v, .slice none 0 0]) (.slice Av2 m2 dv2) (.slice (some ⟨s2, o2, none⟩) nk dm) (.int .i64 (j : Int)) (.pointer (some ⟨s2, o2 + j, none⟩)) (.string xv) (fun v => Apart v (.slice A6 (m2 + 1) c6) ∧ v.ownBlock ≠ some s1 ∧ v.ownBlock ≠ some s2) m2 (strV vs2)) (GsG wc w8 B0 gm B0 s1 s2 #[.bool true, .slice (some ⟨s1, o1, none⟩) nk cm, .slice (some ⟨s2, o2, none⟩) nk dm, .slice Dm 0 em] (.slice A6 (m2 + 1) c6) (m2 + 1) (strV ks2 ++ [.string xk]) (Value.ownBlock (.slice Av2 m2 dv2))) (grH B0 B0 30 9 (fun v => #[.bool true, .slice A6 (m2 + 1) c6, v, .slice none 0 0]) (.slice Av2 m2 dv2) m2 (strV vs2)) (by kernel_rfl) G2.out H2.out rfl (by kernel_rfl) (by kernel_rfl) (by kernel_rfl) (by kernel_rfl) (fun T hT => ?_)
                  simp only [List.filterMap_cons, List.filterMap_nil, id, putsS, Act.put, List.setIfInBounds_toArray, List.set_cons_zero, List.set_cons_succ] at hT
                  subst hT
                  refine ⟨⟨?_, ?_, ?_, ?_, ?_, ?_, ?_, ?_, ?_, ?_, ?_, trivial⟩, ?_⟩
                  · -- 0: Op.fieldAddr 30 t17 2
                    intro f w1 hG hO hL hF K hK
                    clear hF hO hL
                    dsimp only at hK ⊢
                    go_simp
                    exact hK.out _ _ hG rfl (fun _ _ _ h => h) (fun _ _ h => h)
                  · -- 1: Op.load 27 t219
                    intro f w1 hG hO hL hF K hK
                    have l10 : (grH B0 B0 30 9 (fun v => #[.bool true, .slice A6 (m2 + 1) c6, v, .slice none 0 0]) (.slice Av2 m2 dv2) m2 (strV vs2)) 10 w1 := hL 10 (Nat.le_of_ble_eq_true (by kernel_rfl)) (by kernel_rfl)
                    have d0 : (gsF B0 gm B0 2 2 30 9 (fun v => #[.bool true, .slice A6 (m2 + 1) c6, v, .slice none 0 0]) (.slice Av2 m2 dv2) (.slice (some ⟨s2, o2, none⟩) nk dm) (.int .i64 (j : Int)) (.pointer (some ⟨s2, o2 + j, none⟩)) (.string xv) (fun v => Apart v (.slice A6 (m2 + 1) c6) ∧ v.ownBlock ≠ some s1 ∧ v.ownBlock ≠ some s2) m2 (strV vs2)) 0 (f 219) (f 0) w1 := hF 0 (by kernel_rfl)
                    clear hF hO hL
                    dsimp only at hK ⊢
                    generalize hf219 : f 219 = v219 at *
                    subst d0
                    have y : w1.cell? ⟨B0, 2, none⟩ = some (.slice Av2 m2 dv2) := Bk.cell l10 2
                    go_simp
                    exact hK.out _ _ hG rfl (fun _ _ _ h => h) (fun _ _ h => h)
                  · -- 2: Op.fieldAddr 30 t22 2
                    intro f w1 hG hO hL hF K hK
                    clear hF hO hL
                    dsimp only at hK ⊢
                    go_simp
                    exact hK.out _ _ hG rfl (fun _ _ _ h => h) (fun _ _ h => h)
                  · -- 3: Op.load 27 t221
                    intro f w1 hG hO hL hF K hK
                    have d2 : (gsF B0 gm B0 2 2 30 9 (fun v => #[.bool true, .slice A6 (m2 + 1) c6, v, .slice none 0 0]) (.slice Av2 m2 dv2) (.slice (some ⟨s2, o2, none⟩) nk dm) (.int .i64 (j : Int)) (.pointer (some ⟨s2, o2 + j, none⟩)) (.string xv) (fun v => Apart v (.slice A6 (m2 + 1) c6) ∧ v.ownBlock ≠ some s1 ∧ v.ownBlock ≠ some s2) m2 (strV vs2)) 2 (f 221) (f 0) w1 := hF 2 (by kernel_rfl)
                    clear hF hO hL
                    dsimp only at hK ⊢
                    generalize hf221 : f 221 = v221 at *
                    subst d2
                    have y := Bk.cell hG.nb 2
                    go_simp
                    exact hK.out _ _ hG rfl (fun _ _ _ h => h) (fun _ _ h => h)
                  · -- 4: Op.move t24
                    intro f w1 hG hO hL hF K hK
                    clear hF hO hL
                    dsimp only at hK ⊢
                    go_simp
                    exact hK.out _ _ hG rfl (fun _ _ _ h => h) (fun _ _ h => h)
                  · -- 5: Op.indexAddr 27 t222 t223
                    intro f w1 hG hO hL hF K hK
                    have d3 : (gsF B0 gm B0 2 2 30 9 (fun v => #[.bool true, .slice A6 (m2 + 1) c6, v, .slice none 0 0]) (.slice Av2 m2 dv2) (.slice (some ⟨s2, o2, none⟩) nk dm) (.int .i64 (j : Int)) (.pointer (some ⟨s2, o2 + j, none⟩)) (.string xv) (fun v => Apart v (.slice A6 (m2 + 1) c6) ∧ v.ownBlock ≠ some s1 ∧ v.ownBlock ≠ some s2) m2 (strV vs2)) 3 (f 222) (f 0) w1 := hF 3 (by kernel_rfl)
                    have d4 : (gsF B0 gm B0 2 2 30 9 (fun v => #[.bool true, .slice A6 (m2 + 1) c6, v, .slice none 0 0]) (.slice Av2 m2 dv2) (.slice (some ⟨s2, o2, none⟩) nk dm) (.int .i64 (j : Int)) (.pointer (some ⟨s2, o2 + j, none⟩)) (.string xv) (fun v => Apart v (.slice A6 (m2 + 1) c6) ∧ v.ownBlock ≠ some s1 ∧ v.ownBlock ≠ some s2) m2 (strV vs2)) 4 (f 223) (f 0) w1 := hF 4 (by kernel_rfl)
                    clear hF hO hL
                    dsimp only at hK ⊢
                    generalize hf222 : f 222 = v222 at *
                    generalize hf223 : f 223 = v223 at *
                    subst d3
                    subst d4
                    go_simp
                    exact hK.out _ _ hG rfl (fun _ _ _ h => h) (fun _ _ h => h)
                  · -- 6: Op.load 9 t224
                    intro f w1 hG hO hL hF K hK
                    have d5 : (gsF B0 gm B0 2 2 30 9 (fun v => #[.bool true, .slice A6 (m2 + 1) c6, v, .slice none 0 0]) (.slice Av2 m2 dv2) (.slice (some ⟨s2, o2, none⟩) nk dm) (.int .i64 (j : Int)) (.pointer (some ⟨s2, o2 + j, none⟩)) (.string xv) (fun v => Apart v (.slice A6 (m2 + 1) c6) ∧ v.ownBlock ≠ some s1 ∧ v.ownBlock ≠ some s2) m2 (strV vs2)) 5 (f 224) (f 0) w1 := hF 5 (by kernel_rfl)
                    clear hF hO hL
                    dsimp only at hK ⊢
                    generalize hf224 : f 224 = v224 at *
                    subst d5
                    have y := HC2.out w1 hG.r2
                    go_simp
                    exact hK.out _ _ hG rfl (fun _ _ _ h => h) (fun _ _ h => h)
                  · -- 7: Op.buildSlice 27 1 #[(0, t225)]
                    intro f w1 hG hO hL hF K hK
                    have d6 : (gsF B0 gm B0 2 2 30 9 (fun v => #[.bool true, .slice A6 (m2 + 1) c6, v, .slice none 0 0]) (.slice Av2 m2 dv2) (.slice (some ⟨s2, o2, none⟩) nk dm) (.int .i64 (j : Int)) (.pointer (some ⟨s2, o2 + j, none⟩)) (.string xv) (fun v => Apart v (.slice A6 (m2 + 1) c6) ∧ v.ownBlock ≠ some s1 ∧ v.ownBlock ≠ some s2) m2 (strV vs2)) 6 (f 225) (f 0) w1 := hF 6 (by kernel_rfl)
                    clear hF hO hL
                    dsimp only at hK ⊢
                    generalize hf225 : f 225 = v225 at *
                    subst d6
                    go_simp
                    exact hK.out _ _ (hG.next ((Below.refl _ _).alloc (Nat.le_refl _) _)) ⟨w1.heap.size, rfl, hG.sz, (by have := hG.lt; omega), (fun e => absurd (hG.kl _ e).2 (Nat.lt_irrefl _)), Bk.new w1 _ _⟩ (fun j _ _ h => gsF_bel ((Below.refl _ _).alloc (Nat.le_refl _) _) j _ _ h) (fun m _ h => grH_bel ((Below.refl _ _).alloc (Nat.le_refl _) _) m h)
                  · -- 8: Op.call ( builtin append, args := #[t220, t226], argTypes := #[27, 27] )
                    intro f w1 hG hO hL hF K hK
                    have l8 : (grH B0 B0 30 9 (fun v => #[.bool true, .slice A6 (m2 + 1) c6, v, .slice none 0 0]) (.slice Av2 m2 dv2) m2 (strV vs2)) 8 w1 := hL 8 (Nat.le_of_ble_eq_true (by kernel_rfl)) (by kernel_rfl)
                    have l10 : (grH B0 B0 30 9 (fun v => #[.bool true, .slice A6 (m2 + 1) c6, v, .slice none 0 0]) (.slice Av2 m2 dv2) m2 (strV vs2)) 10 w1 := hL 10 (Nat.le_of_ble_eq_true (by kernel_rfl)) (by kernel_rfl)
                    have d1 : (gsF B0 gm B0 2 2 30 9 (fun v => #[.bool true, .slice A6 (m2 + 1) c6, v, .slice none 0 0]) (.slice Av2 m2 dv2) (.slice (some ⟨s2, o2, none⟩) nk dm) (.int .i64 (j : Int)) (.pointer (some ⟨s2, o2 + j, none⟩)) (.string xv) (fun v => Apart v (.slice A6 (m2 + 1) c6) ∧ v.ownBlock ≠ some s1 ∧ v.ownBlock ≠ some s2) m2 (strV vs2)) 1 (f 220) (f 0) w1 := hF 1 (by kernel_rfl)
                    have d7 : (gsF B0 gm B0 2 2 30 9 (fun v => #[.bool true, .slice A6 (m2 + 1) c6, v, .slice none 0 0]) (.slice Av2 m2 dv2) (.slice (some ⟨s2, o2, none⟩) nk dm) (.int .i64 (j : Int)) (.pointer (some ⟨s2, o2 + j, none⟩)) (.string xv) (fun v => Apart v (.slice A6 (m2 + 1) c6) ∧ v.ownBlock ≠ some s1 ∧ v.ownBlock ≠ some s2) m2 (strV vs2)) 7 (f 226) (f 0) w1 := hF 7 (by kernel_rfl)
                    clear hF hO hL
                    dsimp only at hK ⊢
                    generalize hf220 : f 220 = v220 at *
                    generalize hf226 : f 226 = v226 at *
                    have d1 : v220 = (.slice Av2 m2 dv2) := d1
                    subst d1
                    obtain ⟨g, rfl, h0, h1, h2, h3⟩ := d7
                    have hcb : ∀ j u, [(.string xv)][j]? = some u → w1.cell? ((⟨g, 0, none⟩ : Addr).add j) = some u := fun j u hu => by
                      rw [Go.WideShapes.add_plain, Nat.zero_add, h3.cell j]; simpa using hu
                    obtain ⟨i0, hi0, hz0, hz1, hz2⟩ := info_parts info_str
                    obtain ⟨v', w2', hrun, hown, hgr, _, hat⟩ := run_append_own_at (P := Try.prog) (w := w1) B0 27 27 9 i0 _ 1 16 Try.underlying27 hi0 hz0 hz1 hz2 rfl (by decide) (.slice Av2 m2 dv2) m2 (strV vs2) l8 ⟨g, 0, none⟩ 1 1 [(.string xv)] rfl hcb (by intro u hu; simp only [List.mem_singleton] at hu; subst hu; rfl) (by simp only [maxLen]; omega) (by omega) hG.sz
                    have hsl1 := hG.l1
                    have hsl2 := hG.l2
                    have ap1 : (fun v => Apart v (.slice A6 (m2 + 1) c6) ∧ v.ownBlock ≠ some s1 ∧ v.ownBlock ≠ some s2) v' := ⟨fun b hb hb2 => by
                        rcases hat with h | h
                        · exact HN2.out.1 b (h ▸ hb) hb2
                        · rw [h] at hb
                          injection hb with hb
                          subst hb
                          exact absurd (own_ge hG.o hb2).2 (Nat.lt_irrefl _), fun hb => by
                        rcases hat with h | h
                        · exact HN2.out.2.1 (h ▸ hb)
                        · rw [h] at hb
                          injection hb with hb
                          omega, fun hb => by
                        rcases hat with h | h
                        · exact HN2.out.2.2 (h ▸ hb)
                        · rw [h] at hb
                          injection hb with hb
                          omega⟩
                    have kn : (Value.ownBlock (.slice Av2 m2 dv2) = none ∨ (Value.ownBlock (.slice A6 (m2 + 1) c6)) ≠ Value.ownBlock (.slice Av2 m2 dv2)) := by
                      cases hK : Value.ownBlock (.slice Av2 m2 dv2) with
                      | none => exact Or.inl rfl
                      | some b => exact Or.inr (HN2.out.1 b hK)
                    have nkO : Value.ownBlock (.slice Av2 m2 dv2) ≠ some B0 := own_tyne l8 l10 (by decide)
                    have nkN : Value.ownBlock (.slice Av2 m2 dv2) ≠ some gm := own_tyne l8 hG.nb (by decide)
                    refine Lib.wp_append_run w1 _ _ _ _ rfl _ _ rfl rfl _ w2' hrun (hK.out v' w2' (hG.app hgr nkN HN2.out.2.1 HN2.out.2.2 kn) ⟨hown, ap1⟩ ?_ (fun m hm h => grH_app hgr nkO m hm h))
                    intro j hj hdep h
                    by_cases h10 : j = 10
                    · subst h10
                      exact absurd hdep (by rw [show depS _ 10 8 = true by kernel_rfl]; decide)
                    · exact gsF_app rfl hgr j hj h10 _ _ h
                  · -- 9: Op.fieldAddr 30 t17 2
                    intro f w1 hG hO hL hF K hK
                    clear hF hO hL
                    dsimp only at hK ⊢
                    go_simp
                    exact hK.out _ _ hG rfl (fun _ _ _ h => h) (fun _ _ h => h)
                  · -- 10: Op.store 27 t228 t227
                    intro f w1 hG hO hL hF K hK
                    have l10 : (grH B0 B0 30 9 (fun v => #[.bool true, .slice A6 (m2 + 1) c6, v, .slice none 0 0]) (.slice Av2 m2 dv2) m2 (strV vs2)) 10 w1 := hL 10 (Nat.le_of_ble_eq_true (by kernel_rfl)) (by kernel_rfl)
                    have d9 : (gsF B0 gm B0 2 2 30 9 (fun v => #[.bool true, .slice A6 (m2 + 1) c6, v, .slice none 0 0]) (.slice Av2 m2 dv2) (.slice (some ⟨s2, o2, none⟩) nk dm) (.int .i64 (j : Int)) (.pointer (some ⟨s2, o2 + j, none⟩)) (.string xv) (fun v => Apart v (.slice A6 (m2 + 1) c6) ∧ v.ownBlock ≠ some s1 ∧ v.ownBlock ≠ some s2) m2 (strV vs2)) 9 (f 228) (f 0) w1 := hF 9 (by kernel_rfl)
                    have d8 : (gsF B0 gm B0 2 2 30 9 (fun v => #[.bool true, .slice A6 (m2 + 1) c6, v, .slice none 0 0]) (.slice Av2 m2 dv2) (.slice (some ⟨s2, o2, none⟩) nk dm) (.int .i64 (j : Int)) (.pointer (some ⟨s2, o2 + j, none⟩)) (.string xv) (fun v => Apart v (.slice A6 (m2 + 1) c6) ∧ v.ownBlock ≠ some s1 ∧ v.ownBlock ≠ some s2) m2 (strV vs2)) 8 (f 227) (f 0) w1 := hF 8 (by kernel_rfl)
                    clear hF hO hL
                    dsimp only at hK ⊢
                    generalize hf228 : f 228 = v228 at *
                    generalize hf227 : f 227 = v227 at *
                    subst d9
                    have hd8 : w1.ownsRow B0 9 1 v227 (m2 + 1) ((strV vs2) ++ [(.string xv)]) ∧ (fun v => Apart v (.slice A6 (m2 + 1) c6) ∧ v.ownBlock ≠ some s1 ∧ v.ownBlock ≠ some s2) v227 := d8
                    clear d8
                    obtain ⟨A5, c5, rfl, _, _⟩ := own_shape hd8.1
                    have hl10 : Bk w1 B0 30 ((fun v => #[.bool true, .slice A6 (m2 + 1) c6, v, .slice none 0 0]) (.slice Av2 m2 dv2)) := l10
                    have y0 : w1.cell? ⟨B0, 2, none⟩ = some (.slice Av2 m2 dv2) := Bk.cell hl10 2
                    have f0 := Bk.frozen hl10 2
                    have HD8 := Lib.hid hd8
                    have HL10 := Lib.hid hl10
                    have HGg := Lib.hid hG
                    clear hd8 hl10 l10 hG
                    go_simp
                    refine hK.out undef _ (HGg.out.set HL10.out 2 (.slice A5 (m2 + 1) c5)) ⟨_, HL10.out.put 2 (.slice A5 (m2 + 1) c5), own_st HD8.out.1 (Kept1.set w1 B0 2 _) (own_tyne HD8.out.1 HL10.out (by decide)), HD8.out.2⟩ (fun j hj _ h => gsF_set HL10.out (by decide) 2 _ j hj _ _ h) (fun m hm h => grH_set HL10.out (by decide) 2 _ m hm h)
                  intro f w10 hG hF
                  obtain ⟨V'', r1', r2', r3'⟩ : (gsF B0 gm B0 2 2 30 9 (fun v => #[.bool true, .slice A6 (m2 + 1) c6, v, .slice none 0 0]) (.slice Av2 m2 dv2) (.slice (some ⟨s2, o2, none⟩) nk dm) (.int .i64 (j : Int)) (.pointer (some ⟨s2, o2 + j, none⟩)) (.string xv) (fun v => Apart v (.slice A6 (m2 + 1) c6) ∧ v.ownBlock ≠ some s1 ∧ v.ownBlock ≠ some s2) m2 (strV vs2)) 10 undef undef w10 := hF 10 (by decide)
                  have HG3 := Lib.hid hG
                  clear hF hG
                  dsimp only
                  generalize f 219 = v219
                  generalize f 220 = v220
                  generalize f 221 = v221
                  generalize f 222 = v222
                  generalize f 223 = v223
                  generalize f 224 = v224
                  generalize f 225 = v225
                  generalize f 226 = v226
                  generalize f 227 = v227
                  generalize f 228 = v228
                  have HSN := Lib.hid (show LpR wc w8 B0 gm s1 s2 (m2 + 1) #[.bool true, .slice (some ⟨s1, o1, none⟩) nk cm, .slice (some ⟨s2, o2, none⟩) nk dm, .slice Dm 0 em] (ks2 ++ [xk]) (vs2 ++ [xv]) (.slice A6 (m2 + 1) c6) V'' w10 from
                    ⟨HG3.out.bel, HG3.out.nb, HG3.out.r1, HG3.out.r2, HG3.out.l1, HG3.out.l2, ⟨r1', by rw [strV_snoc]; exact HG3.out.o, by rw [strV_snoc]; exact r2', r3'.1.sym⟩, HV2.out.2.1, HV2.out.2.2, r3'.2.1, r3'.2.2, HG3.out.ne, HG3.out.n1, HG3.out.n2', HG3.out.sz⟩)
                  clear r1' r2' r3' G2 H2
                  go_wp2_with fail
                  go_roundw
                  case rel => exact ⟨j + 1, m2 + 1, _, _, by omega, by omega, by go_num, by rw [HNX.out.1, HNX.out.2]; exact HSN⟩
                  case measure => simp [intOf]; omega
                · obtain rfl : j = nk := by omega
                  have q1 : ¬ (j : Int) < (j : Int) := by omega
                  have HE1 := Lib.hid (show flatK ((psI its).take k) ++ it.p.1.take j = flatK ((psI its).take (k + 1)) ∧ flatV ((psI its).take k) ++ it.p.2.take j = flatV ((psI its).take (k + 1)) by
                    have e1 : it.p.1.take j = it.p.1 := List.take_of_length_le (by rw [← HNK.out]; exact Nat.le_refl _)
                    have e2 : it.p.2.take j = it.p.2 := List.take_of_length_le (by rw [HNV.out, ← HNK.out]; exact Nat.le_refl _)
                    rw [HSK.out.1, HSK.out.2, e1, e2]
                    exact ⟨rfl, rfl⟩)
                  rw [HE1.out.1, HE1.out.2] at HS
                  go_wp2_with fail
                  go_meet
                  exact And.intro rfl ⟨m2, K3, V3, by omega, Lib.hid (by rw [← HBB.out]; exact HS.out.bel), Lib.hid HS.out.gt⟩
          case rest =>
            obtain ⟨rfl, m1, K3, V3, hm1, HBr3, HG3⟩ := hcut
            go_wp2_with fail
            go_roundw
            case rel => exact ⟨k + 1, m1, K3, V3, by omega, hm1, by go_num, HBr3, HG3⟩
            case measure => simp [intOf]; omega
        · obtain rfl : k = np := by omega
          have j1 : ¬ (k : Int) < (k : Int) := by omega
          have HE := Lib.hid (show (psI its).take k = psI its by rw [List.take_of_length_le]; have := hnp.out; simp [psI]; omega)
          rw [HE.out] at HG
          go_wp2_with fail
          go_meet
          exact ⟨m, K2, V2, HBr, HG⟩
    case rest =>
      obtain ⟨m0, K2, V2, HBr, HG⟩ := hcut
      have hff := flat_form HR.out.ok
      have hml := HR.out.ml
      obtain ⟨m, hm⟩ : ∃ m, m = (flatK (psI its)).length := ⟨_, rfl⟩
      rw [← hm] at hml
      have HM1 := HM.out.next HBr.out
      obtain ⟨A1, B1, c1, d1, rfl, rfl, nd1, _, _, _, _⟩ := HM1.mr.nd hff m hm (by omega)
      obtain ⟨A2, B2, c2, d2, rfl, rfl, nd2, _, _, _, _⟩ := HG.out.lf.nd hff m hm (by omega)
      have y0 := HM1.mb.cell 0
      have y1 := HM1.mb.cell 1
      have y2 := HM1.mb.cell 2
      have y3 := HM1.mb.cell 3
      have z0 := HG.out.bk.cell 0
      have z1 := HG.out.bk.cell 1
      have z2 := HG.out.bk.cell 2
      have z3 := HG.out.bk.cell 3
      have SM := Lib.hid (nsame_any true (flatK (psI its)) (flatV (psI its)) [] A2 B2 none A1 B1 none m c2 m d2 0 0 c1 d1 0 _ nd2 nd1)
      have HBW := Lib.hid (HB.out.trans (HBr.out.mono HB.out.size))
      clear hff hml hm HM1 nd1 nd2
      go_wp2_with fail
      refine SM.out.mono ?_
      rintro e w9 ⟨rfl, b9⟩
      have HBE := Lib.hid (HBW.out.trans (b9.mono HBW.out.size))
      clear b9
      go_wp2_with fail
      go_ret
      exact ⟨rfl, HBE.out⟩
end Go.Proofs.Ytopkkolcimmedaa
