/- The parts of a leaf in memory, and what calls leave of them; the pager's part in it. No condition. -/
import Derived.Test.YtopkkolcimmedaaPgM
import Derived.Test.YtopkkolcimmedaaPSet
import Derived.Test.YtopkkolcimmedaaPRSet
import Derived.Test.YtopkkolcimmedaaNEncode
import Derived.Test.YtopkkolcimmedaaNDec
import Derived.Test.YtopkkolcimmedaaNSame
import Derived.Test.YtopkkolcimmedaaHalvesN
import Derived.Test.YtopkkolcimmedaaGFew
namespace Go.Proofs.Ytopkkolcimmedaa
open Go.RowKit

/-- The pager's pages between two rounds: none is held, none turned. -/
structure Calm (l : List HeldM) : Prop where
  len : l.length ≤ 4
  each : ∀ h ∈ l, h.pins = 0 ∧ h.turned = false
  nodup : (l.map (·.page)).Nodup
theorem Calm.nil : Calm [] := ⟨by simp, fun h hh => by simp at hh, by simp⟩
/-- The other pages, while page p is worked at. -/
structure Rest3 (r : List HeldM) (p : Int) : Prop where
  len : r.length ≤ 3
  each : ∀ h ∈ r, h.pins = 0 ∧ h.turned = false
  nodup : (r.map (·.page)).Nodup
  ne : ∀ h ∈ r, h.page ≠ p
theorem find_at {l : List HeldM} {q : HeldM → Bool} {i : Nat} (hi : i < l.length) (h1 : q l[i] = true) (h2 : ∀ j (hj : j < i), q (l[j]'(by omega)) = false) : findZ q l = i := by
  rcases findZ_cases q l with ⟨_, k2⟩ | ⟨j, hj, k1, k2, k3⟩
  · have := k2 _ (List.getElem_mem hi); rw [h1] at this; cases this
  · rcases Nat.lt_trichotomy i j with h | h | h
    · have := k3 i h; rw [h1] at this; cases this
    · rw [k1, h]
    · have := h2 j h; rw [k2] at this; cases this
theorem find_last {r : List HeldM} {p : Int} (h : Rest3 r p) (a : Nat) (b : Bool) : findZ (isP p) (r ++ [⟨p, a, b⟩]) = (r.length : Nat) := by
  refine find_at (by simp) (by simp [isP]) (fun j hj => ?_)
  rw [List.getElem_append_left hj]
  have := h.ne _ (List.getElem_mem hj)
  unfold isP
  rw [beq_eq_false_iff_ne]
  exact this
theorem nodup_erase {l : List HeldM} (h : (l.map (·.page)).Nodup) (i : Nat) : ((l.eraseIdx i).map (·.page)).Nodup := by
  exact List.Nodup.sublist (List.Sublist.map _ (List.eraseIdx_sublist l i)) h
theorem calm_pin {l : List HeldM} (h : Calm l) (p : Int) (hp : 0 ≤ p) : ∃ r, (doM 4 l 1 p).1 = r ++ [⟨p, 1, false⟩] ∧ Rest3 r p := by
  unfold doM
  rw [if_neg (by decide), if_neg (by omega), if_pos rfl]
  unfold pinM
  rcases findZ_cases (isP p) l with ⟨h1, h2⟩ | ⟨i, hi, h1, h2, h3⟩
  · have hne : ∀ x ∈ l, x.page ≠ p := fun x hx => by
      have := h2 x hx
      unfold isP at this
      rw [beq_eq_false_iff_ne] at this
      exact this
    rw [h1, if_neg (by decide)]
    by_cases hr : (4 : Int) ≤ (l.length : Int)
    · rw [if_pos hr]
      have hz : findZ isF l = ((0 : Nat) : Int) := by
        refine find_at (by omega) ?_ (fun j hj => by omega)
        have := (h.each _ (List.getElem_mem (show 0 < l.length by omega))).1
        unfold isF
        rw [this]; rfl
      rw [hz, if_neg (by decide)]
      refine ⟨_, rfl, ⟨?_, fun x hx => h.each x (List.mem_of_mem_eraseIdx hx), nodup_erase h.nodup _, fun x hx => hne x (List.mem_of_mem_eraseIdx hx)⟩⟩
      have := h.len
      rw [List.length_eraseIdx]
      split <;> omega
    · rw [if_neg hr]
      exact ⟨_, rfl, ⟨by omega, h.each, h.nodup, hne⟩⟩
  · rw [h1, if_pos (by omega), Int.toNat_natCast]
    have e : l.getD i default = l[i] := by simp [hi]
    have hpg : l[i].page = p := by
      unfold isP at h2
      exact eq_of_beq h2
    obtain ⟨e1, e2⟩ := h.each _ (List.getElem_mem hi)
    refine ⟨l.eraseIdx i, ?_, ⟨?_, fun x hx => h.each x (List.mem_of_mem_eraseIdx hx), nodup_erase h.nodup _, fun x hx => ?_⟩⟩
    · rw [e, hpg, e1, e2]
    · have := h.len
      rw [List.length_eraseIdx]
      split <;> omega
    · intro hc
      obtain ⟨j, hj, rfl⟩ := List.getElem_of_mem hx
      have hj' := hj
      rw [List.length_eraseIdx, if_pos hi] at hj'
      rw [List.getElem_eraseIdx] at hc
      have hnd := h.nodup
      rw [List.nodup_iff_pairwise_ne, List.pairwise_iff_getElem] at hnd
      split at hc
      · rename_i hlt
        have := hnd j i (by simp; omega) (by simpa using hi) hlt
        simp only [List.getElem_map] at this
        exact this (hc.trans hpg.symm)
      · rename_i hlt
        have := hnd i (j + 1) (by simpa using hi) (by simp; omega) (by omega)
        simp only [List.getElem_map] at this
        exact this (hpg.trans hc.symm)
theorem calm_chg {r : List HeldM} {p : Int} (h : Rest3 r p) (hp : 0 ≤ p) (kind : Int) (hk : kind = 2 ∨ kind = 3) (b : Bool) : (doM 4 (r ++ [⟨p, 1, b⟩]) kind p).1 = r ++ [chgH kind ⟨p, 1, b⟩] := by
  unfold doM
  rw [if_neg (by omega), if_neg (by omega), if_neg (by omega), if_pos hk]
  unfold chgM
  rw [find_last h, if_neg (by omega), Int.toNat_natCast]
  have e : (r ++ [(⟨p, 1, b⟩ : HeldM)]).getD r.length default = ⟨p, 1, b⟩ := by simp [List.getD]
  rw [e, if_neg (show ¬ (1 : Nat) = 0 by decide)]
  show (r ++ [_]).set r.length _ = _
  rw [List.set_append_right _ _ (Nat.le_refl _), Nat.sub_self]
  rfl
theorem calm_flush {r : List HeldM} {p : Int} (h : Rest3 r p) (q : Int) : (doM 4 (r ++ [⟨p, 0, true⟩]) 4 q).1 = r ++ [⟨p, 0, false⟩] ∧ (doM 4 (r ++ [⟨p, 0, true⟩]) 4 q).2.wrote = [p] ∧ Calm (r ++ [⟨p, 0, false⟩]) := by
  have e0 : doM 4 (r ++ [⟨p, 0, true⟩]) 4 q = flushM (r ++ [⟨p, 0, true⟩]) := rfl
  rw [e0]
  have e1 : r.map cleanH = r := by
    conv => rhs; rw [← List.map_id r]
    refine List.map_congr_left fun x hx => ?_
    exact clean_self (h.each x hx).2
  have e2 : r.filter (·.turned) = [] := by
    rw [List.filter_eq_nil_iff]
    intro x hx
    rw [(h.each x hx).2]
    simp
  refine ⟨?_, ?_, ?_, fun x hx => ?_, ?_⟩
  · show (r ++ [(⟨p, 0, true⟩ : HeldM)]).map cleanH = _
    rw [List.map_append, e1]
    rfl
  · show sortI (dirtyN (r ++ [(⟨p, 0, true⟩ : HeldM)])) = [p]
    unfold dirtyN
    rw [List.filter_append, e2]
    show sortI [p] = [p]
    unfold sortI
    simp
  · have := h.len
    simp; omega
  · rcases List.mem_append.1 hx with hx | hx
    · exact h.each x hx
    · simp only [List.mem_singleton] at hx; subst hx; exact ⟨rfl, rfl⟩
  · rw [List.map_append, List.nodup_append]
    refine ⟨h.nodup, by simp, fun a ha b hb => ?_⟩
    simp only [List.map_cons, List.map_nil, List.mem_singleton] at hb
    obtain ⟨x, hx, rfl⟩ := List.mem_map.1 ha
    rw [hb]
    exact h.ne x hx
/-- A part's two rows in memory, each in a row of its own. -/
structure LfR (w : World) (p : PartM) (K V : Value) : Prop where
  ok : w.ownsRow 0 9 1 K p.1.length (strV p.1)
  ov : w.ownsRow 0 9 1 V p.2.length (strV p.2)
theorem LfR.bel {w w' : World} {p : PartM} {K V : Value} (h : LfR w p K V) (hb : Below w.heap.size w w') : LfR w' p K V := ⟨own_belS h.ok hb, own_belS h.ov hb⟩
theorem LfR.of {w : World} {B m m2 : Nat} {ks vs : List ByteArray} {K V : Value} (h1 : w.ownsRow B 9 1 K m (strV ks)) (h2 : w.ownsRow B 9 1 V m2 (strV vs)) : LfR w (ks, vs) K V := by
  have e1 : m = ks.length := by have := h1.1; rw [strV_length] at this; omega
  have e2 : m2 = vs.length := by have := h2.1; rw [strV_length] at this; omega
  subst e1 e2
  exact ⟨World.ownsRow.mono h1 (Nat.zero_le _), World.ownsRow.mono h2 (Nat.zero_le _)⟩
theorem own_noneP {w : World} {B n c : Nat} {e : TypeId} {xs : List Value} (h : w.ownsRow B e 1 (.slice none n c) n xs) : c = 0 := by
  rcases h.2 with ⟨h1, _⟩ | ⟨g, cap, cur, h1, _⟩
  · injection h1
  · cases h1
theorem LfR.nd {w : World} {p : PartM} {K V : Value} (h : LfR w p K V) (hf : formB (ndP p) = true) (n : Nat) (hn : n = p.1.length) (hl : n ≤ 1000000) : ∃ A B ca cb, K = .slice A n ca ∧ V = .slice B n cb ∧ Nd w ⟨true, p.1, p.2, []⟩ A B none n ca n cb 0 0 ∧ (A = none → ca = 0) ∧ (B = none → cb = 0) ∧ n ≤ ca ∧ n ≤ cb := by
  subst hn
  obtain ⟨hk, hv, hz⟩ := (leaf_form p.1 p.2).1 hf
  obtain ⟨A, ca, e1, n1, s1⟩ := own_shape h.ok
  obtain ⟨B, cb, e2, n2, s2⟩ := own_shape h.ov
  have ho := h.ok
  have ho2 := h.ov
  rw [e1] at ho
  rw [e2] at ho2
  rw [hv] at e2 n2
  refine ⟨A, B, ca, cb, e1, e2, ⟨rfl, hv.symm, rfl, s1, s2, Seg.nil _ _, by omega, by omega, by omega, n1, n2, Nat.le_refl _, fun s hs => ?_, fun s hs => ?_⟩, fun e => ?_, fun e => ?_, n1, n2⟩
  · have := (keyOk_size hk s hs).2; omega
  · have := hz s hs; omega
  · subst e; exact own_noneP ho
  · subst e; exact own_noneP ho2
/-- Rows of unlike types lie in unlike blocks. -/
theorem own_tyne2 {w : World} {B B2 n n2 z z2 : Nat} {e e2 : TypeId} {v u : Value} {xs ys : List Value} (h : w.ownsRow B e z v n xs) (h2 : w.ownsRow B2 e2 z2 u n2 ys) (hte : e ≠ e2) : ∀ k, v.ownBlock = some k → ¬ u.ownBlock = some k := by
  intro k hk hk2
  rcases h.2 with ⟨rfl, _⟩ | ⟨g, cap, cur, rfl, _, hg, _⟩
  · cases hk
  · rcases h2.2 with ⟨rfl, _⟩ | ⟨g2, cap2, cur2, rfl, _, hg2, _⟩
    · cases hk2
    · have e1 : g = k := by simpa [Value.ownBlock] using hk
      have e3 : g2 = k := by simpa [Value.ownBlock] using hk2
      subst e1
      subst e3
      rw [hg] at hg2
      injection hg2 with hg2
      injection hg2 with _ hg2
      exact hte hg2
theorem own_tyneB {w : World} {B n z g : Nat} {e t : TypeId} {v : Value} {xs : List Value} {cs : Array Value} (h : w.ownsRow B e z v n xs) (hb : Bk w g t cs) (hte : e ≠ t) : ¬ v.ownBlock = some g := by
  intro hk
  rcases h.2 with ⟨rfl, _⟩ | ⟨g2, cap, cur, rfl, _, hg, _⟩
  · cases hk
  · have e1 : g2 = g := by simpa [Value.ownBlock] using hk
    subst e1
    unfold Bk at hb
    rw [hg] at hb
    injection hb with hb
    injection hb with _ hb
    exact hte hb
/-- What lies in S is neither text's row nor a node but that at g6. -/
structure Far6 (S : Nat → Prop) (g6 : Nat) (w : World) : Prop where
  str : ∀ g cs, Bk w g 9 cs → ¬ S g
  node : ∀ g cs, Bk w g 30 cs → g ≠ g6 → ¬ S g
theorem own_far {w : World} {B n z : Nat} {e : TypeId} {v : Value} {xs : List Value} {S : Nat → Prop} (h : w.ownsRow B e z v n xs) (hS : ∀ g cs, Bk w g e cs → ¬ S g) : ∀ k, v.ownBlock = some k → ¬ S k := by
  intro k hk
  rcases h.2 with ⟨rfl, _⟩ | ⟨g2, cap, cur, rfl, _, hg, _⟩
  · cases hk
  · have e1 : g2 = k := by simpa [Value.ownBlock] using hk
    subst e1
    exact hS _ _ hg
theorem LfR.kp {w w' : World} {p : PartM} {K V : Value} {S S' : Nat → Prop} {g6 : Nat} (h : LfR w p K V) (hS : Far6 S g6 w) (k : Kp S S' w w') : LfR w' p K V :=
  ⟨k.own h.ok (own_far h.ok hS.str), k.own h.ov (own_far h.ov hS.str)⟩
theorem bk_type {w : World} {g : Nat} {t t' : TypeId} {cs ds : Array Value} (h : Bk w g t cs) (h2 : Bk w g t' ds) : t = t' := by
  unfold Bk at h h2
  rw [h] at h2
  injection h2 with h2
  injection h2
theorem far_pg {B gp : Nat} {room : Int} {l : List HeldM} {v : Value} {w : World} (hp : PgA B gp room l v w) (g6 : Nat) : Far6 (pS gp v) g6 w := by
  refine ⟨fun g cs hg hc => ?_, fun g cs hg _ hc => ?_⟩
  · rcases hc with rfl | hc
    · have := bk_type hg hp.bk; revert this; decide
    · exact own_tyneB hp.row hg (by decide) hc
  · rcases hc with rfl | hc
    · have := bk_type hg hp.bk; revert this; decide
    · exact own_tyneB hp.row hg (by decide) hc
theorem far_box {w : World} {g6 : Nat} {cs : Array Value} (h : Bk w g6 30 cs) : Far6 (fun j => j = g6) g6 w :=
  ⟨fun g ds hg hc => by subst hc; have := bk_type hg h; revert this; decide, fun g ds hg hne hc => hne hc⟩
theorem PgA.box {B gp g6 : Nat} {room : Int} {l : List HeldM} {v : Value} {w w' : World} {cs : Array Value} {S' : Nat → Prop} (h : PgA B gp room l v w) (hb : Bk w g6 30 cs) (k : Kp (fun j => j = g6) S' w w') : PgA B gp room l v w' := by
  refine h.kp k (fun j hj hc => ?_)
  subst hc
  rcases hj with rfl | hj
  · have := bk_type hb h.bk; revert this; decide
  · exact own_tyneB h.row hb (by decide) hj
/-- A part with its two rows. -/
structure ItM where
  p : PartM
  K : Value
  V : Value
def itV (x : ItM) : List Value := [.bool true, x.K, x.V, .slice none 0 0]
def rowI (l : List ItM) : List Value := l.flatMap itV
theorem rowI_append (a b : List ItM) : rowI (a ++ b) = rowI a ++ rowI b := by simp [rowI]
theorem rowI_length (l : List ItM) : (rowI l).length = l.length * 4 := by
  induction l with
  | nil => rfl
  | cons h l ih =>
    show (itV h ++ rowI l).length = _
    rw [List.length_append, ih, List.length_cons]
    show 4 + _ = _
    omega
theorem rowI_take (l : List ItM) (i : Nat) (hi : i ≤ l.length) : (rowI l).take (i * 4) = rowI (l.take i) := by
  have h := rowI_append (l.take i) (l.drop i)
  rw [List.take_append_drop] at h
  rw [h, List.take_append_of_le_length (by rw [rowI_length, List.length_take]; omega), List.take_of_length_le (by rw [rowI_length, List.length_take]; omega)]
theorem rowI_drop (l : List ItM) (i : Nat) (hi : i ≤ l.length) : (rowI l).drop (i * 4) = rowI (l.drop i) := by
  have h := rowI_append (l.take i) (l.drop i)
  rw [List.take_append_drop] at h
  rw [h, List.drop_append_of_le_length (by rw [rowI_length, List.length_take]; omega), List.drop_of_length_le (by rw [rowI_length, List.length_take]; omega)]
  rfl
theorem rowI_at {l : List ItM} {i k : Nat} (hi : i < l.length) (hk : k < 4) : (rowI l)[i * 4 + k]? = (itV l[i])[k]? := by
  rw [← List.getElem?_drop, rowI_drop l i (by omega), List.drop_eq_getElem_cons hi]
  show (itV l[i] ++ rowI _)[k]? = _
  rw [List.getElem?_append_left (by show k < 4; exact hk)]
/-- The parts, as data. -/
def psI (l : List ItM) : List PartM := l.map (·.p)
/-- The parts in their row. -/
structure PgQ (W : World) (g6 i : Nat) (its : List ItM) (b off np cp : Nat) (w : World) : Prop where
  bel : Below W.heap.size W w
  ge : W.heap.size ≤ g6
  ok : PartsOk (psI its)
  n : np = its.length
  nc : np ≤ cp
  sz : np ≤ i + 1
  ml : (flatK (psI its)).length ≤ i
  row : Seg w (some ⟨b, off, none⟩) (rowI its)
  bk : ∃ cs, Bk w b 30 cs
  ne : b ≠ g6
  each : ∀ x ∈ its, LfR w x.p x.K x.V
/-- The model in its box. -/
structure MdR (g6 : Nat) (p : PartM) (K V : Value) (w : World) : Prop where
  mb : Bk w g6 30 #[.bool true, K, V, .slice none 0 0]
  mr : LfR w p K V
section
variable {W w w' : World} {g6 i : Nat} {its : List ItM} {p : PartM} {K V v : Value} {b off np cp : Nat}
theorem PgQ.next (h : PgQ W g6 i its b off np cp w) (hb : Below w.heap.size w w') : PgQ W g6 i its b off np cp w' :=
  ⟨h.bel.trans (hb.mono h.bel.size), h.ge, h.ok, h.n, h.nc, h.sz, h.ml, h.row.bel hb, h.bk.imp fun _ k => k.bel hb, h.ne, fun x hx => (h.each x hx).bel hb⟩
theorem PgQ.up (h : PgQ W g6 i its b off np cp w) : PgQ W g6 (i + 1) its b off np cp w :=
  ⟨h.bel, h.ge, h.ok, h.n, h.nc, Nat.le_succ_of_le h.sz, Nat.le_succ_of_le h.ml, h.row, h.bk, h.ne, h.each⟩
theorem MdR.next (h : MdR g6 p K V w) (hb : Below w.heap.size w w') : MdR g6 p K V w' := ⟨h.mb.bel hb, h.mr.bel hb⟩
theorem PgQ.kp {S S' : Nat → Prop} (h : PgQ W g6 i its b off np cp w) (hS : Far6 S g6 w) (hge : ∀ j, S j → W.heap.size ≤ j) (k : Kp S S' w w') : PgQ W g6 i its b off np cp w' := by
  obtain ⟨cs, hcs⟩ := h.bk
  refine ⟨h.bel.trans (k.below hge h.bel.size), h.ge, h.ok, h.n, h.nc, h.sz, h.ml, k.seg h.row (fun p hp2 => ?_), ⟨cs, k.bk hcs (hS.node _ _ hcs h.ne)⟩, h.ne, fun x hx => (h.each x hx).kp hS k⟩
  injection hp2 with hp2
  subst hp2
  exact hS.node _ _ hcs h.ne
theorem PgA.far {B gp : Nat} {room : Int} {l : List HeldM} (h : PgA B gp room l v w) : ∀ j, pS gp v j → B ≤ j := by
  intro j hj
  rcases hj with rfl | hj
  · exact h.ge
  · exact (h.row.lt j hj).1
theorem MdR.pg {B gp : Nat} {room : Int} {l : List HeldM} {S' : Nat → Prop} (h : MdR g6 p K V w) (hp : PgA B gp room l v w) (k : Kp (pS gp v) S' w w') : MdR g6 p K V w' :=
  ⟨k.bk h.mb (fun hc => (far_pg hp (g6 + 1)).node _ _ h.mb (by omega) hc), h.mr.kp (far_pg hp g6) k⟩
/-- The model's box written. -/
theorem Md_store {K' V' : Value} {p' : PartM} (h : MdR g6 p K V w) (hl : LfR w p' K' V') : MdR g6 p' K' V' ((((w.setCell ⟨g6, 0, none⟩ (.bool true)).setCell ⟨g6, 1, none⟩ K').setCell ⟨g6, 2, none⟩ V').setCell ⟨g6, 3, none⟩ (.slice none 0 0)) ∧ Kp (fun j => j = g6) (fun j => j = g6) w ((((w.setCell ⟨g6, 0, none⟩ (.bool true)).setCell ⟨g6, 1, none⟩ K').setCell ⟨g6, 2, none⟩ V').setCell ⟨g6, 3, none⟩ (.slice none 0 0)) := by
  have k : Kp (fun j => j = g6) (fun j => j = g6) w ((((w.setCell ⟨g6, 0, none⟩ (.bool true)).setCell ⟨g6, 1, none⟩ K').setCell ⟨g6, 2, none⟩ V').setCell ⟨g6, 3, none⟩ (.slice none 0 0)) :=
    ((((Kp.refl (fun j => j = g6) w).setCell (p := ⟨g6, 0, none⟩) (Or.inl (Eq.refl g6)) _).setCell (p := ⟨g6, 1, none⟩) (Or.inl (Eq.refl g6)) _).setCell (p := ⟨g6, 2, none⟩) (Or.inl (Eq.refl g6)) _).setCell (p := ⟨g6, 3, none⟩) (Or.inl (Eq.refl g6)) _
  refine ⟨⟨?_, hl.kp (far_box h.mb) k⟩, k⟩
  have := (((h.mb.put 0 (.bool true)).put 1 K').put 2 V').put 3 (.slice none 0 0)
  simpa using this
end
theorem run_append_els {P : Program} (w : World) (base : Nat) (t ty e : TypeId) (i : TypeInfo) (z : Value) (size bytes : Nat) (ht : P.underlying t = some (.slice e)) (hi : P.info? e = some i) (hz : i.zero = some z)
    (hsize : i.size = size) (hby : i.bytes = bytes) (hzs : z.cells.size = size) (h0 : 0 < size)
    (v : Value) (n : Nat) (xs : List Value) (hown : w.ownsRow base e size v n xs) (b off : Nat) (m c : Nat) (news : List Value) (hm : news.length = m * size) (hr : ∀ j u, news[j]? = some u → w.cell? ⟨b, off + j, none⟩ = some u) (h1 : ∀ u ∈ news, u.oneCell' = true)
    (h63 : n + m ≤ maxLen) (hbytes : (n + m) * bytes ≤ 140737488355328) (hbase : base ≤ w.heap.size) :
    ∃ v' w', (Builtin.append_ #[t, t] ty #[v, .slice (some ⟨b, off, none⟩) m c]).run P w = .ok v' w' ∧ w'.ownsRow base e size v' (n + m) (xs ++ news) ∧ Below base w w' ∧ w.grownBy w' v.ownBlock := by
  obtain ⟨v', w', hrun, h2, h3, _⟩ := run_append_own (P := P) w base t ty e i z size bytes ht hi hz hsize hby hzs h0 v n xs hown ⟨b, off, none⟩ m c news (by omega) (fun j u hj => by
    rw [show ((⟨b, off, none⟩ : Addr).add j) = ⟨b, off + j, none⟩ by unfold Addr.add; split <;> simp_all]
    exact hr j u hj) h1 h63 hbytes hbase
  exact ⟨v', w', hrun, h2, (Below.refl base w).grown h3 hbase (fun k hk => (hown.lt k hk).1), h3⟩
theorem info_node : (Try.prog.info? 30).map (fun i => (i.zero, i.size, i.bytes)) = some (some (.agg #[.bool false, .slice none 0 0, .slice none 0 0, .slice none 0 0]), 4, 80) := by kernel_rfl
theorem LfR.one {w : World} {p : PartM} {K V : Value} (h : LfR w p K V) : K.oneCell' = true ∧ V.oneCell' = true := by
  obtain ⟨A, c, rfl, _⟩ := own_shape h.ok
  obtain ⟨B, d, rfl, _⟩ := own_shape h.ov
  exact ⟨rfl, rfl⟩
theorem rowI_one {w : World} {l : List ItM} (h : ∀ x ∈ l, LfR w x.p x.K x.V) : ∀ u ∈ rowI l, u.oneCell' = true := by
  intro u hu
  obtain ⟨x, hx, hu⟩ := List.mem_flatMap.1 hu
  obtain ⟨h1, h2⟩ := (h x hx).one
  simp only [itV, List.mem_cons, List.not_mem_nil, or_false] at hu
  rcases hu with rfl | rfl | rfl | rfl
  · rfl
  · exact h1
  · exact h2
  · rfl
theorem nodeV_lf {w0 w : World} {p : PartM} {v : Value} (h : NodeV w0 (ndP p) v w) : ∃ K V, v = .agg #[.bool true, K, V, .slice none 0 0] ∧ LfR w p K V := by
  obtain ⟨a1, a2, a3, e, h1, h2, h3, h4⟩ := h
  have h4 := h4 rfl
  subst h4
  exact ⟨a1, a2, e, LfR.of h1 h2⟩
theorem own_grownP {w w' : World} {B n z : Nat} {e : TypeId} {u v : Value} {xs : List Value} (h : w.ownsRow B e z u n xs) (k : w.grownBy w' v.ownBlock) (ap : ∀ j, u.ownBlock = some j → ¬ v.ownBlock = some j) : w'.ownsRow B e z u n xs := by
  cases hv : v.ownBlock with
  | none =>
    rw [hv] at k
    cases hu : u.ownBlock with
    | none => exact h.kept k (Or.inl hu)
    | some b => exact h.kept k (Or.inr (by rw [hu]; exact fun e => by cases e))
  | some b =>
    rw [hv] at k
    exact h.kept k (Or.inr (fun e => ap b e hv))
/-- Parts appended to a row of one's own, out of memory. -/
theorem app_parts (w : World) (base : Nat) (ty : TypeId) (hbase : base ≤ w.heap.size) (v : Value) (n : Nat) (xs : List ItM) (hown : w.ownsRow base 30 4 v n (rowI xs)) (b off m c : Nat) (news : List ItM) (hm : news.length = m) (hs : n + m ≤ 1000)
    (hr : ∀ j, j < m * 4 → w.cell? ⟨b, off + j, none⟩ = (rowI news)[j]?) (h1 : ∀ x ∈ news, LfR w x.p x.K x.V) :
    ∃ v' w', (Builtin.append_ #[31, 31] ty #[v, .slice (some ⟨b, off, none⟩) m c]).run Try.prog w = .ok v' w' ∧ w'.ownsRow base 30 4 v' (n + m) (rowI (xs ++ news)) ∧ Below base w w' ∧ ∀ p K V, LfR w p K V → LfR w' p K V := by
  obtain ⟨i0, hi0, hz0, hz1, hz2⟩ := info_parts info_node
  rw [rowI_append]
  obtain ⟨v', w', h1', h2', h3', h4'⟩ := run_append_els w base _ ty _ i0 _ 4 80 Try.underlying31 hi0 hz0 hz1 hz2 rfl (by decide) v n (rowI xs) hown b off m c (rowI news) (by rw [rowI_length, hm]) (fun j u hj => by
    rcases Nat.lt_or_ge j (m * 4) with h | h
    · rw [hr j h]; exact hj
    · rw [List.getElem?_eq_none (by rw [rowI_length, hm]; exact h)] at hj; cases hj) (rowI_one h1) (by simp only [maxLen]; omega) (by omega) hbase
  exact ⟨v', w', h1', h2', h3', fun p K V h => ⟨own_grownP h.ok h4' (own_tyne2 h.ok hown (by decide)), own_grownP h.ov h4' (own_tyne2 h.ov hown (by decide))⟩⟩
theorem own_bel4 {w w' : World} {base n : Nat} {v : Value} {xs : List Value} (h : w.ownsRow base 30 4 v n xs) (hb : Below w.heap.size w w') : w'.ownsRow base 30 4 v n xs := own_belS h hb
/-- The parts with a pair more, in a row that is new. -/
theorem PgQ.step {W w0 w : World} {g6 i : Nat} {its its' : List ItM} {b off np cp B np' : Nat} {v' : Value} {x y : ByteArray} (h : PgQ W g6 i its b off np cp w0) (hb : Below w0.heap.size w0 w) (hg : g6 < w0.heap.size) (hB : w0.heap.size ≤ B) (hps : psI its' = stepP (psI its) x y) (h1 : 1 ≤ x.size) (h2 : x.size ≤ 20) (h3 : y.size ≤ 100)
    (ho : w.ownsRow B 30 4 v' np' (rowI its')) (each : ∀ x ∈ its', LfR w x.p x.K x.V) : ∃ b' cp', v' = .slice (some ⟨b', 0, none⟩) np' cp' ∧ PgQ W g6 (i + 1) its' b' 0 np' cp' w := by
  have hk := step_ok (y := y) h.ok h1 h2 h3
  rw [← hps] at hk
  have hn : np' = its'.length := by have := ho.1; rw [rowI_length] at this; omega
  have hpos : 0 < its'.length := by
    rcases Nat.eq_zero_or_pos its'.length with h0 | h0
    · exact absurd (by unfold psI; rw [List.eq_nil_of_length_eq_zero h0]; rfl) hk.some
    · exact h0
  rcases ho.2 with ⟨_, h0⟩ | ⟨g, cap, cur, e, hge, hgg, hnc, hm, hs, ht⟩
  · omega
  · have hl : its'.length ≤ i + 2 := by
      have e1 : its'.length = (psI its').length := by simp [psI]
      have e2 : its.length = (psI its).length := by simp [psI]
      have := step_length (psI its) x y h.ok.some
      have h4 := h.sz
      have h5 := h.n
      rw [e1, hps]; omega
    refine ⟨g, cap, e, ⟨h.bel.trans (hb.mono h.bel.size), h.ge, hk, hn, hnc, by omega, ?_, Seg.of_block hgg (fun j hj => ?_), ⟨cur, hgg⟩, by omega, each⟩⟩
    · rw [hps, (step_flat h.ok h1).1, setK_length h.ok.keys]
      have := h.ml
      split <;> omega
    · rw [← ht, List.getElem?_take, if_pos (by rw [rowI_length] at hj; omega), Array.getElem?_toList]
end Go.Proofs.Ytopkkolcimmedaa
