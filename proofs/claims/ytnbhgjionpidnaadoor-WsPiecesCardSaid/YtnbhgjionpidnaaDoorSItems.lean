/- What a reader reads until it gives up. Conditions: the reader lies in memory; the tables of UTF-8 are laid. -/
import Derived.Test.YtnbhgjionpidnaaDoorSCatch2
namespace Go.Proofs.YtnbhgjionpidnaaDoor
open Go.RowKit

def ifF (gr : Nat) (mk : Bool) (B : Nat) (W : World) (fm : FrM × (Nat → Nat)) (kind : Nat) (text : ByteArray) (l' : List Nat) (s : Option (Nat × ByteArray)) (ik ic : Nat) (it : ByteArray) (b : Bool) (j : Nat) (v u : Value) (w : World) : Prop := match j with
  | 0 => v = .pointer (some ⟨gr, 0, none⟩)
  | 1 => v = .pointer (some ⟨gr, 0, none⟩)
  | 2 => v = frV fm.1 fm.2 ∧ (RdL B gr mk kind text l' w ∨ RdT B gr mk s l' w)
  | 3 => v = .tuple #[.agg #[.int .i64 (ik : Nat), .string it, .int .i64 (ic : Nat)], .bool b] ∧ RdT B gr mk s l' w
  | 4 => v = .tuple #[.agg #[.int .i64 (ik : Nat), .string it, .int .i64 (ic : Nat)], .bool b]
  | 5 => v = .agg #[.int .i64 (ik : Nat), .string it, .int .i64 (ic : Nat)]
  | 6 => v = .bool b
  | 7 => ∃ g, v = .pointer (some ⟨g, 0, none⟩) ∧ W.heap.size ≤ g ∧ ∃ c0 c1 c2, Bk w g 56 #[c0, c1, c2]
  | 8 => ∃ g, u = .pointer (some ⟨g, 0, none⟩) ∧ W.heap.size ≤ g ∧ Bk w g 56 #[.int .i64 (ik : Nat), .string it, .int .i64 (ic : Nat)]
  | 9 => v = .bool b
  | _ => True
def ifH (gr : Nat) (mk : Bool) (B : Nat) (kind : Nat) (text : ByteArray) (l l' : List Nat) (m : Nat) (w : World) : Prop := match m with
  | 2 => RdL B gr mk kind text l w
  | 3 => RdL B gr mk kind text l w ∨ RdL B gr mk kind text l' w
  | _ => True
/-- Where the item gives a code. -/
def ibF (gr : Nat) (mk : Bool) (B : Nat) (W : World) (fm : FrM × (Nat → Nat)) (kind : Nat) (text : ByteArray) (l' : List Nat) (j : Nat) (v _u : Value) (w : World) : Prop := match j with
  | 0 => v = .pointer (some ⟨gr, 0, none⟩)
  | 1 => v = .pointer (some ⟨gr, 0, none⟩)
  | 2 => v = frV fm.1 fm.2 ∧ RdL B gr mk kind text l' w
  | 7 => ∃ g, v = .pointer (some ⟨g, 0, none⟩) ∧ W.heap.size ≤ g ∧ ∃ c0 c1 c2, Bk w g 56 #[c0, c1, c2]
  | _ => False
/-- Where the frame gives a code. -/
def inF (gr : Nat) (W : World) (j : Nat) (v _u : Value) (w : World) : Prop := match j with
  | 0 => v = .pointer (some ⟨gr, 0, none⟩)
  | 1 => v = .pointer (some ⟨gr, 0, none⟩)
  | 7 => ∃ g, v = .pointer (some ⟨g, 0, none⟩) ∧ W.heap.size ≤ g ∧ ∃ c0 c1 c2, Bk w g 56 #[c0, c1, c2]
  | _ => False
def inH (gr : Nat) (mk : Bool) (B : Nat) (kind : Nat) (text : ByteArray) (l : List Nat) (m : Nat) (w : World) : Prop := match m with
  | 2 => RdL B gr mk kind text l w
  | _ => True
section
variable {gr B : Nat} {mk : Bool} {W w w' : World} {fm : FrM × (Nat → Nat)} {kind ik ic : Nat} {text it : ByteArray} {l l' : List Nat} {s : Option (Nat × ByteArray)} {b : Bool}
theorem RdT.bel (h : RdT B gr mk s l w) (hb : Below w.heap.size w w') : RdT B gr mk s l w' := by
  obtain ⟨A, c, h1, h2, h3, h4⟩ := h
  exact ⟨A, c, h1.bel hb, h2, h3.bel hb, h4⟩
theorem RdL.set (h : RdL B gr mk kind text l w) {g : Nat} (hg : gr ≠ g) (hB : B ≤ g) (i : Nat) (x : Value) : RdL B gr mk kind text l (w.setCell ⟨g, i, none⟩ x) := by
  obtain ⟨A, c, h1, h2, h3, h4⟩ := h
  exact ⟨A, c, h1.far (p := ⟨g, i, none⟩) hg x, h2, h3.kept (Kept1.set w g i x) (fun a e => by have := h4 a e; omega), h4⟩
theorem RdT.set (h : RdT B gr mk s l w) {g : Nat} (hg : gr ≠ g) (hB : B ≤ g) (i : Nat) (x : Value) : RdT B gr mk s l (w.setCell ⟨g, i, none⟩ x) := by
  obtain ⟨A, c, h1, h2, h3, h4⟩ := h
  exact ⟨A, c, h1.far (p := ⟨g, i, none⟩) hg x, h2, h3.kept (Kept1.set w g i x) (fun a e => by have := h4 a e; omega), h4⟩
/-- Behind a call of the reader a box is still there. -/
theorem bk_kq {g : Nat} {t : TypeId} {cs : Array Value} (h : Bk w g t cs) (k : KQ gr w w') (hg : g ≠ gr) : Bk w' g t cs := bk_kept h hg k.kept
theorem ifF_bel (hb : Below w.heap.size w w') : ∀ j u u', ifF gr mk B W fm kind text l' s ik ic it b j u u' w → ifF gr mk B W fm kind text l' s ik ic it b j u u' w' := by
  intro j u u' h
  unfold ifF at *
  split at h <;> first | exact h | exact ⟨h.1, h.2.imp (·.bel hb) (·.bel hb)⟩ | exact ⟨h.1, h.2.bel hb⟩ | (obtain ⟨g, h1, h2, c0, c1, c2, h3⟩ := h; exact ⟨g, h1, h2, c0, c1, c2, h3.bel hb⟩) | (obtain ⟨g, h1, h2, h3⟩ := h; exact ⟨g, h1, h2, h3.bel hb⟩)
theorem ifH_bel (hb : Below w.heap.size w w') : ∀ m, ifH gr mk B kind text l l' m w → ifH gr mk B kind text l l' m w' := by
  intro m h
  unfold ifH at *
  split at h <;> first | exact h | exact h.imp (·.bel hb) (·.bel hb) | exact h.bel hb
theorem ibF_bel (hb : Below w.heap.size w w') : ∀ j u u', ibF gr mk B W fm kind text l' j u u' w → ibF gr mk B W fm kind text l' j u u' w' := by
  intro j u u' h
  unfold ibF at *
  split at h <;> first | exact h | exact ⟨h.1, h.2.bel hb⟩ | (obtain ⟨g, h1, h2, c0, c1, c2, h3⟩ := h; exact ⟨g, h1, h2, c0, c1, c2, h3.bel hb⟩)
theorem inF_bel (hb : Below w.heap.size w w') : ∀ j u u', inF gr W j u u' w → inF gr W j u u' w' := by
  intro j u u' h
  unfold inF at *
  split at h <;> first | exact h | (obtain ⟨g, h1, h2, c0, c1, c2, h3⟩ := h; exact ⟨g, h1, h2, c0, c1, c2, h3.bel hb⟩)
theorem inH_bel (hb : Below w.heap.size w w') : ∀ m, inH gr mk B kind text l m w → inH gr mk B kind text l m w' := by
  intro m h
  unfold inH at *
  split at h <;> first | exact h | exact h.bel hb
/-- A call of the reader: boxes made since stay. -/
theorem ifF_call (k : KQ gr w w') (hg : gr < W.heap.size) : ∀ j, j ≠ 2 → j ≠ 3 → ∀ u u', ifF gr mk B W fm kind text l' s ik ic it b j u u' w → ifF gr mk B W fm kind text l' s ik ic it b j u u' w' := by
  intro j h2 h3 u u' h
  unfold ifF at *
  split at h <;> first | exact h | exact absurd rfl h2 | exact absurd rfl h3 | (obtain ⟨g, h1, h2, c0, c1, c2, h3⟩ := h; exact ⟨g, h1, h2, c0, c1, c2, bk_kq h3 k (by omega)⟩) | (obtain ⟨g, h1, h2, h3⟩ := h; exact ⟨g, h1, h2, bk_kq h3 k (by omega)⟩)
theorem ibF_call (k : KQ gr w w') (hg : gr < W.heap.size) : ∀ j, j ≠ 2 → ∀ u u', ibF gr mk B W fm kind text l' j u u' w → ibF gr mk B W fm kind text l' j u u' w' := by
  intro j h2 u u' h
  unfold ibF at *
  split at h <;> first | exact h | exact absurd rfl h2 | (obtain ⟨g, h1, h2, c0, c1, c2, h3⟩ := h; exact ⟨g, h1, h2, c0, c1, c2, bk_kq h3 k (by omega)⟩)
theorem ifF_set {g : Nat} (hg : gr < W.heap.size) (hgW : W.heap.size ≤ g) (hB : B ≤ g) (i : Nat) (x : Value) : ∀ j, j ≠ 7 → j ≠ 8 → ∀ u u', ifF gr mk B W fm kind text l' s ik ic it b j u u' w → ifF gr mk B W fm kind text l' s ik ic it b j u u' (w.setCell ⟨g, i, none⟩ x) := by
  intro j h7 h8 u u' h
  have hne : gr ≠ g := by omega
  unfold ifF at *
  split at h <;> first | exact h | exact absurd rfl h7 | exact absurd rfl h8 | exact ⟨h.1, h.2.imp (·.set hne hB i x) (·.set hne hB i x)⟩ | exact ⟨h.1, h.2.set hne hB i x⟩
theorem ifH_set {g : Nat} (hg : gr < W.heap.size) (hgW : W.heap.size ≤ g) (hB : B ≤ g) (i : Nat) (x : Value) : ∀ m, ifH gr mk B kind text l l' m w → ifH gr mk B kind text l l' m (w.setCell ⟨g, i, none⟩ x) := by
  intro m h
  have hne : gr ≠ g := by omega
  unfold ifH at *
  split at h <;> first | exact h | exact h.imp (·.set hne hB i x) (·.set hne hB i x) | exact h.set hne hB i x
/-- The reader isn't ahead of the frame and behind it at once. -/
theorem rd_once (h1 : RdL B gr mk kind text l w) (h2 : RdL B gr mk kind text l' w) (hlt : l'.length < l.length) : False := by
  have e1 := leftN_L h1
  have e2 := leftN_L h2
  omega
theorem rd_twice (h1 : RdL B gr mk kind text l w) (h2 : RdT B gr mk s l' w) (hlt : l'.length < l.length) : False := by
  obtain ⟨A, c, a1, _⟩ := h1
  obtain ⟨A', c', b1, _⟩ := h2
  cases s with
  | none =>
    have x1 : w.cell? ⟨gr, 4, none⟩ = some (.bool false) := a1.cell 4
    have x2 : w.cell? ⟨gr, 4, none⟩ = some (.bool true) := b1.cell 4
    rw [x1] at x2
    cases x2
  | some kt =>
    have x1 : w.cell? ⟨gr, 1, none⟩ = some (.slice A l.length c) := a1.cell 1
    have x2 : w.cell? ⟨gr, 1, none⟩ = some (.slice A' l'.length c') := b1.cell 1
    rw [x1] at x2
    injection x2 with x2
    injection x2 with _ x2 _
    omega
end
/-- A frame, whatever is left. -/
theorem frame_R (gr : Nat) (mk : Bool) (B kind : Nat) (text : ByteArray) (l : List Nat) (hz : l.length ≤ 1000000) (hl : ∀ x ∈ l, x < 256) (htz : text.size ≤ 4096) (w : World) (h : RdL B gr mk kind text l w) (hB : B ≤ w.heap.size) :
    Calls Tryd.prog 44 #[.pointer (some ⟨gr, 0, none⟩)] w fun e w' => KQ gr w w' ∧ match frameN mk kind text.size l with
      | .ok fm l' => e = .returned (frV fm.1 fm.2) ∧ RdL B gr mk kind text l' w'
      | .no z => e = .panicked (giveE z) ∧ RdL B gr mk kind text l w' := by
  obtain ⟨A, c, h1, h2, h3, h4⟩ := h
  refine (frame_any B gr mk A l.length c kind text l rfl h2 hz hl w h1 h3 h4 hB htz).mono ?_
  rintro e w' ⟨hk, hm⟩
  refine ⟨hk, ?_⟩
  cases hf : frameN mk kind text.size l with
  | ok fm l' =>
    rw [hf] at hm
    obtain ⟨A', c', e1, b1, b2, b3, b4⟩ := hm
    exact ⟨e1, A', c', b1, b2, b3, b4⟩
  | no z =>
    rw [hf] at hm
    exact ⟨hm.1, A, c, hm.2, h2, seg_ne h1 h3 (fun _ h => by cases h) hk.kept, h4⟩
theorem own_sliceS {w : World} {B n size : Nat} {e : TypeId} {v : Value} {xs : List Value} (h : w.ownsRow B e size v n xs) : ∃ A c, v = .slice A n c := by
  rcases h.2 with ⟨rfl, rfl⟩ | ⟨g, cap, _, rfl, _⟩
  · exact ⟨none, 0, rfl⟩
  · exact ⟨_, _, rfl⟩
/-- A result that is stored where it lies. -/
theorem ItG.again {gr g1 g2 : Nat} {w w1 : World} {v : Value} {done : List ItM} (h : ItG gr g1 g2 w v done w1) : ItG gr g1 g2 w v done (w1.setCell ⟨g2, 0, none⟩ v) ∧ Kept1 g2 w1 (w1.setCell ⟨g2, 0, none⟩ v) := by
  have e1 := h.e1
  have e2 := h.e2
  have lt := h.lt
  have k := Kept1.set w1 g2 0 v
  refine ⟨⟨⟨h.kq.bel.setCell (p := ⟨g2, 0, none⟩) (by show gr ≤ g2; omega) _, ⟨Nat.le_trans h.kq.kept.size k.size, fun b hb hn => ?_⟩⟩, bk_kept h.b1 (by omega) k, h.b2.put 0 v, own_keptS h.own (own_tyneS h.own h.b2 (by decide)) k, ?_, e1, e2, lt⟩, k⟩
  · rw [k.block b (Nat.lt_of_lt_of_le hb h.kq.kept.size) (by omega)]
    exact h.kq.kept.block b hb hn
  · obtain ⟨w00, t1, t2, t3⟩ := h.tab
    exact ⟨w00, t1, t2.setCell (p := ⟨g2, 0, none⟩) (by show w00.heap.size ≤ g2; omega) _, t3⟩
def ItH (gr g1 g2 : Nat) (w : World) (v : Value) (done : List ItM) (W w1 : World) : Prop := ItG gr g1 g2 w v done w1 ∧ W.heap.size ≤ w1.heap.size
theorem ItH.bel {gr g1 g2 : Nat} {w W w1 w2 : World} {v : Value} {done : List ItM} (h : ItH gr g1 g2 w v done W w1) (hb : Below w1.heap.size w1 w2) : ItH gr g1 g2 w v done W w2 := ⟨h.1.bel hb, Nat.le_trans h.2 hb.size⟩
theorem ItH.call {gr g1 g2 : Nat} {w W w1 w2 : World} {v : Value} {done : List ItM} (h : ItH gr g1 g2 w v done W w1) (k : KQ gr w1 w2) : ItH gr g1 g2 w v done W w2 := ⟨h.1.call k, Nat.le_trans h.2 k.kept.size⟩
/-- The call's end. -/
def ItsPost (gr : Nat) (mk : Bool) (w : World) (R : List ItM × Option (Nat × ByteArray × List Nat)) (e : Ending) (w' : World) : Prop := KQ gr w w' ∧ ∃ v, e = .returned v ∧ w'.ownsRow w.heap.size 56 3 v R.1.length (itsL R.1) ∧ ∃ B, RdS B gr mk R.2 w' ∧ B ≤ w'.heap.size
def LpB (done : List ItM) (st : Option (Nat × ByteArray × List Nat)) : Prop := done.length ≤ 20001 ∧ ∀ k t l, st = some (k, t, l) → k ≤ 2 ∧ t.size ≤ 4096 ∧ done.length + l.length ≤ 20000 ∧ ∀ x ∈ l, x < 256
theorem RdT.kept {B gr g : Nat} {mk : Bool} {s : Option (Nat × ByteArray)} {l : List Nat} {w w' : World} (h : RdT B gr mk s l w) (hg : gr ≠ g) (hB : B ≤ g) (k : Kept1 g w w') : RdT B gr mk s l w' := by
  obtain ⟨A, c, h1, h2, h3, h4⟩ := h
  exact ⟨A, c, bk_kept h1 hg k, h2, h3.kept k (fun a e => by have := h4 a e; omega), h4⟩
theorem next_st {B gr : Nat} {mk : Bool} {s : Option (Nat × ByteArray)} {l' : List Nat} {w : World} (h : RdT B gr mk s l' w) : RdS B gr mk (withL s l') w ∧ leftN gr w ≤ l'.length := by
  obtain ⟨A, c, h1, h2, h3, h4⟩ := h
  cases s with
  | none => exact ⟨h1, by rw [leftN_end h1]; omega⟩
  | some kt =>
    have h : RdL B gr mk kt.1 kt.2 l' w := ⟨A, c, h1, h2, h3, h4⟩
    exact ⟨h, by rw [leftN_L h]; exact Nat.le_refl _⟩
theorem next_b {mk : Bool} {kind : Nat} {text : ByteArray} {l l' : List Nat} {fm : FrM × (Nat → Nat)} {i : Option ItM} {s : Option (Nat × ByteArray)} {done : List ItM} (hf : frameN mk kind text.size l = .ok fm l') (hi : itemD kind text fm.1 = .ok (i, s)) (hb : kind ≤ 2 ∧ text.size ≤ 4096 ∧ done.length + l.length ≤ 20000 ∧ ∀ x ∈ l, x < 256) : LpB (done ++ i.toList) (withL s l') := by
  obtain ⟨h1, h2, h3, d, hd⟩ := frameN_ok hf
  have hlen := frameN_len hf
  obtain ⟨b1, b2, b3, b4⟩ := hb
  have hi1 : i.toList.length ≤ 1 := by cases i <;> simp
  refine ⟨by rw [List.length_append]; omega, fun k t l2 e => ?_⟩
  cases s with
  | none => cases e
  | some kt =>
    obtain ⟨k1, t1⟩ := kt
    simp only [withL, Option.map_some, Option.some.injEq, Prod.mk.injEq] at e
    obtain ⟨rfl, rfl, rfl⟩ := e
    obtain ⟨c1, c2⟩ := itemD_st b1 b2 hi h2 (by omega)
    refine ⟨c1, c2, by rw [List.length_append]; omega, fun x hx => b4 x ?_⟩
    rw [hd] at hx
    exact List.mem_of_mem_drop hx
theorem closedN_code {p : ByteArray} {c : Nat} (h : closedN p = .error c) : c ≠ 0 := by
  unfold closedN at h
  split at h
  · cases h
  · split at h
    · cases h; decide
    · split at h
      · cases h; decide
      · split at h
        · cases h; decide
        · cases h
theorem itemD_code {kind c : Nat} {text : ByteArray} {f : FrM} (h : itemD kind text f = .error c) : c ≠ 0 := by
  unfold itemD at h
  obtain ⟨K, hK⟩ : ∃ K, K = if f.op = 1 ∨ f.op = 2 then f.op else kind := ⟨_, rfl⟩
  rw [← hK] at h
  by_cases h8 : f.op = 8
  · rw [if_pos h8] at h
    cases hc : closedN f.pay with
    | error c2 => rw [hc] at h; cases h; exact closedN_code hc
    | ok i => rw [hc] at h; cases h
  · rw [if_neg h8] at h
    by_cases h9 : f.op = 9 ∨ f.op = 10
    · rw [if_pos h9] at h; cases h
    · rw [if_neg h9] at h
      by_cases hf : f.fin = false
      · rw [if_pos hf] at h; cases h
      · rw [if_neg hf] at h
        by_cases hv : K = 1 ∧ Lib.validD (text ++ f.pay).data.toList = false
        · rw [if_pos hv] at h; cases h; decide
        · rw [if_neg hv] at h; cases h
theorem okV_parts (i : Option ItM) : ∃ ik it ic b, okV i = .tuple #[.agg #[.int .i64 (ik : Nat), .string it, .int .i64 (ic : Nat)], .bool b] ∧ (i = none ∧ b = false ∨ i = some ⟨ik, it, ic⟩ ∧ b = true) := by
  cases i with
  | none => exact ⟨0, ⟨#[]⟩, 0, false, rfl, Or.inl ⟨rfl, rfl⟩⟩
  | some i => exact ⟨i.kind, i.text, i.code, true, rfl, Or.inr ⟨rfl, rfl⟩⟩
theorem inH_oth {gr : Nat} {mk : Bool} {B kind : Nat} {text : ByteArray} {l : List Nat} {m : Nat} (w : World) (hm : m ≠ 2) : inH gr mk B kind text l m w := by
  unfold inH
  split
  · exact absurd rfl hm
  · trivial
theorem ifH_oth {gr : Nat} {mk : Bool} {B kind : Nat} {text : ByteArray} {l l' : List Nat} {m : Nat} (w : World) (hm : m ≠ 2) (h3 : m ≠ 3) : ifH gr mk B kind text l l' m w := by
  unfold ifH
  split
  · exact absurd rfl hm
  · exact absurd rfl h3
  · trivial
set_option maxRecDepth 100000 in
set_option maxHeartbeats 4000000 in
theorem items_any (gr : Nat) (mk : Bool) (kind : Nat) (text : ByteArray) (l : List Nat) (hk : kind ≤ 2) (ht : text.size ≤ 4096) (hz : l.length ≤ 20000) (hl : ∀ x ∈ l, x < 256) (w : World) (hT : TabG w gr) (h : RdL w.heap.size gr mk kind text l w) :
    Calls Tryd.prog 30 #[.pointer (some ⟨gr, 0, none⟩)] w (ItsPost gr mk w (restN mk (some (kind, text, l)))) := by
  have hmf : ∀ (fn : Fn) (first cap : Array Value) (w : World), (Instr.makeFunc fn first cap).run Tryd.prog w = .ok (.func fn first cap) w := fun _ _ _ _ => rfl
  obtain ⟨R, hR⟩ : ∃ x, x = restN mk (some (kind, text, l)) := ⟨_, rfl⟩
  rw [← hR]
  obtain ⟨wa, hwa⟩ : ∃ x, x = w.alloc (.cells #[.pointer (some ⟨gr, 0, none⟩)] 37) := ⟨_, rfl⟩
  obtain ⟨wb, hwb⟩ : ∃ x, x = wa.alloc (.cells #[.slice none 0 0] 42) := ⟨_, rfl⟩
  have hsa : wa.heap.size = w.heap.size + 1 := by rw [hwa]; simp
  have Ba : Below w.heap.size w wa := by rw [hwa]; exact (Below.refl _ _).alloc (Nat.le_refl _) _
  have Bb : Below w.heap.size w wb := by rw [hwb]; exact Ba.alloc Ba.size _
  obtain ⟨g1, hg1⟩ : ∃ g, g = w.heap.size := ⟨_, rfl⟩
  obtain ⟨g2, hg2⟩ : ∃ g, g = w.heap.size + 1 := ⟨_, rfl⟩
  have X1 : Bk wb g1 37 #[.pointer (some ⟨gr, 0, none⟩)] := by rw [hwb, hwa, hg1]; exact (Bk.new w _ _).alloc _
  have X2 : Bk wb g2 42 #[.slice none 0 0] := by rw [hwb, hg2, ← hsa]; exact Bk.new wa _ _
  have hlt := h.lt
  have HG0 := Lib.hid (show ItG gr g1 g2 w (.slice none 0 0) [] wb from ⟨KQ.of_below hlt Bb, X1, X2, World.ownsRow_nil _ _ _ _, hT.kq (KQ.of_below hlt Bb), hg1, hg2, hlt⟩)
  have HS0 := Lib.hid (show RdS w.heap.size gr mk (some (kind, text, l)) wb from h.bel Bb)
  have HB0 := Lib.hid (show LpB [] (some (kind, text, l)) from ⟨by simp, fun k t l1 e => by
    simp only [Option.some.injEq, Prod.mk.injEq] at e
    obtain ⟨rfl, rfl, rfl⟩ := e
    exact ⟨hk, ht, by simpa using hz, hl⟩⟩)
  have HR0 := Lib.hid (show R = ([] ++ (restN mk (some (kind, text, l))).1, (restN mk (some (kind, text, l))).2) by rw [hR, List.nil_append])
  have HWA := Lib.hid hwa
  have HWB := Lib.hid hwb
  have HG1 := Lib.hid hg1
  have HG2 := Lib.hid (show g1 + 1 = g2 by rw [hg1, hg2])
  have HG12 := Lib.hid (show g1 = w.heap.size ∧ g2 = w.heap.size + 1 from ⟨hg1, hg2⟩)
  clear hR hwa hwb hsa Ba Bb hg1 hg2 X1 X2 hlt hk ht hz hl hT h
  go_enter_defers Tryd.func30, Tryd.ntmps30
  go_upto_region 1 with fail
  rw [← HWA.out, ← HWB.out, ← HG1.out, HG2.out]
  go_wp2_with fail
  go_loopw [3, 4] (fun s3 s4 wx => ∃ v done st, Hid (ItG gr g1 g2 w v done wx) ∧ Hid (RdS w.heap.size gr mk st wx) ∧ Hid (LpB done st) ∧ Hid (R = (done ++ (restN mk st).1, (restN mk st).2))) (fun _ _ wx => leftN gr wx)
  case atStart => exact ⟨_, _, _, HG0, HS0, HB0, HR0⟩
  case round =>
    clear HG0 HS0 HB0 HR0 HWA HWB
    obtain ⟨v, done, st, HG, HS, HB, HR⟩ := hrel
    have y1 : wr.cell? ⟨g1, 0, none⟩ = some (.pointer (some ⟨gr, 0, none⟩)) := HG.out.b1.cell 0
    cases st with
    | none =>
      have y4 : wr.cell? ⟨gr, 4, none⟩ = some (.bool true) := HS.out.cell 4
      have y2 : wr.cell? ⟨g2, 0, none⟩ = some v := HG.out.b2.cell 0
      have z2 := HG.out.b2.frozen 0
      have RES := Lib.hid (show R.1 = done ∧ R.2 = none by
        rw [HR.out]
        exact ⟨List.append_nil _, rfl⟩)
      obtain ⟨Av, cv, hv⟩ := own_sliceS HG.out.own
      obtain ⟨m, hm⟩ : ∃ m, m = done.length := ⟨_, rfl⟩
      rw [← hm] at hv
      have HM := Lib.hid hm
      subst hv
      clear hm
      have hag := HG.out.again
      obtain ⟨wz, hwz⟩ : ∃ x, x = wr.setCell ⟨g2, 0, none⟩ (.slice Av m cv) := ⟨_, rfl⟩
      rw [← hwz] at hag
      have HAG := Lib.hid hag
      have HWZ := Lib.hid hwz
      have s0 : wz.cell? ⟨g2, 0, none⟩ = some (.slice Av m cv) := hag.1.b2.cell 0
      have FIN := Lib.hid (show ItsPost gr mk w R (.returned (.slice Av m cv)) wz from by
        refine ⟨hag.1.kq, _, rfl, by rw [RES.out.1, ← HM.out]; have := hag.1.own; rw [← HM.out] at this; exact this, wz.heap.size, ?_, Nat.le_refl _⟩
        rw [RES.out.2]
        exact bk_kept (show Bk wr gr 59 endC from HS.out) (by have := HG12.out; have := HG.out.lt; omega) hag.2)
      clear hag hwz RES HAG HS HB HR HM
      go_wp2_with fail
      rw [← HWZ.out]
      refine leaves_cons (f := 41) (args := #[.pointer (some ⟨g1, 0, none⟩), .pointer (some ⟨g2, 0, none⟩)]) (by simp) (by simp [go_sem]) ?_
      refine (catch_idle g1 g2 _).mono ?_
      rintro e u' w'' ⟨rfl, rfl, rfl⟩
      simp [Leaves, settle, results, Tryd.results30, go_sem, s0]
      exact FIN.out
    | some ktl =>
      obtain ⟨kind, text, l⟩ := ktl
      have HS1 : RdL w.heap.size gr mk kind text l wr := HS.out
      have y4 : wr.cell? ⟨gr, 4, none⟩ = some (.bool false) := by
        obtain ⟨A, c, h1, _⟩ := HS1
        exact h1.cell 4
      have HB2 := Lib.hid (HB.out.2 kind text l rfl)
      have HL := Lib.hid (leftN_L HS1)
      have HS := Lib.hid HS1
      have HD := Lib.hid HB.out.1
      clear HS1 HB
      go_upto_region 3 with fail
      have GD := Lib.hid (show ItH gr g1 g2 w v done wr wr.drew from ⟨HG.out.bel (Below.refl _ _).drew, Nat.le_refl _⟩)
      have HO := Lib.hid (show ∀ b, v.ownBlock = some b → b < wr.heap.size from fun b e => (HG.out.own.lt b e).2)
      cases hf : frameN mk kind text.size l with
      | no z =>
        by_cases hz0 : z = 0
        · subst hz0
          have HF := Lib.hid hf
          have HRR := Lib.hid (show R = (done, some (kind, text, l)) by rw [HR.out, restN_no0 hf, List.append_nil])
          have HGE := Lib.hid (show giveE 0 = [{ v := .iface 77 (.agg #[]), recovered := false }] from rfl)
          clear hf HR
          have HD3 := Lib.hid (show ∀ m, m < 10 → inH gr mk w.heap.size kind text l m wr.drew from fun m _ => by
            unfold inH
            split
            · exact HS.out.bel (Below.refl _ _).drew
            · trivial)
          refine wp_region_late [some 12, some 13, some 14, some 15, some 11, some 16, some 17, some 3, none, some 4] (fun _ => 0) (inF gr wr) (ItH gr g1 g2 w v done wr) (inH gr mk w.heap.size kind text l) (by kernel_rfl) GD.out HD3.out rfl (by kernel_rfl) (by kernel_rfl) (by kernel_rfl) (by kernel_rfl) (fun T hT => ?_)
          simp only [List.filterMap_cons, List.filterMap_nil, id, putsS, Act.put, List.setIfInBounds_toArray, List.set_cons_zero, List.set_cons_succ] at hT
          subst hT
          refine ⟨⟨?_, ?_, ?_, ?_, ?_, ?_, ?_, ?_, ?_, ?_, trivial⟩, ?_⟩
          · -- 0: Op.load 37 t1
            intro f w1 hG hO hL hF K hK
            clear hF hO hL
            dsimp only at hK ⊢
            have y0 : w1.cell? ⟨g1, 0, none⟩ = some (.pointer (some ⟨gr, 0, none⟩)) := hG.1.b1.cell 0
            go_simp
            exact hK.out _ _ hG rfl (fun _ _ _ h => h) (fun _ _ h => h)
          · -- 1: Op.load 37 t1
            intro f w1 hG hO hL hF K hK
            clear hF hO hL
            dsimp only at hK ⊢
            have y0 : w1.cell? ⟨g1, 0, none⟩ = some (.pointer (some ⟨gr, 0, none⟩)) := hG.1.b1.cell 0
            go_simp
            exact hK.out _ _ hG rfl (fun _ _ _ h => h) (fun _ _ h => h)
          · -- 2: Op.call ( value (Operand.func 44), args := #[t13], argTypes := #[37] )
            intro f w1 hG hO hL hF K hK
            have l2 : (inH gr mk w.heap.size kind text l) 2 w1 := hL 2 (Nat.le_of_ble_eq_true (by kernel_rfl)) (by kernel_rfl)
            have d1 : (inF gr wr) 1 (f 13) (f 0) w1 := hF 1 (by kernel_rfl)
            clear hF hO hL
            dsimp only at hK ⊢
            generalize hf13 : f 13 = v13 at *
            subst d1
            go_simp
            refine (frame_R gr mk w.heap.size kind text l (by have := HB2.out; omega) HB2.out.2.2.2 HB2.out.2.1 w1 l2 hG.1.kq.kept.size).mono ?_
            rintro e w21 ⟨hk, hm⟩
            rw [HF.out] at hm
            obtain ⟨rfl, hr⟩ := hm
            rw [HGE.out]
            have hg3 := hG.1.call hk
            obtain ⟨A, c, b1, b2, b3, b4⟩ := hr
            refine leaves_cons (f := 41) (args := #[.pointer (some ⟨g1, 0, none⟩), .pointer (some ⟨g2, 0, none⟩)]) (by simp) (by simp [go_sem]) ?_
            refine (catch_want g1 g2 gr mk A l.length c kind text l rfl b2 (by have := HB2.out; omega) [] _ hg3.b1 ⟨b1, b3⟩ (by have := HG12.out; have := hg3.lt; omega)).mono ?_
            rintro e u' w'' ⟨rfl, rfl, hk2, hr2⟩
            have hg4 := hg3.call hk2
            have s0 : w''.cell? ⟨g2, 0, none⟩ = some v := hg4.b2.cell 0
            have FIN := Lib.hid (show ItsPost gr mk w R (.returned v) w'' from by
              refine ⟨hg4.kq, _, rfl, by rw [HRR.out]; exact hg4.own, ?_⟩
              rw [HRR.out]
              exact hr2)
            simp [Leaves, settle, results, Tryd.results30, go_sem, s0]
            exact FIN.out
          · -- 3: Op.call ( value (Operand.func 43), args := #[t12, t14], argTypes := #[37, 24] )
            intro f w1 hG hO hL hF K hK
            have d0 : (inF gr wr) 0 (f 12) (f 0) w1 := hF 0 (by kernel_rfl)
            have d2 : (inF gr wr) 2 (f 14) (f 0) w1 := hF 2 (by kernel_rfl)
            clear hF hO hL
            dsimp only at hK ⊢
            generalize hf12 : f 12 = v12 at *
            generalize hf14 : f 14 = v14 at *
            exact False.elim d2
          · -- 4: Op.move t15
            intro f w1 hG hO hL hF K hK
            have d3 : (inF gr wr) 3 (f 15) (f 0) w1 := hF 3 (by kernel_rfl)
            clear hF hO hL
            dsimp only at hK ⊢
            generalize hf15 : f 15 = v15 at *
            exact False.elim d3
          · -- 5: Op.extract t11 0
            intro f w1 hG hO hL hF K hK
            have d4 : (inF gr wr) 4 (f 11) (f 0) w1 := hF 4 (by kernel_rfl)
            clear hF hO hL
            dsimp only at hK ⊢
            generalize hf11 : f 11 = v11 at *
            exact False.elim d4
          · -- 6: Op.extract t11 1
            intro f w1 hG hO hL hF K hK
            have d4 : (inF gr wr) 4 (f 11) (f 0) w1 := hF 4 (by kernel_rfl)
            clear hF hO hL
            dsimp only at hK ⊢
            generalize hf11 : f 11 = v11 at *
            exact False.elim d4
          · -- 7: Op.alloc 56
            intro f w1 hG hO hL hF K hK
            clear hF hO hL
            dsimp only at hK ⊢
            go_simp
            have al := (Below.refl w1.heap.size w1).alloc (Nat.le_refl _) (.cells #[.int .i64 0, .string ⟨#[]⟩, .int .i64 0] 56)
            exact hK.out _ _ (hG.bel al) ⟨w1.heap.size, rfl, hG.2, _, _, _, Bk.new w1 _ _⟩ (fun j _ _ h => inF_bel al j _ _ h) (fun m _ h => inH_bel al m h)
          · -- 8: Op.store 56 t3 t16
            intro f w1 hG hO hL hF K hK
            have d7 : (inF gr wr) 7 (f 3) (f 0) w1 := hF 7 (by kernel_rfl)
            have d5 : (inF gr wr) 5 (f 16) (f 0) w1 := hF 5 (by kernel_rfl)
            clear hF hO hL
            dsimp only at hK ⊢
            generalize hf3 : f 3 = v3 at *
            generalize hf16 : f 16 = v16 at *
            exact False.elim d5
          · -- 9: Op.assign t17
            intro f w1 hG hO hL hF K hK
            have d6 : (inF gr wr) 6 (f 17) (f 0) w1 := hF 6 (by kernel_rfl)
            clear hF hO hL
            dsimp only at hK ⊢
            generalize hf17 : f 17 = v17 at *
            exact False.elim d6
          intro f w7 hG hF
          have f3 : False := hF 2 (by decide)
          exact f3.elim
        · have HF := Lib.hid hf
          have HRR := Lib.hid (show R = (done ++ [⟨0, ⟨#[]⟩, z⟩], none) by rw [HR.out, restN_no hf hz0])
          have HGE := Lib.hid (show giveE z = [{ v := .iface 78 (.int .i64 (z : Int)), recovered := false }] by unfold giveE; rw [if_neg hz0])
          clear hf HR hz0
          have HD3 := Lib.hid (show ∀ m, m < 10 → inH gr mk w.heap.size kind text l m wr.drew from fun m _ => by
            unfold inH
            split
            · exact HS.out.bel (Below.refl _ _).drew
            · trivial)
          refine wp_region_late [some 12, some 13, some 14, some 15, some 11, some 16, some 17, some 3, none, some 4] (fun _ => 0) (inF gr wr) (ItH gr g1 g2 w v done wr) (inH gr mk w.heap.size kind text l) (by kernel_rfl) GD.out HD3.out rfl (by kernel_rfl) (by kernel_rfl) (by kernel_rfl) (by kernel_rfl) (fun T hT => ?_)
          simp only [List.filterMap_cons, List.filterMap_nil, id, putsS, Act.put, List.setIfInBounds_toArray, List.set_cons_zero, List.set_cons_succ] at hT
          subst hT
          refine ⟨⟨?_, ?_, ?_, ?_, ?_, ?_, ?_, ?_, ?_, ?_, trivial⟩, ?_⟩
          · -- 0: Op.load 37 t1
            intro f w1 hG hO hL hF K hK
            clear hF hO hL
            dsimp only at hK ⊢
            have y0 : w1.cell? ⟨g1, 0, none⟩ = some (.pointer (some ⟨gr, 0, none⟩)) := hG.1.b1.cell 0
            go_simp
            exact hK.out _ _ hG rfl (fun _ _ _ h => h) (fun _ _ h => h)
          · -- 1: Op.load 37 t1
            intro f w1 hG hO hL hF K hK
            clear hF hO hL
            dsimp only at hK ⊢
            have y0 : w1.cell? ⟨g1, 0, none⟩ = some (.pointer (some ⟨gr, 0, none⟩)) := hG.1.b1.cell 0
            go_simp
            exact hK.out _ _ hG rfl (fun _ _ _ h => h) (fun _ _ h => h)
          · -- 2: Op.call ( value (Operand.func 44), args := #[t13], argTypes := #[37] )
            intro f w1 hG hO hL hF K hK
            have l2 : (inH gr mk w.heap.size kind text l) 2 w1 := hL 2 (Nat.le_of_ble_eq_true (by kernel_rfl)) (by kernel_rfl)
            have d1 : (inF gr wr) 1 (f 13) (f 0) w1 := hF 1 (by kernel_rfl)
            clear hF hO hL
            dsimp only at hK ⊢
            generalize hf13 : f 13 = v13 at *
            subst d1
            go_simp
            refine (frame_R gr mk w.heap.size kind text l (by have := HB2.out; omega) HB2.out.2.2.2 HB2.out.2.1 w1 l2 hG.1.kq.kept.size).mono ?_
            rintro e w21 ⟨hk, hm⟩
            rw [HF.out] at hm
            obtain ⟨rfl, hr⟩ := hm
            rw [HGE.out]
            have hg3 := hG.1.call hk
            obtain ⟨A, c, b1, b2, b3, b4⟩ := hr
            unfold rdC at b1
            refine leaves_cons (f := 41) (args := #[.pointer (some ⟨g1, 0, none⟩), .pointer (some ⟨g2, 0, none⟩)]) (by simp) (by simp [go_sem]) ?_
            refine (catch_wrong g1 g2 gr z w _ v done hg3 HD.out _ _ _ _ _ b1 []).mono ?_
            rintro e u' w'' ⟨rfl, rfl, v', hg4, he⟩
            have s0 : w''.cell? ⟨g2, 0, none⟩ = some v' := hg4.b2.cell 0
            have FIN := Lib.hid (show ItsPost gr mk w R (.returned v') w'' from by
              refine ⟨hg4.kq, _, rfl, by rw [HRR.out]; exact hg4.own, w''.heap.size, ?_, Nat.le_refl _⟩
              rw [HRR.out]
              exact he)
            simp [Leaves, settle, results, Tryd.results30, go_sem, s0]
            exact FIN.out
          · -- 3: Op.call ( value (Operand.func 43), args := #[t12, t14], argTypes := #[37, 24] )
            intro f w1 hG hO hL hF K hK
            have d0 : (inF gr wr) 0 (f 12) (f 0) w1 := hF 0 (by kernel_rfl)
            have d2 : (inF gr wr) 2 (f 14) (f 0) w1 := hF 2 (by kernel_rfl)
            clear hF hO hL
            dsimp only at hK ⊢
            generalize hf12 : f 12 = v12 at *
            generalize hf14 : f 14 = v14 at *
            exact False.elim d2
          · -- 4: Op.move t15
            intro f w1 hG hO hL hF K hK
            have d3 : (inF gr wr) 3 (f 15) (f 0) w1 := hF 3 (by kernel_rfl)
            clear hF hO hL
            dsimp only at hK ⊢
            generalize hf15 : f 15 = v15 at *
            exact False.elim d3
          · -- 5: Op.extract t11 0
            intro f w1 hG hO hL hF K hK
            have d4 : (inF gr wr) 4 (f 11) (f 0) w1 := hF 4 (by kernel_rfl)
            clear hF hO hL
            dsimp only at hK ⊢
            generalize hf11 : f 11 = v11 at *
            exact False.elim d4
          · -- 6: Op.extract t11 1
            intro f w1 hG hO hL hF K hK
            have d4 : (inF gr wr) 4 (f 11) (f 0) w1 := hF 4 (by kernel_rfl)
            clear hF hO hL
            dsimp only at hK ⊢
            generalize hf11 : f 11 = v11 at *
            exact False.elim d4
          · -- 7: Op.alloc 56
            intro f w1 hG hO hL hF K hK
            clear hF hO hL
            dsimp only at hK ⊢
            go_simp
            have al := (Below.refl w1.heap.size w1).alloc (Nat.le_refl _) (.cells #[.int .i64 0, .string ⟨#[]⟩, .int .i64 0] 56)
            exact hK.out _ _ (hG.bel al) ⟨w1.heap.size, rfl, hG.2, _, _, _, Bk.new w1 _ _⟩ (fun j _ _ h => inF_bel al j _ _ h) (fun m _ h => inH_bel al m h)
          · -- 8: Op.store 56 t3 t16
            intro f w1 hG hO hL hF K hK
            have d7 : (inF gr wr) 7 (f 3) (f 0) w1 := hF 7 (by kernel_rfl)
            have d5 : (inF gr wr) 5 (f 16) (f 0) w1 := hF 5 (by kernel_rfl)
            clear hF hO hL
            dsimp only at hK ⊢
            generalize hf3 : f 3 = v3 at *
            generalize hf16 : f 16 = v16 at *
            exact False.elim d5
          · -- 9: Op.assign t17
            intro f w1 hG hO hL hF K hK
            have d6 : (inF gr wr) 6 (f 17) (f 0) w1 := hF 6 (by kernel_rfl)
            clear hF hO hL
            dsimp only at hK ⊢
            generalize hf17 : f 17 = v17 at *
            exact False.elim d6
          intro f w7 hG hF
          have f3 : False := hF 2 (by decide)
          exact f3.elim
      | ok fm l' =>
        have HF := Lib.hid hf
        have hop := frameN_ok hf
        have HLN := Lib.hid (frameN_len hf)
        have HOP := Lib.hid (show (fm.1.op = 0 ∨ fm.1.op = 1 ∨ fm.1.op = 2 ∨ fm.1.op = 8 ∨ fm.1.op = 9 ∨ fm.1.op = 10) ∧ text.size + fm.1.pay.size ≤ 100000 from ⟨by omega, by have := HB2.out; omega⟩)
        have HLT := Lib.hid (show gr < wr.heap.size from HS.out.lt)
        clear hop
        cases hi : itemD kind text fm.1 with
        | error z =>
          have hz0 := itemD_code hi
          have HI := Lib.hid hi
          have HRR := Lib.hid (show R = (done ++ [⟨0, ⟨#[]⟩, z⟩], none) by rw [HR.out, restN_bad hf hi])
          have HGE := Lib.hid (show giveE z = [{ v := .iface 78 (.int .i64 (z : Int)), recovered := false }] by unfold giveE; rw [if_neg hz0])
          clear hf hi hz0 HR
          have HD3 := Lib.hid (show ∀ m, m < 10 → inH gr mk w.heap.size kind text l m wr.drew from fun m _ => by
            unfold inH
            split
            · exact HS.out.bel (Below.refl _ _).drew
            · trivial)
          refine wp_region_late [some 12, some 13, some 14, some 15, some 11, some 16, some 17, some 3, none, some 4] (fun _ => 0) (ibF gr mk w.heap.size wr fm kind text l') (ItH gr g1 g2 w v done wr) (inH gr mk w.heap.size kind text l) (by kernel_rfl) GD.out HD3.out rfl (by kernel_rfl) (by kernel_rfl) (by kernel_rfl) (by kernel_rfl) (fun T hT => ?_)
          simp only [List.filterMap_cons, List.filterMap_nil, id, putsS, Act.put, List.setIfInBounds_toArray, List.set_cons_zero, List.set_cons_succ] at hT
          subst hT
          refine ⟨⟨?_, ?_, ?_, ?_, ?_, ?_, ?_, ?_, ?_, ?_, trivial⟩, ?_⟩
          · -- 0: Op.load 37 t1
            intro f w1 hG hO hL hF K hK
            clear hF hO hL
            dsimp only at hK ⊢
            have y0 : w1.cell? ⟨g1, 0, none⟩ = some (.pointer (some ⟨gr, 0, none⟩)) := hG.1.b1.cell 0
            go_simp
            exact hK.out _ _ hG rfl (fun _ _ _ h => h) (fun _ _ h => h)
          · -- 1: Op.load 37 t1
            intro f w1 hG hO hL hF K hK
            clear hF hO hL
            dsimp only at hK ⊢
            have y0 : w1.cell? ⟨g1, 0, none⟩ = some (.pointer (some ⟨gr, 0, none⟩)) := hG.1.b1.cell 0
            go_simp
            exact hK.out _ _ hG rfl (fun _ _ _ h => h) (fun _ _ h => h)
          · -- 2: Op.call ( value (Operand.func 44), args := #[t13], argTypes := #[37] )
            intro f w1 hG hO hL hF K hK
            have l2 : (inH gr mk w.heap.size kind text l) 2 w1 := hL 2 (Nat.le_of_ble_eq_true (by kernel_rfl)) (by kernel_rfl)
            have d1 : (ibF gr mk w.heap.size wr fm kind text l') 1 (f 13) (f 0) w1 := hF 1 (by kernel_rfl)
            clear hF hO hL
            dsimp only at hK ⊢
            generalize hf13 : f 13 = v13 at *
            subst d1
            go_simp
            refine (frame_R gr mk w.heap.size kind text l (by have := HB2.out; omega) HB2.out.2.2.2 HB2.out.2.1 w1 l2 hG.1.kq.kept.size).mono ?_
            rintro e w21 ⟨hk, hm⟩
            rw [HF.out] at hm
            obtain ⟨rfl, hr⟩ := hm
            exact hK.out _ _ (hG.call hk) ⟨rfl, hr⟩ (fun j hj _ h => ibF_call hk HLT.out j hj _ _ h) (fun m hm _ => inH_oth _ hm)
          · -- 3: Op.call ( value (Operand.func 43), args := #[t12, t14], argTypes := #[37, 24] )
            intro f w1 hG hO hL hF K hK
            have d0 : (ibF gr mk w.heap.size wr fm kind text l') 0 (f 12) (f 0) w1 := hF 0 (by kernel_rfl)
            have d2 : (ibF gr mk w.heap.size wr fm kind text l') 2 (f 14) (f 0) w1 := hF 2 (by kernel_rfl)
            clear hF hO hL
            dsimp only at hK ⊢
            generalize hf12 : f 12 = v12 at *
            generalize hf14 : f 14 = v14 at *
            subst d0
            obtain ⟨rfl, A, c, b1, b2, b3, b4⟩ := d2
            go_simp
            refine (item_any gr mk (.slice A l'.length c) kind text fm.2 w1 fm.1 HOP.out.1 HOP.out.2 HB2.out.1 hG.1.tab b1).mono ?_
            rintro e w21 ⟨hk, hm⟩
            rw [HI.out] at hm
            obtain ⟨rfl, x0, x2, x3, x4, b1⟩ := hm
            rw [HGE.out]
            have hg3 := hG.1.call hk
            refine leaves_cons (f := 41) (args := #[.pointer (some ⟨g1, 0, none⟩), .pointer (some ⟨g2, 0, none⟩)]) (by simp) (by simp [go_sem]) ?_
            refine (catch_wrong g1 g2 gr z w _ v done hg3 HD.out _ _ _ _ _ b1 []).mono ?_
            rintro e u' w'' ⟨rfl, rfl, v', hg4, he⟩
            have s0 : w''.cell? ⟨g2, 0, none⟩ = some v' := hg4.b2.cell 0
            have FIN := Lib.hid (show ItsPost gr mk w R (.returned v') w'' from by
              refine ⟨hg4.kq, _, rfl, by rw [HRR.out]; exact hg4.own, w''.heap.size, ?_, Nat.le_refl _⟩
              rw [HRR.out]
              exact he)
            simp [Leaves, settle, results, Tryd.results30, go_sem, s0]
            exact FIN.out
          · -- 4: Op.move t15
            intro f w1 hG hO hL hF K hK
            have d3 : (ibF gr mk w.heap.size wr fm kind text l') 3 (f 15) (f 0) w1 := hF 3 (by kernel_rfl)
            clear hF hO hL
            dsimp only at hK ⊢
            generalize hf15 : f 15 = v15 at *
            exact False.elim d3
          · -- 5: Op.extract t11 0
            intro f w1 hG hO hL hF K hK
            have d4 : (ibF gr mk w.heap.size wr fm kind text l') 4 (f 11) (f 0) w1 := hF 4 (by kernel_rfl)
            clear hF hO hL
            dsimp only at hK ⊢
            generalize hf11 : f 11 = v11 at *
            exact False.elim d4
          · -- 6: Op.extract t11 1
            intro f w1 hG hO hL hF K hK
            have d4 : (ibF gr mk w.heap.size wr fm kind text l') 4 (f 11) (f 0) w1 := hF 4 (by kernel_rfl)
            clear hF hO hL
            dsimp only at hK ⊢
            generalize hf11 : f 11 = v11 at *
            exact False.elim d4
          · -- 7: Op.alloc 56
            intro f w1 hG hO hL hF K hK
            clear hF hO hL
            dsimp only at hK ⊢
            go_simp
            have al := (Below.refl w1.heap.size w1).alloc (Nat.le_refl _) (.cells #[.int .i64 0, .string ⟨#[]⟩, .int .i64 0] 56)
            exact hK.out _ _ (hG.bel al) ⟨w1.heap.size, rfl, hG.2, _, _, _, Bk.new w1 _ _⟩ (fun j _ _ h => ibF_bel al j _ _ h) (fun m _ h => inH_bel al m h)
          · -- 8: Op.store 56 t3 t16
            intro f w1 hG hO hL hF K hK
            have d7 : (ibF gr mk w.heap.size wr fm kind text l') 7 (f 3) (f 0) w1 := hF 7 (by kernel_rfl)
            have d5 : (ibF gr mk w.heap.size wr fm kind text l') 5 (f 16) (f 0) w1 := hF 5 (by kernel_rfl)
            clear hF hO hL
            dsimp only at hK ⊢
            generalize hf3 : f 3 = v3 at *
            generalize hf16 : f 16 = v16 at *
            exact False.elim d5
          · -- 9: Op.assign t17
            intro f w1 hG hO hL hF K hK
            have d6 : (ibF gr mk w.heap.size wr fm kind text l') 6 (f 17) (f 0) w1 := hF 6 (by kernel_rfl)
            clear hF hO hL
            dsimp only at hK ⊢
            generalize hf17 : f 17 = v17 at *
            exact False.elim d6
          intro f w7 hG hF
          have f3 : False := hF 3 (by decide)
          exact f3.elim
        | ok p =>
          obtain ⟨i, s⟩ := p
          have HI := Lib.hid hi
          obtain ⟨ik, it, ic, b, hok, hib⟩ := okV_parts i
          have HOK := Lib.hid hok
          have HIB := Lib.hid hib
          have HRR := Lib.hid (show R = (done ++ (i.toList ++ (restN mk (withL s l')).1), (restN mk (withL s l')).2) by rw [HR.out, restN_ok hf hi])
          have HNB := Lib.hid (next_b hf hi HB2.out)
          clear hf hi hok hib HR
          have HD3 := Lib.hid (show ∀ m, m < 10 → ifH gr mk w.heap.size kind text l l' m wr.drew from fun m _ => by
            unfold ifH
            split
            · exact HS.out.bel (Below.refl _ _).drew
            · exact Or.inl (HS.out.bel (Below.refl _ _).drew)
            · trivial)
          refine wp_region_late [some 12, some 13, some 14, some 15, some 11, some 16, some 17, some 3, none, some 4] (fun j => bif j == 8 then 3 else 0) (ifF gr mk w.heap.size wr fm kind text l' s ik ic it b) (ItH gr g1 g2 w v done wr) (ifH gr mk w.heap.size kind text l l') (by kernel_rfl) GD.out HD3.out rfl (by kernel_rfl) (by kernel_rfl) (by kernel_rfl) (by kernel_rfl) (fun T hT => ?_)
          simp only [List.filterMap_cons, List.filterMap_nil, id, putsS, Act.put, List.setIfInBounds_toArray, List.set_cons_zero, List.set_cons_succ] at hT
          subst hT
          refine ⟨⟨?_, ?_, ?_, ?_, ?_, ?_, ?_, ?_, ?_, ?_, trivial⟩, ?_⟩
          · -- 0: Op.load 37 t1
            intro f w1 hG hO hL hF K hK
            clear hF hO hL
            dsimp only at hK ⊢
            have y0 : w1.cell? ⟨g1, 0, none⟩ = some (.pointer (some ⟨gr, 0, none⟩)) := hG.1.b1.cell 0
            go_simp
            exact hK.out _ _ hG rfl (fun _ _ _ h => h) (fun _ _ h => h)
          · -- 1: Op.load 37 t1
            intro f w1 hG hO hL hF K hK
            clear hF hO hL
            dsimp only at hK ⊢
            have y0 : w1.cell? ⟨g1, 0, none⟩ = some (.pointer (some ⟨gr, 0, none⟩)) := hG.1.b1.cell 0
            go_simp
            exact hK.out _ _ hG rfl (fun _ _ _ h => h) (fun _ _ h => h)
          · -- 2: Op.call ( value (Operand.func 44), args := #[t13], argTypes := #[37] )
            intro f w1 hG hO hL hF K hK
            have l2 : (ifH gr mk w.heap.size kind text l l') 2 w1 := hL 2 (Nat.le_of_ble_eq_true (by kernel_rfl)) (by kernel_rfl)
            have d1 : (ifF gr mk w.heap.size wr fm kind text l' s ik ic it b) 1 (f 13) (f 0) w1 := hF 1 (by kernel_rfl)
            clear hF hO hL
            dsimp only at hK ⊢
            generalize hf13 : f 13 = v13 at *
            subst d1
            go_simp
            refine (frame_R gr mk w.heap.size kind text l (by have := HB2.out; omega) HB2.out.2.2.2 HB2.out.2.1 w1 l2 hG.1.kq.kept.size).mono ?_
            rintro e w21 ⟨hk, hm⟩
            rw [HF.out] at hm
            obtain ⟨rfl, hr⟩ := hm
            exact hK.out _ _ (hG.call hk) ⟨rfl, Or.inl hr⟩ (fun j hj hd h => ifF_call hk HLT.out j hj (fun e => by subst e; exact absurd ((show depS _ 3 2 = true by kernel_rfl).symm.trans hd) (by decide)) _ _ h) (fun m hm _ => by
              by_cases h3 : m = 3
              · subst h3; exact Or.inr hr
              · exact ifH_oth _ hm h3)
          · -- 3: Op.call ( value (Operand.func 43), args := #[t12, t14], argTypes := #[37, 24] )
            intro f w1 hG hO hL hF K hK
            have l3 : (ifH gr mk w.heap.size kind text l l') 3 w1 := hL 3 (Nat.le_of_ble_eq_true (by kernel_rfl)) (by kernel_rfl)
            have d0 : (ifF gr mk w.heap.size wr fm kind text l' s ik ic it b) 0 (f 12) (f 0) w1 := hF 0 (by kernel_rfl)
            have d2 : (ifF gr mk w.heap.size wr fm kind text l' s ik ic it b) 2 (f 14) (f 0) w1 := hF 2 (by kernel_rfl)
            clear hF hO hL
            dsimp only at hK ⊢
            generalize hf12 : f 12 = v12 at *
            generalize hf14 : f 14 = v14 at *
            subst d0
            obtain ⟨rfl, d2⟩ := d2
            have hP1 : RdL w.heap.size gr mk kind text l' w1 := by
              rcases d2 with h | h
              · exact h
              · rcases l3 with h3 | h3
                · exact (rd_twice h3 h (by have := HLN.out; omega)).elim
                · exact h3
            have hP2 := hP1
            obtain ⟨A, c, b1, b2, b3, b4⟩ := hP1
            go_simp
            refine (item_any gr mk (.slice A l'.length c) kind text fm.2 w1 fm.1 HOP.out.1 HOP.out.2 HB2.out.1 hG.1.tab b1).mono ?_
            rintro e w21 ⟨hk, hm⟩
            rw [HI.out] at hm
            obtain ⟨rfl, c1⟩ := hm
            have hT : RdT w.heap.size gr mk s l' w21 := ⟨A, c, c1, b2, seg_ne b1 b3 (fun _ h => by cases h) hk.kept, b4⟩
            exact hK.out _ _ (hG.call hk) ⟨HOK.out, hT⟩ (fun j hj _ h => by
              by_cases h2 : j = 2
              · subst h2; exact ⟨h.1, Or.inr hT⟩
              · exact ifF_call hk HLT.out j h2 hj _ _ h) (fun m hm h => by
              by_cases h2 : m = 2
              · subst h2; exact (rd_once h hP2 (by have := HLN.out; omega)).elim
              · exact ifH_oth _ h2 hm)
          · -- 4: Op.move t15
            intro f w1 hG hO hL hF K hK
            have d3 : (ifF gr mk w.heap.size wr fm kind text l' s ik ic it b) 3 (f 15) (f 0) w1 := hF 3 (by kernel_rfl)
            clear hF hO hL
            dsimp only at hK ⊢
            generalize hf15 : f 15 = v15 at *
            obtain ⟨rfl, _⟩ := d3
            go_simp
            exact hK.out _ _ hG rfl (fun _ _ _ h => h) (fun _ _ h => h)
          · -- 5: Op.extract t11 0
            intro f w1 hG hO hL hF K hK
            have d4 : (ifF gr mk w.heap.size wr fm kind text l' s ik ic it b) 4 (f 11) (f 0) w1 := hF 4 (by kernel_rfl)
            clear hF hO hL
            dsimp only at hK ⊢
            generalize hf11 : f 11 = v11 at *
            subst d4
            go_simp
            exact hK.out _ _ hG rfl (fun _ _ _ h => h) (fun _ _ h => h)
          · -- 6: Op.extract t11 1
            intro f w1 hG hO hL hF K hK
            have d4 : (ifF gr mk w.heap.size wr fm kind text l' s ik ic it b) 4 (f 11) (f 0) w1 := hF 4 (by kernel_rfl)
            clear hF hO hL
            dsimp only at hK ⊢
            generalize hf11 : f 11 = v11 at *
            subst d4
            go_simp
            exact hK.out _ _ hG rfl (fun _ _ _ h => h) (fun _ _ h => h)
          · -- 7: Op.alloc 56
            intro f w1 hG hO hL hF K hK
            clear hF hO hL
            dsimp only at hK ⊢
            go_simp
            have al := (Below.refl w1.heap.size w1).alloc (Nat.le_refl _) (.cells #[.int .i64 0, .string ⟨#[]⟩, .int .i64 0] 56)
            exact hK.out _ _ (hG.bel al) ⟨w1.heap.size, rfl, hG.2, _, _, _, Bk.new w1 _ _⟩ (fun j _ _ h => ifF_bel al j _ _ h) (fun m _ h => ifH_bel al m h)
          · -- 8: Op.store 56 t3 t16
            intro f w1 hG hO hL hF K hK
            have d7 : (ifF gr mk w.heap.size wr fm kind text l' s ik ic it b) 7 (f 3) (f 0) w1 := hF 7 (by kernel_rfl)
            have d5 : (ifF gr mk w.heap.size wr fm kind text l' s ik ic it b) 5 (f 16) (f 0) w1 := hF 5 (by kernel_rfl)
            clear hF hO hL
            dsimp only at hK ⊢
            generalize hf3 : f 3 = v3 at *
            generalize hf16 : f 16 = v16 at *
            obtain ⟨g9, rfl, hg9, e0, e1, e2, hb9⟩ := d7
            subst d5
            have y0 : w1.cell? ⟨g9, 0, none⟩ = some e0 := hb9.cell 0
            have y1 : w1.cell? ⟨g9, 1, none⟩ = some e1 := hb9.cell 1
            have y2 : w1.cell? ⟨g9, 2, none⟩ = some e2 := hb9.cell 2
            have f0 := hb9.frozen 0
            have f1 := hb9.frozen 1
            have f2 := hb9.frozen 2
            have hM := box3 hb9 (.int .i64 (ik : Nat)) (.string it) (.int .i64 (ic : Nat))
            have hgg : g2 < g9 := by have := HG.out.big; omega
            have hgo : v.ownBlock ≠ some g9 := fun e => by have := HO.out g9 e; omega
            have hgb : w.heap.size ≤ g9 := by have := HG12.out; omega
            have hN : ItH gr g1 g2 w v done wr (((w1.setCell ⟨g9, 0, none⟩ (.int .i64 (ik : Nat))).setCell ⟨g9, 1, none⟩ (.string it)).setCell ⟨g9, 2, none⟩ (.int .i64 (ic : Nat))) := ⟨((hG.1.set hgg hgo 0 _).set hgg hgo 1 _).set hgg hgo 2 _, by simpa using hG.2⟩
            have hFF : ∀ j, j ≠ 7 → j ≠ 8 → ∀ u u', ifF gr mk w.heap.size wr fm kind text l' s ik ic it b j u u' w1 → ifF gr mk w.heap.size wr fm kind text l' s ik ic it b j u u' (((w1.setCell ⟨g9, 0, none⟩ (.int .i64 (ik : Nat))).setCell ⟨g9, 1, none⟩ (.string it)).setCell ⟨g9, 2, none⟩ (.int .i64 (ic : Nat))) := fun j h7 h8 u u' h => ifF_set HLT.out hg9 hgb 2 _ j h7 h8 _ _ (ifF_set HLT.out hg9 hgb 1 _ j h7 h8 _ _ (ifF_set HLT.out hg9 hgb 0 _ j h7 h8 _ _ h))
            have hHH : ∀ m, ifH gr mk w.heap.size kind text l l' m w1 → ifH gr mk w.heap.size kind text l l' m (((w1.setCell ⟨g9, 0, none⟩ (.int .i64 (ik : Nat))).setCell ⟨g9, 1, none⟩ (.string it)).setCell ⟨g9, 2, none⟩ (.int .i64 (ic : Nat))) := fun m h => ifH_set HLT.out hg9 hgb 2 _ m (ifH_set HLT.out hg9 hgb 1 _ m (ifH_set HLT.out hg9 hgb 0 _ m h))
            obtain ⟨W9, hW9⟩ : ∃ x, x = ((w1.setCell ⟨g9, 0, none⟩ (.int .i64 (ik : Nat))).setCell ⟨g9, 1, none⟩ (.string it)).setCell ⟨g9, 2, none⟩ (.int .i64 (ic : Nat)) := ⟨_, rfl⟩
            rw [← hW9] at hN hM hFF hHH
            go_simp
            rw [← hW9]
            exact hK.out undef _ hN ⟨g9, hf3, hg9, hM⟩ (fun j h8 _ h => by
              by_cases h7 : j = 7
              · subst h7; exact ⟨g9, hf3, hg9, _, _, _, hM⟩
              · exact hFF j h7 h8 _ _ h) (fun m _ h => hHH m h)
          · -- 9: Op.assign t17
            intro f w1 hG hO hL hF K hK
            have d6 : (ifF gr mk w.heap.size wr fm kind text l' s ik ic it b) 6 (f 17) (f 0) w1 := hF 6 (by kernel_rfl)
            clear hF hO hL
            dsimp only at hK ⊢
            generalize hf17 : f 17 = v17 at *
            subst d6
            go_simp
            exact hK.out _ _ hG rfl (fun _ _ _ h => h) (fun _ _ h => h)
          intro f w3 hG hF
          have R8 : ∃ g, f 3 = .pointer (some ⟨g, 0, none⟩) ∧ wr.heap.size ≤ g ∧ Bk w3 g 56 #[.int .i64 (ik : Nat), .string it, .int .i64 (ic : Nat)] := hF 8 (by decide)
          have R3 : f 15 = _ ∧ RdT w.heap.size gr mk s l' w3 := hF 3 (by decide)
          have R9 : f 4 = .bool b := hF 9 (by decide)
          clear hF
          obtain ⟨g9, e3, hg9, hb9⟩ := R8
          have hT3 := R3.2
          clear R3
          dsimp only
          rw [e3, R9]
          generalize f 12 = v12
          generalize f 13 = v13
          generalize f 14 = v14
          generalize f 15 = v15
          generalize f 11 = v11
          generalize f 16 = v16
          generalize f 17 = v17
          have HG3 := Lib.hid hG
          have HT3 := Lib.hid hT3
          have HB9 := Lib.hid hb9
          clear hG hT3 hb9 e3 R9
          rcases HIB.out with ⟨hi0, hb0⟩ | ⟨hi0, hb0⟩
          · have NX := Lib.hid (next_st HT3.out)
            have HRR2 := Lib.hid (show R = (done ++ (restN mk (withL s l')).1, (restN mk (withL s l')).2) by
              rw [HRR.out, hi0]
              rfl)
            have HNB2 := Lib.hid (show LpB done (withL s l') by
              have := HNB.out
              rw [hi0] at this
              simpa using this)
            have HG4 := Lib.hid HG3.out.1
            have HME := Lib.hid (show leftN gr w3 < leftN gr wr by have := NX.out.2; have := HLN.out; have := HL.out; omega)
            have HNS := Lib.hid NX.out.1
            subst hb0
            clear hi0 HRR NX HNB HIB HOK HI HF
            go_wp2_with fail
            go_roundw
            case rel => exact ⟨_, _, _, HG4, HNS, HNB2, HRR2⟩
            case measure => exact HME.out
          · obtain ⟨j0, hj0, hz0, hz1, hz2⟩ := info_parts info_item
            obtain ⟨w4, hw4⟩ : ∃ x, x = w3.alloc (.cells #[.int .i64 (ik : Nat), .string it, .int .i64 (ic : Nat)] 56) := ⟨_, rfl⟩
            have al : Below w3.heap.size w3 w4 := by rw [hw4]; exact (Below.refl _ _).alloc (Nat.le_refl _) _
            have HN := Lib.hid (show ∀ j u, ([.int .i64 (ik : Nat), .string it, .int .i64 (ic : Nat)] : List Value)[j]? = some u → w4.cell? ((⟨w3.heap.size, 0, none⟩ : Addr).add j) = some u by
              rw [hw4]
              exact World.news_of_block (cs := #[.int .i64 (ik : Nat), .string it, .int .i64 (ic : Nat)]) (t := 56) (fr := (0, 0)) (Bk.new w3 _ _))
            have h4 := HG3.out.1.bel al
            have HI4 := Lib.hid h4
            have HT4 := Lib.hid (HT3.out.bel al)
            have HBS := Lib.hid (show w.heap.size ≤ w4.heap.size from h4.kq.kept.size)
            have HW4 := Lib.hid hw4
            obtain ⟨q, hq⟩ : ∃ q, q = w3.heap.size := ⟨_, rfl⟩
            have HQ := Lib.hid hq
            rw [← hq] at HN
            obtain ⟨m, hm⟩ : ∃ m, m = done.length := ⟨_, rfl⟩
            have HM := Lib.hid hm
            have HOW := Lib.hid (show w4.ownsRow w.heap.size 56 3 v m (itsL done) by rw [hm]; exact h4.own)
            have hm1 : m + 1 ≤ 30000 := by have := HD.out; omega
            have HRR2 := Lib.hid (show R = ((done ++ [⟨ik, it, ic⟩]) ++ (restN mk (withL s l')).1, (restN mk (withL s l')).2) by
              rw [HRR.out, hi0, List.append_assoc]
              rfl)
            have HNB2 := Lib.hid (show LpB (done ++ [⟨ik, it, ic⟩]) (withL s l') by
              have := HNB.out
              rw [hi0] at this
              exact this)
            have y2 : w3.cell? ⟨g2, 0, none⟩ = some v := HG3.out.1.b2.cell 0
            have x0 : w3.cell? ⟨g9, 0, none⟩ = some (.int .i64 (ik : Nat)) := HB9.out.cell 0
            have x1 : w3.cell? ⟨g9, 1, none⟩ = some (.string it) := HB9.out.cell 1
            have x2 : w3.cell? ⟨g9, 2, none⟩ = some (.int .i64 (ic : Nat)) := HB9.out.cell 2
            subst hb0
            clear hi0 HRR HNB HIB HOK HI HF hw4 al h4 hq hm y1 y4
            go_wp2_with (at_builtin; rw [← HW4.out, ← HQ.out]; refine wpList_append_lies _ rfl _ _ _ rfl w.heap.size 56 j0 _ 3 32 Tryd.underlying42 hj0 hz0 hz1 hz2 rfl (by omega) _ m (itsL done) rfl HOW.out ⟨q, 0, none⟩ 1 1 [.int .i64 (ik : Nat), .string it, .int .i64 (ic : Nat)] rfl rfl HN.out (it_one _ _ _) (by omega) (by unfold maxLen; omega) (by omega) HBS.out _ rfl ?_; intro g cap w5 hown hgrow hat hlt3; have hp := HI4.out.push ⟨ik, it, ic⟩ HM.out hown hgrow; have y3 := hp.2.1.cell 0; have z3 := hp.2.1.frozen 0; have HP := Lib.hid hp; clear hp hown hgrow hat hlt3 y2 x0 x1 x2)
            obtain ⟨w6, hw6⟩ : ∃ x, x = w5.setCell ⟨g2, 0, none⟩ (.slice (some ⟨g, 0, none⟩) (m + 1) cap) := ⟨_, rfl⟩
            rw [← hw6]
            obtain ⟨hg6, _, b, hb, hkb⟩ := HP.out
            rw [← hw6] at hg6
            have t6 : RdT w.heap.size gr mk s l' w6 := by
              rw [hw6]
              exact (HT4.out.kept (by have := HG.out.lt; omega) hb hkb).set (by have := HG.out.lt; have := HG12.out; omega) (by have := HG12.out; omega) 0 _
            have NX := next_st t6
            have HG6 := Lib.hid hg6
            have HME := Lib.hid (show leftN gr w6 < leftN gr wr by have := NX.2; have := HLN.out; have := HL.out; omega)
            have HNS := Lib.hid NX.1
            clear hw6 hg6 hb hkb t6 NX HP y3 z3
            go_roundw
            case rel => exact ⟨_, _, _, HG6, HNS, HNB2, HRR2⟩
            case measure => exact HME.out
end Go.Proofs.YtnbhgjionpidnaaDoor
