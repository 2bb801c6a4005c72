/- A frame taken in, whatever it is; what the loop of items keeps. Conditions: the reader lies in memory; the tables of UTF-8 are laid. -/
import Derived.Test.YtnbhgjionpidnaaDoorSKind
import Derived.Test.YtnbhgjionpidnaaDoorSCatch
namespace Go.Proofs.YtnbhgjionpidnaaDoor
open Go.RowKit

def okI (i : Option ItM) : ItM := i.getD ⟨0, ⟨#[]⟩, 0⟩
theorem okV_eq (i : Option ItM) : okV i = .tuple #[itV (okI i), .bool i.isSome] := by cases i <;> rfl
theorem item_any (gr : Nat) (mk : Bool) (L : Value) (kind : Nat) (text : ByteArray) (m : Nat → Nat) (w : World) (f : FrM) (hop : f.op = 0 ∨ f.op = 1 ∨ f.op = 2 ∨ f.op = 8 ∨ f.op = 9 ∨ f.op = 10) (hz : text.size + f.pay.size ≤ 100000) (hk2 : kind ≤ 2) (hT : TabG w gr) (h : Bk w gr 59 (rdC mk L kind text false)) :
    Calls Tryd.prog 43 #[.pointer (some ⟨gr, 0, none⟩), frV f m] w (ItemPost gr L w (match itemD kind text f with | .error c => .error c | .ok (i, s) => .ok (i, stC mk L s))) := by
  obtain ⟨fin, op, msk, pay⟩ := f
  dsimp only at hop hz
  have hz2 : pay.size ≤ 100000 := by omega
  rcases hop with rfl | rfl | rfl | rfl | rfl | rfl
  · cases fin
    · exact item_more0_false gr mk L kind text m w msk pay hz h
    · have C := item_more0_true gr mk L kind text m w msk pay hz hk2 hT h
      unfold itemD
      dsimp only
      rw [if_neg (by decide), if_neg (by decide), if_neg (by decide), if_neg (show ¬ (0 = 1 ∨ 0 = 2) by decide)]
      by_cases hv : kind = 1 ∧ Lib.validD (text ++ pay).data.toList = false
      · rw [if_pos hv] at C ⊢; exact C
      · rw [if_neg hv] at C ⊢; exact C
  · cases fin
    · exact item_more1_false gr mk L kind text m w msk pay hz h
    · have C := item_more1_true gr mk L kind text m w msk pay hz hk2 hT h
      unfold itemD
      dsimp only
      rw [if_neg (by decide), if_neg (by decide), if_neg (by decide), if_pos (show (1 = 1 ∨ 1 = 2) by decide)]
      by_cases hv : 1 = 1 ∧ Lib.validD (text ++ pay).data.toList = false
      · rw [if_pos hv] at C ⊢; exact C
      · rw [if_neg hv] at C ⊢; exact C
  · cases fin
    · exact item_more2_false gr mk L kind text m w msk pay hz h
    · have C := item_more2_true gr mk L kind text m w msk pay hz hk2 hT h
      unfold itemD
      dsimp only
      rw [if_neg (by decide), if_neg (by decide), if_neg (by decide), if_pos (show (2 = 1 ∨ 2 = 2) by decide)]
      by_cases hv : 2 = 1 ∧ Lib.validD (text ++ pay).data.toList = false
      · rw [if_pos hv] at C ⊢; exact C
      · rw [if_neg hv] at C ⊢; exact C
  · unfold itemD
    dsimp only
    rw [if_pos rfl]
    cases hc : closedN pay with
    | error c => exact item_close_no gr mk L kind text m w fin msk pay c hc hz2 hT.tabs h
    | ok i =>
      obtain ⟨ik, it, ic⟩ := i
      exact item_close_ok gr mk L kind text m w fin msk pay ik ic it hc hz2 hT.tabs h
  · unfold itemD
    dsimp only
    rw [if_neg (by decide), if_pos (by decide)]
    exact item_ctl9 gr mk L kind text m w fin msk pay h
  · unfold itemD
    dsimp only
    rw [if_neg (by decide), if_pos (by decide)]
    exact item_ctl10 gr mk L kind text m w fin msk pay h
/-- The reader behind a frame that was taken in. -/
def RdT (B gr : Nat) (mk : Bool) (s : Option (Nat × ByteArray)) (l : List Nat) (w : World) : Prop := ∃ A c, Bk w gr 59 (stC mk (.slice A l.length c) s) ∧ l.length ≤ c ∧ Seg w A (u8s l) ∧ ∀ a, A = some a → a.block < B
theorem seg_ne {w : World} {gr kind : Nat} {t : TypeId} {mk dead : Bool} {L : Value} {text : ByteArray} {A : Option Addr} {l : List Nat} (hb : Bk w gr t (rdC mk L kind text dead)) (hs : Seg w A (u8s l)) (hL : ∀ x, L ≠ .int .u8 x) {w' : World} (k : Kept1 gr w w') : Seg w' A (u8s l) := by
  cases l with
  | nil => exact fun hn => absurd rfl hn
  | cons x l =>
    obtain ⟨b, off, rfl, hbl, _, hc⟩ := hs.pick (k := 0) (by rw [u8s_length]; simp)
    have hne : b ≠ gr := by
      intro e
      subst e
      have h := hb.cell off
      rw [Nat.add_zero] at hc
      rw [hc] at h
      rcases off with _ | _ | _ | _ | _ | off <;> simp [rdC, u8s] at h
      exact hL _ h.symm
    exact hs.kept k (fun a e => by injection e with e; subst e; exact hne)
theorem own_keptS {w w' : World} {base g n size : Nat} {e : TypeId} {v : Value} {xs : List Value} (h : w.ownsRow base e size v n xs) (hne : v.ownBlock ≠ some g) (k : Kept1 g w w') : w'.ownsRow base e size v n xs := by
  refine ⟨h.1, ?_⟩
  rcases h.2 with hn | ⟨g', cap, cur, rfl, hg, hgg, rest⟩
  · exact .inl hn
  · refine .inr ⟨g', cap, cur, rfl, hg, ?_, rest⟩
    have hl : g' < w.heap.size := by
      rcases Nat.lt_or_ge g' w.heap.size with h | h
      · exact h
      · rw [Array.getElem?_eq_none h] at hgg; cases hgg
    exact (k.block g' hl (fun e => hne (by rw [e]; rfl))).trans hgg
/-- What the loop keeps: w is the world ahead of the call. -/
structure ItG (gr g1 g2 : Nat) (w : World) (v : Value) (done : List ItM) (w1 : World) : Prop where
  kq : KQ gr w w1
  b1 : Bk w1 g1 37 #[.pointer (some ⟨gr, 0, none⟩)]
  b2 : Bk w1 g2 42 #[v]
  own : w1.ownsRow w.heap.size 56 3 v done.length (itsL done)
  tab : TabG w1 gr
  e1 : g1 = w.heap.size
  e2 : g2 = w.heap.size + 1
  lt : gr < w.heap.size
section
variable {gr g1 g2 : Nat} {w w1 w2 : World} {v : Value} {done : List ItM}
theorem ItG.big (h : ItG gr g1 g2 w v done w1) : g2 < w1.heap.size := h.b2.lt
theorem ItG.bel (h : ItG gr g1 g2 w v done w1) (hb : Below w1.heap.size w1 w2) : ItG gr g1 g2 w v done w2 :=
  ⟨h.kq.trans (KQ.of_below (by have := h.big; have := h.e2; have := h.lt; omega) hb), h.b1.bel hb, h.b2.bel hb, own_belS h.own hb, h.tab.kq (KQ.of_below (by have := h.big; have := h.e2; have := h.lt; omega) hb), h.e1, h.e2, h.lt⟩
theorem ItG.call (h : ItG gr g1 g2 w v done w1) (k : KQ gr w1 w2) : ItG gr g1 g2 w v done w2 :=
  ⟨h.kq.trans k, bk_kept h.b1 (by have := h.e1; have := h.lt; omega) k.kept, bk_kept h.b2 (by have := h.e2; have := h.lt; omega) k.kept, own_keptS h.own (fun e => by have := (h.own.lt gr e).1; have := h.lt; omega) k.kept, h.tab.kq k, h.e1, h.e2, h.lt⟩
/-- A cell of another block, made behind the own row and the boxes. -/
theorem ItG.set (h : ItG gr g1 g2 w v done w1) {g : Nat} (hg : g2 < g) (ho : v.ownBlock ≠ some g) (i : Nat) (x : Value) : ItG gr g1 g2 w v done (w1.setCell ⟨g, i, none⟩ x) := by
  have k := Kept1.set w1 g i x
  have e1 := h.e1
  have e2 := h.e2
  have lt := h.lt
  refine ⟨⟨h.kq.bel.setCell (p := ⟨g, i, none⟩) (by show gr ≤ g; omega) _, ⟨Nat.le_trans h.kq.kept.size k.size, fun b hb hn => ?_⟩⟩, bk_kept h.b1 (by omega) k, bk_kept h.b2 (by omega) k, own_keptS h.own ho k, ?_, e1, e2, lt⟩
  · rw [k.block b (Nat.lt_of_lt_of_le hb h.kq.kept.size) (by omega)]
    exact h.kq.kept.block b hb hn
  · obtain ⟨w00, t1, t2, t3⟩ := h.tab
    exact ⟨w00, t1, t2.setCell (p := ⟨g, i, none⟩) (by show w00.heap.size ≤ g; omega) _, t3⟩
end
/-- How much a reader has left. -/
def leftN (gr : Nat) (w : World) : Nat := match w.cell? ⟨gr, 1, none⟩ with
  | some (.slice _ n _) => n
  | _ => 0
theorem leftN_L {B gr : Nat} {mk : Bool} {kind : Nat} {text : ByteArray} {l : List Nat} {w : World} (h : RdL B gr mk kind text l w) : leftN gr w = l.length := by
  obtain ⟨A, c, h, _⟩ := h
  have y : w.cell? ⟨gr, 1, none⟩ = some (.slice A l.length c) := h.cell 1
  unfold leftN
  rw [y]
theorem leftN_end {gr : Nat} {w : World} (h : Bk w gr 59 endC) : leftN gr w = 0 := by
  have y : w.cell? ⟨gr, 1, none⟩ = some (.slice none 0 0) := h.cell 1
  unfold leftN
  rw [y]
/-- The reader in memory, whatever it has come to. -/
def RdS (B gr : Nat) (mk : Bool) (st : Option (Nat × ByteArray × List Nat)) (w : World) : Prop := match st with
  | some (k, t, l) => RdL B gr mk k t l w
  | none => Bk w gr 59 endC
/-- What a reader still comes to. -/
def restN (mk : Bool) (st : Option (Nat × ByteArray × List Nat)) : List ItM × Option (Nat × ByteArray × List Nat) := match st with
  | some (k, t, l) => runN mk (l.length + 1) k t l
  | none => ([], none)
theorem restN_no0 {mk : Bool} {k : Nat} {t : ByteArray} {l : List Nat} (h : frameN mk k t.size l = .no 0) : restN mk (some (k, t, l)) = ([], some (k, t, l)) := by
  show runN mk (l.length + 1) k t l = _
  rw [runN, h]
  rfl
theorem restN_no {mk : Bool} {k c : Nat} {t : ByteArray} {l : List Nat} (h : frameN mk k t.size l = .no c) (hc : c ≠ 0) : restN mk (some (k, t, l)) = ([⟨0, ⟨#[]⟩, c⟩], none) := by
  show runN mk (l.length + 1) k t l = _
  rw [runN, h]
  dsimp only
  rw [if_neg hc]
theorem restN_bad {mk : Bool} {k c : Nat} {t : ByteArray} {l l' : List Nat} {fm : FrM × (Nat → Nat)} (h : frameN mk k t.size l = .ok fm l') (hi : itemD k t fm.1 = .error c) : restN mk (some (k, t, l)) = ([⟨0, ⟨#[]⟩, c⟩], none) := by
  show runN mk (l.length + 1) k t l = _
  rw [runN, h]
  dsimp only
  rw [hi]
/-- What has begun, with what is left. -/
def withL (s : Option (Nat × ByteArray)) (l : List Nat) : Option (Nat × ByteArray × List Nat) := s.map fun kt => (kt.1, kt.2, l)
theorem restN_ok {mk : Bool} {k : Nat} {t : ByteArray} {l l' : List Nat} {fm : FrM × (Nat → Nat)} {i : Option ItM} {s : Option (Nat × ByteArray)} (h : frameN mk k t.size l = .ok fm l') (hi : itemD k t fm.1 = .ok (i, s)) : restN mk (some (k, t, l)) = (i.toList ++ (restN mk (withL s l')).1, (restN mk (withL s l')).2) := by
  have hlen := frameN_len h
  show runN mk (l.length + 1) k t l = _
  rw [runN, h]
  dsimp only
  rw [hi]
  cases s with
  | none => show (i.toList, none) = (i.toList ++ [], none); rw [List.append_nil]
  | some kt =>
    obtain ⟨k2, t2⟩ := kt
    show (i.toList ++ (runN mk l.length k2 t2 l').1, (runN mk l.length k2 t2 l').2) = (i.toList ++ (runN mk (l'.length + 1) k2 t2 l').1, (runN mk (l'.length + 1) k2 t2 l').2)
    rw [runN_more mk l.length (l'.length + 1) k2 t2 l' (by omega) (by omega)]
end Go.Proofs.YtnbhgjionpidnaaDoor
