/- What a call of the pager comes to, as data; what a call leaves. No program but for the types' numbers. -/
import Derived.Test.YtfbpagbfdccgfaaGFind
import Derived.Test.YtfbpagbfdccgfaaGShelf
import Derived.Test.YtfbpagbfdccgfaaStableH
import Derived.Maps.AppendAt
namespace Go.Proofs.Ytfbpagbfdccgfaa
open Go.RowKit

structure ActM where
  err : Int
  hit : Bool
  out : Int
  wrote : List Int
def refM (e : Int) : ActM := ⟨e, false, -1, []⟩
def isP (page : Int) : HeldM → Bool := fun h => h.page == page
def isF : HeldM → Bool := fun h => h.pins == 0
def pinM (room : Int) (l : List HeldM) (page : Int) : List HeldM × ActM :=
  if 0 ≤ findZ (isP page) l then (l.eraseIdx (findZ (isP page) l).toNat ++ [⟨(l.getD (findZ (isP page) l).toNat default).page, (l.getD (findZ (isP page) l).toNat default).pins + 1, (l.getD (findZ (isP page) l).toNat default).turned⟩], ⟨0, true, -1, []⟩)
  else if room ≤ (l.length : Int) then
    if findZ isF l < 0 then (l, refM 5)
    else (l.eraseIdx (findZ isF l).toNat ++ [⟨page, 1, false⟩], ⟨0, false, (l.getD (findZ isF l).toNat default).page, if (l.getD (findZ isF l).toNat default).turned then [(l.getD (findZ isF l).toNat default).page] else []⟩)
  else (l ++ [⟨page, 1, false⟩], ⟨0, false, -1, []⟩)
/-- What a call leaves: the answer, the pager, and nothing else changed. -/
def DoP (B gp : Nat) (room : Int) (v : Value) (w : World) (r : List HeldM × ActM) (e : Ending) (w' : World) : Prop :=
  ∃ W v', e = .returned (.agg #[.int .i64 r.2.err, .bool r.2.hit, .int .i64 r.2.out, W]) ∧ w'.ownsRow w.heap.size 3 1 W r.2.wrote.length (intV r.2.wrote) ∧ PgA B gp room r.1 v' w' ∧ Kp (pS gp v) (pS gp v') w w'
/-- What holds while a page is put behind the others. -/
structure PnS (B gp : Nat) (room : Int) (l : List HeldM) (v0 v : Value) (h : HeldM) (hit : Bool) (out : Int) (W : Value) (ws : List Int) (w wr : World) : Prop where
  pg : PgA B gp room l v wr
  kp : Kp (pS gp v0) (pS gp v) w wr
  res : Bk wr w.heap.size 38 #[.int .i64 0, .bool false, .int .i64 0, .slice none 0 0]
  act : Bk wr (w.heap.size + 1) 38 #[.int .i64 0, .bool hit, .int .i64 out, W]
  hb : Bk wr (w.heap.size + 2) 61 #[.int .i64 h.page, .int .i64 (h.pins : Int), .bool h.turned]
  wrote : wr.ownsRow w.heap.size 3 1 W ws.length (intV ws)
  lt : gp < w.heap.size
  low : ∀ k, v.ownBlock = some k → k < w.heap.size
  base : B ≤ w.heap.size
theorem PnS.bel {B gp : Nat} {room : Int} {l : List HeldM} {v0 v : Value} {h : HeldM} {hit : Bool} {out : Int} {W : Value} {ws : List Int} {w wr w' : World} (s : PnS B gp room l v0 v h hit out W ws w wr) (hb : Below wr.heap.size wr w') : PnS B gp room l v0 v h hit out W ws w w' :=
  ⟨s.pg.bel hb, s.kp.trans (Kp.of_bel hb _), s.res.bel hb, s.act.bel hb, s.hb.bel hb, kept_bel s.wrote hb, s.lt, s.low, s.base⟩
theorem own_block_ne {w : World} {B n gp size : Nat} {e t : TypeId} {v : Value} {xs : List Value} {cs : Array Value} (h : w.ownsRow B e size v n xs) (hb : Bk w gp t cs) (hte : e ≠ t) : v.ownBlock ≠ some gp := by
  intro hv
  rcases h.2 with ⟨h1, _⟩ | ⟨g, cap, cur, h1, _, hc, _⟩
  · subst h1; cases hv
  · subst h1
    have : g = gp := by simpa [Value.ownBlock] using hv
    subst this
    unfold Bk at hb
    rw [hc] at hb
    injection hb with hb
    injection hb with _ h2
    exact hte h2
theorem own_setB {w : World} {B n gp size i : Nat} {e : TypeId} {v u : Value} {xs : List Value} (h : w.ownsRow B e size v n xs) (hn : v.ownBlock ≠ some gp) : (w.setCell ⟨gp, i, none⟩ u).ownsRow B e size v n xs := by
  refine ⟨h.1, h.2.imp id ?_⟩
  rintro ⟨g, cap, cur, rfl, hb, hc, r⟩
  exact ⟨g, cap, cur, rfl, hb, (Below.heap_setCell w ⟨gp, i, none⟩ u g (fun e => hn (by have e1 : g = gp := e; rw [e1]; rfl))).trans hc, r⟩
section
variable {B gp : Nat} {room : Int} {l : List HeldM} {v0 v : Value} {h : HeldM} {hit : Bool} {out : Int} {W : Value} {ws : List Int} {w wr : World}
/-- A cell of the answer's box written. -/
theorem PnS.act2 (s : PnS B gp room l v0 v h hit out W ws w wr) (i : Nat) (u : Value) {hit2 : Bool} {out2 : Int} {W2 : Value} {ws2 : List Int} (hc : (#[.int .i64 0, .bool hit, .int .i64 out, W] : Array Value).setIfInBounds i u = #[.int .i64 0, .bool hit2, .int .i64 out2, W2]) (hw : wr.ownsRow w.heap.size 3 1 W2 ws2.length (intV ws2)) : PnS B gp room l v0 v h hit2 out2 W2 ws2 w (wr.setCell ⟨w.heap.size + 1, i, none⟩ u) := by
  have hlt := s.lt
  have n1 : ¬ gp = w.heap.size + 1 := by omega
  have nv : v.ownBlock ≠ some (w.heap.size + 1) := fun e => by have := s.low _ e; omega
  have ha := s.act.put i u
  rw [hc] at ha
  exact ⟨⟨bk_set2 s.pg.bk n1, own_setB s.pg.row nv, s.pg.ge, by simpa [World.setCell] using s.pg.base⟩, s.kp.setCell (p := ⟨w.heap.size + 1, i, none⟩) (Or.inr (by show w.heap.size ≤ w.heap.size + 1; omega)) _, bk_set2 s.res (by omega), ha, bk_set2 s.hb (by omega), own_setB hw (own_block_ne hw s.act (by decide)), s.lt, s.low, s.base⟩
/-- The page's box written whole. -/
theorem PnS.box (s : PnS B gp room l v0 v h hit out W ws w wr) (h2 : HeldM) : PnS B gp room l v0 v h2 hit out W ws w (((wr.setCell ⟨w.heap.size + 2, 0, none⟩ (.int .i64 h2.page)).setCell ⟨w.heap.size + 2, 1, none⟩ (.int .i64 (h2.pins : Int))).setCell ⟨w.heap.size + 2, 2, none⟩ (.bool h2.turned)) := by
  have hlt := s.lt
  have n1 : ¬ gp = w.heap.size + 2 := by omega
  have nv : v.ownBlock ≠ some (w.heap.size + 2) := fun e => by have := s.low _ e; omega
  have nw := own_block_ne s.wrote s.hb (by decide)
  exact ⟨⟨bk_set2 (bk_set2 (bk_set2 s.pg.bk n1) n1) n1, own_setB (own_setB (own_setB s.pg.row nv) nv) nv, s.pg.ge, by simpa [World.setCell] using s.pg.base⟩,
    ((s.kp.setCell (p := ⟨w.heap.size + 2, 0, none⟩) (Or.inr (by show w.heap.size ≤ w.heap.size + 2; omega)) _).setCell (p := ⟨w.heap.size + 2, 1, none⟩) (Or.inr (by show w.heap.size ≤ w.heap.size + 2; omega)) _).setCell (p := ⟨w.heap.size + 2, 2, none⟩) (Or.inr (by show w.heap.size ≤ w.heap.size + 2; omega)) _,
    bk_set2 (bk_set2 (bk_set2 s.res (by omega)) (by omega)) (by omega), bk_set2 (bk_set2 (bk_set2 s.act (by omega)) (by omega)) (by omega), ((s.hb.put 0 (.int .i64 h2.page)).put 1 (.int .i64 (h2.pins : Int))).put 2 (.bool h2.turned),
    own_setB (own_setB (own_setB s.wrote nw) nw) nw, s.lt, s.low, s.base⟩
/-- The pager's row turned by a call. -/
theorem PnS.turn (s : PnS B gp room l v0 v h hit out W ws w wr) {l2 : List HeldM} {v2 : Value} {w2 : World} (hp : PgA B gp room l2 v2 w2) (hk : Kp (pS gp v) (pS gp v2) wr w2) (hb : v2.ownBlock = v.ownBlock) (hW : W = .slice none 0 0) : PnS B gp room l2 v0 v2 h hit out W ws w w2 := by
  have hlt := s.lt
  have nb : ∀ k, w.heap.size ≤ k → ¬ pS gp v k := fun k hk e => by
    rcases e with e | e
    · omega
    · have := s.low _ e; omega
  refine ⟨hp, s.kp.trans hk, hk.bk s.res (nb _ (Nat.le_refl _)), hk.bk s.act (nb _ (by omega)), hk.bk s.hb (nb _ (by omega)), ?_, s.lt, fun k e => s.low k (by rw [← hb]; exact e), s.base⟩
  subst hW
  rcases s.wrote.2 with ⟨_, h0⟩ | ⟨g, cap, cur, h1, _⟩
  · rw [h0]
    have hx := s.wrote.1
    rw [h0] at hx
    have : intV ws = [] := List.eq_nil_of_length_eq_zero (by simpa using hx)
    rw [this]
    exact World.ownsRow_nil _ _ _ _
  · cases h1
end
/-- Each operation's fact, while the row grows. -/
def puF (B gp : Nat) (room : Int) (l : List HeldM) (h : HeldM) (K : Value) (wr : World) (j : Nat) (v _u : Value) (w : World) : Prop := match j with
  | 0 => v = .pointer (some ⟨gp, 0, none⟩)
  | 1 => v = .pointer (some ⟨gp, 0, none⟩)
  | 2 => v = .pointer (some ⟨gp, 0, none⟩)
  | 3 => v = .pointer (some ⟨gp, 1, none⟩)
  | 4 => v = K
  | 5 => v = .agg #[.int .i64 h.page, .int .i64 (h.pins : Int), .bool h.turned]
  | 6 => ∃ g, v = .slice (some ⟨g, 0, none⟩) 1 1 ∧ B ≤ g ∧ g ≠ gp ∧ K.ownBlock ≠ some g ∧ Bk w g 61 #[.int .i64 h.page, .int .i64 (h.pins : Int), .bool h.turned]
  | 7 => w.ownsRow B 61 3 v (l.length + 1) (rowH l ++ heldV h) ∧ (v.ownBlock = K.ownBlock ∨ ∃ g, v.ownBlock = some g ∧ wr.heap.size ≤ g)
  | 8 => v = .pointer (some ⟨gp, 0, none⟩)
  | 9 => v = .pointer (some ⟨gp, 1, none⟩)
  | 10 => ∃ v', Bk w gp 56 #[.int .i64 room, v'] ∧ w.ownsRow B 61 3 v' (l.length + 1) (rowH l ++ heldV h) ∧ (v'.ownBlock = K.ownBlock ∨ ∃ g, v'.ownBlock = some g ∧ wr.heap.size ≤ g)
  | _ => True
def puH (B gp : Nat) (room : Int) (l : List HeldM) (K : Value) (m : Nat) (w : World) : Prop := match m with
  | 7 => w.ownsRow B 61 3 K l.length (rowH l)
  | 10 => Bk w gp 56 #[.int .i64 room, K]
  | _ => True
/-- What holds throughout. -/
structure puG (B gp : Nat) (K : Value) (wr w : World) : Prop where
  kp : Kp (pS gp K) (pS gp K) wr w
  lt : gp < w.heap.size
  kl : ∀ b, K.ownBlock = some b → B ≤ b ∧ b < w.heap.size
  base : B ≤ w.heap.size
section
variable {B gp : Nat} {room : Int} {l : List HeldM} {h : HeldM} {K : Value} {wr w w' : World}
theorem puG.next (s : puG B gp K wr w) (hb : Below w.heap.size w w') : puG B gp K wr w' := ⟨s.kp.trans (Kp.of_bel hb _), Nat.lt_of_lt_of_le s.lt hb.size, fun b e => ⟨(s.kl b e).1, Nat.lt_of_lt_of_le (s.kl b e).2 hb.size⟩, Nat.le_trans s.base hb.size⟩
theorem puG.app (s : puG B gp K wr w) (k : w.grownBy w' K.ownBlock) : puG B gp K wr w' := by
  refine ⟨s.kp.trans ?_, Nat.lt_of_lt_of_le s.lt k.size, fun b e => ⟨(s.kl b e).1, Nat.lt_of_lt_of_le (s.kl b e).2 k.size⟩, Nat.le_trans s.base k.size⟩
  exact ⟨k.os, k.tape, k.output, k.size, fun i hi hn => k.block i hi (fun e => hn (Or.inr e.symm)), fun _ hs => Or.inl hs⟩
theorem puG.set (s : puG B gp K wr w) (i : Nat) (u : Value) : puG B gp K wr (w.setCell ⟨gp, i, none⟩ u) :=
  ⟨s.kp.setCell (p := ⟨gp, i, none⟩) (Or.inl (Or.inl rfl)) u, by simpa [World.setCell] using s.lt, fun b e => ⟨(s.kl b e).1, by simpa [World.setCell] using (s.kl b e).2⟩, by simpa [World.setCell] using s.base⟩
theorem own_grown {w w' : World} {g : Nat} {t : TypeId} {cs : Array Value} {row : Option Nat} (hg : w.grownBy w' row) (hb : Bk w g t cs) (hn : row ≠ some g) : Bk w' g t cs := (hg.block g hb.lt (fun e => hn e.symm)).trans hb
theorem own_shapeS {w : World} {B n size : Nat} {e : TypeId} {v : Value} {xs : List Value} (h : w.ownsRow B e size v n xs) : ∃ A c, v = .slice A n c ∧ n ≤ c := by
  rcases h.2 with ⟨rfl, rfl⟩ | ⟨g, cap, cur, rfl, _, _, hc, _⟩
  · exact ⟨_, _, rfl, Nat.le_refl _⟩
  · exact ⟨_, _, rfl, hc⟩
theorem puF_bel (hb : Below w.heap.size w w') : ∀ j u u', puF B gp room l h K wr j u u' w → puF B gp room l h K wr j u u' w' := by
  intro j u u' s
  unfold puF at *
  split at s <;> first | exact s | exact ⟨kept_bel s.1 hb, s.2⟩ | skip
  · obtain ⟨g, hv, h0, h1, h2, h3⟩ := s
    exact ⟨g, hv, h0, h1, h2, h3.bel hb⟩
  · obtain ⟨v', h1, h2, h3⟩ := s
    exact ⟨v', h1.bel hb, kept_bel h2 hb, h3⟩
theorem puH_bel (hb : Below w.heap.size w w') : ∀ m, puH B gp room l K m w → puH B gp room l K m w' := by
  intro m s
  unfold puH at *
  split at s <;> first | exact s | exact s.bel hb | exact kept_bel s hb
theorem puF_app (k : w.grownBy w' K.ownBlock) : ∀ j, j ≠ 7 → j ≠ 10 → ∀ u u', puF B gp room l h K wr j u u' w → puF B gp room l h K wr j u u' w' := by
  intro j h7 h10 u u' s
  unfold puF at *
  split at s <;> first | exact s | exact absurd rfl h7 | exact absurd rfl h10 | skip
  · obtain ⟨g, hv, h0, h1, h2, h3⟩ := s
    exact ⟨g, hv, h0, h1, h2, own_grown k h3 h2⟩
theorem puH_app (k : w.grownBy w' K.ownBlock) (h3 : K.ownBlock ≠ some gp) : ∀ m, m ≠ 7 → puH B gp room l K m w → puH B gp room l K m w' := by
  intro m h7 s
  unfold puH at *
  split at s <;> first | exact s | exact absurd rfl h7 | exact own_grown k s h3
theorem puF_set {cs : Array Value} (hb : Bk w gp 56 cs) (i : Nat) (u0 : Value) : ∀ j, j ≠ 10 → ∀ u u', puF B gp room l h K wr j u u' w → puF B gp room l h K wr j u u' (w.setCell ⟨gp, i, none⟩ u0) := by
  intro j h10 u u' s
  unfold puF at *
  split at s <;> first | exact s | exact absurd rfl h10 | skip
  · obtain ⟨g, hv, h0, h1, h2, h3⟩ := s
    exact ⟨g, hv, h0, h1, h2, bk_set2 h3 h1⟩
  · exact ⟨own_setB s.1 (own_block_ne s.1 hb (by decide)), s.2⟩
theorem puH_set {cs : Array Value} (hb : Bk w gp 56 cs) (i : Nat) (u0 : Value) : ∀ m, m ≠ 10 → puH B gp room l K m w → puH B gp room l K m (w.setCell ⟨gp, i, none⟩ u0) := by
  intro m h10 s
  unfold puH at *
  split at s <;> first | exact s | exact absurd rfl h10 | exact own_setB s (own_block_ne s hb (by decide))
end
end Go.Proofs.Ytfbpagbfdccgfaa
