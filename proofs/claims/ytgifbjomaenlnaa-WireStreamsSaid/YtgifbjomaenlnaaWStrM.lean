/- A stream that is fed in pieces, as plain data; rows that stay when another grows. No condition. -/
import Derived.Test.YtgifbjomaenlnaaWFeed
namespace Go.Proofs.Ytgifbjomaenlnaa
open Go.RowKit

theorem feed_first (P : List Nat) : feedN [] 0 P = ((run P).1, (if firstE (run P).2 = 0 then (run P).2 else []), firstE (run P).2) := by
  unfold feedN
  rw [if_pos rfl, List.nil_append]
/-- The next piece. -/
theorem feed_more (P c : List Nat) : run (P ++ c) = ((run P).1 ++ (feedN (feedN [] 0 P).2.1 (feedN [] 0 P).2.2 c).1, (run (P ++ c)).2) ∧ (feedN (feedN [] 0 P).2.1 (feedN [] 0 P).2.2 c).2 = (feedN [] 0 (P ++ c)).2 := by
  obtain ⟨h1, h2⟩ := run_append P c
  rw [feed_first, feed_first]
  by_cases he : firstE (run P).2 = 0
  · have h3 := h1 he
    simp only [he, if_true]
    unfold feedN
    rw [if_pos rfl]
    refine ⟨by rw [h3], ?_⟩
    rw [h3]
  · have h3 := h2 he
    simp only [if_neg he]
    unfold feedN
    rw [if_neg he]
    have h4 := (firstE_append (b := c) he).2
    refine ⟨by rw [h3, List.append_nil], ?_⟩
    rw [h3]
    simp only [h4, if_neg he]
theorem err_more (P c : List Nat) (h : firstE (run P).2 ≠ 0) : firstE (run (P ++ c)).2 = firstE (run P).2 := by
  rw [(run_append P c).2 h]
  exact (firstE_append h).2
theorem feed_none (P : List Nat) : feedN (feedN [] 0 P).2.1 (feedN [] 0 P).2.2 [] = ([], (feedN [] 0 P).2.1, (feedN [] 0 P).2.2) := by
  rw [feed_first]
  by_cases he : firstE (run P).2 = 0
  · simp only [he, if_true]
    unfold feedN
    rw [if_pos rfl, List.append_nil, run_none (run_end P)]
    simp only [he, if_true]
  · simp only [if_neg he]
    unfold feedN
    rw [if_neg he]
theorem run_sub : ∀ l : List Nat, ∀ x ∈ (run l).2, x ∈ l := by
  intro l
  refine run_ind (P := fun l => ∀ x ∈ (run l).2, x ∈ l) (fun l h x hx => ?_) (fun l m s h ih x hx => ?_) l
  · rw [run_none h] at hx; exact hx
  · rw [run_some h] at hx; exact List.mem_of_mem_drop (ih x hx)
theorem left_le (P : List Nat) : (feedN [] 0 P).2.1.length ≤ P.length := by
  rw [feed_first]
  have := run_len P
  simp only
  split <;> simp
  omega
theorem left_sub (P : List Nat) : ∀ x ∈ (feedN [] 0 P).2.1, x ∈ P := by
  rw [feed_first]
  intro x hx
  simp only at hx
  split at hx
  · exact run_sub P x hx
  · exact absurd hx List.not_mem_nil
/-- A row that lies apart from one that grows. -/
structure Rw (w : World) (V : Value) (B : Nat) (A : Option Addr) (xs : List Value) : Prop where
  sg : Seg w A xs
  fr : ∀ a, A = some a → B ≤ a.block
  ap : xs ≠ [] → ∀ a, A = some a → a.block < w.heap.size ∧ V.ownBlock ≠ some a.block
section
variable {w w' : World} {V V' : Value} {B g : Nat} {A : Option Addr} {xs : List Value}
theorem Rw.mk' (sg : Seg w A xs) (fr : ∀ a, A = some a → B ≤ a.block) (ap : ∀ b, V.ownBlock = some b → ∀ a, A = some a → b < a.block ∨ a.block < b) : Rw w V B A xs :=
  ⟨sg, fr, fun hn a e => by
    obtain ⟨b, off, e', hl, _⟩ := sg hn
    rw [e'] at e
    injection e with e
    subst e
    exact ⟨hl, fun hv => by have := ap _ hv _ e'; simp at this⟩⟩
theorem Rw.next (h : Rw w V B A xs) (hb : Below w.heap.size w w') : Rw w' V B A xs := ⟨h.sg.bel hb, h.fr, fun hn a e => ⟨Nat.lt_of_lt_of_le (h.ap hn a e).1 hb.size, (h.ap hn a e).2⟩⟩
theorem Rw.kq (h : Rw w V B A xs) (k : KQ g w w') (hg : g < B) : Rw w' V B A xs := ⟨h.sg.kept k.kept (fun a e => by have := h.fr a e; omega), h.fr, fun hn a e => ⟨Nat.lt_of_lt_of_le (h.ap hn a e).1 k.kept.size, (h.ap hn a e).2⟩⟩
theorem Rw.app (h : Rw w V B A xs) (hgr : w.grownBy w' V.ownBlock) (hat : V'.ownBlock = V.ownBlock ∨ V'.ownBlock = some w.heap.size) : Rw w' V' B A xs := by
  by_cases hn : xs = []
  · subst hn
    exact ⟨Seg.nil _ _, h.fr, fun h => absurd rfl h⟩
  · refine ⟨h.sg.grown hgr (fun a e => (h.ap hn a e).2), h.fr, fun _ a e => ⟨Nat.lt_of_lt_of_le (h.ap hn a e).1 hgr.size, fun hv => ?_⟩⟩
    have := h.ap hn a e
    rcases hat with h1 | h1
    · rw [h1] at hv; exact this.2 hv
    · rw [h1] at hv
      injection hv with hv
      omega
end
/-- A message whose entries lie apart. -/
structure Mw (w : World) (V : Value) (B : Nat) (q : Mq) : Prop where
  mg : Mg w q.m q.A q.n q.c
  rw : Rw w V B q.A (entV q.m.ents)
section
variable {w w' : World} {V V' : Value} {B g : Nat} {q : Mq}
theorem Mw.seg (h : Mw w V B q) (hs : Seg w' q.A (entV q.m.ents)) : Mg w' q.m q.A q.n q.c := ⟨h.mg.en, hs, h.mg.nc, h.mg.bn, h.mg.bk, h.mg.bm, h.mg.be⟩
theorem Mw.next (h : Mw w V B q) (hb : Below w.heap.size w w') : Mw w' V B q := ⟨h.mg.bel hb, h.rw.next hb⟩
theorem Mw.kq (h : Mw w V B q) (k : KQ g w w') (hg : g < B) : Mw w' V B q := ⟨h.seg (h.rw.kq k hg).sg, h.rw.kq k hg⟩
theorem Mw.app (h : Mw w V B q) (hgr : w.grownBy w' V.ownBlock) (hat : V'.ownBlock = V.ownBlock ∨ V'.ownBlock = some w.heap.size) : Mw w' V' B q := ⟨h.seg (h.rw.app hgr hat).sg, h.rw.app hgr hat⟩
end
/-- A stream whose bytes lie apart from a row that grows. -/
def Sb (w : World) (V : Value) (B g : Nat) (l : List Nat) (e : Nat) : Prop := ∃ A c, Bk w g 42 #[.slice A l.length c, .int .i64 (e : Int)] ∧ l.length ≤ c ∧ Rw w V B A (u8s l) ∧ ∀ a, A = some a → a.block < w.heap.size
section
variable {w w' : World} {V V' : Value} {B g g' : Nat} {l l' : List Nat} {e e' : Nat}
theorem Sb.st (h : Sb w V B g l e) (hg : g < B) : StW w g l e := by
  obtain ⟨A, c, h1, h2, h3, h4⟩ := h
  exact ⟨A, c, h1, h2, h3.sg, fun a e => ⟨by have := h3.fr a e; omega, h4 a e⟩⟩
theorem Sb.next (h : Sb w V B g l e) (hb : Below w.heap.size w w') : Sb w' V B g l e := by
  obtain ⟨A, c, h1, h2, h3, h4⟩ := h
  exact ⟨A, c, h1.bel hb, h2, h3.next hb, fun a e => Nat.lt_of_lt_of_le (h4 a e) hb.size⟩
theorem Sb.kq (h : Sb w V B g l e) (k : KQ g' w w') (hg : g' < B) (hne : g ≠ g') : Sb w' V B g l e := by
  obtain ⟨A, c, h1, h2, h3, h4⟩ := h
  exact ⟨A, c, bk_kept h1 hne k.kept, h2, h3.kq k hg, fun a e => Nat.lt_of_lt_of_le (h4 a e) k.kept.size⟩
theorem Sb.app (h : Sb w V B g l e) (hg : g < B) (hV : ∀ b, V.ownBlock = some b → B ≤ b) (hgr : w.grownBy w' V.ownBlock) (hat : V'.ownBlock = V.ownBlock ∨ V'.ownBlock = some w.heap.size) : Sb w' V' B g l e := by
  obtain ⟨A, c, h1, h2, h3, h4⟩ := h
  refine ⟨A, c, (hgr.block g h1.lt (fun e => ?_)).trans h1, h2, h3.app hgr hat, fun a e => Nat.lt_of_lt_of_le (h4 a e) hgr.size⟩
  have := hV g e.symm
  omega
theorem Sb.fed (h : Sb w V B g l e) (hB : B ≤ w.heap.size) (hV : ∀ b, V.ownBlock = some b → b < w.heap.size) (hs : StW w' g l' e') (hlf : ∀ A n c x, Bk w' g 42 #[.slice A n c, x] → (∃ x', Bk w g 42 #[.slice A n c, x']) ∨ ∀ a, A = some a → w.heap.size ≤ a.block) : Sb w' V B g l' e' := by
  obtain ⟨A, c, h1, h2, h3, h4⟩ := h
  obtain ⟨A', c', k1, k2, k3, k4⟩ := hs
  refine ⟨A', c', k1, k2, ?_, fun a e => (k4 a e).2⟩
  rcases hlf _ _ _ _ k1 with ⟨x', hx⟩ | hx
  · have h5 := bk_one h1 hx
    injection h5 with h6 h7 _
    subst h6
    refine ⟨k3, h3.fr, fun hn a e => ⟨(k4 a e).2, (h3.ap (fun h0 => hn ?_) a e).2⟩⟩
    have h8 : (u8s l).length = 0 := by rw [h0]; rfl
    rw [u8s_length] at h8
    exact List.eq_nil_of_length_eq_zero (by rw [u8s_length]; omega)
  · exact ⟨k3, fun a e => Nat.le_trans hB (hx a e), fun _ a e => ⟨(k4 a e).2, fun hv => by have := hV _ hv; have := hx a e; omega⟩⟩
end
/-- Messages put behind a row of one's own. -/
theorem append_msgs (L : List Mq) (A : Option Addr) (k c : Nat) (w : World) (base : Nat) (hk : k = L.length) (hs : Seg w A (mqV L)) (V : Value) (n : Nat) (xs : List Value) (hz : n + k ≤ 100000) (hown : w.ownsRow base 24 10 V n xs) (hbase : base ≤ w.heap.size) :
    ∃ v' w', (Builtin.append_ #[43, 43] 43 #[V, .slice A k c]).run Try.prog w = .ok v' w' ∧ w'.ownsRow base 24 10 v' (n + k) (xs ++ mqV L) ∧ w.grownBy w' V.ownBlock ∧ (v'.ownBlock = V.ownBlock ∨ v'.ownBlock = some w.heap.size) := by
  obtain ⟨j0, hj0, hj1, hj2, hj3⟩ := info_parts info_msg
  rcases L with _ | ⟨q, L⟩
  · obtain rfl : k = 0 := hk
    refine ⟨V, w, run_append_none (P := Try.prog) w base 43 43 24 j0 Try.underlying43 hj0 V n 10 xs hown A c, by rw [mqV, List.append_nil]; exact hown, ⟨rfl, rfl, rfl, Nat.le_refl _, fun _ _ _ => rfl⟩, Or.inl rfl⟩
  · obtain ⟨b, off, rfl, hl, hc⟩ := hs (by simp [mqV, Mq.v])
    have hlen := mqV_length (q :: L)
    obtain ⟨v', w', hrun, hown', hgr, _, hat⟩ := run_append_own_at (P := Try.prog) (w := w) base 43 43 24 j0 (.agg zMsg) 10 96 Try.underlying43 hj0 hj1 hj2 hj3 rfl (by decide) V n xs hown ⟨b, off, none⟩ k c (mqV (q :: L)) (by rw [hlen, hk]) (fun j u hu => by
      have hj : j < (mqV (q :: L)).length := by
        rcases Nat.lt_or_ge j (mqV (q :: L)).length with h | h
        · exact h
        · rw [List.getElem?_eq_none h] at hu; cases hu
      rw [show ((⟨b, off, none⟩ : Addr).add j) = ⟨b, off + j, none⟩ by unfold Addr.add; split <;> simp_all, hc j hj]
      exact hu) (mqV_one _) (by simp only [maxLen]; omega) (by omega) hbase
    exact ⟨v', w', hrun, hown', hgr, hat⟩
end Go.Proofs.Ytgifbjomaenlnaa
