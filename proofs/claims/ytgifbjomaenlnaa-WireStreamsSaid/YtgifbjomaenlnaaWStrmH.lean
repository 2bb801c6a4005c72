/- The statement on streams, its own walk. Condition: the bytes and the cuts lie in memory. -/
import Derived.Test.YtgifbjomaenlnaaWStrM
import Derived.Test.YtgifbjomaenlnaaWEnd
import Derived.Test.YtgifbjomaenlnaaWRChk
import Derived.Test.YtgifbjomaenlnaaWAwake
namespace Go.Proofs.Ytgifbjomaenlnaa
open Go.RowKit

theorem Rw.newV {w : World} {V V' : Value} {B : Nat} {A : Option Addr} {xs : List Value} (h : Rw w V B A xs) (hx : ∀ b, V'.ownBlock = some b → w.heap.size ≤ b) : Rw w V' B A xs :=
  ⟨h.sg, h.fr, fun hn a e => ⟨(h.ap hn a e).1, fun hv => by have := hx _ hv; have := (h.ap hn a e).1; omega⟩⟩
theorem Mw.newV {w : World} {V V' : Value} {B : Nat} {q : Mq} (h : Mw w V B q) (hx : ∀ b, V'.ownBlock = some b → w.heap.size ≤ b) : Mw w V' B q := ⟨h.mg, h.rw.newV hx⟩
theorem Sb.newV {w : World} {V V' : Value} {B g e : Nat} {l : List Nat} (h : Sb w V B g l e) (hx : ∀ b, V'.ownBlock = some b → w.heap.size ≤ b) : Sb w V' B g l e := by
  obtain ⟨A, c, h1, h2, h3, h4⟩ := h
  exact ⟨A, c, h1, h2, h3.newV hx, h4⟩
/-- Where the loops stand: both streams, what the one has told, what the other has. -/
structure SmS (w0 : World) (lb P : List Nat) (L G : List Mq) (AM : Option Addr) (V : Value) (w : World) : Prop where
  bel : Below w0.heap.size w0 w
  big : w0.heap.size + 2 ≤ w.heap.size
  s : Sb w V (w0.heap.size + 2) w0.heap.size (feedN [] 0 lb).2.1 (feedN [] 0 lb).2.2
  t : Sb w V (w0.heap.size + 2) (w0.heap.size + 1) (feedN [] 0 P).2.1 (feedN [] 0 P).2.2
  own : w.ownsRow (w0.heap.size + 2) 24 10 V G.length (mqV G)
  gm : G.map Mq.m = (run P).1
  gs : ∀ q ∈ G, Mw w V (w0.heap.size + 2) q
  am : Rw w V (w0.heap.size + 2) AM (mqV L)
  al : ∀ q ∈ L, Mw w V (w0.heap.size + 2) q
section
variable {w0 w w' : World} {lb P : List Nat} {L G : List Mq} {AM : Option Addr} {V : Value}
theorem SmS.next (h : SmS w0 lb P L G AM V w) (hb : Below w.heap.size w w') : SmS w0 lb P L G AM V w' :=
  ⟨h.bel.trans (hb.mono h.bel.size), Nat.le_trans h.big hb.size, h.s.next hb, h.t.next hb, own_belS h.own hb, h.gm, fun q hq => (h.gs q hq).next hb, h.am.next hb, fun q hq => (h.al q hq).next hb⟩
theorem SmS.ob (h : SmS w0 lb P L G AM V w) : ∀ b, V.ownBlock = some b → w0.heap.size + 2 ≤ b ∧ b < w.heap.size := fun _ hb => rowz_ge h.own hb
/-- The second stream has been fed, and what it told put behind. -/
theorem SmS.fed (h : SmS w0 lb P L G AM V w) {c : List Nat} {e : Ending} (hf : FeedPost w (w0.heap.size + 1) (feedN [] 0 P).2.1 (feedN [] 0 P).2.2 c e w') :
    ∃ A k cc L', e = .returned (.tuple #[.slice A k cc, .int .i64 (((feedN [] 0 (P ++ c)).2.2 : Nat) : Int)]) ∧ k = L'.length ∧ k ≤ cc ∧ Rw w' V (w0.heap.size + 2) A (mqV L') ∧ (run (P ++ c)).1 = (run P).1 ++ L'.map Mq.m ∧ KQ (w0.heap.size + 1) w w' ∧ (∀ q ∈ L', Mw w' V (w0.heap.size + 2) q) ∧
      Sb w' V (w0.heap.size + 2) (w0.heap.size + 1) (feedN [] 0 (P ++ c)).2.1 (feedN [] 0 (P ++ c)).2.2 := by
  obtain ⟨⟨A, cc, L', rfl, hm, hk, hs, ha, hq⟩, hst, hkq, hlf⟩ := hf
  obtain ⟨m1, m2⟩ := feed_more P c
  rw [m2] at hst ⊢
  have hV : ∀ b, V.ownBlock = some b → b < w.heap.size := fun b hb => (h.ob b hb).2
  have hfr : ∀ (A' : Option Addr) (xs : List Value), Seg w' A' xs → (∀ a, A' = some a → w.heap.size ≤ a.block) → Rw w' V (w0.heap.size + 2) A' xs := fun A' xs hs ha =>
    Rw.mk' hs (fun a e => Nat.le_trans h.big (ha a e)) (fun b hb a e => Or.inl (Nat.lt_of_lt_of_le (hV b hb) (ha a e)))
  exact ⟨A, L'.length, cc, L', rfl, rfl, hk, hfr A _ hs ha, by rw [m1, hm], hkq, fun q hq' => ⟨(hq q hq').1, hfr _ _ (hq q hq').1.es (hq q hq').2⟩, h.t.fed h.big hV hst hlf⟩
theorem SmS.put (h : SmS w0 lb P L G AM V w) {c : List Nat} {L' : List Mq} (hkq : KQ (w0.heap.size + 1) w w') (ht : Sb w' V (w0.heap.size + 2) (w0.heap.size + 1) (feedN [] 0 (P ++ c)).2.1 (feedN [] 0 (P ++ c)).2.2)
    (hL : ∀ q ∈ L', Mw w' V (w0.heap.size + 2) q) (hr : (run (P ++ c)).1 = (run P).1 ++ L'.map Mq.m) {V' : Value} {w'' : World} (ho : w''.ownsRow (w0.heap.size + 2) 24 10 V' (G.length + L'.length) (mqV G ++ mqV L')) (hgr : w'.grownBy w'' V.ownBlock) (hat : V'.ownBlock = V.ownBlock ∨ V'.ownBlock = some w'.heap.size) : SmS w0 lb (P ++ c) L (G ++ L') AM V' w'' := by
  have hob : ∀ b, V.ownBlock = some b → w0.heap.size + 2 ≤ b := fun b hb => (h.ob b hb).1
  have hb : Below (w0.heap.size + 2) w' w'' := (Below.refl _ _).grown hgr (Nat.le_trans h.big hkq.kept.size) hob
  refine ⟨h.bel.trans ((hkq.bel.mono (by omega)).trans (hb.mono (by omega))), Nat.le_trans h.big (Nat.le_trans hkq.kept.size hgr.size), (h.s.kq hkq (by omega) (by omega)).app (by omega) hob hgr hat, ht.app (by omega) hob hgr hat, ?_, by rw [List.map_append, h.gm, hr], fun q hq => ?_, (h.am.kq hkq (by omega)).app hgr hat, fun q hq => ((h.al q hq).kq hkq (by omega)).app hgr hat⟩
  · rw [mqV_append, List.length_append]; exact ho
  · rcases List.mem_append.1 hq with hq | hq
    · exact ((h.gs q hq).kq hkq (by omega)).app hgr hat
    · exact (hL q hq).app hgr hat
end
/-- What is still wanted behind the second stream. -/
structure TlS (w0 : World) (lb : List Nat) (L : List Mq) (AM : Option Addr) (w : World) : Prop where
  bel : Below w0.heap.size w0 w
  st : StW w w0.heap.size (feedN [] 0 lb).2.1 (feedN [] 0 lb).2.2
  am : Seg w AM (mqV L)
  al : ∀ q ∈ L, Mg w q.m q.A q.n q.c
theorem TlS.next {w0 w w' : World} {lb : List Nat} {L : List Mq} {AM : Option Addr} (h : TlS w0 lb L AM w) (hb : Below w.heap.size w w') : TlS w0 lb L AM w' :=
  ⟨h.bel.trans (hb.mono h.bel.size), h.st.bel hb, h.am.bel hb, fun q hq => (h.al q hq).bel hb⟩
theorem TlS.row {w0 w : World} {lb : List Nat} {L : List Mq} {AM : Option Addr} (h : TlS w0 lb L AM w) {n : Nat} (hn : n = L.length) (hb : n ≤ 1500) : RowM w L AM n := ⟨hn, h.am, by omega, fun q hq => (h.al q hq).ent'⟩
theorem frames_take {l : List Nat} {ms : List MsgM} {r : List Nat} (h : l = framesN ms ++ r) {j : Nat} (hj : j < ms.length) : (framesN (ms.take j)).length + (frameN ms[j]).length ≤ l.length ∧ (l.drop (framesN (ms.take j)).length).take (frameN ms[j]).length = frameN ms[j] ∧ (framesN (ms.take (j + 1))).length = (framesN (ms.take j)).length + (frameN ms[j]).length := by
  have e1 : ms = ms.take j ++ (ms[j] :: ms.drop (j + 1)) := by rw [List.getElem_cons_drop, List.take_append_drop]
  have e2 : framesN ms = framesN (ms.take j) ++ (frameN ms[j] ++ framesN (ms.drop (j + 1))) := by
    conv => lhs; rw [e1]
    rw [framesN_append, framesN]
  refine ⟨?_, ?_, ?_⟩
  · rw [h, e2]
    simp only [List.length_append]
    omega
  · rw [h, e2, List.append_assoc, List.drop_left, List.append_assoc, List.take_left]
  · rw [List.take_succ_eq_append_getElem hj, framesN_append, framesN, framesN, List.append_nil, List.length_append]
/-- Each operation's fact of the last region. -/
def enF (A A7 : Option Addr) (nb c kk es ls : Nat) (j : Nat) (v _u : Value) (_w : World) : Prop := match j with
  | 0 => v = .slice A nb c
  | 1 => v = .int .i64 (kk : Int)
  | 2 => v = .slice A7 (nb - kk) (c - kk)
  | 3 => v = .int .i64 (es : Int)
  | 4 => v = .int .i64 (ls : Int)
  | 5 => v = .bool true
  | 6 => v = .bool true
  | _ => True
theorem run_count (l : List Nat) (h : l.length ≤ 3000) : (run l).1.length ≤ 1500 := by
  have := run_len l
  omega
end Go.Proofs.Ytgifbjomaenlnaa
