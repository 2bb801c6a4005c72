/- Feed: some bytes more. Conditions: the reader and the bytes lie in memory; the tables of UTF-8 are laid. -/
import Derived.Test.YtnbhgjionpidnaaDoorSItems
import Derived.Test.YtnbhgjionpidnaaDoorSConcat
namespace Go.Proofs.YtnbhgjionpidnaaDoor
open Go.RowKit

theorem own_base {w : World} {B B' n size : Nat} {e : TypeId} {v : Value} {xs : List Value} (h : w.ownsRow B e size v n xs) (hB : B' ≤ B) : w.ownsRow B' e size v n xs := by
  refine ⟨h.1, ?_⟩
  rcases h.2 with h | ⟨g, cap, cur, h1, h2, h3⟩
  · exact .inl h
  · exact .inr ⟨g, cap, cur, h1, Nat.le_trans hB h2, h3⟩
/-- What a reader comes to by some bytes more. -/
def feedN (mk : Bool) (st : Option (Nat × ByteArray × List Nat)) (b : List Nat) : List ItM × Option (Nat × ByteArray × List Nat) := match st with
  | some (k, t, l) => restN mk (some (k, t, l ++ b))
  | none => ([], none)
/-- What a reader may have come to. -/
def StB (z : Nat) (st : Option (Nat × ByteArray × List Nat)) : Prop := ∀ k t l, st = some (k, t, l) → k ≤ 2 ∧ t.size ≤ 4096 ∧ l.length ≤ z ∧ ∀ x ∈ l, x < 256
set_option maxRecDepth 100000 in
set_option maxHeartbeats 2000000 in
theorem feed_any (gr : Nat) (mk : Bool) (st : Option (Nat × ByteArray × List Nat)) (B0 : Nat) (B : Option Addr) (n c : Nat) (b : List Nat) (hn : n = b.length) (hz : n ≤ 10000) (hst : StB 10000 st) (hlb : ∀ x ∈ b, x < 256) (w : World) (hT : TabG w gr) (h : RdS B0 gr mk st w) (hB : Seg w B (u8s b)) :
    Calls Tryd.prog 19 #[.pointer (some ⟨gr, 0, none⟩), .slice B n c] w (ItsPost gr mk w (feedN mk st b)) := by
  cases st with
  | none =>
    have h : Bk w gr 59 endC := h
    have y4 : w.cell? ⟨gr, 4, none⟩ = some (.bool true) := h.cell 4
    have FIN := Lib.hid (show ItsPost gr mk w (feedN mk none b) (.returned (.slice none 0 0)) w from ⟨KQ.refl _ _, _, rfl, World.ownsRow_nil _ _ _ _, w.heap.size, h, Nat.le_refl _⟩)
    clear h hT hB hn hz hst hlb
    go_enter Tryd.func19, Tryd.ntmps19
    go_wp2_with fail
    go_ret
    exact FIN.out
  | some ktl =>
    obtain ⟨k, t, l⟩ := ktl
    obtain ⟨s1, s2, s3, s4⟩ := hst k t l rfl
    obtain ⟨A, cA, hb, hcA, hs, _⟩ := (show RdL B0 gr mk k t l w from h)
    obtain ⟨m, hm⟩ : ∃ m, m = l.length := ⟨_, rfl⟩
    rw [← hm] at hb hcA
    have y1 : w.cell? ⟨gr, 1, none⟩ = some (.slice A m cA) := hb.cell 1
    have y4 : w.cell? ⟨gr, 4, none⟩ = some (.bool false) := hb.cell 4
    obtain ⟨w1, hw1⟩ : ∃ w1, w1 = w.alloc (.cells #[.slice A m cA, .slice B n c] 25) := ⟨_, rfl⟩
    have hb1 : Below w.heap.size w w1 := by rw [hw1]; exact (Below.refl _ _).alloc (Nat.le_refl _) _
    have C1 := concat_any w.heap.size A B m n cA c l b hm hn (by omega) (by omega) w1 (by rw [hw1]; exact Bk.new w _ _) (hs.bel hb1) (hB.bel hb1)
    have HC := Lib.hid C1
    have HW1 := Lib.hid hw1
    have HB1 := Lib.hid hb1
    have HRD := Lib.hid (hb.bel hb1)
    have HLT := Lib.hid hb.lt
    have HTB := Lib.hid hT
    have HLL := Lib.hid (show m + n = (l ++ b).length by rw [List.length_append, hm, hn])
    have HST := Lib.hid (show k ≤ 2 ∧ t.size ≤ 4096 ∧ (l ++ b).length ≤ 20000 ∧ ∀ x ∈ l ++ b, x < 256 from ⟨s1, s2, by rw [List.length_append]; omega, fun x hx => by
      rcases List.mem_append.1 hx with hx | hx
      · exact s4 x hx
      · exact hlb x hx⟩)
    obtain ⟨q, hq⟩ : ∃ q, q = w.heap.size := ⟨_, rfl⟩
    rw [← hq] at HC
    have HQ := Lib.hid hq
    clear h hT hB hn hz hst hlb s1 s2 s3 s4 hb hcA hs hm hw1 hb1 C1 hq
    go_enter Tryd.func19, Tryd.ntmps19
    go_upto_region 3 with fail
    go_wp2_with (go_at_call 29; rw [← HW1.out, ← HQ.out]; refine HC.out.mono ?_; rintro e w2 ⟨v, rfl, ho, hb2⟩; obtain ⟨A2, c2, rfl, h2, hs2⟩ := own_shape ho; have r2 := HRD.out.bel hb2; have z1 := r2.frozen 1; have x1 : w2.cell? ⟨gr, 1, none⟩ = some (.slice A m cA) := r2.cell 1; have HO2 := Lib.hid ho; have HB2 := Lib.hid hb2; have HR2 := Lib.hid r2; have HS2 := Lib.hid hs2; have HC2 := Lib.hid h2; clear ho hb2 r2 hs2 h2 HC)
    obtain ⟨w3, hw3⟩ : ∃ x, x = w2.setCell ⟨gr, 1, none⟩ (.slice A2 (m + n) c2) := ⟨_, rfl⟩
    rw [← hw3]
    have k3 : KQ gr w w3 := by
      rw [hw3]
      exact ((KQ.of_below HLT.out HB1.out).trans (KQ.of_below (Nat.lt_of_lt_of_le HLT.out HB1.out.size) HB2.out)).trans (KQ.set gr 1 w2 _)
    have r3 : RdL w3.heap.size gr mk k t (l ++ b) w3 := by
      refine ⟨A2, c2, ?_, by rw [← HLL.out]; exact HC2.out, ?_, fun a e => ?_⟩
      · rw [← HLL.out, hw3]
        exact HR2.out.put 1 _
      · rw [hw3]
        exact HS2.out.kept (Kept1.set w2 gr 1 _) (fun a e => by subst e; have := (HO2.out.lt a.block rfl).1; have := HB1.out.size; have := HLT.out; omega)
      · subst e
        have := (HO2.out.lt a.block rfl).2
        rw [hw3]
        simpa using this
    have CI := items_any gr mk k t (l ++ b) HST.out.1 HST.out.2.1 HST.out.2.2.1 HST.out.2.2.2 w3 (HTB.out.kq k3) r3
    have K3 := Lib.hid k3
    refine CI.mono ?_
    rintro e w4 ⟨k4, v, rfl, ho, B4, hr, hB4⟩
    have FIN := Lib.hid (show ItsPost gr mk w (feedN mk (some (k, t, l)) b) (.returned v) w4 from ⟨K3.out.trans k4, v, rfl, own_base ho K3.out.kept.size, B4, hr, hB4⟩)
    clear CI k3 r3 k4 ho hr hB4 hw3 x1 z1 y1 y4
    go_wp2_with fail
    go_ret
    exact FIN.out
end Go.Proofs.YtnbhgjionpidnaaDoor
