/- A reader of bytes that gives up by a panic: what it holds, and its steps. Condition: the bytes lie in memory, apart from the reader itself. -/
import Derived.Test.YtnbhgjionpidnaaDoorWKq
import Derived.Laws.Pointers
namespace Go.Proofs.YtnbhgjionpidnaaDoor
open Go.RowKit

/-- The reader at block q has these bytes left. -/
def Rd (B : Nat) (w : World) (q : Nat) (l : List Nat) : Prop := ∃ A c, Bk w q 89 #[.slice A l.length c] ∧ l.length ≤ c ∧ Seg w A (u8s l) ∧ ∀ a, A = some a → a.block ≠ q ∧ a.block < B
variable {B : Nat}
theorem Rd.lt {w : World} {q : Nat} {l : List Nat} (h : Rd B w q l) : q < w.heap.size := by
  obtain ⟨A, c, hb, _⟩ := h
  exact hb.lt
theorem Rd.bel {w w' : World} {q : Nat} {l : List Nat} (h : Rd B w q l) (hb : Below w.heap.size w w') : Rd B w' q l := by
  obtain ⟨A, c, h1, h2, h3, h4⟩ := h
  exact ⟨A, c, h1.bel hb, h2, h3.bel hb, h4⟩
/-- Other blocks have changed. -/
theorem Rd.other {w w' : World} {q g : Nat} {l : List Nat} (h : Rd B w q l) (k : Kept1 g w w') (hg : q ≠ g) (hs : g = q ∨ B ≤ g) : Rd B w' q l := by
  obtain ⟨A, c, h1, h2, h3, h4⟩ := h
  exact ⟨A, c, bk_kept h1 hg k, h2, h3.kept k (fun a e => by have := h4 a e; omega), h4⟩
def wantE : List PanicEntry := [{ v := .iface 77 (.agg #[]), recovered := false }]
set_option maxRecDepth 100000 in
theorem take_at (q n : Nat) (l : List Nat) (A : Option Addr) (c : Nat) (w : World) (hb : Bk w q 89 #[.slice A l.length c]) (hc : l.length ≤ c) (hs : Seg w A (u8s l)) (ha : ∀ a, A = some a → a.block ≠ q ∧ a.block < B) (hn : n ≤ l.length) :
    Calls Tryd.prog 50 #[.pointer (some ⟨q, 0, none⟩), .int .i64 n] w fun e w' => (e = .returned (.slice A n c) ∧ n ≤ c ∧ Seg w' A (u8s (l.take n))) ∧ Rd B w' q (l.drop n) ∧ KQ q w w' := by
  have c0 := hb.cell 0
  have f0 := hb.frozen 0
  simp only [List.getElem?_toArray, List.getElem?_cons_zero] at c0
  obtain ⟨m, hm⟩ : ∃ m, m = l.length := ⟨_, rfl⟩
  rw [← hm] at c0 hn hc hb
  obtain ⟨A2, hA2⟩ : ∃ A2, A2 = if c = n then A else A.map (·.add n) := ⟨_, rfl⟩
  have hsl : ∀ w : World, (Instr.sliceAt 25 (.slice A m c) (some (.int .i64 (n : Int))) none none).run Tryd.prog w = .ok (.slice A2 (m - n) (c - n)) w := fun w => by
    have hu : Tryd.prog.underlying 25 = some (.slice (Tryd.prog.elem 25)) := by kernel_rfl
    have he : Tryd.prog.elem 25 = 5 := by kernel_rfl
    obtain ⟨i0, hi0, hz0, hz1, hz2⟩ := info_parts info5
    rw [run_sliceAt_slice (P := Tryd.prog) w 25 _ _ _ _ hu, run_slice_l (P := Tryd.prog) w 25 A m c hu .i64 (n : Int) (by omega) (by omega), he]
    have hsz5 : (sizeOf 5).run Tryd.prog w = .ok 1 w := by simp [sizeOf, typeInfo, hi0, hz1]
    rw [hsz5, hA2]
    simp [Result.andThen, sliced]
  have HS1 := Lib.hid (show Seg w A (u8s (l.take n)) by
    have := hs.take n
    rw [show (u8s l).take n = u8s (l.take n) by simp [u8s, List.map_take]] at this
    exact this)
  have hcut := hs.cut n c (by rw [u8s_length, ← hm]; exact hc)
  rw [show (u8s l).drop n = u8s (l.drop n) by simp [u8s, List.map_drop], ← hA2] at hcut
  have ha2 : ∀ a, A2 = some a → a.block ≠ q ∧ a.block < B := by
    intro a e
    rw [hA2] at e
    split at e
    · exact ha a e
    · rcases A with _ | b
      · cases e
      · simp only [Option.map_some, Option.some.injEq] at e
        subst e
        have := ha b rfl
        unfold Addr.add
        split <;> exact this
  have HR := Lib.hid (show Rd B (w.setCell ⟨q, 0, none⟩ (.slice A2 (m - n) (c - n))) q (l.drop n) from
    ⟨A2, c - n, by
      have := hb.put 0 (.slice A2 (m - n) (c - n))
      rw [List.length_drop, ← hm]
      exact this, by rw [List.length_drop, ← hm]; omega, hcut.kept (Kept1.set w q 0 _) (fun a e => (ha2 a e).1), ha2⟩)
  have HS2 := Lib.hid (HS1.out.kept (Kept1.set w q 0 (.slice A2 (m - n) (c - n))) (fun a e => (ha a e).1))
  have i1 : ¬ (m : Int) < (n : Int) := by omega
  have i2 : (n : Int) ≤ (c : Int) := by omega
  have i3 : (n : Int) ≤ (m : Int) := by omega
  clear hA2 hs ha hcut ha2 HS1 hm hb
  go_enter Tryd.func50, Tryd.ntmps50
  go_wp2_with fail
  go_ret
  exact ⟨⟨rfl, by omega, HS2.out⟩, HR.out, KQ.set _ _ _ _⟩
theorem take_ok (q n : Nat) (l : List Nat) (w : World) (h : Rd B w q l) (hn : n ≤ l.length) :
    Calls Tryd.prog 50 #[.pointer (some ⟨q, 0, none⟩), .int .i64 n] w fun e w' => (∃ A c, e = .returned (.slice A n c) ∧ n ≤ c ∧ Seg w' A (u8s (l.take n))) ∧ Rd B w' q (l.drop n) ∧ KQ q w w' := by
  obtain ⟨A, c, hb, hc, hs, ha⟩ := h
  exact (take_at q n l A c w hb hc hs ha hn).mono fun e w' ⟨⟨h1, h2, h3⟩, h4, h5⟩ => ⟨⟨A, c, h1, h2, h3⟩, h4, h5⟩
set_option maxRecDepth 100000 in
theorem take_no (q n : Nat) (l : List Nat) (w : World) (h : Rd B w q l) (hn : l.length < n) :
    Calls Tryd.prog 50 #[.pointer (some ⟨q, 0, none⟩), .int .i64 n] w fun e w' => e = .panicked wantE ∧ w = w' := by
  obtain ⟨A, c, hb, hc, hs, ha⟩ := h
  have c0 := hb.cell 0
  simp only [List.getElem?_toArray, List.getElem?_cons_zero] at c0
  obtain ⟨m, hm⟩ : ∃ m, m = l.length := ⟨_, rfl⟩
  rw [← hm] at c0 hn
  have i1 : (m : Int) < (n : Int) := by omega
  clear hs ha hm hb hc
  go_enter Tryd.func50, Tryd.ntmps50
  go_wp2_with fail
  exact ⟨rfl, rfl, rfl⟩
end Go.Proofs.YtnbhgjionpidnaaDoor
