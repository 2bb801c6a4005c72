/- A reader of bytes that gives up by a panic: what it holds, and its steps. Condition: the bytes lie in memory, apart from the reader itself. -/
import Derived.Test.YtopkkolcimmedaaBtA
import Derived.Test.YtopkkolcimmedaaTwin
import Derived.Laws.Pointers
namespace Go.Proofs.Ytopkkolcimmedaa
open Go.RowKit

/-- Nothing that was there has changed but for block q. -/
structure KQ (q : Nat) (w w' : World) : Prop where
  bel : Below q w w'
  kept : Kept1 q w w'
theorem KQ.refl (q : Nat) (w : World) : KQ q w w := ⟨Below.refl _ _, Kept1.of_below (Below.refl _ _)⟩
theorem KQ.trans {q : Nat} {w w' w'' : World} (h : KQ q w w') (k : KQ q w' w'') : KQ q w w'' := ⟨h.bel.trans k.bel, h.kept.trans k.kept⟩
theorem KQ.of_below {q : Nat} {w w' : World} (hq : q < w.heap.size) (h : Below w.heap.size w w') : KQ q w w' := ⟨h.mono (by omega), Kept1.of_below h⟩
theorem KQ.set (q i : Nat) (w : World) (v : Value) : KQ q w (w.setCell ⟨q, i, none⟩ v) := ⟨(Below.refl q w).setCell (p := ⟨q, i, none⟩) (Nat.le_refl q) v, Kept1.set w q i v⟩
theorem KQ.alloc {q : Nat} {w w' : World} (h : KQ q w w') (hq : q < w.heap.size) (o : Obj) : KQ q w (w'.alloc o) := h.trans (KQ.of_below (Nat.lt_of_lt_of_le hq h.kept.size) ((Below.refl _ _).alloc (Nat.le_refl _) o))
/-- The reader at block q has these bytes left. -/
def Rd (B : Nat) (w : World) (q : Nat) (l : List Nat) : Prop := ∃ A c, Bk w q 69 #[.slice A l.length c] ∧ l.length ≤ c ∧ Seg w A (u8s l) ∧ ∀ a, A = some a → a.block ≠ q ∧ a.block < B
variable {B : Nat}
theorem Rd.lt {w : World} {q : Nat} {l : List Nat} (h : Rd B w q l) : q < w.heap.size := by
  obtain ⟨A, c, hb, _⟩ := h
  exact hb.lt
theorem Seg.kept {w w' : World} {q : Nat} {A : Option Addr} {xs : List Value} (h : Seg w A xs) (k : Kept1 q w w') (ha : ∀ a, A = some a → a.block ≠ q) : Seg w' A xs := fun hn => by
  obtain ⟨b, off, rfl, hl, hc⟩ := h hn
  refine ⟨b, off, rfl, Nat.lt_of_lt_of_le hl k.size, fun i hi => ?_⟩
  rw [World.cell?_of_block (w := w) (a := ⟨b, off + i, none⟩) (k.block b hl (ha _ rfl))]
  exact hc i hi
theorem Rd.bel {w w' : World} {q : Nat} {l : List Nat} (h : Rd B w q l) (hb : Below w.heap.size w w') : Rd B w' q l := by
  obtain ⟨A, c, h1, h2, h3, h4⟩ := h
  exact ⟨A, c, h1.bel hb, h2, h3.bel hb, h4⟩
/-- Other blocks have changed. -/
theorem Rd.other {w w' : World} {q g : Nat} {l : List Nat} (h : Rd B w q l) (k : Kept1 g w w') (hg : q ≠ g) (hs : g = q ∨ B ≤ g) : Rd B w' q l := by
  obtain ⟨A, c, h1, h2, h3, h4⟩ := h
  exact ⟨A, c, bk_kept h1 hg k, h2, h3.kept k (fun a e => by have := h4 a e; omega), h4⟩
def brokenE : List PanicEntry := [{ v := .iface 66 (.agg #[]), recovered := false }]
set_option maxRecDepth 100000 in
theorem take_ok (q n : Nat) (l : List Nat) (w : World) (h : Rd B w q l) (hn : n ≤ l.length) :
    Calls Try.prog 59 #[.pointer (some ⟨q, 0, none⟩), .int .i64 n] w fun e w' => (∃ A c, e = .returned (.slice A n c) ∧ n ≤ c ∧ Seg w' A (u8s (l.take n))) ∧ Rd B w' q (l.drop n) ∧ KQ q w w' := by
  obtain ⟨A, c, hb, hc, hs, ha⟩ := h
  have c0 := hb.cell 0
  have f0 := hb.frozen 0
  simp only [List.getElem?_toArray, List.getElem?_cons_zero] at c0
  obtain ⟨m, hm⟩ : ∃ m, m = l.length := ⟨_, rfl⟩
  rw [← hm] at c0 hn hc hb
  obtain ⟨A2, hA2⟩ : ∃ A2, A2 = if c = n then A else A.map (·.add n) := ⟨_, rfl⟩
  have hsl : ∀ w : World, (Instr.sliceAt 44 (.slice A m c) (some (.int .i64 (n : Int))) none none).run Try.prog w = .ok (.slice A2 (m - n) (c - n)) w := fun w => by
    have hu : Try.prog.underlying 44 = some (.slice (Try.prog.elem 44)) := by kernel_rfl
    have he : Try.prog.elem 44 = 5 := by kernel_rfl
    obtain ⟨i0, hi0, hz0, hz1, hz2⟩ := info_parts info5
    rw [run_sliceAt_slice (P := Try.prog) w 44 _ _ _ _ hu, run_slice_l (P := Try.prog) w 44 A m c hu .i64 (n : Int) (by omega) (by omega), he]
    have hsz5 : (sizeOf 5).run Try.prog w = .ok 1 w := by simp [sizeOf, typeInfo, hi0, hz1]
    rw [hsz5, hA2]
    simp [Result.andThen, sliced]
  have HS1 := Lib.hid (show Seg w A (u8s (l.take n)) by
    have := hs.take n
    rw [show (u8s l).take n = u8s (l.take n) by simp [u8s, List.map_take]] at this
    exact this)
  have hcut := hs.cut n c (by rw [u8s_length, ← hm]; exact hc)
  rw [show (u8s l).drop n = u8s (l.drop n) by simp [u8s, List.map_drop], ← hA2] at hcut
  have ha2 : ∀ a, A2 = some a → a.block ≠ q ∧ a.block < B := by
    intro a e
    rw [hA2] at e
    split at e
    · exact ha a e
    · rcases A with _ | b
      · cases e
      · simp only [Option.map_some, Option.some.injEq] at e
        subst e
        have := ha b rfl
        unfold Addr.add
        split <;> exact this
  have HR := Lib.hid (show Rd B (w.setCell ⟨q, 0, none⟩ (.slice A2 (m - n) (c - n))) q (l.drop n) from
    ⟨A2, c - n, by
      have := hb.put 0 (.slice A2 (m - n) (c - n))
      rw [List.length_drop, ← hm]
      exact this, by rw [List.length_drop, ← hm]; omega, hcut.kept (Kept1.set w q 0 _) (fun a e => (ha2 a e).1), ha2⟩)
  have HS2 := Lib.hid (HS1.out.kept (Kept1.set w q 0 (.slice A2 (m - n) (c - n))) (fun a e => (ha a e).1))
  have i1 : ¬ (m : Int) < (n : Int) := by omega
  have i2 : (n : Int) ≤ (c : Int) := by omega
  have i3 : (n : Int) ≤ (m : Int) := by omega
  clear hA2 hs ha hcut ha2 HS1 hm hb
  go_enter Try.func59, Try.ntmps59
  go_wp2_with fail
  go_ret
  exact ⟨⟨A, c, rfl, by omega, HS2.out⟩, HR.out, KQ.set _ _ _ _⟩
set_option maxRecDepth 100000 in
theorem take_no (q n : Nat) (l : List Nat) (w : World) (h : Rd B w q l) (hn : l.length < n) :
    Calls Try.prog 59 #[.pointer (some ⟨q, 0, none⟩), .int .i64 n] w fun e w' => e = .panicked brokenE ∧ w = w' := by
  obtain ⟨A, c, hb, hc, hs, ha⟩ := h
  have c0 := hb.cell 0
  simp only [List.getElem?_toArray, List.getElem?_cons_zero] at c0
  obtain ⟨m, hm⟩ : ∃ m, m = l.length := ⟨_, rfl⟩
  rw [← hm] at c0 hn
  have i1 : (m : Int) < (n : Int) := by omega
  clear hs ha hm hb hc
  go_enter Try.func59, Try.ntmps59
  go_wp2_with fail
  exact ⟨rfl, rfl, rfl⟩
end Go.Proofs.Ytopkkolcimmedaa
