/- At most 300 calls, in a row of one's own; a new pager; its pages' numbers. Condition: the rows lie in memory. -/
import Derived.Test.YtopkkolcimmedaaGDo
import Derived.Laws.MakeOwn
namespace Go.Proofs.Ytopkkolcimmedaa
open Go.RowKit

/-- The empty row just made: nothing is put behind it. -/
theorem run_append_nothing {P : Program} (w : World) (base : Nat) (t ty e : TypeId) (i : TypeInfo) (ht : P.underlying t = some (.slice e)) (hi : P.info? e = some i) (v : Value) (n size : Nat) (xs : List Value) (hown : w.ownsRow base e size v n xs) (A : Option Addr) (c : Nat) :
    (Builtin.append_ #[t, t] ty #[v, .slice A 0 c]).run P w = .ok v w := by
  rcases A with _ | a
  · rcases hown.2 with ⟨rfl, rfl⟩ | ⟨g, cap, cur, rfl, _, _, hnc, _⟩
    · simp [Builtin.append_, run_underlying ht, sizeOf, typeInfo, hi, Builtin.lenOf, Builtin.firstCells]
    · simp [Builtin.append_, run_underlying ht, sizeOf, typeInfo, hi, Builtin.lenOf, Builtin.firstCells, hnc, storeCells]
  · rcases hown.2 with ⟨rfl, rfl⟩ | ⟨g, cap, cur, rfl, _, _, hnc, _⟩
    · simp [Builtin.append_, run_underlying ht, sizeOf, typeInfo, hi, Builtin.lenOf, Builtin.firstCells, loadCells, loadCellsFrom]
    · simp [Builtin.append_, run_underlying ht, sizeOf, typeInfo, hi, Builtin.lenOf, Builtin.firstCells, storeCells, loadCells, loadCellsFrom, hnc]
def opV (o : Int × Int) : List Value := [.int .i64 o.1, .int .i64 o.2]
def opsV (l : List (Int × Int)) : List Value := l.flatMap opV
theorem opsV_length (l : List (Int × Int)) : (opsV l).length = l.length * 2 := by
  induction l with
  | nil => rfl
  | cons h l ih => show (opV h ++ opsV l).length = _; rw [List.length_append, ih, List.length_cons]; show 2 + _ = _; omega
theorem opsV_append (a b : List (Int × Int)) : opsV (a ++ b) = opsV a ++ opsV b := by unfold opsV; rw [List.flatMap_append]
theorem opsV_take (l : List (Int × Int)) (i : Nat) (hi : i ≤ l.length) : (opsV l).take (i * 2) = opsV (l.take i) := by
  have h := opsV_append (l.take i) (l.drop i)
  rw [List.take_append_drop] at h
  rw [h, List.take_append_of_le_length (by rw [opsV_length, List.length_take]; omega), List.take_of_length_le (by rw [opsV_length, List.length_take]; omega)]
theorem opsV_at {l : List (Int × Int)} {i k : Nat} (hi : i < l.length) (hk : k < 2) : (opsV l)[i * 2 + k]? = (opV l[i])[k]? := by
  have h := opsV_append (l.take i) (l.drop i)
  rw [List.take_append_drop] at h
  rw [h, List.getElem?_append_right (by rw [opsV_length, List.length_take]; omega), opsV_length, List.length_take, show i * 2 + k - min i l.length * 2 = k by omega, List.drop_eq_getElem_cons hi]
  show (opV l[i] ++ opsV _)[k]? = _
  rw [List.getElem?_append_left (by show k < 2; exact hk)]
theorem opsV_one (l : List (Int × Int)) : ∀ u ∈ opsV l, u.oneCell' = true := by
  intro u hu
  obtain ⟨o, _, hu⟩ := List.mem_flatMap.1 hu
  unfold opV at hu
  simp only [List.mem_cons, List.not_mem_nil, or_false] at hu
  rcases hu with rfl | rfl <;> rfl
theorem info_op : (Try.prog.info? 43).map (fun i => (i.zero, i.size, i.bytes)) = some (some (.agg #[.int .i64 0, .int .i64 0]), 2, 16) := by kernel_rfl
theorem seg_cells {w : World} {b off : Nat} {xs : List Value} (h : Seg w (some ⟨b, off, none⟩) xs) : ∀ j u, xs[j]? = some u → w.cell? ((⟨b, off, none⟩ : Addr).add j) = some u := fun j u hu => by
  have hj := (List.getElem?_eq_some_iff.1 hu).1
  obtain ⟨b', off', e, _, hc⟩ := h (by intro e; rw [e] at hj; simp at hj)
  simp only [Option.some.injEq, Addr.mk.injEq, and_true] at e
  obtain ⟨rfl, rfl⟩ := e
  rw [show ((⟨b, off, none⟩ : Addr).add j) = ⟨b, off + j, none⟩ by unfold Addr.add; split <;> simp_all, hc j hj]
  exact hu
theorem own_someS {w : World} {B n size : Nat} {e : TypeId} {v : Value} {xs : List Value} (h : w.ownsRow B e size v n xs) (hv : v ≠ .slice none 0 0) : ∃ g c, v = .slice (some ⟨g, 0, none⟩) n c ∧ n ≤ c ∧ Seg w (some ⟨g, 0, none⟩) xs ∧ B ≤ g := by
  rcases h.2 with ⟨h1, _⟩ | ⟨g, cap, cur, h1, hB, hc, hn, _, hs, ht⟩
  · exact absurd h1 hv
  · refine ⟨g, cap, h1, hn, fun _ => ⟨g, 0, rfl, Bk.lt (show Bk w g e cur from hc), fun i hi => ?_⟩, hB⟩
    have hb : Bk w g e cur := hc
    rw [Nat.zero_add, hb.cell i, ← ht, List.getElem?_take, if_pos (by rw [← h.1]; exact hi), Array.getElem?_toList]
theorem new_no (room : Int) (w : World) (h : room < 1 ∨ 64 < room) : Calls Try.prog 4 #[.int .i64 room] w fun e w' => e = .returned (.tuple #[.pointer none, .int .i64 1]) ∧ w' = w := by
  by_cases h1 : room < 1
  · have i1 : decide (room < 1) = true := decide_eq_true h1
    go_enter Try.func4, Try.ntmps4
    go_wp2_with fail
    go_ret2
    exact ⟨rfl, rfl⟩
  · have h2 : 64 < room := by omega
    have i1 : decide (room < 1) = false := decide_eq_false h1
    have i2 : decide (64 < room) = true := decide_eq_true h2
    go_enter Try.func4, Try.ntmps4
    go_wp2_with fail
    go_ret2
    exact ⟨rfl, rfl⟩
theorem new_ok (room : Int) (w : World) (h1 : 1 ≤ room) (h2 : room ≤ 64) : Calls Try.prog 4 #[.int .i64 room] w fun e w' => e = .returned (.tuple #[.pointer (some ⟨w.heap.size, 0, none⟩), .int .i64 0]) ∧ PgA w.heap.size w.heap.size room [] (.slice none 0 0) w' ∧ Below w.heap.size w w' := by
  have i1 : decide (room < 1) = false := decide_eq_false (by omega)
  have i2 : decide (64 < room) = false := decide_eq_false (by omega)
  have i3 : ¬ room < 1 := by omega
  have i4 : ¬ 64 < room := by omega
  have HA := Lib.hid ((Below.refl w.heap.size w).alloc (Nat.le_refl _) (.cells #[.int .i64 room, .slice none 0 0] 53))
  have HB := Lib.hid (Bk.new w 53 #[.int .i64 room, .slice none 0 0])
  go_enter Try.func4, Try.ntmps4
  go_wp2_with fail
  go_ret2
  exact ⟨rfl, ⟨HB.out, World.ownsRow_nil _ _ _ _, Nat.le_refl _, by simp⟩, HA.out⟩
end Go.Proofs.Ytopkkolcimmedaa
