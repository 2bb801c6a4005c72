/- The reference's look for a piece of a number. Condition: the pieces lie in memory. -/
import Derived.Test.YthjbkgappjpanaaDoorSSplits
namespace Go.Proofs.YthjbkgappjpanaaDoor
open Go.RowKit

structure PcM where
  i : Nat
  t : Nat
  c : Nat
  d : ByteArray
def PcM.cl (p : PcM) : List Value := [.int .i64 (p.i : Int), .int .i64 (p.t : Int), .int .u32 (p.c : Int), .string p.d]
def rpV (R : List PcM) : List Value := R.flatMap PcM.cl
theorem rpV_append (R S : List PcM) : rpV (R ++ S) = rpV R ++ rpV S := by simp [rpV]
theorem rpV_length (R : List PcM) : (rpV R).length = R.length * 4 := by
  induction R with
  | nil => rfl
  | cons p R ih => show (PcM.cl p ++ rpV R).length = _; rw [List.length_append, ih]; simp [PcM.cl]; omega
theorem rpV_get (R : List PcM) (k j : Nat) (hk : k < R.length) (hj : j < 4) : (rpV R)[k * 4 + j]? = (R[k].cl)[j]? := by
  induction R generalizing k with
  | nil => simp at hk
  | cons p R ih =>
    show (PcM.cl p ++ rpV R)[k * 4 + j]? = _
    cases k with
    | zero => rw [List.getElem?_append_left (by simp [PcM.cl]; omega)]; simp
    | succ k =>
      rw [List.getElem?_append_right (by simp [PcM.cl]; omega)]
      have e : (k + 1) * 4 + j - (PcM.cl p).length = k * 4 + j := by simp [PcM.cl]; omega
      rw [e, ih k (by simpa using hk)]
      rfl
theorem cl_one (p : PcM) : ∀ u ∈ p.cl, u.oneCell' = true := by
  intro u hu
  simp only [PcM.cl, List.mem_cons, List.not_mem_nil, or_false] at hu
  rcases hu with rfl | rfl | rfl | rfl <;> rfl
theorem rpV_one (R : List PcM) : ∀ u ∈ rpV R, u.oneCell' = true := by
  intro u hu
  simp only [rpV, List.mem_flatMap] at hu
  obtain ⟨p, _, hu⟩ := hu
  exact cl_one p u hu
/-- What Find answers. -/
def fnd (R : List PcM) (i : Nat) : Option PcM := R.find? fun p => p.i == i
def pcO : Option PcM → Value
  | some p => .agg #[.int .i64 (p.i : Int), .int .i64 (p.t : Int), .int .u32 (p.c : Int), .string p.d]
  | none => .agg #[.int .i64 0, .int .i64 0, .int .u32 0, .string ⟨#[]⟩]
theorem fnd_none {R : List PcM} {i k : Nat} (h : k ≤ R.length) (hk : ∀ j (hj : j < k), R[j].i ≠ i) : fnd (R.take k) i = none := by
  unfold fnd
  rw [List.find?_eq_none]
  intro p hp
  obtain ⟨j, hj, rfl⟩ := List.mem_iff_getElem.1 hp
  rw [List.length_take] at hj
  rw [List.getElem_take]
  simpa using hk j (by omega)
theorem fnd_some {R : List PcM} {i k : Nat} (h : k < R.length) (hk : ∀ j (hj : j < k), R[j].i ≠ i) (he : R[k].i = i) : fnd R i = some R[k] := by
  have h1 := fnd_none (by omega) hk
  have e : R = R.take k ++ R[k] :: R.drop (k + 1) := by rw [← List.drop_eq_getElem_cons h, List.take_append_drop]
  unfold fnd at *
  conv => lhs; rw [e]
  rw [List.find?_append, h1, Option.none_or, List.find?_cons_of_pos (by simpa using he)]
set_option maxRecDepth 100000 in
set_option maxHeartbeats 1000000 in
theorem find_any (A : Option Addr) (n c : Nat) (R : List PcM) (B i : Nat) (w : World) (hn : n = R.length) (ho : w.ownsRow B 33 4 (.slice A n c) n (rpV R)) (hs : n ≤ 1000000) :
    Calls Tryd.prog 22 #[.slice A n c, .int .i64 (i : Int)] w fun e w' => e = .returned (.tuple #[pcO (fnd R i), .bool (fnd R i).isSome]) ∧ Below w.heap.size w w' := by
  have hcells : ∀ k j (hk : k < R.length), j < 4 → ∃ g, A = some ⟨g, 0, none⟩ ∧ g < w.heap.size ∧ w.cell? ⟨g, k * 4 + j, none⟩ = (R[k].cl)[j]? := by
    intro k j hk hj
    obtain ⟨g, cap, hv, _, hlt⟩ := ho.form (by omega)
    obtain rfl : A = some ⟨g, 0, none⟩ := by injection hv
    refine ⟨g, rfl, hlt, ?_⟩
    have hlen : k * 4 + j < (rpV R).length := by rw [rpV_length]; omega
    have := ho.cells (g := g) rfl (k * 4 + j) _ (List.getElem?_eq_getElem hlen)
    rw [show ((⟨g, 0, none⟩ : Addr).add (k * 4 + j)) = ⟨g, k * 4 + j, none⟩ by unfold Addr.add; split <;> simp_all] at this
    rw [this, ← List.getElem?_eq_getElem hlen, rpV_get _ _ _ hk hj]
  have HC := Lib.hid hcells
  have HN := Lib.hid hn
  obtain ⟨w1, hw1⟩ : ∃ w1, w1 = w.alloc (.cells #[.int .i64 0, .int .i64 0, .int .u32 0, .string ⟨#[]⟩] 33) := ⟨_, rfl⟩
  obtain ⟨p, hpp⟩ : ∃ p, p = w.heap.size := ⟨_, rfl⟩
  have HB1 := Lib.hid (show Below w.heap.size w w1 by rw [hw1]; exact (Below.refl _ _).alloc (Nat.le_refl _) _)
  have HX1 := Lib.hid (show Bk w1 p 33 #[.int .i64 0, .int .i64 0, .int .u32 0, .string ⟨#[]⟩] by rw [hw1, hpp]; exact Bk.new w _ _)
  have HW1 := Lib.hid hw1
  have HPP := Lib.hid hpp
  clear hcells hn ho hw1 hpp
  go_enter Tryd.func22, Tryd.ntmps22
  go_wp2_with fail
  rw [← HW1.out, ← HPP.out]
  go_loopw [10] (fun q wr => ∃ k : Nat, k ≤ n ∧ q = .int .i64 k ∧ (∀ j (hj : j < k) (hj2 : j < R.length), R[j].i ≠ i) ∧ Below w1.heap.size w1 wr) (fun q _ => n - (intOf q).toNat)
  case atStart => exact ⟨0, by omega, rfl, fun j hj _ => by omega, Below.refl _ _⟩
  case round =>
    obtain ⟨k, hk, rfl, hne, hb⟩ := hrel
    have HBw := Lib.hid (HB1.out.trans (hb.mono HB1.out.size))
    by_cases hkn : k < n
    · have hkR : k < R.length := by rw [← HN.out]; exact hkn
      have hknI : (k : Int) < (n : Int) := by omega
      have i0 : (0 : Int) ≤ (k : Int) := by omega
      obtain ⟨g, rfl, hg, e0⟩ := HC.out k 0 hkR (by decide)
      obtain ⟨_, hA, _, e1⟩ := HC.out k 1 hkR (by decide)
      cases hA
      obtain ⟨_, hA, _, e2⟩ := HC.out k 2 hkR (by decide)
      cases hA
      obtain ⟨_, hA, _, e3⟩ := HC.out k 3 hkR (by decide)
      cases hA
      obtain ⟨m, hm⟩ : ∃ m, m = R[k] := ⟨_, rfl⟩
      rw [← hm] at e0 e1 e2 e3
      have c0 : wr.cell? ⟨g, k * 4, none⟩ = some (.int .i64 (m.i : Int)) := (HBw.out.cell (p := ⟨g, k * 4, none⟩) hg).trans e0
      have c1 : wr.cell? ⟨g, k * 4 + 1, none⟩ = some (.int .i64 (m.t : Int)) := (HBw.out.cell (p := ⟨g, k * 4 + 1, none⟩) hg).trans e1
      have c2 : wr.cell? ⟨g, k * 4 + 2, none⟩ = some (.int .u32 (m.c : Int)) := (HBw.out.cell (p := ⟨g, k * 4 + 2, none⟩) hg).trans e2
      have c3 : wr.cell? ⟨g, k * 4 + 3, none⟩ = some (.string m.d) := (HBw.out.cell (p := ⟨g, k * 4 + 3, none⟩) hg).trans e3
      have HM := Lib.hid hm
      have HNE := Lib.hid hne
      have X := HX1.out.bel hb
      clear e0 e1 e2 e3 hm hne
      by_cases he : m.i = i
      · have hei : ((m.i : Int) == (i : Int)) = true := by rw [he]; simp
        have hfs := fnd_some hkR (fun j hj => HNE.out j hj (by omega)) (by rw [← HM.out]; exact he)
        rw [← HM.out] at hfs
        have HFS := Lib.hid hfs
        obtain ⟨w5, hw5⟩ : ∃ w5, w5 = wr.alloc (.cells #[.int .i64 (m.i : Int), .int .i64 (m.t : Int), .int .u32 (m.c : Int), .string m.d] 33) := ⟨_, rfl⟩
        have Y : Bk w5 wr.heap.size 33 #[.int .i64 (m.i : Int), .int .i64 (m.t : Int), .int .u32 (m.c : Int), .string m.d] := by rw [hw5]; exact Bk.new wr _ _
        have X5 : Bk w5 p 33 #[.int .i64 0, .int .i64 0, .int .u32 0, .string ⟨#[]⟩] := by rw [hw5]; exact X.alloc _
        have HB5 := Lib.hid (show Below w.heap.size w w5 by rw [hw5]; exact HBw.out.alloc HBw.out.size _)
        have y0 := Y.cell 0
        have y1 := Y.cell 1
        have y2 := Y.cell 2
        have y3 := Y.cell 3
        have x0 := X5.cell 0
        have x1 := X5.cell 1
        have x2 := X5.cell 2
        have x3 := X5.cell 3
        have f0 := X5.frozen 0
        have f1 := X5.frozen 1
        have f2 := X5.frozen 2
        have f3 := X5.frozen 3
        simp only [List.getElem?_toArray, List.getElem?_cons_zero, List.getElem?_cons_succ] at y0 y1 y2 y3 x0 x1 x2 x3
        have X9 := Lib.hid ((((X5.put 0 (.int .i64 (m.i : Int))).put 1 (.int .i64 (m.t : Int))).put 2 (.int .u32 (m.c : Int))).put 3 (.string m.d))
        have hpw : w.heap.size ≤ p := Nat.le_of_eq HPP.out.symm
        have HB9 := Lib.hid ((((HB5.out.setCell (p := ⟨p, 0, none⟩) hpw (.int .i64 (m.i : Int))).setCell (p := ⟨p, 1, none⟩) hpw (.int .i64 (m.t : Int))).setCell (p := ⟨p, 2, none⟩) hpw (.int .u32 (m.c : Int))).setCell (p := ⟨p, 3, none⟩) hpw (.string m.d))
        have HW5 := Lib.hid hw5
        clear hw5 Y X5 X hfs he hpw hb
        go_upto_region 4 with fail
        rw [← HW5.out]
        go_wp2_with fail
        generalize ((((w5.setCell ⟨p, 0, none⟩ (.int .i64 (m.i : Int))).setCell ⟨p, 1, none⟩ (.int .i64 (m.t : Int))).setCell ⟨p, 2, none⟩ (.int .u32 (m.c : Int))).setCell ⟨p, 3, none⟩ (.string m.d)) = w9 at *
        have q0 := X9.out.cell 0
        have q1 := X9.out.cell 1
        have q2 := X9.out.cell 2
        have q3 := X9.out.cell 3
        rw [show ((((#[Value.int .i64 0, .int .i64 0, .int .u32 0, .string ⟨#[]⟩].setIfInBounds 0 (.int .i64 (m.i : Int))).setIfInBounds 1 (.int .i64 (m.t : Int))).setIfInBounds 2 (.int .u32 (m.c : Int))).setIfInBounds 3 (.string m.d) : Array Value) = #[.int .i64 (m.i : Int), .int .i64 (m.t : Int), .int .u32 (m.c : Int), .string m.d] from rfl] at q0 q1 q2 q3
        simp only [List.getElem?_toArray, List.getElem?_cons_zero, List.getElem?_cons_succ] at q0 q1 q2 q3
        refine bodyPost_ret (v := .tuple #[.agg #[.int .i64 (m.i : Int), .int .i64 (m.t : Int), .int .u32 (m.c : Int), .string m.d], .bool true]) (by simp [results, Tryd.results22, go_sem, q0, q1, q2, q3]) rfl ⟨by rw [HFS.out]; rfl, HB9.out⟩
      · have hei : ((m.i : Int) == (i : Int)) = false := by rw [beq_eq_false_iff_ne]; omega
        have HNE2 := Lib.hid (show ∀ j (hj : j < k + 1) (hj2 : j < R.length), R[j].i ≠ i from fun j hj hj2 => by
          by_cases e : j = k
          · subst e; rw [← HM.out]; exact he
          · exact HNE.out j (by omega) hj2)
        have HB5 := Lib.hid (hb.alloc hb.size (.cells #[.int .i64 (m.i : Int), .int .i64 (m.t : Int), .int .u32 (m.c : Int), .string m.d] 33))
        clear X he hb
        go_wp2_with fail
        exact ⟨⟨k + 1, by omega, by go_num, HNE2.out, HB5.out⟩, by simp [intOf]; omega⟩
    · obtain rfl : k = n := by omega
      have hfn := fnd_none (R := R) (i := i) (k := k) (by rw [HN.out]; exact Nat.le_refl _) (fun j hj => hne j hj (by have := HN.out; omega))
      have hkI : ¬ (k : Int) < (k : Int) := by omega
      rw [HN.out, List.take_length] at hfn
      have HFN := Lib.hid hfn
      have X := HX1.out.bel hb
      have x0 := X.cell 0
      have x1 := X.cell 1
      have x2 := X.cell 2
      have x3 := X.cell 3
      have f0 := X.frozen 0
      have f1 := X.frozen 1
      have f2 := X.frozen 2
      have f3 := X.frozen 3
      simp only [List.getElem?_toArray, List.getElem?_cons_zero, List.getElem?_cons_succ] at x0 x1 x2 x3
      have X9 := Lib.hid ((((X.put 0 (.int .i64 0)).put 1 (.int .i64 0)).put 2 (.int .u32 0)).put 3 (.string ⟨#[]⟩))
      have hpw : w.heap.size ≤ p := Nat.le_of_eq HPP.out.symm
      have HB9 := Lib.hid ((((HBw.out.setCell (p := ⟨p, 0, none⟩) hpw (.int .i64 0)).setCell (p := ⟨p, 1, none⟩) hpw (.int .i64 0)).setCell (p := ⟨p, 2, none⟩) hpw (.int .u32 0)).setCell (p := ⟨p, 3, none⟩) hpw (.string ⟨#[]⟩))
      clear hfn X hpw hne hb
      go_wp2_with fail
      generalize ((((wr.setCell ⟨p, 0, none⟩ (.int .i64 0)).setCell ⟨p, 1, none⟩ (.int .i64 0)).setCell ⟨p, 2, none⟩ (.int .u32 0)).setCell ⟨p, 3, none⟩ (.string ⟨#[]⟩)) = w9 at *
      have q0 := X9.out.cell 0
      have q1 := X9.out.cell 1
      have q2 := X9.out.cell 2
      have q3 := X9.out.cell 3
      rw [show ((((#[Value.int .i64 0, .int .i64 0, .int .u32 0, .string ⟨#[]⟩].setIfInBounds 0 (.int .i64 0)).setIfInBounds 1 (.int .i64 0)).setIfInBounds 2 (.int .u32 0)).setIfInBounds 3 (.string ⟨#[]⟩) : Array Value) = #[.int .i64 0, .int .i64 0, .int .u32 0, .string ⟨#[]⟩] from rfl] at q0 q1 q2 q3
      simp only [List.getElem?_toArray, List.getElem?_cons_zero, List.getElem?_cons_succ] at q0 q1 q2 q3
      refine bodyPost_ret (v := .tuple #[.agg #[.int .i64 0, .int .i64 0, .int .u32 0, .string ⟨#[]⟩], .bool false]) (by simp [results, Tryd.results22, go_sem, q0, q1, q2, q3]) rfl ⟨by rw [HFN.out]; rfl, HB9.out⟩
end Go.Proofs.YthjbkgappjpanaaDoor
