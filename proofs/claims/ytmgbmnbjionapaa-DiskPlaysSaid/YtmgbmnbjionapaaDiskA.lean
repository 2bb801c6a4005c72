/- A disk in memory, and what its small functions answer. Conditions: the disk lies in memory. -/
import Derived.Test.YtmgbmnbjionapaaOct
import Derived.KernelRfl
namespace Go.Proofs.Ytmgbmnbjionapaa
open Go.RowKit

theorem only_refl (w : World) (row : Option Nat) : w.grownBy w row := ⟨rfl, rfl, rfl, Nat.le_refl _, fun _ _ _ => rfl⟩
theorem only_drew {a w : World} {row : Option Nat} (h : a.grownBy w row) : a.grownBy w.drew row := ⟨h.os, h.tape, h.output, h.size, h.block⟩
theorem only_alloc {a w : World} {row : Option Nat} (h : a.grownBy w row) (o : Obj) : a.grownBy (w.alloc o) row :=
  ⟨h.os, h.tape, h.output, Nat.le_trans h.size (by simp), fun i hi hne => (Below.heap_alloc w o i (Nat.lt_of_lt_of_le hi h.size)).trans (h.block i hi hne)⟩
theorem only_setCell {a w : World} {g : Nat} (h : a.grownBy w (some g)) {p : Addr} (hp : p.block = g ∨ a.heap.size ≤ p.block) (u : Value) : a.grownBy (w.setCell p u) (some g) :=
  ⟨h.os, h.tape, h.output, by simpa [World.setCell] using h.size, fun i hi hne => (Below.heap_setCell w p u i (by
    rintro rfl
    rcases hp with hp | hp
    · exact hne (by rw [hp])
    · omega)).trans (h.block i hi hne)⟩
theorem only_then {a w w' : World} {row : Option Nat} (h : a.grownBy w row) (hb : w.grownBy w' row) : a.grownBy w' row :=
  ⟨hb.os.trans h.os, hb.tape.trans h.tape, hb.output.trans h.output, Nat.le_trans h.size hb.size, fun i hi hn => (hb.block i (Nat.lt_of_lt_of_le hi h.size) hn).trans (h.block i hi hn)⟩
theorem only_bel {a w w' : World} {row : Option Nat} {B : Nat} (h : a.grownBy w row) (hB : a.heap.size ≤ B) (hb : Below B w w') : a.grownBy w' row :=
  ⟨hb.os.trans h.os, hb.tape.trans h.tape, hb.output.trans h.output, Nat.le_trans h.size hb.size, fun i hi hn => (hb.block i (Nat.lt_of_lt_of_le hi hB)).trans (h.block i hi hn)⟩
theorem only_below {a w : World} {g B : Nat} (h : a.grownBy w (some g)) (hB : B ≤ a.heap.size) (hg : B ≤ g) : Below B a w :=
  ⟨h.os, h.tape, h.output, h.size, fun i hi => h.block i (Nat.lt_of_lt_of_le hi hB) (fun e => by injection e; omega)⟩
theorem only_bk {a w : World} {g k : Nat} {t : TypeId} {cs : Array Value} (h : a.grownBy w (some g)) (hb : Bk a k t cs) (hk : k ≠ g) : Bk w k t cs := (h.block k hb.lt (fun e => hk (by injection e))).trans hb
/-- Waiting writes as cells. -/
def chs : List (Nat × List Nat) → List Value
  | [] => []
  | (n, l) :: r => .int .i64 (n : Int) :: u8s l ++ chs r
theorem chs_length : ∀ (wts : List (Nat × List Nat)), (∀ x ∈ wts, x.2.length = 256) → (chs wts).length = wts.length * 257
  | [], _ => rfl
  | (n, l) :: r, h => by
    have h1 := h (n, l) (List.mem_cons_self ..)
    have h2 := chs_length r (fun x hx => h x (List.mem_cons_of_mem _ hx))
    simp only [chs, List.length_append, List.length_cons, u8s_length, h2] at *
    omega
theorem chs_num : ∀ (wts : List (Nat × List Nat)), (∀ x ∈ wts, x.2.length = 256) → ∀ k (hk : k < wts.length), (chs wts)[k * 257]? = some (.int .i64 (wts[k].1 : Int))
  | (n, l) :: r, h, 0, _ => by simp [chs]
  | (n, l) :: r, h, k + 1, hk => by
    have h1 : l.length = 256 := h (n, l) (List.mem_cons_self ..)
    have h2 := chs_num r (fun x hx => h x (List.mem_cons_of_mem _ hx)) k (by simpa using hk)
    have hl : ((Value.int .i64 (n : Int)) :: u8s l).length = 257 := by simp [u8s_length, h1]
    show (Value.int .i64 (n : Int) :: u8s l ++ chs r)[(k + 1) * 257]? = _
    rw [List.getElem?_append_right (by rw [hl]; omega), hl, show (k + 1) * 257 - 257 = k * 257 by omega, h2]
    simp
theorem chs_byte : ∀ (wts : List (Nat × List Nat)), (∀ x ∈ wts, x.2.length = 256) → ∀ k (hk : k < wts.length) (i : Nat) (_hi : i < 256), (chs wts)[k * 257 + 1 + i]? = (u8s wts[k].2)[i]?
  | (n, l) :: r, h, 0, _, i, hi => by
    have h1 : l.length = 256 := h (n, l) (List.mem_cons_self ..)
    show (Value.int .i64 (n : Int) :: (u8s l ++ chs r))[0 * 257 + 1 + i]? = (u8s l)[i]?
    rw [show 0 * 257 + 1 + i = i + 1 by omega, List.getElem?_cons_succ, List.getElem?_append_left (by rw [u8s_length]; omega)]
  | (n, l) :: r, h, k + 1, hk, i, hi => by
    have h1 : l.length = 256 := h (n, l) (List.mem_cons_self ..)
    have h2 := chs_byte r (fun x hx => h x (List.mem_cons_of_mem _ hx)) k (by simpa using hk) i hi
    have hl : ((Value.int .i64 (n : Int)) :: u8s l).length = 257 := by simp [u8s_length, h1]
    show (Value.int .i64 (n : Int) :: u8s l ++ chs r)[(k + 1) * 257 + 1 + i]? = _
    rw [List.getElem?_append_right (by rw [hl]; omega), hl, show (k + 1) * 257 + 1 + i - 257 = k * 257 + 1 + i by omega, h2]
    simp
/-- A disk: its struct at g, its image at gi, its waiting writes in v. -/
structure Dk (w : World) (B g gi : Nat) (img : List Nat) (v : Value) (wts : List (Nat × List Nat)) (arm : Bool) (left : Int) : Prop where
  box : Bk w g 90 #[.slice (some ⟨gi, 0, none⟩) img.length img.length, v, .bool arm, .int .i64 left]
  img : Bk w gi 5 (u8s img).toArray
  own : w.ownsRow B 95 257 v wts.length (chs wts)
  ne : g ≠ gi
  lo : B ≤ g
  lo' : B ≤ gi
  far : v.ownBlock ≠ some g
  far' : v.ownBlock ≠ some gi
  full : ∀ x ∈ wts, x.2.length = 256
set_option maxRecDepth 100000 in
theorem dnew_no (T : Int) (hT : ¬ (1 ≤ T ∧ T ≤ 2048)) (w : World) :
    Calls Try.prog 25 #[.int .i64 T] w fun e w' => e = .returned (.tuple #[.pointer none, .int .i64 1]) ∧ Below w.heap.size w w' := by
  by_cases h1 : T < 1
  · go_enter Try.func25, Try.ntmps25
    go_wp2_with fail
    exact bodyPost_ret (v := .tuple #[.pointer none, .int .i64 1]) (by simp [results, Try.results25, go_sem]) rfl ⟨rfl, Below.refl _ _⟩
  · have h2 : (2048 : Int) < T := by omega
    go_enter Try.func25, Try.ntmps25
    go_wp2_with fail
    exact bodyPost_ret (v := .tuple #[.pointer none, .int .i64 1]) (by simp [results, Try.results25, go_sem]) rfl ⟨rfl, Below.refl _ _⟩
theorem oct_noughts (n : Nat) : (madeCells #[.int .u8 0] n) = (u8s (List.replicate n 0)).toArray := by
  apply Array.ext'
  rw [toList_madeCells_one]
  simp [u8s]
set_option maxRecDepth 100000 in
theorem dnew_ok (T : Nat) (h1 : 1 ≤ T) (h2 : T ≤ 2048) (w : World) :
    Calls Try.prog 25 #[.int .i64 (T : Int)] w fun e w' => ∃ g gi, e = .returned (.tuple #[.pointer (some ⟨g, 0, none⟩), .int .i64 0]) ∧ Dk w' w.heap.size g gi (List.replicate (T * 256) 0) (.slice none 0 0) [] false 0 ∧ Below w.heap.size w w' := by
  obtain ⟨i0, hi0, hz0, hz1, hz2⟩ := info_parts info5
  have hmk : ∀ (w : World) (n : Nat), n ≤ 600000 → (Instr.makeSlice 26 (.int .i64 (n : Int)) (.int .i64 (n : Int))).run Try.prog w = .ok (.slice (some ⟨w.heap.size, 0, none⟩) n n) (w.alloc (.cells (madeCells #[.int .u8 0] n) 5)) := fun w n hn => by
    have := run_make (P := Try.prog) w 26 5 i0 (.int .u8 0) Try.underlying26 hi0 hz0 .i64 .i64 n n (by omega) (by omega) (by rw [hz2]; omega) (by omega)
    simpa [hz1, Value.cells] using this
  obtain ⟨n, hn⟩ : ∃ n, n = T * 256 := ⟨_, rfl⟩
  have hmk := hmk w n (by omega)
  have t1 : IntKind.i64.wrap ((T : Int) * 256) = (n : Int) := by rw [IntWalk.i64_in _ (by omega)]; omega
  have i1 : ¬ (T : Int) < 1 := by omega
  have i2 : ¬ (2048 : Int) < (T : Int) := by omega
  rw [← hn]
  have HN := Lib.hid hn
  clear hn
  go_enter Try.func25, Try.ntmps25
  go_wp2_with fail
  have B1 := (Below.refl w.heap.size w).alloc (Nat.le_refl _) (.cells (madeCells #[.int .u8 0] n) 5)
  have hsz : (w.alloc (.cells (madeCells #[.int .u8 0] n) 5)).heap.size = w.heap.size + 1 := by simp
  refine bodyPost_ret (v := .tuple #[.pointer (some ⟨w.heap.size + 1, 0, none⟩), .int .i64 0]) (by simp [results, Try.results25, go_sem]) rfl ⟨w.heap.size + 1, rfl, ⟨w.heap.size, ?_⟩, B1.alloc B1.size _⟩
  have X1 := Bk.new w 5 (madeCells #[.int .u8 0] n)
  rw [oct_noughts] at X1
  have X2 := Bk.new (w.alloc (.cells (madeCells #[.int .u8 0] n) 5)) 90 #[.slice (some ⟨w.heap.size, 0, none⟩) n n, .slice none 0 0, .bool false, .int .i64 0]
  rw [hsz] at X2
  rw [oct_noughts] at X2 ⊢
  exact ⟨by rw [List.length_replicate]; exact X2, X1.alloc _, ⟨rfl, .inl ⟨rfl, rfl⟩⟩, by omega, by omega, by omega, by simp [Value.ownBlock], by simp [Value.ownBlock], by simp⟩
section
variable {w w' : World} {B g gi : Nat} {img : List Nat} {v : Value} {wts : List (Nat × List Nat)} {arm : Bool} {left : Int}
theorem Dk.c0 (h : Dk w B g gi img v wts arm left) : w.cell? ⟨g, 0, none⟩ = some (.slice (some ⟨gi, 0, none⟩) img.length img.length) := h.box.cell 0
theorem Dk.c1 (h : Dk w B g gi img v wts arm left) : w.cell? ⟨g, 1, none⟩ = some v := h.box.cell 1
theorem Dk.c2 (h : Dk w B g gi img v wts arm left) : w.cell? ⟨g, 2, none⟩ = some (.bool arm) := h.box.cell 2
theorem Dk.c3 (h : Dk w B g gi img v wts arm left) : w.cell? ⟨g, 3, none⟩ = some (.int .i64 left) := h.box.cell 3
set_option maxRecDepth 100000 in
theorem blocks_any (h : Dk w B g gi img v wts arm left) (T : Nat) (hT : img.length = T * 256) (h2 : T ≤ 2048) :
    Calls Try.prog 21 #[.pointer (some ⟨g, 0, none⟩)] w fun e w' => e = .returned (.int .i64 (T : Int)) ∧ w = w' := by
  have c0 := h.c0
  have c2 := h.box
  generalize img.length = n at *
  have hd : ((n : Int)).tdiv 256 = (T : Int) := by rw [hT, Int.tdiv_eq_ediv_of_nonneg (by omega)]; omega
  have HT := Lib.hid hT
  clear hT c2 h
  go_enter Try.func21, Try.ntmps21
  go_wp2_with fail
  go_ret
  simp
set_option maxRecDepth 100000 in
theorem pending_any (h : Dk w B g gi img v wts arm left) :
    Calls Try.prog 22 #[.pointer (some ⟨g, 0, none⟩)] w fun e w' => e = .returned (.int .i64 (wts.length : Int)) ∧ w = w' := by
  have c1 := h.c1
  obtain ⟨A, c, rfl⟩ : ∃ A c, v = .slice A wts.length c := by
    rcases h.own.2 with ⟨e, h0⟩ | ⟨g, cap, cur, e, _⟩
    · exact ⟨none, 0, by rw [e, h0]⟩
    · exact ⟨_, _, e⟩
  clear h
  generalize wts.length = n at *
  go_enter Try.func22, Try.ntmps22
  go_wp2_with fail
  go_ret
  exact ⟨rfl, rfl⟩
set_option maxRecDepth 100000 in
theorem power_on (h : Dk w B g gi img v wts false left) :
    Calls Try.prog 52 #[.pointer (some ⟨g, 0, none⟩)] w fun e w' => e = .returned (.tuple #[]) ∧ w = w' := by
  have c2 := h.c2
  clear h
  go_enter Try.func52, Try.ntmps52
  go_wp2_with fail
  exact bodyPost_ret (v := .tuple #[]) (by simp [results, Try.results52, go_sem]) rfl ⟨rfl, rfl⟩
theorem Dk.rebox {arm' : Bool} {left' : Int} (h : Dk w B g gi img v wts arm left) (hg : w.grownBy w' (some g)) (hb : Bk w' g 90 #[.slice (some ⟨gi, 0, none⟩) img.length img.length, v, .bool arm', .int .i64 left']) : Dk w' B g gi img v wts arm' left' :=
  ⟨hb, only_bk hg h.img h.ne.symm, h.own.kept hg (.inr h.far), h.ne, h.lo, h.lo', h.far, h.far', h.full⟩
theorem only_set (a w : World) (g i : Nat) (u : Value) (h : a.grownBy w (some g)) : a.grownBy (w.setCell ⟨g, i, none⟩ u) (some g) := only_setCell (p := ⟨g, i, none⟩) h (.inl rfl) u
theorem Dk.setArm (h : Dk w B g gi img v wts arm left) (a : Bool) (n : Int) : Dk ((w.setCell ⟨g, 2, none⟩ (.bool a)).setCell ⟨g, 3, none⟩ (.int .i64 n)) B g gi img v wts a n := by
  refine h.rebox (only_set _ _ _ _ _ (only_set _ _ _ _ _ (only_refl _ _))) ?_
  have := (h.box.put 2 (.bool a)).put 3 (.int .i64 n)
  simpa using this
theorem Dk.setLeft (h : Dk w B g gi img v wts arm left) (n : Int) : Dk (w.setCell ⟨g, 3, none⟩ (.int .i64 n)) B g gi img v wts arm n := by
  refine h.rebox (only_set _ _ _ _ _ (only_refl _ _)) ?_
  have := h.box.put 3 (.int .i64 n)
  simpa using this
set_option maxRecDepth 100000 in
theorem has_any (h : Dk w B g gi img v wts arm left) (T : Nat) (hT : img.length = T * 256) (h2 : T ≤ 2048) (n : Int) :
    Calls Try.prog 50 #[.pointer (some ⟨g, 0, none⟩), .int .i64 n] w fun e w' => e = .returned (.bool (decide (0 ≤ n ∧ n < (T : Int)))) ∧ w = w' := by
  have HB := Lib.hid (blocks_any h T hT h2)
  clear h hT h2
  generalize (T : Int) = t at *
  by_cases h0 : 0 ≤ n
  · go_enter Try.func50, Try.ntmps50
    go_wp2_with (go_at_call 21; refine HB.out.mono ?_; rintro e w2 ⟨rfl, rfl⟩)
    go_ret
    simp [h0]
  · have h1 : n < 0 := by omega
    go_enter Try.func50, Try.ntmps50
    go_wp2_with (go_at_call 21; refine HB.out.mono ?_; rintro e w2 ⟨rfl, rfl⟩)
    go_ret
    simp
    omega
set_option maxRecDepth 100000 in
theorem power_left (h : Dk w B g gi img v wts true left) (hl : 0 < left) (hl2 : left < 9223372036854775808) :
    Calls Try.prog 52 #[.pointer (some ⟨g, 0, none⟩)] w fun e w' => e = .returned (.tuple #[]) ∧ Dk w' B g gi img v wts true (left - 1) ∧ w.grownBy w' (some g) := by
  have c2 := h.c2
  have c3 := h.c3
  have f3 := h.box.frozen 3
  have hne : ¬ left = 0 := by omega
  have hw : IntKind.i64.wrap (left - 1) = left - 1 := IntWalk.i64_in _ (by omega)
  have H := Lib.hid h
  clear h
  go_enter Try.func52, Try.ntmps52
  go_wp2_with fail
  refine bodyPost_end (v := .tuple #[]) ?_ rfl ?_
  · simp [results, Try.results52, go_sem]
  · exact ⟨rfl, H.out.setLeft _, only_set _ _ _ _ _ (only_refl _ _)⟩
set_option maxRecDepth 100000 in
theorem power_out (h : Dk w B g gi img v wts true 0) :
    Calls Try.prog 52 #[.pointer (some ⟨g, 0, none⟩)] w fun e w' => e = .panicked [{ v := .iface 97 (.agg #[]), recovered := false }] ∧ w = w' := by
  have c2 := h.c2
  have c3 := h.c3
  clear h
  go_enter Try.func52, Try.ntmps52
  go_wp2_with fail

  exact ⟨rfl, rfl, rfl⟩
set_option maxRecDepth 100000 in
theorem arm_any (h : Dk w B g gi img v wts arm left) (n : Int) :
    Calls Try.prog 26 #[.pointer (some ⟨g, 0, none⟩), .int .i64 n] w fun e w' => e = .returned (.tuple #[]) ∧ Dk w' B g gi img v wts (decide (0 ≤ n)) (max n 0) ∧ w.grownBy w' (some g) := by
  have c2 := h.c2
  have c3 := h.c3
  have f2 := h.box.frozen 2
  have f3 := h.box.frozen 3
  have H := Lib.hid h
  clear h
  by_cases h0 : 0 ≤ n
  · have e1 := Lib.hid (show max n 0 = n by omega)
    have e2 := Lib.hid (show decide (0 ≤ n) = true by simp [h0])
    rw [e1.out, e2.out]
    go_enter Try.func26, Try.ntmps26
    go_wp2_with fail
    all_goals first
      | omega
      | (refine bodyPost_end (v := .tuple #[]) ?_ rfl ?_
         · simp [results, Try.results26, go_sem]
         · exact ⟨rfl, H.out.setArm _ _, only_set _ _ _ _ _ (only_set _ _ _ _ _ (only_refl _ _))⟩)
  · have e1 := Lib.hid (show max n 0 = 0 by omega)
    have e2 := Lib.hid (show decide (0 ≤ n) = false by simp; omega)
    rw [e1.out, e2.out]
    go_enter Try.func26, Try.ntmps26
    go_wp2_with fail
    all_goals first
      | omega
      | (refine bodyPost_end (v := .tuple #[]) ?_ rfl ?_
         · simp [results, Try.results26, go_sem]
         · exact ⟨rfl, H.out.setArm _ _, only_set _ _ _ _ _ (only_set _ _ _ _ _ (only_refl _ _))⟩)
set_option maxRecDepth 100000 in
theorem image_any (h : Dk w B g gi img v wts arm left) (hb : img.length ≤ 1000000) :
    Calls Try.prog 23 #[.pointer (some ⟨g, 0, none⟩)] w fun e w' => ∃ A' c', e = .returned (.slice A' img.length c') ∧ img.length ≤ c' ∧ w'.ownsRow w.heap.size 5 1 (.slice A' img.length c') img.length (u8s img) ∧ Below w.heap.size w w' := by
  have c0 := h.c0
  have hS : Seg w (some ⟨gi, 0, none⟩) (u8s img) := Seg.of_block h.img (fun i _ => by simp)
  have HC := Lib.hid (clone_all (some ⟨gi, 0, none⟩) img.length img.length img rfl hb w hS)
  clear h hS
  generalize img.length = n at *
  go_enter Try.func23, Try.ntmps23
  go_wp2_with (go_at_call 49; refine HC.out.mono ?_; rintro e w2 ⟨A2, c2, rfl, k1, k2, k3⟩; have K1 := Lib.hid k1; have K2 := Lib.hid k2; have K3 := Lib.hid k3; clear k1 k2 k3)
  go_ret
  exact ⟨A2, c2, rfl, K1.out, K2.out, K3.out⟩
end
end Go.Proofs.Ytmgbmnbjionapaa
