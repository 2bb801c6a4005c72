/- The walks of the statements' helpers: a frame turned into the reference's, and that two say the same. Conditions: the payloads lie in memory. -/
import Derived.Test.YtjdhffbingeakaaDoorAlone
namespace Go.Proofs.YtjdhffbingeakaaDoor
open Go.RowKit

/-- What stands in memory while a frame is copied. -/
structure OfW (w : World) (box : Array Value) (w' : World) : Prop where
  box : Bk w' w.heap.size 25 box
  bel : Below w.heap.size w w'
section
variable {w w' w'' : World} {box : Array Value}
theorem OfW.step (h : OfW w box w') (hb : Below w'.heap.size w' w'') : OfW w box w'' := ⟨h.box.bel hb, h.bel.trans (hb.mono h.bel.size)⟩
theorem OfW.alloc (h : OfW w box w') (o : Obj) : OfW w box (w'.alloc o) := h.step ((Below.refl _ _).alloc (Nat.le_refl _) o)
theorem OfW.drew (h : OfW w box w') : OfW w box w'.drew := h.step (Below.refl _ _).drew
theorem OfW.set (h : OfW w box w') (i : Nat) (v : Value) : OfW w box (w'.setCell ⟨w.heap.size + 1, i, none⟩ v) :=
  ⟨h.box.far (by show w.heap.size ≠ w.heap.size + 1; omega) v, h.bel.setCell (p := ⟨w.heap.size + 1, i, none⟩) (by show w.heap.size ≤ w.heap.size + 1; omega) v⟩
end
theorem OfW.S {w w' : World} {x y z : Value} (h : OfW w #[x, y, z] w') : w'.cell? ⟨w.heap.size, 0, none⟩ = some x ∧ w'.cell? ⟨w.heap.size, 1, none⟩ = some y ∧ w'.cell? ⟨w.heap.size, 2, none⟩ = some z ∧ OfW w #[x, y, z] w' := ⟨h.box.cell 0, h.box.cell 1, h.box.cell 2, h⟩

set_option maxRecDepth 100000 in
set_option maxHeartbeats 4000000 in
theorem of_any (kind : Int) (seq : Nat) (A : Option Addr) (n c : Nat) (l : List Nat) (hn : n = l.length) (hz : n ≤ 140737488355000) (w : World) (hA : Seg w A (u8s l)) :
    Calls Tryd.prog 10 #[.agg #[.int .i64 kind, .int .u64 seq, .slice A n c]] w fun e w' => ∃ A' c', e = .returned (.agg #[.int .i64 kind, .int .u64 seq, .slice A' n c']) ∧ n ≤ c' ∧ Seg w' A' (u8s l) ∧ Below w.heap.size w w' := by
  obtain ⟨i0, hi0, hz0, hz1, hz2⟩ := info_parts info5
  have HN := Lib.hid hn
  have hbel : Below w.heap.size w ((w.alloc (.cells #[.int .i64 kind, .int .u64 seq, .slice A n c] 25)).alloc (.cells #[.int .i64 0, .int .u64 0, .slice none 0 0] 31)) := ((Below.refl _ _).alloc (Nat.le_refl _) _).alloc (by simp) _
  have H0' : OfW w #[.int .i64 kind, .int .u64 seq, .slice A n c] ((w.alloc (.cells #[.int .i64 kind, .int .u64 seq, .slice A n c] 25)).alloc (.cells #[.int .i64 0, .int .u64 0, .slice none 0 0] 31)) :=
    ⟨(Bk.new w _ _).alloc _, hbel⟩
  have HR : Hid (Bk ((w.alloc (.cells #[.int .i64 kind, .int .u64 seq, .slice A n c] 25)).alloc (.cells #[.int .i64 0, .int .u64 0, .slice none 0 0] 31)) (w.heap.size + 1) 31 #[.int .i64 0, .int .u64 0, .slice none 0 0]) := Lib.hid (by
    have h1 := Bk.new (w.alloc (.cells #[.int .i64 kind, .int .u64 seq, .slice A n c] 25)) 31 #[.int .i64 0, .int .u64 0, .slice none 0 0]
    rwa [World.size_alloc] at h1)
  have HS := Lib.hid (hA.bel hbel)
  have HZ : Hid (((w.alloc (.cells #[.int .i64 kind, .int .u64 seq, .slice A n c] 25)).alloc (.cells #[.int .i64 0, .int .u64 0, .slice none 0 0] 31)).heap.size = w.heap.size + 2) := Lib.hid (by simp)
  clear hn hA hbel
  have HC := Lib.hid (fun (w1 : World) => show Below w1.heap.size w1 ((w1.alloc (.cells #[] 5)).drew) from ((Below.refl _ _).alloc (Nat.le_refl _) _).drew)
  go_enter Tryd.func10, Tryd.ntmps10
  go_wp2_with fail
  generalize (w.alloc (.cells #[.int .i64 kind, .int .u64 seq, .slice A n c] 25)).alloc (.cells #[.int .i64 0, .int .u64 0, .slice none 0 0] 31) = w1 at *
  have H0 := Lib.hid H0'
  have hS := H0'.S
  clear H0'
  go_region_held3 (fun w' => w'.cell? ⟨w.heap.size, 0, none⟩ = some (.int .i64 kind) ∧ w'.cell? ⟨w.heap.size, 1, none⟩ = some (.int .u64 seq) ∧ w'.cell? ⟨w.heap.size, 2, none⟩ = some (.slice A n c) ∧ OfW w #[.int .i64 kind, .int .u64 seq, .slice A n c] w')
    (first
      | (with_reducible assumption)
      | (with_reducible exact OfW.S (H0.out.drew))
      | (with_reducible exact OfW.S ((H0.out.alloc _).drew))
      | (with_reducible exact OfW.S (H0.out.step b1))
      | (with_reducible exact OfW.S ((((H0.out.step b1).set 0 _).set 1 _).set 2 _)))
    ((refine step_append_seg _ rfl _ _ _ rfl w1.heap.size 5 i0 _ 1 Tryd.underlying23 hi0 hz0 hz1 hz2 rfl _ 0 _ rfl (show (w1.alloc (.cells #[] 5)).drew.ownsRow _ _ _ _ _ _ from World.ownsRow_lit w1 #[] 0 (by omega) (by decide) rfl) A n c (u8s l) rfl (by rw [u8s_length, HN.out]) (HS.out.bel (HC.out w1)) (u8s_one _) (by simp only [maxLen]; omega) (by omega) (HC.out w1).size ?_; intro v' w' hown' hb'; simp only [Nat.zero_add, List.nil_append] at hown'; have F1 := Lib.hid (fun A1 c1 (e : v' = .slice A1 n c1) => own_fresh (e ▸ hown')); obtain ⟨A1, c1, rfl, hc1, s1⟩ := own_shape hown'; have S1 := Lib.hid s1; have b1 := (HC.out w1).trans hb'; have r1 := HR.out.bel b1; have y0 := r1.cell 0; have y1 := r1.cell 1; have y2 := r1.cell 2; have f0 := r1.frozen 0; have f1 := r1.frozen 1; have f2 := r1.frozen 2; clear hown' hb' s1 r1))
  clear hS
  have HF := Lib.hid (show ∀ a, A1 = some a → w.heap.size + 1 < a.block from fun a ha => by have := F1.out A1 c1 rfl a ha; have := HZ.out; omega)
  have B1 := Lib.hid (H0.out.bel.trans (b1.mono H0.out.bel.size))
  rename_i hHeld
  clear hHeld F1 b1
  go_wp2_with fail
  exact bodyPost_ret (v := .agg #[.int .i64 kind, .int .u64 seq, .slice A1 n c1]) (by simp [results, Tryd.results10, go_sem, y0, y1, y2]) rfl
    ⟨A1, c1, rfl, hc1, ((S1.out.far HF.out 0 _).far HF.out 1 _).far HF.out 2 _, ((B1.out.setCell (p := ⟨w.heap.size + 1, 0, none⟩) (by show w.heap.size ≤ w.heap.size + 1; omega) _).setCell (p := ⟨w.heap.size + 1, 1, none⟩) (by show w.heap.size ≤ w.heap.size + 1; omega) _).setCell (p := ⟨w.heap.size + 1, 2, none⟩) (by show w.heap.size ≤ w.heap.size + 1; omega) _⟩

set_option maxRecDepth 100000 in
set_option maxHeartbeats 1000000 in
theorem same_frames (kind : Int) (seq : Nat) (A B : Option Addr) (n c d : Nat) (l : List Nat) (hn : n = l.length) (hz : n ≤ 140737488355000) (w : World) (hA : Seg w A (u8s l)) (hB : Seg w B (u8s l)) :
    Calls Tryd.prog 14 #[.agg #[.int .i64 kind, .int .u64 seq, .slice A n c], .agg #[.int .i64 kind, .int .u64 seq, .slice B n d]] w fun e w' => e = .returned (.bool true) ∧ Below w.heap.size w w' := by
  have hbel : Below w.heap.size w ((w.alloc (.cells #[.int .i64 kind, .int .u64 seq, .slice A n c] 25)).alloc (.cells #[.int .i64 kind, .int .u64 seq, .slice B n d] 31)) := ((Below.refl _ _).alloc (Nat.le_refl _) _).alloc (by simp) _
  have HS := Lib.hid (same_u8 A B n n c d l l hn hn _ (hA.bel hbel) (hB.bel hbel) (by omega) (by omega))
  have HB := Lib.hid hbel
  clear hbel hn hA hB
  rw [show decide (l = l) = true by simp] at HS
  go_enter Tryd.func14, Tryd.ntmps14
  go_wp2_with (go_at_call 12; refine HS.out.mono ?_; rintro e w2 ⟨rfl, b2⟩; have B2 := Lib.hid (below_step HB.out b2); clear b2)
  go_ret
  exact ⟨rfl, B2.out⟩
end Go.Proofs.YtjdhffbingeakaaDoor
