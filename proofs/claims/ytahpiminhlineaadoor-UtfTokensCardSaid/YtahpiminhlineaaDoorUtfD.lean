/- A text with each code point's small form. Conditions: the library's tables are laid; the text is not too long. -/
import Derived.Test.YtahpiminhlineaaDoorUtfC
import Derived.Test.YtahpiminhlineaaDoorMem
import Derived.Lib.OthersKept
import Derived.Lib.RuneBytes
namespace Go.Proofs.YtahpiminhlineaaDoor
open Go.RowKit Go.Shelf Go.PlainAid

/-- The small forms of a text's code points from a place on, as bytes. -/
def foldFrom (s : ByteArray) : Nat → Nat → List UInt8
  | 0, _ => []
  | f + 1, pos => if pos < s.size then Lib.encodeRune (lowerZ (Utf8.decode s pos).1) ++ foldFrom s f (pos + (Utf8.decode s pos).2) else []
def foldL (s : ByteArray) : List UInt8 := foldFrom s s.size 0
def foldS (s : ByteArray) : ByteArray := ⟨(foldL s).toArray⟩
theorem foldFrom_end (s : ByteArray) (f pos : Nat) (h : ¬ pos < s.size) : foldFrom s f pos = [] := by
  cases f with
  | zero => rfl
  | succ f => simp [foldFrom, h]
theorem width_pos (s : ByteArray) (pos : Nat) (h : pos < s.size) : 1 ≤ (Utf8.decode s pos).2 := by
  by_cases ha : (s[pos]'h).toNat < 128
  · rw [decode_ascii s pos h ha]
    exact Nat.le_refl _
  · exact (decode_high s pos h (by omega)).2
theorem lowerZ_le {r : Int} (h : 0 ≤ r ∧ r ≤ 1114111) : 0 ≤ lowerZ r ∧ lowerZ r ≤ 1114111 := by
  unfold lowerZ
  split
  · omega
  · split
    · omega
    · split <;> omega
theorem lowerZ_wide {r : Int} (h : 0 ≤ r ∧ r ≤ 2147483647) : -2147483648 ≤ lowerZ r ∧ lowerZ r ≤ 2147483647 := by
  unfold lowerZ
  split
  · omega
  · split
    · omega
    · split <;> omega
theorem own_iter {w : World} {base : Nat} {e : TypeId} {v : Value} {n : Nat} {xs : List Value} (h : w.ownsRow base e 1 v n xs) {k : Nat} {s : ByteArray} {pos : Nat} (hk : w.heap[k]? = some (.stringIter s pos)) (pos' : Nat) : (w.iterAt k s pos').ownsRow base e 1 v n xs := by
  refine ⟨h.1, ?_⟩
  rcases h.2 with hn | ⟨g, cap, cur, rfl, hg, hgg, rest⟩
  · exact .inl hn
  · refine .inr ⟨g, cap, cur, rfl, hg, ?_, rest⟩
    rw [Lib.iterAt_other _ _ _ _ _ (fun e => by rw [e, hk] at hgg; cases hgg)]
    exact hgg
theorem iter_kept {w w' : World} {row : Option Nat} (hg : w.grownBy w' row) {k : Nat} {s : ByteArray} {pos : Nat} (hk : w.heap[k]? = some (.stringIter s pos)) (hne : some k ≠ row) : w'.heap[k]? = some (.stringIter s pos) := by
  rw [hg.block k (Array.getElem?_eq_some_iff.1 hk).1 hne]
  exact hk
theorem iter_ne {w : World} {base : Nat} {e : TypeId} {v : Value} {n : Nat} {xs : List Value} (h : w.ownsRow base e 1 v n xs) {k : Nat} {s : ByteArray} {pos : Nat} (hk : w.heap[k]? = some (.stringIter s pos)) : some k ≠ v.ownBlock := by
  rcases h.2 with ⟨rfl, _⟩ | ⟨g, cap, cur, rfl, hg, hgg, rest⟩
  · intro e; cases e
  · intro e
    injection e with e
    subst e
    rw [hk] at hgg
    cases hgg
theorem info_u8 : (Tryd.prog.info? 5).map (fun i => (i.zero, i.size, i.bytes)) = some (some (.int .u8 0), 1, 1) := by kernel_rfl
/-- A row of bytes as a text. -/
theorem run_text (w : World) (v : Value) (base n : Nat) (l : List UInt8) (h : w.ownsRow base 5 1 v n (Lib.byteCells l)) : (convert 42 9 v).run Tryd.prog w = .ok (.string ⟨l.toArray⟩) w := by
  obtain ⟨A, c, rfl, _, S⟩ := own_shape h
  have hn : n = l.length := by have := h.1; rw [Lib.byteCells_length] at this; omega
  subst hn
  by_cases he : l = []
  · subst he
    rcases A with _ | ad
    · exact run_convert_bytes_nil (P := Tryd.prog) (w := w) 42 5 Tryd.underlying42 Tryd.underlying5 0 c 9 Tryd.underlying9
    · exact run_convert_bytes_back (P := Tryd.prog) w 42 9 5 ad c [] Tryd.underlying42 Tryd.underlying5 Tryd.underlying9 (fun j hj => absurd hj (by simp))
  · obtain ⟨b, off, rfl, hb, hc⟩ := S (by intro e; apply he; simpa [Lib.byteCells] using e)
    exact run_convert_bytes_back (P := Tryd.prog) w 42 9 5 ⟨b, off, none⟩ c l Tryd.underlying42 Tryd.underlying5 Tryd.underlying9 (fun j hj => by
      have h2 := hc j (by simpa [Lib.byteCells] using hj)
      rw [show (⟨b, off, none⟩ : Addr).add j = ⟨b, off + j, none⟩ by unfold Addr.add; split <;> simp_all, h2]
      simp [Lib.byteCells, hj])
theorem valid_any (s : ByteArray) (w : World) (hs : s.size ≤ 9223372036854775807) (hT : Tabs w) :
    Calls Tryd.prog 17 #[.string s] w fun e w' => e = .returned (.bool (Lib.validD s.data.toList)) ∧ Below w.heap.size w w' := by
  have C := Lib.hid (vstring_any s w hs hT)
  clear hT
  go_enter Tryd.func17, Tryd.ntmps17
  go_wp2_with (go_at_call 35; refine C.out.mono ?_; rintro e w1 ⟨rfl, hb⟩)
  go_ret
  exact ⟨rfl, hb⟩
set_option maxRecDepth 100000 in
set_option maxHeartbeats 1000000 in
theorem fold_ok (s : ByteArray) (hs : s.size ≤ 100000) (hv : Lib.validD s.data.toList = true) (w : World) (hT : Tabs w) :
    Calls Tryd.prog 15 #[.string s] w fun e w' => e = .returned (.tuple #[.string (foldS s), .int .i64 0]) ∧ Below w.heap.size w w' := by
  have CV := Lib.hid (valid_any s w (by omega) hT)
  obtain ⟨i0, hi, hz0, hz1, hz2⟩ := info_parts info_u8
  clear hT
  go_enter Tryd.func15, Tryd.ntmps15
  go_wp2_with fail
  refine CV.out.mono ?_
  rintro e w1 ⟨rfl, hb1⟩
  rw [hv]
  obtain ⟨w2, hmk, hown0, hgr0⟩ := run_make_own (P := Tryd.prog) w1 w1.heap.size 42 5 i0 (.int .u8 0) 1 Tryd.underlying42 hi hz0 hz1 .i64 .i64 s.size (by rw [hz2]; omega) (by simp only [maxLen]; omega) (Nat.le_refl _)
  have hb2 : Below w.heap.size w w2 := hb1.grown hgr0 hb1.size (fun j hj => by cases hj)
  have H0 := Lib.hid hown0
  have hgr0s := Lib.hid hgr0.size
  have hw12 := Lib.hid hb1.size
  have HB2 := Lib.hid hb2
  clear hown0 hgr0 hb2 hb1 CV
  go_wp2
  go_loopw [4] (fun v wr => ∃ (pos fuel : Nat) (acc : List UInt8), wr.ownsRow w1.heap.size 5 1 v acc.length (Lib.byteCells acc) ∧ wr.heap[w2.heap.size]? = some (.stringIter s pos) ∧ Below w.heap.size w wr ∧ acc ++ foldFrom s fuel pos = foldL s ∧ s.size ≤ pos + fuel ∧ acc.length + 4 * fuel ≤ 4 * s.size ∧ w1.heap.size ≤ wr.heap.size) (fun _ wr => s.size - wr.iterPos w2.heap.size)
  case atStart =>
    refine ⟨0, s.size, [], H0.out.alloc _, by simpa using World.iter_heap w2 s 0, HB2.out.alloc HB2.out.size _, rfl, by omega, by simp, ?_⟩
    have := hgr0s.out
    show w1.heap.size ≤ (w2.alloc _).heap.size
    rw [World.size_alloc]; omega
  case round =>
    obtain ⟨pos, fuel, acc, hI, hit, hbw, hacc, hfu, hal, hsz⟩ := hrel
    by_cases hp : pos < s.size
    · have hnx : ∀ ty, (Instr.next (.pointer (some ⟨w2.heap.size, 0, none⟩)) true ty).run Tryd.prog wr = _ := fun ty => Lib.run_next_any_at wr w2.heap.size s pos ty hit hp
      have hwd := width_pos s pos hp
      have hd1 := decode_le s pos
      have hI2 := own_iter hI hit (pos + (Utf8.decode s pos).2)
      have hit2 := Lib.iterAt_heap wr w2.heap.size s pos (pos + (Utf8.decode s pos).2) hit
      have hbw2 := Lib.below_iterAt hbw (k := w2.heap.size) HB2.out.size s (pos + (Utf8.decode s pos).2)
      have hsz2 : w1.heap.size ≤ (wr.iterAt w2.heap.size s (pos + (Utf8.decode s pos).2)).heap.size := by rw [Lib.iterAt_size]; omega
      obtain ⟨f, rfl⟩ : ∃ f, fuel = f + 1 := ⟨fuel - 1, by omega⟩
      have HACC := Lib.hid hacc
      have HRW := Lib.hid (show foldFrom s (f + 1) pos = Lib.encodeRune (lowerZ (Utf8.decode s pos).1) ++ foldFrom s f (pos + (Utf8.decode s pos).2) by rw [foldFrom, if_pos hp])
      have hpos := Lib.hid (show wr.iterPos w2.heap.size = pos by simp only [World.iterPos, hit])
      have hI2' := Lib.hid hI2
      have hit2' := Lib.hid hit2
      have hbw2' := Lib.hid hbw2
      clear hacc hI2 hit2 hbw2 hI hit hbw
      obtain ⟨rn, hrn⟩ : ∃ rn : Nat, rn = (Utf8.decode s pos).1 := ⟨_, rfl⟩
      obtain ⟨wd, hwdd⟩ : ∃ n, n = (Utf8.decode s pos).2 := ⟨_, rfl⟩
      rw [← hrn] at hnx hd1 HRW
      rw [← hwdd] at hnx hwd HRW hI2' hit2' hbw2' hsz2
      have HRN := Lib.hid hrn
      have HWD := Lib.hid hwdd
      clear hrn hwdd
      go_wp2_with (first
        | (go_at_call 10; refine (lower_any (rn : Int) (by omega) _).mono ?_; rintro e W1 ⟨rfl, rfl⟩)
        | (go_at_call 30; refine (arune_any w1.heap.size _ acc.length (Lib.byteCells acc) (lowerZ (rn : Int)) (by have := lowerZ_wide (r := (rn : Int)) (by omega); omega) (by have := lowerZ_wide (r := (rn : Int)) (by omega); omega) _ hI2'.out (by omega) hsz2).mono ?_; rintro e W2 ⟨v', rfl, hown', o, hgr'⟩)
        | fail)
      have hit3 := iter_kept hgr' (k := w2.heap.size) (s := s) (pos := pos + wd) (by
        have h := hit2'.out
        have hl := (Array.getElem?_eq_some_iff.1 h).1
        rw [heap_alloc_old _ _ hl]; exact h) (iter_ne hI2'.out hit2'.out)
      go_roundw
      case rel =>
        have hl4 := Lib.runeCells_le (lowerZ (rn : Int))
        rw [Lib.runeCells_length] at hl4
        refine ⟨pos + wd, f, acc ++ Lib.encodeRune (lowerZ (rn : Int)), ?_, hit3, ?_, ?_, by omega, by rw [List.length_append]; omega, ?_⟩
        · rw [Lib.byteCells_append, Lib.byteCells_encodeRune, List.length_append, ← Lib.runeCells_length]; exact hown'
        · exact ((hbw2'.out.alloc hbw2'.out.size o).grown hgr' (by rw [World.size_alloc]; have := hbw2'.out.size; omega) (fun j hj => Nat.le_trans hw12.out (hI2'.out.lt j hj).1))
        · rw [← HACC.out, HRW.out, List.append_assoc]
        · have := hgr'.size
          rw [World.size_alloc] at this
          omega
      case measure =>
        have e1 : W2.iterPos w2.heap.size = pos + wd := by simp only [World.iterPos, hit3]
        rw [e1, hpos.out]
        omega
    · have hnx : ∀ ty, (Instr.next (.pointer (some ⟨w2.heap.size, 0, none⟩)) true ty).run Tryd.prog wr = _ := fun ty => Lib.run_next_end_at wr w2.heap.size s pos ty hit hp
      have hE : acc = foldL s := by rw [← hacc, foldFrom_end s fuel pos hp, List.append_nil]
      have hcv := run_text wr u4 w1.heap.size acc.length acc hI
      have hbw' := Lib.hid hbw
      have hE' := Lib.hid hE
      clear hE hacc hI hit hbw
      go_wp2
      exact bodyPost_ret (v := .tuple #[.string ⟨acc.toArray⟩, .int .i64 0]) (by simp [results, Tryd.results15, go_sem]) rfl ⟨by unfold foldS; rw [← hE'.out], hbw'.out⟩
end Go.Proofs.YtahpiminhlineaaDoor
