/- The layer digest's hexadecimal texts, written and read back. Conditions: the bytes lie in memory. -/
import Derived.Test.YtbpclifgafafdaaDoorMac
import Derived.Deep.RegionLaw
namespace Go.Proofs.YtbpclifgafafdaaDoor
open Go.RowKit

/-- The letter of a digit. -/
def digC (d : Nat) : Nat := if d < 10 then 48 + d else 87 + d
theorem digC_lt (d : Nat) (h : d < 16) : digC d < 256 := by unfold digC; split <;> omega
theorem letter (D : Nat) (h : D < 16) : ((({ data := #[48, 49, 50, 51, 52, 53, 54, 55, 56, 57, 97, 98, 99, 100, 101, 102] } : ByteArray)[D]'h).toNat : Int) = (digC D : Nat) := by
  have hd : D = 0 ∨ D = 1 ∨ D = 2 ∨ D = 3 ∨ D = 4 ∨ D = 5 ∨ D = 6 ∨ D = 7 ∨ D = 8 ∨ D = 9 ∨ D = 10 ∨ D = 11 ∨ D = 12 ∨ D = 13 ∨ D = 14 ∨ D = 15 := by omega
  rcases hd with rfl | rfl | rfl | rfl | rfl | rfl | rfl | rfl | rfl | rfl | rfl | rfl | rfl | rfl | rfl | rfl <;> rfl
/-- Bytes as a text. -/
def txt (l : List Nat) : ByteArray := ⟨(l.map UInt8.ofNat).toArray⟩
theorem run_txt (w : World) (A : Option Addr) (n c : Nat) (l : List Nat) (hn : n = l.length) (hA : Seg w A (u8s l)) (hl : ∀ x ∈ l, x < 256) : (convert 47 9 (.slice A n c)).run Tryd.prog w = .ok (.string (txt l)) w := by
  subst hn
  by_cases he : l = []
  · subst he
    rcases A with _ | ad
    · exact run_convert_bytes_nil (P := Tryd.prog) (w := w) 47 5 Tryd.underlying47 Tryd.underlying5 0 c 9 Tryd.underlying9
    · exact run_convert_bytes_back (P := Tryd.prog) w 47 9 5 ad c [] Tryd.underlying47 Tryd.underlying5 Tryd.underlying9 (fun j hj => absurd hj (by simp))
  · obtain ⟨b, off, rfl, hb, hc⟩ := hA (by intro e; apply he; simpa [u8s] using e)
    have := run_convert_bytes_back (P := Tryd.prog) w 47 9 5 ⟨b, off, none⟩ c (l.map UInt8.ofNat) Tryd.underlying47 Tryd.underlying5 Tryd.underlying9 (fun j hj => by
      have hj' : j < l.length := by simpa using hj
      have hlt := hl _ (List.getElem_mem hj')
      rw [show ((⟨b, off, none⟩ : Addr).add j) = ⟨b, off + j, none⟩ by unfold Addr.add; split <;> simp_all]
      rw [hc j (by rw [u8s_length]; exact hj'), List.getElem?_eq_getElem (by rw [u8s_length]; exact hj'), u8s_get _ _ hj']
      simp [Nat.mod_eq_of_lt hlt])
    rw [List.length_map] at this
    exact this

def hexN (l : List Nat) : List Nat := l.flatMap fun x => [digC (x / 16), digC (x % 16)]
theorem hexN_length (l : List Nat) : (hexN l).length = 2 * l.length := by
  induction l with
  | nil => rfl
  | cons x l ih => simp only [hexN, List.flatMap_cons, List.length_append, List.length_cons, List.length_nil] at ih ⊢; omega
theorem hexN_append (l m : List Nat) : hexN (l ++ m) = hexN l ++ hexN m := by simp [hexN]
theorem hexN_lt (l : List Nat) (hl : ∀ x ∈ l, x < 256) : ∀ x ∈ hexN l, x < 256 := by
  intro x hx
  simp only [hexN, List.mem_flatMap, List.mem_cons, List.not_mem_nil, or_false] at hx
  obtain ⟨y, hy, rfl | rfl⟩ := hx
  · have := hl y hy; exact digC_lt _ (by omega)
  · exact digC_lt _ (by omega)
theorem low8 (x : Nat) (hx : x < 256) : bits .and .u8 (x : Int) 15 = ((x % 16 : Nat) : Int) := by
  revert x
  decide +kernel

set_option maxRecDepth 100000 in
theorem bhex_any (A : Option Addr) (n c : Nat) (l : List Nat) (hn : n = l.length) (hx : n ≤ 1000000000) (w : World) (hA : Seg w A (u8s l)) (hl : ∀ x ∈ l, x < 256) :
    Calls Tryd.prog 18 #[.slice A n c] w fun e w' => e = .returned (.string (txt (hexN l))) ∧ Below w.heap.size w w' := by
  obtain ⟨i0, hi0, hz0, hz1, hz2⟩ := info_parts info5
  have hmk : ∀ (w : World), (Instr.makeSlice 47 (.int .i64 0) (.int .i64 (2 * (n : Int)))).run Tryd.prog w = .ok (.slice (some ⟨w.heap.size, 0, none⟩) 0 (2 * n)) (w.alloc (.cells (madeCells #[.int .u8 0] (2 * n)) 5)) := fun w => by
    have := run_make (P := Tryd.prog) w 47 5 i0 (.int .u8 0) Tryd.underlying47 hi0 hz0 .i64 .i64 0 (2 * n) (by omega) (by omega) (by rw [hz2]; omega) (by omega)
    rw [hz1, show (2 * (n : Int)).toNat = 2 * n by omega, Nat.mul_one] at this
    exact this
  have hcs : (madeCells #[Value.int .u8 0] (2 * n)).size = 2 * n := by
    rw [← Array.length_toList, show (madeCells #[Value.int .u8 0] (2 * n)).toList = List.replicate (2 * n) (Value.int .u8 0) from toList_madeCells_one _ _]; simp
  have HM := Lib.hid (World.ownsRow_made (w := w) (base := w.heap.size) (e := 5) (size := 1) (madeCells #[.int .u8 0] (2 * n)) (2 * n) (Nat.le_refl _) (by simp only [maxLen]; omega) (by rw [hcs]; omega))
  have hAA : Seg (w.alloc (.cells (madeCells #[.int .u8 0] (2 * n)) 5)) A (u8s l) := hA.bel ((Below.refl _ _).alloc (Nat.le_refl _) _)
  have HA := Lib.hid hA
  have HL := Lib.hid hl
  have HN := Lib.hid hn
  have HB := Lib.hid ((Below.refl w.heap.size w).alloc (Nat.le_refl _) (.cells (madeCells #[.int .u8 0] (2 * n)) 5))
  clear hA hl hn hcs hAA
  go_enter Tryd.func18, Tryd.ntmps18
  go_wp2
  go_loopw [3, 12] (fun v i wr => ∃ k : Nat, k ≤ n ∧ i = .int .i64 k ∧ wr.ownsRow w.heap.size 5 1 v (2 * k) (u8s (hexN (l.take k))) ∧ Below w.heap.size w wr) (fun _ i _ => n - (intOf i).toNat)
  case atStart => exact ⟨0, by omega, rfl, HM.out, HB.out⟩
  case round =>
    obtain ⟨k, hk, rfl, hown, hb⟩ := hrel
    have HO := Lib.hid hown
    have HW := Lib.hid hb
    have hsz := hb.size
    obtain ⟨A1, c1, rfl, hc1, _⟩ := own_shape hown
    clear hown hb HM HB
    by_cases hlt : k < n
    · have hAr := HA.out.bel HW.out
      obtain ⟨b, off, rfl, hbl, _, hcell⟩ := hAr.pick (k := k) (by rw [u8s_length, ← HN.out]; exact hlt)
      rw [u8s_get l k (by rw [← HN.out]; exact hlt)] at hcell
      have hX := HL.out _ (List.getElem_mem (by rw [← HN.out]; exact hlt : k < l.length))
      have HT := Lib.hid (show l.take (k + 1) = l.take k ++ [l[k]'(by rw [← HN.out]; exact hlt)] by rw [List.take_succ_eq_append_getElem (by rw [← HN.out]; exact hlt)])
      generalize l[k]'(by rw [← HN.out]; exact hlt) = X at *
      have e1 := low8 X hX
      have hD : X / 16 < 16 := by omega
      have hE : X % 16 < 16 := by omega
      clear hAr
      go_wp2_with fail
      have lD := letter _ hD
      have lE := letter _ hE
      have n1 : (0 : Int) ≤ (X : Int) / 16 := by omega
      have n2 : (X : Int) / 16 < 16 := by omega
      have n3 : ((X : Int) / 16).toNat = X / 16 := by omega
      have n5 : (0 : Int) ≤ (X : Int) % 16 := by omega
      have n6 : (X : Int) % 16 < 16 := by omega
      have n4 : ((X : Int) % 16).toNat = X % 16 := by omega
      go_region_law (refine step_append_seg _ rfl _ _ _ rfl w.heap.size 5 i0 _ 1 Tryd.underlying47 hi0 hz0 hz1 hz2 rfl _ (2 * k) _ rfl (own_alloc (show wr.drew.ownsRow _ _ _ _ _ _ from HO.out) _) (some ⟨wr.heap.size, 0, none⟩) 2 2 [.int .u8 ((digC (X / 16) : Nat) : Int), .int .u8 ((digC (X % 16) : Nat) : Int)] rfl rfl (seg_two _ _ _ _) (by simp [Value.oneCell']) (by simp only [maxLen]; omega) (by omega) (by show _ ≤ (Array.push _ _).size; rw [Array.size_push]; omega) ?_; intro v' w' hown' hb')
      all_goals (
        obtain ⟨A2, c2, rfl, hc2, _⟩ := own_shape hown'
        have HO' := Lib.hid hown'
        have HB' := Lib.hid hb'
        clear hown' hb'
        go_wp2
        go_roundw
        case rel =>
          refine ⟨k + 1, by omega, by go_num, ?_, (HW.out.alloc hsz _).drew.trans HB'.out⟩
          have e : u8s (hexN (l.take k)) ++ [Value.int .u8 ((digC (X / 16) : Nat) : Int), Value.int .u8 ((digC (X % 16) : Nat) : Int)] = u8s (hexN (l.take (k + 1))) := by
            rw [HT.out, hexN_append, u8s_append]
            simp [u8s, hexN]
          rw [← e]
          exact HO'.out
        case measure => simp [intOf]; omega)
    · obtain rfl : k = n := by omega
      have hl : l.take k = l := by rw [HN.out]; simp
      rw [hl] at HO
      obtain ⟨A2, c2, h2, hc2, s2⟩ := own_shape HO.out
      obtain ⟨rfl, rfl⟩ : A2 = A1 ∧ c2 = c1 := by injection h2 with h2 h3 h4; exact ⟨h2.symm, h4.symm⟩
      have hcv := run_txt wr A2 (2 * k) c2 (hexN l) (by rw [hexN_length, ← HN.out]) s2 (hexN_lt l HL.out)
      clear s2 hl h2
      go_wp2
      go_ret
      exact ⟨rfl, HW.out⟩
end Go.Proofs.YtbpclifgafafdaaDoor
