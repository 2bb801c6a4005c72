/- Bytes in memory: small facts; the table of the cyclic sum; that two lists of bytes are one. Condition: what is laid. -/
import Derived.Test.YthjbkgappjpanaaDoorCrc
import Derived.Test.YthjbkgappjpanaaDoorLaws
import Derived.Test.YthjbkgappjpanaaDoorRows
import Derived.Lib.LaidTab
import Derived.LaidHandle
namespace Go.Proofs.YthjbkgappjpanaaDoor
open Go.RowKit

theorem u8s_get (l : List Nat) (i : Nat) (h : i < l.length) : (u8s l)[i]'(by simp [u8s]; exact h) = .int .u8 ((l[i] : Nat) : Int) := by simp [u8s]
theorem u8s_length (l : List Nat) : (u8s l).length = l.length := by simp [u8s]
theorem u8s_one (l : List Nat) : ∀ u ∈ u8s l, u.oneCell' = true := by
  intro u hu
  simp only [u8s, List.mem_map] at hu
  obtain ⟨x, _, rfl⟩ := hu
  rfl
theorem u8s_append (l m : List Nat) : u8s (l ++ m) = u8s l ++ u8s m := by simp [u8s]
theorem info5 : (Tryd.prog.info? 5).map (fun i => (i.zero, i.size, i.bytes)) = some (some (.int .u8 0), 1, 1) := by kernel_rfl
theorem lt_append {x y : List Nat} (hx : ∀ a ∈ x, a < 256) (hy : ∀ a ∈ y, a < 256) : ∀ a ∈ x ++ y, a < 256 := fun a h => (List.mem_append.1 h).elim (hx a) (hy a)
theorem tab_of_laid (W : World) (h : laidMetH Tryd.prog [("parley/digest.crcSteps", Rows.laid_parley_digest_crcSteps)] W) : Tab W := by
  have h' : laidMet Tryd.prog [("parley/digest.crcSteps", Lib.tabData .u32 [0, 498536548, 997073096, 651767980, 1994146192, 1802195444, 1303535960, 1342533948, 3988292384, 4027552580, 3604390888, 3412177804, 2607071920, 2262029012, 2685067896, 3183342108])] W := h
  have ht := Lib.tabIs_of_head (g := 0) (t := 64) (e := 30) (n := 16) (by kernel_rfl) (by kernel_rfl) Tryd.underlying64 Tryd.underlying30 (by kernel_rfl) (by kernel_rfl) h'
  have hc := fun i hi => ht.cell (g := 0) (by kernel_rfl) i hi
  refine ⟨?_, fun i hi => ?_⟩
  · have := hc 0 (by decide)
    rcases Nat.eq_zero_or_pos W.heap.size with h0 | h0
    · rw [World.cell?, Array.getElem?_eq_none (by omega)] at this
      cases this
    · exact h0
  · rw [hc i (by simpa using hi)]
    have hall : ∀ i, i < 16 → (([0, 498536548, 997073096, 651767980, 1994146192, 1802195444, 1303535960, 1342533948, 3988292384, 4027552580, 3604390888, 3412177804, 2607071920, 2262029012, 2685067896, 3183342108] : List Int).getD i 0) = (tab i : Int) := by decide +kernel
    rw [hall i hi]
theorem u8s_of {w : World} {A : Option Addr} {l : List Nat} (h : Seg w A ((l.map fun (x : Nat) => (x : Int)).map (Value.int .u8))) : Seg w A (u8s l) := by
  have e : (l.map fun (x : Nat) => (x : Int)).map (Value.int .u8) = u8s l := by simp [u8s]
  rw [← e]; exact h
theorem take_lt {l : List Nat} (hl : ∀ x ∈ l, x < 256) (N : Nat) : ∀ x ∈ l.take N, x < 256 := fun x hx => hl x (List.mem_of_mem_take hx)
/-- Bytes as a text. -/
def txt (l : List Nat) : ByteArray := ⟨(l.map UInt8.ofNat).toArray⟩
theorem run_txt (w : World) (A : Option Addr) (n c : Nat) (l : List Nat) (hn : n = l.length) (hA : Seg w A (u8s l)) (hl : ∀ x ∈ l, x < 256) : (convert 55 9 (.slice A n c)).run Tryd.prog w = .ok (.string (txt l)) w := by
  subst hn
  by_cases he : l = []
  · subst he
    rcases A with _ | ad
    · exact run_convert_bytes_nil (P := Tryd.prog) (w := w) 55 5 Tryd.underlying55 Tryd.underlying5 0 c 9 Tryd.underlying9
    · exact run_convert_bytes_back (P := Tryd.prog) w 55 9 5 ad c [] Tryd.underlying55 Tryd.underlying5 Tryd.underlying9 (fun j hj => absurd hj (by simp))
  · obtain ⟨b, off, rfl, hb, hc⟩ := hA (by intro e; apply he; simpa [u8s] using e)
    have := run_convert_bytes_back (P := Tryd.prog) w 55 9 5 ⟨b, off, none⟩ c (l.map UInt8.ofNat) Tryd.underlying55 Tryd.underlying5 Tryd.underlying9 (fun j hj => by
      have hj' : j < l.length := by simpa using hj
      have hlt := hl _ (List.getElem_mem hj')
      rw [show ((⟨b, off, none⟩ : Addr).add j) = ⟨b, off + j, none⟩ by unfold Addr.add; split <;> simp_all]
      rw [hc j (by rw [u8s_length]; exact hj'), List.getElem?_eq_getElem (by rw [u8s_length]; exact hj'), u8s_get _ _ hj']
      simp [Nat.mod_eq_of_lt hlt])
    rw [List.length_map] at this
    exact this
end Go.Proofs.YthjbkgappjpanaaDoor
