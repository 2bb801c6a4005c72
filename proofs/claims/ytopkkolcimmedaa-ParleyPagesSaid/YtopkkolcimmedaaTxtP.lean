/- Bytes as a text. Condition: the bytes lie in memory. -/
import Derived.Test.YtopkkolcimmedaaBtA
namespace Go.Proofs.Ytopkkolcimmedaa
open Go.RowKit

/-- Bytes as a text. -/
def txt (l : List Nat) : ByteArray := ⟨(l.map UInt8.ofNat).toArray⟩
theorem run_txt (w : World) (A : Option Addr) (n c : Nat) (l : List Nat) (hn : n = l.length) (hA : Seg w A (u8s l)) (hl : ∀ x ∈ l, x < 256) : (convert 44 9 (.slice A n c)).run Try.prog w = .ok (.string (txt l)) w := by
  subst hn
  by_cases he : l = []
  · subst he
    rcases A with _ | ad
    · exact run_convert_bytes_nil (P := Try.prog) (w := w) 44 5 Try.underlying44 Try.underlying5 0 c 9 Try.underlying9
    · exact run_convert_bytes_back (P := Try.prog) w 44 9 5 ad c [] Try.underlying44 Try.underlying5 Try.underlying9 (fun j hj => absurd hj (by simp))
  · obtain ⟨b, off, rfl, hb, hc⟩ := hA (by intro e; apply he; simpa [u8s] using e)
    have := run_convert_bytes_back (P := Try.prog) w 44 9 5 ⟨b, off, none⟩ c (l.map UInt8.ofNat) Try.underlying44 Try.underlying5 Try.underlying9 (fun j hj => by
      have hj' : j < l.length := by simpa using hj
      have hlt := hl _ (List.getElem_mem hj')
      rw [show ((⟨b, off, none⟩ : Addr).add j) = ⟨b, off + j, none⟩ by unfold Addr.add; split <;> simp_all]
      rw [hc j (by rw [u8s_length]; exact hj'), List.getElem?_eq_getElem (by rw [u8s_length]; exact hj'), u8s_get _ _ hj']
      simp [Nat.mod_eq_of_lt hlt])
    rw [List.length_map] at this
    exact this
end Go.Proofs.Ytopkkolcimmedaa
