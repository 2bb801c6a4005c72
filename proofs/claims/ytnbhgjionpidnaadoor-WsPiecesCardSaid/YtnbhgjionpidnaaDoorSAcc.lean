/- The handshake's answer; a new reader; whether it has come to an end; a Close's payload. Conditions: those that each says. -/
import Derived.Test.YtnbhgjionpidnaaDoorSEnd
import Derived.Test.YtnbhgjionpidnaaDoorSha
import Derived.Test.YtnbhgjionpidnaaDoorB64
import Derived.Lib.ConvBytes
namespace Go.Proofs.YtnbhgjionpidnaaDoor
open Go.RowKit

/-- A text's bytes. -/
def octs (s : ByteArray) : List Nat := s.data.toList.map UInt8.toNat
theorem octs_length (s : ByteArray) : (octs s).length = s.size := by unfold octs; rw [List.length_map, Array.length_toList]; rfl
theorem octs_lt (s : ByteArray) : ∀ x ∈ octs s, x < 256 := by
  intro x hx
  unfold octs at hx
  obtain ⟨b, _, rfl⟩ := List.mem_map.1 hx
  exact UInt8.toNat_lt b
def guidS : ByteArray := ⟨#[50, 53, 56, 69, 65, 70, 65, 53, 45, 69, 57, 49, 52, 45, 52, 55, 68, 65, 45, 57, 53, 67, 65, 45, 67, 53, 65, 66, 48, 68, 67, 56, 53, 66, 49, 49]⟩
def acceptN (key : ByteArray) : ByteArray := txt (b64N (shaN (octs (key ++ guidS))))
theorem shaN_lt (l : List Nat) (_h : ∀ x ∈ l, x < 256) : ∀ x ∈ shaN l, x < 256 := outN_lt _
/-- A text's bytes in new memory. -/
theorem convS_any (s : ByteArray) (w : World) : ∃ c w', (convert 9 25 (.string s)).run Tryd.prog w = .ok (.slice (some ⟨w.heap.size, 0, none⟩) s.size c) w' ∧ s.size ≤ c ∧ Seg w' (some ⟨w.heap.size, 0, none⟩) (u8s (octs s)) ∧ Below w.heap.size w w' := by
  refine ⟨_, _, Lib.run_convert_string_bytes (P := Tryd.prog) w 9 25 5 s Tryd.underlying9 Tryd.underlying25 Tryd.underlying5, grownCap_ge _ _ _ _, ?_, ?_⟩
  · intro _
    refine ⟨w.heap.size, 0, rfl, by rw [Lib.bytesWorld_size]; omega, fun i hi => ?_⟩
    rw [u8s_length, octs_length] at hi
    have hi2 : i < s.data.toList.length := by rw [Array.length_toList]; exact hi
    rw [Nat.zero_add, Lib.bytesWorld_cell w 5 s i hi, List.getD_eq_getElem?_getD, List.getElem?_eq_getElem hi2]
    unfold octs u8s
    rw [List.getElem?_map, List.getElem?_map, List.getElem?_eq_getElem hi2]
    rfl
  · exact ⟨rfl, rfl, rfl, by rw [Lib.bytesWorld_size]; omega, fun k hk => Lib.bytesWorld_at_old w 5 s k hk⟩
set_option maxRecDepth 100000 in
set_option maxHeartbeats 1000000 in
theorem accept_any (key : ByteArray) (hz : key.size ≤ 100000) (w : World) : Calls Tryd.prog 12 #[.string key] w fun e w' => e = .returned (.string (acceptN key)) ∧ Below w.heap.size w w' := by
  have hTz : (key ++ guidS).size ≤ 100036 := by rw [ByteArray.size_append]; show _ + 36 ≤ _; omega
  have HR := Lib.hid (show acceptN key = txt (b64N (shaN (octs (key ++ guidS)))) from rfl)
  obtain ⟨c, w0, hrun, hc, hs, hb⟩ := convS_any (key ++ guidS) w
  have C1 := Lib.hid (sha_any (some ⟨w.heap.size, 0, none⟩) (key ++ guidS).size c (octs (key ++ guidS)) (octs_length _).symm hc (by omega) w0 hs (octs_lt _))
  obtain ⟨X, hX⟩ : ∃ X, X = shaN (octs (key ++ guidS)) := ⟨_, rfl⟩
  have HXl := Lib.hid (show X.length = 20 by rw [hX]; exact shaN_length _)
  have HXb := Lib.hid (show ∀ x ∈ X, x < 256 by rw [hX]; exact outN_lt _)
  rw [← hX] at C1 HR
  obtain ⟨N, hN⟩ : ∃ N, N = (key ++ guidS).size := ⟨_, rfl⟩
  rw [← hN] at hrun C1
  have hrun : (convert 9 25 (.string (key ++ ⟨#[50, 53, 56, 69, 65, 70, 65, 53, 45, 69, 57, 49, 52, 45, 52, 55, 68, 65, 45, 57, 53, 67, 65, 45, 67, 53, 65, 66, 48, 68, 67, 56, 53, 66, 49, 49]⟩))).run Tryd.prog w = .ok (.slice (some ⟨w.heap.size, 0, none⟩) N c) w0 := hrun
  have HB0 := Lib.hid hb
  clear hX hs hb hTz hN hc
  go_enter Tryd.func12, Tryd.ntmps12
  go_wp2_with fail
  refine C1.out.mono ?_
  rintro e w1 ⟨A1, c1, rfl, hc1, hs1, b1⟩
  have C2 := Lib.hid (b64_any A1 20 c1 X HXl.out.symm hc1 (by decide) w1 hs1 HXb.out)
  have HB1 := Lib.hid (HB0.out.trans (b1.mono HB0.out.size))
  clear hs1 b1 hrun
  go_wp2_with fail
  refine C2.out.mono ?_
  rintro e w2 ⟨rfl, b2⟩
  have HB2 := Lib.hid (HB1.out.trans (b2.mono HB1.out.size))
  clear b2
  go_wp2_with fail
  go_ret
  exact ⟨by rw [HR.out]; rfl, HB2.out⟩
set_option maxRecDepth 100000 in
theorem newReader_any (mk : Bool) (w : World) : Calls Tryd.prog 16 #[.bool mk] w fun e w' => e = .returned (.pointer (some ⟨w.heap.size, 0, none⟩)) ∧ Bk w' w.heap.size 59 (rdC mk (.slice none 0 0) 0 ⟨#[]⟩ false) ∧ Below w.heap.size w w' := by
  have HB := Lib.hid (Bk.new w 59 (rdC mk (.slice none 0 0) 0 ⟨#[]⟩ false))
  have HA := Lib.hid ((Below.refl w.heap.size w).alloc (Nat.le_refl _) (.cells (rdC mk (.slice none 0 0) 0 ⟨#[]⟩ false) 59))
  go_enter Tryd.func16, Tryd.ntmps16
  go_wp2_with fail
  go_ret
  exact ⟨rfl, HB.out, HA.out⟩
set_option maxRecDepth 100000 in
theorem dead_any (gr : Nat) (mk : Bool) (L : Value) (kind : Nat) (text : ByteArray) (dead : Bool) (w : World) (h : Bk w gr 59 (rdC mk L kind text dead)) :
    Calls Tryd.prog 22 #[.pointer (some ⟨gr, 0, none⟩)] w fun e w' => e = .returned (.bool dead) ∧ w' = w := by
  have y : w.cell? ⟨gr, 4, none⟩ = some (.bool dead) := h.cell 4
  clear h
  go_enter Tryd.func22, Tryd.ntmps22
  go_wp2_with fail
  go_ret
  exact ⟨rfl, rfl⟩
/-- The handshake's answer of the document's example. -/
theorem accept_ex : acceptN ⟨#[100, 71, 104, 108, 73, 72, 78, 104, 98, 88, 66, 115, 90, 83, 66, 117, 98, 50, 53, 106, 90, 81, 61, 61]⟩ = ⟨#[115, 51, 112, 80, 76, 77, 66, 105, 84, 120, 97, 81, 57, 107, 89, 71, 122, 122, 104, 90, 82, 98, 75, 43, 120, 79, 111, 61]⟩ := by decide +kernel
end Go.Proofs.YtnbhgjionpidnaaDoor
