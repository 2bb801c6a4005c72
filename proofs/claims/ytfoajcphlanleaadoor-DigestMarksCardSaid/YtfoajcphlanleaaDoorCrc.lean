/- What the two functions for the cyclic sum answer. Conditions: the bytes lie in memory; the table of sixteen words holds what the text lays. -/
import Derived.Test.YtfoajcphlanleaaDoorSame
import Derived.Test.YtfoajcphlanleaaDoorCrcM
namespace Go.Proofs.YtfoajcphlanleaaDoor
open Go.RowKit

def u8s (l : List Nat) : List Value := l.map fun (x : Nat) => Value.int .u8 (x : Int)
/-- The table lies in block 0. -/
def Tab (w : World) : Prop := 0 < w.heap.size ∧ ∀ i, i < 16 → w.cell? ⟨0, i, none⟩ = some (.int .u32 (tab i : Int))
theorem Tab.below {w w' : World} (h : Tab w) (hb : Below w.heap.size w w') : Tab w' :=
  ⟨Nat.lt_of_lt_of_le h.1 hb.size, fun i hi => by rw [hb.cell (p := ⟨0, i, none⟩) h.1]; exact h.2 i hi⟩
theorem low4 (c : Nat) (hc : c < 4294967296) : bits .and .u32 (c : Int) 15 = ((c % 16 : Nat) : Int) := by
  rw [show (15 : Int) = ((15 : Nat) : Int) from rfl, u32_and_nat _ _ hc (by omega), nat_mask4]

set_option maxRecDepth 100000 in
theorem crc_any (A : Option Addr) (n c : Nat) (l : List Nat) (hn : n = l.length) (w : World) (hA : Seg w A (u8s l)) (hT : Tab w) (hl : ∀ x ∈ l, x < 256) (hx : n ≤ 1000000000) :
    Calls Tryd.prog 9 #[.slice A n c] w fun e w' => e = .returned (.int .u32 ((4294967295 - crcGo l : Nat) : Int)) ∧ w = w' := by
  have HA := Lib.hid hA
  have HT := Lib.hid hT
  have HL := Lib.hid hl
  have HN := Lib.hid hn
  clear hA hT hl hn
  go_enter Tryd.func9, Tryd.ntmps9
  go_wp2
  go_loop [3, 8] (fun cv i => ∃ k : Nat, k ≤ n ∧ i = .int .i64 k ∧ cv = .int .u32 (((l.take k).foldl crcByte 4294967295 : Nat) : Int)) (fun _ i => n - (intOf i).toNat)
  case atStart => exact ⟨0, by omega, rfl, rfl⟩
  case round =>
    obtain ⟨k, hk, rfl, rfl⟩ := hrel
    have hbd := fold_lt (l.take k) (fun x hx => HL.out x (List.mem_of_mem_take hx)) 4294967295 (by decide)
    obtain ⟨C, hC⟩ : ∃ C, C = (l.take k).foldl crcByte 4294967295 := ⟨_, rfl⟩
    rw [← hC] at hbd ⊢
    have HC := Lib.hid hC
    clear hC
    by_cases hlt : k < n
    · have hlt' : k < l.length := by rw [← HN.out]; exact hlt
      obtain ⟨b, off, rfl, hbl, _, hc⟩ := HA.out.pick (k := k) (by simpa [u8s] using hlt')
      obtain ⟨X, hX⟩ : ∃ X, X = l[k] := ⟨_, rfl⟩
      have hXl : X < 256 := by rw [hX]; exact HL.out _ (List.getElem_mem hlt')
      have hc' : w.cell? ⟨b, off + k, none⟩ = some (.int .u8 (X : Int)) := by rw [hc, hX]; simp [u8s]
      have HX := Lib.hid hX
      clear hc hX
      have e1 := u32_xor_nat C X hbd (by omega)
      have d1 : C ^^^ X < 4294967296 := Nat.xor_lt_two_pow (n := 32) hbd (by omega)
      have e2 := low4 (C ^^^ X) d1
      have t1 := HT.out.2 ((C ^^^ X) % 16) (by omega)
      have l1 := tab_lt ((C ^^^ X) % 16) (by omega)
      have e3 := u32_xor_nat ((C ^^^ X) / 16) (tab ((C ^^^ X) % 16)) (by omega) l1
      have d2 := cstep_lt (C ^^^ X) d1
      rw [show ((C ^^^ X) / 16 ^^^ tab ((C ^^^ X) % 16)) = cstep (C ^^^ X) from rfl] at e3
      obtain ⟨D, hD⟩ : ∃ D, D = C ^^^ X := ⟨_, rfl⟩
      rw [← hD] at e1 e2 t1 l1 e3 d1 d2
      have e4 := low4 (cstep D) d2
      have t2 := HT.out.2 (cstep D % 16) (by omega)
      have l2 := tab_lt (cstep D % 16) (by omega)
      have e5 := u32_xor_nat (cstep D / 16) (tab (cstep D % 16)) (by omega) l2
      rw [show (cstep D / 16 ^^^ tab (cstep D % 16)) = cstep (cstep D) from rfl] at e5
      have hfin : cstep (cstep D) = (l.take (k + 1)).foldl crcByte 4294967295 := by
        rw [List.take_succ_eq_append_getElem hlt', List.foldl_append, ← HC.out, ← HX.out, hD]; rfl
      have HF := Lib.hid hfin
      clear hfin hD
      obtain ⟨E, hE⟩ : ∃ E, E = cstep D := ⟨_, rfl⟩
      rw [← hE] at e3 e4 t2 l2 e5 d2
      have HE := Lib.hid hE
      clear hE
      obtain ⟨R, hR⟩ : ∃ R, R = D % 16 := ⟨_, rfl⟩
      have rR : R < 16 := by omega
      rw [← hR] at e2 t1 l1 e3
      obtain ⟨S, hS⟩ : ∃ S, S = E % 16 := ⟨_, rfl⟩
      have rS : S < 16 := by omega
      rw [← hS] at e4 t2 l2 e5
      clear hR hS
      have q3 : ((D / 16 : Nat) : Int) = (D : Int) / 16 := by simp
      have q5 : ((E / 16 : Nat) : Int) = (E : Int) / 16 := by simp
      rw [q3] at e3
      rw [q5] at e5
      clear q3 q5 l1 l2
      go_wp2
      go_round
      case rel => exact ⟨k + 1, by omega, by go_num, by rw [← HF.out, ← HE.out]⟩
      case measure => simp [intOf]; omega
    · have hk' : k = n := by omega
      have hfin : C = crcGo l := by rw [HC.out, hk', HN.out, List.take_length]; rfl
      have e1 : bits .xor .u32 IntKind.u32.max (C : Int) = ((4294967295 - C : Nat) : Int) := by
        rw [show IntKind.u32.max = ((4294967295 : Nat) : Int) from rfl, u32_xor_nat _ _ (by omega) hbd]
        congr 1
        have h : 4294967295 ^^^ C = (BitVec.allOnes 32 ^^^ BitVec.ofNat 32 C).toNat := by
          rw [BitVec.toNat_xor, BitVec.toNat_ofNat, Nat.mod_eq_of_lt (by omega : C < 2 ^ 32)]; rfl
        rw [h, BitVec.allOnes_xor, BitVec.toNat_not, BitVec.toNat_ofNat, Nat.mod_eq_of_lt (by omega : C < 2 ^ 32)]
      have HF := Lib.hid hfin
      clear hfin hk'
      go_wp2
      go_ret
      exact ⟨by rw [← HF.out]; rfl, rfl⟩
theorem not_u32 (C : Nat) (hbd : C < 4294967296) : bits .xor .u32 (C : Int) 4294967295 = ((4294967295 - C : Nat) : Int) := by
  rw [show (4294967295 : Int) = ((4294967295 : Nat) : Int) from rfl, u32_xor_nat _ _ hbd (by omega), Nat.xor_comm]
  congr 1
  have h : 4294967295 ^^^ C = (BitVec.allOnes 32 ^^^ BitVec.ofNat 32 C).toNat := by
    rw [BitVec.toNat_xor, BitVec.toNat_ofNat, Nat.mod_eq_of_lt (by omega : C < 2 ^ 32)]; rfl
  rw [h, BitVec.allOnes_xor, BitVec.toNat_not, BitVec.toNat_ofNat, Nat.mod_eq_of_lt (by omega : C < 2 ^ 32)]
theorem low1 (c : Nat) (hc : c < 4294967296) : bits .and .u32 (c : Int) 1 = ((c % 2 : Nat) : Int) := by
  rw [show (1 : Int) = ((1 : Nat) : Int) from rfl, u32_and_nat _ _ hc (by omega), nat_mask1]
theorem refcrc_any (A : Option Addr) (n c : Nat) (l : List Nat) (hn : n = l.length) (w : World) (hA : Seg w A (u8s l)) (hl : ∀ x ∈ l, x < 256) (hx : n ≤ 1000000000) :
    Calls Tryd.prog 11 #[.slice A n c] w fun e w' => e = .returned (.int .u32 ((4294967295 - crcRef l : Nat) : Int)) ∧ w = w' := by
  have HA := Lib.hid hA
  have HL := Lib.hid hl
  have HN := Lib.hid hn
  clear hA hl hn
  go_enter Tryd.func11, Tryd.ntmps11
  go_wp2
  go_loop [3, 10] (fun cv i => ∃ k : Nat, k ≤ n ∧ i = .int .i64 k ∧ cv = .int .u32 (((l.take k).foldl (fun c x => rbits c x 8) 4294967295 : Nat) : Int)) (fun _ i => n - (intOf i).toNat)
  case atStart => exact ⟨0, by omega, rfl, rfl⟩
  case round =>
    obtain ⟨k, hk, rfl, rfl⟩ := hrel
    have hbd := rfold_lt (l.take k) 4294967295 (by decide)
    obtain ⟨C, hC⟩ : ∃ C, C = (l.take k).foldl (fun c x => rbits c x 8) 4294967295 := ⟨_, rfl⟩
    rw [← hC] at hbd ⊢
    have HC := Lib.hid hC
    clear hC
    by_cases hlt : k < n
    · have hlt' : k < l.length := by rw [← HN.out]; exact hlt
      obtain ⟨b, off, rfl, hbl, _, hc⟩ := HA.out.pick (k := k) (by simpa [u8s] using hlt')
      obtain ⟨X, hX⟩ : ∃ X, X = l[k] := ⟨_, rfl⟩
      have hXl : X < 256 := by rw [hX]; exact HL.out _ (List.getElem_mem hlt')
      have hc' : w.cell? ⟨b, off + k, none⟩ = some (.int .u8 (X : Int)) := by rw [hc, hX]; simp [u8s]
      have HX := Lib.hid hX
      clear hc hX
      go_wp2
      go_loop [3, 6] (fun cv i => ∃ j : Nat, j ≤ 8 ∧ i = .int .i64 j ∧ cv = .int .u32 ((rbits C X j : Nat) : Int)) (fun _ i => 8 - (intOf i).toNat)
      case atStart => exact ⟨0, by omega, rfl, rfl⟩
      case round =>
        obtain ⟨j, hj, rfl, rfl⟩ := hrel
        by_cases hlt2 : j < 8
        · have b1 := rbits_lt C X hbd j
          have hstep : rbits C X (j + 1) = rbit (rbits C X j) X j := rfl
          have hsm : X / 2 ^ j < 256 := Nat.lt_of_le_of_lt (Nat.div_le_self _ _) hXl
          obtain ⟨R, hR⟩ : ∃ R, R = rbits C X j := ⟨_, rfl⟩
          rw [← hR] at b1 hstep ⊢
          have e1 := u32_xor_nat R (X / 2 ^ j) b1 (by omega)
          rw [show ((X / 2 ^ j : Nat) : Int) = (X : Int) / 2 ^ j by simp] at e1
          have e0 : (X : Int) / 2 ^ j % 4294967296 = (X : Int) / 2 ^ j := by
            rw [show (X : Int) / 2 ^ j = ((X / 2 ^ j : Nat) : Int) by simp]
            generalize X / 2 ^ j = q at hsm
            omega
          have e2 := low1 (R ^^^ X / 2 ^ j) (Nat.xor_lt_two_pow (n := 32) b1 (by omega))
          have e3 := u32_xor_nat (R / 2) 3988292384 (by omega) (by omega)
          rw [show ((R / 2 : Nat) : Int) = (R : Int) / 2 by simp, show ((3988292384 : Nat) : Int) = 3988292384 from rfl] at e3
          unfold rbit at hstep
          obtain ⟨D, hD⟩ : ∃ D, D = R ^^^ X / 2 ^ j := ⟨_, rfl⟩
          rw [← hD] at e1 e2 hstep
          have HR := Lib.hid hR
          clear hR hD
          by_cases ho : D % 2 = 1
          · rw [if_pos ho] at hstep
            replace e2 : bits .and .u32 (D : Int) 1 = 1 := by rw [e2, ho]; rfl
            have HS := Lib.hid hstep
            clear hstep ho
            go_wp2
            go_round
            case rel => exact ⟨j + 1, by omega, by go_num, by rw [HS.out]⟩
            case measure => simp [intOf]; omega
          · rw [if_neg ho] at hstep
            replace e2 : bits .and .u32 (D : Int) 1 = 0 := by rw [e2, show D % 2 = 0 by omega]; rfl
            have HS := Lib.hid hstep
            clear hstep ho
            go_wp2
            go_round
            case rel => exact ⟨j + 1, by omega, by go_num, by rw [HS.out]; simp⟩
            case measure => simp [intOf]; omega
        · obtain rfl : j = 8 := by omega
          have HF := Lib.hid (show rbits C X 8 = (l.take (k + 1)).foldl (fun c x => rbits c x 8) 4294967295 by
            rw [List.take_succ_eq_append_getElem hlt', List.foldl_append, ← HC.out, ← HX.out]; rfl)
          go_wp2
          go_round
          case rel => exact ⟨k + 1, by omega, by go_num, by rw [← HF.out]⟩
          case measure => simp [intOf]; omega
    · have hk' : k = n := by omega
      have hfin : C = crcRef l := by rw [HC.out, hk', HN.out, List.take_length]; rfl
      have e1 := not_u32 C hbd
      have HF := Lib.hid hfin
      clear hfin hk'
      go_wp2
      go_ret
      exact ⟨by rw [← HF.out]; rfl, rfl⟩
end Go.Proofs.YtfoajcphlanleaaDoor
