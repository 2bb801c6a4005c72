/- What a disk answers of a block. Conditions: the disk lies in memory. -/
import Derived.Test.YtmgbmnbjionapaaDiskA
namespace Go.Proofs.Ytmgbmnbjionapaa
open Go.RowKit

/-- The last of the first k waiting writes that is to block n. -/
def lastW (wts : List (Nat × List Nat)) (n : Nat) : Nat → Option Nat
  | 0 => none
  | k + 1 => if (wts.getD k (0, [])).1 = n then some k else lastW wts n k
/-- What block n reads as. -/
def rdD (img : List Nat) (wts : List (Nat × List Nat)) (n : Nat) : List Nat :=
  match lastW wts n wts.length with
  | some k => (wts.getD k (0, [])).2
  | none => (img.drop (n * 256)).take 256
section
variable {w w' : World} {B g gi : Nat} {img : List Nat} {v : Value} {wts : List (Nat × List Nat)} {arm : Bool} {left : Int}
set_option maxRecDepth 100000 in
theorem read_no (h : Dk w B g gi img v wts arm left) (T : Nat) (hT : img.length = T * 256) (h2 : T ≤ 2048) (n : Int) (hn : ¬ (0 ≤ n ∧ n < (T : Int))) :
    Calls Try.prog 24 #[.pointer (some ⟨g, 0, none⟩), .int .i64 n] w fun e w' => e = .returned (.tuple #[.slice none 0 0, .int .i64 1]) ∧ w = w' := by
  have HH := Lib.hid (has_any h T hT h2 n)
  rw [show decide (0 ≤ n ∧ n < (T : Int)) = false by simpa using hn] at HH
  clear h hT h2 hn
  go_enter Try.func24, Try.ntmps24
  go_wp2_with (go_at_call 50; refine HH.out.mono ?_; rintro e w2 ⟨rfl, rfl⟩)
  exact bodyPost_ret (v := .tuple #[.slice none 0 0, .int .i64 1]) (by simp [results, Try.results24, go_sem]) rfl ⟨rfl, rfl⟩
theorem Dk.waiting (h : Dk w B g gi img v wts arm left) : ∃ A c, v = .slice A wts.length c ∧ wts.length ≤ c ∧ ∀ k (hk : k < wts.length), ∃ gw, A = some ⟨gw, 0, none⟩ ∧ w.cell? ⟨gw, k * 257, none⟩ = some (.int .i64 (wts[k].1 : Int)) ∧ Seg w (some ⟨gw, k * 257 + 1, none⟩) (u8s wts[k].2) := by
  have hsh : ∃ A c, v = .slice A wts.length c ∧ wts.length ≤ c := by
    rcases h.own.2 with ⟨e, h0⟩ | ⟨g, cap, cur, e, _, _, hc, _⟩
    · exact ⟨none, 0, by rw [e, h0], by omega⟩
    · exact ⟨_, _, e, hc⟩
  obtain ⟨A, c, rfl, hc⟩ := hsh
  refine ⟨A, c, rfl, hc, fun k hk => ?_⟩
  obtain ⟨gw, cap, hv, hb, hl⟩ := h.own.form (by omega)
  injection hv with e1 e2 e3
  subst e1
  refine ⟨gw, rfl, ?_, fun _ => ⟨gw, k * 257 + 1, rfl, hl, fun i hi => ?_⟩⟩
  · rw [h.own.cellAt _ (by omega)]
    exact chs_num wts h.full k hk
  · have h256 := h.full wts[k] (List.getElem_mem hk)
    rw [u8s_length, h256] at hi
    rw [h.own.cellAt _ (by omega)]
    exact chs_byte wts h.full k hk i hi
theorem seg_from {w : World} {b : Nat} {l : List Nat} (h : Seg w (some ⟨b, 0, none⟩) (u8s l)) (k m : Nat) : Seg w (some ⟨b, k, none⟩) (u8s ((l.drop k).take m)) := fun hn => by
  have hk : k < l.length := by
    rcases Nat.lt_or_ge k l.length with h | h
    · exact h
    · exact absurd (by rw [List.drop_eq_nil_of_le h]; simp [u8s]) hn
  obtain ⟨b', off, e, hb, hc⟩ := h (by intro e; have := congrArg List.length e; rw [u8s_length, List.length_nil] at this; omega)
  injection e with e
  injection e with e1 e2 _
  subst e1
  subst e2
  refine ⟨b, k, rfl, hb, fun i hi => ?_⟩
  rw [u8s_length, List.length_take, List.length_drop] at hi
  have := hc (k + i) (by rw [u8s_length]; omega)
  rw [Nat.zero_add] at this
  rw [this]
  simp [u8s, List.getElem?_drop, show i < m by omega]
set_option maxRecDepth 100000 in
set_option maxHeartbeats 1000000 in
theorem read_ok (h : Dk w B g gi img v wts arm left) (T : Nat) (hT : img.length = T * 256) (h2 : T ≤ 2048) (n : Nat) (hn : n < T) (h64 : wts.length ≤ 64) :
    Calls Try.prog 24 #[.pointer (some ⟨g, 0, none⟩), .int .i64 (n : Int)] w fun e w' => ∃ A' c', e = .returned (.tuple #[.slice A' 256 c', .int .i64 0]) ∧ 256 ≤ c' ∧ w'.ownsRow w.heap.size 5 1 (.slice A' 256 c') 256 (u8s (rdD img wts n)) ∧ Below w.heap.size w w' := by
  have HH := Lib.hid (has_any h T hT h2 (n : Int))
  rw [show decide (0 ≤ (n : Int) ∧ (n : Int) < (T : Int)) = true by simp; omega] at HH
  have c0 := h.c0
  have c1 := h.c1
  have HS := Lib.hid (show Seg w (some ⟨gi, 0, none⟩) (u8s img) from Seg.of_block h.img (fun i _ => by simp))
  obtain ⟨A, c, rfl, hc, hw⟩ := h.waiting
  have HW := Lib.hid hw
  have HF := Lib.hid h.full
  clear h hw
  rw [hT] at c0
  obtain ⟨m, hm⟩ : ∃ m, m = wts.length := ⟨_, rfl⟩
  rw [← hm] at c1 hc h64
  have HM := Lib.hid hm
  have HT := Lib.hid hT
  clear hm hT
  go_enter Try.func24, Try.ntmps24
  go_wp2_with (go_at_call 50; refine HH.out.mono ?_; rintro e w2 ⟨rfl, rfl⟩)
  go_loopw [6] (fun i wr => ∃ k : Nat, k ≤ m ∧ i = .int .i64 ((k : Int) - 1) ∧ Hid (lastW wts n k = lastW wts n m) ∧ wr = w) (fun i _ => (intOf i + 1).toNat)
  case atStart => exact ⟨m, Nat.le_refl _, rfl, Lib.hid rfl, rfl⟩
  case round =>
    obtain ⟨k, hk, rfl, hl, rfl⟩ := hrel
    rcases k with _ | j
    · have HR := Lib.hid (show rdD img wts n = (img.drop (n * 256)).take 256 from by
        unfold rdD
        rw [← HM.out, ← hl.out]
        rfl)
      rw [show (((0 : Nat) : Int) - 1) = -1 by omega]
      have hS : Seg wr (some ⟨gi, n * 256, none⟩) (u8s ((img.drop (n * 256)).take 256)) := seg_from HS.out (n * 256) 256
      have hlen : 256 = ((img.drop (n * 256)).take 256).length := by
        rw [List.length_take, List.length_drop, HT.out]
        omega
      have HC := Lib.hid (clone_all (some ⟨gi, n * 256, none⟩) 256 (T * 256 - n * 256) ((img.drop (n * 256)).take 256) hlen (by omega) wr hS)
      clear hS hlen
      go_wp2_with fail
      rw [show (n + 1) * 256 - n * 256 = 256 by omega]
      refine HC.out.mono ?_
      rintro e w2 ⟨A2, c2, rfl, k1, k2, k3⟩
      have K1 := Lib.hid k1
      have K2 := Lib.hid k2
      have K3 := Lib.hid k3
      clear k1 k2 k3
      go_wp2_with fail
      refine bodyPost_ret (v := .tuple #[.slice A2 256 c2, .int .i64 0]) (by simp [results, Try.results24, go_sem]) rfl ⟨A2, c2, rfl, K1.out, by rw [HR.out]; exact K2.out, K3.out⟩
    · rw [show (((j + 1 : Nat) : Int) - 1) = (j : Int) by omega]
      have hjl : j < wts.length := by rw [← HM.out]; omega
      obtain ⟨gw, rfl, cn, sb⟩ := HW.out j hjl
      have h256 := HF.out wts[j] (List.getElem_mem hjl)
      have hg : wts.getD j (0, []) = wts[j] := by simp [List.getD, hjl]
      have hlj : lastW wts n (j + 1) = if wts[j].1 = n then some j else lastW wts n j := by
        simp only [lastW, hg]
      have HL := Lib.hid hlj
      have HG := Lib.hid hg
      have i1 : (0 : Int) ≤ (j : Int) := by omega
      have i2 : (j : Int) < (m : Int) := by omega
      clear hlj hg
      generalize wts[j] = q at *
      have SB := Lib.hid sb
      have H256 := Lib.hid h256
      clear sb h256
      by_cases hq : q.1 = n
      · have hd : ((q.1 : Int) == (n : Int)) = true := by simp [hq]
        have HR := Lib.hid (show rdD img wts n = q.2 from by
          unfold rdD
          rw [← HM.out, ← hl.out, HL.out, if_pos hq]
          simp only [HG.out])
        have HC := Lib.hid (clone_all (some ⟨gw, j * 257 + 1, none⟩) 256 256 q.2 H256.out.symm (by omega) wr SB.out)
        go_wp2_with (go_at_call 49; refine HC.out.mono ?_; rintro e w2 ⟨A2, c2, rfl, k1, k2, k3⟩; have K1 := Lib.hid k1; have K2 := Lib.hid k2; have K3 := Lib.hid k3; clear k1 k2 k3)
        refine bodyPost_ret (v := .tuple #[.slice A2 256 c2, .int .i64 0]) (by simp [results, Try.results24, go_sem]) rfl ⟨A2, c2, rfl, K1.out, by rw [HR.out]; exact K2.out, K3.out⟩
      · have hd : ((q.1 : Int) == (n : Int)) = false := by simp; omega
        have HL2 := Lib.hid (show lastW wts n j = lastW wts n m from by rw [← hl.out, HL.out, if_neg hq])
        go_wp2_with fail
        go_roundw
        case rel => exact ⟨j, by omega, by go_num, HL2, trivial⟩
        case measure => simp [intOf]
end
end Go.Proofs.Ytmgbmnbjionapaa
