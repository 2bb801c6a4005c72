/- The statement on decoding, its own walk. Condition: the bytes lie in memory. -/
import Derived.Test.YtgifbjomaenlnaaWDec
import Derived.Test.YtgifbjomaenlnaaWREnc
import Derived.Test.YtgifbjomaenlnaaWRChk
import Derived.Test.YtgifbjomaenlnaaWSame1
import Derived.Test.YtgifbjomaenlnaaWAwake
namespace Go.Proofs.Ytgifbjomaenlnaa
open Go.RowKit

def zM : MsgM := ⟨0, 0, 0, 0, 0, 0, 0, 0, false, []⟩
theorem es_nil (w : World) : Es w zM.ents none 0 0 := ⟨rfl, Seg.nil _ _, by omega, fun e he => by simp [zM] at he⟩
set_option maxRecDepth 100000 in
set_option maxHeartbeats 2000000 in
theorem wdec_any (A : Option Addr) (n c : Nat) (l : List Nat) (hn : n = l.length) (hnc : n ≤ c) (hz : c ≤ 140737488355328) (hl : ∀ x ∈ l, x < 256) (w : World) (hA : Seg w A (u8s l)) :
    Calls Try.prog 4 #[.slice A n c] w fun e w' => e = .returned (.bool true) ∧ Below w.heap.size w w' := by
  obtain ⟨i0, hi0, hz0, hz1, hz2⟩ := info_parts info5
  have HA := Lib.hid hA
  have HN := Lib.hid hn
  have HL := Lib.hid hl
  clear hA hn hl
  go_enter Try.func4, Try.ntmps4
  go_wp2_with (at_builtin; refine wpList_append_seg _ rfl (.tmp 6) (.tmp 7) _ rfl w.heap.size 5 i0 _ 1 Try.underlying26 hi0 hz0 hz1 hz2 rfl _ 0 _ rfl (World.ownsRow_lit w #[] 0 (by omega) (by decide) rfl) A n c (u8s l) rfl (by rw [u8s_length, ← HN.out]) (HA.out.bel ((Below.refl _ _).alloc (Nat.le_refl _) _)) (u8s_one _) (by simp only [maxLen]; omega) (by omega) (by simp only [World.size_alloc]; omega) ?_; intro v1 w1 hown1 hb1; simp only [Nat.zero_add, List.nil_append] at hown1; obtain ⟨A1, c1, rfl, hc1, s1⟩ := own_shape hown1; have S1 := Lib.hid s1; have L1 := Lib.hid (fun a (e : A1 = some a) => own_lt_slice hown1 e); have B1 := Lib.hid (((Below.refl w.heap.size w).alloc (Nat.le_refl _) (.cells #[] 5)).trans hb1); have z1 := B1.out.size; clear hown1 hb1 s1)
  refine (dec_any A1 n c1 l HN.out hc1 (by omega) HL.out w1 S1.out L1.out).mono ?_
  rintro e w2 ⟨b2, hpost⟩
  by_cases h9 : n ≤ 900
  · have HPOST9 : l.length ≤ 900 := by have := HN.out; omega
    rw [if_pos HPOST9] at hpost
    cases hnp : bodyP l with
    | none =>
      rw [hnp] at hpost
      have hpost : e = .returned (.tuple #[.agg #[.int .i64 0, .int .i64 0, .int .i64 0, .int .i64 0, .int .i64 0, .int .i64 0, .int .i64 0, .slice none 0 0, .bool false, .int .i64 0], .int .i64 3]) := hpost
      subst hpost
      have i1 : ¬ (900 : Int) < (n : Int) := by omega
      clear hnp
      clear HPOST9
      have BW := Lib.hid ((B1.out.trans (b2.mono z1)).alloc (Nat.le_trans z1 b2.size) (.cells #[.int .i64 0, .int .i64 0, .int .i64 0, .int .i64 0, .int .i64 0, .int .i64 0, .int .i64 0, .slice none 0 0, .bool false, .int .i64 0] 24))
      have X2 := Lib.hid (Bk.new w2 24 #[.int .i64 0, .int .i64 0, .int .i64 0, .int .i64 0, .int .i64 0, .int .i64 0, .int .i64 0, .slice none 0 0, .bool false, .int .i64 0])
      clear b2
      go_wp2_with fail
      refine (wawake_any _).mono ?_
      rintro e w4 ⟨rfl, b4⟩
      have X4 := X2.out.bel b4
      have y0 : w4.cell? ⟨w2.heap.size, 0, none⟩ = some (.int .i64 0) := X4.cell 0
      have y1 : w4.cell? ⟨w2.heap.size, 1, none⟩ = some (.int .i64 0) := X4.cell 1
      have y2 : w4.cell? ⟨w2.heap.size, 2, none⟩ = some (.int .i64 0) := X4.cell 2
      have y3 : w4.cell? ⟨w2.heap.size, 3, none⟩ = some (.int .i64 0) := X4.cell 3
      have y4 : w4.cell? ⟨w2.heap.size, 4, none⟩ = some (.int .i64 0) := X4.cell 4
      have y5 : w4.cell? ⟨w2.heap.size, 5, none⟩ = some (.int .i64 0) := X4.cell 5
      have y6 : w4.cell? ⟨w2.heap.size, 6, none⟩ = some (.int .i64 0) := X4.cell 6
      have y7 : w4.cell? ⟨w2.heap.size, 7, none⟩ = some (.slice none 0 0) := X4.cell 7
      have y8 : w4.cell? ⟨w2.heap.size, 8, none⟩ = some (.bool false) := X4.cell 8
      have y9 : w4.cell? ⟨w2.heap.size, 9, none⟩ = some (.int .i64 0) := X4.cell 9
      have B4 := Lib.hid (BW.out.trans (b4.mono BW.out.size))
      clear b4 X4
      go_wp2_with fail
      refine (wsame_any zM none none 0 0 0 0 w4 (es_nil w4) (es_nil w4)).mono ?_
      rintro e w5 ⟨rfl, b5⟩
      have B5 := Lib.hid (B4.out.trans (b5.mono B4.out.size))
      clear b5
      go_wp2_with fail
      go_ret
      exact ⟨rfl, B5.out⟩
    | some m =>
      rw [hnp] at hpost
      have i1 : ¬ (900 : Int) < (n : Int) := by omega
      obtain ⟨A2, c2, rfl, hmg⟩ := hpost
      obtain ⟨hck, hen⟩ := bodyP_of hnp
      unfold msgC
      have BW := Lib.hid ((B1.out.trans (b2.mono z1)).alloc (Nat.le_trans z1 b2.size) (.cells #[.int .i64 m.kind, .int .i64 m.n0, .int .i64 m.n1, .int .i64 m.n2, .int .i64 m.n3, .int .i64 m.n4, .int .i64 m.n5, .slice A2 m.ents.length c2, .bool m.ok, .int .i64 m.n6] 24))
      have X2 := Lib.hid (Bk.new w2 24 #[.int .i64 m.kind, .int .i64 m.n0, .int .i64 m.n1, .int .i64 m.n2, .int .i64 m.n3, .int .i64 m.n4, .int .i64 m.n5, .slice A2 m.ents.length c2, .bool m.ok, .int .i64 m.n6])
      have N2 := Lib.hid (hmg.bel ((Below.refl _ _).alloc (Nat.le_refl _) (.cells #[.int .i64 m.kind, .int .i64 m.n0, .int .i64 m.n1, .int .i64 m.n2, .int .i64 m.n3, .int .i64 m.n4, .int .i64 m.n5, .slice A2 m.ents.length c2, .bool m.ok, .int .i64 m.n6] 24)))
      have HCK := Lib.hid hck
      have HE := Lib.hid hen
      have HAw := Lib.hid (HA.out.bel BW.out)
      clear b2 hmg hck hen hnp HPOST9
      go_wp2_with fail
      refine (wawake_any _).mono ?_
      rintro e w4 ⟨rfl, b4⟩
      have X4 := Lib.hid (X2.out.bel b4)
      have N4 := Lib.hid (N2.out.bel b4)
      have A4 := Lib.hid (HAw.out.bel b4)
      have B4 := Lib.hid (BW.out.trans (b4.mono BW.out.size))
      clear b4
      have y0 : w4.cell? ⟨w2.heap.size, 0, none⟩ = some (.int .i64 m.kind) := X4.out.cell 0
      have y1 : w4.cell? ⟨w2.heap.size, 1, none⟩ = some (.int .i64 m.n0) := X4.out.cell 1
      have y2 : w4.cell? ⟨w2.heap.size, 2, none⟩ = some (.int .i64 m.n1) := X4.out.cell 2
      have y3 : w4.cell? ⟨w2.heap.size, 3, none⟩ = some (.int .i64 m.n2) := X4.out.cell 3
      have y4 : w4.cell? ⟨w2.heap.size, 4, none⟩ = some (.int .i64 m.n3) := X4.out.cell 4
      have y5 : w4.cell? ⟨w2.heap.size, 5, none⟩ = some (.int .i64 m.n4) := X4.out.cell 5
      have y6 : w4.cell? ⟨w2.heap.size, 6, none⟩ = some (.int .i64 m.n5) := X4.out.cell 6
      have y7 : w4.cell? ⟨w2.heap.size, 7, none⟩ = some (.slice A2 m.ents.length c2) := X4.out.cell 7
      have y8 : w4.cell? ⟨w2.heap.size, 8, none⟩ = some (.bool m.ok) := X4.out.cell 8
      have y9 : w4.cell? ⟨w2.heap.size, 9, none⟩ = some (.int .i64 m.n6) := X4.out.cell 9
      have RC := rcheck_any m A2 m.ents.length c2 w4 N4.out
      rw [HCK.out, show ((0 : Nat) : Int) = 0 from rfl] at RC
      unfold msgC at RC
      have RC := Lib.hid RC
      go_wp2_with fail
      refine RC.out.mono ?_
      rintro e w5 ⟨rfl, b5⟩
      have X5 := Lib.hid (X4.out.bel b5)
      have N5 := Lib.hid (N4.out.bel b5)
      have A5 := Lib.hid (A4.out.bel b5)
      have B5 := Lib.hid (B4.out.trans (b5.mono B4.out.size))
      clear b5 y0 y1 y2 y3 y4 y5 y6 y7 y8 y9
      have y0 : w5.cell? ⟨w2.heap.size, 0, none⟩ = some (.int .i64 m.kind) := X5.out.cell 0
      have y1 : w5.cell? ⟨w2.heap.size, 1, none⟩ = some (.int .i64 m.n0) := X5.out.cell 1
      have y2 : w5.cell? ⟨w2.heap.size, 2, none⟩ = some (.int .i64 m.n1) := X5.out.cell 2
      have y3 : w5.cell? ⟨w2.heap.size, 3, none⟩ = some (.int .i64 m.n2) := X5.out.cell 3
      have y4 : w5.cell? ⟨w2.heap.size, 4, none⟩ = some (.int .i64 m.n3) := X5.out.cell 4
      have y5 : w5.cell? ⟨w2.heap.size, 5, none⟩ = some (.int .i64 m.n4) := X5.out.cell 5
      have y6 : w5.cell? ⟨w2.heap.size, 6, none⟩ = some (.int .i64 m.n5) := X5.out.cell 6
      have y7 : w5.cell? ⟨w2.heap.size, 7, none⟩ = some (.slice A2 m.ents.length c2) := X5.out.cell 7
      have y8 : w5.cell? ⟨w2.heap.size, 8, none⟩ = some (.bool m.ok) := X5.out.cell 8
      have y9 : w5.cell? ⟨w2.heap.size, 9, none⟩ = some (.int .i64 m.n6) := X5.out.cell 9
      have RE := renc_any m A2 m.ents.length c2 w5 N5.out HCK.out
      rw [HE.out, ← HN.out] at RE
      unfold msgC at RE
      have RE := Lib.hid RE
      go_wp2_with fail
      refine RE.out.mono ?_
      rintro e w6 ⟨⟨A6, c6, rfl, hc6, s6, _⟩, b6⟩
      have A6' := Lib.hid (A5.out.bel b6)
      have S6 := Lib.hid s6
      have B6 := Lib.hid (B5.out.trans (b6.mono B5.out.size))
      clear b6 s6 y0 y1 y2 y3 y4 y5 y6 y7 y8 y9
      have SM := same_u8 A A6 n n c c6 l l HN.out HN.out w6 A6'.out S6.out (by omega) (by omega)
      rw [show decide (l = l) = true by simp] at SM
      have SM := Lib.hid SM
      go_wp2_with fail
      refine SM.out.mono ?_
      rintro e w7 ⟨rfl, b7⟩
      have B7 := Lib.hid (B6.out.trans (b7.mono B6.out.size))
      clear b7
      go_wp2_with fail
      go_ret
      exact ⟨rfl, B7.out⟩
  · have HPOST9 : ¬ l.length ≤ 900 := by have := HN.out; omega
    rw [if_neg HPOST9] at hpost
    have hpost : e = .returned (.tuple #[.agg #[.int .i64 0, .int .i64 0, .int .i64 0, .int .i64 0, .int .i64 0, .int .i64 0, .int .i64 0, .slice none 0 0, .bool false, .int .i64 0], .int .i64 2]) := hpost
    subst hpost
    have i1 : (900 : Int) < (n : Int) := by omega
    clear HPOST9
    have BW := Lib.hid ((B1.out.trans (b2.mono z1)).alloc (Nat.le_trans z1 b2.size) (.cells #[.int .i64 0, .int .i64 0, .int .i64 0, .int .i64 0, .int .i64 0, .int .i64 0, .int .i64 0, .slice none 0 0, .bool false, .int .i64 0] 24))
    have X2 := Lib.hid (Bk.new w2 24 #[.int .i64 0, .int .i64 0, .int .i64 0, .int .i64 0, .int .i64 0, .int .i64 0, .int .i64 0, .slice none 0 0, .bool false, .int .i64 0])
    clear b2
    go_wp2_with fail
    refine (wawake_any _).mono ?_
    rintro e w4 ⟨rfl, b4⟩
    have X4 := X2.out.bel b4
    have y0 : w4.cell? ⟨w2.heap.size, 0, none⟩ = some (.int .i64 0) := X4.cell 0
    have y1 : w4.cell? ⟨w2.heap.size, 1, none⟩ = some (.int .i64 0) := X4.cell 1
    have y2 : w4.cell? ⟨w2.heap.size, 2, none⟩ = some (.int .i64 0) := X4.cell 2
    have y3 : w4.cell? ⟨w2.heap.size, 3, none⟩ = some (.int .i64 0) := X4.cell 3
    have y4 : w4.cell? ⟨w2.heap.size, 4, none⟩ = some (.int .i64 0) := X4.cell 4
    have y5 : w4.cell? ⟨w2.heap.size, 5, none⟩ = some (.int .i64 0) := X4.cell 5
    have y6 : w4.cell? ⟨w2.heap.size, 6, none⟩ = some (.int .i64 0) := X4.cell 6
    have y7 : w4.cell? ⟨w2.heap.size, 7, none⟩ = some (.slice none 0 0) := X4.cell 7
    have y8 : w4.cell? ⟨w2.heap.size, 8, none⟩ = some (.bool false) := X4.cell 8
    have y9 : w4.cell? ⟨w2.heap.size, 9, none⟩ = some (.int .i64 0) := X4.cell 9
    have B4 := Lib.hid (BW.out.trans (b4.mono BW.out.size))
    clear b4 X4
    go_wp2_with fail
    refine (wsame_any zM none none 0 0 0 0 w4 (es_nil w4) (es_nil w4)).mono ?_
    rintro e w5 ⟨rfl, b5⟩
    have B5 := Lib.hid (B4.out.trans (b5.mono B4.out.size))
    clear b5
    go_wp2_with fail
    go_ret
    exact ⟨rfl, B5.out⟩
end Go.Proofs.Ytgifbjomaenlnaa
