/- The walks of a map's form and of how many blocks are free. Conditions: the map's bytes lie in memory. -/
import Derived.Test.YtpkajmgfechhhaaMapA
namespace Go.Proofs.Ytpkajmgfechhhaa
open Go.RowKit

set_option maxRecDepth 100000 in
set_option maxHeartbeats 1000000 in
theorem check_any (T : Int) (A : Option Addr) (n c : Nat) (l : List Nat) (hn : n = l.length) (hz : n ≤ 140737488355000) (hl : ∀ x ∈ l, x < 256) (w : World) (hS : Seg w A (u8s l)) :
    Calls Try.prog 14 #[.agg #[.int .i64 T, .slice A n c]] w fun e w' => e = .returned (.int .i64 ((chk T l : Nat) : Int)) ∧ Below w.heap.size w w' := by
  have HN := Lib.hid hn
  have hb := (Below.refl w.heap.size w).alloc (Nat.le_refl _) (.cells #[.int .i64 T, .slice A n c] 27)
  have BX := Bk.new w 27 #[.int .i64 T, .slice A n c]
  have y0 := BX.cell 0
  have y1 := BX.cell 1
  have HB := Lib.hid hb
  have HS := Lib.hid (hS.bel hb)
  have HL := Lib.hid hl
  by_cases hT : 0 ≤ T ∧ T ≤ 2048
  · have hin : decide (0 ≤ T ∧ T ≤ 2048) = true := by simpa using hT
    have HI := Lib.hid (fun w => inRange_any T w)
    rw [hin] at HI
    obtain ⟨t, rfl⟩ : ∃ t : Nat, T = (t : Int) := ⟨T.toNat, by omega⟩
    have ht : t ≤ 2048 := by omega
    have HF := Lib.hid (fun w => bytesFor_any t ht w)
    have hck : chk (t : Int) l = if l.length ≠ (t + 7) / 8 then 4 else if spare t l then 4 else 0 := by
      unfold chk
      rw [if_neg (by omega), Int.toNat_natCast]
    have HC := Lib.hid hck
    clear hn hb hS hl hin hT hck BX
    by_cases hlen : n = (t + 7) / 8
    · have hne : ((n : Int) != (((t + 7) / 8 : Nat) : Int)) = false := by simp; omega
      have HLen := Lib.hid hlen
      have hn4 : n ≤ 300 := by omega
      have hnt1 : 8 * n ≤ t + 7 := by omega
      have hnt2 : t ≤ 8 * n := by omega
      by_cases hr : t % 8 = 0
      · have hres : chk (t : Int) l = 0 := by rw [HC.out, if_neg (by rw [← HN.out, HLen.out]; simp), spare_even t l (by rw [← HN.out, HLen.out]) hr]; rfl
        have HR := Lib.hid hres
        have hm : (t : Int) % 8 = 0 := by omega
        clear hlen hr HC hres HLen
        generalize (t + 7) / 8 = q at *
        go_enter Try.func14, Try.ntmps14
        go_wp2_with (go_at_call 29; refine (HI.out _).mono ?_; rintro e w2 ⟨rfl, rfl⟩)
        generalize w.alloc (.cells #[.int .i64 (t : Int), .slice A n c] 27) = w1 at *
        go_quiet ((go_at_call 30; exact quiet_left (HF.out _)))
        go_wp2_with fail
        go_ret
        exact ⟨by rw [HR.out]; rfl, below_drewN HB.out _⟩
      · obtain ⟨k, rfl⟩ : ∃ k, n = k + 1 := ⟨n - 1, by omega⟩
        have hk : l.length - 1 < l.length := by rw [← HN.out]; omega
        have hsp := spare_last t l HL.out (by rw [← HN.out, HLen.out]) (by omega) hk
        obtain ⟨b, off, rfl, hbl, _, hc⟩ := HS.out.pick (k := k) (by rw [u8s_length, ← HN.out]; omega)
        rw [u8s_get l k (by rw [← HN.out]; omega)] at hc
        have hkk : l[l.length - 1] = l[k]'(by rw [← HN.out]; omega) := by congr 1; rw [← HN.out]; omega
        rw [hkk] at hsp
        have hres : chk (t : Int) l = if spare t l then 4 else 0 := by rw [HC.out, if_neg (by rw [← HN.out, HLen.out]; simp)]
        rw [hsp] at hres
        have hx := HL.out _ (List.getElem_mem (show k < l.length by rw [← HN.out]; omega))
        generalize l[k]'(by rw [← HN.out]; omega) = X at *
        have hm : (t : Int) % 8 = ((t % 8 : Nat) : Int) := by omega
        have hr8 : t % 8 < 8 := by omega
        have hr0 : (0 : Int) < ((t % 8 : Nat) : Int) := by omega
        generalize t % 8 = r at *
        have hcast : (X : Int) / 2 ^ r = ((X / 2 ^ r : Nat) : Int) := by simp
        by_cases hv : X / 2 ^ r = 0
        · have hb1 : ((X : Int) / 2 ^ r != 0) = false := by rw [hcast, hv]; rfl
          rw [show decide (X / 2 ^ r ≠ 0) = false by simp [hv]] at hres
          have HR := Lib.hid hres
          clear hlen hr HC hres HLen hsp hcast hv hk hkk
          generalize (t + 7) / 8 = q at *
          go_enter Try.func14, Try.ntmps14
          go_wp2_with (go_at_call 29; refine (HI.out _).mono ?_; rintro e w2 ⟨rfl, rfl⟩)
          generalize w.alloc (.cells #[.int .i64 (t : Int), .slice (some ⟨b, off, none⟩) (k + 1) c] 27) = w1 at *
          go_quiet ((go_at_call 30; exact quiet_left (HF.out _)))
          go_wp2_with fail
          go_ret
          exact ⟨by rw [HR.out]; rfl, below_drewN HB.out _⟩
        · have hb1 : ((X : Int) / 2 ^ r != 0) = true := by rw [hcast, bne_iff_ne]; omega
          rw [show decide (X / 2 ^ r ≠ 0) = true by simpa using hv] at hres
          have HR := Lib.hid hres
          clear hlen hr HC hres HLen hsp hcast hv hk hkk
          generalize (t + 7) / 8 = q at *
          go_enter Try.func14, Try.ntmps14
          go_wp2_with (go_at_call 29; refine (HI.out _).mono ?_; rintro e w2 ⟨rfl, rfl⟩)
          generalize w.alloc (.cells #[.int .i64 (t : Int), .slice (some ⟨b, off, none⟩) (k + 1) c] 27) = w1 at *
          go_quiet ((go_at_call 30; exact quiet_left (HF.out _)))
          go_wp2_with fail
          go_ret
          exact ⟨by rw [HR.out]; rfl, below_drewN HB.out _⟩
    · have hne : ((n : Int) != (((t + 7) / 8 : Nat) : Int)) = true := by rw [bne_iff_ne]; omega
      have hres : chk (t : Int) l = 4 := by rw [HC.out, if_pos (by rw [← HN.out]; exact hlen)]
      have HR := Lib.hid hres
      clear hlen HC hres
      generalize (t + 7) / 8 = q at *
      go_enter Try.func14, Try.ntmps14
      go_wp2_with (go_at_call 29; refine (HI.out _).mono ?_; rintro e w2 ⟨rfl, rfl⟩)
      generalize w.alloc (.cells #[.int .i64 (t : Int), .slice A n c] 27) = w1 at *
      go_quiet ((go_at_call 30; exact quiet_left (HF.out _)))
      go_wp2_with fail
      go_ret
      exact ⟨by rw [HR.out]; rfl, below_drewN HB.out _⟩
  · have hin : decide (0 ≤ T ∧ T ≤ 2048) = false := by simpa using hT
    have HI := Lib.hid (fun w => inRange_any T w)
    rw [hin] at HI
    have hck : chk T l = 1 := by
      unfold chk
      rw [if_pos (by omega)]
    have HC := Lib.hid hck
    clear hn hb hS hl hin hT hck BX
    go_enter Try.func14, Try.ntmps14
    go_wp2_with (go_at_call 29; refine (HI.out _).mono ?_; rintro e w2 ⟨rfl, rfl⟩)
    go_ret
    exact ⟨by rw [HC.out]; rfl, HB.out⟩
theorem chk_le (T : Int) (l : List Nat) : chk T l ≤ 4 := by unfold chk; split <;> (try split) <;> (try split) <;> omega
/-- A map in form lies in memory: T blocks, f says which are in use. -/
structure MapIn (w : World) (T : Nat) (f : Nat → Bool) (A : Option Addr) (n c : Nat) : Prop where
  le : T ≤ 2048
  len : n = (T + 7) / 8
  flat : flat f T
  seg : Seg w A (u8s (pk f n))
  cap : n ≤ c
theorem MapIn.bel {w w' : World} {T : Nat} {f : Nat → Bool} {A : Option Addr} {n c : Nat} (h : MapIn w T f A n c) (hb : Below w.heap.size w w') : MapIn w' T f A n c := ⟨h.le, h.len, h.flat, h.seg.bel hb, h.cap⟩
theorem MapIn.check {w : World} {T : Nat} {f : Nat → Bool} {A : Option Addr} {n c : Nat} (h : MapIn w T f A n c) :
    Calls Try.prog 14 #[.agg #[.int .i64 (T : Int), .slice A n c]] w fun e w' => e = .returned (.int .i64 0) ∧ Below w.heap.size w w' := by
  have hc := check_any (T : Int) A n c (pk f n) (pk_length f n).symm (by have := h.le; have := h.len; omega) (pk_lt f n) w h.seg
  have h0 := (pk_chk T f h.flat h.le).1
  rw [← h.len] at h0
  rw [h0] at hc
  exact hc
set_option maxRecDepth 100000 in
theorem free_ok (T : Nat) (f : Nat → Bool) (A : Option Addr) (n c : Nat) (w : World) (h : MapIn w T f A n c) :
    Calls Try.prog 10 #[.agg #[.int .i64 (T : Int), .slice A n c]] w fun e w' => e = .returned (.tuple #[.int .i64 ((frees f T).length : Int), .int .i64 0]) ∧ Below w.heap.size w w' := by
  have hb := (Below.refl w.heap.size w).alloc (Nat.le_refl _) (.cells #[.int .i64 (T : Int), .slice A n c] 27)
  have HB := Lib.hid hb
  have HM := Lib.hid (h.bel hb)
  have y0 := (Bk.new w 27 #[.int .i64 (T : Int), .slice A n c]).cell 0
  have y1 := (Bk.new w 27 #[.int .i64 (T : Int), .slice A n c]).cell 1
  have BX := Lib.hid (Bk.new w 27 #[.int .i64 (T : Int), .slice A n c])
  clear h hb
  go_enter Try.func10, Try.ntmps10
  go_wp2_with fail
  refine (HM.out.check).mono ?_
  rintro e w2 ⟨rfl, b2⟩
  have B2 := Lib.hid (below_step HB.out b2)
  have M2 := Lib.hid (HM.out.bel b2)
  have z0 := (BX.out.bel b2).cell 0
  have z1 := (BX.out.bel b2).cell 1
  clear b2 y0 y1
  go_wp2_with fail
  refine (mfree_any T A c n f M2.out.len M2.out.le M2.out.flat _ M2.out.seg).mono ?_
  rintro e w3 ⟨rfl, b3⟩
  have B3 := Lib.hid (below_step B2.out b3)
  clear b3 z0 z1
  go_wp2_with fail
  go_ret2
  exact ⟨rfl, B3.out⟩
set_option maxRecDepth 100000 in
theorem free_no (T : Int) (A : Option Addr) (n c E : Nat) (l : List Nat) (hn : n = l.length) (hz : n ≤ 140737488355000) (hl : ∀ x ∈ l, x < 256) (w : World) (hS : Seg w A (u8s l)) (hE : chk T l = E) (h0 : E ≠ 0) :
    Calls Try.prog 10 #[.agg #[.int .i64 T, .slice A n c]] w fun e w' => e = .returned (.tuple #[.int .i64 0, .int .i64 (E : Int)]) ∧ Below w.heap.size w w' := by
  have hb := (Below.refl w.heap.size w).alloc (Nat.le_refl _) (.cells #[.int .i64 T, .slice A n c] 27)
  have HB := Lib.hid hb
  have HC := Lib.hid (check_any T A n c l hn hz hl _ (hS.bel hb))
  rw [hE] at HC
  have hle := chk_le T l
  rw [hE] at hle
  have hne : ((E : Int) != 0) = true := by rw [bne_iff_ne]; omega
  clear hb hn hl hS hE
  go_enter Try.func10, Try.ntmps10
  go_wp2_with fail
  refine (HC.out).mono ?_
  rintro e w2 ⟨rfl, b2⟩
  have B2 := Lib.hid (below_step HB.out b2)
  clear b2
  go_wp2_with fail
  go_ret2
  exact ⟨rfl, B2.out⟩
end Go.Proofs.Ytpkajmgfechhhaa
