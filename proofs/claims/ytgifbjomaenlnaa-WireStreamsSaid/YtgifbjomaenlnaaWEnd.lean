/- end: does the reading end so? Condition: the bytes lie in memory. -/
import Derived.Test.YtgifbjomaenlnaaWFirst
namespace Go.Proofs.Ytgifbjomaenlnaa
open Go.RowKit

set_option maxRecDepth 100000 in
set_option maxHeartbeats 4000000 in
theorem wend_any (A : Option Addr) (n c : Nat) (l : List Nat) (e r : Nat) (hn : n = l.length) (hnc : n ≤ c) (hz : n ≤ 20000) (hl : ∀ x ∈ l, x < 256) (hno : firstN l = none) (he : e = firstE l) (hr : r = if firstE l = 0 then l.length else 0) (w : World) (hA : Seg w A (u8s l)) :
    Calls Try.prog 21 #[.slice A n c, .int .i64 (e : Int), .int .i64 (r : Int)] w fun x w' => x = .returned (.bool true) ∧ Below w.heap.size w w' := by
  obtain ⟨i0, hi0, hz0, hz1, hz2⟩ := info_parts info5
  have HL := Lib.hid hl
  have HN := Lib.hid hn
  have HA := Lib.hid hA
  have HNO := Lib.hid hno
  by_cases h2 : n < 2
  · have i1 : (n : Int) < 2 := by omega
    have hfe : firstE l = 0 := by unfold firstE; rw [if_pos (by omega)]
    rw [hfe] at he hr
    rw [if_pos rfl, ← hn] at hr
    subst he
    subst hr
    clear hl hA hn hno hfe
    rw [show ((0 : Nat) : Int) = 0 from rfl]
    go_enter Try.func21, Try.ntmps21
    go_wp2_with fail
    go_ret
    exact ⟨rfl, Below.refl _ _⟩
  · obtain ⟨x, y, q, rfl⟩ : ∃ x y q, l = x :: y :: q := by
      match l, HN.out with
      | [], h => simp at h; omega
      | [x], h => simp at h; omega
      | x :: y :: q, _ => exact ⟨x, y, q, rfl⟩
    have i1 : ¬ (n : Int) < 2 := by omega
    have hx := HL.out x (by simp)
    have hy := HL.out y (by simp)
    obtain ⟨b, off, rfl, hbl, hc⟩ := HA.out (by simp [u8s])
    have y0 : w.cell? ⟨b, off, none⟩ = some (.int .u8 (x : Int)) := by have := hc 0 (by simp [u8s]); exact this
    have y1 : w.cell? ⟨b, off + 1, none⟩ = some (.int .u8 (y : Int)) := by have := hc 1 (by simp [u8s]); exact this
    obtain ⟨sz, hsz⟩ : ∃ sz, sz = 256 * x + y := ⟨_, rfl⟩
    have o1 : 256 * (x : Int) + (y : Int) = (sz : Int) := by omega
    have HSZ := Lib.hid (show sizeN (x :: y :: q) = sz by rw [hsz]; rfl)
    have hszb : sz < 65536 := by omega
    have i3 : (0 : Int) < (n : Int) := by omega
    have i4 : (1 : Int) < (n : Int) := by omega
    have HLEN := Lib.hid (show 2 ≤ (x :: y :: q).length by simp)
    clear hsz hc hno hl hA hn
    by_cases h9 : 900 < sz
    · have i5 : (900 : Int) < (sz : Int) := by omega
      have hfe : firstE (x :: y :: q) = 2 := by unfold firstE; rw [if_neg (by have := HLEN.out; omega), if_pos (by rw [HSZ.out]; exact h9)]
      rw [hfe] at he hr
      rw [if_neg (by omega)] at hr
      subst he
      subst hr
      clear hfe
      generalize x :: y :: q = l at *
      rw [show ((0 : Nat) : Int) = 0 from rfl, show ((2 : Nat) : Int) = 2 from rfl]
      go_enter Try.func21, Try.ntmps21
      go_upto_region 3 with fail
      go_quiet (fail)
      have HBQ := Lib.hid (below_drewN (Below.refl w.heap.size w) nq)
      generalize w.drewN nq = wq at *
      go_wp2_with fail
      go_ret
      exact ⟨rfl, HBQ.out⟩
    · have i5 : ¬ (900 : Int) < (sz : Int) := by omega
      by_cases hlen : n < sz + 2
      · have i6 : (n : Int) < 2 + (sz : Int) := by omega
        have hfe : firstE (x :: y :: q) = 0 := by unfold firstE; rw [if_neg (by have := HLEN.out; omega), if_neg (by rw [HSZ.out]; exact h9), if_pos (by rw [HSZ.out]; have := HN.out; omega)]
        rw [hfe] at he hr
        rw [if_pos rfl, ← HN.out] at hr
        subst he
        subst hr
        clear hfe
        generalize x :: y :: q = l at *
        rw [show ((0 : Nat) : Int) = 0 from rfl]
        go_enter Try.func21, Try.ntmps21
        go_upto_region 3 with fail
        go_quiet (fail)
        have HBQ := Lib.hid (below_drewN (Below.refl w.heap.size w) nq)
        generalize w.drewN nq = wq at *
        go_wp2_with fail
        go_ret
        exact ⟨rfl, HBQ.out⟩
      · have i6 : ¬ (n : Int) < 2 + (sz : Int) := by omega
        have i7 : 2 + (sz : Int) ≤ (c : Int) := by omega
        have hfit : fitB (x :: y :: q) = true := fit_mk HLEN.out (by rw [HSZ.out]; omega) (by rw [HSZ.out]; have := HN.out; omega)
        have hfe : firstE (x :: y :: q) = 3 := by
          unfold firstE
          rw [if_neg (by have := HLEN.out; omega), if_neg (by rw [HSZ.out]; exact h9), if_neg (by rw [HSZ.out]; have := HN.out; omega), if_pos HNO.out]
        have HBP := Lib.hid (show bodyP (((x :: y :: q).drop 2).take sz) = none by
          have h := HNO.out
          unfold firstN at h
          rw [if_pos hfit, HSZ.out] at h
          cases hb : bodyP (((x :: y :: q).drop 2).take sz) with
          | none => rfl
          | some m => rw [hb] at h; cases h)
        rw [hfe] at he hr
        rw [if_neg (by omega)] at hr
        subst he
        subst hr
        clear hfe hfit HNO
        generalize x :: y :: q = l at *
        rw [show ((0 : Nat) : Int) = 0 from rfl, show ((3 : Nat) : Int) = 3 from rfl]
        go_enter Try.func21, Try.ntmps21
        go_upto_region 3 with fail
        go_quiet (fail)
        have HBQ := Lib.hid (below_drewN (Below.refl w.heap.size w) nq)
        have HAQ := Lib.hid (HA.out.bel (below_drewN (Below.refl w.heap.size w) nq))
        generalize w.drewN nq = wq at *
        clear y0 y1 o1
        obtain ⟨A3, hA3⟩ : ∃ A3, A3 = if c = 2 then some (⟨b, off, none⟩ : Addr) else (some (⟨b, off, none⟩ : Addr)).map (·.add 2) := ⟨_, rfl⟩
        have hsl : ∀ w : World, (Instr.sliceAt 26 (.slice (some ⟨b, off, none⟩) n c) (some (.int .i64 2)) (some (.int .i64 (2 + (sz : Int)))) none).run Try.prog w = .ok (.slice A3 sz (c - 2)) w := fun w => by
          have hu : Try.prog.underlying 26 = some (.slice (Try.prog.elem 26)) := by kernel_rfl
          have he : Try.prog.elem 26 = 5 := by kernel_rfl
          obtain ⟨i0, hi0, hz0, hz1, hz2⟩ := info_parts info5
          rw [run_sliceAt_slice (P := Try.prog) w 26 _ _ _ _ hu, run_slice_lh (P := Try.prog) w 26 (some ⟨b, off, none⟩) n c hu .i64 .i64 2 (2 + (sz : Int)) (by omega) (by omega) (by omega), he]
          have hsz5 : (sizeOf 5).run Try.prog w = .ok 1 w := by simp [sizeOf, typeInfo, hi0, hz1]
          rw [hsz5, hA3, show (2 + (sz : Int)).toNat = sz + 2 by omega]
          simp [Result.andThen, sliced]
        have hcut := (HAQ.out.take (sz + 2)).cut 2 c (by rw [List.length_take, u8s_length]; omega)
        have HS3 := Lib.hid (show Seg wq A3 (u8s ((l.drop 2).take sz)) by
          rw [hA3]
          have e : u8s ((l.drop 2).take sz) = ((u8s l).take (sz + 2)).drop 2 := by
            unfold u8s
            rw [← List.map_take, ← List.map_drop, List.drop_take]
            congr 1
          rw [e]
          exact hcut)
        have HLB := Lib.hid (show sz = ((l.drop 2).take sz).length by rw [List.length_take, List.length_drop]; have := HN.out; omega)
        have HLL := Lib.hid (show ∀ z ∈ (l.drop 2).take sz, z < 256 from fun z hz => HL.out z (List.mem_of_mem_drop (List.mem_of_mem_take hz)))
        obtain ⟨lb, hlb⟩ : ∃ lb, lb = (l.drop 2).take sz := ⟨_, rfl⟩
        rw [← hlb] at HS3 HLB HLL HBP
        have hbig := HBQ.out.size
        clear hcut hA3 hlb HA HL HN HSZ HLEN HAQ
        go_wp2_with (at_builtin; refine wpList_append_seg _ rfl (.tmp 53) (.tmp 57) _ rfl wq.heap.size 5 i0 _ 1 Try.underlying26 hi0 hz0 hz1 hz2 rfl _ 0 _ rfl (World.ownsRow_lit wq #[] 0 (Nat.le_refl _) (by decide) rfl) A3 sz (c - 2) (u8s lb) rfl (by rw [u8s_length, ← HLB.out]) (HS3.out.bel ((Below.refl _ _).alloc (Nat.le_refl _) _)) (u8s_one _) (by simp only [maxLen]; omega) (by omega) (by simp only [World.size_alloc]; omega) ?_; intro v1 w1 hown1 hb1; simp only [Nat.zero_add, List.nil_append] at hown1; obtain ⟨A1, c1, rfl, hc1, s1⟩ := own_shape hown1; have S1 := Lib.hid s1; have L1 := Lib.hid (fun a (e : A1 = some a) => own_lt_slice hown1 e); have B1 := Lib.hid (HBQ.out.trans ((((Below.refl wq.heap.size wq).alloc (Nat.le_refl _) (.cells #[] 5)).trans hb1).mono hbig)); clear hown1 hb1 s1)
        refine (dec_any A1 sz c1 lb HLB.out hc1 (by omega) HLL.out w1 S1.out L1.out).mono ?_
        rintro e w2 ⟨b2, hpost⟩
        rw [if_pos (by rw [← HLB.out]; omega), HBP.out] at hpost
        have hpost : e = .returned (.tuple #[.agg #[.int .i64 0, .int .i64 0, .int .i64 0, .int .i64 0, .int .i64 0, .int .i64 0, .int .i64 0, .slice none 0 0, .bool false, .int .i64 0], .int .i64 3]) := hpost
        subst hpost
        have HB2 := Lib.hid ((B1.out.trans (b2.mono B1.out.size)).alloc (Nat.le_trans B1.out.size b2.size) (.cells #[.int .i64 0, .int .i64 0, .int .i64 0, .int .i64 0, .int .i64 0, .int .i64 0, .int .i64 0, .slice none 0 0, .bool false, .int .i64 0] 24))
        clear b2
        go_wp2_with fail
        go_ret
        exact ⟨rfl, HB2.out⟩
end Go.Proofs.Ytgifbjomaenlnaa
