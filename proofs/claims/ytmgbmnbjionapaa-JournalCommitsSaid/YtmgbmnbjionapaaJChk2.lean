/- What a journal answers of a list of writes that the disk could take. Conditions: the journal, its disk and the list lie in memory. -/
import Derived.Test.YtmgbmnbjionapaaJChk
namespace Go.Proofs.Ytmgbmnbjionapaa
open Go.RowKit

/-- A write into the journal's own area, or a block that is written twice. -/
def BW.within (x : BW) (b s : Nat) : Prop := (b : Int) ≤ x.n ∧ x.n < (b : Int) + ((s : Int) + 2)
instance (x : BW) (b s : Nat) : Decidable (x.within b s) := by unfold BW.within; infer_instance
def frm (ws : List BW) (b s : Nat) : Prop := ∃ k, ∃ hk : k < ws.length, (ws[k]).within b s ∨ ∃ j, ∃ hj : j < k, (ws[j]).n = (ws[k]).n
def tk (ws : List BW) (k i : Nat) : Bool := (ws.take k).any fun x => x.n == (i : Int)
theorem tk_succ (ws : List BW) (k i : Nat) (hk : k < ws.length) : tk ws (k + 1) i = (tk ws k i || (ws[k]).n == (i : Int)) := by
  unfold tk
  rw [List.take_succ_eq_append_getElem hk, List.any_append]
  simp
theorem tk_iff (ws : List BW) (k i : Nat) (hk : k ≤ ws.length) : tk ws k i = true ↔ ∃ j, ∃ hj : j < k, (ws[j]).n = (i : Int) := by
  unfold tk
  rw [List.any_eq_true]
  constructor
  · rintro ⟨x, hx, he⟩
    obtain ⟨j, hj, rfl⟩ := List.mem_iff_getElem.1 hx
    rw [List.length_take] at hj
    refine ⟨j, by omega, ?_⟩
    rw [List.getElem_take] at he
    simpa using he
  · rintro ⟨j, hj, he⟩
    refine ⟨ws[j], ?_, by simpa using he⟩
    rw [List.mem_iff_getElem]
    exact ⟨j, by rw [List.length_take]; omega, by rw [List.getElem_take]⟩
def zTk : Array Value := (List.replicate 2048 (Value.bool false)).toArray
theorem info_tk : (Try.prog.info? 118).map (fun i => (i.zero, i.size, i.bytes)) = some (some (.agg zTk), 2048, 2048) := by kernel_rfl
theorem zero_tk (w : World) : (zeroValue 118).run Try.prog w = .ok (.agg zTk) w := by
  obtain ⟨i0, hi0, hz0, _, _⟩ := info_parts info_tk
  simp [zeroValue, typeInfo, hi0, hz0]
def Tk (w : World) (g : Nat) (F : Nat → Bool) : Prop := ∃ cs, Bk w g 118 cs ∧ cs.size = 2048 ∧ ∀ i, i < 2048 → cs[i]? = some (.bool (F i))
theorem Tk.new (w : World) : Tk (w.alloc (.cells zTk 118)) w.heap.size (fun _ => false) := by
  refine ⟨zTk, Bk.new w _ _, by unfold zTk; rw [List.size_toArray, List.length_replicate], fun i hi => ?_⟩
  unfold zTk
  rw [List.getElem?_toArray, List.getElem?_replicate, if_pos hi]
theorem Tk.lt {w : World} {g : Nat} {F : Nat → Bool} (h : Tk w g F) : g < w.heap.size := by obtain ⟨cs, hb, _⟩ := h; exact hb.lt
theorem Tk.cell {w : World} {g : Nat} {F : Nat → Bool} (h : Tk w g F) (i : Nat) (hi : i < 2048) : w.cell? ⟨g, i, none⟩ = some (.bool (F i)) := by
  obtain ⟨cs, hb, _, hc⟩ := h
  rw [hb.cell i, hc i hi]
theorem Tk.frozen {w : World} {g : Nat} {F : Nat → Bool} (h : Tk w g F) (i : Nat) : w.frozen? ⟨g, i, none⟩ = false := by
  obtain ⟨cs, hb, _⟩ := h
  exact hb.frozen i
theorem Tk.bel {w w' : World} {g : Nat} {F : Nat → Bool} (h : Tk w g F) (hb : Below w.heap.size w w') : Tk w' g F := by
  obtain ⟨cs, hk, hs, hc⟩ := h
  exact ⟨cs, hk.bel hb, hs, hc⟩
theorem Tk.put {w : World} {g : Nat} {F F' : Nat → Bool} (h : Tk w g F) (i : Nat) (hi : i < 2048) (hF : ∀ k, k < 2048 → F' k = (F k || k == i)) : Tk (w.setCell ⟨g, i, none⟩ (.bool true)) g F' := by
  obtain ⟨cs, hb, hs, hc⟩ := h
  refine ⟨_, hb.put i _, by simpa using hs, fun k hk => ?_⟩
  rw [Array.getElem?_setIfInBounds, hF k hk]
  by_cases e : i = k
  · subst e
    simp [hs, hi]
  · rw [if_neg e, hc k hk]
    have : (k == i) = false := by simp; omega
    rw [this, Bool.or_false]
set_option maxRecDepth 100000 in
set_option maxHeartbeats 4000000 in
theorem jcheck_rest (q p b s T : Nat) (S : Nat → Prop) (D : DM) (A : Option Addr) (n c : Nat) (ws : List BW) (w : World) (hJ : Bk w q 101 (JrC p b s)) (hD : Dsk w S p T D) (hn : n = ws.length) (hs : n ≤ s) (hW : BsAt w A ws) (hz : n ≤ 1000) (hs1 : s ≤ 1000) (hb1 : b ≤ 10000) (hT : T ≤ 2048) (hok : ∀ x ∈ ws, ¬ x.bad T) (r : Nat) (h4 : frm ws b s → r = 4) (h0 : ¬ frm ws b s → r = 0) :
    Calls Try.prog 57 #[.pointer (some ⟨q, 0, none⟩), .slice A n c] w fun e w' => e = .returned (.int .i64 (r : Int)) ∧ Below w.heap.size w w' := by
  have j2 := hJ.cell 2
  simp only [JrC, List.getElem?_toArray, List.getElem?_cons_zero, List.getElem?_cons_succ] at j2
  have hI : ¬ (s : Int) < (n : Int) := by omega
  have hzt := zero_tk
  have HJ := Lib.hid hJ
  have HD := Lib.hid hD
  have HN := Lib.hid hn
  have HW := Lib.hid hW
  have HOK := Lib.hid hok
  have H4 := Lib.hid h4
  have H0 := Lib.hid h0
  clear hJ hD hn hW hok h4 h0
  go_enter Try.func57, Try.ntmps57
  go_wp2_with fail
  go_loopw [20] (fun i wr => ∃ k : Nat, k ≤ n ∧ i = .int .i64 k ∧ Below w.heap.size w wr) (fun i _ => n - (intOf i).toNat)
  case atStart => exact ⟨0, by omega, rfl, Below.refl _ _⟩
  case round =>
    obtain ⟨k, hk, rfl, hb⟩ := hrel
    by_cases hkn : k < n
    · have hkl : k < ws.length := by rw [← HN.out]; exact hkn
      have hkI : (k : Int) < (n : Int) := by omega
      have hk0 : (0 : Int) ≤ (k : Int) := by omega
      obtain ⟨b1, off, Ad, c1, rfl, hb1, c0, c1', _⟩ := (HW.out.bel hb).at' k hkl
      have hnb := HOK.out _ (List.getElem_mem hkl)
      unfold BW.bad at hnb
      obtain ⟨x, hx⟩ : ∃ x, x = ws[k] := ⟨_, rfl⟩
      rw [← hx] at c0 hnb
      have c1'' : wr.cell? ⟨b1, off + k * 2 + 1, none⟩ = some (.slice Ad x.l.length c1) := by rw [hx]; exact c1'
      obtain ⟨w5, hw5⟩ : ∃ w5, w5 = wr.alloc (.cells #[.int .i64 x.n, .slice Ad x.l.length c1] 76) := ⟨_, rfl⟩
      have B5 : Below wr.heap.size wr w5 := by rw [hw5]; exact (Below.refl _ _).alloc (Nat.le_refl _) _
      have X5 : Bk w5 wr.heap.size 76 #[.int .i64 x.n, .slice Ad x.l.length c1] := by rw [hw5]; exact Bk.new wr _ _
      have HB5 := Lib.hid (below_step hb B5)
      have J5 := (HJ.out.bel HB5.out).cell 0
      have x0 := X5.cell 0
      have x1 := X5.cell 1
      simp only [JrC, List.getElem?_toArray, List.getElem?_cons_zero, List.getElem?_cons_succ] at J5 x0 x1
      have CB := Lib.hid (fun m => ((HD.out.bel HB5.out).drewN m).blocks)
      have HWW := Lib.hid hw5
      have d1 : decide (x.n < 0) = false := decide_eq_false (by omega)
      have d2 : decide ((T : Int) ≤ x.n) = false := decide_eq_false (by omega)
      have d3 : ((x.l.length : Int) != 256) = false := by rw [bne_eq_false_iff_eq]; omega
      clear c1' hx hw5 B5 X5 hb hnb
      go_upto_region 6 with fail
      rw [← HWW.out]
      go_quiet ((go_at_call 21; exact Calls.quiet_of_same ((CB.out _).mono fun _ _ ⟨h1, h2⟩ => ⟨h1, h2.symm⟩)))
      have HB6 := Lib.hid (below_drewN HB5.out nq)
      go_wp2_with fail
      exact ⟨⟨k + 1, by omega, by go_num, HB6.out⟩, by simp [intOf]; omega⟩
    · obtain rfl : k = n := by omega
      have hkk : ¬ (k : Int) < (k : Int) := by omega
      obtain ⟨w7, hw7⟩ : ∃ w7, w7 = wr.alloc (.cells zTk 118) := ⟨_, rfl⟩
      obtain ⟨gT, hgT⟩ : ∃ gT, gT = wr.heap.size := ⟨_, rfl⟩
      have HTK := Lib.hid (show Tk w7 gT (fun _ => false) by rw [hw7, hgT]; exact Tk.new wr)
      have HB7 := Lib.hid (show Below w.heap.size w w7 by rw [hw7]; exact hb.alloc hb.size _)
      have hgw : w.heap.size ≤ gT := by rw [hgT]; exact hb.size
      have HW7 := Lib.hid hw7
      have HGT := Lib.hid hgT
      obtain ⟨wo, hwo⟩ : ∃ wo : World, wo = wr := ⟨_, rfl⟩
      rw [← hwo] at HW7 HGT
      rw [← hwo]
      clear hw7 hgT hb hwo
      go_upto_region 10 with fail
      rw [← HW7.out, ← HGT.out]
      go_wp2_with fail
      go_loopw [46] (fun i wq => ∃ j : Nat, j ≤ k ∧ i = .int .i64 j ∧ (∀ m (hm : m < ws.length), m < j → ¬ (ws[m]).within b s ∧ ∀ l (hl : l < m), (ws[l]).n ≠ (ws[m]).n) ∧ Tk wq gT (tk ws j) ∧ Below w.heap.size w wq) (fun i _ => k - (intOf i).toNat)
      case atStart => exact ⟨0, by omega, rfl, fun m _ hm => by omega, HTK.out, HB7.out⟩
      case round =>
        obtain ⟨j, hj, rfl, hall, htk, hb⟩ := hrel
        by_cases hjk : j < k
        · have hjl : j < ws.length := by rw [← HN.out]; exact hjk
          have hjI : (j : Int) < (k : Int) := by omega
          have hj0 : (0 : Int) ≤ (j : Int) := by omega
          obtain ⟨b1, off, Ad, c1, rfl, hb1, c0, c1', _⟩ := (HW.out.bel hb).at' j hjl
          have hnb := HOK.out _ (List.getElem_mem hjl)
          unfold BW.bad at hnb
          obtain ⟨m, hm⟩ : ∃ m : Nat, (ws[j]).n = (m : Int) := ⟨(ws[j]).n.toNat, by omega⟩
          obtain ⟨L, hL⟩ : ∃ L, L = (ws[j]).l.length := ⟨_, rfl⟩
          rw [hm] at c0 hnb
          rw [← hL] at c1' hnb
          have hmT : m < 2048 := by omega
          have hmI : (m : Int) < 2048 := by omega
          have hm0 : (0 : Int) ≤ (m : Int) := by omega
          obtain ⟨w5, hw5⟩ : ∃ w5, w5 = wr.alloc (.cells #[.int .i64 (m : Int), .slice Ad L c1] 76) := ⟨_, rfl⟩
          have B5 : Below wr.heap.size wr w5 := by rw [hw5]; exact (Below.refl _ _).alloc (Nat.le_refl _) _
          have X5 : Bk w5 wr.heap.size 76 #[.int .i64 (m : Int), .slice Ad L c1] := by rw [hw5]; exact Bk.new wr _ _
          have HB5 := Lib.hid (below_step hb B5)
          have T5 := Lib.hid (htk.bel B5)
          have J5a := (HJ.out.bel HB5.out).cell 1
          have J5b := (HJ.out.bel HB5.out).cell 2
          have x0 := X5.cell 0
          have x1 := X5.cell 1
          simp only [JrC, List.getElem?_toArray, List.getElem?_cons_zero, List.getElem?_cons_succ] at J5a J5b x0 x1
          have HM := Lib.hid hm
          have HALL := Lib.hid hall
          have HWW := Lib.hid hw5
          clear hm hL hall htk hb hnb hw5 B5 X5
          go_upto_region 13 with fail
          rw [← HWW.out]
          by_cases ha : b ≤ m
          · have d1 : decide (b ≤ m) = true := decide_eq_true ha
            by_cases hb2 : (m : Int) < (b : Int) + ((s : Int) + 2)
            · have d2 : decide ((m : Int) < (b : Int) + ((s : Int) + 2)) = true := decide_eq_true hb2
              have HR := Lib.hid (H4.out ⟨j, hjl, .inl (by unfold BW.within; rw [HM.out]; exact ⟨by omega, hb2⟩)⟩)
              clear ha hb2
              go_quiet ((go_at_call 35; exact Calls.quiet_of_same ((area_any (s : Int) ⟨by omega, by omega⟩ _).mono fun _ _ ⟨h1, h2⟩ => ⟨h1, h2.symm⟩)))
              have HB6 := Lib.hid (below_drewN HB5.out nq)
              go_wp2_with fail
              go_ret
              exact ⟨by rw [HR.out]; rfl, HB6.out⟩
            · have d2 : decide ((m : Int) < (b : Int) + ((s : Int) + 2)) = false := decide_eq_false hb2
              have HNW := Lib.hid (show ¬ (ws[j]).within b s from fun h => by unfold BW.within at h; rw [HM.out] at h; exact hb2 h.2)
              clear ha hb2
              go_quiet ((go_at_call 35; exact Calls.quiet_of_same ((area_any (s : Int) ⟨by omega, by omega⟩ _).mono fun _ _ ⟨h1, h2⟩ => ⟨h1, h2.symm⟩)))
              have HB6 := Lib.hid (below_drewN HB5.out nq)
              have T6 := Lib.hid (T5.out.bel (below_drewN (Below.refl _ _) nq))
              have y0 : (w5.drewN nq).cell? ⟨wr.heap.size, 0, none⟩ = some (.int .i64 (m : Int)) := x0
              have t0 := T6.out.cell m (by omega)
              have tf := T6.out.frozen m
              clear x0 x1 J5a J5b HB5 T5
              generalize w5.drewN nq = w6 at *
              cases htk : tk ws j m with
              | true =>
                have HR := Lib.hid (H4.out ⟨j, hjl, .inr (by obtain ⟨i, hi, he⟩ := (tk_iff ws j m (by omega)).1 htk; exact ⟨i, hi, by rw [he, ← HM.out]⟩)⟩)
                rw [htk] at t0
                clear htk
                go_wp2_with fail
                go_ret
                exact ⟨by rw [HR.out]; rfl, HB6.out⟩
              | false =>
                have HNX := Lib.hid (show ∀ i (hi : i < ws.length), i < j + 1 → ¬ (ws[i]).within b s ∧ ∀ l (hl : l < i), (ws[l]).n ≠ (ws[i]).n from fun i hi hij => by
                  by_cases e : i = j
                  · subst e
                    refine ⟨HNW.out, fun l hl he => ?_⟩
                    have : tk ws i m = true := (tk_iff ws i m (by omega)).2 ⟨l, hl, by rw [he]; exact HM.out⟩
                    rw [htk] at this; cases this
                  · exact HALL.out i hi (by omega))
                have HTP := Lib.hid (T6.out.put (F' := tk ws (j + 1)) m (by omega) (fun i _ => by
                  rw [tk_succ ws j i hjl, HM.out]
                  congr 1
                  rw [Bool.eq_iff_iff]
                  simp only [beq_iff_eq]
                  omega))
                have HB7' := Lib.hid (HB6.out.setCell (p := ⟨gT, m, none⟩) hgw (.bool true))
                rw [htk] at t0
                clear htk
                go_wp2_with fail
                exact ⟨⟨j + 1, by omega, by go_num, HNX.out, HTP.out, HB7'.out⟩, by simp [intOf]; omega⟩
          · have d1 : decide (b ≤ m) = false := decide_eq_false ha
            have HNW := Lib.hid (show ¬ (ws[j]).within b s from fun h => by unfold BW.within at h; rw [HM.out] at h; omega)
            clear ha
            go_quiet (fail)
            have HB6 := Lib.hid (below_drewN HB5.out nq)
            have T6 := Lib.hid (T5.out.bel (below_drewN (Below.refl _ _) nq))
            have y0 : (w5.drewN nq).cell? ⟨wr.heap.size, 0, none⟩ = some (.int .i64 (m : Int)) := x0
            have t0 := T6.out.cell m (by omega)
            have tf := T6.out.frozen m
            clear x0 x1 J5a J5b HB5 T5
            generalize w5.drewN nq = w6 at *
            cases htk : tk ws j m with
            | true =>
              have HR := Lib.hid (H4.out ⟨j, hjl, .inr (by obtain ⟨i, hi, he⟩ := (tk_iff ws j m (by omega)).1 htk; exact ⟨i, hi, by rw [he, ← HM.out]⟩)⟩)
              rw [htk] at t0
              clear htk
              go_wp2_with fail
              go_ret
              exact ⟨by rw [HR.out]; rfl, HB6.out⟩
            | false =>
              have HNX := Lib.hid (show ∀ i (hi : i < ws.length), i < j + 1 → ¬ (ws[i]).within b s ∧ ∀ l (hl : l < i), (ws[l]).n ≠ (ws[i]).n from fun i hi hij => by
                by_cases e : i = j
                · subst e
                  refine ⟨HNW.out, fun l hl he => ?_⟩
                  have : tk ws i m = true := (tk_iff ws i m (by omega)).2 ⟨l, hl, by rw [he]; exact HM.out⟩
                  rw [htk] at this; cases this
                · exact HALL.out i hi (by omega))
              have HTP := Lib.hid (T6.out.put (F' := tk ws (j + 1)) m (by omega) (fun i _ => by
                rw [tk_succ ws j i hjl, HM.out]
                congr 1
                rw [Bool.eq_iff_iff]
                simp only [beq_iff_eq]
                omega))
              have HB7' := Lib.hid (HB6.out.setCell (p := ⟨gT, m, none⟩) hgw (.bool true))
              rw [htk] at t0
              clear htk
              go_wp2_with fail
              exact ⟨⟨j + 1, by omega, by go_num, HNX.out, HTP.out, HB7'.out⟩, by simp [intOf]; omega⟩
        · obtain rfl : j = k := by omega
          have hjj : ¬ (j : Int) < (j : Int) := by omega
          have HR := Lib.hid (H0.out (fun ⟨m, hm, h⟩ => by
            obtain ⟨h1, h2⟩ := hall m hm (by rw [← HN.out] at hm; omega)
            rcases h with h | ⟨l, hl, h⟩
            · exact h1 h
            · exact h2 l hl h))
          have HBF := Lib.hid hb
          clear hall htk hb
          go_wp2_with fail
          go_ret
          exact ⟨by rw [HR.out]; rfl, HBF.out⟩
end Go.Proofs.Ytmgbmnbjionapaa
