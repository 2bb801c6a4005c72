/- What is wrong with the blocks of a commit, by the reference. Condition: the blocks lie in memory. -/
import Derived.Test.YtmgbmnbjionapaaJComm
namespace Go.Proofs.Ytmgbmnbjionapaa
open Go.RowKit

theorem chk_big {T b s : Nat} {bs : List BW} (h : s < bs.length) : chkN T b s bs = 2 := by unfold chkN; rw [if_pos h]
theorem chk_bad {T b s : Nat} {bs : List BW} (h : ¬ s < bs.length) (h2 : ∃ x ∈ bs, x.bad T) : chkN T b s bs = 1 := by unfold chkN; rw [if_neg h, if_pos h2]
theorem chk_frm {T b s : Nat} {bs : List BW} (h : ¬ s < bs.length) (h2 : ¬ ∃ x ∈ bs, x.bad T) (h3 : frm bs b s) : chkN T b s bs = 4 := by unfold chkN; rw [if_neg h, if_neg h2, if_pos h3]
theorem chk_fine {T b s : Nat} {bs : List BW} (h : ¬ s < bs.length) (h2 : ¬ ∃ x ∈ bs, x.bad T) (h3 : ¬ frm bs b s) : chkN T b s bs = 0 := by unfold chkN; rw [if_neg h, if_neg h2, if_neg h3]
set_option maxRecDepth 100000 in
set_option maxHeartbeats 4000000 in
theorem rcheck_arg (T b s : Nat) (A : Option Addr) (n c : Nat) (bs : List BW) (w : World) (hn : n = bs.length) (hs : n ≤ s) (hW : BsAt w A bs) (hz : n ≤ 1000) (hbad : ∃ x ∈ bs, x.bad T) :
    Calls Try.prog 36 #[.int .i64 (T : Int), .int .i64 (b : Int), .int .i64 (s : Int), .slice A n c] w fun e w' => e = .returned (.int .i64 1) ∧ Below w.heap.size w w' := by
  have hI : ¬ (s : Int) < (n : Int) := by omega
  have HN := Lib.hid hn
  have HW := Lib.hid hW
  have HBAD := Lib.hid hbad
  clear hn hW hbad
  go_enter Try.func36, Try.ntmps36
  go_wp2_with fail
  go_loopw [21] (fun i wr => ∃ k : Nat, k ≤ n ∧ i = .int .i64 k ∧ (∀ j (hj : j < bs.length), j < k → ¬ (bs[j]).bad T) ∧ Below w.heap.size w wr) (fun i _ => n - (intOf i).toNat)
  case atStart => exact ⟨0, by omega, rfl, fun j _ hj => by omega, Below.refl _ _⟩
  case round =>
    obtain ⟨k, hk, rfl, hall, hb⟩ := hrel
    by_cases hkn : k < n
    · have hkl : k < bs.length := by rw [← HN.out]; exact hkn
      have hkI : (k : Int) < (n : Int) := by omega
      have hk0 : (0 : Int) ≤ (k : Int) := by omega
      obtain ⟨b1, off, Ad, c1, rfl, hb1, c0, c1', _⟩ := (HW.out.bel hb).at' k hkl
      obtain ⟨x, hx⟩ : ∃ x, x = bs[k] := ⟨_, rfl⟩
      rw [← hx] at c0
      have c1'' : wr.cell? ⟨b1, off + k * 2 + 1, none⟩ = some (.slice Ad x.l.length c1) := by rw [hx]; exact c1'
      obtain ⟨w5, hw5⟩ : ∃ w5, w5 = wr.alloc (.cells #[.int .i64 x.n, .slice Ad x.l.length c1] 76) := ⟨_, rfl⟩
      have B5 : Below wr.heap.size wr w5 := by rw [hw5]; exact (Below.refl _ _).alloc (Nat.le_refl _) _
      have X5 : Bk w5 wr.heap.size 76 #[.int .i64 x.n, .slice Ad x.l.length c1] := by rw [hw5]; exact Bk.new wr _ _
      have HB5 := Lib.hid (below_step hb B5)
      have x0 := X5.cell 0
      have x1 := X5.cell 1
      simp only [List.getElem?_toArray, List.getElem?_cons_zero, List.getElem?_cons_succ] at x0 x1
      have HX := Lib.hid hx
      have HWW := Lib.hid hw5
      have HALL := Lib.hid hall
      clear c1' hx hw5 B5 X5 hb hall
      go_upto_region 6 with fail
      rw [← HWW.out]
      by_cases hneg : x.n < 0
      · go_wp2_with fail
        go_ret
        exact ⟨rfl, HB5.out⟩
      · by_cases hbig : (T : Int) ≤ x.n
        · go_wp2_with fail
          go_ret
          exact ⟨rfl, HB5.out⟩
        · by_cases hlen : x.l.length = 256
          · have d3 : ((x.l.length : Int) != 256) = false := by rw [hlen]; rfl
            have HNB := Lib.hid (show ¬ x.bad T from fun h => by unfold BW.bad at h; omega)
            have HALL2 := Lib.hid (show ∀ j (hj : j < bs.length), j < k + 1 → ¬ (bs[j]).bad T from fun j hj hjk => by
              by_cases e : j = k
              · subst e; rw [← HX.out]; exact HNB.out
              · exact HALL.out j hj (by omega))
            clear hlen
            go_wp2_with fail
            exact ⟨⟨k + 1, by omega, by go_num, HALL2.out, HB5.out⟩, by simp [intOf]; omega⟩
          · have d3 : ((x.l.length : Int) != 256) = true := by rw [bne_iff_ne]; omega
            clear hlen
            go_wp2_with fail
            go_ret
            exact ⟨rfl, HB5.out⟩
    · exfalso
      obtain ⟨x, hx, hb9⟩ := HBAD.out
      obtain ⟨j, hj, rfl⟩ := List.mem_iff_getElem.1 hx
      exact hall j hj (by rw [← HN.out] at hj; omega) hb9
set_option maxRecDepth 100000 in
set_option maxHeartbeats 8000000 in
theorem rcheck_rest (T b s : Nat) (A : Option Addr) (n c : Nat) (bs : List BW) (w : World) (hn : n = bs.length) (hnc : n ≤ c) (hs : n ≤ s) (hW : BsAt w A bs) (hz : n ≤ 1000) (hs1 : s ≤ 1000) (hb1 : b ≤ 10000) (hok : ∀ x ∈ bs, ¬ x.bad T) (r : Nat) (h4 : frm bs b s → r = 4) (h0 : ¬ frm bs b s → r = 0) :
    Calls Try.prog 36 #[.int .i64 (T : Int), .int .i64 (b : Int), .int .i64 (s : Int), .slice A n c] w fun e w' => e = .returned (.int .i64 (r : Int)) ∧ Below w.heap.size w w' := by
  have hI : ¬ (s : Int) < (n : Int) := by omega
  have HN := Lib.hid hn
  have HW := Lib.hid hW
  have HOK := Lib.hid hok
  have H4 := Lib.hid h4
  have H0 := Lib.hid h0
  have e1 : wrap64 ((b : Int) + (s : Int)) = (b : Int) + (s : Int) := IntWalk.wrap64_in _ ⟨by omega, by omega⟩
  have e2 : wrap64 ((b : Int) + (s : Int) + 2) = (b : Int) + (s : Int) + 2 := IntWalk.wrap64_in _ ⟨by omega, by omega⟩
  clear hn hW hok h4 h0
  go_enter Try.func36, Try.ntmps36
  go_wp2_with fail
  go_loopw [21] (fun i wr => ∃ k : Nat, k ≤ n ∧ i = .int .i64 k ∧ Below w.heap.size w wr) (fun i _ => n - (intOf i).toNat)
  case atStart => exact ⟨0, by omega, rfl, Below.refl _ _⟩
  case round =>
    obtain ⟨k, hk, rfl, hb⟩ := hrel
    by_cases hkn : k < n
    · have hkl : k < bs.length := by rw [← HN.out]; exact hkn
      have hkI : (k : Int) < (n : Int) := by omega
      have hk0 : (0 : Int) ≤ (k : Int) := by omega
      obtain ⟨b1, off, Ad, c1, rfl, hb1, c0, c1', _⟩ := (HW.out.bel hb).at' k hkl
      have hnb := HOK.out _ (List.getElem_mem hkl)
      unfold BW.bad at hnb
      obtain ⟨x, hx⟩ : ∃ x, x = bs[k] := ⟨_, rfl⟩
      rw [← hx] at c0 hnb
      have c1'' : wr.cell? ⟨b1, off + k * 2 + 1, none⟩ = some (.slice Ad x.l.length c1) := by rw [hx]; exact c1'
      obtain ⟨w5, hw5⟩ : ∃ w5, w5 = wr.alloc (.cells #[.int .i64 x.n, .slice Ad x.l.length c1] 76) := ⟨_, rfl⟩
      have B5 : Below wr.heap.size wr w5 := by rw [hw5]; exact (Below.refl _ _).alloc (Nat.le_refl _) _
      have X5 : Bk w5 wr.heap.size 76 #[.int .i64 x.n, .slice Ad x.l.length c1] := by rw [hw5]; exact Bk.new wr _ _
      have HB5 := Lib.hid (below_step hb B5)
      have x0 := X5.cell 0
      have x1 := X5.cell 1
      simp only [List.getElem?_toArray, List.getElem?_cons_zero, List.getElem?_cons_succ] at x0 x1
      have HWW := Lib.hid hw5
      have d1 : ¬ x.n < 0 := by omega
      have d2 : ¬ (T : Int) ≤ x.n := by omega
      have d3 : ((x.l.length : Int) != 256) = false := by rw [bne_eq_false_iff_eq]; omega
      clear c1' hx hw5 B5 X5 hb hnb
      go_upto_region 6 with fail
      rw [← HWW.out]
      go_wp2_with fail
      exact ⟨⟨k + 1, by omega, by go_num, HB5.out⟩, by simp [intOf]; omega⟩
    · obtain rfl : k = n := by omega
      have hkk : ¬ (k : Int) < (k : Int) := by omega
      have HB := Lib.hid hb
      clear hb
      go_wp2_with fail
      go_loopw [43] (fun i wq => ∃ j : Nat, j ≤ k ∧ i = .int .i64 j ∧ (∀ m (hm : m < bs.length), m < j → ¬ (bs[m]).within b s ∧ ∀ l (hl : l < m), (bs[l]).n ≠ (bs[m]).n) ∧ Below w.heap.size w wq) (fun i _ => k - (intOf i).toNat)
      case atStart => exact ⟨0, by omega, rfl, fun m _ hm => by omega, HB.out⟩
      case round =>
        obtain ⟨j, hj, rfl, hall, hb⟩ := hrel
        by_cases hjk : j < k
        · have hjl : j < bs.length := by rw [← HN.out]; exact hjk
          have hjI : (j : Int) < (k : Int) := by omega
          have hj0 : (0 : Int) ≤ (j : Int) := by omega
          have hjc : j ≤ c := by omega
          have hjcI : (j : Int) ≤ (c : Int) := by omega
          obtain ⟨b1, off, Ad, c1, rfl, hb1, c0, c1', _⟩ := (HW.out.bel hb).at' j hjl
          obtain ⟨m, hm⟩ : ∃ m : Int, m = (bs[j]).n := ⟨_, rfl⟩
          obtain ⟨L, hL⟩ : ∃ L, L = (bs[j]).l.length := ⟨_, rfl⟩
          rw [← hm] at c0
          rw [← hL] at c1'
          obtain ⟨w5, hw5⟩ : ∃ w5, w5 = wr.alloc (.cells #[.int .i64 m, .slice Ad L c1] 76) := ⟨_, rfl⟩
          have B5 : Below wr.heap.size wr w5 := by rw [hw5]; exact (Below.refl _ _).alloc (Nat.le_refl _) _
          have X5 : Bk w5 wr.heap.size 76 #[.int .i64 m, .slice Ad L c1] := by rw [hw5]; exact Bk.new wr _ _
          have HB5 := Lib.hid (below_step hb B5)
          have x0 := X5.cell 0
          have x1 := X5.cell 1
          simp only [List.getElem?_toArray, List.getElem?_cons_zero, List.getElem?_cons_succ] at x0 x1
          have HX5 := Lib.hid X5
          have HM := Lib.hid hm
          have HALL := Lib.hid hall
          have HWW := Lib.hid hw5
          clear hm hL hall hb hw5 B5 X5
          go_upto_region 12 with fail
          rw [← HWW.out]
          by_cases hin : (bs[j]).within b s
          · have HR := Lib.hid (H4.out ⟨j, hjl, .inl hin⟩)
            unfold BW.within at hin
            rw [← HM.out] at hin
            obtain ⟨g1, g2⟩ := hin
            have g3 : m < (b : Int) + (s : Int) + 2 := by omega
            clear g2
            go_wp2_with fail
            go_ret
            exact ⟨by rw [HR.out]; rfl, HB5.out⟩
          · have HNW := Lib.hid hin
            have hin2 := hin
            unfold BW.within at hin2
            rw [← HM.out] at hin2
            clear hin
            by_cases g1 : (b : Int) ≤ m
            · have g3 : ¬ m < (b : Int) + (s : Int) + 2 := by omega
              clear hin2
              go_wp2_with fail
              go_loopw [65] (fun i wq => ∃ l : Nat, l ≤ j ∧ i = .int .i64 l ∧ (∀ a (ha : a < bs.length), a < l → (bs[a]).n ≠ m) ∧ Below w5.heap.size w5 wq) (fun i _ => j - (intOf i).toNat)
              case atStart => exact ⟨0, by omega, rfl, fun a _ ha => by omega, Below.refl _ _⟩
              case round =>
                obtain ⟨l, hl, rfl, hne, hb6⟩ := hrel
                have HB6 := Lib.hid (below_step HB5.out hb6)
                by_cases hlj : l < j
                · have hll : l < bs.length := by omega
                  have hlI : (l : Int) < (j : Int) := by omega
                  have hl0 : (0 : Int) ≤ (l : Int) := by omega
                  obtain ⟨b2, off2, Ad2, c2, he2, hb2, y0, y1, _⟩ := (HW.out.bel HB6.out).at' l hll
                  injection he2 with he2
                  injection he2 with he2 he3
                  subst he2
                  subst he3
                  obtain ⟨m2, hm2⟩ : ∃ m2 : Int, m2 = (bs[l]).n := ⟨_, rfl⟩
                  obtain ⟨L2, hL2⟩ : ∃ L2, L2 = (bs[l]).l.length := ⟨_, rfl⟩
                  rw [← hm2] at y0
                  rw [← hL2] at y1
                  obtain ⟨w7, hw7⟩ : ∃ w7, w7 = wr.alloc (.cells #[.int .i64 m2, .slice Ad2 L2 c2] 76) := ⟨_, rfl⟩
                  have B7 : Below wr.heap.size wr w7 := by rw [hw7]; exact (Below.refl _ _).alloc (Nat.le_refl _) _
                  have X7 : Bk w7 wr.heap.size 76 #[.int .i64 m2, .slice Ad2 L2 c2] := by rw [hw7]; exact Bk.new wr _ _
                  have z0 := X7.cell 0
                  have x5 := (HX5.out.bel (below_step hb6 B7)).cell 0
                  simp only [List.getElem?_toArray, List.getElem?_cons_zero] at z0 x5
                  have HB7 := Lib.hid (below_step HB6.out B7)
                  have HB57 := Lib.hid (below_step hb6 B7)
                  have HW7 := Lib.hid hw7
                  have HM2 := Lib.hid hm2
                  have HNE := Lib.hid hne
                  clear hw7 X7 B7 hm2 hL2 hne hb6
                  go_upto_region 17 with fail
                  rw [← HW7.out]
                  by_cases he : m2 = m
                  · have HR := Lib.hid (H4.out ⟨j, hjl, .inr ⟨l, hlj, by rw [← HM2.out, ← HM.out]; exact he⟩⟩)
                    have heb : (m2 == m) = true := by rw [he]; simp
                    clear he
                    go_wp2_with fail
                    go_ret
                    exact ⟨by rw [HR.out]; rfl, HB7.out⟩
                  · have HNE2 := Lib.hid (show ∀ a (ha : a < bs.length), a < l + 1 → (bs[a]).n ≠ m from fun a ha hal => by
                      by_cases e : a = l
                      · subst e; rw [← HM2.out]; exact he
                      · exact HNE.out a ha (by omega))
                    have heb : (m2 == m) = false := by rw [beq_eq_false_iff_ne]; exact he
                    clear he
                    go_wp2_with fail
                    exact ⟨⟨l + 1, by omega, by go_num, HNE2.out, HB57.out⟩, by simp [intOf]; omega⟩
                · obtain rfl : l = j := by omega
                  have hll : ¬ (l : Int) < (l : Int) := by omega
                  have HALL2 := Lib.hid (show ∀ i (hi : i < bs.length), i < l + 1 → ¬ (bs[i]).within b s ∧ ∀ a (ha : a < i), (bs[a]).n ≠ (bs[i]).n from fun i hi hij => by
                    by_cases e : i = l
                    · subst e
                      refine ⟨HNW.out, fun a ha => ?_⟩
                      rw [← HM.out]
                      exact hne a (by omega) ha
                    · exact HALL.out i hi (by omega))
                  clear hne hb6
                  go_wp2_with fail
                  exact ⟨⟨l + 1, by omega, by go_num, HALL2.out, HB6.out⟩, by simp [intOf]; omega⟩
            · clear hin2
              go_wp2_with fail
              go_loopw [65] (fun i wq => ∃ l : Nat, l ≤ j ∧ i = .int .i64 l ∧ (∀ a (ha : a < bs.length), a < l → (bs[a]).n ≠ m) ∧ Below w5.heap.size w5 wq) (fun i _ => j - (intOf i).toNat)
              case atStart => exact ⟨0, by omega, rfl, fun a _ ha => by omega, Below.refl _ _⟩
              case round =>
                obtain ⟨l, hl, rfl, hne, hb6⟩ := hrel
                have HB6 := Lib.hid (below_step HB5.out hb6)
                by_cases hlj : l < j
                · have hll : l < bs.length := by omega
                  have hlI : (l : Int) < (j : Int) := by omega
                  have hl0 : (0 : Int) ≤ (l : Int) := by omega
                  obtain ⟨b2, off2, Ad2, c2, he2, hb2, y0, y1, _⟩ := (HW.out.bel HB6.out).at' l hll
                  injection he2 with he2
                  injection he2 with he2 he3
                  subst he2
                  subst he3
                  obtain ⟨m2, hm2⟩ : ∃ m2 : Int, m2 = (bs[l]).n := ⟨_, rfl⟩
                  obtain ⟨L2, hL2⟩ : ∃ L2, L2 = (bs[l]).l.length := ⟨_, rfl⟩
                  rw [← hm2] at y0
                  rw [← hL2] at y1
                  obtain ⟨w7, hw7⟩ : ∃ w7, w7 = wr.alloc (.cells #[.int .i64 m2, .slice Ad2 L2 c2] 76) := ⟨_, rfl⟩
                  have B7 : Below wr.heap.size wr w7 := by rw [hw7]; exact (Below.refl _ _).alloc (Nat.le_refl _) _
                  have X7 : Bk w7 wr.heap.size 76 #[.int .i64 m2, .slice Ad2 L2 c2] := by rw [hw7]; exact Bk.new wr _ _
                  have z0 := X7.cell 0
                  have x5 := (HX5.out.bel (below_step hb6 B7)).cell 0
                  simp only [List.getElem?_toArray, List.getElem?_cons_zero] at z0 x5
                  have HB7 := Lib.hid (below_step HB6.out B7)
                  have HB57 := Lib.hid (below_step hb6 B7)
                  have HW7 := Lib.hid hw7
                  have HM2 := Lib.hid hm2
                  have HNE := Lib.hid hne
                  clear hw7 X7 B7 hm2 hL2 hne hb6
                  go_upto_region 17 with fail
                  rw [← HW7.out]
                  by_cases he : m2 = m
                  · have HR := Lib.hid (H4.out ⟨j, hjl, .inr ⟨l, hlj, by rw [← HM2.out, ← HM.out]; exact he⟩⟩)
                    have heb : (m2 == m) = true := by rw [he]; simp
                    clear he
                    go_wp2_with fail
                    go_ret
                    exact ⟨by rw [HR.out]; rfl, HB7.out⟩
                  · have HNE2 := Lib.hid (show ∀ a (ha : a < bs.length), a < l + 1 → (bs[a]).n ≠ m from fun a ha hal => by
                      by_cases e : a = l
                      · subst e; rw [← HM2.out]; exact he
                      · exact HNE.out a ha (by omega))
                    have heb : (m2 == m) = false := by rw [beq_eq_false_iff_ne]; exact he
                    clear he
                    go_wp2_with fail
                    exact ⟨⟨l + 1, by omega, by go_num, HNE2.out, HB57.out⟩, by simp [intOf]; omega⟩
                · obtain rfl : l = j := by omega
                  have hll : ¬ (l : Int) < (l : Int) := by omega
                  have HALL2 := Lib.hid (show ∀ i (hi : i < bs.length), i < l + 1 → ¬ (bs[i]).within b s ∧ ∀ a (ha : a < i), (bs[a]).n ≠ (bs[i]).n from fun i hi hij => by
                    by_cases e : i = l
                    · subst e
                      refine ⟨HNW.out, fun a ha => ?_⟩
                      rw [← HM.out]
                      exact hne a (by omega) ha
                    · exact HALL.out i hi (by omega))
                  clear hne hb6
                  go_wp2_with fail
                  exact ⟨⟨l + 1, by omega, by go_num, HALL2.out, HB6.out⟩, by simp [intOf]; omega⟩
        · obtain rfl : j = k := by omega
          have hjj : ¬ (j : Int) < (j : Int) := by omega
          have HR := Lib.hid (H0.out (fun ⟨m, hm, h⟩ => by
            obtain ⟨h1, h2⟩ := hall m hm (by rw [← HN.out] at hm; omega)
            rcases h with h | ⟨l, hl, h⟩
            · exact h1 h
            · exact h2 l hl h))
          have HBF := Lib.hid hb
          clear hall hb
          go_wp2_with fail
          go_ret
          exact ⟨by rw [HR.out]; rfl, HBF.out⟩
theorem rcheck_all (T b s : Nat) (A : Option Addr) (n c : Nat) (bs : List BW) (w : World) (hn : n = bs.length) (hnc : n ≤ c) (hW : BsAt w A bs) (hf : Fits T b s) (hT : T ≤ 2048) :
    Calls Try.prog 36 #[.int .i64 (T : Int), .int .i64 (b : Int), .int .i64 (s : Int), .slice A n c] w fun e w' => e = .returned (.int .i64 (chkN T b s bs : Int)) ∧ Below w.heap.size w w' := by
  unfold Fits at hf
  by_cases h1 : s < bs.length
  · rw [chk_big h1]
    have hI : (s : Int) < (n : Int) := by omega
    clear hW
    go_enter Try.func36, Try.ntmps36
    go_wp2_with fail
    go_ret
    exact ⟨rfl, Below.refl _ _⟩
  · by_cases h2 : ∃ x ∈ bs, x.bad T
    · rw [chk_bad h1 h2]
      exact rcheck_arg T b s A n c bs w hn (by omega) hW (by omega) h2
    · exact rcheck_rest T b s A n c bs w hn hnc (by omega) hW (by omega) (by omega) (by omega) (fun x hx hb => h2 ⟨x, hx, hb⟩) _ (fun h => chk_frm h1 h2 h) (fun h => chk_fine h1 h2 h)
end Go.Proofs.Ytmgbmnbjionapaa
