/- PagerPlays's own walk. Condition: the calls lie in memory. -/
import Derived.Test.YtfbpagbfdccgfaaGAgain
import Derived.Test.YtfbpagbfdccgfaaGRDo
namespace Go.Proofs.Ytfbpagbfdccgfaa
open Go.RowKit

theorem bk_ne {w : World} {g g' : Nat} {t t' : TypeId} {cs cs' : Array Value} (h : Bk w g t cs) (k : Bk w g' t' cs') (ht : t ≠ t') : ¬ g = g' := fun e => by
  subst e
  unfold Bk at h k
  rw [h] at k
  injection k with k
  injection k with _ k
  exact ht k
theorem seg_set4 {w : World} {A : Option Addr} {l : List HeldM} {gt : Nat} {x z : Int} {y : Bool} {u : Value} {e : Int} {hit : Bool} {out : Int} {W : Value} (hS : Seg w A (rowH l)) (hT : Bk w gt 33 #[.int .i64 x, .bool y, .int .i64 z, u]) (hu : ∀ q, u ≠ .int .i64 q) : Seg (set4 w gt e hit out W) A (rowH l) := by
  intro hx
  obtain ⟨b, off, h1, h2, h3⟩ := hS hx
  have hne : b ≠ gt := fun e => by
    subst e
    cases l with
    | nil => exact hx rfl
    | cons h t =>
      have q0 := h3 0 (by rw [rowH_length]; simp)
      have q1 := h3 1 (by rw [rowH_length]; simp; omega)
      rw [hT.cell] at q0 q1
      have r0 : (rowH (h :: t))[0]? = some (.int .i64 h.page) := rfl
      have r1 : (rowH (h :: t))[1]? = some (.int .i64 (h.pins : Int)) := rfl
      rw [r0] at q0
      rw [r1] at q1
      match off, q0, q1 with
      | 0, _, q1 => simp at q1
      | 1, q0, _ => simp at q0
      | 2, _, q1 => exact hu _ (by simpa using q1)
      | 3, q0, _ => exact hu _ (by simpa using q0)
      | k + 4, q0, _ => simp at q0
  refine ⟨b, off, h1, by simpa [set4, World.setCell] using h2, fun i hi => ?_⟩
  rw [cell_set4 hne]
  exact h3 i hi
theorem app_int (B : Nat) (w1 : World) (v : Value) (k : Nat) (xs : List Value) (y : Int) (ho : w1.ownsRow B 3 1 v k xs) (hk : k ≤ 1000000) (hb : B ≤ w1.heap.size) :
    ∃ v' w', (Builtin.append_ #[24, 24] 24 #[v, .slice (some ⟨w1.heap.size, 0, none⟩) 1 1]).run Try.prog (w1.alloc (.cells #[.int .i64 y] 3)) = .ok v' w' ∧ w'.ownsRow B 3 1 v' (k + 1) (xs ++ [.int .i64 y]) ∧ Below B w1 w' := by
  obtain ⟨j0, hj0, hj1, hj2, hj3⟩ := info_parts info_int
  have al := (Below.refl w1.heap.size w1).alloc (Nat.le_refl _) (.cells #[.int .i64 y] 3)
  have hcell := (Bk.new w1 3 #[.int .i64 y])
  obtain ⟨v', w', hr, h2, h3, _, _⟩ := run_append_own_at (P := Try.prog) (w := w1.alloc (.cells #[.int .i64 y] 3)) B 24 24 3 j0 _ 1 8 Try.underlying24 hj0 hj1 hj2 hj3 rfl (by decide) v k xs (kept_bel ho al) ⟨w1.heap.size, 0, none⟩ 1 1 [.int .i64 y] rfl (fun j u hu => by
    rw [show ((⟨w1.heap.size, 0, none⟩ : Addr).add j) = ⟨w1.heap.size, j, none⟩ by unfold Addr.add; split <;> simp_all, hcell.cell j]; simpa using hu) (by intro u hu; simp only [List.mem_singleton] at hu; subst hu; rfl) (by simp only [maxLen]; omega) (by omega) (Nat.le_trans hb al.size)
  exact ⟨v', w', hr, h2, (al.mono hb).grown h3 (Nat.le_trans hb al.size) (fun j e => own_ge ho e)⟩
theorem once_st (room : Int) (L : List (Int × Int)) : ∀ i, Once (stN room L i)
  | 0 => List.Pairwise.nil
  | i + 1 => once_do (once_st room L i) _ _
theorem len_do {room : Int} {l : List HeldM} (h : (l.length : Int) ≤ room) (kind page : Int) : ((doM room l kind page).1.length : Int) ≤ room := by
  unfold doM
  split
  · show ((l.map cleanH).length : Int) ≤ _; rw [List.length_map]; exact h
  · split
    · exact h
    · split
      · unfold pinM
        rcases findZ_cases (isP page) l with ⟨k1, _⟩ | ⟨i, hi, k1, _, _⟩
        · rw [k1, if_neg (by decide)]
          split
          · rcases findZ_cases isF l with ⟨q1, _⟩ | ⟨j, hj, q1, _, _⟩
            · rw [q1, if_pos (by decide)]; exact h
            · rw [q1, if_neg (by omega), Int.toNat_natCast]
              show ((l.eraseIdx j ++ [_]).length : Int) ≤ _
              rw [List.length_append, List.length_eraseIdx, if_pos hj]
              show ((l.length - 1 + 1 : Nat) : Int) ≤ _
              omega
          · show ((l ++ [_]).length : Int) ≤ _
            rw [List.length_append]
            show ((l.length + 1 : Nat) : Int) ≤ _
            omega
        · rw [k1, if_pos (by omega), Int.toNat_natCast]
          show ((l.eraseIdx i ++ [_]).length : Int) ≤ _
          rw [List.length_append, List.length_eraseIdx, if_pos hi]
          show ((l.length - 1 + 1 : Nat) : Int) ≤ _
          omega
      · split
        · unfold chgM
          split
          · exact h
          · split
            · exact h
            · show ((l.set _ _).length : Int) ≤ _; rw [List.length_set]; exact h
        · exact h
theorem len_st {room : Int} (hr : 0 ≤ room) (L : List (Int × Int)) : ∀ i, ((stN room L i).length : Int) ≤ room
  | 0 => hr
  | i + 1 => len_do (len_st hr L i) _ _
set_option maxRecDepth 100000 in
set_option maxHeartbeats 8000000 in
theorem plays_any (room : Int) (A : Option Addr) (n c : Nat) (l : List (Int × Int)) (hn : n = l.length) (hc : n ≤ c) (hz : n ≤ 9223372036854775807) (w : World) (hA : Seg w A (opsV l)) :
    Calls Try.prog 3 #[.int .i64 room, .slice A n c] w fun e w' => e = .returned (.bool true) ∧ Below w.heap.size w w' := by
  have CFW := Lib.hid (fun (w1 : World) (hb : Below w.heap.size w w1) => few_any w1 A n c l hn (hA.bel hb) hc hz)
  clear hA hn hc
  obtain ⟨L, hL⟩ : ∃ L, L = l.take 300 := ⟨_, rfl⟩
  rw [← hL] at CFW
  have hN3 : L.length ≤ 300 := by rw [hL, List.length_take]; omega
  obtain ⟨N, hN⟩ : ∃ N, N = L.length := ⟨_, rfl⟩
  rw [← hN] at CFW hN3
  have HN := Lib.hid hN
  clear hL hN
  go_enter Try.func3, Try.ntmps3
  go_wp2_with fail
  refine (CFW.out w (Below.refl _ _)).mono ?_
  rintro e w1 ⟨⟨g1, d1, rfl, hd1, o1, _⟩, b1⟩
  have HS1 := Lib.hid o1
  have HB1 := Lib.hid b1
  clear o1 b1
  by_cases hr : room < 1 ∨ 64 < room
  · have PN := Lib.hid (fun v w2 => play_no room v w2 hr)
    have hr1 : room < 1 ∨ (¬ room < 1 ∧ 64 < room) := by omega
    go_wp2_with fail
    refine (PN.out _ w1).mono ?_
    rintro e w3 ⟨rfl, rfl⟩
    rcases hr1 with hr2 | ⟨hr2, hr3⟩
    · have j1 : decide (room < 1) = true := decide_eq_true hr2
      go_wp2_with fail
      refine (awake_any w3).mono ?_
      rintro e w7 ⟨rfl, b7⟩
      have HB7 := Lib.hid (HB1.out.trans (b7.mono HB1.out.size))
      clear b7
      go_wp2_with fail
      go_ret
      exact ⟨rfl, HB7.out⟩
    · have j1 : decide (room < 1) = false := decide_eq_false (by omega)
      have j2 : decide (room > 64) = true := decide_eq_true hr3
      go_wp2_with fail
      refine (awake_any w3).mono ?_
      rintro e w7 ⟨rfl, b7⟩
      have HB7 := Lib.hid (HB1.out.trans (b7.mono HB1.out.size))
      clear b7
      go_wp2_with fail
      go_ret
      exact ⟨rfl, HB7.out⟩
  · have hr1 : 1 ≤ room := by omega
    have hr2 : room ≤ 64 := by omega
    have j1 : decide (room < 1) = false := decide_eq_false (by omega)
    have j2 : decide (room > 64) = false := decide_eq_false (by omega)
    have j3 : ¬ room < 1 := by omega
    have j4 : ¬ 64 < room := by omega
    clear hr
    have CP := Lib.hid (play_ok room hr1 hr2 (some ⟨g1, 0, none⟩) N d1 L HN.out hN3 w1 HS1.out)
    clear HS1
    go_wp2_with fail
    refine CP.out.mono ?_
    rintro e w3 ⟨ga, ma, Aa, ca, rfl, hma, hmac, hacA, hopA, b3⟩
    obtain ⟨BA, hBA⟩ : ∃ x, x = w1.heap.size := ⟨_, rfl⟩
    rw [← hBA] at hacA hopA
    have HACA := Lib.hid hacA
    have HOP := Lib.hid hopA
    have HMA := Lib.hid hma
    have HB3 := Lib.hid (HB1.out.trans (b3.mono HB1.out.size))
    clear hacA hopA hma b3 HB1 CP hBA
    obtain ⟨w4, hw4⟩ : ∃ w4, w4 = w3.alloc (.cells #[] 41) := ⟨_, rfl⟩
    have al4 : Below w3.heap.size w3 w4 := by rw [hw4]; exact (Below.refl _ _).alloc (Nat.le_refl _) _
    have HACA4 := Lib.hid (HACA.out.bel al4)
    have HOP4 := Lib.hid (kept_bel HOP.out al4)
    have HB4 := Lib.hid (HB3.out.trans (al4.mono HB3.out.size))
    obtain ⟨gz, hgz⟩ : ∃ gz, gz = w3.heap.size := ⟨_, rfl⟩
    have HW4 := Lib.hid hw4
    clear hw4 al4 HACA HOP HB3
    go_upto_region 5 with fail
    rw [← HW4.out, ← hgz]
    clear hgz HW4
    go_wp2_with fail
    refine (CFW.out w4 HB4.out).mono ?_
    rintro e w5 ⟨⟨g5, d5, rfl, hd5, o5, hg5⟩, b5⟩
    have HACA5 := Lib.hid (HACA4.out.bel b5)
    have HOP5 := Lib.hid (kept_bel HOP4.out b5)
    have HB5 := Lib.hid (HB4.out.trans (b5.mono HB4.out.size))
    have HS5 := Lib.hid o5
    clear o5 b5 HACA4 HOP4 HB4
    have n1 : ((N : Int) != (N : Int)) = false := by simp
    go_wp2_with fail
    refine (awake_any w5).mono ?_
    rintro e w6 ⟨rfl, b6⟩
    have HACA6 := Lib.hid (HACA5.out.bel b6)
    have HOP6 := Lib.hid (kept_bel HOP5.out b6)
    have HB6 := Lib.hid (HB5.out.trans (b6.mono HB5.out.size))
    have HS6 := Lib.hid (HS5.out.bel b6)
    clear b6 HACA5 HOP5 HB5 HS5
    go_wp2_with fail
    go_loopw [7, 52] (fun s7 s wr => ∃ (i : Nat) (A : Option Addr) (q c : Nat), i ≤ N ∧ s = .int .i64 i ∧ s7 = .slice A q c ∧ q = (stN room L i).length ∧ q ≤ c ∧ Hid (Seg wr A (rowH (stN room L i))) ∧ Hid (Below w6.heap.size w6 wr)) (fun _ s _ => N - (intOf s).toNat)
    case atStart => exact ⟨0, some ⟨gz, 0, none⟩, 0, 0, Nat.zero_le _, rfl, rfl, rfl, Nat.le_refl _, Lib.hid (fun h => absurd rfl h), Lib.hid (Below.refl _ _)⟩
    case round =>
      clear n1
      obtain ⟨i, Ar, q, cr, hin, rfl, rfl, hq, hqc, hX, hB⟩ := hrel
      have HQ0 := Lib.hid hq
      by_cases hlt : i < N
      · have hil : i < L.length := by have := HN.out; omega
        obtain ⟨b, off, he, hbl, hcell⟩ := HS6.out.bel hB.out (by intro e; have := congrArg List.length e; rw [opsV_length] at this; simp only [List.length_nil] at this; omega)
        simp only [Option.some.injEq, Addr.mk.injEq, and_true] at he
        obtain ⟨rfl, rfl⟩ := he
        obtain ⟨kp, hkp⟩ : ∃ o, o = L[i] := ⟨_, rfl⟩
        have hgd : L.getD i (0, 0) = kp := by rw [hkp]; simp [hil]
        have rd : ∀ k, k < 2 → wr.cell? ⟨g5, 0 + (i * 2 + k), none⟩ = (opV kp)[k]? := fun k hk => by
          rw [hcell (i * 2 + k) (by rw [opsV_length]; omega), opsV_at hil hk, hkp]
        have c0 : wr.cell? ⟨g5, i * 2, none⟩ = some (.int .i64 kp.1) := by have := rd 0 (by omega); rw [Nat.zero_add, Nat.add_zero] at this; exact this
        have c1 : wr.cell? ⟨g5, i * 2 + 1, none⟩ = some (.int .i64 kp.2) := by have := rd 1 (by omega); rw [Nat.zero_add] at this; exact this
        have HSTE := Lib.hid (show (doM room (stN room L i) kp.1 kp.2).1 = stN room L (i + 1) by rw [← hgd]; rfl)
        have HACE := Lib.hid (show (doM room (stN room L i) kp.1 kp.2).2 = acN room L i by rw [← hgd]; rfl)
        obtain ⟨k, p⟩ := kp
        dsimp only at c0 c1 HSTE HACE
        obtain ⟨w7, hw7⟩ : ∃ w7, w7 = wr.alloc (.cells #[.int .i64 k, .int .i64 p] 31) := ⟨_, rfl⟩
        obtain ⟨w8, hw8⟩ : ∃ w8, w8 = w7.alloc (.cells #[.int .i64 0, .bool false, .int .i64 0, .slice none 0 0] 33) := ⟨_, rfl⟩
        have al7 : Below wr.heap.size wr w7 := by rw [hw7]; exact (Below.refl _ _).alloc (Nat.le_refl _) _
        have al8 : Below w7.heap.size w7 w8 := by rw [hw8]; exact (Below.refl _ _).alloc (Nat.le_refl _) _
        have bk7 : Bk w7 wr.heap.size 31 #[.int .i64 k, .int .i64 p] := by rw [hw7]; exact Bk.new wr _ _
        have HX8 := Lib.hid (bk7.bel al8)
        have HWS := Lib.hid (show w6.heap.size ≤ wr.heap.size from hB.out.size)
        have HT8 := Lib.hid (show Bk w8 w7.heap.size 33 #[.int .i64 0, .bool false, .int .i64 0, .slice none 0 0] by rw [hw8]; exact Bk.new w7 _ _)
        have HB8 := Lib.hid (hB.out.trans ((al7.trans (al8.mono al7.size)).mono hB.out.size))
        have HR8 := Lib.hid ((hX.out.bel al7).bel al8)
        have GR := st_grows room L i
        have CD := Lib.hid (rdo_any Ar q cr (stN room L i) room k p hq hqc (by omega) w8 HR8.out (once_st room L i) (len_st (by omega) L i) (fun s hs => by have := GR.2 s hs; omega))
        have E1 := Lib.hid (show ((i : Int) + 1) = ((i + 1 : Nat) : Int) by omega)
        have MM := Lib.hid (show N - (intOf (.int .i64 ((i + 1 : Nat) : Int))).toNat < N - (intOf (.int .i64 (i : Int))).toNat by simp only [intOf]; omega)
        have i1 : (0 : Int) ≤ (i : Int) := by omega
        have i2 : (i : Int) < (N : Int) := by omega
        obtain ⟨gt, hgt⟩ : ∃ g, g = w7.heap.size := ⟨_, rfl⟩
        obtain ⟨go, hgo⟩ : ∃ g, g = wr.heap.size := ⟨_, rfl⟩
        have hg1 : w7.heap.size = wr.heap.size + 1 := by rw [hw7]; simp
        have HG1 := Lib.hid hg1
        rw [← hgt] at HT8
        rw [← hgo] at HX8
        have HW8 := Lib.hid (show w8 = (wr.alloc (.cells #[.int .i64 k, .int .i64 p] 31)).alloc (.cells #[.int .i64 0, .bool false, .int .i64 0, .slice none 0 0] 33) by rw [hw8, hw7])
        have HGT := Lib.hid (show wr.heap.size + 1 = gt by rw [hgt, hg1])
        have HGO := Lib.hid hgo
        clear rd hkp hgd hcell hw7 hw8 al7 al8 bk7 hB hX GR hil hq hgt hgo hg1
        go_upto_region 12 with fail
        rw [← HW8.out, HGT.out, ← HGO.out]
        have y0 := HX8.out.cell 0
        have y1 := HX8.out.cell 1
        clear c0 c1
        go_wp2_with fail
        refine CD.out.mono ?_
        rintro e w9 ⟨A', q', c', Wv, rfl, hq', hqc', hseg, hown, hb9⟩
        rw [HSTE.out] at hq' hseg
        rw [HACE.out] at hown ⊢
        have hwl : (acN room L i).wrote.length ≤ 1000000 := by
          have h1 := st_grows room L i
          have h2 := wrote_le room (stN room L i) (L.getD i (0, 0)).1 (L.getD i (0, 0)).2 i h1.1
          exact Nat.le_trans h2 (by omega)
        obtain ⟨cA, hbA, _, hjA⟩ := (HACA6.out.bel HB8.out).bel hb9
        obtain ⟨AWa, cWa, a0, a1, a2, a3, hoA⟩ := hjA i hlt
        obtain ⟨ac, hac⟩ : ∃ a, a = acN room L i := ⟨_, rfl⟩
        rw [← hac] at a0 a1 a2 a3 hoA hown hwl ⊢
        clear hac hjA
        obtain ⟨ae, ah, ao, aw⟩ := ac
        dsimp only at a0 a1 a2 a3 hoA hown hwl ⊢
        obtain ⟨AWb, cWb, hWb, _⟩ := own_shapeS hown
        subst hWb
        have hT9 := HT8.out.bel hb9
        have ngt : Value.ownBlock (.slice AWb aw.length cWb) ≠ some gt := own_block_ne hown hT9 (by decide)
        have t0 := hT9.cell 0
        have t1 := hT9.cell 1
        have t2 := hT9.cell 2
        have t3 := hT9.cell 3
        have f0 := hT9.frozen 0
        have f1 := hT9.frozen 1
        have f2 := hT9.frozen 2
        have f3 := hT9.frozen 3
        obtain ⟨W9, hW9⟩ : ∃ W9, W9 = set4 w9 gt ae ah ao (.slice AWb aw.length cWb) := ⟨_, rfl⟩
        have HW9 := Lib.hid (show W9 = (((w9.setCell ⟨gt, 0, none⟩ (.int .i64 ae)).setCell ⟨gt, 1, none⟩ (.bool ah)).setCell ⟨gt, 2, none⟩ (.int .i64 ao)).setCell ⟨gt, 3, none⟩ (.slice AWb aw.length cWb) from hW9)
        have hge : w6.heap.size ≤ gt := by have := HGT.out; have := HWS.out; omega
        have HBL := Lib.hid (show Below w6.heap.size w6 W9 by
          have h := HB8.out.trans (hb9.mono HB8.out.size)
          rw [HW9.out]
          exact (((h.setCell (p := ⟨gt, 0, none⟩) hge _).setCell (p := ⟨gt, 1, none⟩) hge _).setCell (p := ⟨gt, 2, none⟩) hge _).setCell (p := ⟨gt, 3, none⟩) hge _)
        have HBA := Lib.hid (show Bk W9 ga 38 cA by rw [hW9]; exact bk_set4 hbA (bk_ne hbA hT9 (by decide)))
        have HBT := Lib.hid (show Bk W9 gt 33 #[.int .i64 ae, .bool ah, .int .i64 ao, .slice AWb aw.length cWb] by rw [hW9]; exact bk_at4 hT9 rfl)
        have HA0 := Lib.hid a0
        have HA1 := Lib.hid a1
        have HA2 := Lib.hid a2
        have HA3 := Lib.hid a3
        have HSA := Lib.hid (show Seg W9 AWa (intV aw) by rw [hW9]; exact Seg.of_own (own_set4 hoA (own_block_ne hoA hT9 (by decide))))
        have HSB := Lib.hid (show Seg W9 AWb (intV aw) by rw [hW9]; exact Seg.of_own (own_set4 hown ngt))
        have HX9 := Lib.hid (show Seg W9 A' (rowH (stN room L (i + 1))) by rw [hW9]; exact seg_set4 hseg hT9 (fun q e => by cases e))
        have HSM := Lib.hid (fun w1 (h1 : Seg w1 AWa (intV aw)) (h2 : Seg w1 AWb (intV aw)) => sameV AWa AWb cWa cWb aw w1 h1 h2 hwl)
        have HQ := Lib.hid (And.intro hq' hqc')
        clear hW9 hge hbA a0 a1 a2 a3 hoA hown hseg hT9 ngt hb9 hwl hq' hqc' y0 y1 CD HX8 HT8 HR8 HB8 HSTE HACE
        go_upto_region 13 with fail
        rw [← HW9.out]
        clear t0 t1 t2 t3 f0 f1 f2 f3 HW9
        refine wp_region_guarded [some 68, some 69, some 70, some 71, some 72, some 73, some 74, some 75, some 76, some 77, some 78, some 79, some 80, some 81, some 82, some 83, some 84, some 85, some 86, some 87, some 88, some 89, some 90, some 91, some 92, some 93, some 94, some 95, some 96, some 97, some 98, some 99, some 100, some 101, some 102, some 103, some 104, some 105, some 106] (fun _ => 0) (gcF [.slice (some ⟨ga, 0, none⟩) N N, .int .i64 (i : Int), .pointer (some ⟨ga, i * 4, none⟩), .pointer (some ⟨ga, i * 4, none⟩), .int .i64 ae, .pointer (some ⟨gt, 0, none⟩), .int .i64 ae, .bool false, .bool false, .slice (some ⟨ga, 0, none⟩) N N, .int .i64 (i : Int), .pointer (some ⟨ga, i * 4, none⟩), .pointer (some ⟨ga, i * 4 + 1, none⟩), .bool ah, .pointer (some ⟨gt, 1, none⟩), .bool ah, .bool false, .bool false, .bool false, .slice (some ⟨ga, 0, none⟩) N N, .int .i64 (i : Int), .pointer (some ⟨ga, i * 4, none⟩), .pointer (some ⟨ga, i * 4 + 2, none⟩), .int .i64 ao, .pointer (some ⟨gt, 2, none⟩), .int .i64 ao, .bool false, .bool false, .bool false, .slice (some ⟨ga, 0, none⟩) N N, .int .i64 (i : Int), .pointer (some ⟨ga, i * 4, none⟩), .pointer (some ⟨ga, i * 4 + 3, none⟩), .slice AWa aw.length cWa, .pointer (some ⟨gt, 3, none⟩), .slice AWb aw.length cWb, .bool true, .bool false, .bool false]) (fun w' => Below W9.heap.size W9 w') (by kernel_rfl) (Below.refl _ _).drew rfl (by kernel_rfl) (by kernel_rfl) (by kernel_rfl) (fun T hT => ?_)
        simp only [List.filterMap_cons, List.filterMap_nil, id, putsS, Act.put, List.setIfInBounds_toArray, List.set_cons_zero, List.set_cons_succ] at hT
        subst hT
        refine ⟨⟨?_, ?_, ?_, ?_, ?_, ?_, ?_, ?_, ?_, ?_, ?_, ?_, ?_, ?_, ?_, ?_, ?_, ?_, ?_, ?_, ?_, ?_, ?_, ?_, ?_, ?_, ?_, ?_, ?_, ?_, ?_, ?_, ?_, ?_, ?_, ?_, ?_, ?_, ?_, trivial⟩, ?_⟩
        · refine StepA.guarded rfl ?_
          intro f w1 hG hF K hK
          clear hF
          dsimp only at hK ⊢
          go_simp
          exact hK.out _ _ hG rfl (fun _ _ _ h => h)
        · refine StepA.guarded rfl ?_
          intro f w1 hG hF K hK
          clear hF
          dsimp only at hK ⊢
          go_simp
          exact hK.out _ _ hG rfl (fun _ _ _ h => h)
        · refine StepA.guarded rfl ?_
          intro f w1 hG hF K hK
          have d0 : f 68 = .slice (some ⟨ga, 0, none⟩) N N := hF 0 (by kernel_rfl)
          have d1 : f 69 = .int .i64 (i : Int) := hF 1 (by kernel_rfl)
          clear hF
          dsimp only at hK ⊢
          generalize f 68 = v68 at *
          generalize f 69 = v69 at *
          subst d0
          subst d1
          go_simp
          exact hK.out _ _ hG rfl (fun _ _ _ h => h)
        · refine StepA.guarded rfl ?_
          intro f w1 hG hF K hK
          have d2 : f 70 = .pointer (some ⟨ga, i * 4, none⟩) := hF 2 (by kernel_rfl)
          clear hF
          dsimp only at hK ⊢
          generalize f 70 = v70 at *
          subst d2
          go_simp
          exact hK.out _ _ hG rfl (fun _ _ _ h => h)
        · refine StepA.guarded rfl ?_
          intro f w1 hG hF K hK
          have d3 : f 71 = .pointer (some ⟨ga, i * 4, none⟩) := hF 3 (by kernel_rfl)
          clear hF
          dsimp only at hK ⊢
          generalize f 71 = v71 at *
          subst d3
          have y : w1.cell? ⟨ga, i * 4, none⟩ = some (.int .i64 ae) := (HBA.out.bel hG).cell _ |>.trans HA0.out
          go_simp
          exact hK.out _ _ hG rfl (fun _ _ _ h => h)
        · refine StepA.guarded rfl ?_
          intro f w1 hG hF K hK
          clear hF
          dsimp only at hK ⊢
          go_simp
          exact hK.out _ _ hG rfl (fun _ _ _ h => h)
        · refine StepA.guarded rfl ?_
          intro f w1 hG hF K hK
          have d5 : f 73 = .pointer (some ⟨gt, 0, none⟩) := hF 5 (by kernel_rfl)
          clear hF
          dsimp only at hK ⊢
          generalize f 73 = v73 at *
          subst d5
          have y : w1.cell? ⟨gt, 0, none⟩ = some (.int .i64 ae) := (HBT.out.bel hG).cell 0
          go_simp
          exact hK.out _ _ hG rfl (fun _ _ _ h => h)
        · refine StepA.guarded rfl ?_
          intro f w1 hG hF K hK
          have d4 : f 72 = .int .i64 ae := hF 4 (by kernel_rfl)
          have d6 : f 74 = .int .i64 ae := hF 6 (by kernel_rfl)
          clear hF
          dsimp only at hK ⊢
          generalize f 72 = v72 at *
          generalize f 74 = v74 at *
          subst d4
          subst d6
          have e : (ae != ae) = false := by simp
          go_simp
          exact hK.out _ _ hG rfl (fun _ _ _ h => h)
        · refine StepA.guarded rfl ?_
          intro f w1 hG hF K hK
          have d7 : f 75 = .bool false := hF 7 (by kernel_rfl)
          clear hF
          dsimp only at hK ⊢
          generalize f 75 = v75 at *
          subst d7
          go_simp
          exact hK.out _ _ hG rfl (fun _ _ _ h => h)
        · intro f w1 hG hF K hK
          have d8 : f 76 = .bool false := hF 8 (by kernel_rfl)
          clear hF
          rw [if_pos (by rw [wanted_val (g := 8) (d := 76) (b := false) (c := false) rfl (by kernel_rfl) (show some (f 76) = some (.bool false) from congrArg some d8)]; rfl)]
          dsimp only at hK ⊢
          generalize f 76 = v76 at *
          subst d8
          go_simp
          exact hK.out _ _ hG rfl (fun _ _ _ h => h)
        · intro f w1 hG hF K hK
          have d8 : f 76 = .bool false := hF 8 (by kernel_rfl)
          clear hF
          rw [if_pos (by rw [wanted_val (g := 8) (d := 76) (b := false) (c := false) rfl (by kernel_rfl) (show some (f 76) = some (.bool false) from congrArg some d8)]; rfl)]
          dsimp only at hK ⊢
          generalize f 76 = v76 at *
          subst d8
          go_simp
          exact hK.out _ _ hG rfl (fun _ _ _ h => h)
        · intro f w1 hG hF K hK
          have d8 : f 76 = .bool false := hF 8 (by kernel_rfl)
          have d9 : f 77 = .slice (some ⟨ga, 0, none⟩) N N := hF 9 (by kernel_rfl)
          have d10 : f 78 = .int .i64 (i : Int) := hF 10 (by kernel_rfl)
          clear hF
          rw [if_pos (by rw [wanted_val (g := 8) (d := 76) (b := false) (c := false) rfl (by kernel_rfl) (show some (f 76) = some (.bool false) from congrArg some d8)]; rfl)]
          dsimp only at hK ⊢
          generalize f 76 = v76 at *
          generalize f 77 = v77 at *
          generalize f 78 = v78 at *
          subst d8
          subst d9
          subst d10
          go_simp
          exact hK.out _ _ hG rfl (fun _ _ _ h => h)
        · intro f w1 hG hF K hK
          have d8 : f 76 = .bool false := hF 8 (by kernel_rfl)
          have d11 : f 79 = .pointer (some ⟨ga, i * 4, none⟩) := hF 11 (by kernel_rfl)
          clear hF
          rw [if_pos (by rw [wanted_val (g := 8) (d := 76) (b := false) (c := false) rfl (by kernel_rfl) (show some (f 76) = some (.bool false) from congrArg some d8)]; rfl)]
          dsimp only at hK ⊢
          generalize f 76 = v76 at *
          generalize f 79 = v79 at *
          subst d8
          subst d11
          go_simp
          exact hK.out _ _ hG rfl (fun _ _ _ h => h)
        · intro f w1 hG hF K hK
          have d8 : f 76 = .bool false := hF 8 (by kernel_rfl)
          have d12 : f 80 = .pointer (some ⟨ga, i * 4 + 1, none⟩) := hF 12 (by kernel_rfl)
          clear hF
          rw [if_pos (by rw [wanted_val (g := 8) (d := 76) (b := false) (c := false) rfl (by kernel_rfl) (show some (f 76) = some (.bool false) from congrArg some d8)]; rfl)]
          dsimp only at hK ⊢
          generalize f 76 = v76 at *
          generalize f 80 = v80 at *
          subst d8
          subst d12
          have y : w1.cell? ⟨ga, i * 4 + 1, none⟩ = some (.bool ah) := (HBA.out.bel hG).cell _ |>.trans HA1.out
          go_simp
          exact hK.out _ _ hG rfl (fun _ _ _ h => h)
        · intro f w1 hG hF K hK
          have d8 : f 76 = .bool false := hF 8 (by kernel_rfl)
          clear hF
          rw [if_pos (by rw [wanted_val (g := 8) (d := 76) (b := false) (c := false) rfl (by kernel_rfl) (show some (f 76) = some (.bool false) from congrArg some d8)]; rfl)]
          dsimp only at hK ⊢
          generalize f 76 = v76 at *
          subst d8
          go_simp
          exact hK.out _ _ hG rfl (fun _ _ _ h => h)
        · intro f w1 hG hF K hK
          have d8 : f 76 = .bool false := hF 8 (by kernel_rfl)
          have d14 : f 82 = .pointer (some ⟨gt, 1, none⟩) := hF 14 (by kernel_rfl)
          clear hF
          rw [if_pos (by rw [wanted_val (g := 8) (d := 76) (b := false) (c := false) rfl (by kernel_rfl) (show some (f 76) = some (.bool false) from congrArg some d8)]; rfl)]
          dsimp only at hK ⊢
          generalize f 76 = v76 at *
          generalize f 82 = v82 at *
          subst d8
          subst d14
          have y : w1.cell? ⟨gt, 1, none⟩ = some (.bool ah) := (HBT.out.bel hG).cell 1
          go_simp
          exact hK.out _ _ hG rfl (fun _ _ _ h => h)
        · intro f w1 hG hF K hK
          have d8 : f 76 = .bool false := hF 8 (by kernel_rfl)
          have d13 : f 81 = .bool ah := hF 13 (by kernel_rfl)
          have d15 : f 83 = .bool ah := hF 15 (by kernel_rfl)
          clear hF
          rw [if_pos (by rw [wanted_val (g := 8) (d := 76) (b := false) (c := false) rfl (by kernel_rfl) (show some (f 76) = some (.bool false) from congrArg some d8)]; rfl)]
          dsimp only at hK ⊢
          generalize f 76 = v76 at *
          generalize f 81 = v81 at *
          generalize f 83 = v83 at *
          subst d8
          subst d13
          subst d15
          have e : (ah != ah) = false := by simp
          go_simp
          exact hK.out _ _ hG rfl (fun _ _ _ h => h)
        · refine StepA.guarded rfl ?_
          intro f w1 hG hF K hK
          have d8 : f 76 = .bool false := hF 8 (by kernel_rfl)
          have d16 : f 84 = .bool false := hF 16 (by kernel_rfl)
          clear hF
          dsimp only at hK ⊢
          generalize f 76 = v76 at *
          generalize f 84 = v84 at *
          subst d8
          subst d16
          go_simp
          exact hK.out _ _ hG rfl (fun _ _ _ h => h)
        · refine StepA.guarded rfl ?_
          intro f w1 hG hF K hK
          have d17 : f 85 = .bool false := hF 17 (by kernel_rfl)
          clear hF
          dsimp only at hK ⊢
          generalize f 85 = v85 at *
          subst d17
          go_simp
          exact hK.out _ _ hG rfl (fun _ _ _ h => h)
        · intro f w1 hG hF K hK
          have d18 : f 86 = .bool false := hF 18 (by kernel_rfl)
          clear hF
          rw [if_pos (by rw [wanted_val (g := 18) (d := 86) (b := false) (c := false) rfl (by kernel_rfl) (show some (f 86) = some (.bool false) from congrArg some d18)]; rfl)]
          dsimp only at hK ⊢
          generalize f 86 = v86 at *
          subst d18
          go_simp
          exact hK.out _ _ hG rfl (fun _ _ _ h => h)
        · intro f w1 hG hF K hK
          have d18 : f 86 = .bool false := hF 18 (by kernel_rfl)
          clear hF
          rw [if_pos (by rw [wanted_val (g := 18) (d := 86) (b := false) (c := false) rfl (by kernel_rfl) (show some (f 86) = some (.bool false) from congrArg some d18)]; rfl)]
          dsimp only at hK ⊢
          generalize f 86 = v86 at *
          subst d18
          go_simp
          exact hK.out _ _ hG rfl (fun _ _ _ h => h)
        · intro f w1 hG hF K hK
          have d18 : f 86 = .bool false := hF 18 (by kernel_rfl)
          have d19 : f 87 = .slice (some ⟨ga, 0, none⟩) N N := hF 19 (by kernel_rfl)
          have d20 : f 88 = .int .i64 (i : Int) := hF 20 (by kernel_rfl)
          clear hF
          rw [if_pos (by rw [wanted_val (g := 18) (d := 86) (b := false) (c := false) rfl (by kernel_rfl) (show some (f 86) = some (.bool false) from congrArg some d18)]; rfl)]
          dsimp only at hK ⊢
          generalize f 86 = v86 at *
          generalize f 87 = v87 at *
          generalize f 88 = v88 at *
          subst d18
          subst d19
          subst d20
          go_simp
          exact hK.out _ _ hG rfl (fun _ _ _ h => h)
        · intro f w1 hG hF K hK
          have d18 : f 86 = .bool false := hF 18 (by kernel_rfl)
          have d21 : f 89 = .pointer (some ⟨ga, i * 4, none⟩) := hF 21 (by kernel_rfl)
          clear hF
          rw [if_pos (by rw [wanted_val (g := 18) (d := 86) (b := false) (c := false) rfl (by kernel_rfl) (show some (f 86) = some (.bool false) from congrArg some d18)]; rfl)]
          dsimp only at hK ⊢
          generalize f 86 = v86 at *
          generalize f 89 = v89 at *
          subst d18
          subst d21
          go_simp
          exact hK.out _ _ hG rfl (fun _ _ _ h => h)
        · intro f w1 hG hF K hK
          have d18 : f 86 = .bool false := hF 18 (by kernel_rfl)
          have d22 : f 90 = .pointer (some ⟨ga, i * 4 + 2, none⟩) := hF 22 (by kernel_rfl)
          clear hF
          rw [if_pos (by rw [wanted_val (g := 18) (d := 86) (b := false) (c := false) rfl (by kernel_rfl) (show some (f 86) = some (.bool false) from congrArg some d18)]; rfl)]
          dsimp only at hK ⊢
          generalize f 86 = v86 at *
          generalize f 90 = v90 at *
          subst d18
          subst d22
          have y : w1.cell? ⟨ga, i * 4 + 2, none⟩ = some (.int .i64 ao) := (HBA.out.bel hG).cell _ |>.trans HA2.out
          go_simp
          exact hK.out _ _ hG rfl (fun _ _ _ h => h)
        · intro f w1 hG hF K hK
          have d18 : f 86 = .bool false := hF 18 (by kernel_rfl)
          clear hF
          rw [if_pos (by rw [wanted_val (g := 18) (d := 86) (b := false) (c := false) rfl (by kernel_rfl) (show some (f 86) = some (.bool false) from congrArg some d18)]; rfl)]
          dsimp only at hK ⊢
          generalize f 86 = v86 at *
          subst d18
          go_simp
          exact hK.out _ _ hG rfl (fun _ _ _ h => h)
        · intro f w1 hG hF K hK
          have d18 : f 86 = .bool false := hF 18 (by kernel_rfl)
          have d24 : f 92 = .pointer (some ⟨gt, 2, none⟩) := hF 24 (by kernel_rfl)
          clear hF
          rw [if_pos (by rw [wanted_val (g := 18) (d := 86) (b := false) (c := false) rfl (by kernel_rfl) (show some (f 86) = some (.bool false) from congrArg some d18)]; rfl)]
          dsimp only at hK ⊢
          generalize f 86 = v86 at *
          generalize f 92 = v92 at *
          subst d18
          subst d24
          have y : w1.cell? ⟨gt, 2, none⟩ = some (.int .i64 ao) := (HBT.out.bel hG).cell 2
          go_simp
          exact hK.out _ _ hG rfl (fun _ _ _ h => h)
        · intro f w1 hG hF K hK
          have d18 : f 86 = .bool false := hF 18 (by kernel_rfl)
          have d23 : f 91 = .int .i64 ao := hF 23 (by kernel_rfl)
          have d25 : f 93 = .int .i64 ao := hF 25 (by kernel_rfl)
          clear hF
          rw [if_pos (by rw [wanted_val (g := 18) (d := 86) (b := false) (c := false) rfl (by kernel_rfl) (show some (f 86) = some (.bool false) from congrArg some d18)]; rfl)]
          dsimp only at hK ⊢
          generalize f 86 = v86 at *
          generalize f 91 = v91 at *
          generalize f 93 = v93 at *
          subst d18
          subst d23
          subst d25
          have e : (ao != ao) = false := by simp
          go_simp
          exact hK.out _ _ hG rfl (fun _ _ _ h => h)
        · refine StepA.guarded rfl ?_
          intro f w1 hG hF K hK
          have d18 : f 86 = .bool false := hF 18 (by kernel_rfl)
          have d26 : f 94 = .bool false := hF 26 (by kernel_rfl)
          clear hF
          dsimp only at hK ⊢
          generalize f 86 = v86 at *
          generalize f 94 = v94 at *
          subst d18
          subst d26
          go_simp
          exact hK.out _ _ hG rfl (fun _ _ _ h => h)
        · refine StepA.guarded rfl ?_
          intro f w1 hG hF K hK
          have d27 : f 95 = .bool false := hF 27 (by kernel_rfl)
          clear hF
          dsimp only at hK ⊢
          generalize f 95 = v95 at *
          subst d27
          go_simp
          exact hK.out _ _ hG rfl (fun _ _ _ h => h)
        · intro f w1 hG hF K hK
          have d28 : f 96 = .bool false := hF 28 (by kernel_rfl)
          clear hF
          rw [if_pos (by rw [wanted_val (g := 28) (d := 96) (b := false) (c := false) rfl (by kernel_rfl) (show some (f 96) = some (.bool false) from congrArg some d28)]; rfl)]
          dsimp only at hK ⊢
          generalize f 96 = v96 at *
          subst d28
          go_simp
          exact hK.out _ _ hG rfl (fun _ _ _ h => h)
        · intro f w1 hG hF K hK
          have d28 : f 96 = .bool false := hF 28 (by kernel_rfl)
          clear hF
          rw [if_pos (by rw [wanted_val (g := 28) (d := 96) (b := false) (c := false) rfl (by kernel_rfl) (show some (f 96) = some (.bool false) from congrArg some d28)]; rfl)]
          dsimp only at hK ⊢
          generalize f 96 = v96 at *
          subst d28
          go_simp
          exact hK.out _ _ hG rfl (fun _ _ _ h => h)
        · intro f w1 hG hF K hK
          have d28 : f 96 = .bool false := hF 28 (by kernel_rfl)
          have d29 : f 97 = .slice (some ⟨ga, 0, none⟩) N N := hF 29 (by kernel_rfl)
          have d30 : f 98 = .int .i64 (i : Int) := hF 30 (by kernel_rfl)
          clear hF
          rw [if_pos (by rw [wanted_val (g := 28) (d := 96) (b := false) (c := false) rfl (by kernel_rfl) (show some (f 96) = some (.bool false) from congrArg some d28)]; rfl)]
          dsimp only at hK ⊢
          generalize f 96 = v96 at *
          generalize f 97 = v97 at *
          generalize f 98 = v98 at *
          subst d28
          subst d29
          subst d30
          go_simp
          exact hK.out _ _ hG rfl (fun _ _ _ h => h)
        · intro f w1 hG hF K hK
          have d28 : f 96 = .bool false := hF 28 (by kernel_rfl)
          have d31 : f 99 = .pointer (some ⟨ga, i * 4, none⟩) := hF 31 (by kernel_rfl)
          clear hF
          rw [if_pos (by rw [wanted_val (g := 28) (d := 96) (b := false) (c := false) rfl (by kernel_rfl) (show some (f 96) = some (.bool false) from congrArg some d28)]; rfl)]
          dsimp only at hK ⊢
          generalize f 96 = v96 at *
          generalize f 99 = v99 at *
          subst d28
          subst d31
          go_simp
          exact hK.out _ _ hG rfl (fun _ _ _ h => h)
        · intro f w1 hG hF K hK
          have d28 : f 96 = .bool false := hF 28 (by kernel_rfl)
          have d32 : f 100 = .pointer (some ⟨ga, i * 4 + 3, none⟩) := hF 32 (by kernel_rfl)
          clear hF
          rw [if_pos (by rw [wanted_val (g := 28) (d := 96) (b := false) (c := false) rfl (by kernel_rfl) (show some (f 96) = some (.bool false) from congrArg some d28)]; rfl)]
          dsimp only at hK ⊢
          generalize f 96 = v96 at *
          generalize f 100 = v100 at *
          subst d28
          subst d32
          have y : w1.cell? ⟨ga, i * 4 + 3, none⟩ = some (.slice AWa aw.length cWa) := (HBA.out.bel hG).cell _ |>.trans HA3.out
          go_simp
          exact hK.out _ _ hG rfl (fun _ _ _ h => h)
        · intro f w1 hG hF K hK
          have d28 : f 96 = .bool false := hF 28 (by kernel_rfl)
          clear hF
          rw [if_pos (by rw [wanted_val (g := 28) (d := 96) (b := false) (c := false) rfl (by kernel_rfl) (show some (f 96) = some (.bool false) from congrArg some d28)]; rfl)]
          dsimp only at hK ⊢
          generalize f 96 = v96 at *
          subst d28
          go_simp
          exact hK.out _ _ hG rfl (fun _ _ _ h => h)
        · intro f w1 hG hF K hK
          have d28 : f 96 = .bool false := hF 28 (by kernel_rfl)
          have d34 : f 102 = .pointer (some ⟨gt, 3, none⟩) := hF 34 (by kernel_rfl)
          clear hF
          rw [if_pos (by rw [wanted_val (g := 28) (d := 96) (b := false) (c := false) rfl (by kernel_rfl) (show some (f 96) = some (.bool false) from congrArg some d28)]; rfl)]
          dsimp only at hK ⊢
          generalize f 96 = v96 at *
          generalize f 102 = v102 at *
          subst d28
          subst d34
          have y : w1.cell? ⟨gt, 3, none⟩ = some (.slice AWb aw.length cWb) := (HBT.out.bel hG).cell 3
          go_simp
          exact hK.out _ _ hG rfl (fun _ _ _ h => h)
        · intro f w1 hG hF K hK
          have d28 : f 96 = .bool false := hF 28 (by kernel_rfl)
          have d33 : f 101 = .slice AWa aw.length cWa := hF 33 (by kernel_rfl)
          have d35 : f 103 = .slice AWb aw.length cWb := hF 35 (by kernel_rfl)
          clear hF
          rw [if_pos (by rw [wanted_val (g := 28) (d := 96) (b := false) (c := false) rfl (by kernel_rfl) (show some (f 96) = some (.bool false) from congrArg some d28)]; rfl)]
          dsimp only at hK ⊢
          generalize f 96 = v96 at *
          generalize f 101 = v101 at *
          generalize f 103 = v103 at *
          subst d28
          subst d33
          subst d35
          go_simp
          refine (HSM.out w1 (HSA.out.bel hG) (HSB.out.bel hG)).mono ?_
          rintro e w20 ⟨rfl, hb20⟩
          exact hK.out _ _ (hG.trans (hb20.mono hG.size)) rfl (fun j _ _ h => h)
        · intro f w1 hG hF K hK
          have d28 : f 96 = .bool false := hF 28 (by kernel_rfl)
          have d36 : f 104 = .bool true := hF 36 (by kernel_rfl)
          clear hF
          rw [if_pos (by rw [wanted_val (g := 28) (d := 96) (b := false) (c := false) rfl (by kernel_rfl) (show some (f 96) = some (.bool false) from congrArg some d28)]; rfl)]
          dsimp only at hK ⊢
          generalize f 96 = v96 at *
          generalize f 104 = v104 at *
          subst d28
          subst d36
          go_simp
          exact hK.out _ _ hG rfl (fun _ _ _ h => h)
        · refine StepA.guarded rfl ?_
          intro f w1 hG hF K hK
          have d28 : f 96 = .bool false := hF 28 (by kernel_rfl)
          have d37 : f 105 = .bool false := hF 37 (by kernel_rfl)
          clear hF
          dsimp only at hK ⊢
          generalize f 96 = v96 at *
          generalize f 105 = v105 at *
          subst d28
          subst d37
          go_simp
          exact hK.out _ _ hG rfl (fun _ _ _ h => h)
        intro f w20 hG hF
        have eL : f 106 = .bool false := hF 38 (by decide)
        have HB20 := Lib.hid hG
        clear hF hG
        dsimp only
        generalize f 68 = v68
        generalize f 69 = v69
        generalize f 70 = v70
        generalize f 71 = v71
        generalize f 72 = v72
        generalize f 73 = v73
        generalize f 74 = v74
        generalize f 75 = v75
        generalize f 76 = v76
        generalize f 77 = v77
        generalize f 78 = v78
        generalize f 79 = v79
        generalize f 80 = v80
        generalize f 81 = v81
        generalize f 82 = v82
        generalize f 83 = v83
        generalize f 84 = v84
        generalize f 85 = v85
        generalize f 86 = v86
        generalize f 87 = v87
        generalize f 88 = v88
        generalize f 89 = v89
        generalize f 90 = v90
        generalize f 91 = v91
        generalize f 92 = v92
        generalize f 93 = v93
        generalize f 94 = v94
        generalize f 95 = v95
        generalize f 96 = v96
        generalize f 97 = v97
        generalize f 98 = v98
        generalize f 99 = v99
        generalize f 100 = v100
        generalize f 101 = v101
        generalize f 102 = v102
        generalize f 103 = v103
        generalize f 104 = v104
        generalize f 105 = v105
        generalize f 106 = v106 at *
        subst eL
        have HB21 := Lib.hid (HBL.out.trans (HB20.out.mono HBL.out.size))
        have HX21 := Lib.hid (HX9.out.bel HB20.out)
        clear HB20
        go_wp2_with fail
        rw [E1.out]
        exact ⟨⟨i + 1, A', q', c', by omega, rfl, rfl, HQ.out.1, HQ.out.2, HX21, HB21⟩, MM.out⟩
      · have hii : i = N := by omega
        subst hii
        have HSL := Lib.hid (len_st (by omega : (0 : Int) ≤ room) L i)
        obtain ⟨S, hS⟩ : ∃ S, S = stN room L i := ⟨_, rfl⟩
        rw [← hS] at hX hq HMA HOP6 HSL
        have HQL := Lib.hid hq
        have hqb : q ≤ 64 := by have := HSL.out; omega
        obtain ⟨gy, hgy⟩ : ∃ g, g = wr.heap.size := ⟨_, rfl⟩
        obtain ⟨wx, hwx⟩ : ∃ x, x = wr.alloc (.cells #[] 3) := ⟨_, rfl⟩
        have alx : Below wr.heap.size wr wx := by rw [hwx]; exact (Below.refl _ _).alloc (Nat.le_refl _) _
        have HOX := Lib.hid (show wx.ownsRow wr.heap.size 3 1 (.slice (some ⟨wr.heap.size, 0, none⟩) 0 0) 0 [] by rw [hwx]; exact World.ownsRow_lit wr #[] 0 (Nat.le_refl _) (by decide) rfl)
        have HBX := Lib.hid (hB.out.trans (alx.mono hB.out.size))
        have HAX := Lib.hid (hX.out)
        have HRX := Lib.hid (show Below wr.heap.size wr wx from alx)
        have HPX := Lib.hid (show Seg wx Aa (intV (pagesN S)) from Seg.of_own (kept_bel (kept_bel HOP6.out hB.out) alx))
        have HWX := Lib.hid hwx
        obtain ⟨wb, hwb⟩ : ∃ x, x = wr := ⟨_, rfl⟩
        rw [← hwb] at HOX HAX HRX HWX ⊢
        have HPB := Lib.hid (show Seg wb Aa (intV (pagesN S)) by rw [hwb]; exact Seg.of_own (kept_bel HOP6.out hB.out))
        have HWB := Lib.hid (show Below w6.heap.size w6 wb by rw [hwb]; exact hB.out)
        have i0 : ¬ (i : Int) < (i : Int) := by omega
        clear hS hq hX hB hwx alx hwb hgy HQ0
        go_upto_region 17 with fail
        rw [← HWX.out]
        go_wp2_with fail
        go_loopw [11, 111] (fun s11 s wr => ∃ j : Nat, j ≤ q ∧ s = .int .i64 j ∧ Hid (wr.ownsRow wb.heap.size 3 1 s11 j (intV (pagesN (S.take j)))) ∧ Hid (Below wb.heap.size wb wr)) (fun _ s _ => q - (intOf s).toNat)
        case atStart => exact ⟨0, Nat.zero_le _, rfl, HOX, HRX⟩
        case round =>
          clear HOX HRX HBX HPX HWX
          obtain ⟨j, hjq, rfl, hO, hR⟩ := hrel
          obtain ⟨AO, cO, hv, _⟩ := own_shapeS hO.out
          subst hv
          by_cases hlt2 : j < q
          · have hjl : j < S.length := by have := HQL.out; omega
            obtain ⟨b, off, he, hbl, hcell⟩ := HAX.out (by intro e; have := congrArg List.length e; rw [rowH_length] at this; simp only [List.length_nil] at this; omega)
            subst he
            obtain ⟨s, hs⟩ : ∃ s, s = S[j] := ⟨_, rfl⟩
            have CC : ∀ k, k < 3 → wr.cell? ⟨b, off + j * 3 + k, none⟩ = (heldV s)[k]? := fun k hk => by
              rw [Nat.add_assoc, World.cell?_of_block (hR.out.block b hbl), hcell (j * 3 + k) (by rw [rowH_length]; omega), rowH_at hjl hk]; exact congrArg (fun x : HeldM => (heldV x)[k]?) hs.symm
            have PN2 := Lib.hid (show intV (pagesN (S.take (j + 1))) = intV (pagesN (S.take j)) ++ [.int .i64 s.page] by
              unfold pagesN
              rw [List.take_succ_eq_append_getElem hjl, List.map_append, hs]
              exact intV_snoc _ _)
            obtain ⟨pa, pb, pc⟩ := s
            have c0 : wr.cell? ⟨b, off + j * 3, none⟩ = some (.int .i64 pa) := CC 0 (by omega)
            have c1 : wr.cell? ⟨b, off + j * 3 + 1, none⟩ = some (.int .i64 (pb : Int)) := CC 1 (by omega)
            have c2 : wr.cell? ⟨b, off + j * 3 + 2, none⟩ = some (.bool pc) := CC 2 (by omega)
            obtain ⟨w1', hw1⟩ : ∃ x, x = wr.alloc (.cells #[.int .i64 pa, .int .i64 (pb : Int), .bool pc] 41) := ⟨_, rfl⟩
            have al1 : Below wr.heap.size wr w1' := by rw [hw1]; exact (Below.refl _ _).alloc (Nat.le_refl _) _
            have HR1 := Lib.hid (hR.out.trans (al1.mono hR.out.size))
            obtain ⟨v', w2', hrun, hown2, hbe⟩ := app_int wb.heap.size w1' _ j _ pa (kept_bel hO.out al1) (by omega) HR1.out.size
            have b0 : w1'.cell? ⟨wr.heap.size, 0, none⟩ = some (.int .i64 pa) := by rw [hw1]; exact (Bk.new wr 41 #[.int .i64 pa, .int .i64 (pb : Int), .bool pc]).cell 0
            have HRUN := Lib.hid hrun
            have HO2 := Lib.hid (show w2'.ownsRow wb.heap.size 3 1 v' (j + 1) (intV (pagesN (S.take (j + 1)))) by rw [PN2.out]; exact hown2)
            have HR2 := Lib.hid (HR1.out.trans hbe)
            have HW1 := Lib.hid hw1
            have E1 := Lib.hid (show ((j : Int) + 1) = ((j + 1 : Nat) : Int) by omega)
            have MM := Lib.hid (show q - (intOf (.int .i64 ((j + 1 : Nat) : Int))).toNat < q - (intOf (.int .i64 (j : Int))).toNat by simp only [intOf]; omega)
            have i1 : (0 : Int) ≤ (j : Int) := by omega
            have i2 : (j : Int) < (q : Int) := by omega
            clear hs CC hcell hw1 al1 hrun hown2 hbe hO hR
            go_upto_region 20 with fail
            rw [← HW1.out]
            clear c0 c1 c2
            go_wp2_with (at_builtin; refine Lib.wpList_append_run _ rfl _ _ _ _ rfl _ _ rfl rfl _ _ HRUN.out ?_)
            rw [E1.out]
            exact ⟨⟨j + 1, by omega, rfl, HO2, HR2⟩, MM.out⟩
          · have hjj : j = S.length := by have := HQL.out; omega
            have j0 : ¬ (j : Int) < (q : Int) := by omega
            have hpl : (pagesN S).length = S.length := by unfold pagesN; rw [List.length_map]
            have hso : Seg wr AO (intV (pagesN S)) := by have := Seg.of_own hO.out; rw [hjj, List.take_length] at this; exact this
            have CS := Lib.hid (sameV Aa AO ca cO (pagesN S) wr (HPB.out.bel hR.out) hso (by rw [hpl]; omega))
            rw [hpl] at CS
            have HF := Lib.hid (HB6.out.trans (HWB.out.mono HB6.out.size) |>.trans (hR.out.mono (Nat.le_trans HB6.out.size HWB.out.size)))
            obtain rfl : ma = S.length := HMA.out
            obtain rfl : j = S.length := hjj
            clear hO hR hso hpl
            go_wp2_with fail
            refine CS.out.mono ?_
            rintro e w9 ⟨rfl, b9⟩
            have HG := Lib.hid (HF.out.trans (b9.mono HF.out.size))
            clear b9
            go_wp2_with fail
            go_ret
            exact ⟨rfl, HG.out⟩
end Go.Proofs.Ytfbpagbfdccgfaa
