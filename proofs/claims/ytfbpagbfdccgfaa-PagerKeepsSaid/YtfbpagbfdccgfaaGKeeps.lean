/- PagerKeeps's own walk. Condition: the calls lie in memory. -/
import Derived.Test.YtfbpagbfdccgfaaGKF
namespace Go.Proofs.Ytfbpagbfdccgfaa
open Go.RowKit

theorem app_slot (B : Nat) (w1 : World) (g n cap : Nat) (T : List HeldM) (p : Int) (ho : w1.ownsRow B 41 3 (.slice (some ⟨g, 0, none⟩) n cap) n (rowH T)) (hk : n ≤ 1000000) (hb : B ≤ w1.heap.size) :
    ∃ g' cap' w', (Builtin.append_ #[29, 29] 29 #[.slice (some ⟨g, 0, none⟩) n cap, .slice (some ⟨w1.heap.size, 0, none⟩) 1 1]).run Try.prog (w1.alloc (.cells #[.int .i64 p, .int .i64 1, .bool false] 41)) = .ok (.slice (some ⟨g', 0, none⟩) (n + 1) cap') w' ∧ w'.ownsRow B 41 3 (.slice (some ⟨g', 0, none⟩) (n + 1) cap') (n + 1) (rowH (T ++ [⟨p, 1, false⟩])) ∧ Below B w1 w' := by
  have al := (Below.refl w1.heap.size w1).alloc (Nat.le_refl _) (.cells #[.int .i64 p, .int .i64 1, .bool false] 41)
  have hcell := (Bk.new w1 41 #[.int .i64 p, .int .i64 1, .bool false])
  obtain ⟨v', w', h1, h2, ⟨g', cap', h3⟩, _, _, _, h7, _⟩ := app_two B g n cap T (w1.alloc (.cells #[.int .i64 p, .int .i64 1, .bool false] 41)) (kept_bel ho al) (some ⟨w1.heap.size, 0, none⟩) 1 1 [⟨p, 1, false⟩] rfl (fun ad e j u hu => by
    injection e with e
    subst e
    rw [show ((⟨w1.heap.size, 0, none⟩ : Addr).add j) = ⟨w1.heap.size, j, none⟩ by unfold Addr.add; split <;> simp_all, hcell.cell j]
    simpa [rowH, heldV] using hu) (by omega) (fun e => by cases e) (Nat.le_trans hb al.size)
  subst h3
  exact ⟨g', cap', w', h1, h2, (al.mono hb).trans h7⟩
/-- Each operation's fact where the turned pages are counted. -/
def tuF (gt g n cap nw : Nat) (A : Option Addr) (cW : Nat) (j : Nat) (v _u : Value) (_w : World) : Prop := match j with
  | 0 => v = .pointer (some ⟨gt, 3, none⟩)
  | 1 => v = .slice A nw cW
  | 2 => v = .int .i64 (nw : Int)
  | 3 => v = .slice (some ⟨g, 0, none⟩) n cap
  | 4 => v = .int .i64 (nw : Int)
  | 5 => v = .bool false
  | _ => True
set_option maxRecDepth 100000 in
set_option maxHeartbeats 16000000 in
theorem keeps_any (room : Int) (A : Option Addr) (n c : Nat) (l : List (Int × Int)) (hn : n = l.length) (hc : n ≤ c) (hz : n ≤ 9223372036854775807) (w : World) (hA : Seg w A (opsV l)) :
    Calls Try.prog 4 #[.int .i64 room, .slice A n c] w fun e w' => e = .returned (.bool true) ∧ Below w.heap.size w w' := by
  have CFW := Lib.hid (fun (w1 : World) (hb : Below w.heap.size w w1) => few_any w1 A n c l hn (hA.bel hb) hc hz)
  clear hA hn hc
  obtain ⟨L, hL⟩ : ∃ L, L = l.take 300 := ⟨_, rfl⟩
  rw [← hL] at CFW
  have hN3 : L.length ≤ 300 := by rw [hL, List.length_take]; omega
  obtain ⟨N, hN⟩ : ∃ N, N = L.length := ⟨_, rfl⟩
  rw [← hN] at CFW hN3
  have HN := Lib.hid hN
  clear hL hN
  by_cases hr : room < 1 ∨ 64 < room
  · have hr1 : room < 1 ∨ (¬ room < 1 ∧ 64 < room) := by omega
    clear hr CFW
    go_enter Try.func4, Try.ntmps4
    rcases hr1 with hr2 | ⟨hr2, hr3⟩
    · have j1 : decide (room < 1) = true := decide_eq_true hr2
      go_wp2_with fail
      refine (awake_any w).mono ?_
      rintro e w7 ⟨rfl, b7⟩
      have HB7 := Lib.hid b7
      clear b7
      go_wp2_with fail
      go_ret
      exact ⟨rfl, HB7.out⟩
    · have j1 : decide (room < 1) = false := decide_eq_false (by omega)
      have j2 : decide (room > 64) = true := decide_eq_true hr3
      go_wp2_with fail
      refine (awake_any w).mono ?_
      rintro e w7 ⟨rfl, b7⟩
      have HB7 := Lib.hid b7
      clear b7
      go_wp2_with fail
      go_ret
      exact ⟨rfl, HB7.out⟩
  · have hr1 : 1 ≤ room := by omega
    have hr2 : room ≤ 64 := by omega
    have j1 : decide (room < 1) = false := decide_eq_false (by omega)
    have j2 : decide (room > 64) = false := decide_eq_false (by omega)
    have j3 : ¬ room < 1 := by omega
    have j4 : ¬ 64 < room := by omega
    clear hr
    go_enter Try.func4, Try.ntmps4
    go_wp2_with fail
    refine (CFW.out w (Below.refl _ _)).mono ?_
    rintro e w1 ⟨⟨g1, d1, rfl, hd1, o1, _⟩, b1⟩
    have HB1 := Lib.hid b1
    have CP := Lib.hid (play_ok room hr1 hr2 (some ⟨g1, 0, none⟩) N d1 L HN.out hN3 w1 o1)
    clear o1 b1
    go_wp2_with fail
    refine CP.out.mono ?_
    rintro e w3 ⟨ga, ma, Aa, ca, rfl, hma, hmac, hacA, hopA, b3⟩
    obtain ⟨BA, hBA⟩ : ∃ x, x = w1.heap.size := ⟨_, rfl⟩
    rw [← hBA] at hacA hopA
    have HACA := Lib.hid hacA
    have HOP := Lib.hid hopA
    have HMA := Lib.hid hma
    have hml : (ma : Int) ≤ room := by rw [hma]; exact len_st (by omega) L N
    have hm64 : ma ≤ 64 := by omega
    have j5 : decide ((ma : Int) > room) = false := decide_eq_false (by omega)
    have HB3 := Lib.hid (HB1.out.trans (b3.mono HB1.out.size))
    clear hacA hopA hma b3 HB1 CP hBA
    go_wp2_with fail
    refine (CFW.out w3 HB3.out).mono ?_
    rintro e w5 ⟨⟨g5, d5, rfl, hd5, o5, hg5⟩, b5⟩
    have HACA5 := Lib.hid (HACA.out.bel b5)
    have HOP5 := Lib.hid (kept_bel HOP.out b5)
    have HB5 := Lib.hid (HB3.out.trans (b5.mono HB3.out.size))
    have HS5 := Lib.hid o5
    clear o5 b5 HACA HOP HB3
    have n1 : ((N : Int) != (N : Int)) = false := by simp
    go_wp2_with fail
    refine (awake_any w5).mono ?_
    rintro e w6 ⟨rfl, b6⟩
    have HACA6 := Lib.hid (HACA5.out.bel b6)
    have HOP6 := Lib.hid (kept_bel HOP5.out b6)
    have HB6 := Lib.hid (HB5.out.trans (b6.mono HB5.out.size))
    have HS6 := Lib.hid (HS5.out.bel b6)
    clear b6 HACA5 HOP5 HB5 HS5
    go_upto_region 8 with fail
    have HO0 := Lib.hid (World.ownsRow_lit w6 #[] 0 (Nat.le_refl w6.heap.size) (by decide) rfl : (w6.alloc (.cells #[] 41)).ownsRow w6.heap.size 41 3 (.slice (some ⟨w6.heap.size, 0, none⟩) 0 0) 0 (rowH []))
    have HB0 := Lib.hid ((Below.refl w6.heap.size w6).alloc (Nat.le_refl _) (.cells #[] 41))
    go_wp2_with fail
    clear n1
    go_loopw [7, 50] (fun s7 s wr => ∃ (i : Nat) (T : List HeldM) (n g cap : Nat), i ≤ N ∧ s = .int .i64 i ∧ s7 = .slice (some ⟨g, 0, none⟩) n cap ∧ Hid (n = T.length) ∧ Hid (T.Perm (stN room L i)) ∧ Hid (wr.ownsRow w6.heap.size 41 3 (.slice (some ⟨g, 0, none⟩) n cap) n (rowH T)) ∧ Hid (Below w6.heap.size w6 wr)) (fun _ s _ => N - (intOf s).toNat)
    case atStart => exact ⟨0, [], 0, w6.heap.size, 0, Nat.zero_le _, rfl, rfl, Lib.hid rfl, Lib.hid (List.Perm.refl _), HO0, HB0⟩
    case round =>
      clear HO0 HB0
      obtain ⟨i, T, n, g, cap, hin, rfl, rfl, hNT, hPT, hO, hB⟩ := hrel
      have hn64 : n ≤ 64 := by
        have h1 := len_st (by omega : (0 : Int) ≤ room) L i
        have h2 := hPT.out.length_eq
        have h3 := hNT.out
        omega
      have hcap : n ≤ cap := by obtain ⟨_, _, h, _⟩ := own_cellsR hO.out; exact h
      by_cases hlt : i < N
      · have hil : i < L.length := by have := HN.out; omega
        obtain ⟨b, off, he, hbl, hcell⟩ := HS6.out.bel hB.out (by intro e; have := congrArg List.length e; rw [opsV_length] at this; simp only [List.length_nil] at this; omega)
        simp only [Option.some.injEq, Addr.mk.injEq, and_true] at he
        obtain ⟨rfl, rfl⟩ := he
        obtain ⟨kp, hkp⟩ : ∃ o, o = L[i] := ⟨_, rfl⟩
        have hgd : L.getD i (0, 0) = kp := by rw [hkp]; simp [hil]
        have rd : ∀ k, k < 2 → wr.cell? ⟨g5, 0 + (i * 2 + k), none⟩ = (opV kp)[k]? := fun k hk => by
          rw [hcell (i * 2 + k) (by rw [opsV_length]; omega), opsV_at hil hk, hkp]
        have c0 : wr.cell? ⟨g5, i * 2, none⟩ = some (.int .i64 kp.1) := by have := rd 0 (by omega); rw [Nat.zero_add, Nat.add_zero] at this; exact this
        have c1 : wr.cell? ⟨g5, i * 2 + 1, none⟩ = some (.int .i64 kp.2) := by have := rd 1 (by omega); rw [Nat.zero_add] at this; exact this
        have hste : (doM room (stN room L i) kp.1 kp.2).1 = stN room L (i + 1) := by rw [← hgd]; rfl
        have hace : (doM room (stN room L i) kp.1 kp.2).2 = acN room L i := by rw [← hgd]; rfl
        have KC := keep_cases room (stN room L i) T kp.1 kp.2 hPT.out (once_st room L i) (above_st room L i) (len_st (by omega) L i)
        obtain ⟨k, p⟩ := kp
        dsimp only at c0 c1 hste hace KC
        generalize doM room (stN room L i) k p = r at KC hste hace
        obtain ⟨cA, hbA, _, hjA⟩ := HACA6.out.bel hB.out
        obtain ⟨AWa, cWa, a0, a1, a2, a3, hoA⟩ := hjA i hlt
        rw [← hace] at a0 a1 a2 a3 hoA
        obtain ⟨l2, ae, ah, ao, aw⟩ := r
        dsimp only at a0 a1 a2 a3 hoA KC hste
        have hwl : aw.length ≤ 1000000 := by
          have h1 := st_grows room L i
          have h2 := wrote_le room (stN room L i) (L.getD i (0, 0)).1 (L.getD i (0, 0)).2 i h1.1
          have h3 : (doM room (stN room L i) (L.getD i (0, 0)).1 (L.getD i (0, 0)).2).2 = acN room L i := rfl
          rw [h3, ← hace] at h2
          exact Nat.le_trans h2 (by omega)
        obtain ⟨nw, hnw⟩ : ∃ x, x = aw.length := ⟨_, rfl⟩
        rw [← hnw] at a3 hwl KC
        have HSTE := Lib.hid hste
        clear hoA hnw hace hjA hste
        obtain ⟨w7, hw7⟩ : ∃ w7, w7 = wr.alloc (.cells #[.int .i64 k, .int .i64 p] 31) := ⟨_, rfl⟩
        have al7 : Below wr.heap.size wr w7 := by rw [hw7]; exact (Below.refl _ _).alloc (Nat.le_refl _) _
        have bk7 : Bk w7 wr.heap.size 31 #[.int .i64 k, .int .i64 p] := by rw [hw7]; exact Bk.new wr _ _
        have HA7 := Lib.hid (hbA.bel al7)
        have q0 : w7.cell? ⟨ga, i * 4, none⟩ = some (.int .i64 ae) := by rw [HA7.out.cell]; exact a0
        have q1 : w7.cell? ⟨ga, i * 4 + 1, none⟩ = some (.bool ah) := by rw [HA7.out.cell]; exact a1
        have q2 : w7.cell? ⟨ga, i * 4 + 2, none⟩ = some (.int .i64 ao) := by rw [HA7.out.cell]; exact a2
        have q3 : w7.cell? ⟨ga, i * 4 + 3, none⟩ = some (.slice AWa nw cWa) := by rw [HA7.out.cell]; exact a3
        obtain ⟨w8, hw8⟩ : ∃ w8, w8 = w7.alloc (.cells #[.int .i64 ae, .bool ah, .int .i64 ao, .slice AWa nw cWa] 38) := ⟨_, rfl⟩
        have al8 : Below w7.heap.size w7 w8 := by rw [hw8]; exact (Below.refl _ _).alloc (Nat.le_refl _) _
        have al : Below wr.heap.size wr w8 := al7.trans (al8.mono al7.size)
        have HX8 := Lib.hid (bk7.bel al8)
        have HT8 := Lib.hid (show Bk w8 w7.heap.size 38 #[.int .i64 ae, .bool ah, .int .i64 ao, .slice AWa nw cWa] by rw [hw8]; exact Bk.new w7 _ _)
        have HB8 := Lib.hid (hB.out.trans (al.mono hB.out.size))
        have HO8 := Lib.hid (kept_bel hO.out al)
        have E1 := Lib.hid (show ((i : Int) + 1) = ((i + 1 : Nat) : Int) by omega)
        have MM := Lib.hid (show N - (intOf (.int .i64 ((i + 1 : Nat) : Int))).toNat < N - (intOf (.int .i64 (i : Int))).toNat by simp only [intOf]; omega)
        have i1 : (0 : Int) ≤ (i : Int) := by omega
        have i2 : (i : Int) < (N : Int) := by omega
        have HW7 := Lib.hid hw7
        have HW8 := Lib.hid hw8
        obtain ⟨go, hgo⟩ : ∃ g, g = wr.heap.size := ⟨_, rfl⟩
        have HGO := Lib.hid hgo
        obtain ⟨gt, hgt⟩ : ∃ g, g = w7.heap.size := ⟨_, rfl⟩
        have HGT := Lib.hid hgt
        rw [← hgt] at HT8
        rw [← hgo] at HX8
        have KC := Lib.hid KC
        clear rd hkp hgd hcell hw7 hw8 al7 al8 al bk7 hbA a0 a1 a2 a3 HA7 hO hB hgo hgt hil
        go_upto_region 11 with fail
        rw [← HW7.out, ← HGO.out]
        clear c0 c1
        go_upto_region 12 with fail
        rw [← HW8.out, ← HGT.out]
        clear q0 q1 q2 q3 HW7 HW8 HGO HGT
        have y0 := HX8.out.cell 0
        have y1 := HX8.out.cell 1
        have z0 := HT8.out.cell 0
        have z1 := HT8.out.cell 1
        have z2 := HT8.out.cell 2
        have z3 := HT8.out.cell 3
        rcases KC.out with H | H | H | H | H | H | H
        · obtain ⟨h1, h2, h3, h4, h5⟩ := H
          subst h2
          subst h3
          subst h4
          have e1 : (ae != 0) = true := by simpa using h1
          have HP := Lib.hid (by rw [HSTE.out] at h5; exact h5 : T.Perm (stN room L (i + 1)))
          clear h1 h5 KC
          go_wp2_with fail
          rw [E1.out]
          exact ⟨⟨i + 1, T, n, g, cap, by omega, rfl, rfl, hNT, HP, HO8, HB8⟩, MM.out⟩
        · obtain ⟨h1, h2, h3, h4⟩ := H
          subst h1
          subst h2
          have HTN := Lib.hid (show turnN T = nw from h3.symm)
          have CT := Lib.hid (fun (w2 : World) (b2 : Below w8.heap.size w8 w2) => turned_any (some ⟨g, 0, none⟩) n cap T hNT.out (by omega) w2 (own_seg (kept_bel HO8.out b2)))
          have HP := Lib.hid (by rw [HSTE.out] at h4; exact h4 : (T.map cleanH).Perm (stN room L (i + 1)))
          clear h3 h4 KC
          go_wp2_with fail
          refine wp_region_list [some 78, some 79, some 80, some 81, some 82, some 83] (fun _ => 0) (tuF gt g n cap nw AWa cWa) (fun w1 => Below w8.heap.size w8 w1) (by kernel_rfl) (Below.refl _ _).drew rfl (by kernel_rfl) (by kernel_rfl) (by kernel_rfl) (by kernel_rfl) (fun W hW => ?_)
          simp only [List.filterMap_cons, List.filterMap_nil, id, putsS, Act.put, List.setIfInBounds_toArray, List.set_cons_zero, List.set_cons_succ] at hW
          subst hW
          refine ⟨⟨?_, ?_, ?_, ?_, ?_, ?_, trivial⟩, ?_⟩
          · -- 0: Op.fieldAddr 38 t10 3
            refine StepL.act ?_
            intro f w1 hG hF K hK
            clear hF
            dsimp only at hK ⊢
            go_simp
            exact hK.out _ _ hG rfl (fun _ _ _ _ h => h)
          · -- 1: Op.load 24 t78
            refine StepL.act ?_
            intro f w1 hG hF K hK
            have d0 : (tuF gt g n cap nw AWa cWa) 0 (f 78) (f 0) w1 := hF 0 (by kernel_rfl)
            clear hF
            dsimp only at hK ⊢
            generalize f 78 = v78 at *
            subst d0
            have y : w1.cell? ⟨gt, 3, none⟩ = some (.slice AWa nw cWa) := (HT8.out.bel hG).cell 3
            go_simp
            exact hK.out _ _ hG rfl (fun _ _ _ _ h => h)
          · -- 2: Op.call ( builtin len, args := #[t79], argTypes := #[24] )
            refine StepL.act ?_
            intro f w1 hG hF K hK
            have d1 : (tuF gt g n cap nw AWa cWa) 1 (f 79) (f 0) w1 := hF 1 (by kernel_rfl)
            clear hF
            dsimp only at hK ⊢
            generalize f 79 = v79 at *
            subst d1
            go_simp
            exact hK.out _ _ hG rfl (fun _ _ _ _ h => h)
          · -- 3: Op.move t7
            refine StepL.act ?_
            intro f w1 hG hF K hK
            clear hF
            dsimp only at hK ⊢
            go_simp
            exact hK.out _ _ hG rfl (fun _ _ _ _ h => h)
          · -- 4: Op.call ( value (Operand.func 11), args := #[t81], argTypes := #[29] )
            refine StepL.act ?_
            intro f w1 hG hF K hK
            have d3 : (tuF gt g n cap nw AWa cWa) 3 (f 81) (f 0) w1 := hF 3 (by kernel_rfl)
            clear hF
            dsimp only at hK ⊢
            generalize f 81 = v81 at *
            subst d3
            go_simp
            refine (CT.out w1 hG).mono ?_
            rintro e w20 ⟨rfl, hb20⟩
            exact hK.out _ _ (hG.trans (hb20.mono hG.size)) (by rw [HTN.out]; rfl) (fun j _ _ _ h => h)
          · -- 5: Op.binOp BinOp.neq 3 t80 t82 3
            refine StepL.act ?_
            intro f w1 hG hF K hK
            have d2 : (tuF gt g n cap nw AWa cWa) 2 (f 80) (f 0) w1 := hF 2 (by kernel_rfl)
            have d4 : (tuF gt g n cap nw AWa cWa) 4 (f 82) (f 0) w1 := hF 4 (by kernel_rfl)
            clear hF
            dsimp only at hK ⊢
            generalize f 80 = v80 at *
            generalize f 82 = v82 at *
            subst d2
            subst d4
            have e : ((nw : Int) != (nw : Int)) = false := by simp
            go_simp
            exact hK.out _ _ hG rfl (fun _ _ _ _ h => h)
          intro f w9 hG hF
          have eL : f 83 = .bool false := hF 5 (by decide)
          have HB9 := Lib.hid (HB8.out.trans (hG.mono HB8.out.size))
          have HO9 := Lib.hid (kept_bel HO8.out hG)
          clear hF hG HX8 HT8 HO8 HB8 CT y0 y1 z0 z1 z2 z3
          dsimp only
          generalize f 78 = v78
          generalize f 79 = v79
          generalize f 80 = v80
          generalize f 81 = v81
          generalize f 82 = v82
          generalize f 83 = v83 at *
          subst eL
          go_wp2_with fail
          go_loopw [86] (fun s wr => ∃ j : Nat, j ≤ n ∧ s = .int .i64 j ∧ Hid (wr.ownsRow w6.heap.size 41 3 (.slice (some ⟨g, 0, none⟩) n cap) n (rowH (clT T j))) ∧ Hid (Below w6.heap.size w6 wr)) (fun s _ => n - (intOf s).toNat)
          case atStart => exact ⟨0, Nat.zero_le _, rfl, HO9, HB9⟩
          case round =>
            clear HO9 HB9
            obtain ⟨j, hjn, rfl, hO9, hB9⟩ := hrel
            by_cases hlj : j < n
            · have hjT : j < T.length := by have := hNT.out; omega
              have hjC : j < (clT T j).length := by rw [clT_length T j (by omega)]; exact hjT
              have hat : (clT T j)[j] = T[j] := clT_at hjT hjC
              obtain ⟨cur, hbk, _, _, hsz, _, hge⟩ := own_cellsR hO9.out
              obtain ⟨pt, p2⟩ : ∃ pt, wr.cell? ⟨g, j * 3 + 2, none⟩ = some (.bool pt) := ⟨_, own_cellR hO9.out hjC 2 (by omega)⟩
              have f2 : wr.frozen? ⟨g, j * 3 + 2, none⟩ = false := hbk.frozen _
              have HO10 := Lib.hid (own_setR (k := 2) hO9.out hjC (by omega) (.bool false) (cleanH T[j]) (by rw [hat]; rfl))
              rw [← clT_next hjT] at HO10
              have HB10 := Lib.hid (hB9.out.setCell (p := ⟨g, j * 3 + 2, none⟩) hge (.bool false))
              have k1 : (0 : Int) ≤ (j : Int) := by omega
              have k2 : (j : Int) < (n : Int) := by omega
              have E3 := Lib.hid (show ((j : Int) + 1) = ((j + 1 : Nat) : Int) by omega)
              have M3 := Lib.hid (show n - (intOf (.int .i64 ((j + 1 : Nat) : Int))).toNat < n - (intOf (.int .i64 (j : Int))).toNat by simp only [intOf]; omega)
              clear hbk hge hsz hO9 hB9 hat hjC hjT
              go_wp2_with fail
              rw [E3.out]
              exact ⟨⟨j + 1, by omega, rfl, HO10, HB10⟩, M3.out⟩
            · have k0 : ¬ (j : Int) < (n : Int) := by omega
              have HO10 := Lib.hid (show wr.ownsRow w6.heap.size 41 3 (.slice (some ⟨g, 0, none⟩) n cap) n (rowH (T.map cleanH)) by
                have e : clT T j = T.map cleanH := by unfold clT; rw [List.take_of_length_le (by have := hNT.out; omega), List.drop_of_length_le (by have := hNT.out; omega), List.append_nil]
                rw [← e]; exact hO9.out)
              have HN2 := Lib.hid (show n = (T.map cleanH).length by rw [List.length_map]; exact hNT.out)
              clear hO9
              go_wp2_with fail
              rw [E1.out]
              exact ⟨⟨i + 1, T.map cleanH, n, g, cap, by omega, rfl, rfl, HN2, HP, HO10, hB9⟩, MM.out⟩
        · obtain ⟨h1, h2, h3, h4, h5, o, hoT, h6, h7, h8, h9, h10⟩ := H
          subst h1
          subst h2
          subst h3
          obtain ⟨x, hx⟩ : ∃ x, x = T[o] := ⟨_, rfl⟩
          rw [← hx] at h8 h9
          obtain ⟨pa, pb, pc⟩ := x
          dsimp only at h8 h9
          subst h8
          have nroom : ((n : Int) != room) = false := by have := hNT.out; simp; omega
          have CF := Lib.hid (fun (w2 : World) (b2 : Below w8.heap.size w8 w2) (page : Int) => find_anyK (some ⟨g, 0, none⟩) n cap T page hNT.out (by omega) w2 (own_seg (kept_bel HO8.out b2)))
          have HF := Lib.hid h4
          have HF2 := Lib.hid h7
          have HTX := Lib.hid hx
          have HP := Lib.hid (by rw [HSTE.out] at h10; exact h10 : (T.eraseIdx o ++ [(⟨p, 1, false⟩ : HeldM)]).Perm (stN room L (i + 1)))
          have hon : o < n := by have := hNT.out; omega
          have hao : decide (ao ≥ 0) = true := decide_eq_true h6
          have HC9 := Lib.hid h9
          have HROOM := Lib.hid h5
          clear h4 h5 h7 h9 h10 KC hx
          go_wp2_with fail
          refine (CF.out w8 (Below.refl _ _) p).mono ?_
          rintro e w9 ⟨rfl, b9⟩
          rw [HF.out]
          have HX9 := Lib.hid (HX8.out.bel b9)
          have HT9 := Lib.hid (HT8.out.bel b9)
          have HO9 := Lib.hid (kept_bel HO8.out b9)
          have HBA := Lib.hid b9
          have HB9 := Lib.hid (HB8.out.trans (b9.mono HB8.out.size))
          clear b9 HX8 HT8 HO8 HB8 y0 y1 z0 z1 z2 z3
          have y0 := HX9.out.cell 0
          have y1 := HX9.out.cell 1
          have z0 := HT9.out.cell 0
          have z1 := HT9.out.cell 1
          have z2 := HT9.out.cell 2
          have z3 := HT9.out.cell 3
          go_wp2_with fail
          refine (CF.out w9 HBA.out ao).mono ?_
          rintro e w10 ⟨rfl, b10⟩
          rw [HF2.out]
          have HX10 := Lib.hid (HX9.out.bel b10)
          have HT10 := Lib.hid (HT9.out.bel b10)
          have HO10 := Lib.hid (kept_bel HO9.out b10)
          have HB10 := Lib.hid (HB9.out.trans (b10.mono HB9.out.size))
          clear b10 HX9 HT9 HO9 HB9 HBA CF y0 y1 z0 z1 z2 z3
          have y0 := HX10.out.cell 0
          have y1 := HX10.out.cell 1
          have z0 := HT10.out.cell 0
          have z1 := HT10.out.cell 1
          have z2 := HT10.out.cell 2
          have z3 := HT10.out.cell 3
          have p0 : w10.cell? ⟨g, o * 3, none⟩ = some (.int .i64 pa) := by have := own_cellR HO10.out hoT 0 (by omega); rw [← HTX.out] at this; exact this
          have p1 : w10.cell? ⟨g, o * 3 + 1, none⟩ = some (.int .i64 0) := by have := own_cellR HO10.out hoT 1 (by omega); rw [← HTX.out] at this; exact this
          have p2 : w10.cell? ⟨g, o * 3 + 2, none⟩ = some (.bool pc) := by have := own_cellR HO10.out hoT 2 (by omega); rw [← HTX.out] at this; exact this
          have k1 : (0 : Int) ≤ (o : Int) := by omega
          have k2 : (o : Int) < (n : Int) := by omega
          have k3 : ¬ (o : Int) < 0 := by omega
          have ec : pc = ((nw : Int) == 1) := by
            rw [HC9.out]
            by_cases h : nw = 1
            · subst h; rfl
            · rw [beq_eq_false_iff_ne.2 h, beq_eq_false_iff_ne.2 (by omega : (nw : Int) ≠ 1)]
          rw [ec] at p2
          clear ec
          go_wp2_with fail
          go_quiet (fail)
          generalize hW : w10.drewN nq = W
          have bd : Below w10.heap.size w10 W := by rw [← hW]; exact below_drewN (Below.refl _ _) _
          have HX11 := Lib.hid (HX10.out.bel bd)
          have HT11 := Lib.hid (HT10.out.bel bd)
          have HO11 := Lib.hid (kept_bel HO10.out bd)
          have HB11 := Lib.hid (HB10.out.trans (bd.mono HB10.out.size))
          clear bd hW HX10 HT10 HO10 HB10 y0 y1 z0 z1 z2 z3 p0 p1 p2
          obtain ⟨i0, hi0, hz0, hz1, hz2⟩ := info_parts info_slot
          have hS := own_seg HO11.out
          have HS1 := Lib.hid (show ∀ w1, Below W.heap.size W w1 → ∀ j u, (rowH (T.take o))[j]? = some u → w1.cell? ((⟨g, 0, none⟩ : Addr).add j) = some u from fun w1 hb j u hu => by
            refine seg_cells (hS.bel hb) j u ?_
            have hj : j < (rowH (T.take o)).length := (List.getElem?_eq_some_iff.1 hu).1
            rw [rowH_length, List.length_take] at hj
            rw [← rowH_take T o (by omega), List.getElem?_take, if_pos (by omega)] at hu
            exact hu)
          have HS2 := Lib.hid (by have h := seg_dropR hS (o + 1) (by omega); rw [Nat.zero_add] at h; exact h)
          have HS3 := Lib.hid (show ∀ w1, Below W.heap.size W w1 → ∀ A : Addr, (∀ j u, (rowH (T.drop (o + 1)))[j]? = some u → W.cell? (A.add j) = some u) → ∀ j u, (rowH (T.drop (o + 1)))[j]? = some u → w1.cell? (A.add j) = some u from fun w1 hb A h j u hu => by
            have h1 := h j u hu
            have hlt : (A.add j).block < W.heap.size := by
              rcases Nat.lt_or_ge (A.add j).block W.heap.size with h | h
              · exact h
              · rw [World.cell?, Array.getElem?_eq_none h] at h1; cases h1
            rw [World.cell?_of_block (w := W) (hb.block _ hlt)]
            exact h1)
          have q2 : (o : Int) ≤ (n : Int) := by omega
          have q3 : (o : Int) + 1 ≤ (n : Int) := by omega
          have q4 : (0 : Int) ≤ (o : Int) + 1 := by omega
          have q5 : o ≤ cap := by omega
          have q6 : o + 1 ≤ cap := by omega
          have q7 : o + 1 ≤ n := by omega
          have hln : T.length = n := hNT.out.symm
          clear hS
          go_wp2_with fail
          refine wp_region_was [some 142, some 143, some 144, some 145, some 146, some 147, some 148, some 149, some 150, some 151, some 7] (fun j => bif j == 10 then 151 else 0) (woF W.heap.size W T n cap o g 0) (fun w1 => Below W.heap.size W w1) (by kernel_rfl) (Below.refl _ _).drew rfl (by kernel_rfl) (by kernel_rfl) (by kernel_rfl) (by kernel_rfl) (fun U hU => ?_)
          simp only [List.filterMap_cons, List.filterMap_nil, id, putsS, Act.put, List.setIfInBounds_toArray, List.set_cons_zero, List.set_cons_succ] at hU
          subst hU
          refine ⟨⟨?_, ?_, ?_, ?_, ?_, ?_, ?_, ?_, ?_, ?_, ?_, trivial⟩, ?_⟩
          · -- 0: Op.buildSlice 29 0 #[]
            refine StepA.was ?_
            refine StepL.act ?_
            intro f w1 hG hF K hK
            clear hF
            dsimp only at hK ⊢
            go_simp
            exact hK.out _ _ (hG.alloc hG.size _) ⟨World.ownsRow_lit w1 #[] 0 hG.size (by decide) rfl, _, rfl⟩ (fun j _ u u' h => woF_bel ((Below.refl _ _).alloc (Nat.le_refl _) _) j u u' h)
          · -- 1: Op.move t0
            intro f w1 hG hO hF K hK
            have o7 : f 7 = .slice (some ⟨g, 0, none⟩) n cap := hO 7 (by kernel_rfl)
            clear hO hF
            dsimp only at hK ⊢
            generalize f 7 = y7 at *
            subst o7
            go_simp
            exact hK.out _ _ hG rfl (fun _ _ _ h => h)
          · -- 2: Op.move t1
            refine StepA.was ?_
            refine StepL.act ?_
            intro f w1 hG hF K hK
            clear hF
            dsimp only at hK ⊢
            go_simp
            exact hK.out _ _ hG rfl (fun _ _ _ _ h => h)
          · -- 3: Op.slice 29 t6 none (some t7) none
            refine StepA.was ?_
            refine StepL.act ?_
            intro f w1 hG hF K hK
            have d1 : (woF W.heap.size W T n cap o g 0) 1 (f 143) (f 0) w1 := hF 1 (by kernel_rfl)
            have d2 : (woF W.heap.size W T n cap o g 0) 2 (f 144) (f 0) w1 := hF 2 (by kernel_rfl)
            clear hF
            dsimp only at hK ⊢
            generalize f 143 = v6 at *
            generalize f 144 = v7 at *
            subst d1 d2
            go_simp
            exact hK.out _ _ hG rfl (fun _ _ _ _ h => h)
          · -- 4: Op.call ( builtin append, args := #[t5, t8], argTypes := #[29, 29] )
            refine StepA.was ?_
            intro f w1 hG hF K hK
            have d0 : (woF W.heap.size W T n cap o g 0) 0 (f 142) (f 0) w1 := hF 0 (by kernel_rfl)
            have d3 : (woF W.heap.size W T n cap o g 0) 3 (f 145) (f 0) w1 := hF 3 (by kernel_rfl)
            clear hF
            dsimp only at hK ⊢
            generalize hf142 : f 142 = v5 at *
            generalize hf145 : f 145 = v8 at *
            obtain ⟨d0, g0, rfl⟩ := d0
            have d3 : v8 = .slice (some ⟨g, 0, none⟩) o cap := d3
            subst d3
            obtain ⟨v', w2', hrun, hown, hsome, hb2⟩ := app_lit W.heap.size g0 w1 d0 (some ⟨g, 0, none⟩) o cap (T.take o) (by rw [List.length_take]; omega) (fun ad e j u hu => by cases e; exact HS1.out w1 hG j u hu) (by omega) (fun e => by cases e) hG.size
            refine Lib.wp_append_run w1 _ _ _ _ rfl _ _ rfl rfl _ w2' hrun (hK.out v' w2' (hG.trans (hb2.mono hG.size)) ⟨hown, hsome⟩ (fun j hj hdep h => woF_bel hb2 j _ _ h))
          · -- 5: Op.move t0
            intro f w1 hG hO hF K hK
            have o7 : f 7 = .slice (some ⟨g, 0, none⟩) n cap := hO 7 (by kernel_rfl)
            clear hO hF
            dsimp only at hK ⊢
            generalize f 7 = y7 at *
            subst o7
            go_simp
            exact hK.out _ _ hG rfl (fun _ _ _ h => h)
          · -- 6: Op.move t1
            refine StepA.was ?_
            refine StepL.act ?_
            intro f w1 hG hF K hK
            clear hF
            dsimp only at hK ⊢
            go_simp
            exact hK.out _ _ hG rfl (fun _ _ _ _ h => h)
          · -- 7: Op.binOp BinOp.add 3 t11 (const (1:i64)) 3
            refine StepA.was ?_
            refine StepL.act ?_
            intro f w1 hG hF K hK
            have d6 : (woF W.heap.size W T n cap o g 0) 6 (f 148) (f 0) w1 := hF 6 (by kernel_rfl)
            clear hF
            dsimp only at hK ⊢
            generalize f 148 = v11 at *
            subst d6
            have e1 : IntKind.i64.wrap ((o : Int) + 1) = (o : Int) + 1 := by rw [IntKind.wrap_i64]; omega
            go_simp
            exact hK.out _ _ hG rfl (fun _ _ _ _ h => h)
          · -- 8: Op.slice 29 t10 (some t12) none none
            refine StepA.was ?_
            refine StepL.act ?_
            intro f w1 hG hF K hK
            have d5 : (woF W.heap.size W T n cap o g 0) 5 (f 147) (f 0) w1 := hF 5 (by kernel_rfl)
            have d7 : (woF W.heap.size W T n cap o g 0) 7 (f 149) (f 0) w1 := hF 7 (by kernel_rfl)
            clear hF
            dsimp only at hK ⊢
            generalize f 147 = v10 at *
            generalize f 149 = v12 at *
            subst d5
            subst d7
            by_cases hci : cap = o + 1
            · subst hci
              go_simp
              exact hK.out _ _ hG ⟨⟨g, 0, none⟩, 0, by show Value.slice _ 0 0 = _; rw [show n - (o + 1) = 0 by omega], fun j u hu => absurd (List.getElem?_eq_some_iff.1 hu).1 (by rw [rowH_length, List.length_drop]; omega)⟩ (fun _ _ _ _ h => h)
            · go_simp
              exact hK.out _ _ hG ⟨_, _, rfl, HS2.out⟩ (fun _ _ _ _ h => h)
          · -- 9: Op.call ( builtin append, args := #[t9, t13], argTypes := #[29, 29] )
            refine StepA.was ?_
            intro f w1 hG hF K hK
            have d4 : (woF W.heap.size W T n cap o g 0) 4 (f 146) (f 0) w1 := hF 4 (by kernel_rfl)
            have d8 : (woF W.heap.size W T n cap o g 0) 8 (f 150) (f 0) w1 := hF 8 (by kernel_rfl)
            clear hF
            dsimp only at hK ⊢
            generalize hf146 : f 146 = v9 at *
            generalize hf150 : f 150 = v13 at *
            obtain ⟨d4, g4, c4, rfl⟩ := d4
            obtain ⟨A8, c8, rfl, hA8⟩ := d8
            obtain ⟨v', w2', hrun, hown, hsome, hold, hzero, _, hb2, _⟩ := app_two W.heap.size g4 o c4 (T.take o) w1 d4 (some A8) (n - (o + 1)) c8 (T.drop (o + 1)) (by rw [List.length_drop]; omega) (fun ad e j u hu => by cases e; exact HS3.out w1 hG A8 hA8 j u hu) (by omega) (fun e => by cases e) hG.size
            refine Lib.wp_append_run w1 _ _ _ _ rfl _ _ rfl rfl _ w2' hrun (hK.out v' w2' (hG.trans hb2) (by rw [show o + (n - (o + 1)) = n - 1 by omega] at hown hsome; exact ⟨hown, hsome⟩) ?_)
            intro j hj hdep h
            by_cases h0 : j = 0
            · subst h0
              obtain ⟨k1, k2⟩ := h
              exact ⟨hzero _ k1, k2⟩
            · by_cases h4 : j = 4
              · subst h4
                have h : w1.ownsRow W.heap.size 41 3 (f 146) o (rowH (T.take o)) ∧ ∃ g cap, f 146 = .slice (some ⟨g, 0, none⟩) o cap := h
                have h2 : w2'.ownsRow W.heap.size 41 3 (f 146) o (rowH (T.take o)) ∧ ∃ g cap, f 146 = .slice (some ⟨g, 0, none⟩) o cap := ⟨by rw [hf146]; exact hold, h.2⟩
                exact h2
              · exact woF_any h0 h4 hj h
          · -- 10: Op.assign t14
            refine StepA.was ?_
            intro f w1 hG hF K hK
            have d9 : (woF W.heap.size W T n cap o g 0) 9 (f 151) (f 0) w1 := hF 9 (by kernel_rfl)
            clear hF
            dsimp only at hK ⊢
            generalize hf151 : f 151 = v14 at *
            obtain ⟨d9, g9, c9, rfl⟩ := d9
            go_simp
            exact hK.out _ _ hG hf151.symm (fun _ _ _ h => h)

          · obtain ⟨m, hm⟩ : ∃ m, m = n - 1 := ⟨_, rfl⟩
            intro f w11 hG hF
            have R : w11.ownsRow W.heap.size 41 3 (f 151) (n - 1) (rowH (T.take o ++ T.drop (o + 1))) ∧ ∃ g cap, f 151 = .slice (some ⟨g, 0, none⟩) (n - 1) cap := hF 9 (by decide)
            have R2 : f 7 = f 151 := hF 10 (by decide)
            rw [← R2] at R
            rw [← hm] at R
            have HX12 := Lib.hid (HX11.out.bel hG)
            have HT12 := Lib.hid (HT11.out.bel hG)
            have HB12 := Lib.hid (HB11.out.trans (hG.mono HB11.out.size))
            have hmm : m ≤ 64 := by omega
            have HMM := Lib.hid (show m = (T.eraseIdx o).length by rw [List.length_eraseIdx, if_pos hoT]; omega)
            clear hF hG
            dsimp only
            clear R2
            generalize f 7 = v7 at *
            generalize f 142 = v142
            generalize f 143 = v143
            generalize f 144 = v144
            generalize f 145 = v145
            generalize f 146 = v146
            generalize f 147 = v147
            generalize f 148 = v148
            generalize f 149 = v149
            generalize f 150 = v150
            generalize f 151 = v151
            have HR := Lib.hid R.1
            obtain ⟨_, g9, c9, rfl⟩ := R
            have HR2 := Lib.hid (show w11.ownsRow w6.heap.size 41 3 (.slice (some ⟨g9, 0, none⟩) m c9) m (rowH (T.eraseIdx o)) by
              rw [List.eraseIdx_eq_take_drop_succ]
              exact own_base HR.out HB11.out.size)
            clear HR hm HX11 HT11 HO11 HB11 hln HS1 HS2 HS3
            have y0 := HX12.out.cell 0
            have y1 := HX12.out.cell 1
            have z0 := HT12.out.cell 0
            have z1 := HT12.out.cell 1
            have z2 := HT12.out.cell 2
            have z3 := HT12.out.cell 3
            obtain ⟨g', cap', w13, hrun, hown, hbe⟩ := app_slot w6.heap.size w11 g9 m c9 (T.eraseIdx o) p HR2.out (by omega) HB12.out.size
            have HRUN := Lib.hid hrun
            have HO13 := Lib.hid hown
            have HB13 := Lib.hid (HB12.out.trans hbe)
            have HN2 := Lib.hid (show m + 1 = (T.eraseIdx o ++ [(⟨p, 1, false⟩ : HeldM)]).length by rw [List.length_append, ← HMM.out]; rfl)
            clear hrun hown hbe
            go_wp2_with (at_builtin; refine Lib.wpList_append_run _ rfl _ _ _ _ rfl _ _ rfl rfl _ _ HRUN.out ?_)
            rw [E1.out]
            exact ⟨⟨i + 1, T.eraseIdx o ++ [⟨p, 1, false⟩], m + 1, g', cap', by omega, rfl, rfl, HN2, HP, HO13, HB13⟩, MM.out⟩
        · obtain ⟨h1, h2, h3, h4, h5⟩ := H
          subst h1
          subst h2
          subst h3
          subst h4
          obtain ⟨kk, hkk, h5, h6⟩ := h5
          obtain ⟨x, hx⟩ : ∃ x, x = T[kk] := ⟨_, rfl⟩
          have hpb : x.pins ≤ 300 := by
            have h1 := (st_grows room L i).2 x (by rw [hx]; exact hPT.out.mem_iff.1 (List.getElem_mem hkk))
            omega
          rw [← hx] at h6
          obtain ⟨pa, pb, pc⟩ := x
          have CF := Lib.hid (fun (w2 : World) (b2 : Below w8.heap.size w8 w2) (page : Int) => find_anyK (some ⟨g, 0, none⟩) n cap T page hNT.out (by omega) w2 (own_seg (kept_bel HO8.out b2)))
          have HF := Lib.hid h5
          have HTX := Lib.hid hx
          have HP := Lib.hid (by rw [HSTE.out] at h6; exact h6 : (T.set kk ⟨pa, pb + 1, pc⟩).Perm (stN room L (i + 1)))
          clear h5 h6 KC hx
          dsimp only at hpb
          go_wp2_with fail
          refine (CF.out w8 (Below.refl _ _) p).mono ?_
          rintro e w9 ⟨rfl, b9⟩
          rw [HF.out]
          have HX9 := Lib.hid (HX8.out.bel b9)
          have HT9 := Lib.hid (HT8.out.bel b9)
          have HO9 := Lib.hid (kept_bel HO8.out b9)
          have HB9 := Lib.hid (HB8.out.trans (b9.mono HB8.out.size))
          clear b9 HX8 HT8 HO8 HB8 CF y0 y1 z0 z1 z2 z3
          have y0 := HX9.out.cell 0
          have y1 := HX9.out.cell 1
          have z0 := HT9.out.cell 0
          have z1 := HT9.out.cell 1
          have z2 := HT9.out.cell 2
          have z3 := HT9.out.cell 3
          obtain ⟨cur, hbk, _, _, hsz, _, hge⟩ := own_cellsR HO9.out
          have hkT : kk * 3 + 3 ≤ n * 3 := by have := hNT.out; omega
          have p0 : w9.cell? ⟨g, kk * 3, none⟩ = some (.int .i64 pa) := by have := own_cellR HO9.out hkk 0 (by omega); rw [← HTX.out] at this; exact this
          have p1 : w9.cell? ⟨g, kk * 3 + 1, none⟩ = some (.int .i64 (pb : Int)) := by have := own_cellR HO9.out hkk 1 (by omega); rw [← HTX.out] at this; exact this
          have p2 : w9.cell? ⟨g, kk * 3 + 2, none⟩ = some (.bool pc) := by have := own_cellR HO9.out hkk 2 (by omega); rw [← HTX.out] at this; exact this
          have f1 : w9.frozen? ⟨g, kk * 3 + 1, none⟩ = false := hbk.frozen _
          have f2 : w9.frozen? ⟨g, kk * 3 + 2, none⟩ = false := hbk.frozen _
          have HO10 := Lib.hid (own_setR (k := 1) HO9.out hkk (by omega) (.int .i64 ((pb + 1 : Nat) : Int)) ⟨pa, pb + 1, pc⟩ (by rw [← HTX.out]; rfl))
          have HB10 := Lib.hid (HB9.out.setCell (p := ⟨g, kk * 3 + 1, none⟩) hge (.int .i64 ((pb + 1 : Nat) : Int)))
          have HN2 := Lib.hid (show n = (T.set kk ⟨pa, pb + 1, pc⟩).length by rw [List.length_set]; exact hNT.out)
          have k1 : (0 : Int) ≤ (kk : Int) := by omega
          have k2 : (kk : Int) < (n : Int) := by omega
          have k3 : ¬ (kk : Int) < 0 := by omega
          clear hbk hge hkT hsz
          clear HO9 HB9
          go_wp2_with fail
          rw [E1.out]
          exact ⟨⟨i + 1, T.set kk ⟨pa, pb + 1, pc⟩, n, g, cap, by omega, rfl, rfl, HN2, HP, HO10, HB10⟩, MM.out⟩
        · obtain ⟨h1, h2, h3, h4, h5, h6⟩ := H
          subst h1
          subst h2
          subst h3
          subst h4
          have CF := Lib.hid (fun (w2 : World) (b2 : Below w8.heap.size w8 w2) (page : Int) => find_anyK (some ⟨g, 0, none⟩) n cap T page hNT.out (by omega) w2 (own_seg (kept_bel HO8.out b2)))
          have HF := Lib.hid h5
          have HP := Lib.hid (by rw [HSTE.out] at h6; exact h6 : (T ++ [(⟨p, 1, false⟩ : HeldM)]).Perm (stN room L (i + 1)))
          clear h5 h6 KC
          go_wp2_with fail
          refine (CF.out w8 (Below.refl _ _) p).mono ?_
          rintro e w9 ⟨rfl, b9⟩
          rw [HF.out]
          have HX9 := Lib.hid (HX8.out.bel b9)
          have HT9 := Lib.hid (HT8.out.bel b9)
          have HO9 := Lib.hid (kept_bel HO8.out b9)
          have HB9 := Lib.hid (HB8.out.trans (b9.mono HB8.out.size))
          clear b9 HX8 HT8 HO8 HB8 CF y0 y1 z0 z1 z2 z3
          have y0 := HX9.out.cell 0
          have y1 := HX9.out.cell 1
          have z0 := HT9.out.cell 0
          have z1 := HT9.out.cell 1
          have z2 := HT9.out.cell 2
          have z3 := HT9.out.cell 3
          obtain ⟨g', cap', w10, hrun, hown, hbe⟩ := app_slot w6.heap.size w9 g n cap T p HO9.out (by omega) HB9.out.size
          have HRUN := Lib.hid hrun
          have HO10 := Lib.hid hown
          have HB10 := Lib.hid (HB9.out.trans hbe)
          have HN2 := Lib.hid (show n + 1 = (T ++ [(⟨p, 1, false⟩ : HeldM)]).length by rw [List.length_append, ← hNT.out]; rfl)
          clear hrun hown hbe
          go_wp2_with (at_builtin; refine Lib.wpList_append_run _ rfl _ _ _ _ rfl _ _ rfl rfl _ _ HRUN.out ?_)
          rw [E1.out]
          exact ⟨⟨i + 1, T ++ [⟨p, 1, false⟩], n + 1, g', cap', by omega, rfl, rfl, HN2, HP, HO10, HB10⟩, MM.out⟩
        · obtain ⟨h1, h2, h3, h5⟩ := H
          subst h1
          subst h2
          subst h3
          obtain ⟨kk, hkk, h5, hz, h6⟩ := h5
          obtain ⟨x, hx⟩ : ∃ x, x = T[kk] := ⟨_, rfl⟩
          have hpb : x.pins ≤ 300 := by
            have h1 := (st_grows room L i).2 x (by rw [hx]; exact hPT.out.mem_iff.1 (List.getElem_mem hkk))
            omega
          rw [← hx] at h6
          obtain ⟨pa, pb, pc⟩ := x
          rw [← hx] at hz
          dsimp only at hz
          have g3 : ((pb : Int) == 0) = false := by simpa using hz
          have g4 : (1 : Int) ≤ (pb : Int) := by omega
          have CF := Lib.hid (fun (w2 : World) (b2 : Below w8.heap.size w8 w2) (page : Int) => find_anyK (some ⟨g, 0, none⟩) n cap T page hNT.out (by omega) w2 (own_seg (kept_bel HO8.out b2)))
          have HF := Lib.hid h5
          have HTX := Lib.hid hx
          have HP := Lib.hid (by rw [HSTE.out] at h6; exact h6 : (T.set kk ⟨pa, pb - 1, pc⟩).Perm (stN room L (i + 1)))
          clear h5 h6 KC hx
          dsimp only at hpb
          go_wp2_with fail
          refine (CF.out w8 (Below.refl _ _) p).mono ?_
          rintro e w9 ⟨rfl, b9⟩
          rw [HF.out]
          have HX9 := Lib.hid (HX8.out.bel b9)
          have HT9 := Lib.hid (HT8.out.bel b9)
          have HO9 := Lib.hid (kept_bel HO8.out b9)
          have HB9 := Lib.hid (HB8.out.trans (b9.mono HB8.out.size))
          clear b9 HX8 HT8 HO8 HB8 CF y0 y1 z0 z1 z2 z3
          have y0 := HX9.out.cell 0
          have y1 := HX9.out.cell 1
          have z0 := HT9.out.cell 0
          have z1 := HT9.out.cell 1
          have z2 := HT9.out.cell 2
          have z3 := HT9.out.cell 3
          obtain ⟨cur, hbk, _, _, hsz, _, hge⟩ := own_cellsR HO9.out
          have hkT : kk * 3 + 3 ≤ n * 3 := by have := hNT.out; omega
          have p0 : w9.cell? ⟨g, kk * 3, none⟩ = some (.int .i64 pa) := by have := own_cellR HO9.out hkk 0 (by omega); rw [← HTX.out] at this; exact this
          have p1 : w9.cell? ⟨g, kk * 3 + 1, none⟩ = some (.int .i64 (pb : Int)) := by have := own_cellR HO9.out hkk 1 (by omega); rw [← HTX.out] at this; exact this
          have p2 : w9.cell? ⟨g, kk * 3 + 2, none⟩ = some (.bool pc) := by have := own_cellR HO9.out hkk 2 (by omega); rw [← HTX.out] at this; exact this
          have f1 : w9.frozen? ⟨g, kk * 3 + 1, none⟩ = false := hbk.frozen _
          have f2 : w9.frozen? ⟨g, kk * 3 + 2, none⟩ = false := hbk.frozen _
          have HO10 := Lib.hid (own_setR (k := 1) HO9.out hkk (by omega) (.int .i64 ((pb : Int) - 1)) ⟨pa, pb - 1, pc⟩ (by rw [← HTX.out]; show [Value.int .i64 pa, .int .i64 ((pb : Int) - 1), .bool pc] = [Value.int .i64 pa, .int .i64 ((pb - 1 : Nat) : Int), .bool pc]; rw [show ((pb - 1 : Nat) : Int) = (pb : Int) - 1 by omega]))
          have HB10 := Lib.hid (HB9.out.setCell (p := ⟨g, kk * 3 + 1, none⟩) hge (.int .i64 ((pb : Int) - 1)))
          have HN2 := Lib.hid (show n = (T.set kk ⟨pa, pb - 1, pc⟩).length by rw [List.length_set]; exact hNT.out)
          have k1 : (0 : Int) ≤ (kk : Int) := by omega
          have k2 : (kk : Int) < (n : Int) := by omega
          have k3 : ¬ (kk : Int) < 0 := by omega
          clear hbk hge hkT hsz
          clear HO9 HB9
          go_wp2_with fail
          rw [E1.out]
          exact ⟨⟨i + 1, T.set kk ⟨pa, pb - 1, pc⟩, n, g, cap, by omega, rfl, rfl, HN2, HP, HO10, HB10⟩, MM.out⟩
        · obtain ⟨h1, h2, h3, h5⟩ := H
          subst h1
          subst h2
          subst h3
          obtain ⟨kk, hkk, h5, hz, h6⟩ := h5
          obtain ⟨x, hx⟩ : ∃ x, x = T[kk] := ⟨_, rfl⟩
          have hpb : x.pins ≤ 300 := by
            have h1 := (st_grows room L i).2 x (by rw [hx]; exact hPT.out.mem_iff.1 (List.getElem_mem hkk))
            omega
          rw [← hx] at h6
          obtain ⟨pa, pb, pc⟩ := x
          rw [← hx] at hz
          dsimp only at hz
          have g3 : ((pb : Int) == 0) = false := by simpa using hz
          have g4 : (1 : Int) ≤ (pb : Int) := by omega
          have CF := Lib.hid (fun (w2 : World) (b2 : Below w8.heap.size w8 w2) (page : Int) => find_anyK (some ⟨g, 0, none⟩) n cap T page hNT.out (by omega) w2 (own_seg (kept_bel HO8.out b2)))
          have HF := Lib.hid h5
          have HTX := Lib.hid hx
          have HP := Lib.hid (by rw [HSTE.out] at h6; exact h6 : (T.set kk ⟨pa, pb, true⟩).Perm (stN room L (i + 1)))
          clear h5 h6 KC hx
          dsimp only at hpb
          go_wp2_with fail
          refine (CF.out w8 (Below.refl _ _) p).mono ?_
          rintro e w9 ⟨rfl, b9⟩
          rw [HF.out]
          have HX9 := Lib.hid (HX8.out.bel b9)
          have HT9 := Lib.hid (HT8.out.bel b9)
          have HO9 := Lib.hid (kept_bel HO8.out b9)
          have HB9 := Lib.hid (HB8.out.trans (b9.mono HB8.out.size))
          clear b9 HX8 HT8 HO8 HB8 CF y0 y1 z0 z1 z2 z3
          have y0 := HX9.out.cell 0
          have y1 := HX9.out.cell 1
          have z0 := HT9.out.cell 0
          have z1 := HT9.out.cell 1
          have z2 := HT9.out.cell 2
          have z3 := HT9.out.cell 3
          obtain ⟨cur, hbk, _, _, hsz, _, hge⟩ := own_cellsR HO9.out
          have hkT : kk * 3 + 3 ≤ n * 3 := by have := hNT.out; omega
          have p0 : w9.cell? ⟨g, kk * 3, none⟩ = some (.int .i64 pa) := by have := own_cellR HO9.out hkk 0 (by omega); rw [← HTX.out] at this; exact this
          have p1 : w9.cell? ⟨g, kk * 3 + 1, none⟩ = some (.int .i64 (pb : Int)) := by have := own_cellR HO9.out hkk 1 (by omega); rw [← HTX.out] at this; exact this
          have p2 : w9.cell? ⟨g, kk * 3 + 2, none⟩ = some (.bool pc) := by have := own_cellR HO9.out hkk 2 (by omega); rw [← HTX.out] at this; exact this
          have f1 : w9.frozen? ⟨g, kk * 3 + 1, none⟩ = false := hbk.frozen _
          have f2 : w9.frozen? ⟨g, kk * 3 + 2, none⟩ = false := hbk.frozen _
          have HO10 := Lib.hid (own_setR (k := 2) HO9.out hkk (by omega) (.bool true) ⟨pa, pb, true⟩ (by rw [← HTX.out]; rfl))
          have HB10 := Lib.hid (HB9.out.setCell (p := ⟨g, kk * 3 + 2, none⟩) hge (.bool true))
          have HN2 := Lib.hid (show n = (T.set kk ⟨pa, pb, true⟩).length by rw [List.length_set]; exact hNT.out)
          have k1 : (0 : Int) ≤ (kk : Int) := by omega
          have k2 : (kk : Int) < (n : Int) := by omega
          have k3 : ¬ (kk : Int) < 0 := by omega
          clear hbk hge hkT hsz
          clear HO9 HB9
          go_wp2_with fail
          rw [E1.out]
          exact ⟨⟨i + 1, T.set kk ⟨pa, pb, true⟩, n, g, cap, by omega, rfl, rfl, HN2, HP, HO10, HB10⟩, MM.out⟩
      · have hii : i = N := by omega
        subst hii
        have i0 : ¬ (i : Int) < (i : Int) := by omega
        obtain ⟨S, hS⟩ : ∃ S, S = stN room L i := ⟨_, rfl⟩
        have HON := Lib.hid (once_st room L i)
        rw [← hS] at HMA HOP6 hPT HON
        have HPS := Lib.hid (show Seg wr Aa (intV (pagesN S)) from Seg.of_own (kept_bel HOP6.out hB.out))
        have hpl : (pagesN S).length = ma := by unfold pagesN; rw [List.length_map, HMA.out]
        have HPL := Lib.hid hpl
        have CF := Lib.hid (fun (w2 : World) (b2 : Below wr.heap.size wr w2) (page : Int) => find_anyK (some ⟨g, 0, none⟩) n cap T page hNT.out (by omega) w2 (own_seg (kept_bel hO.out b2)))
        have HBX := Lib.hid (HB6.out.trans (hB.out.mono HB6.out.size))
        have HNM := Lib.hid (show n = ma by have h1 := hPT.out.length_eq; have h2 := hNT.out; have h3 := HMA.out; omega)
        obtain ⟨wb, hwb⟩ : ∃ x, x = wr := ⟨_, rfl⟩
        rw [← hwb] at HPS CF HBX
        rw [← hwb]
        clear hS hpl hO hB hwb
        go_wp2_with fail
        go_loopw [214] (fun s wr => ∃ j : Nat, j ≤ ma ∧ s = .int .i64 j ∧ Hid (Below wb.heap.size wb wr)) (fun s _ => ma - (intOf s).toNat)
        case atStart => exact ⟨0, Nat.zero_le _, rfl, Lib.hid (Below.refl _ _)⟩
        case round =>
          obtain ⟨j, hjm, rfl, hB⟩ := hrel
          by_cases hlj : j < ma
          · have hjS : j < S.length := by have := HMA.out; omega
            obtain ⟨b, off, he, hbl, hcell⟩ := HPS.out (by intro e; have := congrArg List.length e; rw [intV_length] at this; simp only [List.length_nil] at this; have := HPL.out; omega)
            subst he
            obtain ⟨y, hy⟩ : ∃ y, y = S[j].page := ⟨_, rfl⟩
            have c0 : wr.cell? ⟨b, off + j, none⟩ = some (.int .i64 y) := by
              rw [World.cell?_of_block (hB.out.block b hbl), hcell j (by rw [intV_length, HPL.out]; exact hlj), hy]
              simp [intV, pagesN, hjS]
            have CFJ := Lib.hid (CF.out wr hB.out y)
            obtain ⟨z, hz⟩ : ∃ z, z = findZ (isP y) T := ⟨_, rfl⟩
            have hz0 : decide (z < 0) = false := by rw [hz, hy]; exact decide_eq_false (page_there hPT.out hjS)
            rw [← hz] at CFJ
            have HH := Lib.hid (show ∀ w2, Below wr.heap.size wr w2 → Calls Try.prog 13 #[.slice (some ⟨b, off, none⟩) j ca, .int .i64 y] w2 fun e w' => e = .returned (.bool false) ∧ Below w2.heap.size w2 w' from fun w2 b2 =>
              has_any (some ⟨b, off, none⟩) j ca ((pagesN S).take j) y (by rw [List.length_take, HPL.out]; omega) (by omega) (by rw [hy]; exact page_once HON.out hjS) w2 (by
                intro hx
                refine ⟨b, off, rfl, Nat.lt_of_lt_of_le hbl (Nat.le_trans hB.out.size b2.size), fun q hq => ?_⟩
                rw [intV_length, List.length_take] at hq
                rw [World.cell?_of_block (b2.block b (Nat.lt_of_lt_of_le hbl hB.out.size)), World.cell?_of_block (hB.out.block b hbl), hcell q (by rw [intV_length]; omega)]
                unfold intV
                rw [List.map_take, List.getElem?_take, if_pos (by omega)]))
            have E3 := Lib.hid (show ((j : Int) + 1) = ((j + 1 : Nat) : Int) by omega)
            have M3 := Lib.hid (show ma - (intOf (.int .i64 ((j + 1 : Nat) : Int))).toNat < ma - (intOf (.int .i64 (j : Int))).toNat by simp only [intOf]; omega)
            have k1 : (0 : Int) ≤ (j : Int) := by omega
            have k2 : (j : Int) < (ma : Int) := by omega
            have k3 : (j : Int) ≤ (ma : Int) := by omega
            have k4 : j ≤ ca := by omega
            clear hcell hy hz hjS
            by_cases hj0 : 0 < j
            · have g0 : decide ((j : Int) > 0) = true := decide_eq_true (by omega)
              go_wp2_with fail
              refine CFJ.out.mono ?_
              rintro e w9 ⟨rfl, b9⟩
              have HH9 := Lib.hid (HH.out w9 b9)
              have HB9 := Lib.hid (hB.out.trans (b9.mono hB.out.size))
              clear b9 c0
              go_wp2_with fail
              refine HH9.out.mono ?_
              rintro e w10 ⟨rfl, b10⟩
              have HB10 := Lib.hid (HB9.out.trans (b10.mono HB9.out.size))
              clear b10
              go_wp2_with fail
              rw [E3.out]
              exact ⟨⟨j + 1, by omega, rfl, HB10⟩, M3.out⟩
            · have g0 : decide ((j : Int) > 0) = false := decide_eq_false (by omega)
              go_wp2_with fail
              refine CFJ.out.mono ?_
              rintro e w9 ⟨rfl, b9⟩
              have HB9 := Lib.hid (hB.out.trans (b9.mono hB.out.size))
              clear b9 c0
              go_wp2_with fail
              rw [E3.out]
              exact ⟨⟨j + 1, by omega, rfl, HB9⟩, M3.out⟩
          · have j0 : ¬ (j : Int) < (ma : Int) := by omega
            obtain rfl : n = ma := HNM.out
            have HG := Lib.hid (HBX.out.trans (hB.out.mono HBX.out.size))
            clear hB
            go_wp2_with fail
            go_ret
            exact ⟨rfl, HG.out⟩
end Go.Proofs.Ytfbpagbfdccgfaa
