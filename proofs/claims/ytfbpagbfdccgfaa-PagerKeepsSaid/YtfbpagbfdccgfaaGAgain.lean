/- PagerAgain's own walk. Condition: the calls lie in memory. -/
import Derived.Test.YtfbpagbfdccgfaaGAwake
import Derived.Test.YtfbpagbfdccgfaaSame7
import Derived.Deep.CutBlock
import Derived.Deep.DeepCutAuto
namespace Go.Proofs.Ytfbpagbfdccgfaa
open Go.RowKit

theorem getD_take (L : List (Int × Int)) {m i : Nat} (hi : i < m) : (L.take m).getD i (0, 0) = L.getD i (0, 0) := by
  simp only [List.getD_eq_getElem?_getD, List.getElem?_take, if_pos hi]
theorem st_take (room : Int) (L : List (Int × Int)) (m : Nat) : ∀ i, i ≤ m → stN room (L.take m) i = stN room L i
  | 0, _ => rfl
  | i + 1, h => by
    show (doM room (stN room (L.take m) i) ((L.take m).getD i (0, 0)).1 ((L.take m).getD i (0, 0)).2).1 = (doM room (stN room L i) (L.getD i (0, 0)).1 (L.getD i (0, 0)).2).1
    rw [st_take room L m i (by omega), getD_take L (by omega)]
theorem ac_take (room : Int) (L : List (Int × Int)) (m i : Nat) (h : i < m) : acN room (L.take m) i = acN room L i := by
  unfold acN
  rw [st_take room L m i (by omega), getD_take L h]
theorem seg_take {w : World} {b off : Nat} {l : List (Int × Int)} (h : Seg w (some ⟨b, off, none⟩) (opsV l)) (m : Nat) : Seg w (some ⟨b, off, none⟩) (opsV (l.take m)) := by
  intro hne
  have hl : (opsV (l.take m)).length ≤ (opsV l).length := by rw [opsV_length, opsV_length, List.length_take]; omega
  obtain ⟨b', off', e, hb, hc⟩ := h (by intro e; rw [e] at hl; exact hne (List.eq_nil_of_length_eq_zero (by simpa using hl)))
  refine ⟨b', off', e, hb, fun i hi => ?_⟩
  rw [hc i (by omega)]
  rcases Nat.lt_or_ge l.length m with h1 | h1
  · rw [List.take_of_length_le (by omega)]
  · rw [← opsV_take l m h1, List.getElem?_take, if_pos (by rw [opsV_length, List.length_take] at hi; omega)]
def gcF (cl : List Value) (j : Nat) (v _u : Value) (_w : World) : Prop := v = cl.getD j undef
theorem sameV (A B : Option Addr) (c d : Nat) (xs : List Int) (w : World) (hA : Seg w A (intV xs)) (hB : Seg w B (intV xs)) (hx : xs.length ≤ 1000000) :
    Calls Try.prog 10 #[.slice A xs.length c, .slice B xs.length d] w fun e w' => e = .returned (.bool true) ∧ Below w.heap.size w w' := by
  have := same_any A B c d xs xs w hA hB (by omega) (by omega)
  simpa using this
theorem wrote_le (room : Int) (l : List HeldM) (kind page : Int) (m : Nat) (hl : l.length ≤ m) : (doM room l kind page).2.wrote.length ≤ m + 1 := by
  unfold doM
  split
  · unfold flushM dirtyN
    show (sortI _).length ≤ _
    rw [sortI_length, List.length_map]
    have := List.length_filter_le (fun h : HeldM => h.turned) l
    omega
  · split
    · show ([] : List Int).length ≤ _; simp
    · split
      · unfold pinM
        split
        · show ([] : List Int).length ≤ _; simp
        · split
          · split
            · show ([] : List Int).length ≤ _; simp
            · show (if _ then _ else _ : List Int).length ≤ _
              split <;> simp
          · show ([] : List Int).length ≤ _; simp
      · split
        · unfold chgM
          split
          · show ([] : List Int).length ≤ _; simp
          · split
            · show ([] : List Int).length ≤ _; simp
            · show ([] : List Int).length ≤ _; simp
        · show ([] : List Int).length ≤ _; simp
set_option maxRecDepth 100000 in
set_option maxHeartbeats 8000000 in
theorem again_any (room : Int) (A : Option Addr) (n c : Nat) (l : List (Int × Int)) (nn : Int) (hn : n = l.length) (hc : n ≤ c) (hz : n ≤ 9223372036854775807) (w : World) (hA : Seg w A (opsV l)) (hb1 : -9223372036854775808 ≤ nn) (hb2 : nn ≤ 9223372036854775807) :
    Calls Try.prog 5 #[.int .i64 room, .slice A n c, .int .i64 nn] w fun e w' => e = .returned (.bool true) ∧ Below w.heap.size w w' := by
  have CF := Lib.hid (few_any w A n c l hn hA hc hz)
  clear hA hn hc
  obtain ⟨L, hL⟩ : ∃ L, L = l.take 300 := ⟨_, rfl⟩
  rw [← hL] at CF
  have hN3 : L.length ≤ 300 := by rw [hL, List.length_take]; omega
  have HTK := Lib.hid (show L.take 300 = L from List.take_of_length_le hN3)
  obtain ⟨N, hN⟩ : ∃ N, N = L.length := ⟨_, rfl⟩
  rw [← hN] at CF hN3
  have HN := Lib.hid hN
  have FW := Lib.hid (fun (w1 : World) (g d : Nat) (hd : N ≤ d) (hS : Seg w1 (some ⟨g, 0, none⟩) (opsV L)) => by
    have := few_any w1 _ N d L hN hS hd (by omega)
    rwa [HTK.out, ← hN] at this)
  clear hL hN
  go_enter Try.func5, Try.ntmps5
  go_wp2_with fail
  refine CF.out.mono ?_
  rintro e w1 ⟨⟨g1, d1, rfl, hd1, o1, _⟩, b1⟩
  have HS1 := Lib.hid o1
  have HB1 := Lib.hid b1
  clear o1 b1 CF
  go_upto_region 2 with fail
  go_cut [2] (fun s wx => ∃ m : Nat, m ≤ N ∧ s = .int .i64 (m : Int) ∧ wx = w1)
  case first =>
    by_cases h1 : nn < 0
    · have i1 : min nn (N : Int) = nn := by omega
      have i2 : max 0 nn = 0 := by omega
      have i3 : nn < (N : Int) := by omega
      have i4 : ¬ (N : Int) < nn := by omega
      have i5 : ¬ (0 : Int) < nn := by omega
      go_wp2_with fail
      all_goals (go_meet; exact ⟨0, Nat.zero_le _, rfl, rfl⟩)
    · by_cases h2 : nn ≤ (N : Int)
      · obtain ⟨m, rfl⟩ : ∃ m : Nat, nn = (m : Int) := ⟨nn.toNat, by omega⟩
        have i4 : ¬ (N : Int) < (m : Int) := by omega
        have i5 : ¬ (m : Int) < 0 := by omega
        go_wp2_with fail
        all_goals (go_meet; refine ⟨m, by omega, ?_, rfl⟩; first | rfl | (congr 1; omega))
      · have i4 : (N : Int) < nn := by omega
        have i5 : ¬ nn ≤ (N : Int) := by omega
        go_wp2_with fail
        all_goals (go_meet; refine ⟨N, Nat.le_refl _, ?_, rfl⟩; first | rfl | (congr 1; omega))
  case rest =>
    obtain ⟨m, hm, rfl, rfl⟩ := hcut
    have hmN : (m : Int) ≤ (N : Int) := by omega
    have HLM := Lib.hid (show (L.take m).length = m by rw [List.length_take, ← HN.out]; omega)
    by_cases hr : room < 1 ∨ 64 < room
    · have PN := Lib.hid (fun v w2 => play_no room v w2 hr)
      have NN := Lib.hid (fun w2 => new_no room w2 hr)
      have F1 := Lib.hid (FW.out wc g1 d1 hd1 HS1.out)
      have hr1 : room < 1 ∨ (¬ room < 1 ∧ 64 < room) := by omega
      go_wp2_with fail
      refine F1.out.mono ?_
      rintro e w2 ⟨⟨g2, d2, rfl, hd2, o2, _⟩, b2⟩
      have HB2 := Lib.hid (HB1.out.trans (b2.mono HB1.out.size))
      have HS2 := Lib.hid (HS1.out.bel b2)
      clear o2 b2 HS1 HB1 F1
      go_wp2_with fail
      refine (PN.out _ w2).mono ?_
      rintro e w3 ⟨rfl, rfl⟩
      have F2 := Lib.hid (FW.out w3 g1 d1 hd1 HS2.out)
      go_wp2_with fail
      refine F2.out.mono ?_
      rintro e w4 ⟨⟨g4, d4, rfl, hd4, o4, _⟩, b4⟩
      have HB4 := Lib.hid (HB2.out.trans (b4.mono HB2.out.size))
      clear o4 b4 F2 HB2 HS2
      have k1 : m ≤ d4 := by omega
      go_wp2_with fail
      refine (PN.out _ w4).mono ?_
      rintro e w5 ⟨rfl, rfl⟩
      go_wp2_with fail
      refine (NN.out w5).mono ?_
      rintro e w6 ⟨rfl, rfl⟩
      rcases hr1 with hr2 | ⟨hr2, hr3⟩
      · have j1 : decide (room < 1) = true := decide_eq_true hr2
        go_wp2_with fail
        refine (awake_any w6).mono ?_
        rintro e w7 ⟨rfl, b7⟩
        have HB7 := Lib.hid (HB4.out.trans (b7.mono HB4.out.size))
        clear b7
        go_wp2_with fail
        go_ret
        exact ⟨rfl, HB7.out⟩
      · have j1 : decide (room < 1) = false := decide_eq_false (by omega)
        have j2 : decide (64 < room) = true := decide_eq_true hr3
        go_wp2_with fail
        refine (awake_any w6).mono ?_
        rintro e w7 ⟨rfl, b7⟩
        have HB7 := Lib.hid (HB4.out.trans (b7.mono HB4.out.size))
        clear b7
        go_wp2_with fail
        go_ret
        exact ⟨rfl, HB7.out⟩
    · have hr1 : 1 ≤ room := by omega
      have hr2 : room ≤ 64 := by omega
      have j1 : decide (room < 1) = false := decide_eq_false (by omega)
      have j2 : decide (64 < room) = false := decide_eq_false (by omega)
      have j3 : ¬ room < 1 := by omega
      have j4 : ¬ 64 < room := by omega
      clear hr
      have F1 := Lib.hid (FW.out wc g1 d1 hd1 HS1.out)
      go_wp2_with fail
      refine F1.out.mono ?_
      rintro e w2 ⟨⟨g2, d2, rfl, hd2, o2, _⟩, b2⟩
      have HB2 := Lib.hid (HB1.out.trans (b2.mono HB1.out.size))
      have HS2 := Lib.hid (HS1.out.bel b2)
      have CP := Lib.hid (play_ok room hr1 hr2 (some ⟨g2, 0, none⟩) N d2 L HN.out hN3 w2 o2)
      clear o2 b2 HS1 HB1 F1
      go_wp2_with fail
      refine CP.out.mono ?_
      rintro e w3 ⟨ga, ma, Aa, ca, rfl, _, _, hacA, _, b3⟩
      obtain ⟨BA, hBA⟩ : ∃ x, x = w2.heap.size := ⟨_, rfl⟩
      rw [← hBA] at hacA
      have HACA := Lib.hid hacA
      have HB3 := Lib.hid (HB2.out.trans (b3.mono HB2.out.size))
      have HS3 := Lib.hid (HS2.out.bel b3)
      clear hacA b3 HS2 HB2 CP hBA
      have F2 := Lib.hid (FW.out w3 g1 d1 hd1 HS3.out)
      go_wp2_with fail
      refine F2.out.mono ?_
      rintro e w4 ⟨⟨g4, d4, rfl, hd4, o4, _⟩, b4⟩
      have HB4 := Lib.hid (HB3.out.trans (b4.mono HB3.out.size))
      have HS4 := Lib.hid (HS3.out.bel b4)
      have HACA4 := Lib.hid (HACA.out.bel b4)
      have k1 : m ≤ d4 := by omega
      have CP := Lib.hid (play_ok room hr1 hr2 (some ⟨g4, 0, none⟩) m d4 (L.take m) HLM.out.symm (by omega) w4 (seg_take o4 m))
      clear o4 b4 F2 HB3 HS3 HACA
      go_wp2_with fail
      refine CP.out.mono ?_
      rintro e w5 ⟨gb, mb, Ab, cb, rfl, hmb, hmbc, hacB, hopB, b5⟩
      obtain ⟨BB, hBB⟩ : ∃ x, x = w4.heap.size := ⟨_, rfl⟩
      rw [← hBB] at hacB hopB
      have HB5 := Lib.hid (HB4.out.trans (b5.mono HB4.out.size))
      have HS5 := Lib.hid (HS4.out.bel b5)
      have HACA5 := Lib.hid (HACA4.out.bel b5)
      have HACB5 := Lib.hid hacB
      have HOP5 := Lib.hid hopB
      have HMB := Lib.hid hmb
      clear hacB hopB b5 HS4 HB4 HACA4 CP hBB hmb
      have CN := Lib.hid (new_ok room w5 hr1 hr2)
      go_wp2_with fail
      refine CN.out.mono ?_
      rintro e w6 ⟨rfl, hp6, b6⟩
      obtain ⟨gp, hgp⟩ : ∃ x, x = w5.heap.size := ⟨_, rfl⟩
      rw [← hgp] at hp6 ⊢
      have HGP := Lib.hid (show w.heap.size ≤ gp by rw [hgp]; exact HB5.out.size)
      have HB6 := Lib.hid (HB5.out.trans (b6.mono HB5.out.size))
      have HS6 := Lib.hid (HS5.out.bel b6)
      have HACA6 := Lib.hid (HACA5.out.bel b6)
      have HACB6 := Lib.hid (HACB5.out.bel b6)
      have HOP6 := Lib.hid (kept_bel HOP5.out b6)
      have HP6 := Lib.hid hp6
      have HGL := Lib.hid (show gp < w6.heap.size from HP6.out.bk.lt)
      clear b6 hp6 CN HS5 HB5 HACA5 HACB5 HOP5 hgp
      have F3 := Lib.hid (FW.out w6 g1 d1 hd1 HS6.out)
      go_wp2_with fail
      refine F3.out.mono ?_
      rintro e w7 ⟨⟨g7, d7, rfl, hd7, o7, hg7⟩, b7⟩
      have k7 : m ≤ d7 := by omega
      have HB7 := Lib.hid (HB6.out.trans (b7.mono HB6.out.size))
      have HACA7 := Lib.hid (HACA6.out.bel b7)
      have HACB7 := Lib.hid (HACB6.out.bel b7)
      have HOP7 := Lib.hid (kept_bel HOP6.out b7)
      have HP7 := Lib.hid (HP6.out.bel b7)
      have HO7 := Lib.hid (seg_take o7 m)
      clear o7 b7 F3 HS6 HB6 HACA6 HACB6 HOP6 HP6
      go_wp2_with fail
      go_loopw [71] (fun s wr => ∃ (i : Nat) (v : Value), i ≤ m ∧ s = .int .i64 i ∧ Hid (PgA gp gp room (stN room (L.take m) i) v wr) ∧ Hid (Kp (pS gp (.slice none 0 0)) (pS gp v) w7 wr)) (fun s _ => m - (intOf s).toNat)
      case atStart => exact ⟨0, _, Nat.zero_le _, rfl, HP7, Lib.hid (Kp.refl _ _)⟩
      case round =>
        obtain ⟨i, v, him, rfl, hP, hK⟩ := hrel
        by_cases hlt : i < m
        · obtain ⟨os, hos⟩ : ∃ os, os = L.take m := ⟨_, rfl⟩
          rw [← hos] at hP HO7 HACB7 HOP7 HMB HLM ⊢
          have hil : i < os.length := by have := HLM.out; omega
          obtain ⟨b, off, he, hbl, hcell⟩ := HO7.out (by intro e; have := congrArg List.length e; rw [opsV_length] at this; simp only [List.length_nil] at this; omega)
          simp only [Option.some.injEq, Addr.mk.injEq, and_true] at he
          obtain ⟨rfl, rfl⟩ := he
          have hng : ¬ pS gp (.slice none 0 0) g7 := fun e => by
            rcases e with e | e
            · have := HGL.out; omega
            · cases e
          obtain ⟨kp, hkp⟩ : ∃ o, o = os[i] := ⟨_, rfl⟩
          have hgd : os.getD i (0, 0) = kp := by rw [hkp]; simp [hil]
          have rd : ∀ k, k < 2 → wr.cell? ⟨g7, 0 + (i * 2 + k), none⟩ = (opV kp)[k]? := fun k hk => by
            rw [World.cell?_of_block (hK.out.block g7 hbl hng), hcell (i * 2 + k) (by rw [opsV_length]; omega), opsV_at hil hk, hkp]
          have c0 : wr.cell? ⟨g7, i * 2, none⟩ = some (.int .i64 kp.1) := by have := rd 0 (by omega); rw [Nat.zero_add, Nat.add_zero] at this; exact this
          have c1 : wr.cell? ⟨g7, i * 2 + 1, none⟩ = some (.int .i64 kp.2) := by have := rd 1 (by omega); rw [Nat.zero_add] at this; exact this
          have HSTE := Lib.hid (show (doM room (stN room os i) kp.1 kp.2).1 = stN room os (i + 1) by rw [← hgd]; rfl)
          obtain ⟨k, p⟩ := kp
          dsimp only at c0 c1 HSTE
          obtain ⟨w8, hw8⟩ : ∃ w8, w8 = wr.alloc (.cells #[.int .i64 k, .int .i64 p] 31) := ⟨_, rfl⟩
          have al8 : Below wr.heap.size wr w8 := by rw [hw8]; exact (Below.refl _ _).alloc (Nat.le_refl _) _
          have HX8 := Lib.hid (show Bk w8 wr.heap.size 31 #[.int .i64 k, .int .i64 p] by rw [hw8]; exact Bk.new wr _ _)
          have HP8 := Lib.hid (hP.out.bel al8)
          have HK8 := Lib.hid (hK.out.trans (Kp.of_bel al8 _))
          have GR := st_grows room os i
          have CD := Lib.hid (do_any gp gp room (stN room os i) v w8 HP8.out (by omega) k p (fun s hs => by have := GR.2 s hs; omega))
          have E1 := Lib.hid (show ((i : Int) + 1) = ((i + 1 : Nat) : Int) by omega)
          have MM := Lib.hid (show m - (intOf (.int .i64 ((i + 1 : Nat) : Int))).toNat < m - (intOf (.int .i64 (i : Int))).toNat by simp only [intOf]; omega)
          have i1 : (0 : Int) ≤ (i : Int) := by omega
          have i2 : (i : Int) < (m : Int) := by omega
          have HW8 := Lib.hid hw8
          clear rd hkp hgd hcell hw8 al8 hP hK GR hng hil
          go_upto_region 13 with fail
          rw [← HW8.out]
          have y0 := HX8.out.cell 0
          have y1 := HX8.out.cell 1
          clear c0 c1
          go_wp2_with fail
          refine CD.out.mono ?_
          rintro e w9 ⟨Wv, v', rfl, _, hp, hk⟩
          rw [HSTE.out] at hp
          have HP9 := Lib.hid hp
          have HK9 := Lib.hid (HK8.out.trans hk)
          clear hp hk HP8 HK8 CD HX8 y0 y1 HSTE
          go_wp2_with fail
          rw [E1.out]
          exact ⟨⟨i + 1, v', by omega, rfl, HP9, HK9⟩, MM.out⟩
        · obtain rfl : i = m := by omega
          have HACA8 := Lib.hid (HACA7.out.kp HP7.out hK.out)
          have HACB8 := Lib.hid (HACB7.out.kp HP7.out hK.out)
          have HOP8 := Lib.hid (hK.out.own HOP7.out (fun b hb1 hb2 => by
            rcases hb2 with e | e
            · subst e; exact own_block_ne HOP7.out HP7.out.bk (by decide) hb1
            · cases e))
          have HB8 := Lib.hid (HB7.out.trans (hK.out.below (B := w.heap.size) (fun j hj => by
            rcases hj with e | e
            · have := HGP.out; omega
            · cases e) HB7.out.size))
          clear HACA7 HACB7 HOP7 HB7 hK HP7 HO7
          have n1 : ((N : Int) != (N : Int)) = false := by simp
          have n2 : ((i : Int) != (i : Int)) = false := by simp
          go_wp2_with fail
          refine (awake_any wr).mono ?_
          rintro e w9 ⟨rfl, b9⟩
          have HACA9 := Lib.hid (HACA8.out.bel b9)
          have HACB9 := Lib.hid (HACB8.out.bel b9)
          have HOP9 := Lib.hid (kept_bel HOP8.out b9)
          have HB9 := Lib.hid (HB8.out.trans (b9.mono HB8.out.size))
          have HP9 := Lib.hid (hP.out.bel b9)
          clear b9 HACA8 HACB8 HOP8 HB8 hP
          obtain ⟨m, hmi⟩ : ∃ m, m = i := ⟨_, rfl⟩
          subst hmi
          go_wp2_with fail
          go_loopw [96] (fun s wr => ∃ i : Nat, i ≤ m ∧ s = .int .i64 i ∧ Hid (Below w9.heap.size w9 wr)) (fun s _ => m - (intOf s).toNat)
          case atStart => exact ⟨0, Nat.zero_le _, rfl, Lib.hid (Below.refl _ _)⟩
          case round =>
            clear n1 n2
            obtain ⟨i, him, rfl, hB⟩ := hrel
            by_cases hlt : i < m
            · obtain ⟨W8, hW8⟩ : ∃ x, x = wr := ⟨_, rfl⟩
              rw [← hW8] at hB ⊢
              clear hW8
              obtain ⟨cA, hbA, _, hjA⟩ := HACA9.out.bel hB.out
              obtain ⟨cB, hbB, _, hjB⟩ := HACB9.out.bel hB.out
              obtain ⟨AWa, cWa, a0, a1, a2, a3, hoA⟩ := hjA i (by omega)
              obtain ⟨AWb, cWb, q0, q1, q2, q3, hoB⟩ := hjB i hlt
              rw [ac_take room L m i hlt] at q0 q1 q2 q3 hoB
              have hwl : (acN room L i).wrote.length ≤ 1000000 := by
                have h1 := st_grows room L i
                have h2 := wrote_le room (stN room L i) (L.getD i (0, 0)).1 (L.getD i (0, 0)).2 i h1.1
                exact Nat.le_trans h2 (by omega)
              obtain ⟨ac, hac⟩ : ∃ a, a = acN room L i := ⟨_, rfl⟩
              rw [← hac] at a0 a1 a2 a3 hoA q0 q1 q2 q3 hoB hwl
              clear hac hjA hjB
              obtain ⟨ae, ah, ao, aw⟩ := ac
              dsimp only at a0 a1 a2 a3 hoA q0 q1 q2 q3 hoB hwl
              have HBA := Lib.hid hbA
              have HBB := Lib.hid hbB
              have HA0 := Lib.hid a0
              have HA1 := Lib.hid a1
              have HA2 := Lib.hid a2
              have HA3 := Lib.hid a3
              have HB0 := Lib.hid q0
              have HB1' := Lib.hid q1
              have HB2 := Lib.hid q2
              have HB3 := Lib.hid q3
              have HSA := Lib.hid (Seg.of_own hoA)
              have HSB := Lib.hid (Seg.of_own hoB)
              have HSM := Lib.hid (fun w1 (h1 : Seg w1 AWa (intV aw)) (h2 : Seg w1 AWb (intV aw)) => sameV AWa AWb cWa cWb aw w1 h1 h2 hwl)
              have E1 := Lib.hid (show ((i : Int) + 1) = ((i + 1 : Nat) : Int) by omega)
              have MM := Lib.hid (show m - (intOf (.int .i64 ((i + 1 : Nat) : Int))).toNat < m - (intOf (.int .i64 (i : Int))).toNat by simp only [intOf]; omega)
              have i1 : (0 : Int) ≤ (i : Int) := by omega
              have i2 : (i : Int) < (m : Int) := by omega
              have i3 : (i : Int) < (N : Int) := by omega
              clear hbA hbB a0 a1 a2 a3 q0 q1 q2 q3 hoA hoB hwl
              go_wp2_with fail
              refine wp_region_guarded [some 99, some 100, some 101, some 102, some 103, some 104, some 105, some 106, some 107, some 108, some 109, some 110, some 111, some 112, some 113, some 114, some 115, some 116, some 117, some 118, some 119, some 120, some 121, some 122, some 123, some 124, some 125, some 126, some 127, some 128, some 129, some 130, some 131, some 132, some 133, some 134, some 135, some 136, some 137, some 138, some 139, some 140, some 141, some 142, some 143, some 144, some 145, some 146, some 147, some 148, some 149] (fun _ => 0) (gcF [.slice (some ⟨ga, 0, none⟩) N N, .int .i64 (i : Int), .pointer (some ⟨ga, i * 4, none⟩), .pointer (some ⟨ga, i * 4, none⟩), .int .i64 ae, .slice (some ⟨gb, 0, none⟩) m m, .int .i64 (i : Int), .pointer (some ⟨gb, i * 4, none⟩), .pointer (some ⟨gb, i * 4, none⟩), .int .i64 ae, .bool false, .bool false, .slice (some ⟨ga, 0, none⟩) N N, .int .i64 (i : Int), .pointer (some ⟨ga, i * 4, none⟩), .pointer (some ⟨ga, i * 4 + 1, none⟩), .bool ah, .slice (some ⟨gb, 0, none⟩) m m, .int .i64 (i : Int), .pointer (some ⟨gb, i * 4, none⟩), .pointer (some ⟨gb, i * 4 + 1, none⟩), .bool ah, .bool false, .bool false, .bool false, .slice (some ⟨ga, 0, none⟩) N N, .int .i64 (i : Int), .pointer (some ⟨ga, i * 4, none⟩), .pointer (some ⟨ga, i * 4 + 2, none⟩), .int .i64 ao, .slice (some ⟨gb, 0, none⟩) m m, .int .i64 (i : Int), .pointer (some ⟨gb, i * 4, none⟩), .pointer (some ⟨gb, i * 4 + 2, none⟩), .int .i64 ao, .bool false, .bool false, .bool false, .slice (some ⟨ga, 0, none⟩) N N, .int .i64 (i : Int), .pointer (some ⟨ga, i * 4, none⟩), .pointer (some ⟨ga, i * 4 + 3, none⟩), .slice AWa aw.length cWa, .slice (some ⟨gb, 0, none⟩) m m, .int .i64 (i : Int), .pointer (some ⟨gb, i * 4, none⟩), .pointer (some ⟨gb, i * 4 + 3, none⟩), .slice AWb aw.length cWb, .bool true, .bool false, .bool false]) (fun w' => Below W8.heap.size W8 w') (by kernel_rfl) (Below.refl _ _).drew rfl (by kernel_rfl) (by kernel_rfl) (by kernel_rfl) (fun T hT => ?_)
              simp only [List.filterMap_cons, List.filterMap_nil, id, putsS, Act.put, List.setIfInBounds_toArray, List.set_cons_zero, List.set_cons_succ] at hT
              subst hT
              refine ⟨⟨?_, ?_, ?_, ?_, ?_, ?_, ?_, ?_, ?_, ?_, ?_, ?_, ?_, ?_, ?_, ?_, ?_, ?_, ?_, ?_, ?_, ?_, ?_, ?_, ?_, ?_, ?_, ?_, ?_, ?_, ?_, ?_, ?_, ?_, ?_, ?_, ?_, ?_, ?_, ?_, ?_, ?_, ?_, ?_, ?_, ?_, ?_, ?_, ?_, ?_, ?_, trivial⟩, ?_⟩
              · refine StepA.guarded rfl ?_
                intro f w1 hG hF K hK
                clear hF
                dsimp only at hK ⊢
                go_simp
                exact hK.out _ _ hG rfl (fun _ _ _ h => h)
              · refine StepA.guarded rfl ?_
                intro f w1 hG hF K hK
                clear hF
                dsimp only at hK ⊢
                go_simp
                exact hK.out _ _ hG rfl (fun _ _ _ h => h)
              · refine StepA.guarded rfl ?_
                intro f w1 hG hF K hK
                have d0 : f 99 = .slice (some ⟨ga, 0, none⟩) N N := hF 0 (by kernel_rfl)
                have d1 : f 100 = .int .i64 (i : Int) := hF 1 (by kernel_rfl)
                clear hF
                dsimp only at hK ⊢
                generalize f 99 = v99 at *
                generalize f 100 = v100 at *
                subst d0
                subst d1
                go_simp
                exact hK.out _ _ hG rfl (fun _ _ _ h => h)
              · refine StepA.guarded rfl ?_
                intro f w1 hG hF K hK
                have d2 : f 101 = .pointer (some ⟨ga, i * 4, none⟩) := hF 2 (by kernel_rfl)
                clear hF
                dsimp only at hK ⊢
                generalize f 101 = v101 at *
                subst d2
                go_simp
                exact hK.out _ _ hG rfl (fun _ _ _ h => h)
              · refine StepA.guarded rfl ?_
                intro f w1 hG hF K hK
                have d3 : f 102 = .pointer (some ⟨ga, i * 4, none⟩) := hF 3 (by kernel_rfl)
                clear hF
                dsimp only at hK ⊢
                generalize f 102 = v102 at *
                subst d3
                have y : w1.cell? ⟨ga, i * 4, none⟩ = some (.int .i64 ae) := (HBA.out.bel hG).cell _ |>.trans HA0.out
                go_simp
                exact hK.out _ _ hG rfl (fun _ _ _ h => h)
              · refine StepA.guarded rfl ?_
                intro f w1 hG hF K hK
                clear hF
                dsimp only at hK ⊢
                go_simp
                exact hK.out _ _ hG rfl (fun _ _ _ h => h)
              · refine StepA.guarded rfl ?_
                intro f w1 hG hF K hK
                clear hF
                dsimp only at hK ⊢
                go_simp
                exact hK.out _ _ hG rfl (fun _ _ _ h => h)
              · refine StepA.guarded rfl ?_
                intro f w1 hG hF K hK
                have d5 : f 104 = .slice (some ⟨gb, 0, none⟩) m m := hF 5 (by kernel_rfl)
                have d6 : f 105 = .int .i64 (i : Int) := hF 6 (by kernel_rfl)
                clear hF
                dsimp only at hK ⊢
                generalize f 104 = v104 at *
                generalize f 105 = v105 at *
                subst d5
                subst d6
                go_simp
                exact hK.out _ _ hG rfl (fun _ _ _ h => h)
              · refine StepA.guarded rfl ?_
                intro f w1 hG hF K hK
                have d7 : f 106 = .pointer (some ⟨gb, i * 4, none⟩) := hF 7 (by kernel_rfl)
                clear hF
                dsimp only at hK ⊢
                generalize f 106 = v106 at *
                subst d7
                go_simp
                exact hK.out _ _ hG rfl (fun _ _ _ h => h)
              · refine StepA.guarded rfl ?_
                intro f w1 hG hF K hK
                have d8 : f 107 = .pointer (some ⟨gb, i * 4, none⟩) := hF 8 (by kernel_rfl)
                clear hF
                dsimp only at hK ⊢
                generalize f 107 = v107 at *
                subst d8
                have y : w1.cell? ⟨gb, i * 4, none⟩ = some (.int .i64 ae) := (HBB.out.bel hG).cell _ |>.trans HB0.out
                go_simp
                exact hK.out _ _ hG rfl (fun _ _ _ h => h)
              · refine StepA.guarded rfl ?_
                intro f w1 hG hF K hK
                have d4 : f 103 = .int .i64 ae := hF 4 (by kernel_rfl)
                have d9 : f 108 = .int .i64 ae := hF 9 (by kernel_rfl)
                clear hF
                dsimp only at hK ⊢
                generalize f 103 = v103 at *
                generalize f 108 = v108 at *
                subst d4
                subst d9
                have e : (ae != ae) = false := by simp
                go_simp
                exact hK.out _ _ hG rfl (fun _ _ _ h => h)
              · refine StepA.guarded rfl ?_
                intro f w1 hG hF K hK
                have d10 : f 109 = .bool false := hF 10 (by kernel_rfl)
                clear hF
                dsimp only at hK ⊢
                generalize f 109 = v109 at *
                subst d10
                go_simp
                exact hK.out _ _ hG rfl (fun _ _ _ h => h)
              · intro f w1 hG hF K hK
                have d11 : f 110 = .bool false := hF 11 (by kernel_rfl)
                clear hF
                rw [if_pos (by rw [wanted_val (g := 11) (d := 110) (b := false) (c := false) rfl (by kernel_rfl) (show some (f 110) = some (.bool false) from congrArg some d11)]; rfl)]
                dsimp only at hK ⊢
                generalize f 110 = v110 at *
                subst d11
                go_simp
                exact hK.out _ _ hG rfl (fun _ _ _ h => h)
              · intro f w1 hG hF K hK
                have d11 : f 110 = .bool false := hF 11 (by kernel_rfl)
                clear hF
                rw [if_pos (by rw [wanted_val (g := 11) (d := 110) (b := false) (c := false) rfl (by kernel_rfl) (show some (f 110) = some (.bool false) from congrArg some d11)]; rfl)]
                dsimp only at hK ⊢
                generalize f 110 = v110 at *
                subst d11
                go_simp
                exact hK.out _ _ hG rfl (fun _ _ _ h => h)
              · intro f w1 hG hF K hK
                have d11 : f 110 = .bool false := hF 11 (by kernel_rfl)
                have d12 : f 111 = .slice (some ⟨ga, 0, none⟩) N N := hF 12 (by kernel_rfl)
                have d13 : f 112 = .int .i64 (i : Int) := hF 13 (by kernel_rfl)
                clear hF
                rw [if_pos (by rw [wanted_val (g := 11) (d := 110) (b := false) (c := false) rfl (by kernel_rfl) (show some (f 110) = some (.bool false) from congrArg some d11)]; rfl)]
                dsimp only at hK ⊢
                generalize f 110 = v110 at *
                generalize f 111 = v111 at *
                generalize f 112 = v112 at *
                subst d11
                subst d12
                subst d13
                go_simp
                exact hK.out _ _ hG rfl (fun _ _ _ h => h)
              · intro f w1 hG hF K hK
                have d11 : f 110 = .bool false := hF 11 (by kernel_rfl)
                have d14 : f 113 = .pointer (some ⟨ga, i * 4, none⟩) := hF 14 (by kernel_rfl)
                clear hF
                rw [if_pos (by rw [wanted_val (g := 11) (d := 110) (b := false) (c := false) rfl (by kernel_rfl) (show some (f 110) = some (.bool false) from congrArg some d11)]; rfl)]
                dsimp only at hK ⊢
                generalize f 110 = v110 at *
                generalize f 113 = v113 at *
                subst d11
                subst d14
                go_simp
                exact hK.out _ _ hG rfl (fun _ _ _ h => h)
              · intro f w1 hG hF K hK
                have d11 : f 110 = .bool false := hF 11 (by kernel_rfl)
                have d15 : f 114 = .pointer (some ⟨ga, i * 4 + 1, none⟩) := hF 15 (by kernel_rfl)
                clear hF
                rw [if_pos (by rw [wanted_val (g := 11) (d := 110) (b := false) (c := false) rfl (by kernel_rfl) (show some (f 110) = some (.bool false) from congrArg some d11)]; rfl)]
                dsimp only at hK ⊢
                generalize f 110 = v110 at *
                generalize f 114 = v114 at *
                subst d11
                subst d15
                have y : w1.cell? ⟨ga, i * 4 + 1, none⟩ = some (.bool ah) := (HBA.out.bel hG).cell _ |>.trans HA1.out
                go_simp
                exact hK.out _ _ hG rfl (fun _ _ _ h => h)
              · intro f w1 hG hF K hK
                have d11 : f 110 = .bool false := hF 11 (by kernel_rfl)
                clear hF
                rw [if_pos (by rw [wanted_val (g := 11) (d := 110) (b := false) (c := false) rfl (by kernel_rfl) (show some (f 110) = some (.bool false) from congrArg some d11)]; rfl)]
                dsimp only at hK ⊢
                generalize f 110 = v110 at *
                subst d11
                go_simp
                exact hK.out _ _ hG rfl (fun _ _ _ h => h)
              · intro f w1 hG hF K hK
                have d11 : f 110 = .bool false := hF 11 (by kernel_rfl)
                clear hF
                rw [if_pos (by rw [wanted_val (g := 11) (d := 110) (b := false) (c := false) rfl (by kernel_rfl) (show some (f 110) = some (.bool false) from congrArg some d11)]; rfl)]
                dsimp only at hK ⊢
                generalize f 110 = v110 at *
                subst d11
                go_simp
                exact hK.out _ _ hG rfl (fun _ _ _ h => h)
              · intro f w1 hG hF K hK
                have d11 : f 110 = .bool false := hF 11 (by kernel_rfl)
                have d17 : f 116 = .slice (some ⟨gb, 0, none⟩) m m := hF 17 (by kernel_rfl)
                have d18 : f 117 = .int .i64 (i : Int) := hF 18 (by kernel_rfl)
                clear hF
                rw [if_pos (by rw [wanted_val (g := 11) (d := 110) (b := false) (c := false) rfl (by kernel_rfl) (show some (f 110) = some (.bool false) from congrArg some d11)]; rfl)]
                dsimp only at hK ⊢
                generalize f 110 = v110 at *
                generalize f 116 = v116 at *
                generalize f 117 = v117 at *
                subst d11
                subst d17
                subst d18
                go_simp
                exact hK.out _ _ hG rfl (fun _ _ _ h => h)
              · intro f w1 hG hF K hK
                have d11 : f 110 = .bool false := hF 11 (by kernel_rfl)
                have d19 : f 118 = .pointer (some ⟨gb, i * 4, none⟩) := hF 19 (by kernel_rfl)
                clear hF
                rw [if_pos (by rw [wanted_val (g := 11) (d := 110) (b := false) (c := false) rfl (by kernel_rfl) (show some (f 110) = some (.bool false) from congrArg some d11)]; rfl)]
                dsimp only at hK ⊢
                generalize f 110 = v110 at *
                generalize f 118 = v118 at *
                subst d11
                subst d19
                go_simp
                exact hK.out _ _ hG rfl (fun _ _ _ h => h)
              · intro f w1 hG hF K hK
                have d11 : f 110 = .bool false := hF 11 (by kernel_rfl)
                have d20 : f 119 = .pointer (some ⟨gb, i * 4 + 1, none⟩) := hF 20 (by kernel_rfl)
                clear hF
                rw [if_pos (by rw [wanted_val (g := 11) (d := 110) (b := false) (c := false) rfl (by kernel_rfl) (show some (f 110) = some (.bool false) from congrArg some d11)]; rfl)]
                dsimp only at hK ⊢
                generalize f 110 = v110 at *
                generalize f 119 = v119 at *
                subst d11
                subst d20
                have y : w1.cell? ⟨gb, i * 4 + 1, none⟩ = some (.bool ah) := (HBB.out.bel hG).cell _ |>.trans HB1'.out
                go_simp
                exact hK.out _ _ hG rfl (fun _ _ _ h => h)
              · intro f w1 hG hF K hK
                have d11 : f 110 = .bool false := hF 11 (by kernel_rfl)
                have d16 : f 115 = .bool ah := hF 16 (by kernel_rfl)
                have d21 : f 120 = .bool ah := hF 21 (by kernel_rfl)
                clear hF
                rw [if_pos (by rw [wanted_val (g := 11) (d := 110) (b := false) (c := false) rfl (by kernel_rfl) (show some (f 110) = some (.bool false) from congrArg some d11)]; rfl)]
                dsimp only at hK ⊢
                generalize f 110 = v110 at *
                generalize f 115 = v115 at *
                generalize f 120 = v120 at *
                subst d11
                subst d16
                subst d21
                have e : (ah != ah) = false := by simp
                go_simp
                exact hK.out _ _ hG rfl (fun _ _ _ h => h)
              · refine StepA.guarded rfl ?_
                intro f w1 hG hF K hK
                have d11 : f 110 = .bool false := hF 11 (by kernel_rfl)
                have d22 : f 121 = .bool false := hF 22 (by kernel_rfl)
                clear hF
                dsimp only at hK ⊢
                generalize f 110 = v110 at *
                generalize f 121 = v121 at *
                subst d11
                subst d22
                go_simp
                exact hK.out _ _ hG rfl (fun _ _ _ h => h)
              · refine StepA.guarded rfl ?_
                intro f w1 hG hF K hK
                have d23 : f 122 = .bool false := hF 23 (by kernel_rfl)
                clear hF
                dsimp only at hK ⊢
                generalize f 122 = v122 at *
                subst d23
                go_simp
                exact hK.out _ _ hG rfl (fun _ _ _ h => h)
              · intro f w1 hG hF K hK
                have d24 : f 123 = .bool false := hF 24 (by kernel_rfl)
                clear hF
                rw [if_pos (by rw [wanted_val (g := 24) (d := 123) (b := false) (c := false) rfl (by kernel_rfl) (show some (f 123) = some (.bool false) from congrArg some d24)]; rfl)]
                dsimp only at hK ⊢
                generalize f 123 = v123 at *
                subst d24
                go_simp
                exact hK.out _ _ hG rfl (fun _ _ _ h => h)
              · intro f w1 hG hF K hK
                have d24 : f 123 = .bool false := hF 24 (by kernel_rfl)
                clear hF
                rw [if_pos (by rw [wanted_val (g := 24) (d := 123) (b := false) (c := false) rfl (by kernel_rfl) (show some (f 123) = some (.bool false) from congrArg some d24)]; rfl)]
                dsimp only at hK ⊢
                generalize f 123 = v123 at *
                subst d24
                go_simp
                exact hK.out _ _ hG rfl (fun _ _ _ h => h)
              · intro f w1 hG hF K hK
                have d24 : f 123 = .bool false := hF 24 (by kernel_rfl)
                have d25 : f 124 = .slice (some ⟨ga, 0, none⟩) N N := hF 25 (by kernel_rfl)
                have d26 : f 125 = .int .i64 (i : Int) := hF 26 (by kernel_rfl)
                clear hF
                rw [if_pos (by rw [wanted_val (g := 24) (d := 123) (b := false) (c := false) rfl (by kernel_rfl) (show some (f 123) = some (.bool false) from congrArg some d24)]; rfl)]
                dsimp only at hK ⊢
                generalize f 123 = v123 at *
                generalize f 124 = v124 at *
                generalize f 125 = v125 at *
                subst d24
                subst d25
                subst d26
                go_simp
                exact hK.out _ _ hG rfl (fun _ _ _ h => h)
              · intro f w1 hG hF K hK
                have d24 : f 123 = .bool false := hF 24 (by kernel_rfl)
                have d27 : f 126 = .pointer (some ⟨ga, i * 4, none⟩) := hF 27 (by kernel_rfl)
                clear hF
                rw [if_pos (by rw [wanted_val (g := 24) (d := 123) (b := false) (c := false) rfl (by kernel_rfl) (show some (f 123) = some (.bool false) from congrArg some d24)]; rfl)]
                dsimp only at hK ⊢
                generalize f 123 = v123 at *
                generalize f 126 = v126 at *
                subst d24
                subst d27
                go_simp
                exact hK.out _ _ hG rfl (fun _ _ _ h => h)
              · intro f w1 hG hF K hK
                have d24 : f 123 = .bool false := hF 24 (by kernel_rfl)
                have d28 : f 127 = .pointer (some ⟨ga, i * 4 + 2, none⟩) := hF 28 (by kernel_rfl)
                clear hF
                rw [if_pos (by rw [wanted_val (g := 24) (d := 123) (b := false) (c := false) rfl (by kernel_rfl) (show some (f 123) = some (.bool false) from congrArg some d24)]; rfl)]
                dsimp only at hK ⊢
                generalize f 123 = v123 at *
                generalize f 127 = v127 at *
                subst d24
                subst d28
                have y : w1.cell? ⟨ga, i * 4 + 2, none⟩ = some (.int .i64 ao) := (HBA.out.bel hG).cell _ |>.trans HA2.out
                go_simp
                exact hK.out _ _ hG rfl (fun _ _ _ h => h)
              · intro f w1 hG hF K hK
                have d24 : f 123 = .bool false := hF 24 (by kernel_rfl)
                clear hF
                rw [if_pos (by rw [wanted_val (g := 24) (d := 123) (b := false) (c := false) rfl (by kernel_rfl) (show some (f 123) = some (.bool false) from congrArg some d24)]; rfl)]
                dsimp only at hK ⊢
                generalize f 123 = v123 at *
                subst d24
                go_simp
                exact hK.out _ _ hG rfl (fun _ _ _ h => h)
              · intro f w1 hG hF K hK
                have d24 : f 123 = .bool false := hF 24 (by kernel_rfl)
                clear hF
                rw [if_pos (by rw [wanted_val (g := 24) (d := 123) (b := false) (c := false) rfl (by kernel_rfl) (show some (f 123) = some (.bool false) from congrArg some d24)]; rfl)]
                dsimp only at hK ⊢
                generalize f 123 = v123 at *
                subst d24
                go_simp
                exact hK.out _ _ hG rfl (fun _ _ _ h => h)
              · intro f w1 hG hF K hK
                have d24 : f 123 = .bool false := hF 24 (by kernel_rfl)
                have d30 : f 129 = .slice (some ⟨gb, 0, none⟩) m m := hF 30 (by kernel_rfl)
                have d31 : f 130 = .int .i64 (i : Int) := hF 31 (by kernel_rfl)
                clear hF
                rw [if_pos (by rw [wanted_val (g := 24) (d := 123) (b := false) (c := false) rfl (by kernel_rfl) (show some (f 123) = some (.bool false) from congrArg some d24)]; rfl)]
                dsimp only at hK ⊢
                generalize f 123 = v123 at *
                generalize f 129 = v129 at *
                generalize f 130 = v130 at *
                subst d24
                subst d30
                subst d31
                go_simp
                exact hK.out _ _ hG rfl (fun _ _ _ h => h)
              · intro f w1 hG hF K hK
                have d24 : f 123 = .bool false := hF 24 (by kernel_rfl)
                have d32 : f 131 = .pointer (some ⟨gb, i * 4, none⟩) := hF 32 (by kernel_rfl)
                clear hF
                rw [if_pos (by rw [wanted_val (g := 24) (d := 123) (b := false) (c := false) rfl (by kernel_rfl) (show some (f 123) = some (.bool false) from congrArg some d24)]; rfl)]
                dsimp only at hK ⊢
                generalize f 123 = v123 at *
                generalize f 131 = v131 at *
                subst d24
                subst d32
                go_simp
                exact hK.out _ _ hG rfl (fun _ _ _ h => h)
              · intro f w1 hG hF K hK
                have d24 : f 123 = .bool false := hF 24 (by kernel_rfl)
                have d33 : f 132 = .pointer (some ⟨gb, i * 4 + 2, none⟩) := hF 33 (by kernel_rfl)
                clear hF
                rw [if_pos (by rw [wanted_val (g := 24) (d := 123) (b := false) (c := false) rfl (by kernel_rfl) (show some (f 123) = some (.bool false) from congrArg some d24)]; rfl)]
                dsimp only at hK ⊢
                generalize f 123 = v123 at *
                generalize f 132 = v132 at *
                subst d24
                subst d33
                have y : w1.cell? ⟨gb, i * 4 + 2, none⟩ = some (.int .i64 ao) := (HBB.out.bel hG).cell _ |>.trans HB2.out
                go_simp
                exact hK.out _ _ hG rfl (fun _ _ _ h => h)
              · intro f w1 hG hF K hK
                have d24 : f 123 = .bool false := hF 24 (by kernel_rfl)
                have d29 : f 128 = .int .i64 ao := hF 29 (by kernel_rfl)
                have d34 : f 133 = .int .i64 ao := hF 34 (by kernel_rfl)
                clear hF
                rw [if_pos (by rw [wanted_val (g := 24) (d := 123) (b := false) (c := false) rfl (by kernel_rfl) (show some (f 123) = some (.bool false) from congrArg some d24)]; rfl)]
                dsimp only at hK ⊢
                generalize f 123 = v123 at *
                generalize f 128 = v128 at *
                generalize f 133 = v133 at *
                subst d24
                subst d29
                subst d34
                have e : (ao != ao) = false := by simp
                go_simp
                exact hK.out _ _ hG rfl (fun _ _ _ h => h)
              · refine StepA.guarded rfl ?_
                intro f w1 hG hF K hK
                have d24 : f 123 = .bool false := hF 24 (by kernel_rfl)
                have d35 : f 134 = .bool false := hF 35 (by kernel_rfl)
                clear hF
                dsimp only at hK ⊢
                generalize f 123 = v123 at *
                generalize f 134 = v134 at *
                subst d24
                subst d35
                go_simp
                exact hK.out _ _ hG rfl (fun _ _ _ h => h)
              · refine StepA.guarded rfl ?_
                intro f w1 hG hF K hK
                have d36 : f 135 = .bool false := hF 36 (by kernel_rfl)
                clear hF
                dsimp only at hK ⊢
                generalize f 135 = v135 at *
                subst d36
                go_simp
                exact hK.out _ _ hG rfl (fun _ _ _ h => h)
              · intro f w1 hG hF K hK
                have d37 : f 136 = .bool false := hF 37 (by kernel_rfl)
                clear hF
                rw [if_pos (by rw [wanted_val (g := 37) (d := 136) (b := false) (c := false) rfl (by kernel_rfl) (show some (f 136) = some (.bool false) from congrArg some d37)]; rfl)]
                dsimp only at hK ⊢
                generalize f 136 = v136 at *
                subst d37
                go_simp
                exact hK.out _ _ hG rfl (fun _ _ _ h => h)
              · intro f w1 hG hF K hK
                have d37 : f 136 = .bool false := hF 37 (by kernel_rfl)
                clear hF
                rw [if_pos (by rw [wanted_val (g := 37) (d := 136) (b := false) (c := false) rfl (by kernel_rfl) (show some (f 136) = some (.bool false) from congrArg some d37)]; rfl)]
                dsimp only at hK ⊢
                generalize f 136 = v136 at *
                subst d37
                go_simp
                exact hK.out _ _ hG rfl (fun _ _ _ h => h)
              · intro f w1 hG hF K hK
                have d37 : f 136 = .bool false := hF 37 (by kernel_rfl)
                have d38 : f 137 = .slice (some ⟨ga, 0, none⟩) N N := hF 38 (by kernel_rfl)
                have d39 : f 138 = .int .i64 (i : Int) := hF 39 (by kernel_rfl)
                clear hF
                rw [if_pos (by rw [wanted_val (g := 37) (d := 136) (b := false) (c := false) rfl (by kernel_rfl) (show some (f 136) = some (.bool false) from congrArg some d37)]; rfl)]
                dsimp only at hK ⊢
                generalize f 136 = v136 at *
                generalize f 137 = v137 at *
                generalize f 138 = v138 at *
                subst d37
                subst d38
                subst d39
                go_simp
                exact hK.out _ _ hG rfl (fun _ _ _ h => h)
              · intro f w1 hG hF K hK
                have d37 : f 136 = .bool false := hF 37 (by kernel_rfl)
                have d40 : f 139 = .pointer (some ⟨ga, i * 4, none⟩) := hF 40 (by kernel_rfl)
                clear hF
                rw [if_pos (by rw [wanted_val (g := 37) (d := 136) (b := false) (c := false) rfl (by kernel_rfl) (show some (f 136) = some (.bool false) from congrArg some d37)]; rfl)]
                dsimp only at hK ⊢
                generalize f 136 = v136 at *
                generalize f 139 = v139 at *
                subst d37
                subst d40
                go_simp
                exact hK.out _ _ hG rfl (fun _ _ _ h => h)
              · intro f w1 hG hF K hK
                have d37 : f 136 = .bool false := hF 37 (by kernel_rfl)
                have d41 : f 140 = .pointer (some ⟨ga, i * 4 + 3, none⟩) := hF 41 (by kernel_rfl)
                clear hF
                rw [if_pos (by rw [wanted_val (g := 37) (d := 136) (b := false) (c := false) rfl (by kernel_rfl) (show some (f 136) = some (.bool false) from congrArg some d37)]; rfl)]
                dsimp only at hK ⊢
                generalize f 136 = v136 at *
                generalize f 140 = v140 at *
                subst d37
                subst d41
                have y : w1.cell? ⟨ga, i * 4 + 3, none⟩ = some (.slice AWa aw.length cWa) := (HBA.out.bel hG).cell _ |>.trans HA3.out
                go_simp
                exact hK.out _ _ hG rfl (fun _ _ _ h => h)
              · intro f w1 hG hF K hK
                have d37 : f 136 = .bool false := hF 37 (by kernel_rfl)
                clear hF
                rw [if_pos (by rw [wanted_val (g := 37) (d := 136) (b := false) (c := false) rfl (by kernel_rfl) (show some (f 136) = some (.bool false) from congrArg some d37)]; rfl)]
                dsimp only at hK ⊢
                generalize f 136 = v136 at *
                subst d37
                go_simp
                exact hK.out _ _ hG rfl (fun _ _ _ h => h)
              · intro f w1 hG hF K hK
                have d37 : f 136 = .bool false := hF 37 (by kernel_rfl)
                clear hF
                rw [if_pos (by rw [wanted_val (g := 37) (d := 136) (b := false) (c := false) rfl (by kernel_rfl) (show some (f 136) = some (.bool false) from congrArg some d37)]; rfl)]
                dsimp only at hK ⊢
                generalize f 136 = v136 at *
                subst d37
                go_simp
                exact hK.out _ _ hG rfl (fun _ _ _ h => h)
              · intro f w1 hG hF K hK
                have d37 : f 136 = .bool false := hF 37 (by kernel_rfl)
                have d43 : f 142 = .slice (some ⟨gb, 0, none⟩) m m := hF 43 (by kernel_rfl)
                have d44 : f 143 = .int .i64 (i : Int) := hF 44 (by kernel_rfl)
                clear hF
                rw [if_pos (by rw [wanted_val (g := 37) (d := 136) (b := false) (c := false) rfl (by kernel_rfl) (show some (f 136) = some (.bool false) from congrArg some d37)]; rfl)]
                dsimp only at hK ⊢
                generalize f 136 = v136 at *
                generalize f 142 = v142 at *
                generalize f 143 = v143 at *
                subst d37
                subst d43
                subst d44
                go_simp
                exact hK.out _ _ hG rfl (fun _ _ _ h => h)
              · intro f w1 hG hF K hK
                have d37 : f 136 = .bool false := hF 37 (by kernel_rfl)
                have d45 : f 144 = .pointer (some ⟨gb, i * 4, none⟩) := hF 45 (by kernel_rfl)
                clear hF
                rw [if_pos (by rw [wanted_val (g := 37) (d := 136) (b := false) (c := false) rfl (by kernel_rfl) (show some (f 136) = some (.bool false) from congrArg some d37)]; rfl)]
                dsimp only at hK ⊢
                generalize f 136 = v136 at *
                generalize f 144 = v144 at *
                subst d37
                subst d45
                go_simp
                exact hK.out _ _ hG rfl (fun _ _ _ h => h)
              · intro f w1 hG hF K hK
                have d37 : f 136 = .bool false := hF 37 (by kernel_rfl)
                have d46 : f 145 = .pointer (some ⟨gb, i * 4 + 3, none⟩) := hF 46 (by kernel_rfl)
                clear hF
                rw [if_pos (by rw [wanted_val (g := 37) (d := 136) (b := false) (c := false) rfl (by kernel_rfl) (show some (f 136) = some (.bool false) from congrArg some d37)]; rfl)]
                dsimp only at hK ⊢
                generalize f 136 = v136 at *
                generalize f 145 = v145 at *
                subst d37
                subst d46
                have y : w1.cell? ⟨gb, i * 4 + 3, none⟩ = some (.slice AWb aw.length cWb) := (HBB.out.bel hG).cell _ |>.trans HB3.out
                go_simp
                exact hK.out _ _ hG rfl (fun _ _ _ h => h)
              · intro f w1 hG hF K hK
                have d37 : f 136 = .bool false := hF 37 (by kernel_rfl)
                have d42 : f 141 = .slice AWa aw.length cWa := hF 42 (by kernel_rfl)
                have d47 : f 146 = .slice AWb aw.length cWb := hF 47 (by kernel_rfl)
                clear hF
                rw [if_pos (by rw [wanted_val (g := 37) (d := 136) (b := false) (c := false) rfl (by kernel_rfl) (show some (f 136) = some (.bool false) from congrArg some d37)]; rfl)]
                dsimp only at hK ⊢
                generalize f 136 = v136 at *
                generalize f 141 = v141 at *
                generalize f 146 = v146 at *
                subst d37
                subst d42
                subst d47
                go_simp
                refine (HSM.out w1 (HSA.out.bel hG) (HSB.out.bel hG)).mono ?_
                rintro e w20 ⟨rfl, hb20⟩
                exact hK.out _ _ (hG.trans (hb20.mono hG.size)) rfl (fun j _ _ h => h)
              · intro f w1 hG hF K hK
                have d37 : f 136 = .bool false := hF 37 (by kernel_rfl)
                have d48 : f 147 = .bool true := hF 48 (by kernel_rfl)
                clear hF
                rw [if_pos (by rw [wanted_val (g := 37) (d := 136) (b := false) (c := false) rfl (by kernel_rfl) (show some (f 136) = some (.bool false) from congrArg some d37)]; rfl)]
                dsimp only at hK ⊢
                generalize f 136 = v136 at *
                generalize f 147 = v147 at *
                subst d37
                subst d48
                go_simp
                exact hK.out _ _ hG rfl (fun _ _ _ h => h)
              · refine StepA.guarded rfl ?_
                intro f w1 hG hF K hK
                have d37 : f 136 = .bool false := hF 37 (by kernel_rfl)
                have d49 : f 148 = .bool false := hF 49 (by kernel_rfl)
                clear hF
                dsimp only at hK ⊢
                generalize f 136 = v136 at *
                generalize f 148 = v148 at *
                subst d37
                subst d49
                go_simp
                exact hK.out _ _ hG rfl (fun _ _ _ h => h)
              intro f w20 hG hF
              have eL : f 149 = .bool false := hF 50 (by decide)
              have HB20 := Lib.hid hG
              clear hF hG
              dsimp only
              generalize f 99 = v99
              generalize f 100 = v100
              generalize f 101 = v101
              generalize f 102 = v102
              generalize f 103 = v103
              generalize f 104 = v104
              generalize f 105 = v105
              generalize f 106 = v106
              generalize f 107 = v107
              generalize f 108 = v108
              generalize f 109 = v109
              generalize f 110 = v110
              generalize f 111 = v111
              generalize f 112 = v112
              generalize f 113 = v113
              generalize f 114 = v114
              generalize f 115 = v115
              generalize f 116 = v116
              generalize f 117 = v117
              generalize f 118 = v118
              generalize f 119 = v119
              generalize f 120 = v120
              generalize f 121 = v121
              generalize f 122 = v122
              generalize f 123 = v123
              generalize f 124 = v124
              generalize f 125 = v125
              generalize f 126 = v126
              generalize f 127 = v127
              generalize f 128 = v128
              generalize f 129 = v129
              generalize f 130 = v130
              generalize f 131 = v131
              generalize f 132 = v132
              generalize f 133 = v133
              generalize f 134 = v134
              generalize f 135 = v135
              generalize f 136 = v136
              generalize f 137 = v137
              generalize f 138 = v138
              generalize f 139 = v139
              generalize f 140 = v140
              generalize f 141 = v141
              generalize f 142 = v142
              generalize f 143 = v143
              generalize f 144 = v144
              generalize f 145 = v145
              generalize f 146 = v146
              generalize f 147 = v147
              generalize f 148 = v148
              generalize f 149 = v149 at *
              subst eL
              have HNX := Lib.hid (hB.out.trans (HB20.out.mono hB.out.size))
              clear HB20
              go_wp2_with fail
              rw [E1.out]
              exact ⟨⟨i + 1, by omega, rfl, HNX⟩, MM.out⟩
            · have HP10 := Lib.hid (HP9.out.bel hB.out)
              have GR := st_grows room (L.take m) m
              have CG := Lib.hid (pages_any gp gp room (stN room (L.take m) m) _ wr HP10.out (by omega))
              have HOP10 := Lib.hid (kept_bel HOP9.out hB.out)
              have HB10 := Lib.hid (HB9.out.trans (hB.out.mono HB9.out.size))
              clear hB HP9 HOP9 HB9
              go_wp2_with fail
              refine CG.out.mono ?_
              rintro e w10 ⟨⟨Ap, cp, rfl, hcp, hop⟩, b10⟩
              have hpl : (pagesN (stN room (L.take m) m)).length = (stN room (L.take m) m).length := by unfold pagesN; rw [List.length_map]
              have SV := sameV Ap Ab cp cb (pagesN (stN room (L.take m) m)) w10 (Seg.of_own hop) (Seg.of_own (kept_bel HOP10.out b10)) (by omega)
              rw [hpl] at SV
              rw [HMB.out]
              have HSV := Lib.hid SV
              have HB11 := Lib.hid (HB10.out.trans (b10.mono HB10.out.size))
              clear SV hop b10 hpl CG HOP10 HB10 GR
              go_wp2_with fail
              refine HSV.out.mono ?_
              rintro e w11 ⟨rfl, b11⟩
              have HB12 := Lib.hid (HB11.out.trans (b11.mono HB11.out.size))
              clear b11
              go_wp2_with fail
              go_ret
              exact ⟨rfl, HB12.out⟩
end Go.Proofs.Ytfbpagbfdccgfaa
