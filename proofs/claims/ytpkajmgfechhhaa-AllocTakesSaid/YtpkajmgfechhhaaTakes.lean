/- The walk of the statement that free blocks are taken as said. Condition: the bytes lie in memory. -/
import Derived.Test.YtpkajmgfechhhaaGives
import Derived.Test.YtpkajmgfechhhaaWhole
namespace Go.Proofs.Ytpkajmgfechhhaa
open Go.RowKit

/-- What taking blocks answers, in one form. -/
def Took (w : World) (T : Nat) (f : Nat → Bool) (n : Nat) (num : Int) (e : Ending) (w' : World) : Prop :=
  ∃ (Av : Option Addr) (k cv : Nat) (tot : Int) (A' : Option Addr) (n' c' : Nat) (g : Int), e = .returned (.tuple #[.slice Av k cv, .agg #[.int .i64 tot, .slice A' n' c'], .int .i64 g]) ∧ Below w.heap.size w w' ∧
  ((num < 0 ∧ k = 0 ∧ tot = 0 ∧ A' = none ∧ n' = 0 ∧ c' = 0 ∧ g = 1) ∨
   (0 ≤ num ∧ ((frees f T).length : Int) < num ∧ k = 0 ∧ tot = 0 ∧ A' = none ∧ n' = 0 ∧ c' = 0 ∧ g = 5) ∨
   (0 ≤ num ∧ num ≤ ((frees f T).length : Int) ∧ tot = T ∧ n' = n ∧ g = 0 ∧ k = num.toNat ∧ ∃ i, i ≤ T ∧ (frees f i).length = k ∧ Seg w' Av (ints (frees f i)) ∧ MapIn w' T (fillTo f i) A' n c'))
theorem took_any (T : Nat) (f : Nat → Bool) (A : Option Addr) (n c : Nat) (num : Int) (w : World) (h : MapIn w T f A n c) :
    Calls Try.prog 20 #[.agg #[.int .i64 (T : Int), .slice A n c], .int .i64 num] w (Took w T f n num) := by
  by_cases h1 : num < 0
  · refine (take_neg T f A n c num w h h1).mono ?_
    rintro e w' ⟨rfl, hb⟩
    exact ⟨none, 0, 0, 0, none, 0, 0, 1, rfl, hb, .inl ⟨h1, rfl, rfl, rfl, rfl, rfl, rfl⟩⟩
  · by_cases h2 : ((frees f T).length : Int) < num
    · refine (take_big T f A n c num w h h1 h2).mono ?_
      rintro e w' ⟨rfl, hb⟩
      exact ⟨none, 0, 0, 0, none, 0, 0, 5, rfl, hb, .inr (.inl ⟨by omega, h2, rfl, rfl, rfl, rfl, rfl, rfl⟩)⟩
    · obtain ⟨q, rfl⟩ : ∃ q : Nat, num = (q : Int) := ⟨num.toNat, by omega⟩
      refine (take_ok T f A n c q w h (by omega)).mono ?_
      rintro e w' ⟨v, A', c', i, rfl, hi, hL, o, m, hb⟩
      obtain ⟨Av, cv, rfl, _, s⟩ := own_shape o
      exact ⟨Av, q, cv, T, A', n, c', 0, rfl, hb, .inr (.inr ⟨by omega, by omega, rfl, rfl, rfl, by omega, i, hi, hL, s, m⟩)⟩
/-- What taking a run answers, in one form. -/
def RanU (w : World) (T : Nat) (f : Nat → Bool) (n : Nat) (num : Int) (e : Ending) (w' : World) : Prop :=
  ∃ (at' tot : Int) (A' : Option Addr) (n' c' : Nat) (g : Int), e = .returned (.tuple #[.int .i64 at', .agg #[.int .i64 tot, .slice A' n' c'], .int .i64 g]) ∧ Below w.heap.size w w' ∧
  ((num < 1 ∧ at' = 0 ∧ tot = 0 ∧ A' = none ∧ n' = 0 ∧ c' = 0 ∧ g = 1) ∨
   (1 ≤ num ∧ (best num.toNat (runsN f T)).2 = 0 ∧ at' = 0 ∧ tot = 0 ∧ A' = none ∧ n' = 0 ∧ c' = 0 ∧ g = 5) ∨
   (1 ≤ num ∧ (best num.toNat (runsN f T)).2 ≠ 0 ∧ at' = ((best num.toNat (runsN f T)).1 : Int) ∧ tot = T ∧ n' = n ∧ g = 0 ∧ MapIn w' T (fillRun f (best num.toNat (runsN f T)).1 num.toNat) A' n c'))
theorem ranU_any (T : Nat) (f : Nat → Bool) (A : Option Addr) (n c : Nat) (num : Int) (w : World) (h : MapIn w T f A n c) :
    Calls Try.prog 21 #[.agg #[.int .i64 (T : Int), .slice A n c], .int .i64 num] w (RanU w T f n num) := by
  refine (extent_any T f A n c num w h).mono ?_
  rintro e w' (⟨h1, rfl, hb⟩ | ⟨h1, h2, rfl, hb⟩ | ⟨h1, h2, A', c', rfl, m, hb⟩)
  · exact ⟨0, 0, none, 0, 0, 1, rfl, hb, .inl ⟨h1, rfl, rfl, rfl, rfl, rfl, rfl⟩⟩
  · exact ⟨0, 0, none, 0, 0, 5, rfl, hb, .inr (.inl ⟨h1, h2, rfl, rfl, rfl, rfl, rfl, rfl⟩)⟩
  · exact ⟨_, _, A', n, c', 0, rfl, hb, .inr (.inr ⟨h1, h2, rfl, rfl, rfl, rfl, m⟩)⟩
set_option maxRecDepth 100000 in
set_option maxHeartbeats 4000000 in
theorem takes_any (T num : Int) (A : Option Addr) (n c : Nat) (l : List Nat) (hn : n = l.length) (hz : n ≤ 140737488355000) (w : World) (hA : Seg w A (u8s l)) (hl : ∀ x ∈ l, x < 256) :
    Calls Try.prog 4 #[.int .i64 T, .slice A n c, .int .i64 num] w fun e w' => e = .returned (.bool true) ∧ Below w.heap.size w w' := by
  obtain ⟨i0, hi0, hz0, hz1, hz2⟩ := info_parts info_int
  have HN := Lib.hid hn
  have HL := Lib.hid hl
  have HA := Lib.hid hA
  clear hn hl hA
  go_enter Try.func4, Try.ntmps4
  go_wp2_with fail
  refine (of_ref T A n c l HN.out hz HL.out _ HA.out).mono ?_
  rintro e w1 (⟨hE, v, rfl, o1, b1⟩ | ⟨hE, rfl, b1⟩)
  · obtain ⟨A0, c0, rfl, hc0, s1⟩ := own_shape o1
    obtain ⟨t, rfl⟩ : ∃ t : Nat, T = (t : Int) := ⟨T.toNat, by have := (chk_pk T l HL.out hE).1; omega⟩
    rw [Int.toNat_natCast] at s1 ⊢
    have ht : t ≤ 2048 := by have := (chk_pk _ l HL.out hE).2.1; omega
    have HE0 := Lib.hid hE
    have B1 := Lib.hid b1
    have S1 := Lib.hid s1
    obtain ⟨f, hf⟩ : ∃ f, f = fOf t l := ⟨_, rfl⟩
    rw [← hf] at S1
    have HFf := Lib.hid hf.symm
    have HFl := Lib.hid (show flat f t from hf ▸ fOf_flat t l)
    clear hE o1 b1 s1 hf
    go_wp2_with fail
    refine (of_map (t : Int) A n c l HN.out hz _ (HA.out.bel B1.out)).mono ?_
    rintro e w2 ⟨A2, c2, rfl, hc2, s2, b2⟩
    have B2 := Lib.hid (below_step B1.out b2)
    have SM2 := Lib.hid (S1.out.bel b2)
    have hM2 := (MapIn.of_chk HN.out hc2 HL.out s2 HE0.out).1
    rw [Int.toNat_natCast, HFf.out] at hM2
    have M2 := Lib.hid hM2
    clear s2 b2 hM2
    go_wp2_with fail
    refine (took_any t f A2 n c2 num _ M2.out).mono ?_
    rintro e w3 ⟨Av, k, cv, tot, A3, n3, c3, g3, rfl, b3, hP⟩
    have a4 : Below w3.heap.size w3 (w3.alloc (.cells #[.int .i64 tot, .slice A3 n3 c3] 27)) := (Below.refl _ _).alloc (Nat.le_refl _) _
    have B4 := Lib.hid (below_step (below_step B2.out b3) a4)
    have SM4 := Lib.hid ((SM2.out.bel b3).bel a4)
    have X4 := Lib.hid (Bk.new w3 27 #[.int .i64 tot, .slice A3 n3 c3])
    have P3 := Lib.hid hP
    have A4 := Lib.hid a4
    clear b3 hP a4
    go_wp2_with fail
    generalize w3.alloc (.cells #[.int .i64 tot, .slice A3 n3 c3] 27) = w4 at *
    refine (of_map (t : Int) A n c l HN.out hz _ (HA.out.bel B4.out)).mono ?_
    rintro e w5 ⟨A5, c5, rfl, hc5, s5, b5⟩
    have B5 := Lib.hid (below_step B4.out b5)
    have SM5 := Lib.hid (SM4.out.bel b5)
    have hM5 := (MapIn.of_chk HN.out hc5 HL.out s5 HE0.out).1
    rw [Int.toNat_natCast, HFf.out] at hM5
    have M5 := Lib.hid hM5
    have X5 := Lib.hid (X4.out.bel b5)
    have A35 := Lib.hid (below_step A4.out b5)
    clear s5 b5 hM5
    go_wp2_with fail
    refine (ranU_any t f A5 n c5 num _ M5.out).mono ?_
    rintro e w6 ⟨at6, tot6, A6, n6, c6, g6, rfl, b6, hQ⟩
    have a7 : Below w6.heap.size w6 (w6.alloc (.cells #[.int .i64 tot6, .slice A6 n6 c6] 27)) := (Below.refl _ _).alloc (Nat.le_refl _) _
    have B7 := Lib.hid (below_step (below_step B5.out b6) a7)
    have SM7 := Lib.hid ((SM5.out.bel b6).bel a7)
    have X7 := Lib.hid ((X5.out.bel b6).bel a7)
    have Y7 := Lib.hid (Bk.new w6 27 #[.int .i64 tot6, .slice A6 n6 c6])
    have A37 := Lib.hid (below_step (below_step A35.out b6) a7)
    have A67 := Lib.hid a7
    have Q6 := Lib.hid hQ
    clear b6 hQ a7
    go_wp2_with fail
    generalize w6.alloc (.cells #[.int .i64 tot6, .slice A6 n6 c6] 27) = w7 at *
    refine (free_ref f t A0 c0 ht _ SM7.out).mono ?_
    rintro e w8 ⟨v8, rfl, o8, b8⟩
    obtain ⟨A8, c8, rfl, hc8, s8⟩ := own_shape o8
    have B8 := Lib.hid (below_step B7.out b8)
    have SM8 := Lib.hid (SM7.out.bel b8)
    have X8 := Lib.hid (X7.out.bel b8)
    have Y8 := Lib.hid (Y7.out.bel b8)
    have A38 := Lib.hid (below_step A37.out b8)
    have A68 := Lib.hid (below_step A67.out b8)
    have S8 := Lib.hid s8
    have hfl := frees_length f t
    clear o8 b8 s8
    generalize w3.heap.size = gx at X8 ⊢
    generalize w6.heap.size = gy at Y8 ⊢
    rcases P3.out with ⟨h1, rfl, rfl, rfl, rfl, rfl, rfl⟩ | ⟨h1, h2, rfl, rfl, rfl, rfl, rfl, rfl⟩ | ⟨h1, h2, rfl, rfl, rfl, rfl, i, hi, hLi, hSi, hMi⟩
    · skip
      have y0 := X8.out.cell 0
      have y1 := X8.out.cell 1
      go_wp2_with fail
      refine (zero_any _).mono ?_
      rintro e w9 ⟨rfl, b9⟩
      have BT := Lib.hid (below_step B8.out b9)
      have SM := Lib.hid (SM8.out.bel b9)
      have YT := Lib.hid (Y8.out.bel b9)
      have A6T := Lib.hid (below_step A68.out b9)
      clear b9 y0 y1
      rcases Q6.out with ⟨j1, rfl, rfl, rfl, rfl, rfl, rfl⟩ | ⟨j1, j2, rfl, rfl, rfl, rfl, rfl, rfl⟩ | ⟨j1, j2, rfl, rfl, rfl, rfl, hMe⟩
      · go_wp2_with fail
        refine (awake_map _).mono ?_
        rintro e w30 ⟨rfl, b30⟩
        have B30 := Lib.hid (below_step BT.out b30)
        have z0 := (YT.out.bel b30).cell 0
        have z1 := (YT.out.bel b30).cell 1
        clear b30
        go_wp2_with fail
        refine (zero_any _).mono ?_
        rintro e w31 ⟨rfl, b31⟩
        have B31 := Lib.hid (below_step B30.out b31)
        clear b31 z0 z1
        go_wp2_with fail
        go_ret
        exact ⟨rfl, B31.out⟩
      · omega
      · omega
    · have h1' : ¬ num < 0 := by omega
      have y0 := X8.out.cell 0
      have y1 := X8.out.cell 1
      go_wp2_with fail
      refine (zero_any _).mono ?_
      rintro e w9 ⟨rfl, b9⟩
      have BT := Lib.hid (below_step B8.out b9)
      have SM := Lib.hid (SM8.out.bel b9)
      have YT := Lib.hid (Y8.out.bel b9)
      have A6T := Lib.hid (below_step A68.out b9)
      clear b9 y0 y1
      rcases Q6.out with ⟨j1, rfl, rfl, rfl, rfl, rfl, rfl⟩ | ⟨j1, j2, rfl, rfl, rfl, rfl, rfl, rfl⟩ | ⟨j1, j2, rfl, rfl, rfl, rfl, hMe⟩
      · go_wp2_with fail
        refine (awake_map _).mono ?_
        rintro e w30 ⟨rfl, b30⟩
        have B30 := Lib.hid (below_step BT.out b30)
        have z0 := (YT.out.bel b30).cell 0
        have z1 := (YT.out.bel b30).cell 1
        clear b30
        go_wp2_with fail
        refine (zero_any _).mono ?_
        rintro e w31 ⟨rfl, b31⟩
        have B31 := Lib.hid (below_step B30.out b31)
        clear b31 z0 z1
        go_wp2_with fail
        go_ret
        exact ⟨rfl, B31.out⟩
      · have j1' : ¬ num < 1 := by omega
        obtain ⟨q, rfl⟩ : ∃ q : Nat, num = (q : Int) := ⟨num.toNat, by omega⟩
        rw [Int.toNat_natCast] at j2
        have hq1 : 1 ≤ q := by omega
        have HX := Lib.hid (show extI (best q (runsN f t)) = -1 by unfold extI; rw [if_pos j2])
        clear j2
        go_wp2_with fail
        refine (extent_ref f t q A0 c0 ht hq1 _ SM.out).mono ?_
        rintro e w30 ⟨rfl, b30⟩
        rw [HX.out]
        have B30 := Lib.hid (below_step BT.out b30)
        have Y30 := Lib.hid (YT.out.bel b30)
        clear b30
        go_wp2_with fail
        refine (awake_map _).mono ?_
        rintro e w31 ⟨rfl, b31⟩
        have B31 := Lib.hid (below_step B30.out b31)
        have z0 := (Y30.out.bel b31).cell 0
        have z1 := (Y30.out.bel b31).cell 1
        clear b31
        go_wp2_with fail
        refine (zero_any _).mono ?_
        rintro e w32 ⟨rfl, b32⟩
        have B32 := Lib.hid (below_step B31.out b32)
        clear b32 z0 z1
        go_wp2_with fail
        go_ret
        exact ⟨rfl, B32.out⟩
      · have j1' : ¬ num < 1 := by omega
        obtain ⟨q, rfl⟩ : ∃ q : Nat, num = (q : Int) := ⟨num.toNat, by omega⟩
        have hq1 : 1 ≤ q := by omega
        have hbok := best_ok q hq1 (runsN f t)
        have hrok := runsN_ok f t
        rw [Int.toNat_natCast] at j2 hMe ⊢
        have HX := Lib.hid (show extI (best q (runsN f t)) = ((best q (runsN f t)).1 : Int) by unfold extI; rw [if_neg j2])
        obtain ⟨hbm, hbn⟩ := hbok.2 j2
        obtain ⟨p1, p2, p3⟩ := hrok.1 _ hbm
        have MT := Lib.hid (hMe.bel A6T.out)
        clear j2 hbok hrok hbm hMe
        go_wp2_with fail
        refine (extent_ref f t q A0 c0 ht hq1 _ SM.out).mono ?_
        rintro e w30 ⟨rfl, b30⟩
        rw [HX.out]
        have B30 := Lib.hid (below_step BT.out b30)
        have Y30 := Lib.hid (YT.out.bel b30)
        have M30 := Lib.hid (MT.out.bel b30)
        have SM30 := Lib.hid (SM.out.bel b30)
        have HFr := Lib.hid (show ∀ jj, (best q (runsN f t)).1 ≤ jj → jj < (best q (runsN f t)).1 + q → f jj = false from fun jj h1 h2 => p3 jj h1 (by omega))
        clear b30 p3
        generalize best q (runsN f t) = b at *
        have hb0 : ¬ ((b.1 : Nat) : Int) < 0 := by omega
        have O0 := Lib.hid (World.ownsRow_lit (base := w30.heap.size) (e := 3) (size := 1) w30 #[] 0 (Nat.le_refl _) (by decide) rfl)
        have A0' := Lib.hid ((Below.refl w30.heap.size w30).alloc (Nat.le_refl _) (.cells #[] 3))
        go_wp2_with fail
        go_loopw [18, 19] (fun v i wr => ∃ k : Nat, k ≤ q ∧ i = .int .i64 k ∧ wr.ownsRow w30.heap.size 3 1 v k (ints (runL b.1 k)) ∧ Below w30.heap.size w30 wr) (fun _ i _ => q - (intOf i).toNat)
        case atStart => exact ⟨0, by omega, rfl, O0.out, A0'.out⟩
        case round =>
          obtain ⟨k, hk, rfl, ho, hb⟩ := hrel
          obtain ⟨A9, c9, rfl, hc9⟩ := own_slice ho
          by_cases hlt : k < q
          · have HO := Lib.hid ho
            have HB := Lib.hid hb
            have HS := Lib.hid (show ints (runL b.1 (k + 1)) = ints (runL b.1 k) ++ [.int .i64 (((b.1 : Nat) : Int) + (k : Int))] by rw [runL_snoc, ints_append]; simp [ints])
            clear ho hb
            generalize ints (runL b.1 k) = P at *
            go_wp2_with (at_builtin; refine wpList_append_els _ rfl _ _ _ rfl w30.heap.size 3 i0 _ 1 8 Try.underlying43 hi0 hz0 hz1 hz2 rfl (by omega) _ k P rfl (HO.out.alloc _) _ 0 1 1 [.int .i64 (((b.1 : Nat) : Int) + (k : Int))] rfl rfl (fun j u hj => lit_at _ _ _ j u hj) (one_one _ _) (by simp only [maxLen]; omega) (by omega) (by have := HB.out.size; simp; omega) ?_; intro v10 w10 hown hb10; have Q8 := Lib.hid hown; have G8 := Lib.hid ((HB.out.alloc HB.out.size _).trans hb10); clear hown hb10)
            go_roundw
            case rel => exact ⟨k + 1, by omega, by go_num, by rw [HS.out]; exact Q8.out, G8.out⟩
            case measure => simp [intOf]; omega
          · obtain rfl : k = q := by omega
            obtain ⟨_, _, hv, _, s9⟩ := own_shape ho
            injection hv with hv1 hv2 hv3
            subst hv1
            rw [ints_int] at s9
            have hS0 : GvW w gy #[.int .i64 (t : Int), .slice A6 n6 c6] A0 (bls f t) A6 (u8s (pk (fillRun f b.1 k) n6)) _ := ⟨Y30.out.bel hb, SM30.out.bel hb, M30.out.seg.bel hb, below_step B30.out hb⟩
            have H0 := Lib.hid hS0
            have hS := GvW.S hS0
            have HP := Lib.hid (fun (w' : World) (h : GvW w gy #[.int .i64 (t : Int), .slice A6 n6 c6] A0 (bls f t) A6 (u8s (pk (fillRun f b.1 k) n6)) w') => (⟨M30.out.le, M30.out.len, M30.out.flat, h.segx, M30.out.cap⟩ : MapIn w' t (fillRun f b.1 k) A6 n6 c6))
            have HLL := Lib.hid (show k = ((runL b.1 k).map fun (x : Nat) => (x : Int)).length by simp [runL])
            have HIn := Lib.hid (show ∀ z ∈ (runL b.1 k).map (fun (x : Nat) => (x : Int)), 0 ≤ z ∧ z < (t : Int) from fun z hz => by
              simp only [List.mem_map] at hz
              obtain ⟨x, hx, rfl⟩ := hz
              rw [runL_mem] at hx
              omega)
            have HTG := Lib.hid (turnF_run f b.1 k HFr.out)
            have S9 := Lib.hid s9
            have hk17 : k ≤ 17592186044416 := by omega
            clear ho hb s9 hv3 hS0
            generalize (runL b.1 k).map (fun (x : Nat) => (x : Int)) = LL at *
            go_wp2_with fail
            rename_i wq _ _ _ _ _
            go_region_held3 (fun w' => w'.cell? ⟨gy, 0, none⟩ = some (.int .i64 (t : Int)) ∧ w'.cell? ⟨gy, 1, none⟩ = some (.slice A6 n6 c6) ∧ GvW w gy #[.int .i64 (t : Int), .slice A6 n6 c6] A0 (bls f t) A6 (u8s (pk (fillRun f b.1 k) n6)) w')
              (first
                | (with_reducible assumption)
                | (with_reducible exact GvW.S (H0.out.drew))
                | (with_reducible exact GvW.S (H0.out.drew.step ba))
                | (with_reducible exact GvW.S (H0.out.drew.step bb))
                | (with_reducible exact GvW.S (H0.out.drew.step bc)))
              (first
                | (go_at_call 13; refine (awake_map _).mono ?_; rintro e wa ⟨rfl, ba⟩)
                | (go_at_call 22; refine (turn_ref f t k A0 A9 c0 c9 LL ht HLL.out hk17 HIn.out _ (H0.out.drew.step ba).segm ((S9.out.bel (Below.refl _ _).drew).bel ba)).mono ?_; rintro e wb ⟨Ab, cb, rfl, sb, bb'⟩; have bb := below_step ba bb'; have Sb := Lib.hid sb; clear sb bb')
                | (go_at_call 17; refine (is_map t (fillRun f b.1 k) (turnF f LL) A6 Ab n6 c6 cb (fun i _ => by rw [HTG.out]) _ (HP.out _ (H0.out.drew.step bb)) Sb.out).mono ?_; rintro e wc ⟨rfl, bc'⟩; have bc := below_step bb bc'; clear bc'))
            have BF := Lib.hid ((H0.out.drew.step bc).bel)
            clear hS
            go_wp2_with fail
            go_ret
            exact ⟨rfl, BF.out⟩
    · skip
      have h1' : ¬ num < 0 := by omega
      obtain ⟨q, rfl⟩ : ∃ q : Nat, num = (q : Int) := ⟨num.toNat, by omega⟩
      rw [Int.toNat_natCast] at hLi ⊢
      have h2' : ¬ ((frees f t).length : Int) < (q : Int) := by omega
      have hd1 : decide ((q : Int) < 0) = false := by rw [decide_eq_false_iff_not]; omega
      have hMx := hMi.bel A38.out
      have hSv := hSi.bel A38.out
      obtain ⟨rest, hrest⟩ := frees_pre f i t hi
      have hS8 := S8.out
      have hcap : (q : Int) ≤ (c8 : Int) := by omega
      have hS0 : GvW w gx #[.int .i64 (t : Int), .slice A3 n3 c3] A0 (bls f t) A3 (u8s (pk (fillTo f i) n3)) w8 := ⟨X8.out, SM8.out, hMx.seg, B8.out⟩
      have H0 := Lib.hid hS0
      have hS := GvW.S hS0
      have HP := Lib.hid (fun (w' : World) (h : GvW w gx #[.int .i64 (t : Int), .slice A3 n3 c3] A0 (bls f t) A3 (u8s (pk (fillTo f i) n3)) w') => (⟨hMx.le, hMx.len, hMx.flat, h.segx, hMx.cap⟩ : MapIn w' t (fillTo f i) A3 n3 c3))
      have htk : (ints (frees f t)).take q = ints (frees f i) := by rw [hrest, ints_append, List.take_left' (by rw [ints_length, hLi])]
      have hSt := hS8.take q
      rw [htk, ints_int] at hSt
      have HSt := Lib.hid hSt
      have HLL := Lib.hid (show q = ((frees f i).map fun (x : Nat) => (x : Int)).length by rw [List.length_map, hLi])
      have HIn := Lib.hid (show ∀ z ∈ (frees f i).map (fun (x : Nat) => (x : Int)), 0 ≤ z ∧ z < (t : Int) from fun z hz => by
        simp only [List.mem_map] at hz
        obtain ⟨x, hx, rfl⟩ := hz
        have := (frees_lt f i x hx).1
        omega)
      have HTG := Lib.hid (turnF_frees f i)
      have HEl := Lib.hid (show ∀ j, j < q → ∃ x : Nat, (ints (frees f t))[j]? = some (.int .i64 (x : Int)) ∧ (ints (frees f i))[j]? = some (.int .i64 (x : Int)) from fun j hj => by
        have hj' : j < (frees f i).length := by omega
        refine ⟨(frees f i)[j], ?_, ints_get _ _ hj'⟩
        rw [hrest, ints_append, List.getElem?_append_left (by rw [ints_length]; exact hj')]
        exact ints_get _ _ hj')
      have HLi := Lib.hid hLi
      have HSv := Lib.hid hSv
      have hq17 : q ≤ 17592186044416 := by omega
      clear hMx hSv hrest hS8 htk hSt hLi hSi hMi hS0
      generalize (frees f i).map (fun (x : Nat) => (x : Int)) = LL at HSt HLL HIn HTG ⊢
      have hFq : q ≤ (frees f t).length := by omega
      generalize hFF : (frees f t).length = F at *
      go_wp2_with fail
      go_region_held3 (fun w' => w'.cell? ⟨gx, 0, none⟩ = some (.int .i64 (t : Int)) ∧ w'.cell? ⟨gx, 1, none⟩ = some (.slice A3 n3 c3) ∧ GvW w gx #[.int .i64 (t : Int), .slice A3 n3 c3] A0 (bls f t) A3 (u8s (pk (fillTo f i) n3)) w')
        (first
          | (with_reducible assumption)
          | (with_reducible exact GvW.S (H0.out.drew))
          | (with_reducible exact GvW.S (H0.out.drew.step ba))
          | (with_reducible exact GvW.S (H0.out.drew.step bb)))
        (first
          | (go_at_call 22; refine (turn_ref f t q A0 A8 c0 c8 LL ht HLL.out hq17 HIn.out _ H0.out.drew.segm (HSt.out.bel (Below.refl _ _).drew)).mono ?_; rintro e wa ⟨Aa, ca, rfl, sa, ba⟩; have Sa := Lib.hid sa; clear sa)
          | (go_at_call 17; refine (is_map t (fillTo f i) (turnF f LL) A3 Aa n3 c3 ca (fun i _ => by rw [HTG.out]) _ (HP.out _ (H0.out.drew.step ba)) Sa.out).mono ?_; rintro e wc ⟨rfl, bc⟩; have bb := below_step ba bc; clear bc))
      have B9 := Lib.hid ((H0.out.drew.step bb).bel)
      have SM9 := Lib.hid ((H0.out.drew.step bb).segm)
      have b9 := below_step ((Below.refl _ w8).drew) bb
      have Y9 := Lib.hid (Y8.out.bel b9)
      have A69 := Lib.hid (below_step A68.out b9)
      have SF9 := Lib.hid (S8.out.bel b9)
      have SV9 := Lib.hid (HSv.out.bel b9)
      rename_i hHeld
      clear hHeld hS H0 HP bb ba b9
      go_wp2_with fail
      go_loopw [96] (fun i wr => ∃ j : Nat, j ≤ q ∧ i = .int .i64 j ∧ Below wc.heap.size wc wr) (fun i _ => q - (intOf i).toNat)
      case atStart => exact ⟨0, by omega, rfl, Below.refl _ _⟩
      case round =>
        obtain ⟨j, hj, rfl, hb⟩ := hrel
        by_cases hlt : j < q
        · obtain ⟨x, hx1, hx2⟩ := HEl.out j hlt
          have hl1 := (List.getElem?_eq_some_iff.1 hx1).1
          have hl2 := (List.getElem?_eq_some_iff.1 hx2).1
          obtain ⟨bA, oA, rfl, hbA, hcA, hpA⟩ := (SF9.out.bel hb).pick hl1
          obtain ⟨bV, oV, rfl, hbV, hcV, hpV⟩ := (SV9.out.bel hb).pick hl2
          have ca := hcA j hl1
          have cb := hcV j hl2
          rw [hx1] at ca
          rw [hx2] at cb
          have i1 : (0 : Int) ≤ (j : Int) := by omega
          have i2 : (j : Int) < (q : Int) := by omega
          have i3 : (j : Int) < (F : Int) := by omega
          have HBj := Lib.hid hb
          clear hpA hpV hx1 hx2 hcA hcV hl1 hl2 hb
          go_wp2_with fail
          go_quiet (fail)
          go_wp2_with fail
          go_roundw
          case rel => exact ⟨j + 1, by omega, by go_num, below_drewN HBj.out _⟩
          case measure => simp [intOf]; omega
        · obtain rfl : j = q := by omega
          have BT := Lib.hid (below_step B9.out hb)
          have SM := Lib.hid (SM9.out.bel hb)
          have YT := Lib.hid (Y9.out.bel hb)
          have A6T := Lib.hid (below_step A69.out hb)
          clear hb
          rcases Q6.out with ⟨j1, rfl, rfl, rfl, rfl, rfl, rfl⟩ | ⟨j1, j2, rfl, rfl, rfl, rfl, rfl, rfl⟩ | ⟨j1, j2, rfl, rfl, rfl, rfl, hMe⟩
          · go_wp2_with fail
            refine (awake_map _).mono ?_
            rintro e w30 ⟨rfl, b30⟩
            have B30 := Lib.hid (below_step BT.out b30)
            have z0 := (YT.out.bel b30).cell 0
            have z1 := (YT.out.bel b30).cell 1
            clear b30
            go_wp2_with fail
            refine (zero_any _).mono ?_
            rintro e w31 ⟨rfl, b31⟩
            have B31 := Lib.hid (below_step B30.out b31)
            clear b31 z0 z1
            go_wp2_with fail
            go_ret
            exact ⟨rfl, B31.out⟩
          · have j1' : ¬ (j : Int) < 1 := by omega
            rw [Int.toNat_natCast] at j2
            have hq1 : 1 ≤ j := by omega
            have HX := Lib.hid (show extI (best j (runsN f t)) = -1 by unfold extI; rw [if_pos j2])
            clear j2
            go_wp2_with fail
            refine (extent_ref f t j A0 c0 ht hq1 _ SM.out).mono ?_
            rintro e w30 ⟨rfl, b30⟩
            rw [HX.out]
            have B30 := Lib.hid (below_step BT.out b30)
            have Y30 := Lib.hid (YT.out.bel b30)
            clear b30
            go_wp2_with fail
            refine (awake_map _).mono ?_
            rintro e w31 ⟨rfl, b31⟩
            have B31 := Lib.hid (below_step B30.out b31)
            have z0 := (Y30.out.bel b31).cell 0
            have z1 := (Y30.out.bel b31).cell 1
            clear b31
            go_wp2_with fail
            refine (zero_any _).mono ?_
            rintro e w32 ⟨rfl, b32⟩
            have B32 := Lib.hid (below_step B31.out b32)
            clear b32 z0 z1
            go_wp2_with fail
            go_ret
            exact ⟨rfl, B32.out⟩
          · have j1' : ¬ (j : Int) < 1 := by omega
            have hq1 : 1 ≤ j := by omega
            have hbok := best_ok j hq1 (runsN f t)
            have hrok := runsN_ok f t
            rw [Int.toNat_natCast] at j2 hMe ⊢
            have HX := Lib.hid (show extI (best j (runsN f t)) = ((best j (runsN f t)).1 : Int) by unfold extI; rw [if_neg j2])
            obtain ⟨hbm, hbn⟩ := hbok.2 j2
            obtain ⟨p1, p2, p3⟩ := hrok.1 _ hbm
            have MT := Lib.hid (hMe.bel A6T.out)
            clear j2 hbok hrok hbm hMe
            go_wp2_with fail
            refine (extent_ref f t j A0 c0 ht hq1 _ SM.out).mono ?_
            rintro e w30 ⟨rfl, b30⟩
            rw [HX.out]
            have B30 := Lib.hid (below_step BT.out b30)
            have Y30 := Lib.hid (YT.out.bel b30)
            have M30 := Lib.hid (MT.out.bel b30)
            have SM30 := Lib.hid (SM.out.bel b30)
            have HFr := Lib.hid (show ∀ jj, (best j (runsN f t)).1 ≤ jj → jj < (best j (runsN f t)).1 + j → f jj = false from fun jj h1 h2 => p3 jj h1 (by omega))
            clear b30 p3
            generalize best j (runsN f t) = b at *
            have hb0 : ¬ ((b.1 : Nat) : Int) < 0 := by omega
            have O0 := Lib.hid (World.ownsRow_lit (base := w30.heap.size) (e := 3) (size := 1) w30 #[] 0 (Nat.le_refl _) (by decide) rfl)
            have A0' := Lib.hid ((Below.refl w30.heap.size w30).alloc (Nat.le_refl _) (.cells #[] 3))
            go_wp2_with fail
            go_loopw [18, 19] (fun v i wr => ∃ k : Nat, k ≤ j ∧ i = .int .i64 k ∧ wr.ownsRow w30.heap.size 3 1 v k (ints (runL b.1 k)) ∧ Below w30.heap.size w30 wr) (fun _ i _ => j - (intOf i).toNat)
            case atStart => exact ⟨0, by omega, rfl, O0.out, A0'.out⟩
            case round =>
              obtain ⟨k, hk, rfl, ho, hb⟩ := hrel
              obtain ⟨A9, c9, rfl, hc9⟩ := own_slice ho
              by_cases hlt : k < j
              · have HO := Lib.hid ho
                have HB := Lib.hid hb
                have HS := Lib.hid (show ints (runL b.1 (k + 1)) = ints (runL b.1 k) ++ [.int .i64 (((b.1 : Nat) : Int) + (k : Int))] by rw [runL_snoc, ints_append]; simp [ints])
                clear ho hb
                generalize ints (runL b.1 k) = P at *
                go_wp2_with (at_builtin; refine wpList_append_els _ rfl _ _ _ rfl w30.heap.size 3 i0 _ 1 8 Try.underlying43 hi0 hz0 hz1 hz2 rfl (by omega) _ k P rfl (HO.out.alloc _) _ 0 1 1 [.int .i64 (((b.1 : Nat) : Int) + (k : Int))] rfl rfl (fun j u hj => lit_at _ _ _ j u hj) (one_one _ _) (by simp only [maxLen]; omega) (by omega) (by have := HB.out.size; simp; omega) ?_; intro v10 w10 hown hb10; have Q8 := Lib.hid hown; have G8 := Lib.hid ((HB.out.alloc HB.out.size _).trans hb10); clear hown hb10)
                go_roundw
                case rel => exact ⟨k + 1, by omega, by go_num, by rw [HS.out]; exact Q8.out, G8.out⟩
                case measure => simp [intOf]; omega
              · obtain rfl : k = j := by omega
                obtain ⟨_, _, hv, _, s9⟩ := own_shape ho
                injection hv with hv1 hv2 hv3
                subst hv1
                rw [ints_int] at s9
                have hS0 : GvW w gy #[.int .i64 (t : Int), .slice A6 n6 c6] A0 (bls f t) A6 (u8s (pk (fillRun f b.1 k) n6)) _ := ⟨Y30.out.bel hb, SM30.out.bel hb, M30.out.seg.bel hb, below_step B30.out hb⟩
                have H0 := Lib.hid hS0
                have hS := GvW.S hS0
                have HP := Lib.hid (fun (w' : World) (h : GvW w gy #[.int .i64 (t : Int), .slice A6 n6 c6] A0 (bls f t) A6 (u8s (pk (fillRun f b.1 k) n6)) w') => (⟨M30.out.le, M30.out.len, M30.out.flat, h.segx, M30.out.cap⟩ : MapIn w' t (fillRun f b.1 k) A6 n6 c6))
                have HLL := Lib.hid (show k = ((runL b.1 k).map fun (x : Nat) => (x : Int)).length by simp [runL])
                have HIn := Lib.hid (show ∀ z ∈ (runL b.1 k).map (fun (x : Nat) => (x : Int)), 0 ≤ z ∧ z < (t : Int) from fun z hz => by
                  simp only [List.mem_map] at hz
                  obtain ⟨x, hx, rfl⟩ := hz
                  rw [runL_mem] at hx
                  omega)
                have HTG := Lib.hid (turnF_run f b.1 k HFr.out)
                have S9 := Lib.hid s9
                have hk17 : k ≤ 17592186044416 := by omega
                clear ho hb s9 hv3 hS0
                generalize (runL b.1 k).map (fun (x : Nat) => (x : Int)) = LL at *
                go_wp2_with fail
                rename_i wq _ _ _ _ _
                go_region_held3 (fun w' => w'.cell? ⟨gy, 0, none⟩ = some (.int .i64 (t : Int)) ∧ w'.cell? ⟨gy, 1, none⟩ = some (.slice A6 n6 c6) ∧ GvW w gy #[.int .i64 (t : Int), .slice A6 n6 c6] A0 (bls f t) A6 (u8s (pk (fillRun f b.1 k) n6)) w')
                  (first
                    | (with_reducible assumption)
                    | (with_reducible exact GvW.S (H0.out.drew))
                    | (with_reducible exact GvW.S (H0.out.drew.step ba))
                    | (with_reducible exact GvW.S (H0.out.drew.step bb))
                    | (with_reducible exact GvW.S (H0.out.drew.step bc)))
                  (first
                    | (go_at_call 13; refine (awake_map _).mono ?_; rintro e wa ⟨rfl, ba⟩)
                    | (go_at_call 22; refine (turn_ref f t k A0 A9 c0 c9 LL ht HLL.out hk17 HIn.out _ (H0.out.drew.step ba).segm ((S9.out.bel (Below.refl _ _).drew).bel ba)).mono ?_; rintro e wb ⟨Ab, cb, rfl, sb, bb'⟩; have bb := below_step ba bb'; have Sb := Lib.hid sb; clear sb bb')
                    | (go_at_call 17; refine (is_map t (fillRun f b.1 k) (turnF f LL) A6 Ab n6 c6 cb (fun i _ => by rw [HTG.out]) _ (HP.out _ (H0.out.drew.step bb)) Sb.out).mono ?_; rintro e wc ⟨rfl, bc'⟩; have bc := below_step bb bc'; clear bc'))
                have BF := Lib.hid ((H0.out.drew.step bc).bel)
                clear hS
                go_wp2_with fail
                go_ret
                exact ⟨rfl, BF.out⟩
  · have hne : (((chk T l : Nat) : Int) != 0) = true := by rw [bne_iff_ne]; omega
    have hle := chk_le T l
    have H0 := Lib.hid hE
    have B1 := Lib.hid b1
    have HTk := Lib.hid (fun w A c hS => take_no T A n c _ num l HN.out hz HL.out w hS rfl hE)
    have HEx := Lib.hid (fun w A c hS => extent_no T A n c _ num l HN.out hz HL.out w hS rfl hE)
    clear hE b1
    generalize chk T l = E at *
    go_wp2_with fail
    refine (of_map T A n c l HN.out hz _ (HA.out.bel B1.out)).mono ?_
    rintro e w3 ⟨A3, c3, rfl, hc3, s3, b3⟩
    have B3 := Lib.hid (below_step B1.out b3)
    have S3 := Lib.hid s3
    clear s3 b3
    go_wp2_with fail
    refine (HTk.out _ A3 c3 S3.out).mono ?_
    rintro e w4 ⟨rfl, b4⟩
    have B4 := Lib.hid (below_step B3.out b4)
    have B5 := Lib.hid (B4.out.alloc B4.out.size (.cells #[.int .i64 0, .slice none 0 0] 27))
    have X5 := Lib.hid (Bk.new w4 27 #[.int .i64 0, .slice none 0 0])
    clear b4
    go_wp2_with fail
    generalize w4.alloc (.cells #[.int .i64 0, .slice none 0 0] 27) = w5 at *
    refine (of_map T A n c l HN.out hz _ (HA.out.bel B5.out)).mono ?_
    rintro e w6 ⟨A6, c6, rfl, hc6, s6, b6⟩
    have B6 := Lib.hid (below_step B5.out b6)
    have X6 := Lib.hid (X5.out.bel b6)
    have S6 := Lib.hid s6
    clear s6 b6
    go_wp2_with fail
    refine (HEx.out _ A6 c6 S6.out).mono ?_
    rintro e w7 ⟨rfl, b7⟩
    have a8 : Below w7.heap.size w7 (w7.alloc (.cells #[.int .i64 0, .slice none 0 0] 27)) := (Below.refl _ _).alloc (Nat.le_refl _) _
    have B8 := Lib.hid (below_step (below_step B6.out b7) a8)
    have X8 := Lib.hid ((X6.out.bel b7).bel a8)
    have Y8 := Lib.hid (Bk.new w7 27 #[.int .i64 0, .slice none 0 0])
    clear b7 a8
    go_wp2_with fail
    generalize w7.alloc (.cells #[.int .i64 0, .slice none 0 0] 27) = w8 at *
    refine (awake_map _).mono ?_
    rintro e w9 ⟨rfl, b9⟩
    have B9 := Lib.hid (below_step B8.out b9)
    have Y9 := Lib.hid (Y8.out.bel b9)
    have y0 := (X8.out.bel b9).cell 0
    have y1 := (X8.out.bel b9).cell 1
    clear b9
    go_wp2_with fail
    refine (zero_any _).mono ?_
    rintro e w10 ⟨rfl, b10⟩
    have B10 := Lib.hid (below_step B9.out b10)
    have z0 := (Y9.out.bel b10).cell 0
    have z1 := (Y9.out.bel b10).cell 1
    clear b10 y0 y1
    go_wp2_with fail
    refine (zero_any _).mono ?_
    rintro e w11 ⟨rfl, b11⟩
    have B11 := Lib.hid (below_step B10.out b11)
    clear b11 z0 z1
    go_wp2_with fail
    go_ret
    exact ⟨rfl, B11.out⟩
end Go.Proofs.Ytpkajmgfechhhaa
