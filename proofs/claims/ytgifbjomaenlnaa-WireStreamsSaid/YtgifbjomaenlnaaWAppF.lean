/- What appendBody puts behind some bytes: a message's bytes. Condition: the message is in form, its entries lie in memory, and the row has no room. -/
import Derived.Test.YtgifbjomaenlnaaWApp
namespace Go.Proofs.Ytgifbjomaenlnaa
open Go.RowKit

theorem own_base {w : World} {b b' n : Nat} {e : TypeId} {v : Value} {xs : List Value} (h : w.ownsRow b e 1 v n xs) (hb : b' ≤ b) : w.ownsRow b' e 1 v n xs := by
  refine ⟨h.1, h.2.imp id ?_⟩
  rintro ⟨g, cap, cur, h1, h2, h3⟩
  exact ⟨g, cap, cur, h1, Nat.le_trans hb h2, h3⟩
set_option maxRecDepth 100000 in
set_option maxHeartbeats 4000000 in
theorem bodyf_any (m : MsgM) (A : Option Addr) (n c : Nat) (w : World) (h : Mg w m A n c) (hc : checkN m = 0) (v0 : Value) (pre : List Nat) (hpre : pre.length ≤ 2)
    (hap : ∀ (W : World) (x : Int), Below w.heap.size w W → ∃ v1 w2, (Builtin.append_ #[26, 26] 26 #[v0, .slice (some ⟨W.heap.size, 0, none⟩) 1 1]).run Try.prog (W.alloc (.cells #[.int .u8 x] 5)) = .ok v1 w2 ∧ w2.ownsRow (W.heap.size + 1) 5 1 v1 (pre.length + 1) (u8s pre ++ [.int .u8 x]) ∧ Below (W.heap.size + 1) (W.alloc (.cells #[.int .u8 x] 5)) w2) :
    Calls Try.prog 22 #[v0, .agg (msgC m A n c)] w fun e w' => ∃ v, e = .returned v ∧ w'.ownsRow (w.heap.size + 1) 5 1 v (pre ++ encN m).length (u8s (pre ++ encN m)) ∧ Below w.heap.size w w' := by
  obtain ⟨k0, k1, n8, e80⟩ := check_ok hc
  obtain ⟨i0, hi0, hz0, hz1, hz2⟩ := info_parts info5
  have H := Lib.hid h
  have HE := Lib.hid h.en
  have hn8 : n ≤ 8 := by rw [h.en]; exact n8
  have HL80 := Lib.hid e80
  obtain ⟨K, hK⟩ : ∃ K, K = m.kind := ⟨_, rfl⟩
  rw [← hK] at k0 k1
  obtain ⟨Kn, hKn⟩ : ∃ Kn : Nat, K = (Kn : Int) := ⟨K.toNat, by omega⟩
  subst hKn
  have HK := Lib.hid hK
  have hKn2 : Kn ≤ 255 := by omega
  obtain ⟨P, hP⟩ : ∃ P : List Nat, P = pre ++ [Kn] := ⟨_, rfl⟩
  have HP3 := Lib.hid (show P.length ≤ 3 by rw [hP]; simp; omega)
  have HPR := Lib.hid hP
  have HAP := Lib.hid hap
  obtain ⟨PL, hPL⟩ : ∃ PL, PL = P.length := ⟨_, rfl⟩
  have HPL := Lib.hid hPL
  have hPL3 : PL ≤ 3 := by rw [hPL]; exact HP3.out
  obtain ⟨Hd, hHd⟩ : ∃ Hd : List Nat, Hd = pre ++ headN m := ⟨_, rfl⟩
  have HHD := Lib.hid hHd
  have HHL := Lib.hid (show Hd.length ≤ 75 by
    have h2 := numsN_len m 7
    rw [hHd]
    unfold headN
    simp only [List.length_append, List.length_cons, List.length_nil]
    omega)
  clear hpre hap
  have HD := Lib.hid (show Hd = P ++ numsN m 7 ++ [(if m.ok then 1 else 0), n] by rw [hHd, hP]; unfold headN; simp only [List.append_assoc]; rw [← HK.out, ← HE.out, Nat.mod_eq_of_lt (by omega), show (((Kn : Int)) % 256).toNat = Kn by omega])
  have B0 := Lib.hid ((Below.refl w.heap.size w).alloc (Nat.le_refl _) (.cells (msgC m A n c) 24))
  have X0 := Lib.hid (Bk.new w 24 (msgC m A n c))
  have hkc : (msgC m A n c) = #[.int .i64 (Kn : Int), .int .i64 m.n0, .int .i64 m.n1, .int .i64 m.n2, .int .i64 m.n3, .int .i64 m.n4, .int .i64 m.n5, .slice A n c, .bool m.ok, .int .i64 m.n6] := by rw [HK.out]; rfl
  obtain ⟨w1, hw1⟩ : ∃ w1, w1 = w.alloc (.cells (msgC m A n c) 24) := ⟨_, rfl⟩
  rw [← hw1] at B0 X0
  have c0 : w1.cell? ⟨w.heap.size, 0, none⟩ = some (.int .i64 (Kn : Int)) := by rw [HK.out]; exact X0.out.cell 0
  have hs1 : w1.heap.size = w.heap.size + 1 := by rw [hw1]; simp
  rw [hkc] at hw1
  have HW1 := Lib.hid hw1
  rw [hkc]
  have hs2 : w.heap.size + 1 ≤ w1.heap.size := by omega
  have HS1 := Lib.hid hs1
  clear h hc hK hP hPL hHd hw1 k0 k1 n8 e80 hkc hs1
  go_enter Try.func22, Try.ntmps22
  go_upto_region 1 with fail
  rw [← HW1.out]
  obtain ⟨v1, w2, hrun, hown1, hb1⟩ := HAP.out w1 (Kn : Int) B0.out
  have HRUN := Lib.hid hrun
  clear hrun
  go_wp2_with (at_builtin; refine Lib.wpList_append_run _ rfl (.tmp 10) (.tmp 14) _ _ rfl _ _ rfl rfl _ _ HRUN.out ?_)
  have HA2 := Lib.hid (show AbW w (w.heap.size + 1) w.heap.size (msgC m A n c) PL P v1 w2 from ⟨(X0.out.alloc _).below hb1 (by omega), by
    rw [HPL.out, HPR.out, ← u8s_append, List.length_append]
    exact own_base hown1 (by omega), HPL.out, (B0.out.alloc B0.out.size _).trans (hb1.mono (by omega)), by omega, by have := hb1.size; rw [World.size_alloc] at this; omega, by omega⟩)
  have CN := Lib.hid (numbers_any w.heap.size w2)
  clear hown1 hb1 c0 hs2
  refine CN.out.mono ?_
  rintro e w3 ⟨rfl, hb3⟩
  have HA3 := Lib.hid (HA2.out.next hb3)
  clear hb3 CN HA2 B0 X0 HW1
  unfold nsV
  go_wp2_with fail
  go_loopw [0, 17] (fun v u wr => ∃ k nl : Nat, k ≤ 7 ∧ u = .int .i64 (k : Int) ∧ nl ≤ 73 ∧ Hid (AbW w (w.heap.size + 1) w.heap.size (msgC m A n c) nl (P ++ numsN m k) v wr)) (fun _ u _ => 7 - (intOf u).toNat)
  case atStart => exact ⟨0, PL, by omega, rfl, by omega, by rw [show P ++ numsN m 0 = P from List.append_nil _]; exact HA3⟩
  case round =>
    clear HA3
    obtain ⟨k, nl, hk, rfl, hnl, HN⟩ := hrel
    obtain ⟨A2, c2, rfl, hc2, _⟩ := own_shape HN.out.own
    by_cases hlt : k < 7
    · have hk7 : k = 0 ∨ k = 1 ∨ k = 2 ∨ k = 3 ∨ k = 4 ∨ k = 5 ∨ k = 6 := by omega
      clear hk hlt
      rcases hk7 with rfl | rfl | rfl | rfl | rfl | rfl | rfl
      · have hix := run_nsV0 w.heap.size wr
        unfold nsV at hix
        have z1 : wr.cell? ⟨w.heap.size, 1, none⟩ = some (.int .i64 m.n0) := HN.out.bk.cell 1
        have C1 := Lib.hid (appendNumber_any (w.heap.size + 1) nl (.slice A2 nl c2) (u8s (P ++ numsN m 0)) m.n0 (H.out.bm 0) wr HN.out.own HN.out.big (by omega))
        have HL := Lib.hid HN.out.len
        go_wp2_with fail
        refine C1.out.mono ?_
        rintro e w5 ⟨v5, rfl, hown5, hb5, _⟩
        have HN5 := Lib.hid (show AbW w (w.heap.size + 1) w.heap.size (msgC m A n c) (nl + (numN m.n0).length) (P ++ numsN m 1) v5 w5 from HN.out.step (by
          have e1 : P ++ numsN m 1 = (P ++ numsN m 0) ++ numN m.n0 := by rw [List.append_assoc]; rfl
          rw [e1, ← u8s_append]
          exact hown5) (by
          rw [HL.out]
          have e1 : P ++ numsN m 1 = (P ++ numsN m 0) ++ numN m.n0 := by rw [List.append_assoc]; rfl
          rw [e1]
          exact List.length_append.symm) hb5)
        have hn5 : nl + (numN m.n0).length ≤ 73 := by
          have h1 := numsN_len m 0
          have h2 := numN_len m.n0
          have h3 := HL.out
          have h4 := HP3.out
          simp only [List.length_append] at h3
          omega
        have HN6 := Lib.hid hn5
        clear hown5 hb5 hn5 C1
        go_wp2_with fail
        go_roundw
        case rel => exact ⟨1, _, by omega, rfl, HN6.out, HN5⟩
        case measure => simp [intOf]
      · have hix := run_nsV1 w.heap.size wr
        unfold nsV at hix
        have z2 : wr.cell? ⟨w.heap.size, 2, none⟩ = some (.int .i64 m.n1) := HN.out.bk.cell 2
        have C1 := Lib.hid (appendNumber_any (w.heap.size + 1) nl (.slice A2 nl c2) (u8s (P ++ numsN m 1)) m.n1 (H.out.bm 1) wr HN.out.own HN.out.big (by omega))
        have HL := Lib.hid HN.out.len
        go_wp2_with fail
        refine C1.out.mono ?_
        rintro e w5 ⟨v5, rfl, hown5, hb5, _⟩
        have HN5 := Lib.hid (show AbW w (w.heap.size + 1) w.heap.size (msgC m A n c) (nl + (numN m.n1).length) (P ++ numsN m 2) v5 w5 from HN.out.step (by
          have e1 : P ++ numsN m 2 = (P ++ numsN m 1) ++ numN m.n1 := by rw [List.append_assoc]; rfl
          rw [e1, ← u8s_append]
          exact hown5) (by
          rw [HL.out]
          have e1 : P ++ numsN m 2 = (P ++ numsN m 1) ++ numN m.n1 := by rw [List.append_assoc]; rfl
          rw [e1]
          exact List.length_append.symm) hb5)
        have hn5 : nl + (numN m.n1).length ≤ 73 := by
          have h1 := numsN_len m 1
          have h2 := numN_len m.n1
          have h3 := HL.out
          have h4 := HP3.out
          simp only [List.length_append] at h3
          omega
        have HN6 := Lib.hid hn5
        clear hown5 hb5 hn5 C1
        go_wp2_with fail
        go_roundw
        case rel => exact ⟨2, _, by omega, rfl, HN6.out, HN5⟩
        case measure => simp [intOf]
      · have hix := run_nsV2 w.heap.size wr
        unfold nsV at hix
        have z3 : wr.cell? ⟨w.heap.size, 3, none⟩ = some (.int .i64 m.n2) := HN.out.bk.cell 3
        have C1 := Lib.hid (appendNumber_any (w.heap.size + 1) nl (.slice A2 nl c2) (u8s (P ++ numsN m 2)) m.n2 (H.out.bm 2) wr HN.out.own HN.out.big (by omega))
        have HL := Lib.hid HN.out.len
        go_wp2_with fail
        refine C1.out.mono ?_
        rintro e w5 ⟨v5, rfl, hown5, hb5, _⟩
        have HN5 := Lib.hid (show AbW w (w.heap.size + 1) w.heap.size (msgC m A n c) (nl + (numN m.n2).length) (P ++ numsN m 3) v5 w5 from HN.out.step (by
          have e1 : P ++ numsN m 3 = (P ++ numsN m 2) ++ numN m.n2 := by rw [List.append_assoc]; rfl
          rw [e1, ← u8s_append]
          exact hown5) (by
          rw [HL.out]
          have e1 : P ++ numsN m 3 = (P ++ numsN m 2) ++ numN m.n2 := by rw [List.append_assoc]; rfl
          rw [e1]
          exact List.length_append.symm) hb5)
        have hn5 : nl + (numN m.n2).length ≤ 73 := by
          have h1 := numsN_len m 2
          have h2 := numN_len m.n2
          have h3 := HL.out
          have h4 := HP3.out
          simp only [List.length_append] at h3
          omega
        have HN6 := Lib.hid hn5
        clear hown5 hb5 hn5 C1
        go_wp2_with fail
        go_roundw
        case rel => exact ⟨3, _, by omega, rfl, HN6.out, HN5⟩
        case measure => simp [intOf]
      · have hix := run_nsV3 w.heap.size wr
        unfold nsV at hix
        have z4 : wr.cell? ⟨w.heap.size, 4, none⟩ = some (.int .i64 m.n3) := HN.out.bk.cell 4
        have C1 := Lib.hid (appendNumber_any (w.heap.size + 1) nl (.slice A2 nl c2) (u8s (P ++ numsN m 3)) m.n3 (H.out.bm 3) wr HN.out.own HN.out.big (by omega))
        have HL := Lib.hid HN.out.len
        go_wp2_with fail
        refine C1.out.mono ?_
        rintro e w5 ⟨v5, rfl, hown5, hb5, _⟩
        have HN5 := Lib.hid (show AbW w (w.heap.size + 1) w.heap.size (msgC m A n c) (nl + (numN m.n3).length) (P ++ numsN m 4) v5 w5 from HN.out.step (by
          have e1 : P ++ numsN m 4 = (P ++ numsN m 3) ++ numN m.n3 := by rw [List.append_assoc]; rfl
          rw [e1, ← u8s_append]
          exact hown5) (by
          rw [HL.out]
          have e1 : P ++ numsN m 4 = (P ++ numsN m 3) ++ numN m.n3 := by rw [List.append_assoc]; rfl
          rw [e1]
          exact List.length_append.symm) hb5)
        have hn5 : nl + (numN m.n3).length ≤ 73 := by
          have h1 := numsN_len m 3
          have h2 := numN_len m.n3
          have h3 := HL.out
          have h4 := HP3.out
          simp only [List.length_append] at h3
          omega
        have HN6 := Lib.hid hn5
        clear hown5 hb5 hn5 C1
        go_wp2_with fail
        go_roundw
        case rel => exact ⟨4, _, by omega, rfl, HN6.out, HN5⟩
        case measure => simp [intOf]
      · have hix := run_nsV4 w.heap.size wr
        unfold nsV at hix
        have z5 : wr.cell? ⟨w.heap.size, 5, none⟩ = some (.int .i64 m.n4) := HN.out.bk.cell 5
        have C1 := Lib.hid (appendNumber_any (w.heap.size + 1) nl (.slice A2 nl c2) (u8s (P ++ numsN m 4)) m.n4 (H.out.bm 4) wr HN.out.own HN.out.big (by omega))
        have HL := Lib.hid HN.out.len
        go_wp2_with fail
        refine C1.out.mono ?_
        rintro e w5 ⟨v5, rfl, hown5, hb5, _⟩
        have HN5 := Lib.hid (show AbW w (w.heap.size + 1) w.heap.size (msgC m A n c) (nl + (numN m.n4).length) (P ++ numsN m 5) v5 w5 from HN.out.step (by
          have e1 : P ++ numsN m 5 = (P ++ numsN m 4) ++ numN m.n4 := by rw [List.append_assoc]; rfl
          rw [e1, ← u8s_append]
          exact hown5) (by
          rw [HL.out]
          have e1 : P ++ numsN m 5 = (P ++ numsN m 4) ++ numN m.n4 := by rw [List.append_assoc]; rfl
          rw [e1]
          exact List.length_append.symm) hb5)
        have hn5 : nl + (numN m.n4).length ≤ 73 := by
          have h1 := numsN_len m 4
          have h2 := numN_len m.n4
          have h3 := HL.out
          have h4 := HP3.out
          simp only [List.length_append] at h3
          omega
        have HN6 := Lib.hid hn5
        clear hown5 hb5 hn5 C1
        go_wp2_with fail
        go_roundw
        case rel => exact ⟨5, _, by omega, rfl, HN6.out, HN5⟩
        case measure => simp [intOf]
      · have hix := run_nsV5 w.heap.size wr
        unfold nsV at hix
        have z6 : wr.cell? ⟨w.heap.size, 6, none⟩ = some (.int .i64 m.n5) := HN.out.bk.cell 6
        have C1 := Lib.hid (appendNumber_any (w.heap.size + 1) nl (.slice A2 nl c2) (u8s (P ++ numsN m 5)) m.n5 (H.out.bm 5) wr HN.out.own HN.out.big (by omega))
        have HL := Lib.hid HN.out.len
        go_wp2_with fail
        refine C1.out.mono ?_
        rintro e w5 ⟨v5, rfl, hown5, hb5, _⟩
        have HN5 := Lib.hid (show AbW w (w.heap.size + 1) w.heap.size (msgC m A n c) (nl + (numN m.n5).length) (P ++ numsN m 6) v5 w5 from HN.out.step (by
          have e1 : P ++ numsN m 6 = (P ++ numsN m 5) ++ numN m.n5 := by rw [List.append_assoc]; rfl
          rw [e1, ← u8s_append]
          exact hown5) (by
          rw [HL.out]
          have e1 : P ++ numsN m 6 = (P ++ numsN m 5) ++ numN m.n5 := by rw [List.append_assoc]; rfl
          rw [e1]
          exact List.length_append.symm) hb5)
        have hn5 : nl + (numN m.n5).length ≤ 73 := by
          have h1 := numsN_len m 5
          have h2 := numN_len m.n5
          have h3 := HL.out
          have h4 := HP3.out
          simp only [List.length_append] at h3
          omega
        have HN6 := Lib.hid hn5
        clear hown5 hb5 hn5 C1
        go_wp2_with fail
        go_roundw
        case rel => exact ⟨6, _, by omega, rfl, HN6.out, HN5⟩
        case measure => simp [intOf]
      · have hix := run_nsV6 w.heap.size wr
        unfold nsV at hix
        have z9 : wr.cell? ⟨w.heap.size, 9, none⟩ = some (.int .i64 m.n6) := HN.out.bk.cell 9
        have C1 := Lib.hid (appendNumber_any (w.heap.size + 1) nl (.slice A2 nl c2) (u8s (P ++ numsN m 6)) m.n6 (H.out.bm 6) wr HN.out.own HN.out.big (by omega))
        have HL := Lib.hid HN.out.len
        go_wp2_with fail
        refine C1.out.mono ?_
        rintro e w5 ⟨v5, rfl, hown5, hb5, _⟩
        have HN5 := Lib.hid (show AbW w (w.heap.size + 1) w.heap.size (msgC m A n c) (nl + (numN m.n6).length) (P ++ numsN m 7) v5 w5 from HN.out.step (by
          have e1 : P ++ numsN m 7 = (P ++ numsN m 6) ++ numN m.n6 := by rw [List.append_assoc]; rfl
          rw [e1, ← u8s_append]
          exact hown5) (by
          rw [HL.out]
          have e1 : P ++ numsN m 7 = (P ++ numsN m 6) ++ numN m.n6 := by rw [List.append_assoc]; rfl
          rw [e1]
          exact List.length_append.symm) hb5)
        have hn5 : nl + (numN m.n6).length ≤ 73 := by
          have h1 := numsN_len m 6
          have h2 := numN_len m.n6
          have h3 := HL.out
          have h4 := HP3.out
          simp only [List.length_append] at h3
          omega
        have HN6 := Lib.hid hn5
        clear hown5 hb5 hn5 C1
        go_wp2_with fail
        go_roundw
        case rel => exact ⟨7, _, by omega, rfl, HN6.out, HN5⟩
        case measure => simp [intOf]
    · have hk7 : k = 7 := by omega
      subst hk7
      clear hk hlt
      have z7 : wr.cell? ⟨w.heap.size, 7, none⟩ = some (.slice A n c) := HN.out.bk.cell 7
      have z8 : wr.cell? ⟨w.heap.size, 8, none⟩ = some (.bool m.ok) := HN.out.bk.cell 8
      have hbig := HN.out.big
      obtain ⟨ok, hok⟩ : ∃ ok, ok = m.ok := ⟨_, rfl⟩
      have HDo := Lib.hid (show Hd = P ++ numsN m 7 ++ [(if ok then 1 else 0), n] by rw [hok]; exact HD.out)
      rw [← hok] at z8
      have HLN := Lib.hid HN.out.len
      clear hok HD
      cases ok
      · go_wp2_with (at_builtin; refine wpList_append_seg _ rfl (.tmp 28) (.tmp 34) _ rfl (w.heap.size + 1) 5 i0 _ 1 Try.underlying26 hi0 hz0 hz1 hz2 rfl _ nl _ rfl (own_alloc HN.out.own _) (some ⟨wr.heap.size, 0, none⟩) 2 2 [.int .u8 0, .int .u8 (n : Int)] rfl rfl (seg_two _ _ _ _) (by simp [Value.oneCell']) (by simp only [maxLen]; omega) (by omega) (by simp only [World.size_alloc]; omega) ?_; intro v5 w5 hown5 hb5; have HA5 := Lib.hid (show AbW w (w.heap.size + 1) w.heap.size (msgC m A n c) (nl + 2) Hd v5 w5 from (HN.out.alloc _).step (by rw [HDo.out, ← u8s_append]; exact hown5) (by rw [HDo.out, List.length_append, ← HLN.out]; rfl) hb5); have q7 : w5.cell? ⟨w.heap.size, 7, none⟩ = some (.slice A n c) := HA5.out.bk.cell 7)
        clear hown5 hb5 z7 z8 hbig HN HDo HLN
        go_loopw [0, 39] (fun v u wx => ∃ k nl : Nat, k ≤ n ∧ u = .int .i64 (k : Int) ∧ nl ≤ 902 ∧ Hid (AbW w (w.heap.size + 1) w.heap.size (msgC m A n c) nl (Hd ++ entsN m.ents k) v wx)) (fun _ u _ => n - (intOf u).toNat)
        case atStart => exact ⟨0, nl + 2, by omega, rfl, by omega, by rw [show Hd ++ entsN m.ents 0 = Hd from List.append_nil _]; exact HA5⟩
        case round =>
          clear HA5
          obtain ⟨k, nk, hk, rfl, hnk, HM⟩ := hrel
          obtain ⟨A3, c3, rfl, hc3, _⟩ := own_shape HM.out.own
          by_cases hlt : k < n
          · have hkl : k < m.ents.length := by have := HE.out; omega
            obtain ⟨b, off, rfl, hbl, y1, y2⟩ := (H.out.bel HM.out.bel).ent hkl
            have hsz := HL80.out _ (List.getElem_mem hkl)
            have hin := (H.out.be _ (List.getElem_mem hkl)).1
            have HEn := Lib.hid (show entsN m.ents (k + 1) = entsN m.ents k ++ (numN m.ents[k].1 ++ ([m.ents[k].2.size] ++ bytesN m.ents[k].2)) by
              rw [entsN, show m.ents.getD k (0, ByteArray.empty) = m.ents[k] by simp [List.getElem?_eq_getElem hkl]]
              unfold entN
              rw [Nat.mod_eq_of_lt (by omega)]
              rfl)
            have HLn := Lib.hid (show (Hd ++ entsN m.ents (k + 1)).length ≤ 902 by
              have h1 := entsN_len m.ents HL80.out (k + 1) (by omega)
              have h2 := HHL.out
              have h3 := HE.out
              rw [List.length_append]
              omega)
            generalize m.ents[k].1 = Z at *
            generalize m.ents[k].2 = T at *
            have hbg := HM.out.big
            have HWf : ∀ W, wr.alloc (.cells #[.int .i64 Z, .string T] 54) = W → AbW w (w.heap.size + 1) w.heap.size (msgC m (some ⟨b, off, none⟩) n c) nk (Hd ++ entsN m.ents k) (.slice A3 nk c3) W ∧ Bk W wr.heap.size 54 #[.int .i64 Z, .string T] := by
              intro W hW
              subst hW
              have hbel : Below wr.heap.size wr (wr.alloc (.cells #[.int .i64 Z, .string T] 54)) := (Below.refl wr.heap.size wr).alloc (Nat.le_refl _) _
              exact ⟨HM.out.next hbel, Bk.new wr _ _⟩
            have HWF := Lib.hid HWf
            clear HWf HM
            go_upto_region 14 with fail
            generalize hWW : wr.alloc (.cells #[.int .i64 Z, .string T] 54) = W
            obtain ⟨hM, hX⟩ := HWF.out W hWW
            have C1 := Lib.hid (appendNumber_any (w.heap.size + 1) nk (.slice A3 nk c3) (u8s (Hd ++ entsN m.ents k)) Z hin W hM.own hM.big (by omega))
            have x0 : W.cell? ⟨wr.heap.size, 0, none⟩ = some (.int .i64 Z) := hX.cell 0
            have HM5 := Lib.hid hM
            have HX5 := Lib.hid hX
            clear hM hX hWW HWF y1 y2
            go_wp2_with fail
            refine C1.out.mono ?_
            rintro e w6 ⟨v6, rfl, hown6, hb6, hg6⟩
            have HX6 := Lib.hid (hg6.bk HM5.out.own HX5.out (by decide))
            have HM6 := Lib.hid (show AbW w (w.heap.size + 1) w.heap.size (msgC m (some ⟨b, off, none⟩) n c) (nk + (numN Z).length) (Hd ++ entsN m.ents k ++ numN Z) v6 w6 from HM5.out.step (by rw [← u8s_append]; exact hown6) (by rw [List.length_append, ← HM5.out.len]) hb6)
            have x6 : w6.cell? ⟨wr.heap.size, 1, none⟩ = some (.string T) := HX6.out.cell 1
            have big6 := HM6.out.big
            have hnn := numN_len Z
            clear hown6 hb6 hg6 C1 x0 HX5 HM5
            obtain ⟨A6, c6, rfl, hc6, _⟩ := own_shape HM6.out.own
            go_upto_region 16 with (at_builtin; refine wpList_append_own_at _ rfl (.tmp 47) (.tmp 52) 26 rfl (w.heap.size + 1) 5 i0 (.int .u8 0) 1 1 Try.underlying26 hi0 hz0 hz1 hz2 rfl (by decide) (.slice A6 (nk + (numN Z).length) c6) (nk + (numN Z).length) _ rfl (own_alloc HM6.out.own _) ⟨w6.heap.size, 0, none⟩ 1 1 [.int .u8 (T.size : Int)] rfl rfl (cell_one_new _ _ _) (by simp [Value.oneCell']) (by simp only [maxLen]; omega) (by omega) (by simp only [World.size_alloc]; omega) ?_; intro v7 w7 hown7 hgr7 _ hat7; have hb7 := (Below.refl (w.heap.size + 1) _).grown hgr7 (by simp only [World.size_alloc]; omega) (fun j e => (HM6.out.own.lt j e).1); have g7 := Lib.hid (((Gr.refl w6 (.slice A6 (nk + (numN Z).length) c6)).alloc (.cells #[.int .u8 (T.size : Int)] 5)).app hgr7 hat7); have HM7 := Lib.hid (show AbW w (w.heap.size + 1) w.heap.size (msgC m (some ⟨b, off, none⟩) n c) (nk + (numN Z).length + 1) ((Hd ++ entsN m.ents k ++ numN Z) ++ [T.size]) v7 w7 from (HM6.out.alloc (.cells #[.int .u8 (T.size : Int)] 5)).step (by rw [← u8s_append]; exact hown7) (by rw [List.length_append, ← HM6.out.len]; rfl) hb7); have x7 : w7.cell? ⟨wr.heap.size, 1, none⟩ = some (.string T) := (g7.out.bk HM6.out.own HX6.out (by decide)).cell 1; have big7 := HM7.out.big)
            go_wp2_with (at_builtin; refine Lib.wpList_append_own_string _ rfl (.tmp 54) (.tmp 56) 26 9 rfl (w.heap.size + 1) 5 i0 Try.underlying26 Try.underlying9 hi0 hz0 hz1 hz2 v7 (nk + (numN Z).length + 1) _ rfl HM7.out.own T rfl (by simp only [maxLen]; omega) (by omega) (by omega) ?_; intro v8 w8 hown8 hgr8 _)
            have HM8 := Lib.hid (show AbW w (w.heap.size + 1) w.heap.size (msgC m (some ⟨b, off, none⟩) n c) (nk + (numN Z).length + 1 + T.size) (Hd ++ entsN m.ents (k + 1)) v8 w8 from HM7.out.step (by
              rw [HEn.out, show Hd ++ (entsN m.ents k ++ (numN Z ++ ([T.size] ++ bytesN T))) = (Hd ++ entsN m.ents k ++ numN Z ++ [T.size]) ++ bytesN T by simp only [List.append_assoc], ← u8s_append, ← byteCells_u8s]
              exact hown8) (by
              rw [HEn.out, show Hd ++ (entsN m.ents k ++ (numN Z ++ ([T.size] ++ bytesN T))) = (Hd ++ entsN m.ents k ++ numN Z ++ [T.size]) ++ bytesN T by simp only [List.append_assoc], List.length_append, ← HM7.out.len, bytesN_length]) ((Below.refl (w.heap.size + 1) _).grown hgr8 (by omega) (fun j e => (HM7.out.own.lt j e).1)))
            have hn8' := Lib.hid (show nk + (numN Z).length + 1 + T.size ≤ 902 by rw [HM8.out.len]; exact HLn.out)
            clear hown8 hgr8 hown7 hgr7 hat7 hb7 x7 x6 HEn
            go_roundw
            case rel => exact ⟨k + 1, _, by omega, by go_num, hn8'.out, HM8⟩
            case measure => simp [intOf]; omega
          · have hkn : k = n := by omega
            subst hkn
            have HF := Lib.hid (show pre ++ encN m = Hd ++ entsN m.ents k by unfold encN; rw [← HE.out, ← List.append_assoc, ← HHD.out])
            clear hk hlt
            go_wp2_with fail
            go_ret
            rw [HF.out]
            exact ⟨_, rfl, by rw [← HM.out.len]; exact HM.out.own, HM.out.bel⟩
      · go_wp2_with (at_builtin; refine wpList_append_seg _ rfl (.tmp 28) (.tmp 34) _ rfl (w.heap.size + 1) 5 i0 _ 1 Try.underlying26 hi0 hz0 hz1 hz2 rfl _ nl _ rfl (own_alloc HN.out.own _) (some ⟨wr.heap.size, 0, none⟩) 2 2 [.int .u8 1, .int .u8 (n : Int)] rfl rfl (seg_two _ _ _ _) (by simp [Value.oneCell']) (by simp only [maxLen]; omega) (by omega) (by simp only [World.size_alloc]; omega) ?_; intro v5 w5 hown5 hb5; have HA5 := Lib.hid (show AbW w (w.heap.size + 1) w.heap.size (msgC m A n c) (nl + 2) Hd v5 w5 from (HN.out.alloc _).step (by rw [HDo.out, ← u8s_append]; exact hown5) (by rw [HDo.out, List.length_append, ← HLN.out]; rfl) hb5); have q7 : w5.cell? ⟨w.heap.size, 7, none⟩ = some (.slice A n c) := HA5.out.bk.cell 7)
        clear hown5 hb5 z7 z8 hbig HN HDo HLN
        go_loopw [0, 39] (fun v u wx => ∃ k nl : Nat, k ≤ n ∧ u = .int .i64 (k : Int) ∧ nl ≤ 902 ∧ Hid (AbW w (w.heap.size + 1) w.heap.size (msgC m A n c) nl (Hd ++ entsN m.ents k) v wx)) (fun _ u _ => n - (intOf u).toNat)
        case atStart => exact ⟨0, nl + 2, by omega, rfl, by omega, by rw [show Hd ++ entsN m.ents 0 = Hd from List.append_nil _]; exact HA5⟩
        case round =>
          clear HA5
          obtain ⟨k, nk, hk, rfl, hnk, HM⟩ := hrel
          obtain ⟨A3, c3, rfl, hc3, _⟩ := own_shape HM.out.own
          by_cases hlt : k < n
          · have hkl : k < m.ents.length := by have := HE.out; omega
            obtain ⟨b, off, rfl, hbl, y1, y2⟩ := (H.out.bel HM.out.bel).ent hkl
            have hsz := HL80.out _ (List.getElem_mem hkl)
            have hin := (H.out.be _ (List.getElem_mem hkl)).1
            have HEn := Lib.hid (show entsN m.ents (k + 1) = entsN m.ents k ++ (numN m.ents[k].1 ++ ([m.ents[k].2.size] ++ bytesN m.ents[k].2)) by
              rw [entsN, show m.ents.getD k (0, ByteArray.empty) = m.ents[k] by simp [List.getElem?_eq_getElem hkl]]
              unfold entN
              rw [Nat.mod_eq_of_lt (by omega)]
              rfl)
            have HLn := Lib.hid (show (Hd ++ entsN m.ents (k + 1)).length ≤ 902 by
              have h1 := entsN_len m.ents HL80.out (k + 1) (by omega)
              have h2 := HHL.out
              have h3 := HE.out
              rw [List.length_append]
              omega)
            generalize m.ents[k].1 = Z at *
            generalize m.ents[k].2 = T at *
            have hbg := HM.out.big
            have HWf : ∀ W, wr.alloc (.cells #[.int .i64 Z, .string T] 54) = W → AbW w (w.heap.size + 1) w.heap.size (msgC m (some ⟨b, off, none⟩) n c) nk (Hd ++ entsN m.ents k) (.slice A3 nk c3) W ∧ Bk W wr.heap.size 54 #[.int .i64 Z, .string T] := by
              intro W hW
              subst hW
              have hbel : Below wr.heap.size wr (wr.alloc (.cells #[.int .i64 Z, .string T] 54)) := (Below.refl wr.heap.size wr).alloc (Nat.le_refl _) _
              exact ⟨HM.out.next hbel, Bk.new wr _ _⟩
            have HWF := Lib.hid HWf
            clear HWf HM
            go_upto_region 14 with fail
            generalize hWW : wr.alloc (.cells #[.int .i64 Z, .string T] 54) = W
            obtain ⟨hM, hX⟩ := HWF.out W hWW
            have C1 := Lib.hid (appendNumber_any (w.heap.size + 1) nk (.slice A3 nk c3) (u8s (Hd ++ entsN m.ents k)) Z hin W hM.own hM.big (by omega))
            have x0 : W.cell? ⟨wr.heap.size, 0, none⟩ = some (.int .i64 Z) := hX.cell 0
            have HM5 := Lib.hid hM
            have HX5 := Lib.hid hX
            clear hM hX hWW HWF y1 y2
            go_wp2_with fail
            refine C1.out.mono ?_
            rintro e w6 ⟨v6, rfl, hown6, hb6, hg6⟩
            have HX6 := Lib.hid (hg6.bk HM5.out.own HX5.out (by decide))
            have HM6 := Lib.hid (show AbW w (w.heap.size + 1) w.heap.size (msgC m (some ⟨b, off, none⟩) n c) (nk + (numN Z).length) (Hd ++ entsN m.ents k ++ numN Z) v6 w6 from HM5.out.step (by rw [← u8s_append]; exact hown6) (by rw [List.length_append, ← HM5.out.len]) hb6)
            have x6 : w6.cell? ⟨wr.heap.size, 1, none⟩ = some (.string T) := HX6.out.cell 1
            have big6 := HM6.out.big
            have hnn := numN_len Z
            clear hown6 hb6 hg6 C1 x0 HX5 HM5
            obtain ⟨A6, c6, rfl, hc6, _⟩ := own_shape HM6.out.own
            go_upto_region 16 with (at_builtin; refine wpList_append_own_at _ rfl (.tmp 47) (.tmp 52) 26 rfl (w.heap.size + 1) 5 i0 (.int .u8 0) 1 1 Try.underlying26 hi0 hz0 hz1 hz2 rfl (by decide) (.slice A6 (nk + (numN Z).length) c6) (nk + (numN Z).length) _ rfl (own_alloc HM6.out.own _) ⟨w6.heap.size, 0, none⟩ 1 1 [.int .u8 (T.size : Int)] rfl rfl (cell_one_new _ _ _) (by simp [Value.oneCell']) (by simp only [maxLen]; omega) (by omega) (by simp only [World.size_alloc]; omega) ?_; intro v7 w7 hown7 hgr7 _ hat7; have hb7 := (Below.refl (w.heap.size + 1) _).grown hgr7 (by simp only [World.size_alloc]; omega) (fun j e => (HM6.out.own.lt j e).1); have g7 := Lib.hid (((Gr.refl w6 (.slice A6 (nk + (numN Z).length) c6)).alloc (.cells #[.int .u8 (T.size : Int)] 5)).app hgr7 hat7); have HM7 := Lib.hid (show AbW w (w.heap.size + 1) w.heap.size (msgC m (some ⟨b, off, none⟩) n c) (nk + (numN Z).length + 1) ((Hd ++ entsN m.ents k ++ numN Z) ++ [T.size]) v7 w7 from (HM6.out.alloc (.cells #[.int .u8 (T.size : Int)] 5)).step (by rw [← u8s_append]; exact hown7) (by rw [List.length_append, ← HM6.out.len]; rfl) hb7); have x7 : w7.cell? ⟨wr.heap.size, 1, none⟩ = some (.string T) := (g7.out.bk HM6.out.own HX6.out (by decide)).cell 1; have big7 := HM7.out.big)
            go_wp2_with (at_builtin; refine Lib.wpList_append_own_string _ rfl (.tmp 54) (.tmp 56) 26 9 rfl (w.heap.size + 1) 5 i0 Try.underlying26 Try.underlying9 hi0 hz0 hz1 hz2 v7 (nk + (numN Z).length + 1) _ rfl HM7.out.own T rfl (by simp only [maxLen]; omega) (by omega) (by omega) ?_; intro v8 w8 hown8 hgr8 _)
            have HM8 := Lib.hid (show AbW w (w.heap.size + 1) w.heap.size (msgC m (some ⟨b, off, none⟩) n c) (nk + (numN Z).length + 1 + T.size) (Hd ++ entsN m.ents (k + 1)) v8 w8 from HM7.out.step (by
              rw [HEn.out, show Hd ++ (entsN m.ents k ++ (numN Z ++ ([T.size] ++ bytesN T))) = (Hd ++ entsN m.ents k ++ numN Z ++ [T.size]) ++ bytesN T by simp only [List.append_assoc], ← u8s_append, ← byteCells_u8s]
              exact hown8) (by
              rw [HEn.out, show Hd ++ (entsN m.ents k ++ (numN Z ++ ([T.size] ++ bytesN T))) = (Hd ++ entsN m.ents k ++ numN Z ++ [T.size]) ++ bytesN T by simp only [List.append_assoc], List.length_append, ← HM7.out.len, bytesN_length]) ((Below.refl (w.heap.size + 1) _).grown hgr8 (by omega) (fun j e => (HM7.out.own.lt j e).1)))
            have hn8' := Lib.hid (show nk + (numN Z).length + 1 + T.size ≤ 902 by rw [HM8.out.len]; exact HLn.out)
            clear hown8 hgr8 hown7 hgr7 hat7 hb7 x7 x6 HEn
            go_roundw
            case rel => exact ⟨k + 1, _, by omega, by go_num, hn8'.out, HM8⟩
            case measure => simp [intOf]; omega
          · have hkn : k = n := by omega
            subst hkn
            have HF := Lib.hid (show pre ++ encN m = Hd ++ entsN m.ents k by unfold encN; rw [← HE.out, ← List.append_assoc, ← HHD.out])
            clear hk hlt
            go_wp2_with fail
            go_ret
            rw [HF.out]
            exact ⟨_, rfl, by rw [← HM.out.len]; exact HM.out.own, HM.out.bel⟩
end Go.Proofs.Ytgifbjomaenlnaa
