/- The statement on streams, of more than 3000 bytes. Condition: the bytes and the cuts lie in memory. -/
import Derived.Test.YtgifbjomaenlnaaWStrmH
namespace Go.Proofs.Ytgifbjomaenlnaa
open Go.RowKit

set_option maxRecDepth 2000000 in
set_option maxHeartbeats 8000000 in
theorem wstrm_long (A : Option Addr) (n c : Nat) (l : List Nat) (hn : n = l.length) (h3 : 3000 < n) (hnc : n ≤ c) (hz : c ≤ 140737488355328) (hl : ∀ x ∈ l, x < 256) (a1 : Option Addr) (m c1 : Nat) (zs : List Int) (hm : m = zs.length) (hzs : ∀ z ∈ zs, inI z) (w : World) (hA : Seg w A (u8s l)) (hZ : Seg w a1 (zs.map (Value.int .i64))) :
    Calls Try.prog 5 #[.slice A n c, .slice a1 m c1] w fun e w' => e = .returned (.bool true) ∧ Below w.heap.size w w' := by
  obtain ⟨i0, hi0, hz0, hz1, hz2⟩ := info_parts info5
  have HZ := Lib.hid hZ
  have HM := Lib.hid hm
  have HZS := Lib.hid hzs
  obtain ⟨W1, hW1⟩ : ∃ W1, W1 = w.alloc (.cells #[.slice none 0 0, .int .i64 0] 42) := ⟨_, rfl⟩
  have hs1 : W1.heap.size = w.heap.size + 1 := by rw [hW1]; simp
  obtain ⟨W2, hW2⟩ : ∃ W2, W2 = W1.alloc (.cells #[.slice none 0 0, .int .i64 0] 42) := ⟨_, rfl⟩
  have hs2 : W2.heap.size = w.heap.size + 2 := by rw [hW2]; simp [hs1]
  have HB2 := Lib.hid (show Below w.heap.size w W2 by rw [hW2, hW1]; exact ((Below.refl _ _).alloc (Nat.le_refl _) _).alloc (by simp) _)
  have HX1 := Lib.hid (show Bk W2 w.heap.size 42 #[.slice none 0 0, .int .i64 0] by rw [hW2, hW1]; exact (Bk.new w _ _).alloc _)
  have HX2 := Lib.hid (show Bk W2 (w.heap.size + 1) 42 #[.slice none 0 0, .int .i64 0] by rw [hW2, ← hs1]; exact Bk.new W1 _ _)
  have HW1 := Lib.hid hW1
  have HW2 := Lib.hid hW2
  have HS1 := Lib.hid hs1
  have HS2 := Lib.hid hs2
  clear hW1 hW2 hs1 hs2 hZ hm hzs
  have i0' : (3000 : Int) < (n : Int) := by omega
  have i0'' : (3000 : Int) ≤ (c : Int) := by omega
  have HLN := Lib.hid (show 3000 = (l.take 3000).length by rw [List.length_take]; omega)
  have HL := Lib.hid (show ∀ x ∈ l.take 3000, x < 256 from fun x hx => hl x (List.mem_of_mem_take hx))
  have HA := Lib.hid (show Seg w A (u8s (l.take 3000)) by
    have := hA.take 3000
    rw [show (u8s l).take 3000 = u8s (l.take 3000) by simp [u8s, List.map_take]] at this
    exact this)
  have hnb : (3000 : Nat) ≤ 3000 := Nat.le_refl _
  have hnbc : 3000 ≤ c := by omega
  generalize l.take 3000 = lb at *
  clear hn hl hA hnc
  go_enter Try.func5, Try.ntmps5
  go_upto_region 3 with fail
  go_upto_region 4 with fail
  rw [← HW1.out, ← HW2.out]
  have HA2 := Lib.hid (HA.out.bel HB2.out)
  go_wp2_with (at_builtin; refine wpList_append_seg _ rfl (.tmp 29) (.tmp 30) _ rfl W2.heap.size 5 i0 _ 1 Try.underlying26 hi0 hz0 hz1 hz2 rfl _ 0 _ rfl (World.ownsRow_lit W2 #[] 0 (Nat.le_refl _) (by decide) rfl) A 3000 c (u8s lb) rfl (by rw [u8s_length, ← HLN.out]) (HA2.out.bel ((Below.refl _ _).alloc (Nat.le_refl _) _)) (u8s_one _) (by simp only [maxLen]; omega) (by omega) (by simp only [World.size_alloc]; omega) ?_; intro v3 w3 hown3 hb3; simp only [Nat.zero_add, List.nil_append] at hown3; obtain ⟨A3, c3, rfl, hc3, s3⟩ := own_shape hown3; have S3 := Lib.hid s3; have B3 := Lib.hid (((Below.refl W2.heap.size W2).alloc (Nat.le_refl _) (.cells #[] 5)).trans hb3); clear hown3 hb3 s3)
  have hst3 : StW w3 w.heap.size [] 0 := ⟨none, 0, HX1.out.bel B3.out, Nat.le_refl _, Seg.nil _ _, fun a e => by cases e⟩
  have hlt3 : w.heap.size + 2 ≤ w3.heap.size := by have := B3.out.size; have := HS2.out; omega
  have CF := Lib.hid (feed_any w.heap.size [] 0 A3 3000 c3 lb HLN.out hc3 (by simp) (by omega) (fun x hx => absurd hx List.not_mem_nil) HL.out w3 hst3 S3.out)
  have HX23 := Lib.hid (HX2.out.bel B3.out)
  clear hst3 hc3
  refine CF.out.mono ?_
  rintro e w4 ⟨⟨AM, cm, L, rfl, hLm, hlm, hsm, ham, hqm⟩, hst4, hkq4, hlf4⟩
  obtain ⟨ES, hES⟩ : ∃ ES, ES = (feedN [] 0 lb).2.2 := ⟨_, rfl⟩
  rw [← hES]
  have HES := Lib.hid hES
  have hsz4 : w.heap.size + 2 ≤ w4.heap.size := Nat.le_trans hlt3 hkq4.kept.size
  have hb5 : Below w4.heap.size w4 (w4.alloc (.cells #[] 24)) := (Below.refl _ _).alloc (Nat.le_refl _) _
  have hnv : ∀ b, (Value.slice (some ⟨w4.heap.size, 0, none⟩) 0 0).ownBlock = some b → w4.heap.size ≤ b := fun b hb => by
    simp only [Value.ownBlock, Option.some.injEq] at hb
    omega
  have hmk : ∀ (A' : Option Addr) (xs : List Value), Seg w4 A' xs → (∀ a, A' = some a → w3.heap.size ≤ a.block) → Rw w4 (.slice none 0 0) (w.heap.size + 2) A' xs := fun A' xs hs ha =>
    Rw.mk' hs (fun a e => Nat.le_trans hlt3 (ha a e)) (fun b hb => by cases hb)
  have hs0 : Sb w3 (.slice none 0 0) (w.heap.size + 2) w.heap.size [] 0 := ⟨none, 0, HX1.out.bel B3.out, Nat.le_refl _, ⟨Seg.nil _ _, (fun a e => by cases e), (fun h => absurd rfl h)⟩, (fun a e => by cases e)⟩
  have ht0 : Sb w3 (.slice none 0 0) (w.heap.size + 2) (w.heap.size + 1) [] 0 := ⟨none, 0, HX23.out, Nat.le_refl _, ⟨Seg.nil _ _, (fun a e => by cases e), (fun h => absurd rfl h)⟩, (fun a e => by cases e)⟩
  have HSM := Lib.hid (show SmS w lb [] L [] AM (.slice (some ⟨w4.heap.size, 0, none⟩) 0 0) (w4.alloc (.cells #[] 24)) from
    ⟨((HB2.out.trans (B3.out.mono HB2.out.size)).trans (hkq4.bel)).trans (hb5.mono (by omega)), Nat.le_trans hsz4 hb5.size, ((hs0.fed hlt3 (fun b hb => by cases hb) hst4 hlf4).newV hnv).next hb5, ((ht0.kq hkq4 (by omega) (by omega)).newV hnv).next hb5, World.ownsRow_lit w4 #[] 0 hsz4 (by decide) rfl, rfl, fun q hq => absurd hq List.not_mem_nil, ((hmk AM _ hsm ham).newV hnv).next hb5, fun q hq => (Mw.newV ⟨(hqm q hq).1, hmk _ _ (hqm q hq).1.es (hqm q hq).2⟩ hnv).next hb5⟩)
  have HLM := Lib.hid hLm
  have HLR := Lib.hid (show L.map Mq.m = (run lb).1 by rw [hLm, feed_first])
  obtain ⟨nL, hnL⟩ : ∃ nL, nL = L.length := ⟨_, rfl⟩
  rw [← hnL]
  have hnL2 : nL ≤ 1500 := by
    have h1 := run_count lb (by rw [← HLN.out]; exact hnb)
    rw [← HLR.out, List.length_map] at h1
    omega
  have HNL := Lib.hid hnL
  have hnLc : nL ≤ cm := by omega
  clear hLm hlm hsm ham hqm hst4 hkq4 hlf4 hES hb5 hnv hmk hs0 ht0 hsz4 hnL hlt3 CF HX1 HX2 HX23 HW1 HW2 HS1 HS2 HA2 S3 B3
  go_upto_region 8 with fail
  go_loopw [9, 10, 11] (fun V av iv wr => ∃ (G : List Mq) (p i : Nat), av = .int .i64 (p : Int) ∧ iv = .int .i64 (i : Int) ∧ p ≤ 3000 ∧ i ≤ m ∧ i ≤ 60 ∧ Hid (SmS w lb (lb.take p) L G AM V wr)) (fun _ _ iv _ => m - (intOf iv).toNat)
  case atStart => exact ⟨[], 0, 0, rfl, rfl, by omega, by omega, by omega, HSM⟩
  case round =>
    clear HSM
    obtain ⟨G, p, i, rfl, rfl, hp, hi, hi60, HSM⟩ := hrel
    have hsz := HSM.out.big
    obtain ⟨AV, cV, rfl, hcV, _, _⟩ := rowz_shape HSM.out.own
    obtain ⟨nG, hnG⟩ : ∃ nG, nG = G.length := ⟨_, rfl⟩
    rw [← hnG]
    have HNG := Lib.hid hnG
    have hnG2 : nG ≤ 1500 := by
      have h1 := run_count (lb.take p) (by rw [List.length_take, ← HLN.out]; omega)
      rw [← HSM.out.gm, List.length_map] at h1
      omega
    clear hnG
    by_cases hgo : i < m ∧ i < 60
    · obtain ⟨g1, g2⟩ := hgo
      have i1 : (i : Int) < (m : Int) := by omega
      have i2 : (i : Int) < 60 := by omega
      have i3 : (0 : Int) ≤ (i : Int) := by omega
      have hk : i < zs.length := by have := HM.out; omega
      obtain ⟨b, off, rfl, hbl, hcz⟩ := (HZ.out.bel HSM.out.bel) (by intro h0; rw [List.map_eq_nil_iff] at h0; rw [h0] at hk; simp at hk)
      obtain ⟨z, hzd⟩ : ∃ z, z = zs[i] := ⟨_, rfl⟩
      have yz : wr.cell? ⟨b, off + i, none⟩ = some (.int .i64 z) := by rw [hcz i (by simpa using hk), hzd]; simp [hk]
      have hzi := HZS.out z (by rw [hzd]; exact List.getElem_mem hk)
      obtain ⟨z1, z2⟩ := hzi
      clear hzd hk hcz
      go_upto_region 11 with fail
      obtain ⟨rr, hrr⟩ : ∃ rr, rr = z.tmod 40 := ⟨_, rfl⟩
      have r1 : -40 < rr ∧ rr < 40 := by
        have h1 : rr.natAbs = z.natAbs % 40 := by rw [hrr]; exact Int.natAbs_tmod z 40
        omega
      rw [← hrr]
      obtain ⟨r1, r2⟩ := r1
      obtain ⟨D, hD⟩ : ∃ D, D = 3000 - p := ⟨_, rfl⟩
      have hDb : D ≤ 3000 := by omega
      have hpb : p ≤ 3000 := by omega
      have d1 : (3000 : Int) - (p : Int) = (D : Int) := by omega
      have hDp : p + D ≤ 3000 := by omega
      clear hrr yz z1 z2 hD
      by_cases hneg : rr < 0
      · obtain ⟨nn, rfl⟩ : ∃ nn : Nat, rr = -(nn : Int) := ⟨(-rr).toNat, by omega⟩
        have hnb40 : nn ≤ 40 := by omega
        by_cases hmin : (D : Int) < (nn : Int)
        · have hKD : D ≤ D := Nat.le_refl _
          go_upto_region 14 with fail
          have hKp : p + D ≤ 3000 := by omega
          have hKb : D ≤ 3000 := by omega
          obtain ⟨A7, hA7⟩ : ∃ A7, A7 = if c = p then A else A.map (·.add p) := ⟨_, rfl⟩
          have hsl : ∀ w : World, (Instr.sliceAt 26 (.slice A 3000 c) (some (.int .i64 (p : Int))) (some (.int .i64 ((p : Int) + (D : Int)))) none).run Try.prog w = .ok (.slice A7 D (c - p)) w := fun w => by
            have hu : Try.prog.underlying 26 = some (.slice (Try.prog.elem 26)) := by kernel_rfl
            have he : Try.prog.elem 26 = 5 := by kernel_rfl
            obtain ⟨i0, hi0, hz0, hz1, hz2⟩ := info_parts info5
            rw [run_sliceAt_slice (P := Try.prog) w 26 _ _ _ _ hu, run_slice_lh (P := Try.prog) w 26 A 3000 c hu .i64 .i64 (p : Int) ((p : Int) + (D : Int)) (by omega) (by omega) (by omega), he]
            have hsz5 : (sizeOf 5).run Try.prog w = .ok 1 w := by simp [sizeOf, typeInfo, hi0, hz1]
            rw [hsz5, hA7, show ((p : Int) + (D : Int)).toNat = p + D by omega, Int.toNat_natCast]
            simp [Result.andThen, sliced]
          have hcut := ((HA.out.bel HSM.out.bel).take (p + D)).cut p c (by rw [List.length_take, u8s_length, ← HLN.out]; omega)
          have HS7 := Lib.hid (show Seg wr A7 (u8s ((lb.drop p).take D)) by
            rw [hA7]
            have e : u8s ((lb.drop p).take D) = ((u8s lb).take (p + D)).drop p := by
              unfold u8s
              rw [← List.map_take, ← List.map_drop, List.drop_take, Nat.add_sub_cancel_left]
            rw [e]
            exact hcut)
          have HK7 := Lib.hid (show D = ((lb.drop p).take D).length by rw [List.length_take, List.length_drop, ← HLN.out]; omega)
          clear hcut hA7
          go_wp2_with (at_builtin; refine wpList_append_seg _ rfl (.tmp 62) (.tmp 68) _ rfl wr.heap.size 5 i0 _ 1 Try.underlying26 hi0 hz0 hz1 hz2 rfl _ 0 _ rfl (World.ownsRow_lit wr #[] 0 (Nat.le_refl _) (by decide) rfl) A7 D (c - p) (u8s ((lb.drop p).take D)) rfl (by rw [u8s_length, ← HK7.out]) (HS7.out.bel ((Below.refl _ _).alloc (Nat.le_refl _) _)) (u8s_one _) (by simp only [maxLen]; omega) (by omega) (by simp only [World.size_alloc]; omega) ?_; intro v5 w5 hown5 hb5; simp only [Nat.zero_add, List.nil_append] at hown5; obtain ⟨A5, c5, rfl, hc5, s5⟩ := own_shape hown5; have S5 := Lib.hid s5; have HSM5 := Lib.hid (HSM.out.next (((Below.refl wr.heap.size wr).alloc (Nat.le_refl _) (.cells #[] 5)).trans hb5)); clear hown5 hb5 s5)
          have CF := Lib.hid (feed_any (w.heap.size + 1) (feedN [] 0 (lb.take p)).2.1 (feedN [] 0 (lb.take p)).2.2 A5 D c5 ((lb.drop p).take D) HK7.out hc5 (Nat.le_trans (left_le _) (by rw [List.length_take, ← HLN.out]; omega)) (by omega) (fun x hx => HL.out x (List.mem_of_mem_take (left_sub _ x hx))) (fun x hx => HL.out x (List.mem_of_mem_drop (List.mem_of_mem_take hx))) w5 (HSM5.out.t.st (by omega)) S5.out)
          refine CF.out.mono ?_
          rintro e w6 hpost
          obtain ⟨A9, k9, cc9, L9, rfl, hk9, hkc9, hrw9, hrun9, hkq9, hms9, ht9⟩ := HSM5.out.fed hpost
          have hbg6 := HSM5.out.big
          have hsz6 := hkq9.kept.size
          have hcnt : nG + k9 ≤ 1500 := by
            have h1 := run_count (lb.take p ++ (lb.drop p).take D) (by rw [List.length_append, ← HK7.out, List.length_take, ← HLN.out]; omega)
            rw [hrun9, ← HSM5.out.gm, List.length_append, List.length_map, List.length_map, ← HNG.out, ← hk9] at h1
            exact h1
          have hownV : w6.ownsRow (w.heap.size + 2) 24 10 (.slice AV nG cV) nG (mqV G) := by
            have h1 := rowz_kept HSM5.out.own hkq9.kept (fun e => by have := (HSM5.out.ob _ e).1; omega)
            rw [← HNG.out] at h1
            exact h1
          obtain ⟨v7, w7, hrun, hown7, hgr7, hat7⟩ := append_msgs L9 A9 k9 cc9 w6 (w.heap.size + 2) hk9 hrw9.sg (.slice AV nG cV) nG (mqV G) (by omega) hownV (by omega)
          have hPK : lb.take p ++ (lb.drop p).take D = lb.take (p + D) := by rw [List.take_add]
          have HSM7 := Lib.hid (show SmS w lb (lb.take (p + D)) L (G ++ L9) AM v7 w7 by
            rw [← hPK]
            rw [HNG.out] at hgr7 hat7
            exact HSM5.out.put hkq9 ht9 hms9 hrun9 (by rw [← HNG.out, ← hk9]; exact hown7) hgr7 hat7)
          have HRUN := Lib.hid hrun
          rw [hPK]
          obtain ⟨f, hf⟩ : ∃ f, f = (feedN [] 0 (lb.take (p + D))).2.2 := ⟨_, rfl⟩
          rw [← hf]
          have HFE := Lib.hid (show f ≠ 0 → f = ES from fun h0 => by
            rw [hf, feed_first] at h0 ⊢
            rw [HES.out, feed_first]
            have := err_more (lb.take (p + D)) (lb.drop (p + D)) h0
            rw [List.take_append_drop] at this
            exact this.symm)
          have HNG7 := Lib.hid (show nG + k9 = (G ++ L9).length by rw [List.length_append, ← HNG.out, ← hk9])
          clear hpost hk9 hrw9 hrun9 hkq9 hms9 ht9 hbg6 hownV hrun hown7 hgr7 hat7 hPK hf CF S5 HSM5 HS7 HSM hc5
          by_cases hf0 : f = 0
          · subst hf0
            clear HFE
            rw [show ((0 : Nat) : Int) = 0 from rfl]
            go_wp2_with (at_builtin; refine Lib.wpList_append_run _ rfl (.tmp 73) (.tmp 74) _ _ rfl _ _ rfl rfl _ _ HRUN.out ?_)
            go_roundw
            case rel => exact ⟨G ++ L9, p + D, i + 1, by go_num, by go_num, by omega, by omega, by omega, HSM7⟩
            case measure => simp [intOf]; omega
          · obtain rfl : f = ES := HFE.out hf0
            have q1 : ((f : Int) != 0) = true := by rw [bne_iff_ne]; omega
            have q2 : ((f : Int) == 0) = false := by rw [beq_eq_false_iff_ne]; omega
            have q3 : ((f : Int) != (f : Int)) = false := by simp
            clear HFE
            go_wp2_with (at_builtin; refine Lib.wpList_append_run _ rfl (.tmp 73) (.tmp 74) _ _ rfl _ _ rfl rfl _ _ HRUN.out ?_)
            go_roundw
            case rel => exact ⟨G ++ L9, p + D, i + 1, by go_num, by go_num, by omega, by omega, by omega, HSM7⟩
            case measure => simp [intOf]; omega
        · have hKD : nn ≤ D := by omega
          go_upto_region 14 with fail
          have hKp : p + nn ≤ 3000 := by omega
          have hKb : nn ≤ 3000 := by omega
          obtain ⟨A7, hA7⟩ : ∃ A7, A7 = if c = p then A else A.map (·.add p) := ⟨_, rfl⟩
          have hsl : ∀ w : World, (Instr.sliceAt 26 (.slice A 3000 c) (some (.int .i64 (p : Int))) (some (.int .i64 ((p : Int) + (nn : Int)))) none).run Try.prog w = .ok (.slice A7 nn (c - p)) w := fun w => by
            have hu : Try.prog.underlying 26 = some (.slice (Try.prog.elem 26)) := by kernel_rfl
            have he : Try.prog.elem 26 = 5 := by kernel_rfl
            obtain ⟨i0, hi0, hz0, hz1, hz2⟩ := info_parts info5
            rw [run_sliceAt_slice (P := Try.prog) w 26 _ _ _ _ hu, run_slice_lh (P := Try.prog) w 26 A 3000 c hu .i64 .i64 (p : Int) ((p : Int) + (nn : Int)) (by omega) (by omega) (by omega), he]
            have hsz5 : (sizeOf 5).run Try.prog w = .ok 1 w := by simp [sizeOf, typeInfo, hi0, hz1]
            rw [hsz5, hA7, show ((p : Int) + (nn : Int)).toNat = p + nn by omega, Int.toNat_natCast]
            simp [Result.andThen, sliced]
          have hcut := ((HA.out.bel HSM.out.bel).take (p + nn)).cut p c (by rw [List.length_take, u8s_length, ← HLN.out]; omega)
          have HS7 := Lib.hid (show Seg wr A7 (u8s ((lb.drop p).take nn)) by
            rw [hA7]
            have e : u8s ((lb.drop p).take nn) = ((u8s lb).take (p + nn)).drop p := by
              unfold u8s
              rw [← List.map_take, ← List.map_drop, List.drop_take, Nat.add_sub_cancel_left]
            rw [e]
            exact hcut)
          have HK7 := Lib.hid (show nn = ((lb.drop p).take nn).length by rw [List.length_take, List.length_drop, ← HLN.out]; omega)
          clear hcut hA7
          go_wp2_with (at_builtin; refine wpList_append_seg _ rfl (.tmp 62) (.tmp 68) _ rfl wr.heap.size 5 i0 _ 1 Try.underlying26 hi0 hz0 hz1 hz2 rfl _ 0 _ rfl (World.ownsRow_lit wr #[] 0 (Nat.le_refl _) (by decide) rfl) A7 nn (c - p) (u8s ((lb.drop p).take nn)) rfl (by rw [u8s_length, ← HK7.out]) (HS7.out.bel ((Below.refl _ _).alloc (Nat.le_refl _) _)) (u8s_one _) (by simp only [maxLen]; omega) (by omega) (by simp only [World.size_alloc]; omega) ?_; intro v5 w5 hown5 hb5; simp only [Nat.zero_add, List.nil_append] at hown5; obtain ⟨A5, c5, rfl, hc5, s5⟩ := own_shape hown5; have S5 := Lib.hid s5; have HSM5 := Lib.hid (HSM.out.next (((Below.refl wr.heap.size wr).alloc (Nat.le_refl _) (.cells #[] 5)).trans hb5)); clear hown5 hb5 s5)
          have CF := Lib.hid (feed_any (w.heap.size + 1) (feedN [] 0 (lb.take p)).2.1 (feedN [] 0 (lb.take p)).2.2 A5 nn c5 ((lb.drop p).take nn) HK7.out hc5 (Nat.le_trans (left_le _) (by rw [List.length_take, ← HLN.out]; omega)) (by omega) (fun x hx => HL.out x (List.mem_of_mem_take (left_sub _ x hx))) (fun x hx => HL.out x (List.mem_of_mem_drop (List.mem_of_mem_take hx))) w5 (HSM5.out.t.st (by omega)) S5.out)
          refine CF.out.mono ?_
          rintro e w6 hpost
          obtain ⟨A9, k9, cc9, L9, rfl, hk9, hkc9, hrw9, hrun9, hkq9, hms9, ht9⟩ := HSM5.out.fed hpost
          have hbg6 := HSM5.out.big
          have hsz6 := hkq9.kept.size
          have hcnt : nG + k9 ≤ 1500 := by
            have h1 := run_count (lb.take p ++ (lb.drop p).take nn) (by rw [List.length_append, ← HK7.out, List.length_take, ← HLN.out]; omega)
            rw [hrun9, ← HSM5.out.gm, List.length_append, List.length_map, List.length_map, ← HNG.out, ← hk9] at h1
            exact h1
          have hownV : w6.ownsRow (w.heap.size + 2) 24 10 (.slice AV nG cV) nG (mqV G) := by
            have h1 := rowz_kept HSM5.out.own hkq9.kept (fun e => by have := (HSM5.out.ob _ e).1; omega)
            rw [← HNG.out] at h1
            exact h1
          obtain ⟨v7, w7, hrun, hown7, hgr7, hat7⟩ := append_msgs L9 A9 k9 cc9 w6 (w.heap.size + 2) hk9 hrw9.sg (.slice AV nG cV) nG (mqV G) (by omega) hownV (by omega)
          have hPK : lb.take p ++ (lb.drop p).take nn = lb.take (p + nn) := by rw [List.take_add]
          have HSM7 := Lib.hid (show SmS w lb (lb.take (p + nn)) L (G ++ L9) AM v7 w7 by
            rw [← hPK]
            rw [HNG.out] at hgr7 hat7
            exact HSM5.out.put hkq9 ht9 hms9 hrun9 (by rw [← HNG.out, ← hk9]; exact hown7) hgr7 hat7)
          have HRUN := Lib.hid hrun
          rw [hPK]
          obtain ⟨f, hf⟩ : ∃ f, f = (feedN [] 0 (lb.take (p + nn))).2.2 := ⟨_, rfl⟩
          rw [← hf]
          have HFE := Lib.hid (show f ≠ 0 → f = ES from fun h0 => by
            rw [hf, feed_first] at h0 ⊢
            rw [HES.out, feed_first]
            have := err_more (lb.take (p + nn)) (lb.drop (p + nn)) h0
            rw [List.take_append_drop] at this
            exact this.symm)
          have HNG7 := Lib.hid (show nG + k9 = (G ++ L9).length by rw [List.length_append, ← HNG.out, ← hk9])
          clear hpost hk9 hrw9 hrun9 hkq9 hms9 ht9 hbg6 hownV hrun hown7 hgr7 hat7 hPK hf CF S5 HSM5 HS7 HSM hc5
          by_cases hf0 : f = 0
          · subst hf0
            clear HFE
            rw [show ((0 : Nat) : Int) = 0 from rfl]
            go_wp2_with (at_builtin; refine Lib.wpList_append_run _ rfl (.tmp 73) (.tmp 74) _ _ rfl _ _ rfl rfl _ _ HRUN.out ?_)
            go_roundw
            case rel => exact ⟨G ++ L9, p + nn, i + 1, by go_num, by go_num, by omega, by omega, by omega, HSM7⟩
            case measure => simp [intOf]; omega
          · obtain rfl : f = ES := HFE.out hf0
            have q1 : ((f : Int) != 0) = true := by rw [bne_iff_ne]; omega
            have q2 : ((f : Int) == 0) = false := by rw [beq_eq_false_iff_ne]; omega
            have q3 : ((f : Int) != (f : Int)) = false := by simp
            clear HFE
            go_wp2_with (at_builtin; refine Lib.wpList_append_run _ rfl (.tmp 73) (.tmp 74) _ _ rfl _ _ rfl rfl _ _ HRUN.out ?_)
            go_roundw
            case rel => exact ⟨G ++ L9, p + nn, i + 1, by go_num, by go_num, by omega, by omega, by omega, HSM7⟩
            case measure => simp [intOf]; omega
      · obtain ⟨nn, rfl⟩ : ∃ nn : Nat, rr = (nn : Int) := ⟨rr.toNat, by omega⟩
        have hnb40 : nn ≤ 40 := by omega
        by_cases hmin : (D : Int) < (nn : Int)
        · have hKD : D ≤ D := Nat.le_refl _
          go_upto_region 14 with fail
          have hKp : p + D ≤ 3000 := by omega
          have hKb : D ≤ 3000 := by omega
          obtain ⟨A7, hA7⟩ : ∃ A7, A7 = if c = p then A else A.map (·.add p) := ⟨_, rfl⟩
          have hsl : ∀ w : World, (Instr.sliceAt 26 (.slice A 3000 c) (some (.int .i64 (p : Int))) (some (.int .i64 ((p : Int) + (D : Int)))) none).run Try.prog w = .ok (.slice A7 D (c - p)) w := fun w => by
            have hu : Try.prog.underlying 26 = some (.slice (Try.prog.elem 26)) := by kernel_rfl
            have he : Try.prog.elem 26 = 5 := by kernel_rfl
            obtain ⟨i0, hi0, hz0, hz1, hz2⟩ := info_parts info5
            rw [run_sliceAt_slice (P := Try.prog) w 26 _ _ _ _ hu, run_slice_lh (P := Try.prog) w 26 A 3000 c hu .i64 .i64 (p : Int) ((p : Int) + (D : Int)) (by omega) (by omega) (by omega), he]
            have hsz5 : (sizeOf 5).run Try.prog w = .ok 1 w := by simp [sizeOf, typeInfo, hi0, hz1]
            rw [hsz5, hA7, show ((p : Int) + (D : Int)).toNat = p + D by omega, Int.toNat_natCast]
            simp [Result.andThen, sliced]
          have hcut := ((HA.out.bel HSM.out.bel).take (p + D)).cut p c (by rw [List.length_take, u8s_length, ← HLN.out]; omega)
          have HS7 := Lib.hid (show Seg wr A7 (u8s ((lb.drop p).take D)) by
            rw [hA7]
            have e : u8s ((lb.drop p).take D) = ((u8s lb).take (p + D)).drop p := by
              unfold u8s
              rw [← List.map_take, ← List.map_drop, List.drop_take, Nat.add_sub_cancel_left]
            rw [e]
            exact hcut)
          have HK7 := Lib.hid (show D = ((lb.drop p).take D).length by rw [List.length_take, List.length_drop, ← HLN.out]; omega)
          clear hcut hA7
          go_wp2_with (at_builtin; refine wpList_append_seg _ rfl (.tmp 62) (.tmp 68) _ rfl wr.heap.size 5 i0 _ 1 Try.underlying26 hi0 hz0 hz1 hz2 rfl _ 0 _ rfl (World.ownsRow_lit wr #[] 0 (Nat.le_refl _) (by decide) rfl) A7 D (c - p) (u8s ((lb.drop p).take D)) rfl (by rw [u8s_length, ← HK7.out]) (HS7.out.bel ((Below.refl _ _).alloc (Nat.le_refl _) _)) (u8s_one _) (by simp only [maxLen]; omega) (by omega) (by simp only [World.size_alloc]; omega) ?_; intro v5 w5 hown5 hb5; simp only [Nat.zero_add, List.nil_append] at hown5; obtain ⟨A5, c5, rfl, hc5, s5⟩ := own_shape hown5; have S5 := Lib.hid s5; have HSM5 := Lib.hid (HSM.out.next (((Below.refl wr.heap.size wr).alloc (Nat.le_refl _) (.cells #[] 5)).trans hb5)); clear hown5 hb5 s5)
          have CF := Lib.hid (feed_any (w.heap.size + 1) (feedN [] 0 (lb.take p)).2.1 (feedN [] 0 (lb.take p)).2.2 A5 D c5 ((lb.drop p).take D) HK7.out hc5 (Nat.le_trans (left_le _) (by rw [List.length_take, ← HLN.out]; omega)) (by omega) (fun x hx => HL.out x (List.mem_of_mem_take (left_sub _ x hx))) (fun x hx => HL.out x (List.mem_of_mem_drop (List.mem_of_mem_take hx))) w5 (HSM5.out.t.st (by omega)) S5.out)
          refine CF.out.mono ?_
          rintro e w6 hpost
          obtain ⟨A9, k9, cc9, L9, rfl, hk9, hkc9, hrw9, hrun9, hkq9, hms9, ht9⟩ := HSM5.out.fed hpost
          have hbg6 := HSM5.out.big
          have hsz6 := hkq9.kept.size
          have hcnt : nG + k9 ≤ 1500 := by
            have h1 := run_count (lb.take p ++ (lb.drop p).take D) (by rw [List.length_append, ← HK7.out, List.length_take, ← HLN.out]; omega)
            rw [hrun9, ← HSM5.out.gm, List.length_append, List.length_map, List.length_map, ← HNG.out, ← hk9] at h1
            exact h1
          have hownV : w6.ownsRow (w.heap.size + 2) 24 10 (.slice AV nG cV) nG (mqV G) := by
            have h1 := rowz_kept HSM5.out.own hkq9.kept (fun e => by have := (HSM5.out.ob _ e).1; omega)
            rw [← HNG.out] at h1
            exact h1
          obtain ⟨v7, w7, hrun, hown7, hgr7, hat7⟩ := append_msgs L9 A9 k9 cc9 w6 (w.heap.size + 2) hk9 hrw9.sg (.slice AV nG cV) nG (mqV G) (by omega) hownV (by omega)
          have hPK : lb.take p ++ (lb.drop p).take D = lb.take (p + D) := by rw [List.take_add]
          have HSM7 := Lib.hid (show SmS w lb (lb.take (p + D)) L (G ++ L9) AM v7 w7 by
            rw [← hPK]
            rw [HNG.out] at hgr7 hat7
            exact HSM5.out.put hkq9 ht9 hms9 hrun9 (by rw [← HNG.out, ← hk9]; exact hown7) hgr7 hat7)
          have HRUN := Lib.hid hrun
          rw [hPK]
          obtain ⟨f, hf⟩ : ∃ f, f = (feedN [] 0 (lb.take (p + D))).2.2 := ⟨_, rfl⟩
          rw [← hf]
          have HFE := Lib.hid (show f ≠ 0 → f = ES from fun h0 => by
            rw [hf, feed_first] at h0 ⊢
            rw [HES.out, feed_first]
            have := err_more (lb.take (p + D)) (lb.drop (p + D)) h0
            rw [List.take_append_drop] at this
            exact this.symm)
          have HNG7 := Lib.hid (show nG + k9 = (G ++ L9).length by rw [List.length_append, ← HNG.out, ← hk9])
          clear hpost hk9 hrw9 hrun9 hkq9 hms9 ht9 hbg6 hownV hrun hown7 hgr7 hat7 hPK hf CF S5 HSM5 HS7 HSM hc5
          by_cases hf0 : f = 0
          · subst hf0
            clear HFE
            rw [show ((0 : Nat) : Int) = 0 from rfl]
            go_wp2_with (at_builtin; refine Lib.wpList_append_run _ rfl (.tmp 73) (.tmp 74) _ _ rfl _ _ rfl rfl _ _ HRUN.out ?_)
            go_roundw
            case rel => exact ⟨G ++ L9, p + D, i + 1, by go_num, by go_num, by omega, by omega, by omega, HSM7⟩
            case measure => simp [intOf]; omega
          · obtain rfl : f = ES := HFE.out hf0
            have q1 : ((f : Int) != 0) = true := by rw [bne_iff_ne]; omega
            have q2 : ((f : Int) == 0) = false := by rw [beq_eq_false_iff_ne]; omega
            have q3 : ((f : Int) != (f : Int)) = false := by simp
            clear HFE
            go_wp2_with (at_builtin; refine Lib.wpList_append_run _ rfl (.tmp 73) (.tmp 74) _ _ rfl _ _ rfl rfl _ _ HRUN.out ?_)
            go_roundw
            case rel => exact ⟨G ++ L9, p + D, i + 1, by go_num, by go_num, by omega, by omega, by omega, HSM7⟩
            case measure => simp [intOf]; omega
        · have hKD : nn ≤ D := by omega
          go_upto_region 14 with fail
          have hKp : p + nn ≤ 3000 := by omega
          have hKb : nn ≤ 3000 := by omega
          obtain ⟨A7, hA7⟩ : ∃ A7, A7 = if c = p then A else A.map (·.add p) := ⟨_, rfl⟩
          have hsl : ∀ w : World, (Instr.sliceAt 26 (.slice A 3000 c) (some (.int .i64 (p : Int))) (some (.int .i64 ((p : Int) + (nn : Int)))) none).run Try.prog w = .ok (.slice A7 nn (c - p)) w := fun w => by
            have hu : Try.prog.underlying 26 = some (.slice (Try.prog.elem 26)) := by kernel_rfl
            have he : Try.prog.elem 26 = 5 := by kernel_rfl
            obtain ⟨i0, hi0, hz0, hz1, hz2⟩ := info_parts info5
            rw [run_sliceAt_slice (P := Try.prog) w 26 _ _ _ _ hu, run_slice_lh (P := Try.prog) w 26 A 3000 c hu .i64 .i64 (p : Int) ((p : Int) + (nn : Int)) (by omega) (by omega) (by omega), he]
            have hsz5 : (sizeOf 5).run Try.prog w = .ok 1 w := by simp [sizeOf, typeInfo, hi0, hz1]
            rw [hsz5, hA7, show ((p : Int) + (nn : Int)).toNat = p + nn by omega, Int.toNat_natCast]
            simp [Result.andThen, sliced]
          have hcut := ((HA.out.bel HSM.out.bel).take (p + nn)).cut p c (by rw [List.length_take, u8s_length, ← HLN.out]; omega)
          have HS7 := Lib.hid (show Seg wr A7 (u8s ((lb.drop p).take nn)) by
            rw [hA7]
            have e : u8s ((lb.drop p).take nn) = ((u8s lb).take (p + nn)).drop p := by
              unfold u8s
              rw [← List.map_take, ← List.map_drop, List.drop_take, Nat.add_sub_cancel_left]
            rw [e]
            exact hcut)
          have HK7 := Lib.hid (show nn = ((lb.drop p).take nn).length by rw [List.length_take, List.length_drop, ← HLN.out]; omega)
          clear hcut hA7
          go_wp2_with (at_builtin; refine wpList_append_seg _ rfl (.tmp 62) (.tmp 68) _ rfl wr.heap.size 5 i0 _ 1 Try.underlying26 hi0 hz0 hz1 hz2 rfl _ 0 _ rfl (World.ownsRow_lit wr #[] 0 (Nat.le_refl _) (by decide) rfl) A7 nn (c - p) (u8s ((lb.drop p).take nn)) rfl (by rw [u8s_length, ← HK7.out]) (HS7.out.bel ((Below.refl _ _).alloc (Nat.le_refl _) _)) (u8s_one _) (by simp only [maxLen]; omega) (by omega) (by simp only [World.size_alloc]; omega) ?_; intro v5 w5 hown5 hb5; simp only [Nat.zero_add, List.nil_append] at hown5; obtain ⟨A5, c5, rfl, hc5, s5⟩ := own_shape hown5; have S5 := Lib.hid s5; have HSM5 := Lib.hid (HSM.out.next (((Below.refl wr.heap.size wr).alloc (Nat.le_refl _) (.cells #[] 5)).trans hb5)); clear hown5 hb5 s5)
          have CF := Lib.hid (feed_any (w.heap.size + 1) (feedN [] 0 (lb.take p)).2.1 (feedN [] 0 (lb.take p)).2.2 A5 nn c5 ((lb.drop p).take nn) HK7.out hc5 (Nat.le_trans (left_le _) (by rw [List.length_take, ← HLN.out]; omega)) (by omega) (fun x hx => HL.out x (List.mem_of_mem_take (left_sub _ x hx))) (fun x hx => HL.out x (List.mem_of_mem_drop (List.mem_of_mem_take hx))) w5 (HSM5.out.t.st (by omega)) S5.out)
          refine CF.out.mono ?_
          rintro e w6 hpost
          obtain ⟨A9, k9, cc9, L9, rfl, hk9, hkc9, hrw9, hrun9, hkq9, hms9, ht9⟩ := HSM5.out.fed hpost
          have hbg6 := HSM5.out.big
          have hsz6 := hkq9.kept.size
          have hcnt : nG + k9 ≤ 1500 := by
            have h1 := run_count (lb.take p ++ (lb.drop p).take nn) (by rw [List.length_append, ← HK7.out, List.length_take, ← HLN.out]; omega)
            rw [hrun9, ← HSM5.out.gm, List.length_append, List.length_map, List.length_map, ← HNG.out, ← hk9] at h1
            exact h1
          have hownV : w6.ownsRow (w.heap.size + 2) 24 10 (.slice AV nG cV) nG (mqV G) := by
            have h1 := rowz_kept HSM5.out.own hkq9.kept (fun e => by have := (HSM5.out.ob _ e).1; omega)
            rw [← HNG.out] at h1
            exact h1
          obtain ⟨v7, w7, hrun, hown7, hgr7, hat7⟩ := append_msgs L9 A9 k9 cc9 w6 (w.heap.size + 2) hk9 hrw9.sg (.slice AV nG cV) nG (mqV G) (by omega) hownV (by omega)
          have hPK : lb.take p ++ (lb.drop p).take nn = lb.take (p + nn) := by rw [List.take_add]
          have HSM7 := Lib.hid (show SmS w lb (lb.take (p + nn)) L (G ++ L9) AM v7 w7 by
            rw [← hPK]
            rw [HNG.out] at hgr7 hat7
            exact HSM5.out.put hkq9 ht9 hms9 hrun9 (by rw [← HNG.out, ← hk9]; exact hown7) hgr7 hat7)
          have HRUN := Lib.hid hrun
          rw [hPK]
          obtain ⟨f, hf⟩ : ∃ f, f = (feedN [] 0 (lb.take (p + nn))).2.2 := ⟨_, rfl⟩
          rw [← hf]
          have HFE := Lib.hid (show f ≠ 0 → f = ES from fun h0 => by
            rw [hf, feed_first] at h0 ⊢
            rw [HES.out, feed_first]
            have := err_more (lb.take (p + nn)) (lb.drop (p + nn)) h0
            rw [List.take_append_drop] at this
            exact this.symm)
          have HNG7 := Lib.hid (show nG + k9 = (G ++ L9).length by rw [List.length_append, ← HNG.out, ← hk9])
          clear hpost hk9 hrw9 hrun9 hkq9 hms9 ht9 hbg6 hownV hrun hown7 hgr7 hat7 hPK hf CF S5 HSM5 HS7 HSM hc5
          by_cases hf0 : f = 0
          · subst hf0
            clear HFE
            rw [show ((0 : Nat) : Int) = 0 from rfl]
            go_wp2_with (at_builtin; refine Lib.wpList_append_run _ rfl (.tmp 73) (.tmp 74) _ _ rfl _ _ rfl rfl _ _ HRUN.out ?_)
            go_roundw
            case rel => exact ⟨G ++ L9, p + nn, i + 1, by go_num, by go_num, by omega, by omega, by omega, HSM7⟩
            case measure => simp [intOf]; omega
          · obtain rfl : f = ES := HFE.out hf0
            have q1 : ((f : Int) != 0) = true := by rw [bne_iff_ne]; omega
            have q2 : ((f : Int) == 0) = false := by rw [beq_eq_false_iff_ne]; omega
            have q3 : ((f : Int) != (f : Int)) = false := by simp
            clear HFE
            go_wp2_with (at_builtin; refine Lib.wpList_append_run _ rfl (.tmp 73) (.tmp 74) _ _ rfl _ _ rfl rfl _ _ HRUN.out ?_)
            go_roundw
            case rel => exact ⟨G ++ L9, p + nn, i + 1, by go_num, by go_num, by omega, by omega, by omega, HSM7⟩
            case measure => simp [intOf]; omega
    · by_cases him : i < m
      · have i1 : (i : Int) < (m : Int) := by omega
        have i2 : ¬ (i : Int) < 60 := by omega
        obtain ⟨A7, hA7⟩ : ∃ A7, A7 = if c = p then A else A.map (·.add p) := ⟨_, rfl⟩
        have hsl : ∀ w : World, (Instr.sliceAt 26 (.slice A 3000 c) (some (.int .i64 (p : Int))) none none).run Try.prog w = .ok (.slice A7 (3000 - p) (c - p)) w := fun w => by
          have hu : Try.prog.underlying 26 = some (.slice (Try.prog.elem 26)) := by kernel_rfl
          have he : Try.prog.elem 26 = 5 := by kernel_rfl
          obtain ⟨i0, hi0, hz0, hz1, hz2⟩ := info_parts info5
          rw [run_sliceAt_slice (P := Try.prog) w 26 _ _ _ _ hu, run_slice_l (P := Try.prog) w 26 A 3000 c hu .i64 (p : Int) (by omega) (by omega), he]
          have hsz5 : (sizeOf 5).run Try.prog w = .ok 1 w := by simp [sizeOf, typeInfo, hi0, hz1]
          rw [hsz5, hA7]
          simp [Result.andThen, sliced]
        have HS7 := Lib.hid (show Seg wr A7 (u8s (lb.drop p)) by
          rw [hA7, show u8s (lb.drop p) = (u8s lb).drop p by simp [u8s, List.map_drop]]
          exact (HA.out.bel HSM.out.bel).cut p c (by rw [u8s_length, ← HLN.out]; exact hnbc))
        have HK7 := Lib.hid (show 3000 - p = (lb.drop p).length by rw [List.length_drop, ← HLN.out])
        have hNp : 3000 - p ≤ 3000 := by omega
        clear hA7
        go_upto_region 19 with fail
        go_wp2_with (at_builtin; refine wpList_append_seg _ rfl (.tmp 91) (.tmp 94) _ rfl wr.heap.size 5 i0 _ 1 Try.underlying26 hi0 hz0 hz1 hz2 rfl _ 0 _ rfl (World.ownsRow_lit wr #[] 0 (Nat.le_refl _) (by decide) rfl) A7 (3000 - p) (c - p) (u8s (lb.drop p)) rfl (by rw [u8s_length, ← HK7.out]) (HS7.out.bel ((Below.refl _ _).alloc (Nat.le_refl _) _)) (u8s_one _) (by simp only [maxLen]; omega) (by omega) (by simp only [World.size_alloc]; omega) ?_; intro v5 w5 hown5 hb5; simp only [Nat.zero_add, List.nil_append] at hown5; obtain ⟨A5, c5, rfl, hc5, s5⟩ := own_shape hown5; have S5 := Lib.hid s5; have HSM5 := Lib.hid (HSM.out.next (((Below.refl wr.heap.size wr).alloc (Nat.le_refl _) (.cells #[] 5)).trans hb5)); clear hown5 hb5 s5)
        have CF := Lib.hid (feed_any (w.heap.size + 1) (feedN [] 0 (lb.take p)).2.1 (feedN [] 0 (lb.take p)).2.2 A5 (3000 - p) c5 (lb.drop p) HK7.out hc5 (Nat.le_trans (left_le _) (by rw [List.length_take, ← HLN.out]; omega)) (by omega) (fun x hx => HL.out x (List.mem_of_mem_take (left_sub _ x hx))) (fun x hx => HL.out x (List.mem_of_mem_drop hx)) w5 (HSM5.out.t.st (by omega)) S5.out)
        refine CF.out.mono ?_
        rintro e w6 hpost
        obtain ⟨A9, k9, cc9, L9, rfl, hk9, hkc9, hrw9, hrun9, hkq9, hms9, ht9⟩ := HSM5.out.fed hpost
        have hbg6 := HSM5.out.big
        have hsz6 := hkq9.kept.size
        have hPK : lb.take p ++ lb.drop p = lb := List.take_append_drop p lb
        have hcnt : nG + k9 = nL := by
          have h1 := hrun9
          rw [hPK, ← HSM5.out.gm, ← HLR.out] at h1
          have h2 := congrArg List.length h1
          rw [List.length_append, List.length_map, List.length_map, List.length_map, ← HNG.out, ← hk9, ← HNL.out] at h2
          exact h2.symm
        have hownV : w6.ownsRow (w.heap.size + 2) 24 10 (.slice AV nG cV) nG (mqV G) := by
          have h1 := rowz_kept HSM5.out.own hkq9.kept (fun e => by have := (HSM5.out.ob _ e).1; omega)
          rw [← HNG.out] at h1
          exact h1
        obtain ⟨v7, w7, hrun, hown7, hgr7, hat7⟩ := append_msgs L9 A9 k9 cc9 w6 (w.heap.size + 2) hk9 hrw9.sg (.slice AV nG cV) nG (mqV G) (by omega) hownV (by omega)
        have HSM7 := Lib.hid (show SmS w lb lb L (G ++ L9) AM v7 w7 by
          have h1 := HSM5.out.put (V' := v7) (w'' := w7) hkq9 ht9 hms9 hrun9 (by rw [← HNG.out, ← hk9]; exact hown7) (by rw [HNG.out] at hgr7; exact hgr7) (by rw [HNG.out] at hat7; exact hat7)
          rw [hPK] at h1
          exact h1)
        rw [hcnt] at hown7
        obtain ⟨A8, c8, rfl, hc8, hs8, _⟩ := rowz_shape hown7
        have HRUN := Lib.hid hrun
        rw [hPK, ← HES.out]
        have HG8 := Lib.hid (show nL = (G ++ L9).length by rw [List.length_append, ← HNG.out, ← hk9, hcnt])
        have HS8 := Lib.hid (show Seg w7 A8 (mqV (G ++ L9)) by rw [mqV_append]; exact hs8)
        have CW := Lib.hid (wawake_any w7)
        clear hpost hk9 hrw9 hrun9 hkq9 hms9 ht9 hbg6 hownV hrun hown7 hgr7 hat7 hPK CF S5 HSM5 HS7 HSM hc5 hs8 hsl hcnt HK7
        go_wp2_with (at_builtin; refine Lib.wpList_append_run _ rfl (.tmp 99) (.tmp 100) _ _ rfl _ _ rfl rfl _ _ HRUN.out ?_)
        refine CW.out.mono ?_
        rintro e w8 ⟨rfl, hb8⟩
        have HSM8 := Lib.hid (HSM7.out.next hb8)
        have CM := Lib.hid (msgs_any (G ++ L9) L (by rw [HSM8.out.gm, HLR.out]) A8 AM nL c8 cm w8 ⟨HG8.out, HS8.out.bel hb8, by omega, fun q hq => (HSM8.out.gs q hq).mg.ent'⟩ ⟨HNL.out, HSM8.out.am.sg, by omega, fun q hq => (HSM8.out.al q hq).mg.ent'⟩)
        clear hb8 HSM7 HRUN CW
        go_wp2_with fail
        refine CM.out.mono ?_
        rintro e w9 ⟨rfl, hb9⟩
        have HSM9 := Lib.hid (HSM8.out.next hb9)
        obtain ⟨LS, hLS⟩ : ∃ LS, LS = (feedN [] 0 lb).2.1.length := ⟨_, rfl⟩
        have hLS2 : LS ≤ 3000 := by rw [hLS, HLN.out] at *; exact Nat.le_trans (left_le lb) (by omega)
        have C1 := rest_any w.heap.size (feedN [] 0 lb).2.1 (feedN [] 0 lb).2.2 w9 (HSM9.out.s.st (by omega))
        have C2 := rest_any (w.heap.size + 1) (feedN [] 0 lb).2.1 (feedN [] 0 lb).2.2 w9 (HSM9.out.t.st (by omega))
        rw [← hLS] at C1 C2
        have C1 := Lib.hid C1
        have C2 := Lib.hid C2
        have HLS := Lib.hid hLS
        clear hb9 HSM8 CM hLS
        go_wp2_with fail
        refine C1.out.mono ?_
        rintro e w10 ⟨rfl, hw10⟩
        subst hw10
        go_wp2_with fail
        refine C2.out.mono ?_
        rintro e w11 ⟨rfl, hw11⟩
        subst hw11
        clear C1 C2
        have CF := feed_any w.heap.size (feedN [] 0 lb).2.1 (feedN [] 0 lb).2.2 none 0 0 [] rfl (Nat.le_refl _) (by rw [← HLS.out]; omega) (by omega) (fun x hx => HL.out x (left_sub lb x hx)) (fun x hx => absurd hx List.not_mem_nil) w11 (HSM9.out.s.st (by omega)) (Seg.nil _ _)
        unfold FeedPost at CF
        rw [feed_none lb] at CF
        dsimp only at CF
        rw [← HES.out] at CF
        have CF := Lib.hid CF
        go_wp2_with fail
        refine CF.out.mono ?_
        rintro e w12 ⟨⟨AX, cx, LX, rfl, hLX, hlx, -, -, -⟩, hst, hkq, hlf⟩
        have hll : LX.length = 0 := by rw [← List.length_map (f := Mq.m), hLX]; rfl
        rw [hll]
        have HT := Lib.hid (show TlS w lb L AM w12 from ⟨HSM9.out.bel.trans hkq.bel, by rw [← HES.out]; exact hst, (HSM9.out.am.kq hkq (by omega)).sg, fun q hq => ((HSM9.out.al q hq).kq hkq (by omega)).mg⟩)
        have HFR := Lib.hid (run_frames lb HL.out)
        clear hLX hlx hst hkq hlf hll CF HSM9
        go_wp2_with fail
        go_loopw [19, 134] (fun kv jv wr => ∃ kk j : Nat, kv = .int .i64 (kk : Int) ∧ jv = .int .i64 (j : Int) ∧ j ≤ nL ∧ kk ≤ 3000 ∧ Hid (kk = (framesN ((run lb).1.take j)).length) ∧ Hid (TlS w lb L AM wr)) (fun _ jv _ => nL - (intOf jv).toNat)
        case atStart => exact ⟨0, 0, rfl, rfl, by omega, by omega, Lib.hid rfl, HT⟩
        case round =>
          clear HT
          obtain ⟨kk, j, rfl, rfl, hj, hkk, HKK, HT⟩ := hrel
          by_cases hjl : j < nL
          · have i5 : (j : Int) < (nL : Int) := by omega
            have i6 : (0 : Int) ≤ (j : Int) := by omega
            have hj1 : j < L.length := by rw [← HNL.out]; exact hjl
            obtain ⟨b, off, rfl, hbl, hc⟩ := (HT.out.row HNL.out hnL2).at hj1
            obtain ⟨q, hqd⟩ : ∃ q, q = L[j] := ⟨_, rfl⟩
            rw [← hqd] at hc
            have HMq := Lib.hid (show Mg wr q.m q.A q.n q.c from HT.out.al q (by rw [hqd]; exact List.getElem_mem hj1))
            have hjr : j < (run lb).1.length := by rw [← HLR.out, List.length_map]; exact hj1
            have hqr : (run lb).1[j] = q.m := by
              have h1 : (L.map Mq.m)[j]? = (run lb).1[j]? := by rw [HLR.out]
              rw [List.getElem?_map, List.getElem?_eq_getElem hj1, List.getElem?_eq_getElem hjr, Option.map_some, ← hqd] at h1
              injection h1 with h1
              exact h1.symm
            have HCK := Lib.hid (show checkN q.m = 0 from HFR.out.2 q.m (by rw [← hqr]; exact List.getElem_mem hjr))
            obtain ⟨f1, f2, f3⟩ := frames_take HFR.out.1 hjr
            rw [hqr, ← HKK.out] at f1 f2 f3
            obtain ⟨fl, hfl⟩ : ∃ fl, fl = (frameN q.m).length := ⟨_, rfl⟩
            rw [← hfl] at f1 f2 f3
            rw [← HLN.out] at f1
            have HF2 := Lib.hid f2
            have HF3 := Lib.hid f3
            have HFL := Lib.hid hfl
            have hX := Bk.new wr 24 #[.int .i64 q.m.kind, .int .i64 q.m.n0, .int .i64 q.m.n1, .int .i64 q.m.n2, .int .i64 q.m.n3, .int .i64 q.m.n4, .int .i64 q.m.n5, .slice q.A q.n q.c, .bool q.m.ok, .int .i64 q.m.n6]
            obtain ⟨w13, hw13⟩ : ∃ w13, w13 = wr.alloc (.cells #[.int .i64 q.m.kind, .int .i64 q.m.n0, .int .i64 q.m.n1, .int .i64 q.m.n2, .int .i64 q.m.n3, .int .i64 q.m.n4, .int .i64 q.m.n5, .slice q.A q.n q.c, .bool q.m.ok, .int .i64 q.m.n6] 24) := ⟨_, rfl⟩
            have hb13 : Below wr.heap.size wr w13 := by rw [hw13]; exact (Below.refl _ _).alloc (Nat.le_refl _) _
            rw [← hw13] at hX
            have HX := Lib.hid hX
            have HT13 := Lib.hid (HT.out.next hb13)
            have HM13 := Lib.hid (HMq.out.bel hb13)
            have HW13 := Lib.hid hw13
            have y0 : wr.cell? ⟨b, off + j * 10, none⟩ = some (.int .i64 q.m.kind) := hc 0 (by decide)
            have y1 : wr.cell? ⟨b, off + j * 10 + 1, none⟩ = some (.int .i64 q.m.n0) := hc 1 (by decide)
            have y2 : wr.cell? ⟨b, off + j * 10 + 2, none⟩ = some (.int .i64 q.m.n1) := hc 2 (by decide)
            have y3 : wr.cell? ⟨b, off + j * 10 + 3, none⟩ = some (.int .i64 q.m.n2) := hc 3 (by decide)
            have y4 : wr.cell? ⟨b, off + j * 10 + 4, none⟩ = some (.int .i64 q.m.n3) := hc 4 (by decide)
            have y5 : wr.cell? ⟨b, off + j * 10 + 5, none⟩ = some (.int .i64 q.m.n4) := hc 5 (by decide)
            have y6 : wr.cell? ⟨b, off + j * 10 + 6, none⟩ = some (.int .i64 q.m.n5) := hc 6 (by decide)
            have y7 : wr.cell? ⟨b, off + j * 10 + 7, none⟩ = some (.slice q.A q.n q.c) := hc 7 (by decide)
            have y8 : wr.cell? ⟨b, off + j * 10 + 8, none⟩ = some (.bool q.m.ok) := hc 8 (by decide)
            have y9 : wr.cell? ⟨b, off + j * 10 + 9, none⟩ = some (.int .i64 q.m.n6) := hc 9 (by decide)
            clear hc hqd hjr hqr f2 f3 hfl hX hw13 hb13 hj1 HT HMq
            go_upto_region 30 with fail
            rw [← HW13.out]
            have x0 : w13.cell? ⟨wr.heap.size, 0, none⟩ = some (.int .i64 q.m.kind) := HX.out.cell 0
            have x1 : w13.cell? ⟨wr.heap.size, 1, none⟩ = some (.int .i64 q.m.n0) := HX.out.cell 1
            have x2 : w13.cell? ⟨wr.heap.size, 2, none⟩ = some (.int .i64 q.m.n1) := HX.out.cell 2
            have x3 : w13.cell? ⟨wr.heap.size, 3, none⟩ = some (.int .i64 q.m.n2) := HX.out.cell 3
            have x4 : w13.cell? ⟨wr.heap.size, 4, none⟩ = some (.int .i64 q.m.n3) := HX.out.cell 4
            have x5 : w13.cell? ⟨wr.heap.size, 5, none⟩ = some (.int .i64 q.m.n4) := HX.out.cell 5
            have x6 : w13.cell? ⟨wr.heap.size, 6, none⟩ = some (.int .i64 q.m.n5) := HX.out.cell 6
            have x7 : w13.cell? ⟨wr.heap.size, 7, none⟩ = some (.slice q.A q.n q.c) := HX.out.cell 7
            have x8 : w13.cell? ⟨wr.heap.size, 8, none⟩ = some (.bool q.m.ok) := HX.out.cell 8
            have x9 : w13.cell? ⟨wr.heap.size, 9, none⟩ = some (.int .i64 q.m.n6) := HX.out.cell 9
            have C1 := rframe_any q.m q.A q.n q.c w13 HM13.out HCK.out
            rw [← HFL.out] at C1
            unfold msgC at C1
            have C1 := Lib.hid C1
            go_wp2_with fail
            refine C1.out.mono ?_
            rintro e w14 ⟨⟨A14, c14, rfl, hc14, hs14⟩, hb14⟩
            have HT14 := Lib.hid (HT13.out.next hb14)
            have HM14 := Lib.hid (HM13.out.bel hb14)
            have HX14 := Lib.hid (HX.out.bel hb14)
            have HS14 := Lib.hid hs14
            clear hb14 hs14 C1 x0 x1 x2 x3 x4 x5 x6 x7 x8 x9 HT13 HM13 HX
            have x0 : w14.cell? ⟨wr.heap.size, 0, none⟩ = some (.int .i64 q.m.kind) := HX14.out.cell 0
            have x1 : w14.cell? ⟨wr.heap.size, 1, none⟩ = some (.int .i64 q.m.n0) := HX14.out.cell 1
            have x2 : w14.cell? ⟨wr.heap.size, 2, none⟩ = some (.int .i64 q.m.n1) := HX14.out.cell 2
            have x3 : w14.cell? ⟨wr.heap.size, 3, none⟩ = some (.int .i64 q.m.n2) := HX14.out.cell 3
            have x4 : w14.cell? ⟨wr.heap.size, 4, none⟩ = some (.int .i64 q.m.n3) := HX14.out.cell 4
            have x5 : w14.cell? ⟨wr.heap.size, 5, none⟩ = some (.int .i64 q.m.n4) := HX14.out.cell 5
            have x6 : w14.cell? ⟨wr.heap.size, 6, none⟩ = some (.int .i64 q.m.n5) := HX14.out.cell 6
            have x7 : w14.cell? ⟨wr.heap.size, 7, none⟩ = some (.slice q.A q.n q.c) := HX14.out.cell 7
            have x8 : w14.cell? ⟨wr.heap.size, 8, none⟩ = some (.bool q.m.ok) := HX14.out.cell 8
            have x9 : w14.cell? ⟨wr.heap.size, 9, none⟩ = some (.int .i64 q.m.n6) := HX14.out.cell 9
            have C2 := rcheck_any q.m q.A q.n q.c w14 HM14.out
            rw [HCK.out, show ((0 : Nat) : Int) = 0 from rfl] at C2
            unfold msgC at C2
            have C2 := Lib.hid C2
            obtain ⟨A7, hA7⟩ : ∃ A7, A7 = if c = kk then A else A.map (·.add kk) := ⟨_, rfl⟩
            have hsl : ∀ w : World, (Instr.sliceAt 26 (.slice A 3000 c) (some (.int .i64 (kk : Int))) (some (.int .i64 ((kk : Int) + (fl : Int)))) none).run Try.prog w = .ok (.slice A7 fl (c - kk)) w := fun w => by
              have hu : Try.prog.underlying 26 = some (.slice (Try.prog.elem 26)) := by kernel_rfl
              have he : Try.prog.elem 26 = 5 := by kernel_rfl
              obtain ⟨i0, hi0, hz0, hz1, hz2⟩ := info_parts info5
              rw [run_sliceAt_slice (P := Try.prog) w 26 _ _ _ _ hu, run_slice_lh (P := Try.prog) w 26 A 3000 c hu .i64 .i64 (kk : Int) ((kk : Int) + (fl : Int)) (by omega) (by omega) (by omega), he]
              have hsz5 : (sizeOf 5).run Try.prog w = .ok 1 w := by simp [sizeOf, typeInfo, hi0, hz1]
              rw [hsz5, hA7, show ((kk : Int) + (fl : Int)).toNat = kk + fl by omega, Int.toNat_natCast]
              simp [Result.andThen, sliced]
            have HS7 := Lib.hid (show ∀ w', Seg w' A (u8s lb) → Seg w' A7 (u8s (frameN q.m)) from fun w' hs => by
              have hcut := (hs.take (kk + fl)).cut kk c (by rw [List.length_take, u8s_length, ← HLN.out]; omega)
              rw [hA7]
              have e : u8s (frameN q.m) = ((u8s lb).take (kk + fl)).drop kk := by
                rw [← HF2.out]
                unfold u8s
                rw [← List.map_take, ← List.map_drop, List.drop_take, Nat.add_sub_cancel_left]
              rw [e]
              exact hcut)
            have i7 : ¬ (3000 : Int) < (kk : Int) + (fl : Int) := by omega
            clear hA7
            go_wp2_with fail
            refine C2.out.mono ?_
            rintro e w15 ⟨rfl, hb15⟩
            have HT15 := Lib.hid (HT14.out.next hb15)
            have C3 := same_u8 A7 A14 fl fl (c - kk) c14 (frameN q.m) (frameN q.m) HFL.out HFL.out w15 (HS7.out w15 (HA.out.bel HT15.out.bel)) (HS14.out.bel hb15) (by omega) (by omega)
            rw [show decide (frameN q.m = frameN q.m) = true by simp] at C3
            have C3 := Lib.hid C3
            clear hb15 C2 HT14 x0 x1 x2 x3 x4 x5 x6 x7 x8 x9
            go_wp2_with fail
            refine C3.out.mono ?_
            rintro e w16 ⟨rfl, hb16⟩
            have HT16 := Lib.hid (HT15.out.next hb16)
            clear hb16 C3 HT15
            go_wp2_with fail
            go_roundw
            case rel => exact ⟨kk + fl, j + 1, by go_num, by go_num, by omega, by omega, Lib.hid HF3.out.symm, HT16⟩
            case measure => simp [intOf]; omega
          · obtain rfl : j = nL := by omega
            have hLrl : (run lb).1.length = j := by rw [← HLR.out, List.length_map, ← HNL.out]
            have hk2 : kk = (framesN (run lb).1).length := by rw [HKK.out, ← hLrl, List.take_length]
            have hdrop : lb.drop kk = (run lb).2 := by
              have h1 : lb.drop (framesN (run lb).1).length = (framesN (run lb).1 ++ (run lb).2).drop (framesN (run lb).1).length := congrArg (List.drop _) HFR.out.1
              rw [hk2, h1, List.drop_left]
            have HRL := Lib.hid (show 3000 - kk = (run lb).2.length by rw [← hdrop, List.length_drop, ← HLN.out])
            have HEE := Lib.hid (show ES = firstE (run lb).2 by rw [HES.out, feed_first])
            have HLE := Lib.hid (show LS = if firstE (run lb).2 = 0 then (run lb).2.length else 0 by
              rw [HLS.out, feed_first]
              simp only
              split <;> rfl)
            obtain ⟨A7, hA7⟩ : ∃ A7, A7 = if c = kk then A else A.map (·.add kk) := ⟨_, rfl⟩
            have hsl : ∀ w : World, (Instr.sliceAt 26 (.slice A 3000 c) (some (.int .i64 (kk : Int))) none none).run Try.prog w = .ok (.slice A7 (3000 - kk) (c - kk)) w := fun w => by
              have hu : Try.prog.underlying 26 = some (.slice (Try.prog.elem 26)) := by kernel_rfl
              have he : Try.prog.elem 26 = 5 := by kernel_rfl
              obtain ⟨i0, hi0, hz0, hz1, hz2⟩ := info_parts info5
              rw [run_sliceAt_slice (P := Try.prog) w 26 _ _ _ _ hu, run_slice_l (P := Try.prog) w 26 A 3000 c hu .i64 (kk : Int) (by omega) (by omega), he]
              have hsz5 : (sizeOf 5).run Try.prog w = .ok 1 w := by simp [sizeOf, typeInfo, hi0, hz1]
              rw [hsz5, hA7]
              simp [Result.andThen, sliced]
            have HS7 := Lib.hid (show ∀ w', Seg w' A (u8s lb) → Seg w' A7 (u8s (run lb).2) from fun w' hs => by
              rw [hA7, ← hdrop, show u8s (lb.drop kk) = (u8s lb).drop kk by simp [u8s, List.map_drop]]
              exact hs.cut kk c (by rw [u8s_length, ← HLN.out]; exact hnbc))
            clear hA7 hdrop hk2 hLrl HKK
            go_upto_region 35 with fail
            refine wp_region_list [some 169, some 170, some 171, some 172, some 173, some 174, some 4] (fun _ => 0) (enF A A7 3000 c kk ES LS) (fun w' => Below wr.heap.size wr w') (by kernel_rfl) (Below.refl _ _).drew rfl (by kernel_rfl) (by kernel_rfl) (by kernel_rfl) (by kernel_rfl) (fun T hT => ?_)
            simp only [List.filterMap_cons, List.filterMap_nil, id, putsS, Act.put, List.setIfInBounds_toArray, List.set_cons_zero, List.set_cons_succ] at hT
            subst hT
            refine ⟨⟨?_, ?_, ?_, ?_, ?_, ?_, ?_, trivial⟩, ?_⟩
            · -- 0: Op.move t0
              refine StepL.act ?_
              intro f w1 hG hF K hK
              clear hF
              dsimp only at hK ⊢
              go_simp
              exact hK.out _ _ hG rfl (fun _ _ _ _ h => h)
            · -- 1: Op.move t19
              refine StepL.act ?_
              intro f w1 hG hF K hK
              clear hF
              dsimp only at hK ⊢
              go_simp
              exact hK.out _ _ hG rfl (fun _ _ _ _ h => h)
            · -- 2: Op.slice 26 t169 (some t170) none none
              refine StepL.act ?_
              intro f w1 hG hF K hK
              have d0 : (enF A A7 3000 c kk ES LS) 0 (f 169) (f 0) w1 := hF 0 (by kernel_rfl)
              have d1 : (enF A A7 3000 c kk ES LS) 1 (f 170) (f 0) w1 := hF 1 (by kernel_rfl)
              clear hF
              dsimp only at hK ⊢
              generalize hf169 : f 169 = v169 at *
              generalize hf170 : f 170 = v170 at *
              subst d0
              subst d1
              go_simp
              exact hK.out _ _ hG rfl (fun _ _ _ _ h => h)
            · -- 3: Op.move t8
              refine StepL.act ?_
              intro f w1 hG hF K hK
              clear hF
              dsimp only at hK ⊢
              go_simp
              exact hK.out _ _ hG rfl (fun _ _ _ _ h => h)
            · -- 4: Op.call ( value (Operand.func 20), args := #[t5], argTypes :
              refine StepL.act ?_
              intro f w1 hG hF K hK
              clear hF
              dsimp only at hK ⊢
              have C1 := rest_any w.heap.size (feedN [] 0 lb).2.1 (feedN [] 0 lb).2.2 w1 (HT.out.st.bel hG)
              rw [← HLS.out] at C1
              go_simp
              refine C1.mono ?_
              rintro e w2 ⟨rfl, hw2⟩
              subst hw2
              exact hK.out _ _ hG rfl (fun _ _ _ _ h => h)
            · -- 5: Op.call ( value (Operand.func 21), args := #[t171, t172, t17
              refine StepL.act ?_
              intro f w1 hG hF K hK
              have d2 : (enF A A7 3000 c kk ES LS) 2 (f 171) (f 0) w1 := hF 2 (by kernel_rfl)
              have d3 : (enF A A7 3000 c kk ES LS) 3 (f 172) (f 0) w1 := hF 3 (by kernel_rfl)
              have d4 : (enF A A7 3000 c kk ES LS) 4 (f 173) (f 0) w1 := hF 4 (by kernel_rfl)
              clear hF
              dsimp only at hK ⊢
              generalize hf171 : f 171 = v171 at *
              generalize hf172 : f 172 = v172 at *
              generalize hf173 : f 173 = v173 at *
              have e2 : v171 = .slice A7 (3000 - kk) (c - kk) := d2
              have e3 : v172 = .int .i64 (ES : Int) := d3
              have e4 : v173 = .int .i64 (LS : Int) := d4
              subst e2
              subst e3
              subst e4
              have C2 := wend_any A7 (3000 - kk) (c - kk) (run lb).2 ES LS HRL.out (by omega) (by omega) (fun x hx => HL.out x (run_sub lb x hx)) (run_end lb) HEE.out HLE.out w1 (HS7.out w1 (HA.out.bel (HT.out.bel.trans (hG.mono HT.out.bel.size))))
              go_simp
              refine C2.mono ?_
              rintro e w2 ⟨rfl, hb2⟩
              exact hK.out _ _ (hG.trans (hb2.mono hG.size)) rfl (fun _ _ _ _ h => h)
            · -- 6: Op.assign t174
              refine StepL.act ?_
              intro f w1 hG hF K hK
              have d5 : (enF A A7 3000 c kk ES LS) 5 (f 174) (f 0) w1 := hF 5 (by kernel_rfl)
              clear hF
              dsimp only at hK ⊢
              generalize hf174 : f 174 = v174 at *
              subst d5
              go_simp
              exact hK.out _ _ hG rfl (fun _ _ _ _ h => h)
            intro f w6 hG hF
            have e6 : f 4 = .bool true := hF 6 (by decide)
            have HG6 := Lib.hid (HT.out.bel.trans (hG.mono HT.out.bel.size))
            clear hF hG
            dsimp only
            generalize f 169 = v169
            generalize f 170 = v170
            generalize f 171 = v171
            generalize f 172 = v172
            generalize f 173 = v173
            generalize f 174 = v174
            generalize f 4 = v4 at *
            subst e6
            go_wp2_with fail
            go_ret
            exact ⟨rfl, HG6.out⟩
      · have i1 : ¬ (i : Int) < (m : Int) := by omega
        obtain ⟨A7, hA7⟩ : ∃ A7, A7 = if c = p then A else A.map (·.add p) := ⟨_, rfl⟩
        have hsl : ∀ w : World, (Instr.sliceAt 26 (.slice A 3000 c) (some (.int .i64 (p : Int))) none none).run Try.prog w = .ok (.slice A7 (3000 - p) (c - p)) w := fun w => by
          have hu : Try.prog.underlying 26 = some (.slice (Try.prog.elem 26)) := by kernel_rfl
          have he : Try.prog.elem 26 = 5 := by kernel_rfl
          obtain ⟨i0, hi0, hz0, hz1, hz2⟩ := info_parts info5
          rw [run_sliceAt_slice (P := Try.prog) w 26 _ _ _ _ hu, run_slice_l (P := Try.prog) w 26 A 3000 c hu .i64 (p : Int) (by omega) (by omega), he]
          have hsz5 : (sizeOf 5).run Try.prog w = .ok 1 w := by simp [sizeOf, typeInfo, hi0, hz1]
          rw [hsz5, hA7]
          simp [Result.andThen, sliced]
        have HS7 := Lib.hid (show Seg wr A7 (u8s (lb.drop p)) by
          rw [hA7, show u8s (lb.drop p) = (u8s lb).drop p by simp [u8s, List.map_drop]]
          exact (HA.out.bel HSM.out.bel).cut p c (by rw [u8s_length, ← HLN.out]; exact hnbc))
        have HK7 := Lib.hid (show 3000 - p = (lb.drop p).length by rw [List.length_drop, ← HLN.out])
        have hNp : 3000 - p ≤ 3000 := by omega
        clear hA7
        go_upto_region 19 with fail
        go_wp2_with (at_builtin; refine wpList_append_seg _ rfl (.tmp 91) (.tmp 94) _ rfl wr.heap.size 5 i0 _ 1 Try.underlying26 hi0 hz0 hz1 hz2 rfl _ 0 _ rfl (World.ownsRow_lit wr #[] 0 (Nat.le_refl _) (by decide) rfl) A7 (3000 - p) (c - p) (u8s (lb.drop p)) rfl (by rw [u8s_length, ← HK7.out]) (HS7.out.bel ((Below.refl _ _).alloc (Nat.le_refl _) _)) (u8s_one _) (by simp only [maxLen]; omega) (by omega) (by simp only [World.size_alloc]; omega) ?_; intro v5 w5 hown5 hb5; simp only [Nat.zero_add, List.nil_append] at hown5; obtain ⟨A5, c5, rfl, hc5, s5⟩ := own_shape hown5; have S5 := Lib.hid s5; have HSM5 := Lib.hid (HSM.out.next (((Below.refl wr.heap.size wr).alloc (Nat.le_refl _) (.cells #[] 5)).trans hb5)); clear hown5 hb5 s5)
        have CF := Lib.hid (feed_any (w.heap.size + 1) (feedN [] 0 (lb.take p)).2.1 (feedN [] 0 (lb.take p)).2.2 A5 (3000 - p) c5 (lb.drop p) HK7.out hc5 (Nat.le_trans (left_le _) (by rw [List.length_take, ← HLN.out]; omega)) (by omega) (fun x hx => HL.out x (List.mem_of_mem_take (left_sub _ x hx))) (fun x hx => HL.out x (List.mem_of_mem_drop hx)) w5 (HSM5.out.t.st (by omega)) S5.out)
        refine CF.out.mono ?_
        rintro e w6 hpost
        obtain ⟨A9, k9, cc9, L9, rfl, hk9, hkc9, hrw9, hrun9, hkq9, hms9, ht9⟩ := HSM5.out.fed hpost
        have hbg6 := HSM5.out.big
        have hsz6 := hkq9.kept.size
        have hPK : lb.take p ++ lb.drop p = lb := List.take_append_drop p lb
        have hcnt : nG + k9 = nL := by
          have h1 := hrun9
          rw [hPK, ← HSM5.out.gm, ← HLR.out] at h1
          have h2 := congrArg List.length h1
          rw [List.length_append, List.length_map, List.length_map, List.length_map, ← HNG.out, ← hk9, ← HNL.out] at h2
          exact h2.symm
        have hownV : w6.ownsRow (w.heap.size + 2) 24 10 (.slice AV nG cV) nG (mqV G) := by
          have h1 := rowz_kept HSM5.out.own hkq9.kept (fun e => by have := (HSM5.out.ob _ e).1; omega)
          rw [← HNG.out] at h1
          exact h1
        obtain ⟨v7, w7, hrun, hown7, hgr7, hat7⟩ := append_msgs L9 A9 k9 cc9 w6 (w.heap.size + 2) hk9 hrw9.sg (.slice AV nG cV) nG (mqV G) (by omega) hownV (by omega)
        have HSM7 := Lib.hid (show SmS w lb lb L (G ++ L9) AM v7 w7 by
          have h1 := HSM5.out.put (V' := v7) (w'' := w7) hkq9 ht9 hms9 hrun9 (by rw [← HNG.out, ← hk9]; exact hown7) (by rw [HNG.out] at hgr7; exact hgr7) (by rw [HNG.out] at hat7; exact hat7)
          rw [hPK] at h1
          exact h1)
        rw [hcnt] at hown7
        obtain ⟨A8, c8, rfl, hc8, hs8, _⟩ := rowz_shape hown7
        have HRUN := Lib.hid hrun
        rw [hPK, ← HES.out]
        have HG8 := Lib.hid (show nL = (G ++ L9).length by rw [List.length_append, ← HNG.out, ← hk9, hcnt])
        have HS8 := Lib.hid (show Seg w7 A8 (mqV (G ++ L9)) by rw [mqV_append]; exact hs8)
        have CW := Lib.hid (wawake_any w7)
        clear hpost hk9 hrw9 hrun9 hkq9 hms9 ht9 hbg6 hownV hrun hown7 hgr7 hat7 hPK CF S5 HSM5 HS7 HSM hc5 hs8 hsl hcnt HK7
        go_wp2_with (at_builtin; refine Lib.wpList_append_run _ rfl (.tmp 99) (.tmp 100) _ _ rfl _ _ rfl rfl _ _ HRUN.out ?_)
        refine CW.out.mono ?_
        rintro e w8 ⟨rfl, hb8⟩
        have HSM8 := Lib.hid (HSM7.out.next hb8)
        have CM := Lib.hid (msgs_any (G ++ L9) L (by rw [HSM8.out.gm, HLR.out]) A8 AM nL c8 cm w8 ⟨HG8.out, HS8.out.bel hb8, by omega, fun q hq => (HSM8.out.gs q hq).mg.ent'⟩ ⟨HNL.out, HSM8.out.am.sg, by omega, fun q hq => (HSM8.out.al q hq).mg.ent'⟩)
        clear hb8 HSM7 HRUN CW
        go_wp2_with fail
        refine CM.out.mono ?_
        rintro e w9 ⟨rfl, hb9⟩
        have HSM9 := Lib.hid (HSM8.out.next hb9)
        obtain ⟨LS, hLS⟩ : ∃ LS, LS = (feedN [] 0 lb).2.1.length := ⟨_, rfl⟩
        have hLS2 : LS ≤ 3000 := by rw [hLS, HLN.out] at *; exact Nat.le_trans (left_le lb) (by omega)
        have C1 := rest_any w.heap.size (feedN [] 0 lb).2.1 (feedN [] 0 lb).2.2 w9 (HSM9.out.s.st (by omega))
        have C2 := rest_any (w.heap.size + 1) (feedN [] 0 lb).2.1 (feedN [] 0 lb).2.2 w9 (HSM9.out.t.st (by omega))
        rw [← hLS] at C1 C2
        have C1 := Lib.hid C1
        have C2 := Lib.hid C2
        have HLS := Lib.hid hLS
        clear hb9 HSM8 CM hLS
        go_wp2_with fail
        refine C1.out.mono ?_
        rintro e w10 ⟨rfl, hw10⟩
        subst hw10
        go_wp2_with fail
        refine C2.out.mono ?_
        rintro e w11 ⟨rfl, hw11⟩
        subst hw11
        clear C1 C2
        have CF := feed_any w.heap.size (feedN [] 0 lb).2.1 (feedN [] 0 lb).2.2 none 0 0 [] rfl (Nat.le_refl _) (by rw [← HLS.out]; omega) (by omega) (fun x hx => HL.out x (left_sub lb x hx)) (fun x hx => absurd hx List.not_mem_nil) w11 (HSM9.out.s.st (by omega)) (Seg.nil _ _)
        unfold FeedPost at CF
        rw [feed_none lb] at CF
        dsimp only at CF
        rw [← HES.out] at CF
        have CF := Lib.hid CF
        go_wp2_with fail
        refine CF.out.mono ?_
        rintro e w12 ⟨⟨AX, cx, LX, rfl, hLX, hlx, -, -, -⟩, hst, hkq, hlf⟩
        have hll : LX.length = 0 := by rw [← List.length_map (f := Mq.m), hLX]; rfl
        rw [hll]
        have HT := Lib.hid (show TlS w lb L AM w12 from ⟨HSM9.out.bel.trans hkq.bel, by rw [← HES.out]; exact hst, (HSM9.out.am.kq hkq (by omega)).sg, fun q hq => ((HSM9.out.al q hq).kq hkq (by omega)).mg⟩)
        have HFR := Lib.hid (run_frames lb HL.out)
        clear hLX hlx hst hkq hlf hll CF HSM9
        go_wp2_with fail
        go_loopw [19, 134] (fun kv jv wr => ∃ kk j : Nat, kv = .int .i64 (kk : Int) ∧ jv = .int .i64 (j : Int) ∧ j ≤ nL ∧ kk ≤ 3000 ∧ Hid (kk = (framesN ((run lb).1.take j)).length) ∧ Hid (TlS w lb L AM wr)) (fun _ jv _ => nL - (intOf jv).toNat)
        case atStart => exact ⟨0, 0, rfl, rfl, by omega, by omega, Lib.hid rfl, HT⟩
        case round =>
          clear HT
          obtain ⟨kk, j, rfl, rfl, hj, hkk, HKK, HT⟩ := hrel
          by_cases hjl : j < nL
          · have i5 : (j : Int) < (nL : Int) := by omega
            have i6 : (0 : Int) ≤ (j : Int) := by omega
            have hj1 : j < L.length := by rw [← HNL.out]; exact hjl
            obtain ⟨b, off, rfl, hbl, hc⟩ := (HT.out.row HNL.out hnL2).at hj1
            obtain ⟨q, hqd⟩ : ∃ q, q = L[j] := ⟨_, rfl⟩
            rw [← hqd] at hc
            have HMq := Lib.hid (show Mg wr q.m q.A q.n q.c from HT.out.al q (by rw [hqd]; exact List.getElem_mem hj1))
            have hjr : j < (run lb).1.length := by rw [← HLR.out, List.length_map]; exact hj1
            have hqr : (run lb).1[j] = q.m := by
              have h1 : (L.map Mq.m)[j]? = (run lb).1[j]? := by rw [HLR.out]
              rw [List.getElem?_map, List.getElem?_eq_getElem hj1, List.getElem?_eq_getElem hjr, Option.map_some, ← hqd] at h1
              injection h1 with h1
              exact h1.symm
            have HCK := Lib.hid (show checkN q.m = 0 from HFR.out.2 q.m (by rw [← hqr]; exact List.getElem_mem hjr))
            obtain ⟨f1, f2, f3⟩ := frames_take HFR.out.1 hjr
            rw [hqr, ← HKK.out] at f1 f2 f3
            obtain ⟨fl, hfl⟩ : ∃ fl, fl = (frameN q.m).length := ⟨_, rfl⟩
            rw [← hfl] at f1 f2 f3
            rw [← HLN.out] at f1
            have HF2 := Lib.hid f2
            have HF3 := Lib.hid f3
            have HFL := Lib.hid hfl
            have hX := Bk.new wr 24 #[.int .i64 q.m.kind, .int .i64 q.m.n0, .int .i64 q.m.n1, .int .i64 q.m.n2, .int .i64 q.m.n3, .int .i64 q.m.n4, .int .i64 q.m.n5, .slice q.A q.n q.c, .bool q.m.ok, .int .i64 q.m.n6]
            obtain ⟨w13, hw13⟩ : ∃ w13, w13 = wr.alloc (.cells #[.int .i64 q.m.kind, .int .i64 q.m.n0, .int .i64 q.m.n1, .int .i64 q.m.n2, .int .i64 q.m.n3, .int .i64 q.m.n4, .int .i64 q.m.n5, .slice q.A q.n q.c, .bool q.m.ok, .int .i64 q.m.n6] 24) := ⟨_, rfl⟩
            have hb13 : Below wr.heap.size wr w13 := by rw [hw13]; exact (Below.refl _ _).alloc (Nat.le_refl _) _
            rw [← hw13] at hX
            have HX := Lib.hid hX
            have HT13 := Lib.hid (HT.out.next hb13)
            have HM13 := Lib.hid (HMq.out.bel hb13)
            have HW13 := Lib.hid hw13
            have y0 : wr.cell? ⟨b, off + j * 10, none⟩ = some (.int .i64 q.m.kind) := hc 0 (by decide)
            have y1 : wr.cell? ⟨b, off + j * 10 + 1, none⟩ = some (.int .i64 q.m.n0) := hc 1 (by decide)
            have y2 : wr.cell? ⟨b, off + j * 10 + 2, none⟩ = some (.int .i64 q.m.n1) := hc 2 (by decide)
            have y3 : wr.cell? ⟨b, off + j * 10 + 3, none⟩ = some (.int .i64 q.m.n2) := hc 3 (by decide)
            have y4 : wr.cell? ⟨b, off + j * 10 + 4, none⟩ = some (.int .i64 q.m.n3) := hc 4 (by decide)
            have y5 : wr.cell? ⟨b, off + j * 10 + 5, none⟩ = some (.int .i64 q.m.n4) := hc 5 (by decide)
            have y6 : wr.cell? ⟨b, off + j * 10 + 6, none⟩ = some (.int .i64 q.m.n5) := hc 6 (by decide)
            have y7 : wr.cell? ⟨b, off + j * 10 + 7, none⟩ = some (.slice q.A q.n q.c) := hc 7 (by decide)
            have y8 : wr.cell? ⟨b, off + j * 10 + 8, none⟩ = some (.bool q.m.ok) := hc 8 (by decide)
            have y9 : wr.cell? ⟨b, off + j * 10 + 9, none⟩ = some (.int .i64 q.m.n6) := hc 9 (by decide)
            clear hc hqd hjr hqr f2 f3 hfl hX hw13 hb13 hj1 HT HMq
            go_upto_region 30 with fail
            rw [← HW13.out]
            have x0 : w13.cell? ⟨wr.heap.size, 0, none⟩ = some (.int .i64 q.m.kind) := HX.out.cell 0
            have x1 : w13.cell? ⟨wr.heap.size, 1, none⟩ = some (.int .i64 q.m.n0) := HX.out.cell 1
            have x2 : w13.cell? ⟨wr.heap.size, 2, none⟩ = some (.int .i64 q.m.n1) := HX.out.cell 2
            have x3 : w13.cell? ⟨wr.heap.size, 3, none⟩ = some (.int .i64 q.m.n2) := HX.out.cell 3
            have x4 : w13.cell? ⟨wr.heap.size, 4, none⟩ = some (.int .i64 q.m.n3) := HX.out.cell 4
            have x5 : w13.cell? ⟨wr.heap.size, 5, none⟩ = some (.int .i64 q.m.n4) := HX.out.cell 5
            have x6 : w13.cell? ⟨wr.heap.size, 6, none⟩ = some (.int .i64 q.m.n5) := HX.out.cell 6
            have x7 : w13.cell? ⟨wr.heap.size, 7, none⟩ = some (.slice q.A q.n q.c) := HX.out.cell 7
            have x8 : w13.cell? ⟨wr.heap.size, 8, none⟩ = some (.bool q.m.ok) := HX.out.cell 8
            have x9 : w13.cell? ⟨wr.heap.size, 9, none⟩ = some (.int .i64 q.m.n6) := HX.out.cell 9
            have C1 := rframe_any q.m q.A q.n q.c w13 HM13.out HCK.out
            rw [← HFL.out] at C1
            unfold msgC at C1
            have C1 := Lib.hid C1
            go_wp2_with fail
            refine C1.out.mono ?_
            rintro e w14 ⟨⟨A14, c14, rfl, hc14, hs14⟩, hb14⟩
            have HT14 := Lib.hid (HT13.out.next hb14)
            have HM14 := Lib.hid (HM13.out.bel hb14)
            have HX14 := Lib.hid (HX.out.bel hb14)
            have HS14 := Lib.hid hs14
            clear hb14 hs14 C1 x0 x1 x2 x3 x4 x5 x6 x7 x8 x9 HT13 HM13 HX
            have x0 : w14.cell? ⟨wr.heap.size, 0, none⟩ = some (.int .i64 q.m.kind) := HX14.out.cell 0
            have x1 : w14.cell? ⟨wr.heap.size, 1, none⟩ = some (.int .i64 q.m.n0) := HX14.out.cell 1
            have x2 : w14.cell? ⟨wr.heap.size, 2, none⟩ = some (.int .i64 q.m.n1) := HX14.out.cell 2
            have x3 : w14.cell? ⟨wr.heap.size, 3, none⟩ = some (.int .i64 q.m.n2) := HX14.out.cell 3
            have x4 : w14.cell? ⟨wr.heap.size, 4, none⟩ = some (.int .i64 q.m.n3) := HX14.out.cell 4
            have x5 : w14.cell? ⟨wr.heap.size, 5, none⟩ = some (.int .i64 q.m.n4) := HX14.out.cell 5
            have x6 : w14.cell? ⟨wr.heap.size, 6, none⟩ = some (.int .i64 q.m.n5) := HX14.out.cell 6
            have x7 : w14.cell? ⟨wr.heap.size, 7, none⟩ = some (.slice q.A q.n q.c) := HX14.out.cell 7
            have x8 : w14.cell? ⟨wr.heap.size, 8, none⟩ = some (.bool q.m.ok) := HX14.out.cell 8
            have x9 : w14.cell? ⟨wr.heap.size, 9, none⟩ = some (.int .i64 q.m.n6) := HX14.out.cell 9
            have C2 := rcheck_any q.m q.A q.n q.c w14 HM14.out
            rw [HCK.out, show ((0 : Nat) : Int) = 0 from rfl] at C2
            unfold msgC at C2
            have C2 := Lib.hid C2
            obtain ⟨A7, hA7⟩ : ∃ A7, A7 = if c = kk then A else A.map (·.add kk) := ⟨_, rfl⟩
            have hsl : ∀ w : World, (Instr.sliceAt 26 (.slice A 3000 c) (some (.int .i64 (kk : Int))) (some (.int .i64 ((kk : Int) + (fl : Int)))) none).run Try.prog w = .ok (.slice A7 fl (c - kk)) w := fun w => by
              have hu : Try.prog.underlying 26 = some (.slice (Try.prog.elem 26)) := by kernel_rfl
              have he : Try.prog.elem 26 = 5 := by kernel_rfl
              obtain ⟨i0, hi0, hz0, hz1, hz2⟩ := info_parts info5
              rw [run_sliceAt_slice (P := Try.prog) w 26 _ _ _ _ hu, run_slice_lh (P := Try.prog) w 26 A 3000 c hu .i64 .i64 (kk : Int) ((kk : Int) + (fl : Int)) (by omega) (by omega) (by omega), he]
              have hsz5 : (sizeOf 5).run Try.prog w = .ok 1 w := by simp [sizeOf, typeInfo, hi0, hz1]
              rw [hsz5, hA7, show ((kk : Int) + (fl : Int)).toNat = kk + fl by omega, Int.toNat_natCast]
              simp [Result.andThen, sliced]
            have HS7 := Lib.hid (show ∀ w', Seg w' A (u8s lb) → Seg w' A7 (u8s (frameN q.m)) from fun w' hs => by
              have hcut := (hs.take (kk + fl)).cut kk c (by rw [List.length_take, u8s_length, ← HLN.out]; omega)
              rw [hA7]
              have e : u8s (frameN q.m) = ((u8s lb).take (kk + fl)).drop kk := by
                rw [← HF2.out]
                unfold u8s
                rw [← List.map_take, ← List.map_drop, List.drop_take, Nat.add_sub_cancel_left]
              rw [e]
              exact hcut)
            have i7 : ¬ (3000 : Int) < (kk : Int) + (fl : Int) := by omega
            clear hA7
            go_wp2_with fail
            refine C2.out.mono ?_
            rintro e w15 ⟨rfl, hb15⟩
            have HT15 := Lib.hid (HT14.out.next hb15)
            have C3 := same_u8 A7 A14 fl fl (c - kk) c14 (frameN q.m) (frameN q.m) HFL.out HFL.out w15 (HS7.out w15 (HA.out.bel HT15.out.bel)) (HS14.out.bel hb15) (by omega) (by omega)
            rw [show decide (frameN q.m = frameN q.m) = true by simp] at C3
            have C3 := Lib.hid C3
            clear hb15 C2 HT14 x0 x1 x2 x3 x4 x5 x6 x7 x8 x9
            go_wp2_with fail
            refine C3.out.mono ?_
            rintro e w16 ⟨rfl, hb16⟩
            have HT16 := Lib.hid (HT15.out.next hb16)
            clear hb16 C3 HT15
            go_wp2_with fail
            go_roundw
            case rel => exact ⟨kk + fl, j + 1, by go_num, by go_num, by omega, by omega, Lib.hid HF3.out.symm, HT16⟩
            case measure => simp [intOf]; omega
          · obtain rfl : j = nL := by omega
            have hLrl : (run lb).1.length = j := by rw [← HLR.out, List.length_map, ← HNL.out]
            have hk2 : kk = (framesN (run lb).1).length := by rw [HKK.out, ← hLrl, List.take_length]
            have hdrop : lb.drop kk = (run lb).2 := by
              have h1 : lb.drop (framesN (run lb).1).length = (framesN (run lb).1 ++ (run lb).2).drop (framesN (run lb).1).length := congrArg (List.drop _) HFR.out.1
              rw [hk2, h1, List.drop_left]
            have HRL := Lib.hid (show 3000 - kk = (run lb).2.length by rw [← hdrop, List.length_drop, ← HLN.out])
            have HEE := Lib.hid (show ES = firstE (run lb).2 by rw [HES.out, feed_first])
            have HLE := Lib.hid (show LS = if firstE (run lb).2 = 0 then (run lb).2.length else 0 by
              rw [HLS.out, feed_first]
              simp only
              split <;> rfl)
            obtain ⟨A7, hA7⟩ : ∃ A7, A7 = if c = kk then A else A.map (·.add kk) := ⟨_, rfl⟩
            have hsl : ∀ w : World, (Instr.sliceAt 26 (.slice A 3000 c) (some (.int .i64 (kk : Int))) none none).run Try.prog w = .ok (.slice A7 (3000 - kk) (c - kk)) w := fun w => by
              have hu : Try.prog.underlying 26 = some (.slice (Try.prog.elem 26)) := by kernel_rfl
              have he : Try.prog.elem 26 = 5 := by kernel_rfl
              obtain ⟨i0, hi0, hz0, hz1, hz2⟩ := info_parts info5
              rw [run_sliceAt_slice (P := Try.prog) w 26 _ _ _ _ hu, run_slice_l (P := Try.prog) w 26 A 3000 c hu .i64 (kk : Int) (by omega) (by omega), he]
              have hsz5 : (sizeOf 5).run Try.prog w = .ok 1 w := by simp [sizeOf, typeInfo, hi0, hz1]
              rw [hsz5, hA7]
              simp [Result.andThen, sliced]
            have HS7 := Lib.hid (show ∀ w', Seg w' A (u8s lb) → Seg w' A7 (u8s (run lb).2) from fun w' hs => by
              rw [hA7, ← hdrop, show u8s (lb.drop kk) = (u8s lb).drop kk by simp [u8s, List.map_drop]]
              exact hs.cut kk c (by rw [u8s_length, ← HLN.out]; exact hnbc))
            clear hA7 hdrop hk2 hLrl HKK
            go_upto_region 35 with fail
            refine wp_region_list [some 169, some 170, some 171, some 172, some 173, some 174, some 4] (fun _ => 0) (enF A A7 3000 c kk ES LS) (fun w' => Below wr.heap.size wr w') (by kernel_rfl) (Below.refl _ _).drew rfl (by kernel_rfl) (by kernel_rfl) (by kernel_rfl) (by kernel_rfl) (fun T hT => ?_)
            simp only [List.filterMap_cons, List.filterMap_nil, id, putsS, Act.put, List.setIfInBounds_toArray, List.set_cons_zero, List.set_cons_succ] at hT
            subst hT
            refine ⟨⟨?_, ?_, ?_, ?_, ?_, ?_, ?_, trivial⟩, ?_⟩
            · -- 0: Op.move t0
              refine StepL.act ?_
              intro f w1 hG hF K hK
              clear hF
              dsimp only at hK ⊢
              go_simp
              exact hK.out _ _ hG rfl (fun _ _ _ _ h => h)
            · -- 1: Op.move t19
              refine StepL.act ?_
              intro f w1 hG hF K hK
              clear hF
              dsimp only at hK ⊢
              go_simp
              exact hK.out _ _ hG rfl (fun _ _ _ _ h => h)
            · -- 2: Op.slice 26 t169 (some t170) none none
              refine StepL.act ?_
              intro f w1 hG hF K hK
              have d0 : (enF A A7 3000 c kk ES LS) 0 (f 169) (f 0) w1 := hF 0 (by kernel_rfl)
              have d1 : (enF A A7 3000 c kk ES LS) 1 (f 170) (f 0) w1 := hF 1 (by kernel_rfl)
              clear hF
              dsimp only at hK ⊢
              generalize hf169 : f 169 = v169 at *
              generalize hf170 : f 170 = v170 at *
              subst d0
              subst d1
              go_simp
              exact hK.out _ _ hG rfl (fun _ _ _ _ h => h)
            · -- 3: Op.move t8
              refine StepL.act ?_
              intro f w1 hG hF K hK
              clear hF
              dsimp only at hK ⊢
              go_simp
              exact hK.out _ _ hG rfl (fun _ _ _ _ h => h)
            · -- 4: Op.call ( value (Operand.func 20), args := #[t5], argTypes :
              refine StepL.act ?_
              intro f w1 hG hF K hK
              clear hF
              dsimp only at hK ⊢
              have C1 := rest_any w.heap.size (feedN [] 0 lb).2.1 (feedN [] 0 lb).2.2 w1 (HT.out.st.bel hG)
              rw [← HLS.out] at C1
              go_simp
              refine C1.mono ?_
              rintro e w2 ⟨rfl, hw2⟩
              subst hw2
              exact hK.out _ _ hG rfl (fun _ _ _ _ h => h)
            · -- 5: Op.call ( value (Operand.func 21), args := #[t171, t172, t17
              refine StepL.act ?_
              intro f w1 hG hF K hK
              have d2 : (enF A A7 3000 c kk ES LS) 2 (f 171) (f 0) w1 := hF 2 (by kernel_rfl)
              have d3 : (enF A A7 3000 c kk ES LS) 3 (f 172) (f 0) w1 := hF 3 (by kernel_rfl)
              have d4 : (enF A A7 3000 c kk ES LS) 4 (f 173) (f 0) w1 := hF 4 (by kernel_rfl)
              clear hF
              dsimp only at hK ⊢
              generalize hf171 : f 171 = v171 at *
              generalize hf172 : f 172 = v172 at *
              generalize hf173 : f 173 = v173 at *
              have e2 : v171 = .slice A7 (3000 - kk) (c - kk) := d2
              have e3 : v172 = .int .i64 (ES : Int) := d3
              have e4 : v173 = .int .i64 (LS : Int) := d4
              subst e2
              subst e3
              subst e4
              have C2 := wend_any A7 (3000 - kk) (c - kk) (run lb).2 ES LS HRL.out (by omega) (by omega) (fun x hx => HL.out x (run_sub lb x hx)) (run_end lb) HEE.out HLE.out w1 (HS7.out w1 (HA.out.bel (HT.out.bel.trans (hG.mono HT.out.bel.size))))
              go_simp
              refine C2.mono ?_
              rintro e w2 ⟨rfl, hb2⟩
              exact hK.out _ _ (hG.trans (hb2.mono hG.size)) rfl (fun _ _ _ _ h => h)
            · -- 6: Op.assign t174
              refine StepL.act ?_
              intro f w1 hG hF K hK
              have d5 : (enF A A7 3000 c kk ES LS) 5 (f 174) (f 0) w1 := hF 5 (by kernel_rfl)
              clear hF
              dsimp only at hK ⊢
              generalize hf174 : f 174 = v174 at *
              subst d5
              go_simp
              exact hK.out _ _ hG rfl (fun _ _ _ _ h => h)
            intro f w6 hG hF
            have e6 : f 4 = .bool true := hF 6 (by decide)
            have HG6 := Lib.hid (HT.out.bel.trans (hG.mono HT.out.bel.size))
            clear hF hG
            dsimp only
            generalize f 169 = v169
            generalize f 170 = v170
            generalize f 171 = v171
            generalize f 172 = v172
            generalize f 173 = v173
            generalize f 174 = v174
            generalize f 4 = v4 at *
            subst e6
            go_wp2_with fail
            go_ret
            exact ⟨rfl, HG6.out⟩
end Go.Proofs.Ytgifbjomaenlnaa
