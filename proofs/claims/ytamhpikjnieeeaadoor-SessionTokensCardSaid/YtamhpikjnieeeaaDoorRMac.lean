/- The walk of the reference's keyed sum. Conditions: the bytes lie in memory; the texts are not too long. -/
import Derived.Test.YtamhpikjnieeeaaDoorSSha
import Derived.Test.YtamhpikjnieeeaaDoorMac
import Derived.Maps.AppendAt
import Derived.Deep.CutBlock
import Derived.Deep.DeepCutAuto
namespace Go.Proofs.YtamhpikjnieeeaaDoor
open Go.RowKit

theorem padK (K : List Nat) (pad : Nat) (h : K.length = 64) : K.map (fun x => x ^^^ pad) = padN K pad := by
  apply List.ext_getElem?
  intro i
  simp only [padN, List.getElem?_map]
  by_cases hi : i < 64
  · simp [hi, show i < K.length by omega]
  · simp [hi, List.getElem?_eq_none (by omega : K.length ≤ i)]
theorem padN_zeros (K : List Nat) (pad n : Nat) : padN (K ++ List.replicate n 0) pad = padN K pad := by
  unfold padN
  apply List.map_congr_left
  intro i _
  congr 1
  simp only [List.getD, List.getElem?_append, List.getElem?_replicate]
  by_cases h : i < K.length
  · simp [h]
  · by_cases h2 : i - K.length < n
    · simp [h, h2]
    · simp [h, h2]
theorem cell_new1 (w : World) (u : Value) (e : TypeId) : ∀ j v, [u][j]? = some v → (w.alloc (.cells #[u] e)).cell? ((⟨w.heap.size, 0, none⟩ : Addr).add j) = some v := by
  intro j v hv
  have hj : j = 0 := by
    have := (List.getElem?_eq_some_iff.1 hv).1
    simp at this
    exact this
  subst hj
  rw [show ((⟨w.heap.size, 0, none⟩ : Addr).add 0) = ⟨w.heap.size, 0, none⟩ by unfold Addr.add; split <;> simp_all, cell_of_row _ _ 0 #[u] e (0, 0) (heap_alloc_new w _)]
  simpa using hv
/-- Two rows of one's own that lie apart. -/
structure TwoR (B : Nat) (xs ys : List Nat) (a b : Value) (w : World) : Prop where
  oa : w.ownsRow B 5 1 a xs.length (u8s xs)
  ob : w.ownsRow B 5 1 b ys.length (u8s ys)
  ap : ∃ ga gb, a.ownBlock = some ga ∧ b.ownBlock = some gb ∧ ga ≠ gb
theorem u8_one (x : Int) : ∀ u ∈ [Value.int .u8 x], u.oneCell' = true := by
  intro u hu
  simp only [List.mem_singleton] at hu
  subst hu; rfl
set_option maxRecDepth 100000 in
set_option maxHeartbeats 4000000 in
theorem rmac_any (A : Option Addr) (gb n c m d : Nat) (l b : List Nat) (hn : n = l.length) (hm : m = b.length) (hx : n ≤ 10000) (hy : m ≤ 10000) (w : World) (hA : Seg w A (u8s l)) (hB : Seg w (some ⟨gb, 0, none⟩) (u8s b)) (hgb : gb < w.heap.size) (hl : ∀ x ∈ l, x < 256) (hb : ∀ x ∈ b, x < 256) :
    Calls Tryd.prog 22 #[.slice A n c, .slice (some ⟨gb, 0, none⟩) m d] w fun e w' => ∃ A' c', e = .returned (.slice A' 20 c') ∧ 20 ≤ c' ∧ Seg w' A' (u8s (macN l b)) ∧ Below w.heap.size w w' := by
  obtain ⟨i0, hi0, hz0, hz1, hz2⟩ := info_parts info5
  have HA := Lib.hid hA
  have HB := Lib.hid hB
  have HL := Lib.hid hl
  have HBb := Lib.hid hb
  have HN := Lib.hid hn
  have HM := Lib.hid hm
  clear hA hB hl hb hn hm
  go_enter Tryd.func22, Tryd.ntmps22
  go_upto_if 15 with (at_builtin; refine wpList_append_seg _ rfl _ _ _ rfl w.heap.size 5 i0 _ 1 Tryd.underlying22 hi0 hz0 hz1 hz2 rfl _ 0 _ rfl (World.ownsRow_lit w #[] 0 (by omega) (by decide) rfl) A n c (u8s l) rfl (by rw [u8s_length, ← HN.out]) (HA.out.bel ((Below.refl _ _).alloc (Nat.le_refl _) _)) (u8s_one _) (by simp only [maxLen]; omega) (by omega) (by simp only [World.size_alloc]; omega) ?_; intro v1 w1 hown1 hb1; simp only [Nat.zero_add, List.nil_append] at hown1; obtain ⟨A1, c1, rfl, hc1, s1⟩ := own_shape hown1; have S1 := Lib.hid s1; have O1 := Lib.hid hown1; have B1 := Lib.hid (((Below.refl w.heap.size w).alloc (Nat.le_refl _) (.cells #[] 5)).trans hb1); have z1 := B1.out.size; clear hown1 hb1 s1)
  go_cut [5] (fun v wx => wx.ownsRow w.heap.size 5 1 v (keyN l).length (u8s (keyN l)) ∧ Below w.heap.size w wx)
  case first =>
    by_cases hlt : 64 < n
    · have i1 : (64 : Int) < (n : Int) := by omega
      have HK := Lib.hid (show keyN l = shaN l by unfold keyN; rw [if_pos (by rw [← HN.out]; exact hlt)])
      go_wp2_with fail
      refine (rsha_any A1 n c1 l HN.out (by omega) w1 S1.out HL.out).mono ?_; rintro e w2 ⟨A2, c2, rfl, hc2, o2, b2⟩
      have O2 := Lib.hid (own_baseR o2 z1)
      have B2 := Lib.hid (B1.out.trans (b2.mono z1))
      clear o2 b2
      go_wp2_with fail
      go_meet
      rw [HK.out]
      exact ⟨O2.out, B2.out⟩
    · have i1 : ¬ (64 : Int) < (n : Int) := by omega
      have HK := Lib.hid (show keyN l = l by unfold keyN; rw [if_neg (by rw [← HN.out]; exact hlt)])
      go_wp2_with fail
      go_meet
      rw [HK.out, ← HN.out]
      exact ⟨O1.out, B1.out⟩
  case rest =>
    obtain ⟨ho, hbc⟩ := hcut
    have hkl : (keyN l).length ≤ 64 := by
      unfold keyN
      split
      · rw [shaN_length]; omega
      · omega
    have HKl := Lib.hid (show ∀ x ∈ keyN l, x < 256 by
      unfold keyN
      split
      · exact shaN_lt l
      · exact HL.out)
    have HMac := Lib.hid (show macN l b = shaN (padN (keyN l) 92 ++ shaN (padN (keyN l) 54 ++ b)) from rfl)
    generalize keyN l = K at *
    obtain ⟨A0, c0, rfl, hc0, _⟩ := own_shape ho
    have HO0 := Lib.hid (show wc.ownsRow w.heap.size 5 1 (.slice A0 K.length c0) (K.length + 0) (u8s (K ++ List.replicate 0 0)) by simpa using ho)
    have HB0 := Lib.hid hbc
    clear ho hbc
    go_wp2_with fail
    go_loopw [5] (fun v wr => ∃ j : Nat, K.length + j ≤ 64 ∧ wr.ownsRow w.heap.size 5 1 v (K.length + j) (u8s (K ++ List.replicate j 0)) ∧ Below w.heap.size w wr) (fun v _ => 300 - lenOf v)
    case atStart => exact ⟨0, by omega, HO0.out, HB0.out⟩
    case round =>
      clear HO0 HB0
      obtain ⟨j, hj, hown, hbw⟩ := hrel
      obtain ⟨A1, c1, rfl, hc1, s1⟩ := own_shape hown
      have HO := Lib.hid hown
      have HW := Lib.hid hbw
      have hsz := hbw.size
      by_cases hlt : K.length + j < 64
      · have i1 : (K.length : Int) + (j : Int) < 64 := by omega
        clear hown hbw s1
        go_wp2_with (at_builtin; refine wpList_append_seg _ rfl _ _ _ rfl w.heap.size 5 i0 _ 1 Tryd.underlying22 hi0 hz0 hz1 hz2 rfl _ (K.length + j) _ rfl (own_alloc HO.out _) (some ⟨wr.heap.size, 0, none⟩) 1 1 [.int .u8 0] rfl rfl (seg_new _ _ _) (by simp [Value.oneCell']) (by simp only [maxLen]; omega) (by omega) (by simp only [World.size_alloc]; omega) ?_; intro v' w' hown' hb')
        obtain ⟨A', c', rfl, hc', _⟩ := own_shape hown'
        go_roundw
        case rel =>
          refine ⟨j + 1, by omega, ?_, (HW.out.alloc hsz _).trans hb'⟩
          rw [show u8s (K ++ List.replicate j 0) ++ [Value.int .u8 0] = u8s (K ++ List.replicate (j + 1) 0) by rw [List.replicate_succ']; simp [u8s]] at hown'
          exact hown'
        case measure => simp [lenOf]; omega
      · have HJ := Lib.hid (show K.length + j = 64 by omega)
        have i1 : ¬ (K.length : Int) + (j : Int) < 64 := by omega
        have hlen : (K ++ List.replicate j 0).length = 64 := by rw [List.length_append, List.length_replicate]; exact HJ.out
        have HP1 := Lib.hid (show (K ++ List.replicate j 0).map (fun x => x ^^^ 54) = padN K 54 by rw [padK _ _ hlen, padN_zeros])
        have HP2 := Lib.hid (show (K ++ List.replicate j 0).map (fun x => x ^^^ 92) = padN K 92 by rw [padK _ _ hlen, padN_zeros])
        have HQl := Lib.hid (lt_append HKl.out (fun x hx => by rw [List.eq_of_mem_replicate hx]; omega) : ∀ x ∈ K ++ List.replicate j 0, x < 256)
        have S1 := Lib.hid s1
        have HLn := Lib.hid hlen
        obtain ⟨W1, hW1⟩ : ∃ x, x = wr := ⟨_, rfl⟩
        subst hW1
        clear hown hbw s1 hlen HO hlt
        rw [HJ.out] at hc1 ⊢
        have i64 : ¬ (64 : Int) < 64 := by omega
        generalize K ++ List.replicate j 0 = KK at *
        have HT0 := Lib.hid (show TwoR W1.heap.size ((KK.take 0).map (fun x => x ^^^ 54)) ((KK.take 0).map (fun x => x ^^^ 92)) (.slice (some ⟨W1.heap.size, 0, none⟩) 0 0) (.slice (some ⟨W1.heap.size + 1, 0, none⟩) 0 0) ((W1.alloc (.cells #[] 5)).alloc (.cells #[] 5)) from
          ⟨(World.ownsRow_lit W1 #[] 0 (by omega) (by decide) rfl).alloc _, by
            have h := World.ownsRow_lit (base := W1.heap.size) (e := 5) (size := 1) (W1.alloc (.cells #[] 5)) #[] 0 (by rw [World.size_alloc]; omega) (by decide) rfl
            rw [World.size_alloc] at h
            exact h, W1.heap.size, W1.heap.size + 1, rfl, rfl, by omega⟩)
        have HW0 := Lib.hid (((Below.refl W1.heap.size W1).alloc (Nat.le_refl _) (.cells #[] 5)).alloc (by rw [World.size_alloc]; omega) (.cells #[] 5))
        go_wp2_with fail
        go_loopw [6, 7, 28] (fun va vb i wr => ∃ k : Nat, k ≤ 64 ∧ i = .int .i64 k ∧ TwoR W1.heap.size ((KK.take k).map (fun x => x ^^^ 54)) ((KK.take k).map (fun x => x ^^^ 92)) va vb wr ∧ Below W1.heap.size W1 wr) (fun _ _ i _ => 64 - (intOf i).toNat)
        case atStart => exact ⟨0, by omega, rfl, HT0.out, HW0.out⟩
        case round =>
          clear HT0 HW0
          obtain ⟨k, hk, rfl, ht, hbw⟩ := hrel
          have HS := Lib.hid (S1.out.bel hbw)
          have HW2 := Lib.hid hbw
          have hsz2 := hbw.size
          clear hbw
          obtain ⟨oa, ob, ga, gb', hga, hgb', hne⟩ := ht
          by_cases hlt : k < 64
          · obtain ⟨bk, off, rfl, hbl, _, hcell⟩ := HS.out.pick (k := k) (by rw [u8s_length, HLn.out]; exact hlt)
            rw [u8s_get KK k (by rw [HLn.out]; exact hlt)] at hcell
            have hX := HQl.out _ (List.getElem_mem (by rw [HLn.out]; exact hlt : k < KK.length))
            have HT := Lib.hid (show KK.take (k + 1) = KK.take k ++ [KK[k]'(by rw [HLn.out]; exact hlt)] by rw [List.take_succ_eq_append_getElem (by rw [HLn.out]; exact hlt)])
            generalize KK[k]'(by rw [HLn.out]; exact hlt) = X at *
            have e1 := u8_xor_nat X 54 hX (by omega)
            have e2 := u8_xor_nat X 92 hX (by omega)
            simp only [Int.cast_ofNat_Int] at e1 e2
            have hla : ((KK.take k).map (fun x => x ^^^ 54)).length = k := by rw [List.length_map, List.length_take, HLn.out]; omega
            have hlb : ((KK.take k).map (fun x => x ^^^ 92)).length = k := by rw [List.length_map, List.length_take, HLn.out]; omega
            rw [hla] at oa
            rw [hlb] at ob
            have hla2 : ((KK.take (k + 1)).map (fun x => x ^^^ 54)).length = k + 1 := by rw [List.length_map, List.length_take, HLn.out]; omega
            have hlb2 : ((KK.take (k + 1)).map (fun x => x ^^^ 92)).length = k + 1 := by rw [List.length_map, List.length_take, HLn.out]; omega
            have HA1 := Lib.hid hla2
            have HA2 := Lib.hid hlb2
            have ga_lt := (oa.lt ga hga)
            have gb_lt := (ob.lt gb' hgb')
            have OA := Lib.hid oa
            have OB := Lib.hid ob
            have HGA := Lib.hid hga
            have HGB := Lib.hid hgb'
            have HNE := Lib.hid hne
            have i1 : (k : Int) < 64 := by omega
            clear hla hlb hla2 hlb2 oa ob hga hgb' hne
            obtain ⟨Aa, ca, rfl, hca, _⟩ := own_shape OA.out
            obtain ⟨Ab, cb, rfl, hcb, _⟩ := own_shape OB.out
            go_upto_region 11 with ((at_builtin; refine wpList_append_own_at _ rfl (.tmp 32) (.tmp 35) 22 rfl W1.heap.size 5 i0 (.int .u8 0) 1 1 Tryd.underlying22 hi0 hz0 hz1 hz2 rfl (by decide) (.slice Aa k ca) k _ rfl (OA.out.alloc _) ⟨wr.heap.size, 0, none⟩ 1 1 [.int .u8 ((X ^^^ 54 : Nat) : Int)] rfl rfl (cell_new1 _ _ _) (u8_one _) (by simp only [maxLen]; omega) (by omega) (by rw [World.size_alloc]; omega) ?_; intro v4 w4 hown4 hgrow4 _ hat4; have z4 := hgrow4.size; rw [World.size_alloc] at z4; have OB4 := Lib.hid ((OB.out.alloc (.cells #[.int .u8 ((X ^^^ 54 : Nat) : Int)] 5)).kept hgrow4 (Or.inr (by rw [HGA.out, HGB.out]; intro h; injection h with h; exact HNE.out h.symm))); have BW4 := Lib.hid ((HW2.out.alloc hsz2 (.cells #[.int .u8 ((X ^^^ 54 : Nat) : Int)] 5)).grown hgrow4 (by rw [World.size_alloc]; omega) (fun j hj => (OA.out.lt j hj).1)); have OA4 := Lib.hid hown4; have HAT4 := Lib.hid hat4; clear hown4 hgrow4 hat4))
            go_wp2_with ((at_builtin; refine wpList_append_own_at _ rfl (.tmp 37) (.tmp 40) 22 rfl W1.heap.size 5 i0 (.int .u8 0) 1 1 Tryd.underlying22 hi0 hz0 hz1 hz2 rfl (by decide) (.slice Ab k cb) k _ rfl (OB4.out.alloc _) ⟨w4.heap.size, 0, none⟩ 1 1 [.int .u8 ((X ^^^ 92 : Nat) : Int)] rfl rfl (cell_new1 _ _ _) (u8_one _) (by simp only [maxLen]; omega) (by omega) (by rw [World.size_alloc]; omega) ?_; intro v5 w5 hown5 hgrow5 _ hat5))
            have z5 := hgrow5.size
            rw [World.size_alloc] at z5
            have hga5 : v4.ownBlock = some ga ∨ v4.ownBlock = some (wr.heap.size + 1) := by
              rcases HAT4.out with h | h
              · exact Or.inl (h.trans HGA.out)
              · rw [World.size_alloc] at h; exact Or.inr h
            have hgb5 : v5.ownBlock = some gb' ∨ v5.ownBlock = some (w4.heap.size + 1) := by
              rcases hat5 with h | h
              · exact Or.inl (h.trans HGB.out)
              · rw [World.size_alloc] at h; exact Or.inr h
            have hap : ∃ ga gb, v4.ownBlock = some ga ∧ v5.ownBlock = some gb ∧ ga ≠ gb := by
              rcases hga5 with h | h <;> rcases hgb5 with h' | h'
              · exact ⟨_, _, h, h', HNE.out⟩
              · exact ⟨_, _, h, h', by omega⟩
              · exact ⟨_, _, h, h', by omega⟩
              · exact ⟨_, _, h, h', by omega⟩
            have hvb : v4.ownBlock ≠ (Value.slice Ab k cb).ownBlock := by
              rw [HGB.out]
              rcases hga5 with h | h
              · rw [h]; intro e; injection e with e; exact HNE.out e
              · rw [h]; intro e; injection e with e; omega
            have HT2 := Lib.hid (show TwoR W1.heap.size ((KK.take (k + 1)).map (fun x => x ^^^ 54)) ((KK.take (k + 1)).map (fun x => x ^^^ 92)) v4 v5 w5 from
              ⟨by
                rw [HA1.out, HT.out, List.map_append, u8s_append]
                exact (OA4.out.alloc (.cells #[.int .u8 ((X ^^^ 92 : Nat) : Int)] 5)).kept hgrow5 (Or.inr hvb), by
                rw [HA2.out, HT.out, List.map_append, u8s_append]
                exact hown5, hap⟩)
            have HB2 := Lib.hid ((BW4.out.alloc (by omega) (.cells #[.int .u8 ((X ^^^ 92 : Nat) : Int)] 5)).grown hgrow5 (by rw [World.size_alloc]; omega) (fun j hj => (OB4.out.lt j hj).1))
            clear hown5 hgrow5 hat5 hga5 hgb5 hap hvb
            go_roundw
            case rel => exact ⟨k + 1, by omega, by go_num, HT2.out, HB2.out⟩
            case measure => simp [intOf]; omega
          · obtain rfl : k = 64 := by omega
            rw [show ((64 : Nat) : Int) = 64 from rfl]
            rw [List.take_of_length_le (by rw [HLn.out]; omega), HP1.out, padN_length] at oa
            rw [List.take_of_length_le (by rw [HLn.out]; omega), HP2.out, padN_length] at ob
            have OA := Lib.hid oa
            have OB := Lib.hid ob
            have HGA := Lib.hid hga
            have HGB := Lib.hid hgb'
            have HNE := Lib.hid hne
            have ga_lt := (oa.lt ga hga)
            have hgW : gb < W1.heap.size := by omega
            have HBr := Lib.hid (HB.out.bel (HW.out.trans (HW2.out.mono hsz)))
            have hcellb : ∀ j u, (u8s b)[j]? = some u → wr.cell? ((⟨gb, 0, none⟩ : Addr).add j) = some u := fun j u hu => by
              have hj := (List.getElem?_eq_some_iff.1 hu).1
              obtain ⟨b', o', e, _, hc, _⟩ := HBr.out.pick hj
              injection e with e
              injection e with e1 e2
              subst e1; subst e2
              rw [show ((⟨gb, 0, none⟩ : Addr).add j) = ⟨gb, 0 + j, none⟩ by unfold Addr.add; split <;> simp_all]
              rw [hc j hj, hu]
            have HCb := Lib.hid hcellb
            clear oa ob hga hgb' hne hcellb
            obtain ⟨Aa, ca, rfl, hca, _⟩ := own_shape OA.out
            obtain ⟨Ab, cb, rfl, hcb, _⟩ := own_shape OB.out
            have HneB := Lib.hid (show (Value.slice Ab 64 cb).ownBlock ≠ (Value.slice Aa 64 ca).ownBlock by rw [HGA.out, HGB.out]; intro h; injection h with h; exact HNE.out h.symm)
            go_wp2_with (at_builtin; refine wpList_append_own_at _ rfl (.tmp 44) (.tmp 45) 22 rfl W1.heap.size 5 i0 (.int .u8 0) 1 1 Tryd.underlying22 hi0 hz0 hz1 hz2 rfl (by decide) (.slice Aa 64 ca) 64 _ rfl OA.out ⟨gb, 0, none⟩ m d (u8s b) rfl (by rw [u8s_length, HM.out, Nat.mul_one]) HCb.out (u8s_one _) (by simp only [maxLen]; omega) (by omega) (by omega) ?_; intro v4 w4 hown4 hgrow4 _ _)
            rw [← u8s_append] at hown4
            obtain ⟨A4, c4, rfl, hc4, s4⟩ := own_shape hown4
            have S4 := Lib.hid s4
            have OB4 := Lib.hid (OB.out.kept hgrow4 (Or.inr HneB.out))
            have BW4 := Lib.hid (HW2.out.grown hgrow4 hsz2 (fun j hj => (OA.out.lt j hj).1))
            have z4 := hgrow4.size
            have HPl := Lib.hid (padN_lt K 54 HKl.out (by omega))
            have HPm := Lib.hid (padN_lt K 92 HKl.out (by omega))
            clear hown4 hgrow4 s4
            refine (rsha_any A4 (64 + m) c4 (padN K 54 ++ b) (by rw [List.length_append, padN_length, HM.out]) (by omega) w4 S4.out (lt_append HPl.out HBb.out)).mono ?_; rintro e w5 ⟨A5, c5, rfl, hc5, o5, b5⟩
            obtain ⟨_, _, e5, _, s5⟩ := own_shape o5
            injection e5 with e51 e52 e53
            subst e51
            have S5 := Lib.hid s5
            have OB5 := Lib.hid (own_belS OB4.out b5)
            have BW5 := Lib.hid (BW4.out.trans (b5.mono (by omega)))
            have z5 := b5.size
            clear o5 b5 s5 e52 e53
            go_wp2_with (at_builtin; refine wpList_append_seg _ rfl _ _ _ rfl W1.heap.size 5 i0 _ 1 Tryd.underlying22 hi0 hz0 hz1 hz2 rfl _ 64 _ rfl OB5.out A5 20 c5 (u8s (shaN (padN K 54 ++ b))) rfl (by rw [u8s_length]; rfl) S5.out (u8s_one _) (by simp only [maxLen]; omega) (by omega) (by omega) ?_; intro v6 w6 hown6 hb6; rw [← u8s_append] at hown6; obtain ⟨A6, c6, rfl, hc6, s6⟩ := own_shape hown6; have S6 := Lib.hid s6; have BW6 := Lib.hid (BW5.out.trans hb6); clear hown6 hb6 s6)
            refine (rsha_any A6 84 c6 (padN K 92 ++ shaN (padN K 54 ++ b)) (by rw [List.length_append, padN_length, shaN_length]) (by omega) w6 S6.out (lt_append HPm.out (shaN_lt _))).mono ?_; rintro e w7 ⟨A7, c7, rfl, hc7, o7, b7⟩
            obtain ⟨_, _, e7, _, s7⟩ := own_shape o7
            injection e7 with e71 e72 e73
            subst e71
            have S7 := Lib.hid s7
            have BW7 := Lib.hid (HW.out.trans ((BW6.out.trans (b7.mono BW6.out.size)).mono hsz))
            clear o7 b7 s7 e72 e73
            go_wp2_with fail
            go_ret
            exact ⟨A7, c7, rfl, hc7, by rw [HMac.out]; exact S7.out, BW7.out⟩
end Go.Proofs.YtamhpikjnieeeaaDoor
