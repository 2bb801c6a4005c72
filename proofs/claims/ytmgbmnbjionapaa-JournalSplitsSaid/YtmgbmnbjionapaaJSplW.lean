/- Blocks written at once and one by one leave the same contents: the statement's walk. Condition: the blocks lie in memory. -/
import Derived.Test.YtmgbmnbjionapaaJRows
namespace Go.Proofs.Ytmgbmnbjionapaa
open Go.RowKit

theorem chk_one {T b s : Nat} {bs : List BW} (h : chkN T b s bs = 0) {x : BW} (hx : x ∈ bs) : chkN T b s [x] = 0 := by
  obtain ⟨h1, h2, h3⟩ := chk_zero h
  have hp : 0 < bs.length := List.length_pos_of_mem hx
  refine chk_fine (by simp; omega) ?_ ?_
  · rintro ⟨y, hy, hb⟩
    simp only [List.mem_cons, List.not_mem_nil, or_false] at hy
    subst hy
    exact h2 y hx hb
  · rintro ⟨k, hk, hh⟩
    obtain rfl : k = 0 := by simpa using hk
    rcases hh with hh | ⟨j, hj, _⟩
    · obtain ⟨i, hi, rfl⟩ := List.mem_iff_getElem.1 hx
      exact h3 ⟨i, hi, .inl hh⟩
    · omega
theorem bs_one {w0 w : World} {g c : Nat} {Ad : Option Addr} {x : BW} (hk : Bk w g 76 #[.int .i64 x.n, .slice Ad x.l.length c]) (hs : Seg w0 Ad (u8s x.l)) (hb : Below w0.heap.size w0 w) : BsAt w (some ⟨g, 0, none⟩) [x] := ⟨fun k hk2 => by
  obtain rfl : k = 0 := by simpa using hk2
  exact ⟨g, 0, Ad, c, rfl, hk.lt, hk.cell 0, hk.cell 1, hs.bel hb⟩⟩
theorem ws_one {w0 w : World} {S : Nat → Prop} {g c T : Nat} {Ad : Option Addr} {x : BW} (hk : Bk w g 76 #[.int .i64 x.n, .slice Ad x.l.length c]) (hs : Seg w0 Ad (u8s x.l)) (hb : Below w0.heap.size w0 w) (hS : ∀ i, S i → w0.heap.size ≤ i) (hg : ¬ S g) (hx : ¬ x.bad T) : WsAt w S (some ⟨g, 0, none⟩) ([x].map BW.nat) := ⟨fun k hk2 => by
  obtain rfl : k = 0 := by simpa using hk2
  unfold BW.bad at hx
  refine ⟨g, 0, Ad, c, rfl, hk.lt, hg, ?_, ?_, hs.bel hb, fun a ha => ?_⟩
  · rw [show (⟨g, 0 + 0 * 2, none⟩ : Addr) = ⟨g, 0, none⟩ from rfl, hk.cell 0]
    show some (Value.int .i64 x.n) = some (Value.int .i64 ((x.n.toNat : Nat) : Int))
    rw [Int.toNat_of_nonneg (by omega)]
  · rw [show (⟨g, 0 + 0 * 2 + 1, none⟩ : Addr) = ⟨g, 1, none⟩ from rfl, hk.cell 1]
    show some (Value.slice Ad x.l.length c) = some (Value.slice Ad 256 c)
    congr 2; omega
  · obtain ⟨b2, off2, hA2, hb2, _⟩ := hs (fun e => by
      have : (u8s x.l).length = 0 := by rw [e]; rfl
      rw [u8s_length] at this; omega)
    rw [ha] at hA2
    injection hA2 with hA2
    subst hA2
    exact ⟨fun h => by have := hS _ h; simp only at this; omega, Nat.lt_of_lt_of_le hb2 hb.size⟩⟩
theorem last_snoc (ws : List (Nat × List Nat)) (x : Nat × List Nat) (n : Nat) (old : List Nat) : lastD (ws ++ [x]) n old = lastD [x] n (lastD ws n old) := by
  unfold lastD; rw [List.foldl_append]
/-- The second disk behind k commits. -/
structure SpR (w0 w : World) (S0 : Nat → Prop) (p T b s k : Nat) (bs : List BW) (old : Nat → List Nat) : Prop where
  ex : ∃ S D seq, Dsk w S p T D ∧ Kp S0 S w0 w ∧ Jst D b s seq ∧ seq ≤ k ∧ ∀ i, i < T → outA b s i → D.rd i = lastD ((bs.take k).map BW.nat) i (old i)
set_option maxRecDepth 100000 in
set_option maxHeartbeats 8000000 in
theorem splits_body (t b s : Nat) (A : Option Addr) (n c : Nat) (bs : List BW) (w : World) (hn : n = bs.length) (hnc : n ≤ c) (hB : BsAt w A bs) (hf : Fits t b s) (ht1 : 1 ≤ t) (ht : t ≤ 80) (hck : chkN t b s bs = 0) :
    Calls Try.prog 10 #[.int .i64 (t : Int), .int .i64 (b : Int), .int .i64 (s : Int), .slice A n c] w fun e w' => e = .returned (.bool true) ∧ Below w.heap.size w w' := by
  have hT : t ≤ 2048 := by omega
  have CP := placed_any t b s w hT
  rw [decide_eq_true hf] at CP
  have CP := Lib.hid CP
  have CK := rcheck_all t b s A n c bs w hn hnc hB hf hT
  rw [hck] at CK
  have CK := Lib.hid CK
  obtain ⟨hl, hok, _⟩ := chk_zero hck
  have hf' := hf
  unfold Fits at hf'
  obtain ⟨i0, hi0, hz0, hz1, hz2⟩ := info_parts info_row
  have h1 : ¬ (t : Int) < 1 := by omega
  have h2 : ¬ (80 : Int) < (t : Int) := by omega
  have hb10 : b ≤ 10000 := by omega
  have hs10 : s ≤ 60 := by omega
  have hn60 : n ≤ 60 := by omega
  have HF := Lib.hid hf
  have HN := Lib.hid hn
  have HBS := Lib.hid hB
  have HCK := Lib.hid hck
  have HOK := Lib.hid hok
  have HFM := Lib.hid (fm_jst hf hT)
  clear hf hf' hn hB hck hok hl
  go_enter Try.func10, Try.ntmps10
  go_wp2_with fail
  refine CP.out.mono ?_
  rintro e w1 ⟨rfl, rfl⟩
  clear CP
  go_wp2_with fail
  refine CK.out.mono ?_
  rintro e w1 ⟨rfl, hb1⟩
  have HB1 := Lib.hid hb1
  have CN := Lib.hid (new_ok t ht1 hT w1)
  clear hb1 CK
  go_wp2_with fail
  refine CN.out.mono ?_
  rintro e w2 ⟨pa, Sa, rfl, hD, hS, hb⟩
  have HDA := Lib.hid hD
  have HSA := Lib.hid (fun i h => Nat.le_trans HB1.out.size (hS i h) : ∀ i, Sa i → w.heap.size ≤ i)
  have HB2 := Lib.hid (below_step HB1.out hb)
  have CN := Lib.hid (new_ok t ht1 hT w2)
  clear hD hS hb
  go_wp2_with fail
  refine CN.out.mono ?_
  rintro e w3 ⟨pb, Sb, rfl, hD, hS, hb⟩
  have HDB := Lib.hid hD
  have HSB := Lib.hid (fun i h => Nat.le_trans HB2.out.size (hS i h) : ∀ i, Sb i → w.heap.size ≤ i)
  have HAP := Lib.hid (fun i h h2 => absurd (HDA.out.inn i h) (by have := hS i h2; omega) : ∀ i, Sa i → ¬ Sb i)
  have HDA3 := Lib.hid (HDA.out.bel hb)
  have HB3 := Lib.hid (below_step HB2.out hb)
  have CF := Lib.hid (format_ok pa t b s Sa (DM.new t) w3 HDA3.out rfl rfl HF.out)
  clear hD hS hb CN HDA
  go_wp2_with fail
  refine CF.out.mono ?_
  rintro e w4 ⟨rfl, Sa4, hD4, hK4⟩
  have hD4 : Dsk w4 Sa4 pa t (fmD t b s) := hD4
  have HDA4 := Lib.hid hD4
  have HSA4 := Lib.hid (hK4.lows HSA.out HB3.out.size)
  have HDB4 := Lib.hid (HDB.out.kept hK4 (fun i h h2 => HAP.out i h2 h))
  have HAP4 := Lib.hid (fun i h h2 => (hK4.news i h).elim (fun h3 => HAP.out i h3 h2) (fun h3 => absurd (HDB.out.inn i h2) (by omega)) : ∀ i, Sa4 i → ¬ Sb i)
  have HB4 := Lib.hid (HB3.out.trans (hK4.below HSA.out HB3.out.size))
  have CF := Lib.hid (format_ok pb t b s Sb (DM.new t) w4 HDB4.out rfl rfl HF.out)
  clear hD4 hK4 HAP HDA3 HDB HSA
  go_wp2_with fail
  refine CF.out.mono ?_
  rintro e w5 ⟨rfl, Sb5, hD5, hK5⟩
  have hD5 : Dsk w5 Sb5 pb t (fmD t b s) := hD5
  have HDB5 := Lib.hid hD5
  have HSB5 := Lib.hid (hK5.lows HSB.out HB4.out.size)
  have HDA5 := Lib.hid (HDA4.out.kept hK5 (fun i h h2 => HAP4.out i h h2))
  have HAP5 := Lib.hid (fun i h h2 => (hK5.news i h2).elim (fun h3 => HAP4.out i h h3) (fun h3 => absurd (HDA4.out.inn i h) (by omega)) : ∀ i, Sa4 i → ¬ Sb5 i)
  have HB5 := Lib.hid (HB4.out.trans (hK5.below HSB.out HB4.out.size))
  have CO := Lib.hid (open_all pa t b s 0 Sa4 _ w5 HDA5.out HFM.out HF.out (by omega))
  clear hD5 hK5 HAP4 HDA4 HDB4 HSB CF
  go_wp2_with fail
  refine CO.out.mono ?_
  rintro e w6 ⟨rfl, hJ6, hb6⟩
  have hq6 : ¬ Sa4 w5.heap.size := fun h => absurd (HDA5.out.inn _ h) (Nat.lt_irrefl _)
  have hq6' : ¬ Sb5 w5.heap.size := fun h => absurd (HDB5.out.inn _ h) (Nat.lt_irrefl _)
  obtain ⟨qa, hqa⟩ : ∃ q, q = w5.heap.size := ⟨_, rfl⟩
  rw [← hqa] at hJ6 hq6 hq6' ⊢
  have HJA6 := Lib.hid hJ6
  have HQA := Lib.hid hq6
  have HDA6 := Lib.hid (HDA5.out.bel hb6)
  have HDB6 := Lib.hid (HDB5.out.bel hb6)
  have HB6 := Lib.hid (below_step HB5.out hb6)
  have CO := Lib.hid (open_all pb t b s 0 Sb5 _ w6 HDB6.out HFM.out HF.out (by omega))
  clear hJ6 hq6 hq6' hb6 HDA5 HDB5 hqa
  go_wp2_with fail
  refine CO.out.mono ?_
  rintro e w7 ⟨rfl, hJ7, hb7⟩
  have hq7 : ¬ Sb5 w6.heap.size := fun h => absurd (HDB6.out.inn _ h) (Nat.lt_irrefl _)
  have hq7' : ¬ Sa4 w6.heap.size := fun h => absurd (HDA6.out.inn _ h) (Nat.lt_irrefl _)
  obtain ⟨qb, hqb⟩ : ∃ q, q = w6.heap.size := ⟨_, rfl⟩
  rw [← hqb] at hJ7 hq7 hq7' ⊢
  have HJB7 := Lib.hid hJ7
  have HQB := Lib.hid hq7
  have HDA7 := Lib.hid (HDA6.out.bel hb7)
  have HDB7 := Lib.hid (HDB6.out.bel hb7)
  have HJA7 := Lib.hid (HJA6.out.bel hb7)
  have HB7 := Lib.hid (below_step HB6.out hb7)
  have CC := commit_all qa pa b s t 0 Sa4 _ A n c bs w7 HJA7.out HQA.out HDA7.out HFM.out HN.out (HBS.out.bel HB7.out) (HBS.out.ws HSA4.out HB7.out) HF.out (by omega)
  rw [HCK.out] at CC
  have CC := Lib.hid CC
  have HQB' := Lib.hid hq7'
  clear hJ7 hq7 hq7' hb7 CO HDA6 HDB6 HJA6 hqb
  go_wp2_with fail
  refine CC.out.mono ?_
  rintro e w8 ⟨rfl, Sa8, Da8, seq8, hD8, hK8, hj8, _, hyes⟩
  have HDA8 := Lib.hid hD8
  have HRD := Lib.hid (hyes trivial).2
  have HSA8 := Lib.hid (hK8.lows HSA4.out HB7.out.size)
  have HDB8 := Lib.hid (HDB7.out.kept hK8 (fun i h h2 => HAP5.out i h2 h))
  have HAP8 := Lib.hid (fun i h h2 => (hK8.news i h).elim (fun h3 => HAP5.out i h3 h2) (fun h3 => absurd (HDB7.out.inn i h2) (by omega)) : ∀ i, Sa8 i → ¬ Sb5 i)
  have HB8 := Lib.hid (HB7.out.trans (hK8.below HSA4.out HB7.out.size))
  have HJB8 := Lib.hid (hK8.bk HJB7.out HQB'.out)
  have HR0 := Lib.hid (show SpR w8 w8 Sb5 pb t b s 0 bs (fmD t b s).rd from ⟨Sb5, _, 0, HDB8.out, Kp.refl _ _, HFM.out, Nat.le_refl _, fun i _ _ => by rw [List.take_zero]; rfl⟩)
  clear hD8 hK8 hj8 hyes HDA7 HDB7 HJA7 HJB7 HAP5 CC HSA4
  go_wp2_with fail
  go_loopw [111] (fun i wr => ∃ k : Nat, k ≤ n ∧ i = .int .i64 k ∧ SpR w8 wr Sb5 pb t b s k bs (fmD t b s).rd) (fun i _ => n - (intOf i).toNat)
  case atStart => exact ⟨0, by omega, rfl, HR0.out⟩
  case round =>
    obtain ⟨k, hk, rfl, hR⟩ := hrel
    obtain ⟨S1, D1, seq1, hD1, hK1, hj1, hs1, hr1⟩ := hR.ex
    have HB9 := Lib.hid (HB8.out.trans (hK1.below HSB5.out HB8.out.size))
    by_cases hkn : k < n
    · have hkl : k < bs.length := by rw [← HN.out]; exact hkn
      have hkI : (k : Int) < (n : Int) := by omega
      have hk0 : (0 : Int) ≤ (k : Int) := by omega
      obtain ⟨b1, off, Ad, c1, rfl, hb1, c0w, c1w, hsd⟩ := HBS.out.at' k hkl
      have c0 := (HB9.out.cell (p := ⟨b1, off + k * 2, none⟩) hb1).trans c0w
      have c1' := (HB9.out.cell (p := ⟨b1, off + k * 2 + 1, none⟩) hb1).trans c1w
      obtain ⟨x, hx⟩ : ∃ x, x = bs[k] := ⟨_, rfl⟩
      have hxm : x ∈ bs := by rw [hx]; exact List.getElem_mem hkl
      have HT := Lib.hid (show (bs.take (k + 1)).map BW.nat = (bs.take k).map BW.nat ++ [x.nat] by rw [List.take_succ_eq_append_getElem hkl, List.map_append, hx]; rfl)
      rw [← hx] at c0 c1' hsd
      obtain ⟨wa, hwa⟩ : ∃ wa, wa = wr.alloc (.cells #[.int .i64 x.n, .slice Ad x.l.length c1] 76) := ⟨_, rfl⟩
      have Ba : Below wr.heap.size wr wa := by rw [hwa]; exact (Below.refl _ _).alloc (Nat.le_refl _) _
      have Xa : Bk wa wr.heap.size 76 #[.int .i64 x.n, .slice Ad x.l.length c1] := by rw [hwa]; exact Bk.new wr _ _
      have x0 := Xa.cell 0
      have x1 := Xa.cell 1
      simp only [List.getElem?_toArray, List.getElem?_cons_zero, List.getElem?_cons_succ] at x0 x1
      obtain ⟨wb, hwb⟩ : ∃ wb, wb = wa.alloc (.cells #[.int .i64 x.n, .slice Ad x.l.length c1] 76) := ⟨_, rfl⟩
      have Bb : Below wa.heap.size wa wb := by rw [hwb]; exact (Below.refl _ _).alloc (Nat.le_refl _) _
      have Xb : Bk wb wa.heap.size 76 #[.int .i64 x.n, .slice Ad x.l.length c1] := by rw [hwb]; exact Bk.new wa _ _
      have Brb := below_step Ba Bb
      have hwb0 := below_step HB9.out Brb
      have hS1 : ∀ i, S1 i → w.heap.size ≤ i := hK1.lows HSB5.out HB8.out.size
      have hg1 : ¬ S1 wa.heap.size := fun h => by have := hD1.inn _ h; have := Ba.size; omega
      have hq1 : ¬ S1 qb := hK1.far HJB8.out.lt HQB.out
      have CC := commit_all qb pb b s t seq1 S1 D1 (some ⟨wa.heap.size, 0, none⟩) 1 1 [x] wb ((hK1.bk HJB8.out HQB.out).bel Brb) hq1 (hD1.bel Brb) hj1 rfl (bs_one Xb hsd hwb0) (fun _ => ws_one Xb hsd hwb0 hS1 hg1 (HOK.out x hxm)) HF.out (by omega)
      rw [chk_one HCK.out hxm] at CC
      have CC := Lib.hid CC
      have HK1 := Lib.hid (hK1.trans (Kp.of_bel Brb S1))
      have HS1 := Lib.hid hs1
      have HR1 := Lib.hid hr1
      have HWA := Lib.hid hwa
      have HWB := Lib.hid hwb
      clear hR hD1 hK1 hj1 hs1 hr1 c0w c1w hsd hx hxm hwa Ba Xa hwb Bb Xb Brb hwb0 hS1 hg1 hq1
      go_upto_region 14 with fail
      rw [← HWA.out]
      go_wp2_with fail
      rw [← HWB.out]
      refine CC.out.mono ?_
      rintro e w9 ⟨rfl, S9, D9, seq9, hD9, hK9, hj9, _, hyes⟩
      obtain ⟨hs9, hr9⟩ := hyes trivial
      have HR9 := Lib.hid (show SpR w8 w9 Sb5 pb t b s (k + 1) bs (fmD t b s).rd from ⟨S9, D9, seq9, hD9, HK1.out.trans hK9, hj9, by rw [hs9, if_neg (by omega)]; have := HS1.out; omega, fun i hi ho => by rw [hr9 i hi ho, HR1.out i hi ho, HT.out, last_snoc]; rfl⟩)
      clear hD9 hK9 hj9 hyes hs9 hr9 CC
      go_wp2_with fail
      exact ⟨⟨k + 1, by omega, by go_num, HR9.out⟩, by simp [intOf]; omega⟩
    · obtain rfl : k = n := by omega
      have hkk : ¬ (k : Int) < (k : Int) := by omega
      have HDA9 := Lib.hid (HDA8.out.kept hK1 (fun i h h2 => HAP8.out i h h2))
      have HDB9 := Lib.hid hD1
      have HJ9 := Lib.hid hj1
      have HEQ := Lib.hid (show ∀ i, i < t → outA b s i → Da8.rd i = D1.rd i from fun i hi ho => by
        rw [hr1 i hi ho, HRD.out i hi ho, List.take_of_length_le (by rw [← HN.out]; omega)])
      have HSQ := Lib.hid hs1
      have HSB9 := Lib.hid (hK1.lows HSB5.out HB8.out.size)
      clear hR hD1 hK1 hj1 hs1 hr1
      rename World => wz
      obtain ⟨wy, hwy⟩ : ∃ wy, wy = wz.alloc (.cells #[] 26) := ⟨_, rfl⟩
      have HR0 := Lib.hid (show RwI wy wz.heap.size (.slice (some ⟨wz.heap.size, 0, none⟩) 0 0) 0 ((List.range 0).map Da8.rd) by rw [hwy]; exact ⟨rfl, [], World.ownsRow_lit wz #[] 0 (Nat.le_refl _) (by decide) rfl, fun i h => by simp at h⟩)
      have HBY := Lib.hid (show Below wz.heap.size wz wy by rw [hwy]; exact (Below.refl _ _).alloc (Nat.le_refl _) _)
      have HWY := Lib.hid hwy
      clear hwy
      go_upto_region 18 with fail
      rw [← HWY.out]
      go_wp2_with fail
      go_loopw [21, 22] (fun v i wq => ∃ m : Nat, m ≤ t ∧ i = .int .i64 m ∧ RwI wq wz.heap.size v m ((List.range m).map Da8.rd) ∧ Below wz.heap.size wz wq) (fun _ i _ => t - (intOf i).toNat)
      case atStart => exact ⟨0, by omega, rfl, HR0.out, HBY.out⟩
      case round =>
        obtain ⟨m, hm, rfl, hR, hb⟩ := hrel
        have hR' := hR
        obtain ⟨hml, xs, ho, hall⟩ := hR'
        obtain ⟨Av, cv, rfl, hcv, _⟩ := own_shape ho
        by_cases hmt : m < t
        · have hmI : (m : Int) < (t : Int) := by omega
          have CR := Lib.hid ((HDA9.out.bel hb).read_ok m hmt)
          have HML := Lib.hid hml
          have HO := Lib.hid ho
          have HALL := Lib.hid hall
          have HB := Lib.hid hb
          clear hR hml ho hall hb
          go_wp2_with fail
          refine CR.out.mono ?_
          rintro e w2 ⟨A1, c1, rfl, _, ho1, hb1⟩
          have OW1 := Lib.hid (own_belS HO.out hb1)
          have FA1 := Lib.hid (HALL.out.bel hb1)
          have SQ := Lib.hid (SegF.fresh (v := .slice Av m cv) (Seg.of_own ho1) (own_freshJ ho1) (fun j hj => (HO.out.lt j hj).2))
          have HB1 := Lib.hid (below_step HB.out hb1)
          have HN1 := Lib.hid (show 256 = (Da8.rd m).length from (rd_length HDA9.out.ok m hmt).symm)
          clear ho1 hb1 CR
          go_wp2_with (first
            | (at_builtin; refine wpList_append_lies _ rfl _ _ _ rfl wz.heap.size 26 i0 _ 1 24 Try.underlying24 hi0 hz0 hz1 hz2 rfl (by omega) _ m xs rfl (OW1.out.alloc _) _ 1 1 [.slice A1 256 c1] rfl rfl (World.news_of_block (heap_alloc_new _ _)) (one_sliceJ _ _ _) (by omega) (by simp only [maxLen]; omega) (by omega) (by have := HB1.out.size; simp; omega) _ rfl ?_; intro g9 cap9 w9 hown hgr hgg hlt9; have HF9 := Lib.hid (RwI.push HML.out (OW1.out.alloc _) (FA1.out.bel ((Below.refl _ _).alloc (Nat.le_refl _) _)) HN1.out (SQ.out.bel ((Below.refl _ _).alloc (Nat.le_refl _) _)) hown hgr hgg); have HB9 := Lib.hid ((HB1.out.alloc HB1.out.size _).grown hgr (by have := HB1.out.size; simp; omega) (fun k hk => (OW1.out.lt k hk).1)); clear hown hgr hgg hlt9))
          exact ⟨⟨m + 1, by omega, by go_num, by rw [List.range_succ, List.map_append]; exact HF9.out, HB9.out⟩, by simp [intOf]; omega⟩
        · obtain rfl : m = t := by omega
          have hmm : ¬ (m : Int) < (m : Int) := by omega
          have HRS := Lib.hid hR
          have HB := Lib.hid hb
          clear hR hml ho hall hb
          rename World => wx
          go_wp2_with fail
          go_loopw [25] (fun i wq => ∃ j : Nat, j ≤ 3 ∧ i = .int .i64 j ∧ Below wx.heap.size wx wq) (fun i _ => 3 - (intOf i).toNat)
          case atStart => exact ⟨0, by omega, rfl, Below.refl _ _⟩
          case round =>
            obtain ⟨j, hj, rfl, hb⟩ := hrel
            have HBX := Lib.hid hb
            have HBZ := Lib.hid (below_step HB.out hb)
            clear hb
            by_cases hj3 : j < 3
            · have hjI : (j : Int) < 3 := by omega
              have CR := Lib.hid (recover_all pb m b s seq1 S1 D1 wr (HDB9.out.bel HBZ.out) HJ9.out HF.out (by have := HSQ.out; omega))
              go_wp2_with fail
              refine CR.out.mono ?_
              rintro e w2 ⟨q2, rfl, _, _, hb2⟩
              have HB2' := Lib.hid (below_step HBX.out hb2)
              clear hb2 CR
              go_wp2_with fail
              exact ⟨⟨j + 1, by omega, by go_num, HB2'.out⟩, by simp [intOf]; omega⟩
            · obtain rfl : j = 3 := by omega
              have hj3 : ¬ ((3 : Nat) : Int) < 3 := by omega
              have CA := Lib.hid (awake_any wr)
              go_wp2_with fail
              refine CA.out.mono ?_
              rintro e w2 ⟨rfl, hb2⟩
              have HBX2 := Lib.hid (below_step HBX.out hb2)
              have HBZ2 := Lib.hid (below_step HBZ.out hb2)
              obtain ⟨hrs, _⟩ := (HRS.out.bel HBX2.out).rs
              have CS := Lib.hid (jsame_any pb m b s S1 D1 Av m cv ((List.range m).map Da8.rd) w2 (HDB9.out.bel HBZ2.out) (by simp) (Nat.le_refl _) hb10 (by omega) hrs (fun x hx => by
                obtain ⟨i, hi, rfl⟩ := List.mem_map.1 hx
                rw [rd_length HDA9.out.ok i (List.mem_range.1 hi)]; omega) true (fun _ => rfl) (fun h => absurd (fun i hi ho => by
                have hi2 : i < m := by simpa using hi
                rw [List.getElem_map, List.getElem_range]
                exact HEQ.out i hi2 ho) h))
              clear hb2 hrs CA
              go_wp2_with fail
              refine CS.out.mono ?_
              rintro e w3 ⟨rfl, hb3⟩
              have HBE := Lib.hid (HB9.out.trans ((below_step HBZ2.out hb3).mono HB9.out.size))
              clear hb3
              go_wp2_with fail
              go_ret
              exact ⟨rfl, HBE.out⟩
end Go.Proofs.Ytmgbmnbjionapaa
