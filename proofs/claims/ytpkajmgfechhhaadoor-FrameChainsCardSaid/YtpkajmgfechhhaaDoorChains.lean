/- The statement's own walk: a run is copied, followed, and followed by the reference. Conditions: the blocks lie in memory; the table of the cyclic sum is laid. -/
import Derived.Test.YtpkajmgfechhhaaDoorChain
import Derived.Test.YtpkajmgfechhhaaDoorRefDec
import Derived.Test.YtpkajmgfechhhaaDoorAwakeF
import Derived.Deep.CutBlock
import Derived.Deep.DeepCutAuto
namespace Go.Proofs.YtpkajmgfechhhaaDoor
open Go.RowKit

theorem info_bytes : (Tryd.prog.info? 23).map (fun i => (i.zero, i.size, i.bytes)) = some (some (.slice none 0 0), 1, 24) := by kernel_rfl
theorem one_slice (A : Option Addr) (n c : Nat) : ∀ u ∈ [Value.slice A n c], u.oneCell' = true := by
  intro u hu
  simp only [List.mem_singleton] at hu
  subst hu
  rfl
/-- A row of rows of bytes of one's own. -/
def rwAll (w : World) (v : Value) (ts : List (List Nat)) (xs : List Value) : Prop :=
  ∀ i (_h : i < ts.length), ∃ B n c, xs[i]? = some (.slice B n c) ∧ n = (ts.getD i []).length ∧ n ≤ c ∧ n ≤ 140737488355000 ∧ SegF w v B (u8s (ts.getD i [])) ∧ ∀ x ∈ ts.getD i [], x < 256
theorem rwAll.bel {w w' : World} {v : Value} {ts : List (List Nat)} {xs : List Value} (h : rwAll w v ts xs) (hb : Below w.heap.size w w') : rwAll w' v ts xs := fun i hi => by
  obtain ⟨B, n, c, a1, a2, a3, a4, a5, a6⟩ := h i hi
  exact ⟨B, n, c, a1, a2, a3, a4, a5.bel hb, a6⟩
def RwIn (w : World) (base : Nat) (ty : TypeId) (v : Value) (k : Nat) (ts : List (List Nat)) : Prop :=
  ts.length = k ∧ ∃ xs : List Value, w.ownsRow base ty 1 v k xs ∧ rwAll w v ts xs
theorem RwIn.shape {w : World} {base : Nat} {ty : TypeId} {v : Value} {k : Nat} {ts : List (List Nat)} (h : RwIn w base ty v k ts) : ∃ A c, v = .slice A k c ∧ k ≤ c := by
  obtain ⟨_, xs, h1, _⟩ := h
  obtain ⟨A, c, e, hc, _⟩ := own_shape h1
  exact ⟨A, c, e, hc⟩
theorem RwIn.push {w w' : World} {base : Nat} {ty : TypeId} {v : Value} {ts : List (List Nat)} {xs : List Value} {L : List Nat} {A : Option Addr} {n c g cap k : Nat} (hk : ts.length = k) (hx : xs.length = k) (h2 : rwAll w v ts xs) (hn : n = L.length) (hnc : n ≤ c) (hnz : n ≤ 140737488355000) (hs : SegF w v A (u8s L)) (hl : ∀ x ∈ L, x < 256)
    (h1 : w'.ownsRow base ty 1 (.slice (some ⟨g, 0, none⟩) (k + 1) cap) (k + 1) (xs ++ [.slice A n c])) (hg : w.grownBy w' v.ownBlock) (hgg : v.ownBlock = some g ∨ g = w.heap.size) : RwIn w' base ty (.slice (some ⟨g, 0, none⟩) (k + 1) cap) (k + 1) (ts ++ [L]) := by
  subst hk
  refine ⟨by simp, _, h1, fun i hi => ?_⟩
  rw [List.length_append, List.length_singleton] at hi
  by_cases hlt : i < ts.length
  · obtain ⟨B, n, c, a1, a2, a3, a4, a5, a6⟩ := h2 i hlt
    have e : (ts ++ [L]).getD i [] = ts.getD i [] := by simp [List.getD, List.getElem?_append_left hlt]
    rw [e]
    refine ⟨B, n, c, ?_, a2, a3, a4, a5.grow hg hgg, a6⟩
    rw [List.getElem?_append_left (by omega)]; exact a1
  · obtain rfl : i = ts.length := by omega
    have e : (ts ++ [L]).getD ts.length [] = L := by simp [List.getD]
    rw [e]
    refine ⟨A, n, c, ?_, hn, hnc, hnz, hs.grow hg hgg, hl⟩
    rw [List.getElem?_append_right (by omega), hx, Nat.sub_self]; rfl
theorem RwIn.rows {w : World} {base : Nat} {ty : TypeId} {A : Option Addr} {n c k : Nat} {ts : List (List Nat)} (h : RwIn w base ty (.slice A n c) k ts) : RowsIn w A ts := by
  obtain ⟨hk, xs, h1, h2⟩ := h
  subst hk
  obtain ⟨A', c', e, _, hs⟩ := own_shape h1
  injection e with e1 e2 e3
  subst e1
  refine ⟨xs, by have := h1.1; omega, hs, fun i hi => ?_⟩
  obtain ⟨B, n, c, a1, a2, a3, a4, a5, a6⟩ := h2 i hi
  exact ⟨B, n, c, a1, a2, a3, a4, a5.seg, a6⟩
theorem wrap_u64 (n : Nat) : IntKind.u64.wrap ((n : Int) + 1) = (((n + 1) % 18446744073709551616 : Nat) : Int) := by
  rw [show IntKind.u64.wrap ((n : Int) + 1) = ((n : Int) + 1) % 18446744073709551616 from rfl]
  omega
theorem say_pay (l : List Nat) : (sayN l).2.2.length ≤ l.length := by
  simp [sayN]
  omega
theorem shS {wr w' : World} {a0 a1 a2 b0 b1 b2 : Value} (hb : Below wr.heap.size wr w') (g1 g2 k : Nat) (h1 : g1 < wr.heap.size) (h2 : g2 < wr.heap.size) (y0 : wr.cell? ⟨g1, k * 3, none⟩ = some a0) (y1 : wr.cell? ⟨g1, k * 3 + 1, none⟩ = some a1) (y2 : wr.cell? ⟨g1, k * 3 + 2, none⟩ = some a2)
    (z0 : wr.cell? ⟨g2, k * 3, none⟩ = some b0) (z1 : wr.cell? ⟨g2, k * 3 + 1, none⟩ = some b1) (z2 : wr.cell? ⟨g2, k * 3 + 2, none⟩ = some b2) :
    w'.cell? ⟨g1, k * 3, none⟩ = some a0 ∧ w'.cell? ⟨g1, k * 3 + 1, none⟩ = some a1 ∧ w'.cell? ⟨g1, k * 3 + 2, none⟩ = some a2 ∧ w'.cell? ⟨g2, k * 3, none⟩ = some b0 ∧ w'.cell? ⟨g2, k * 3 + 1, none⟩ = some b1 ∧ w'.cell? ⟨g2, k * 3 + 2, none⟩ = some b2 ∧ Below wr.heap.size wr w' :=
  ⟨by rw [hb.cell (p := ⟨g1, k * 3, none⟩) h1]; exact y0, by rw [hb.cell (p := ⟨g1, k * 3 + 1, none⟩) h1]; exact y1, by rw [hb.cell (p := ⟨g1, k * 3 + 2, none⟩) h1]; exact y2,
    by rw [hb.cell (p := ⟨g2, k * 3, none⟩) h2]; exact z0, by rw [hb.cell (p := ⟨g2, k * 3 + 1, none⟩) h2]; exact z1, by rw [hb.cell (p := ⟨g2, k * 3 + 2, none⟩) h2]; exact z2, hb⟩
set_option maxRecDepth 100000 in
set_option maxHeartbeats 1000000 in
theorem same_frames (kind : Int) (seq : Nat) (A B : Option Addr) (n c d : Nat) (l : List Nat) (hn : n = l.length) (hz : n ≤ 140737488355000) (w : World) (hA : Seg w A (u8s l)) (hB : Seg w B (u8s l)) :
    Calls Tryd.prog 7 #[.agg #[.int .i64 kind, .int .u64 seq, .slice A n c], .agg #[.int .i64 kind, .int .u64 seq, .slice B n d]] w fun e w' => e = .returned (.bool true) ∧ Below w.heap.size w w' := by
  have hbel : Below w.heap.size w ((w.alloc (.cells #[.int .i64 kind, .int .u64 seq, .slice A n c] 34)).alloc (.cells #[.int .i64 kind, .int .u64 seq, .slice B n d] 30)) := ((Below.refl _ _).alloc (Nat.le_refl _) _).alloc (by simp) _
  have HS := Lib.hid (same_u8 A B n n c d l l hn hn _ (hA.bel hbel) (hB.bel hbel) (by omega) (by omega))
  have HB := Lib.hid hbel
  clear hbel hn hA hB
  rw [show decide (l = l) = true by simp] at HS
  go_enter Tryd.func7, Tryd.ntmps7
  go_wp2_with (go_at_call 12; refine HS.out.mono ?_; rintro e w2 ⟨rfl, b2⟩; have B2 := Lib.hid (below_step HB.out b2); clear b2)
  go_ret
  exact ⟨rfl, B2.out⟩
theorem goes_kind {bs : List (List Nat)} {place : Int} {k : Nat} (h : ∀ j, j < k → goes bs place j) : ∀ j, j < k → (qAt bs j).1 = (qAt bs 0).1 := by
  intro j
  induction j with
  | zero => intro _; rfl
  | succ j ih =>
    intro hj
    have h1 := (h (j + 1) hj).2 (by omega)
    rw [show j + 1 - 1 = j by omega] at h1
    rw [h1.1]
    exact ih (by omega)
set_option maxRecDepth 100000 in
set_option maxHeartbeats 1000000 in
theorem chains_any (A : Option Addr) (m d : Nat) (bs : List (List Nat)) (hm : m = bs.length) (place : Int) (w : World) (hA : RowsIn w A bs) (hT : Tab w) :
    Calls Tryd.prog 3 #[.slice A m d, .int .i64 place] w fun e w' => e = .returned (.bool true) ∧ Below w.heap.size w w' := by
  obtain ⟨i0, hi0, hz0, hz1, hz2⟩ := info_parts info_bytes
  obtain ⟨j0, hj0, hj1, hj2, hj3⟩ := info_parts info5
  have HM := Lib.hid hm
  have HA := Lib.hid hA
  have HT := Lib.hid hT
  clear hm hA hT
  go_enter Tryd.func3, Tryd.ntmps3
  go_upto_block 0 with fail
  go_cut [5, 6] (fun s5 _ wx => ∃ (k : Nat) (ts : List (List Nat)), k ≤ 40 ∧ RwIn wx w.heap.size 23 s5 k ts ∧ Below w.heap.size w wx)
  case first =>
    go_wp2_with fail
    go_loopw [5, 6] (fun v i wr => ∃ (k : Nat) (ts : List (List Nat)), k ≤ 40 ∧ k ≤ m ∧ i = .int .i64 k ∧ RwIn wr w.heap.size 23 v k ts ∧ Below w.heap.size w wr) (fun _ i _ => m - (intOf i).toNat)
    case atStart => exact ⟨0, [], by omega, by omega, rfl, ⟨rfl, [], World.ownsRow_lit w #[] 0 (by omega) (by decide) rfl, fun i h => by simp at h⟩, (Below.refl _ _).alloc (Nat.le_refl _) _⟩
    case round =>
      obtain ⟨k, ts, hk40, hkm, rfl, hR, hb⟩ := hrel
      obtain ⟨Av, cv, rfl, hcv⟩ := hR.shape
      by_cases hlt : k < m
      · have i1 : (0 : Int) ≤ (k : Int) := by omega
        have i2 : (k : Int) < (m : Int) := by omega
        by_cases h40 : k < 40
        · have i3 : (k : Int) < 40 := by omega
          have hkl : k < bs.length := by rw [← HM.out]; exact hlt
          obtain ⟨b, off, B, n, c, rfl, hc, hn, hnc, hnz, hSB, hBl⟩ := (HA.out.bel (hb.alloc hb.size (.cells #[] 5))).at k hkl
          obtain ⟨hlen, xs, ho, hall⟩ := hR
          generalize bs.getD k [] = L at *
          have HN := Lib.hid hn
          have SB := Lib.hid hSB
          have HBl := Lib.hid hBl
          have HL := Lib.hid hlen
          have HXL := Lib.hid (show xs.length = k from by have := ho.1; omega)
          have OW := Lib.hid ho
          have FA := Lib.hid hall
          have HB := Lib.hid hb
          clear hn hSB hBl hlen ho hall hb
          go_wp2_with (first
            | (at_builtin; refine wpList_append_seg _ rfl _ _ _ rfl wr.heap.size 5 j0 _ 1 Tryd.underlying23 hj0 hj1 hj2 hj3 rfl _ 0 _ rfl (World.ownsRow_lit wr #[] 0 (by omega) (by decide) rfl) B n c (u8s L) rfl (by rw [u8s_length, HN.out]) SB.out (u8s_one _) (by simp only [maxLen]; omega) (by omega) (by simp) ?_; intro v1 w1 hown1 hb1; simp only [Nat.zero_add, List.nil_append] at hown1; obtain ⟨A1, c1, rfl, hc1, s1⟩ := own_shape hown1; have b1 := ((Below.refl wr.heap.size wr).alloc (Nat.le_refl _) (.cells #[] 5)).trans hb1; have SQ := Lib.hid (SegF.fresh (v := .slice Av k cv) s1 (own_fresh hown1) (fun j hj => (OW.out.lt j hj).2)); have OW1 := Lib.hid (own_bel3 OW.out b1); have FA1 := Lib.hid (FA.out.bel b1); have HB1 := Lib.hid (below_step HB.out b1); clear hown1 hb1 s1 b1)
            | (at_builtin; refine wpList_append_lies _ rfl _ _ _ rfl w.heap.size 23 i0 _ 1 24 Tryd.underlying22 hi0 hz0 hz1 hz2 rfl (by omega) _ k xs rfl (OW1.out.alloc _) _ 1 1 [.slice A1 n c1] rfl rfl (World.news_of_block (heap_alloc_new _ _)) (one_slice _ _ _) (by omega) (by simp only [maxLen]; omega) (by omega) (by have := HB1.out.size; simp; omega) _ rfl ?_; intro g9 cap9 w9 hown hgr hgg hlt9; have HF9 := Lib.hid (RwIn.push HL.out HXL.out (FA1.out.bel ((Below.refl _ _).alloc (Nat.le_refl _) _)) HN.out hc1 hnz (SQ.out.bel ((Below.refl _ _).alloc (Nat.le_refl _) _)) HBl.out hown hgr hgg); have HB9 := Lib.hid ((HB1.out.alloc HB1.out.size _).grown hgr (by have := HB1.out.size; simp; omega) (fun k hk => (OW1.out.lt k hk).1)); clear hown hgr hgg hlt9))
          go_roundw
          case rel => exact ⟨k + 1, ts ++ [L], by omega, by omega, by go_num, HF9.out, HB9.out⟩
          case measure => simp [intOf]; omega
        · have i3 : ¬ (k : Int) < 40 := by omega
          have HR := Lib.hid hR
          have HB := Lib.hid hb
          clear hR hb
          go_wp2_with fail
          go_meet
          exact ⟨k, ts, hk40, HR.out, HB.out⟩
      · have i2 : ¬ (k : Int) < (m : Int) := by omega
        have HR := Lib.hid hR
        have HB := Lib.hid hb
        clear hR hb
        go_wp2_with fail
        go_meet
        exact ⟨k, ts, hk40, HR.out, HB.out⟩
  case rest =>
    obtain ⟨M, ts, hM40, hR, hb⟩ := hcut
    obtain ⟨Av, cv, rfl, hcv⟩ := hR.shape
    have HL := Lib.hid hR.1.symm
    have HR0 := Lib.hid hR.rows
    have HB0 := Lib.hid hb
    have HT0 := Lib.hid (HT.out.below hb)
    clear hR hb
    have HAw := Lib.hid (awake_any wc HT0.out)
    by_cases hp1 : (1152921504606846976 : Int) < place
    · go_wp2_with (go_at_call 4; refine HAw.out.mono ?_; rintro e w2 ⟨rfl, b2⟩; have B2 := Lib.hid (below_step HB0.out b2); clear b2)
      go_ret
      exact ⟨rfl, B2.out⟩
    · by_cases hp2 : place < (-1152921504606846976 : Int)
      · go_wp2_with (go_at_call 4; refine HAw.out.mono ?_; rintro e w2 ⟨rfl, b2⟩; have B2 := Lib.hid (below_step HB0.out b2); clear b2)
        go_ret
        exact ⟨rfl, B2.out⟩
      · have hq1 : -1152921504606846976 ≤ place := by omega
        have hq2 : place ≤ 1152921504606846976 := by omega
        have HCh := Lib.hid (chain_any Av M cv ts HL.out hM40 place hq1 hq2 wc HR0.out HT0.out)
        go_upto_block 2 with (go_at_call 5; refine HCh.out.mono ?_; rintro e w3 ⟨vg, K, rfl, hst, hfg, b3⟩; obtain ⟨Ag, cg, rfl, hcg⟩ := hfg.shape; have HRows := Lib.hid (HR0.out.bel b3); have HB3 := Lib.hid (below_step HB0.out b3); have HT3 := Lib.hid (HT0.out.below b3); have HG3 := Lib.hid hfg; have HSt3 := Lib.hid hst; clear b3 hfg hst)
        rw [firstQ_length]
        rw [firstQ_length] at hcg HG3
        obtain ⟨f0, hf0, hf1, hf2, hf3⟩ := info_parts info_rframe
        go_cut [8, 9, 10, 11] (fun s8 _ _ _ wx => ∃ (k : Nat), k ≤ 40 ∧ stops ts place k ∧ FrIn wx w3.heap.size 30 s8 (firstQ ts k) ∧ Below w3.heap.size w3 wx)
        case first =>
          go_wp2_with fail
          go_loopw [8, 46] (fun v i wr => ∃ k : Nat, k ≤ M ∧ i = .int .i64 k ∧ (∀ j, j < k → goes ts place j) ∧ FrIn wr w3.heap.size 30 v (firstQ ts k) ∧ Below w3.heap.size w3 wr) (fun _ i _ => M - (intOf i).toNat)
          case atStart => exact ⟨0, by omega, rfl, fun j h => by omega, ⟨[], World.ownsRow_lit w3 #[] 0 (by omega) (by decide) rfl, fun i h => by simp [firstQ] at h⟩, (Below.refl _ _).alloc (Nat.le_refl _) _⟩
          case round =>
            obtain ⟨k, hk, rfl, hgo, hf, hb⟩ := hrel
            obtain ⟨Aw, cw, rfl, hcw⟩ := hf.shape
            rw [firstQ_length] at hcw hf ⊢
            by_cases hlt : k < M
            · have hkl : k < ts.length := by rw [← HL.out]; exact hlt
              obtain ⟨b, off, B, n, c, rfl, hc, hn, hnc, hnz, hSB, hBl⟩ := (HRows.out.bel hb).at k hkl
              have i1 : (0 : Int) ≤ (k : Int) := by omega
              have i2 : (k : Int) < (M : Int) := by omega
              have HDec := Lib.hid (refdec_any B n c (ts.getD k []) hn hnc (place + (k : Int)) wr hSB hBl)
              have HF := Lib.hid hf
              have HB := Lib.hid hb
              have HGo := Lib.hid hgo
              have HQ := Lib.hid (show qAt ts k = sayN (ts.getD k []) from rfl)
              have HOk := Lib.hid (show okAt ts place k ↔ okF (ts.getD k []) (place + (k : Int)) from Iff.rfl)
              clear hf hb hgo hSB hBl hn
              generalize ts.getD k [] = L at *
              unfold RDec noFrame at HDec
              generalize sayN L = q at *
              go_upto_region 13 with fail
              go_wp2_with fail
              refine HDec.out.mono ?_
              rintro e w4 (⟨hok, A2, c2, hfr2, rfl, hc2, hs2, b2⟩ | ⟨hno, er, her, rfl, b2⟩)
              · have HOkk := Lib.hid (HOk.out.2 hok)
                obtain ⟨xs, ho, hfa⟩ := HF.out
                rw [firstQ_length] at ho
                have HXL := Lib.hid (show xs.length = k * 3 from ho.1)
                have hvl := ho.lt
                have SQ0 := SegF.fresh (v := .slice Aw k cw) hs2 hfr2 (fun j hj => (hvl j hj).2)
                have a3 : Below w4.heap.size w4 (w4.alloc (.cells #[.int .i64 (q.1 : Int), .int .u64 (q.2.1 : Int), .slice A2 q.2.2.length c2] 30)) := (Below.refl _ _).alloc (Nat.le_refl _) _
                have b3 := below_step b2 a3
                have OW3 := Lib.hid (own_bel3 ho b3)
                have FA3 := Lib.hid (hfa.bel b3)
                have SQ3 := Lib.hid (SQ0.bel a3)
                have BW3 := Lib.hid (below_step HB.out b3)
                have X3 := Lib.hid (Bk.new w4 30 #[.int .i64 (q.1 : Int), .int .u64 (q.2.1 : Int), .slice A2 q.2.2.length c2])
                clear hs2 hfr2 SQ0 a3 b3 ho hvl b2 hok
                by_cases hk0 : 0 < k
                · obtain ⟨j, hjk⟩ : ∃ j, j + 1 = k := ⟨k - 1, by omega⟩
                  obtain ⟨B0, d0, e0, n1, n2, n3⟩ := hfa 0 (by rw [firstQ_length]; omega)
                  obtain ⟨Bj, dj, n4, e1, n5, n6⟩ := hfa j (by rw [firstQ_length]; omega)
                  clear n1 n2 n3 n4 n5 n6
                  rw [firstQ_get _ _ _ (by omega)] at e0 e1
                  obtain ⟨gc, rfl, hg1, hg2⟩ := own_at3 OW3.out (by omega)
                  have hk1 : (0 : Int) < (k : Int) := by omega
                  have hk2 : decide ((0 : Int) < (k : Int)) = true := by simp; omega
                  have HKi := Lib.hid (goes_kind HGo.out j (by omega))
                  have HGoes := Lib.hid (show goes ts place k ↔ folQ q (qAt ts j) from by
                    unfold goes
                    rw [HQ.out, show k - 1 = j by omega]
                    exact ⟨fun h => h.2 (by omega), fun h => ⟨HOkk.out, fun _ => h⟩⟩)
                  rw [← HKi.out] at e0
                  generalize qAt ts j = r at *
                  have x0 : (w4.alloc (.cells #[.int .i64 (q.1 : Int), .int .u64 (q.2.1 : Int), .slice A2 q.2.2.length c2] 30)).cell? ⟨w4.heap.size, 0, none⟩ = some (.int .i64 (q.1 : Int)) := X3.out.cell 0
                  have x1 : (w4.alloc (.cells #[.int .i64 (q.1 : Int), .int .u64 (q.2.1 : Int), .slice A2 q.2.2.length c2] 30)).cell? ⟨w4.heap.size, 1, none⟩ = some (.int .u64 (q.2.1 : Int)) := X3.out.cell 1
                  have y0 : (w4.alloc (.cells #[.int .i64 (q.1 : Int), .int .u64 (q.2.1 : Int), .slice A2 q.2.2.length c2] 30)).cell? ⟨gc, 0, none⟩ = some (.int .i64 (r.1 : Int)) := by
                    have := OW3.out.cellAt 0 (by omega)
                    rw [this]; exact e0
                  have y1 : (w4.alloc (.cells #[.int .i64 (q.1 : Int), .int .u64 (q.2.1 : Int), .slice A2 q.2.2.length c2] 30)).cell? ⟨gc, j * 3 + 1, none⟩ = some (.int .u64 (r.2.1 : Int)) := by
                    rw [OW3.out.cellAt _ (by omega)]; exact e1
                  have t2 : IntKind.i64.wrap ((k : Int) - 1) = (j : Int) := by rw [IntWalk.i64_in _ (by omega)]; omega
                  have t3 : (0 : Int) ≤ (j : Int) := by omega
                  have t4 : (j : Int) < (k : Int) := by omega
                  have hjl : j < k := by omega
                  have HJK := Lib.hid hjk
                  have HFA3 := Lib.hid hfa
                  clear e0 e1 hjk hfa
                  go_wp2_with fail
                  generalize w4.alloc (.cells #[.int .i64 (q.1 : Int), .int .u64 (q.2.1 : Int), .slice A2 q.2.2.length c2] 30) = w5 at *
                  by_cases hkd : q.1 = r.1
                  · have hd1 : ((q.1 : Int) != (r.1 : Int)) = false := by simp [hkd]
                    by_cases hsd : q.2.1 = (r.2.1 + 1) % 18446744073709551616
                    · have hd2 : ((q.2.1 : Int) != IntKind.u64.wrap ((r.2.1 : Int) + 1)) = false := by rw [wrap_u64, bne_eq_false_iff_eq]; exact congrArg Int.ofNat hsd
                      have HGoN := Lib.hid (show ∀ i, i < k + 1 → goes ts place i from fun i hi => by
                        by_cases e : i = k
                        · subst e; exact HGoes.out.2 ⟨hkd, hsd⟩
                        · exact HGo.out i (by omega))
                      clear hkd hsd
                      go_quiet (fail)
                      have OW := Lib.hid (own_drewN3 OW3.out nq)
                      have FA := Lib.hid (FA3.out.bel (below_drewN (Below.refl _ _) nq))
                      have SQ := Lib.hid (SQ3.out.bel (below_drewN (Below.refl _ _) nq))
                      have BWW := Lib.hid (below_drewN BW3.out nq)
                      have XW := X3.out.drewN nq
                      have x0 := XW.cell 0
                      have x1 := XW.cell 1
                      have x2 := XW.cell 2
                      clear OW3 FA3 SQ3 BW3 X3
                      generalize w5.drewN nq = w6 at *
                      go_wp2_with (at_builtin; refine wpList_append_lies _ rfl _ _ _ rfl w3.heap.size 30 f0 _ 3 40 Tryd.underlying27 hf0 hf1 hf2 hf3 rfl (by omega) _ k xs rfl (OW.out.alloc _) _ 1 1 [.int .i64 (q.1 : Int), .int .u64 (q.2.1 : Int), .slice A2 q.2.2.length c2] rfl rfl (World.news_of_block (heap_alloc_new _ _)) (three_one _ _ _ _ _) (by omega) (by simp only [maxLen]; omega) (by omega) (by have := BWW.out.size; simp; omega) _ rfl ?_; intro g9 cap9 w9 hown hgr hgg hlt9; have HF9 := Lib.hid (FrIn.push (firstQ_length ts k) HXL.out (FA.out.bel ((Below.refl _ _).alloc (Nat.le_refl _) _)) (SQ.out.bel ((Below.refl _ _).alloc (Nat.le_refl _) _)) hown hgr hgg); have HB9 := Lib.hid ((BWW.out.alloc BWW.out.size _).grown hgr (by have := BWW.out.size; simp; omega) (fun k hk => (OW.out.lt k hk).1)); clear hown hgr hgg hlt9)
                      go_roundw
                      case rel => exact ⟨k + 1, by omega, by go_num, HGoN.out, by rw [firstQ_succ, HQ.out]; exact HF9.out, HB9.out⟩
                      case measure => simp [intOf]; omega
                    · have hd2 : ((q.2.1 : Int) != IntKind.u64.wrap ((r.2.1 : Int) + 1)) = true := by rw [wrap_u64, bne_iff_ne]; exact fun e => hsd (Int.ofNat.inj e)
                      have HNo := Lib.hid (show ¬ goes ts place k from fun h => hsd (HGoes.out.1 h).2)
                      clear hkd hsd
                      have HSt := Lib.hid (show stops ts place k from ⟨by omega, HGo.out, .inr HNo.out⟩)
                      go_quiet (fail)
                      have HFin := Lib.hid (show FrIn (w5.drewN nq) w3.heap.size 30 (.slice (some ⟨gc, 0, none⟩) k cw) (firstQ ts k) from ⟨xs, by rw [firstQ_length]; exact own_drewN3 OW3.out nq, FA3.out.bel (below_drewN (Below.refl _ _) nq)⟩)
                      have HBf := Lib.hid (below_drewN BW3.out nq)
                      go_wp2_with fail
                      go_meet
                      exact ⟨k, by omega, HSt.out, HFin.out, HBf.out⟩
                  · have hd1 : ((q.1 : Int) != (r.1 : Int)) = true := by rw [bne_iff_ne]; omega
                    have HNo := Lib.hid (show ¬ goes ts place k from fun h => hkd (HGoes.out.1 h).1)
                    clear hkd
                    have HSt := Lib.hid (show stops ts place k from ⟨by omega, HGo.out, .inr HNo.out⟩)
                    go_quiet (fail)
                    have HFin := Lib.hid (show FrIn (w5.drewN nq) w3.heap.size 30 (.slice (some ⟨gc, 0, none⟩) k cw) (firstQ ts k) from ⟨xs, by rw [firstQ_length]; exact own_drewN3 OW3.out nq, FA3.out.bel (below_drewN (Below.refl _ _) nq)⟩)
                    have HBf := Lib.hid (below_drewN BW3.out nq)
                    go_wp2_with fail
                    go_meet
                    exact ⟨k, by omega, HSt.out, HFin.out, HBf.out⟩
                · have hk1 : ¬ (0 : Int) < (k : Int) := by omega
                  have HGoN := Lib.hid (show ∀ j, j < k + 1 → goes ts place j from fun j hj => by
                    by_cases e : j = k
                    · subst e; exact ⟨HOkk.out, fun h => absurd h hk0⟩
                    · exact HGo.out j (by omega))
                  clear hfa
                  go_wp2_with fail
                  generalize w4.alloc (.cells #[.int .i64 (q.1 : Int), .int .u64 (q.2.1 : Int), .slice A2 q.2.2.length c2] 30) = w5 at *
                  go_quiet (fail)
                  have OW := Lib.hid (own_drewN3 OW3.out nq)
                  have FA := Lib.hid (FA3.out.bel (below_drewN (Below.refl _ _) nq))
                  have SQ := Lib.hid (SQ3.out.bel (below_drewN (Below.refl _ _) nq))
                  have BWW := Lib.hid (below_drewN BW3.out nq)
                  have XW := X3.out.drewN nq
                  have x0 := XW.cell 0
                  have x1 := XW.cell 1
                  have x2 := XW.cell 2
                  clear OW3 FA3 SQ3 BW3 X3
                  generalize w5.drewN nq = w6 at *
                  go_wp2_with (at_builtin; refine wpList_append_lies _ rfl _ _ _ rfl w3.heap.size 30 f0 _ 3 40 Tryd.underlying27 hf0 hf1 hf2 hf3 rfl (by omega) _ k xs rfl (OW.out.alloc _) _ 1 1 [.int .i64 (q.1 : Int), .int .u64 (q.2.1 : Int), .slice A2 q.2.2.length c2] rfl rfl (World.news_of_block (heap_alloc_new _ _)) (three_one _ _ _ _ _) (by omega) (by simp only [maxLen]; omega) (by omega) (by have := BWW.out.size; simp; omega) _ rfl ?_; intro g9 cap9 w9 hown hgr hgg hlt9; have HF9 := Lib.hid (FrIn.push (firstQ_length ts k) HXL.out (FA.out.bel ((Below.refl _ _).alloc (Nat.le_refl _) _)) (SQ.out.bel ((Below.refl _ _).alloc (Nat.le_refl _) _)) hown hgr hgg); have HB9 := Lib.hid ((BWW.out.alloc BWW.out.size _).grown hgr (by have := BWW.out.size; simp; omega) (fun k hk => (OW.out.lt k hk).1)); clear hown hgr hgg hlt9)
                  go_roundw
                  case rel => exact ⟨k + 1, by omega, by go_num, HGoN.out, by rw [firstQ_succ, HQ.out]; exact HF9.out, HB9.out⟩
                  case measure => simp [intOf]; omega
              · have HSt := Lib.hid (show stops ts place k from ⟨by omega, HGo.out, .inr (fun h => hno (HOk.out.1 h.1))⟩)
                have her' : (er != 0) = true := by rw [bne_iff_ne]; exact her
                have a3 : Below w4.heap.size w4 (w4.alloc (.cells #[.int .i64 0, .int .u64 0, .slice none 0 0] 30)) := (Below.refl _ _).alloc (Nat.le_refl _) _
                have HFin := Lib.hid (fun n => ((HF.out.bel (below_step b2 a3)).bel (below_drewN (Below.refl _ _) n)))
                have HBf := Lib.hid (fun n => below_drewN (below_step HB.out (below_step b2 a3)) n)
                clear hno her b2 a3
                go_wp2_with fail
                generalize w4.alloc (.cells #[.int .i64 0, .int .u64 0, .slice none 0 0] 30) = w5 at *
                go_quiet (fail)
                go_wp2_with fail
                go_meet
                exact ⟨k, by omega, HSt.out, HFin.out _, HBf.out _⟩
            · obtain rfl : k = M := by omega
              have HSt := Lib.hid (show stops ts place k from ⟨by rw [HL.out]; exact Nat.le_refl _, hgo, .inl HL.out⟩)
              have HF := Lib.hid hf
              have HB := Lib.hid hb
              clear hgo hf hb
              go_wp2_with fail
              go_meet
              exact ⟨k, by omega, HSt.out, HF.out, HB.out⟩
        case rest =>
          obtain ⟨k, hk40, hst, hfw, hb⟩ := hcut
          obtain rfl : K = k := stops_one HSt3.out hst
          obtain ⟨Aw, cw, rfl, hcw⟩ := hfw.shape
          rw [firstQ_length] at hcw hfw ⊢
          have hstk := Lib.hid hst.2.1
          have HB4 := Lib.hid (below_step HB3.out hb)
          have HT4 := Lib.hid (HT3.out.below hb)
          have HG4 := Lib.hid (HG3.out.bel hb)
          have HW4 := Lib.hid hfw
          have HAw4 := Lib.hid (awake_any wc HT4.out)
          clear hst hfw hb
          go_upto_block 4 with (go_at_call 4; refine HAw4.out.mono ?_; rintro e w5 ⟨rfl, b5⟩; have HB5 := Lib.hid (below_step HB4.out b5); have HG5 := Lib.hid (HG4.out.bel b5); have HW5 := Lib.hid (HW4.out.bel b5); clear b5)
          go_wp2_with fail
          go_loopw [103] (fun i wr => ∃ k : Nat, k ≤ K ∧ i = .int .i64 k ∧ Below w5.heap.size w5 wr) (fun i _ => K - (intOf i).toNat)
          case atStart => exact ⟨0, by omega, rfl, Below.refl _ _⟩
          case round =>
            obtain ⟨k, hk, rfl, hb⟩ := hrel
            by_cases hlt : k < K
            · have i1 : (0 : Int) ≤ (k : Int) := by omega
              have i2 : (k : Int) < (K : Int) := by omega
              obtain ⟨g1, B1, d1, rfl, _, hg1, y0, y1, y2, S1⟩ := (HG5.out.bel hb).at k (by rw [firstQ_length]; exact hlt)
              obtain ⟨g2, B2, d2, rfl, _, hg2, z0, z1, z2, S2⟩ := (HW5.out.bel hb).at k (by rw [firstQ_length]; exact hlt)
              rw [firstQ_get _ _ _ hlt] at y0 y1 y2 z0 z1 z2 S1 S2
              have hpl : (qAt ts k).2.2.length ≤ 140737488355000 := by
                have h1 := say_pay (ts.getD k [])
                have h2 := (hstk.out k hlt).1.1
                unfold qAt
                omega
              generalize qAt ts k = q at *
              have Y0 := Lib.hid y0
              have Y1 := Lib.hid y1
              have Y2 := Lib.hid y2
              have Z0 := Lib.hid z0
              have Z1 := Lib.hid z1
              have Z2 := Lib.hid z2
              have SA := Lib.hid (S1.bel ((Below.refl _ _).drew))
              have SB := Lib.hid (S2.bel ((Below.refl _ _).drew))
              have H0 := Lib.hid (Below.refl wr.heap.size wr)
              have HB := Lib.hid hb
              clear y0 y1 y2 z0 z1 z2 S1 S2 hb
              go_upto_region 22 with fail
              have hS := shS H0.out g1 g2 k hg1 hg2 Y0.out Y1.out Y2.out Z0.out Z1.out Z2.out
              go_region_held3 (fun w' => w'.cell? ⟨g1, k * 3, none⟩ = some (.int .i64 (q.1 : Int)) ∧ w'.cell? ⟨g1, k * 3 + 1, none⟩ = some (.int .u64 (q.2.1 : Int)) ∧ w'.cell? ⟨g1, k * 3 + 2, none⟩ = some (.slice B1 q.2.2.length d1) ∧ w'.cell? ⟨g2, k * 3, none⟩ = some (.int .i64 (q.1 : Int)) ∧ w'.cell? ⟨g2, k * 3 + 1, none⟩ = some (.int .u64 (q.2.1 : Int)) ∧ w'.cell? ⟨g2, k * 3 + 2, none⟩ = some (.slice B2 q.2.2.length d2) ∧ Below wr.heap.size wr w')
                (first
                  | (with_reducible assumption)
                  | (with_reducible exact shS H0.out.drew g1 g2 k hg1 hg2 Y0.out Y1.out Y2.out Z0.out Z1.out Z2.out)
                  | (with_reducible exact shS (below_step H0.out.drew ba) g1 g2 k hg1 hg2 Y0.out Y1.out Y2.out Z0.out Z1.out Z2.out))
                ((go_at_call 7; refine (same_frames (q.1 : Int) q.2.1 B1 B2 q.2.2.length d1 d2 q.2.2 rfl hpl _ SA.out SB.out).mono ?_; rintro e wa ⟨rfl, ba⟩))
              have HB9 := Lib.hid (below_step HB.out (below_step H0.out.drew ba))
              rename_i hHeld
              clear hHeld hS ba
              go_wp2_with fail
              go_roundw
              case rel => exact ⟨k + 1, by omega, by go_num, HB9.out⟩
              case measure => simp [intOf]; omega
            · obtain rfl : k = K := by omega
              have HB := Lib.hid hb
              clear hb
              go_wp2_with fail
              go_ret
              exact ⟨rfl, below_step HB5.out HB.out⟩
end Go.Proofs.YtpkajmgfechhhaaDoor
