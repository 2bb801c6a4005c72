/- Any row of calls does to the disk what the reference's does: the statement's walk. Condition: the calls lie in memory. -/
import Derived.Test.YtmgbmnbjionapaaDpH
namespace Go.Proofs.Ytmgbmnbjionapaa
open Go.RowKit

theorem ref_armed (arm : Int) (t : Nat) : max arm (-1) = refL ((DM.new t).armed arm) := by
  unfold refL DM.armed
  by_cases h : 0 ≤ arm
  · simp only [decide_eq_true h, if_true]; omega
  · simp only [decide_eq_false h, Bool.false_eq_true, if_false]; omega
theorem rows_new (t : Nat) (arm : Int) : List.replicate t zer = rowsN ((DM.new t).armed arm).img t := by
  apply List.ext_getElem?
  intro i
  by_cases hi : i < t
  · rw [rowsN_at _ _ _ hi, List.getElem?_replicate, if_pos hi]
    congr 1
    show zer = blkN (List.replicate (t * 256) 0) i
    unfold blkN zer
    have := Nat.mul_le_mul_right 256 (show i + 1 ≤ t by omega)
    rw [List.drop_replicate, List.take_replicate]
    congr 1; omega
  · rw [List.getElem?_eq_none (by simp; omega), List.getElem?_eq_none (by rw [rowsN_length]; omega)]
theorem plS_at (T : Nat) (D : DM) (ops : List OpM) : ∀ n k, k < n → (plS T D ops n).2.1[k]? = some (plStep T (plS T D ops k).1 (ops.getD k ⟨0, 0, [], 0, 0, 0⟩)).2.1 ∧ (plS T D ops n).2.2[k]? = some (plStep T (plS T D ops k).1 (ops.getD k ⟨0, 0, [], 0, 0, 0⟩)).2.2
  | 0, k, h => by omega
  | n + 1, k, h => by
    obtain ⟨l1, l2⟩ := plS_len T D ops n
    by_cases e : k = n
    · subst e
      show ((plS T D ops k).2.1 ++ [_])[k]? = _ ∧ ((plS T D ops k).2.2 ++ [_])[k]? = _
      rw [List.getElem?_append_right (by omega), List.getElem?_append_right (by omega), l1, l2, Nat.sub_self]
      exact ⟨rfl, rfl⟩
    · obtain ⟨h1, h2⟩ := plS_at T D ops n k (by omega)
      show ((plS T D ops n).2.1 ++ [_])[k]? = _ ∧ ((plS T D ops n).2.2 ++ [_])[k]? = _
      rw [List.getElem?_append_left (by omega), List.getElem?_append_left (by omega)]
      exact ⟨h1, h2⟩
theorem plStep_short {T : Nat} {D : DM} (h : D.Ok T) (o : OpM) : (plStep T D o).2.1.length ≤ 256 := by
  unfold plStep doR
  by_cases h1 : o.kind = 1
  · rw [if_pos h1]
    split
    · simp
    · rename_i x hx
      split at hx
      · split at hx
        · cases hx
        · split at hx <;> (injection hx with hx; subst hx; simp)
      · injection hx with hx; subst hx; simp
  · rw [if_neg h1]
    by_cases h2 : o.kind = 2
    · rw [if_pos h2]
      by_cases hin : 0 ≤ o.block ∧ o.block < (T : Int)
      · rw [if_pos hin]
        show (D.rd o.block.toNat).length ≤ 256
        rw [rd_length h _ (by omega)]; exact Nat.le_refl _
      · rw [if_neg hin]; simp
    · rw [if_neg h2]
      split
      · simp
      · rename_i x hx
        split at hx
        · split at hx
          · cases hx
          · injection hx with hx; subst hx; simp
        · split at hx <;> (injection hx with hx; subst hx; simp)
theorem Seg.offD {w : World} {A : Option Addr} {l : List Nat} {g : Nat} {t : TypeId} {cs : Array Value} (h : Seg w A (u8s l)) (hb : Bk w g t cs) (hn : noByte cs) (i : Nat) (u : Value) : Seg (w.setCell ⟨g, i, none⟩ u) A (u8s l) := by
  have h2 : SegF w (.slice none 0 0) A (u8s l) := fun hne => by
    obtain ⟨b, off, e1, e2, e3⟩ := h hne
    exact ⟨b, off, e1, e2, (fun e => by cases e), e3⟩
  exact (h2.off hb hn).seg
/-- What holds behind k calls: the reference's disk lies in block gD. -/
def PyR (w4 w : World) (gD t : Nat) (D0 : DM) (os : List OpM) (k : Nat) : Prop :=
  Below w4.heap.size w4 w ∧ ∃ Ab cb Aw cw, Bk w gD 32 #[.slice Ab t cb, .slice Aw (plS t D0 os k).1.wts.length cw, .int .i64 (refL (plS t D0 os k).1)] ∧ RfD (fun g => g ≠ gD) w Ab Aw (plS t D0 os k).1 t
set_option maxRecDepth 100000 in
set_option maxHeartbeats 8000000 in
theorem plays_main (T : Int) (t : Nat) (hcl : (T = (t : Int) ∧ t ≤ 40) ∨ (40 < T ∧ T ≤ 2048 ∧ t = 40)) (ht1 : 1 ≤ t) (arm : Int) (harm : arm < 9223372036854775808) (A : Option Addr) (c n : Nat) (ops : List OpM) (w : World) (hn : n = ops.length) (hO : OpsAt w A ops) :
    Calls Try.prog 3 #[.int .i64 T, .int .i64 arm, .slice A n c] w fun e w' => e = .returned (.bool true) ∧ Below w.heap.size w w' := by
  have HN := Lib.hid hn
  have HO := Lib.hid hO
  have ht40 : t ≤ 40 := by omega
  clear hn hO
  rcases hcl with ⟨rfl, h1⟩ | ⟨h1, h2, h3⟩
  · have h40 : ¬ (40 : Int) < (t : Int) := by omega
    clear h1
    go_enter Try.func3, Try.ntmps3
    go_upto_region 3 with fail
    have CF1 := Lib.hid (few_any (w := w) A c ops n HN.out HO.out)
    go_wp2_with fail
    refine CF1.out.mono ?_
    rintro e w1 ⟨A1, c1, rfl, hc1, hI1, hb1⟩
    obtain ⟨os, hos⟩ : ∃ os, os = ops.take 200 := ⟨_, rfl⟩
    rw [← hos] at hc1 hI1 ⊢
    have hol : os.length ≤ 200 := by rw [hos, List.length_take]; omega
    have hot : os.take 200 = os := List.take_of_length_le hol
    obtain ⟨nn, hnn⟩ : ∃ nn, nn = os.length := ⟨_, rfl⟩
    rw [← hnn] at hc1 hI1 ⊢
    have hn200 : nn ≤ 200 := by rw [hnn]; exact hol
    have hI1a := hI1
    have HOA := Lib.hid hI1a.at
    have HB1 := Lib.hid hb1
    have HNN := Lib.hid hnn
    have CF2 := few_any (w := w1) A1 c1 os nn hnn HOA.out
    rw [hot] at CF2
    have CF2 := Lib.hid CF2
    clear hos hol hot hI1 hI1a hb1 hnn CF1
    go_wp2_with fail
    refine CF2.out.mono ?_
    rintro e w2 ⟨A2, c2, rfl, hc2, hI2, hb2⟩
    rw [← HNN.out] at hc2 hI2 ⊢
    have HB2 := Lib.hid (below_step HB1.out hb2)
    have HO2 := Lib.hid (HOA.out.bel hb2)
    have CP := Lib.hid (play_ok (w := w2) t ht1 (by omega) arm harm A2 c2 os nn HNN.out (by omega) hc2 hI2.at)
    obtain ⟨D0, hD0⟩ : ∃ D0, D0 = (DM.new t).armed arm := ⟨_, rfl⟩
    rw [← hD0] at CP
    have HD0 := Lib.hid hD0
    clear hI2 hb2 CF2 hD0 HOA
    go_wp2_with fail
    refine CP.out.mono ?_
    rintro e w3 ⟨S, bd, br, be, gr, ge, p, Ai, ci, rfl, hP, hSi, _, _⟩
    have HP := Lib.hid hP
    have HSI := Lib.hid hSi
    have HB3 := Lib.hid (below_step HB2.out hP.bel)
    have HO3 := Lib.hid (HO2.out.bel hP.bel)
    have CN := Lib.hid (new3_any NT t (by omega) w3 (fun _ _ => trivial))
    have hT1 : ¬ (t : Int) < 1 := by omega
    have hT2 : ¬ (2048 : Int) < (t : Int) := by omega
    clear hP hSi CP HO2
    go_wp2_with fail
    refine CN.out.mono ?_
    rintro e w4 ⟨A4, c4, rfl, hR4, hb4⟩
    have HB4 := Lib.hid (below_step HB3.out hb4)
    have HO4 := Lib.hid (HO3.out.bel hb4)
    have HB34 := Lib.hid hb4
    have HR4 := Lib.hid hR4.low
    clear hR4 hb4 CN HO3
    obtain ⟨w5, hw5⟩ : ∃ w5, w5 = w4.alloc (.cells #[.slice A4 t c4, .slice none 0 0, .int .i64 (-1)] 32) := ⟨_, rfl⟩
    have X5 : Bk w5 w4.heap.size 32 #[.slice A4 t c4, .slice none 0 0, .int .i64 (-1)] := by rw [hw5]; exact Bk.new w4 _ _
    have B45 : Below w4.heap.size w4 w5 := by rw [hw5]; exact (Below.refl _ _).alloc (Nat.le_refl _) _
    have v2 := X5.cell 2
    have fv2 := X5.frozen 2
    simp only [List.getElem?_toArray, List.getElem?_cons_zero, List.getElem?_cons_succ] at v2
    have HX5 := Lib.hid X5
    have HB45 := Lib.hid B45
    have HW5 := Lib.hid hw5
    clear X5 B45 hw5
    go_upto_region 8 with fail
    rw [← HW5.out]
    have hlf : (if arm < -1 then -1 else arm) = refL D0 := by rw [HD0.out, ← ref_armed arm t]; omega
    obtain ⟨w6, hw6⟩ : ∃ w6, w6 = w5.setCell ⟨w4.heap.size, 2, none⟩ (.int .i64 (if arm < -1 then -1 else arm)) := ⟨_, rfl⟩
    have X6 : Bk w6 w4.heap.size 32 #[.slice A4 t c4, .slice none 0 0, .int .i64 (refL D0)] := by rw [hw6, ← hlf]; exact HX5.out.put 2 _
    have HB6 := Lib.hid (show Below w4.heap.size w4 w6 by rw [hw6]; exact HB45.out.setCell (Nat.le_refl _) _)
    have HW6 := Lib.hid hw6
    have HX6 := Lib.hid X6
    clear X6 hw6 hlf HX5 HB45
    go_upto_region 9 with fail
    rw [← HW6.out]
    clear v2 fv2 HW6
    generalize (if arm < -1 then (-1 : Int) else arm) = mx at *
    have CA := Lib.hid (dawake_any (w := w6))
    have hnn1 : ((nn : Int) != (nn : Int)) = false := by simp
    go_wp2_with fail
    refine CA.out.mono ?_
    rintro e w7 ⟨rfl, hb7⟩
    obtain ⟨gD, hgD⟩ : ∃ gD, gD = w4.heap.size := ⟨_, rfl⟩
    have HGD := Lib.hid hgD
    have HLP := Lib.hid (show PyR w4 w7 gD t D0 os 0 from ⟨below_step HB6.out hb7, A4, c4, none, 0, by
      have h := HX6.out.bel hb7
      rw [hgD, show (plS t D0 os 0).1.wts.length = 0 by rw [HD0.out]; rfl]; exact h, by
      refine ⟨?_, ⟨fun k hk => by rw [show (plS t D0 os 0).1.wts = [] by rw [HD0.out]; rfl] at hk; simp at hk⟩, by rw [HD0.out]; exact (DM.Ok.new t ht1 (by omega)).armed arm harm⟩
      rw [show rowsN (plS t D0 os 0).1.img t = List.replicate t zer by rw [HD0.out]; exact (rows_new t arm).symm]
      exact (HR4.out.bel (below_step HB6.out hb7)).mono (fun g hg e => by have := hg.2; omega)⟩)
    rw [← hgD]
    clear hb7 CA hgD HX6 HB6 HW5
    go_wp2_with fail
    go_loopw [77] (fun i wr => ∃ k : Nat, k ≤ nn ∧ i = .int .i64 k ∧ PyR w4 wr gD t D0 os k) (fun i _ => nn - (intOf i).toNat)
    case atStart => exact ⟨0, by omega, rfl, HLP.out⟩
    case round =>
      obtain ⟨k, hk, rfl, hR⟩ := hrel
      obtain ⟨hb, Ab, cb, Aw, cw, hbk, hrf⟩ := hR
      have hgl : gD < wr.heap.size := hbk.lt
      by_cases hkn : k < nn
      · have hkl : k < os.length := by rw [← HNN.out]; exact hkn
        have hkI : (k : Int) < (nn : Int) := by omega
        have hk0 : (0 : Int) ≤ (k : Int) := by omega
        obtain ⟨b1, off, Ad, ca, rfl, hra, hsd, hca, _, hkp, _⟩ := (HO4.out.bel hb) k hkl
        obtain ⟨o, ho⟩ : ∃ o, o = os[k] := ⟨_, rfl⟩
        rw [← ho] at hra hsd hca hkp
        have hgo : os.getD k ⟨0, 0, [], 0, 0, 0⟩ = o := by rw [List.getD_eq_getElem?_getD, List.getElem?_eq_getElem hkl, ho]; rfl
        obtain ⟨hs1, hs2⟩ := plS_at t D0 os nn k hkn
        rw [hgo] at hs1 hs2
        have HSU := Lib.hid (show (plS t D0 os (k + 1)).1 = (plStep t (plS t D0 os k).1 o).1 by show (plStep t _ (os.getD k _)).1 = _; rw [hgo])
        obtain ⟨X, hX⟩ : ∃ X, X = plStep t (plS t D0 os k).1 o := ⟨_, rfl⟩
        rw [← hX] at hs1 hs2 HSU
        have hrl : X.2.1.length ≤ 256 := by rw [hX]; exact plStep_short hrf.ok o
        obtain ⟨l1, l2⟩ := plS_len t D0 os nn
        -- what the program read, its error
        obtain ⟨vs, hvl, hgr, hrows⟩ := HP.out.rows
        obtain ⟨v, hv1, hv2⟩ := hrows k (by omega)
        have hek : (plS t D0 os nn).2.1[k]'(by omega) = X.2.1 := by rw [List.getElem?_eq_getElem (by omega)] at hs1; exact Option.some.inj hs1
        rw [hek] at hv2
        obtain ⟨Ar, cr, rfl, _, hsr, _⟩ := hv2
        have cgr : w3.cell? ⟨gr, k, none⟩ = some (.slice Ar X.2.1.length cr) := by
          rw [hgr.cell k]
          rw [List.getElem?_toArray, List.getElem?_append_left (by omega)]; exact hv1
        have cge : w3.cell? ⟨ge, k, none⟩ = some (.int .i64 X.2.2) := by
          rw [HP.out.errs.cell k, List.getElem?_toArray, List.getElem?_append_left (by rw [List.length_map]; omega), List.getElem?_map, hs2]; rfl
        have hB3r := below_step HB34.out hb
        have HCGR := Lib.hid cgr
        have HCGE := Lib.hid cge
        have HGRL := Lib.hid hgr.lt
        have HGEL := Lib.hid HP.out.errs.lt
        have HSR := Lib.hid hsr
        have c0 : wr.cell? ⟨b1, off + k * 6, none⟩ = some (.int .i64 o.kind) := hra 0 _ rfl
        have c1 : wr.cell? ⟨b1, off + k * 6 + 1, none⟩ = some (.int .i64 o.block) := hra 1 _ rfl
        have c2' : wr.cell? ⟨b1, off + k * 6 + 2, none⟩ = some (.slice Ad o.data.length ca) := hra 2 _ rfl
        have c3 : wr.cell? ⟨b1, off + k * 6 + 3, none⟩ = some (.int .u64 (o.keep : Int)) := hra 3 _ rfl
        have c4' : wr.cell? ⟨b1, off + k * 6 + 4, none⟩ = some (.int .i64 o.tear) := hra 4 _ rfl
        have c5 : wr.cell? ⟨b1, off + k * 6 + 5, none⟩ = some (.int .i64 o.sectors) := hra 5 _ rfl
        obtain ⟨wE, hwE⟩ : ∃ wE, wE = wr.alloc (.cells #[.int .i64 o.kind, .int .i64 o.block, .slice Ad o.data.length ca, .int .u64 (o.keep : Int), .int .i64 o.tear, .int .i64 o.sectors] 36) := ⟨_, rfl⟩
        have BE : Below wr.heap.size wr wE := by rw [hwE]; exact (Below.refl _ _).alloc (Nat.le_refl _) _
        have XE : Bk wE wr.heap.size 36 #[.int .i64 o.kind, .int .i64 o.block, .slice Ad o.data.length ca, .int .u64 (o.keep : Int), .int .i64 o.tear, .int .i64 o.sectors] := by rw [hwE]; exact Bk.new wr _ _
        obtain ⟨wF, hwF⟩ : ∃ wF, wF = wE.alloc (.cells #[] 5) := ⟨_, rfl⟩
        have BF : Below wr.heap.size wr wF := by rw [hwF]; exact BE.alloc BE.size _
        have XF : Bk wF wr.heap.size 36 #[.int .i64 o.kind, .int .i64 o.block, .slice Ad o.data.length ca, .int .u64 (o.keep : Int), .int .i64 o.tear, .int .i64 o.sectors] := by rw [hwF]; exact XE.alloc _
        obtain ⟨Dk, hDk⟩ : ∃ Dk, Dk = (plS t D0 os k).1 := ⟨_, rfl⟩
        rw [← hDk] at hbk hrf hX
        have XD := hbk.bel BF
        have e0 := XF.cell 0
        have e1 := XF.cell 1
        have e2 := XF.cell 2
        have e3 := XF.cell 3
        have e4 := XF.cell 4
        have e5 := XF.cell 5
        have d0 := XD.cell 0
        have d1 := XD.cell 1
        have d2 := XD.cell 2
        simp only [List.getElem?_toArray, List.getElem?_cons_zero, List.getElem?_cons_succ] at e0 e1 e2 e3 e4 e5 d0 d1 d2
        have CD := rdo_any (fun g => g ≠ gD) Ab Aw t cb cw Dk o Ad ca wF (hrf.bel BF) (fun g hg e => by have := BF.size; omega) (hsd.bel BF) hkp
        rw [← hX] at CD
        unfold RfV OpM.cells at CD
        obtain ⟨mk, hmk⟩ : ∃ mk, mk = Dk.wts.length := ⟨_, rfl⟩
        obtain ⟨lk, hlk⟩ : ∃ lk, lk = refL Dk := ⟨_, rfl⟩
        rw [← hmk, ← hlk] at CD
        rw [← hmk] at d1
        rw [← hlk] at d2
        have CD := Lib.hid CD
        have HXD := Lib.hid XD
        have HBF := Lib.hid (below_step hb BF)
        have HWE := Lib.hid hwE
        have HWF := Lib.hid hwF
        have HRL := Lib.hid hrl
        clear hra hsd hca hkp hs1 hs2 l1 l2 hgr hrows hv1 hsr hek cgr cge hb hbk hrf hX hDk hmk hlk hwE hwF XE XF XD BE BF ho hgo hvl hrl hB3r
        go_upto_region 14 with fail
        rw [← HWE.out]
        go_upto_region 15 with fail
        rw [← HWF.out]
        go_wp2_with fail
        refine CD.out.mono ?_
        rintro e w8 ⟨Ab', cb', Aw', cw', Ar2, cr2, rfl, hrf', hsr2, hb8⟩
        unfold RfV
        obtain ⟨m8, hm8⟩ : ∃ m8, m8 = X.1.wts.length := ⟨_, rfl⟩
        obtain ⟨l8, hl8⟩ : ∃ l8, l8 = refL X.1 := ⟨_, rfl⟩
        rw [← hm8, ← hl8]
        have X8 := HXD.out.bel hb8
        have HB8 := Lib.hid (below_step HBF.out hb8)
        have g0 := X8.cell 0
        have g1 := X8.cell 1
        have g2 := X8.cell 2
        simp only [List.getElem?_toArray, List.getElem?_cons_zero, List.getElem?_cons_succ] at g0 g1 g2
        have fg0 := X8.frozen 0
        have fg1 := X8.frozen 1
        have fg2 := X8.frozen 2
        obtain ⟨w9, hw9⟩ : ∃ w9, w9 = ((w8.setCell ⟨gD, 0, none⟩ (.slice Ab' t cb')).setCell ⟨gD, 1, none⟩ (.slice Aw' m8 cw')).setCell ⟨gD, 2, none⟩ (.int .i64 l8) := ⟨_, rfl⟩
        have X9 : Bk w9 gD 32 #[.slice Ab' t cb', .slice Aw' m8 cw', .int .i64 l8] := by rw [hw9]; exact ((X8.put 0 _).put 1 _).put 2 _
        have hgw : w4.heap.size ≤ gD := by rw [HGD.out]; exact Nat.le_refl _
        have B9 : Below w4.heap.size w4 w9 := by rw [hw9]; exact ((HB8.out.setCell (p := ⟨gD, 0, none⟩) hgw _).setCell (p := ⟨gD, 1, none⟩) hgw _).setCell (p := ⟨gD, 2, none⟩) hgw _
        have hnot : ¬ (fun g => g ≠ gD) gD := fun h => h rfl
        have R9 : RfD (fun g => g ≠ gD) w9 Ab' Aw' X.1 t := by
          rw [hw9]
          exact ⟨((hrf'.rs.set (i := 0) (u := .slice Ab' t cb') hnot).set (i := 1) (u := .slice Aw' m8 cw') hnot).set (i := 2) (u := .int .i64 l8) hnot, ((hrf'.wt.set (i := 0) (u := .slice Ab' t cb') hnot).set (i := 1) (u := .slice Aw' m8 cw') hnot).set (i := 2) (u := .int .i64 l8) hnot, hrf'.ok⟩
        have hsr9 : Seg w9 Ar2 (u8s X.2.1) := by
          rw [hw9]
          exact ((hsr2.offD X8 (no3 (nos _ _ _) (nos _ _ _) (noi _)) 0 (.slice Ab' t cb')).offD (X8.put 0 (.slice Ab' t cb')) (no3 (nos _ _ _) (nos _ _ _) (noi _)) 1 (.slice Aw' m8 cw')).offD ((X8.put 0 (.slice Ab' t cb')).put 1 (.slice Aw' m8 cw')) (no3 (nos _ _ _) (nos _ _ _) (noi _)) 2 (.int .i64 l8)
        have hB39 := Below.trans HB34.out (B9.mono HB34.out.size)
        have kgr := (hB39.cell (p := ⟨gr, k, none⟩) HGRL.out).trans HCGR.out
        have CE := same_u8 Ar Ar2 X.2.1.length X.2.1.length cr cr2 X.2.1 X.2.1 rfl rfl w9 (HSR.out.bel hB39) hsr9 (by have := HRL.out; omega) (by have := HRL.out; omega)
        rw [decide_eq_true rfl] at CE
        have CE := Lib.hid CE
        have HW9 := Lib.hid hw9
        have HX9 := Lib.hid X9
        have HB9 := Lib.hid B9
        have HR9 := Lib.hid R9
        have HM8 := Lib.hid hm8
        have HL8 := Lib.hid hl8
        have HB39 := Lib.hid hB39
        clear hrf' hsr2 hb8 X8 hw9 X9 B9 R9 hsr9 hB39 hm8 hl8 CD hgw hnot
        go_upto_region 16 with fail
        rw [← HW9.out]
        clear g0 g1 g2 fg0 fg1 fg2 c0 c1 c2' c3 c4' c5 e0 e1 e2 e3 e4 e5 d0 d1 d2
        go_wp2_with fail
        refine CE.out.mono ?_
        rintro e w10 ⟨rfl, hb10⟩
        have kge := ((HB39.out.trans (hb10.mono HB39.out.size)).cell (p := ⟨ge, k, none⟩) HGEL.out).trans HCGE.out
        have hee : ((X.2.2 : Int) != X.2.2) = false := by simp
        have HPR := Lib.hid (show PyR w4 w10 gD t D0 os (k + 1) from ⟨below_step HB9.out hb10, Ab', cb', Aw', cw', by
          rw [HSU.out, ← HM8.out, ← HL8.out]; exact HX9.out.bel hb10, by rw [HSU.out]; exact HR9.out.bel hb10⟩)
        clear hb10 kgr CE
        go_wp2_with fail
        exact ⟨⟨k + 1, by omega, by go_num, HPR.out⟩, by simp [intOf]; omega⟩
      · obtain rfl : nn = k := by omega
        have hkk : ¬ (nn : Int) < (nn : Int) := by omega
        have d0 := hbk.cell 0
        have d1 := hbk.cell 1
        have d2 := hbk.cell 2
        simp only [List.getElem?_toArray, List.getElem?_cons_zero, List.getElem?_cons_succ] at d0 d1 d2
        have CI := Lib.hid (rimg_any (fun g => g ≠ gD) Ab t cb (.slice Aw (plS t D0 os nn).1.wts.length cw) (refL (plS t D0 os nn).1) (rowsN (plS t D0 os nn).1.img t) wr (by rw [rowsN_length]) (by omega) hrf.rs (rows256 hrf.ok) Aw (plS t D0 os nn).1.wts.length cw rfl)
        have HFL := Lib.hid (show (rowsN (plS t D0 os nn).1.img t).flatten = (plS t D0 os nn).1.img from rows_flat t _ hrf.ok.len)
        have HLN := Lib.hid (show t * 256 = (plS t D0 os nn).1.img.length from hrf.ok.len.symm)
        have HB := Lib.hid hb
        clear hbk hrf hb
        go_wp2_with fail
        refine CI.out.mono ?_
        rintro e w8 ⟨A8, c8, rfl, hs8, hb8⟩
        rw [HFL.out] at hs8
        have HB8 := Lib.hid (below_step HB.out hb8)
        have hB38 := Below.trans HB34.out (HB8.out.mono HB34.out.size)
        have CE := same_u8 Ai A8 (t * 256) (t * 256) ci c8 _ _ HLN.out HLN.out w8 (HSI.out.bel hB38) hs8 (by omega) (by omega)
        rw [decide_eq_true rfl] at CE
        have CE := Lib.hid CE
        clear hs8 hb8 hB38 CI d0 d1 d2
        go_wp2_with fail
        refine CE.out.mono ?_
        rintro e w9 ⟨rfl, hb9⟩
        have HBE := Lib.hid (HB4.out.trans ((below_step HB8.out hb9).mono HB4.out.size))
        clear hb9
        go_wp2_with fail
        go_ret
        exact ⟨rfl, HBE.out⟩
  · go_enter Try.func3, Try.ntmps3
    go_upto_region 3 with fail
    rw [show (Value.int IntKind.i64 40) = Value.int IntKind.i64 ((t : Nat) : Int) by rw [h3]; rfl]
    clear h1 h2 h3
    have CF1 := Lib.hid (few_any (w := w) A c ops n HN.out HO.out)
    go_wp2_with fail
    refine CF1.out.mono ?_
    rintro e w1 ⟨A1, c1, rfl, hc1, hI1, hb1⟩
    obtain ⟨os, hos⟩ : ∃ os, os = ops.take 200 := ⟨_, rfl⟩
    rw [← hos] at hc1 hI1 ⊢
    have hol : os.length ≤ 200 := by rw [hos, List.length_take]; omega
    have hot : os.take 200 = os := List.take_of_length_le hol
    obtain ⟨nn, hnn⟩ : ∃ nn, nn = os.length := ⟨_, rfl⟩
    rw [← hnn] at hc1 hI1 ⊢
    have hn200 : nn ≤ 200 := by rw [hnn]; exact hol
    have hI1a := hI1
    have HOA := Lib.hid hI1a.at
    have HB1 := Lib.hid hb1
    have HNN := Lib.hid hnn
    have CF2 := few_any (w := w1) A1 c1 os nn hnn HOA.out
    rw [hot] at CF2
    have CF2 := Lib.hid CF2
    clear hos hol hot hI1 hI1a hb1 hnn CF1
    go_wp2_with fail
    refine CF2.out.mono ?_
    rintro e w2 ⟨A2, c2, rfl, hc2, hI2, hb2⟩
    rw [← HNN.out] at hc2 hI2 ⊢
    have HB2 := Lib.hid (below_step HB1.out hb2)
    have HO2 := Lib.hid (HOA.out.bel hb2)
    have CP := Lib.hid (play_ok (w := w2) t ht1 (by omega) arm harm A2 c2 os nn HNN.out (by omega) hc2 hI2.at)
    obtain ⟨D0, hD0⟩ : ∃ D0, D0 = (DM.new t).armed arm := ⟨_, rfl⟩
    rw [← hD0] at CP
    have HD0 := Lib.hid hD0
    clear hI2 hb2 CF2 hD0 HOA
    go_wp2_with fail
    refine CP.out.mono ?_
    rintro e w3 ⟨S, bd, br, be, gr, ge, p, Ai, ci, rfl, hP, hSi, _, _⟩
    have HP := Lib.hid hP
    have HSI := Lib.hid hSi
    have HB3 := Lib.hid (below_step HB2.out hP.bel)
    have HO3 := Lib.hid (HO2.out.bel hP.bel)
    have CN := Lib.hid (new3_any NT t (by omega) w3 (fun _ _ => trivial))
    have hT1 : ¬ (t : Int) < 1 := by omega
    have hT2 : ¬ (2048 : Int) < (t : Int) := by omega
    clear hP hSi CP HO2
    go_wp2_with fail
    refine CN.out.mono ?_
    rintro e w4 ⟨A4, c4, rfl, hR4, hb4⟩
    have HB4 := Lib.hid (below_step HB3.out hb4)
    have HO4 := Lib.hid (HO3.out.bel hb4)
    have HB34 := Lib.hid hb4
    have HR4 := Lib.hid hR4.low
    clear hR4 hb4 CN HO3
    obtain ⟨w5, hw5⟩ : ∃ w5, w5 = w4.alloc (.cells #[.slice A4 t c4, .slice none 0 0, .int .i64 (-1)] 32) := ⟨_, rfl⟩
    have X5 : Bk w5 w4.heap.size 32 #[.slice A4 t c4, .slice none 0 0, .int .i64 (-1)] := by rw [hw5]; exact Bk.new w4 _ _
    have B45 : Below w4.heap.size w4 w5 := by rw [hw5]; exact (Below.refl _ _).alloc (Nat.le_refl _) _
    have v2 := X5.cell 2
    have fv2 := X5.frozen 2
    simp only [List.getElem?_toArray, List.getElem?_cons_zero, List.getElem?_cons_succ] at v2
    have HX5 := Lib.hid X5
    have HB45 := Lib.hid B45
    have HW5 := Lib.hid hw5
    clear X5 B45 hw5
    go_upto_region 8 with fail
    rw [← HW5.out]
    have hlf : (if arm < -1 then -1 else arm) = refL D0 := by rw [HD0.out, ← ref_armed arm t]; omega
    obtain ⟨w6, hw6⟩ : ∃ w6, w6 = w5.setCell ⟨w4.heap.size, 2, none⟩ (.int .i64 (if arm < -1 then -1 else arm)) := ⟨_, rfl⟩
    have X6 : Bk w6 w4.heap.size 32 #[.slice A4 t c4, .slice none 0 0, .int .i64 (refL D0)] := by rw [hw6, ← hlf]; exact HX5.out.put 2 _
    have HB6 := Lib.hid (show Below w4.heap.size w4 w6 by rw [hw6]; exact HB45.out.setCell (Nat.le_refl _) _)
    have HW6 := Lib.hid hw6
    have HX6 := Lib.hid X6
    clear X6 hw6 hlf HX5 HB45
    go_upto_region 9 with fail
    rw [← HW6.out]
    clear v2 fv2 HW6
    generalize (if arm < -1 then (-1 : Int) else arm) = mx at *
    have CA := Lib.hid (dawake_any (w := w6))
    have hnn1 : ((nn : Int) != (nn : Int)) = false := by simp
    go_wp2_with fail
    refine CA.out.mono ?_
    rintro e w7 ⟨rfl, hb7⟩
    obtain ⟨gD, hgD⟩ : ∃ gD, gD = w4.heap.size := ⟨_, rfl⟩
    have HGD := Lib.hid hgD
    have HLP := Lib.hid (show PyR w4 w7 gD t D0 os 0 from ⟨below_step HB6.out hb7, A4, c4, none, 0, by
      have h := HX6.out.bel hb7
      rw [hgD, show (plS t D0 os 0).1.wts.length = 0 by rw [HD0.out]; rfl]; exact h, by
      refine ⟨?_, ⟨fun k hk => by rw [show (plS t D0 os 0).1.wts = [] by rw [HD0.out]; rfl] at hk; simp at hk⟩, by rw [HD0.out]; exact (DM.Ok.new t ht1 (by omega)).armed arm harm⟩
      rw [show rowsN (plS t D0 os 0).1.img t = List.replicate t zer by rw [HD0.out]; exact (rows_new t arm).symm]
      exact (HR4.out.bel (below_step HB6.out hb7)).mono (fun g hg e => by have := hg.2; omega)⟩)
    rw [← hgD]
    clear hb7 CA hgD HX6 HB6 HW5
    go_wp2_with fail
    go_loopw [77] (fun i wr => ∃ k : Nat, k ≤ nn ∧ i = .int .i64 k ∧ PyR w4 wr gD t D0 os k) (fun i _ => nn - (intOf i).toNat)
    case atStart => exact ⟨0, by omega, rfl, HLP.out⟩
    case round =>
      obtain ⟨k, hk, rfl, hR⟩ := hrel
      obtain ⟨hb, Ab, cb, Aw, cw, hbk, hrf⟩ := hR
      have hgl : gD < wr.heap.size := hbk.lt
      by_cases hkn : k < nn
      · have hkl : k < os.length := by rw [← HNN.out]; exact hkn
        have hkI : (k : Int) < (nn : Int) := by omega
        have hk0 : (0 : Int) ≤ (k : Int) := by omega
        obtain ⟨b1, off, Ad, ca, rfl, hra, hsd, hca, _, hkp, _⟩ := (HO4.out.bel hb) k hkl
        obtain ⟨o, ho⟩ : ∃ o, o = os[k] := ⟨_, rfl⟩
        rw [← ho] at hra hsd hca hkp
        have hgo : os.getD k ⟨0, 0, [], 0, 0, 0⟩ = o := by rw [List.getD_eq_getElem?_getD, List.getElem?_eq_getElem hkl, ho]; rfl
        obtain ⟨hs1, hs2⟩ := plS_at t D0 os nn k hkn
        rw [hgo] at hs1 hs2
        have HSU := Lib.hid (show (plS t D0 os (k + 1)).1 = (plStep t (plS t D0 os k).1 o).1 by show (plStep t _ (os.getD k _)).1 = _; rw [hgo])
        obtain ⟨X, hX⟩ : ∃ X, X = plStep t (plS t D0 os k).1 o := ⟨_, rfl⟩
        rw [← hX] at hs1 hs2 HSU
        have hrl : X.2.1.length ≤ 256 := by rw [hX]; exact plStep_short hrf.ok o
        obtain ⟨l1, l2⟩ := plS_len t D0 os nn
        -- what the program read, its error
        obtain ⟨vs, hvl, hgr, hrows⟩ := HP.out.rows
        obtain ⟨v, hv1, hv2⟩ := hrows k (by omega)
        have hek : (plS t D0 os nn).2.1[k]'(by omega) = X.2.1 := by rw [List.getElem?_eq_getElem (by omega)] at hs1; exact Option.some.inj hs1
        rw [hek] at hv2
        obtain ⟨Ar, cr, rfl, _, hsr, _⟩ := hv2
        have cgr : w3.cell? ⟨gr, k, none⟩ = some (.slice Ar X.2.1.length cr) := by
          rw [hgr.cell k]
          rw [List.getElem?_toArray, List.getElem?_append_left (by omega)]; exact hv1
        have cge : w3.cell? ⟨ge, k, none⟩ = some (.int .i64 X.2.2) := by
          rw [HP.out.errs.cell k, List.getElem?_toArray, List.getElem?_append_left (by rw [List.length_map]; omega), List.getElem?_map, hs2]; rfl
        have hB3r := below_step HB34.out hb
        have HCGR := Lib.hid cgr
        have HCGE := Lib.hid cge
        have HGRL := Lib.hid hgr.lt
        have HGEL := Lib.hid HP.out.errs.lt
        have HSR := Lib.hid hsr
        have c0 : wr.cell? ⟨b1, off + k * 6, none⟩ = some (.int .i64 o.kind) := hra 0 _ rfl
        have c1 : wr.cell? ⟨b1, off + k * 6 + 1, none⟩ = some (.int .i64 o.block) := hra 1 _ rfl
        have c2' : wr.cell? ⟨b1, off + k * 6 + 2, none⟩ = some (.slice Ad o.data.length ca) := hra 2 _ rfl
        have c3 : wr.cell? ⟨b1, off + k * 6 + 3, none⟩ = some (.int .u64 (o.keep : Int)) := hra 3 _ rfl
        have c4' : wr.cell? ⟨b1, off + k * 6 + 4, none⟩ = some (.int .i64 o.tear) := hra 4 _ rfl
        have c5 : wr.cell? ⟨b1, off + k * 6 + 5, none⟩ = some (.int .i64 o.sectors) := hra 5 _ rfl
        obtain ⟨wE, hwE⟩ : ∃ wE, wE = wr.alloc (.cells #[.int .i64 o.kind, .int .i64 o.block, .slice Ad o.data.length ca, .int .u64 (o.keep : Int), .int .i64 o.tear, .int .i64 o.sectors] 36) := ⟨_, rfl⟩
        have BE : Below wr.heap.size wr wE := by rw [hwE]; exact (Below.refl _ _).alloc (Nat.le_refl _) _
        have XE : Bk wE wr.heap.size 36 #[.int .i64 o.kind, .int .i64 o.block, .slice Ad o.data.length ca, .int .u64 (o.keep : Int), .int .i64 o.tear, .int .i64 o.sectors] := by rw [hwE]; exact Bk.new wr _ _
        obtain ⟨wF, hwF⟩ : ∃ wF, wF = wE.alloc (.cells #[] 5) := ⟨_, rfl⟩
        have BF : Below wr.heap.size wr wF := by rw [hwF]; exact BE.alloc BE.size _
        have XF : Bk wF wr.heap.size 36 #[.int .i64 o.kind, .int .i64 o.block, .slice Ad o.data.length ca, .int .u64 (o.keep : Int), .int .i64 o.tear, .int .i64 o.sectors] := by rw [hwF]; exact XE.alloc _
        obtain ⟨Dk, hDk⟩ : ∃ Dk, Dk = (plS t D0 os k).1 := ⟨_, rfl⟩
        rw [← hDk] at hbk hrf hX
        have XD := hbk.bel BF
        have e0 := XF.cell 0
        have e1 := XF.cell 1
        have e2 := XF.cell 2
        have e3 := XF.cell 3
        have e4 := XF.cell 4
        have e5 := XF.cell 5
        have d0 := XD.cell 0
        have d1 := XD.cell 1
        have d2 := XD.cell 2
        simp only [List.getElem?_toArray, List.getElem?_cons_zero, List.getElem?_cons_succ] at e0 e1 e2 e3 e4 e5 d0 d1 d2
        have CD := rdo_any (fun g => g ≠ gD) Ab Aw t cb cw Dk o Ad ca wF (hrf.bel BF) (fun g hg e => by have := BF.size; omega) (hsd.bel BF) hkp
        rw [← hX] at CD
        unfold RfV OpM.cells at CD
        obtain ⟨mk, hmk⟩ : ∃ mk, mk = Dk.wts.length := ⟨_, rfl⟩
        obtain ⟨lk, hlk⟩ : ∃ lk, lk = refL Dk := ⟨_, rfl⟩
        rw [← hmk, ← hlk] at CD
        rw [← hmk] at d1
        rw [← hlk] at d2
        have CD := Lib.hid CD
        have HXD := Lib.hid XD
        have HBF := Lib.hid (below_step hb BF)
        have HWE := Lib.hid hwE
        have HWF := Lib.hid hwF
        have HRL := Lib.hid hrl
        clear hra hsd hca hkp hs1 hs2 l1 l2 hgr hrows hv1 hsr hek cgr cge hb hbk hrf hX hDk hmk hlk hwE hwF XE XF XD BE BF ho hgo hvl hrl hB3r
        go_upto_region 14 with fail
        rw [← HWE.out]
        go_upto_region 15 with fail
        rw [← HWF.out]
        go_wp2_with fail
        refine CD.out.mono ?_
        rintro e w8 ⟨Ab', cb', Aw', cw', Ar2, cr2, rfl, hrf', hsr2, hb8⟩
        unfold RfV
        obtain ⟨m8, hm8⟩ : ∃ m8, m8 = X.1.wts.length := ⟨_, rfl⟩
        obtain ⟨l8, hl8⟩ : ∃ l8, l8 = refL X.1 := ⟨_, rfl⟩
        rw [← hm8, ← hl8]
        have X8 := HXD.out.bel hb8
        have HB8 := Lib.hid (below_step HBF.out hb8)
        have g0 := X8.cell 0
        have g1 := X8.cell 1
        have g2 := X8.cell 2
        simp only [List.getElem?_toArray, List.getElem?_cons_zero, List.getElem?_cons_succ] at g0 g1 g2
        have fg0 := X8.frozen 0
        have fg1 := X8.frozen 1
        have fg2 := X8.frozen 2
        obtain ⟨w9, hw9⟩ : ∃ w9, w9 = ((w8.setCell ⟨gD, 0, none⟩ (.slice Ab' t cb')).setCell ⟨gD, 1, none⟩ (.slice Aw' m8 cw')).setCell ⟨gD, 2, none⟩ (.int .i64 l8) := ⟨_, rfl⟩
        have X9 : Bk w9 gD 32 #[.slice Ab' t cb', .slice Aw' m8 cw', .int .i64 l8] := by rw [hw9]; exact ((X8.put 0 _).put 1 _).put 2 _
        have hgw : w4.heap.size ≤ gD := by rw [HGD.out]; exact Nat.le_refl _
        have B9 : Below w4.heap.size w4 w9 := by rw [hw9]; exact ((HB8.out.setCell (p := ⟨gD, 0, none⟩) hgw _).setCell (p := ⟨gD, 1, none⟩) hgw _).setCell (p := ⟨gD, 2, none⟩) hgw _
        have hnot : ¬ (fun g => g ≠ gD) gD := fun h => h rfl
        have R9 : RfD (fun g => g ≠ gD) w9 Ab' Aw' X.1 t := by
          rw [hw9]
          exact ⟨((hrf'.rs.set (i := 0) (u := .slice Ab' t cb') hnot).set (i := 1) (u := .slice Aw' m8 cw') hnot).set (i := 2) (u := .int .i64 l8) hnot, ((hrf'.wt.set (i := 0) (u := .slice Ab' t cb') hnot).set (i := 1) (u := .slice Aw' m8 cw') hnot).set (i := 2) (u := .int .i64 l8) hnot, hrf'.ok⟩
        have hsr9 : Seg w9 Ar2 (u8s X.2.1) := by
          rw [hw9]
          exact ((hsr2.offD X8 (no3 (nos _ _ _) (nos _ _ _) (noi _)) 0 (.slice Ab' t cb')).offD (X8.put 0 (.slice Ab' t cb')) (no3 (nos _ _ _) (nos _ _ _) (noi _)) 1 (.slice Aw' m8 cw')).offD ((X8.put 0 (.slice Ab' t cb')).put 1 (.slice Aw' m8 cw')) (no3 (nos _ _ _) (nos _ _ _) (noi _)) 2 (.int .i64 l8)
        have hB39 := Below.trans HB34.out (B9.mono HB34.out.size)
        have kgr := (hB39.cell (p := ⟨gr, k, none⟩) HGRL.out).trans HCGR.out
        have CE := same_u8 Ar Ar2 X.2.1.length X.2.1.length cr cr2 X.2.1 X.2.1 rfl rfl w9 (HSR.out.bel hB39) hsr9 (by have := HRL.out; omega) (by have := HRL.out; omega)
        rw [decide_eq_true rfl] at CE
        have CE := Lib.hid CE
        have HW9 := Lib.hid hw9
        have HX9 := Lib.hid X9
        have HB9 := Lib.hid B9
        have HR9 := Lib.hid R9
        have HM8 := Lib.hid hm8
        have HL8 := Lib.hid hl8
        have HB39 := Lib.hid hB39
        clear hrf' hsr2 hb8 X8 hw9 X9 B9 R9 hsr9 hB39 hm8 hl8 CD hgw hnot
        go_upto_region 16 with fail
        rw [← HW9.out]
        clear g0 g1 g2 fg0 fg1 fg2 c0 c1 c2' c3 c4' c5 e0 e1 e2 e3 e4 e5 d0 d1 d2
        go_wp2_with fail
        refine CE.out.mono ?_
        rintro e w10 ⟨rfl, hb10⟩
        have kge := ((HB39.out.trans (hb10.mono HB39.out.size)).cell (p := ⟨ge, k, none⟩) HGEL.out).trans HCGE.out
        have hee : ((X.2.2 : Int) != X.2.2) = false := by simp
        have HPR := Lib.hid (show PyR w4 w10 gD t D0 os (k + 1) from ⟨below_step HB9.out hb10, Ab', cb', Aw', cw', by
          rw [HSU.out, ← HM8.out, ← HL8.out]; exact HX9.out.bel hb10, by rw [HSU.out]; exact HR9.out.bel hb10⟩)
        clear hb10 kgr CE
        go_wp2_with fail
        exact ⟨⟨k + 1, by omega, by go_num, HPR.out⟩, by simp [intOf]; omega⟩
      · obtain rfl : nn = k := by omega
        have hkk : ¬ (nn : Int) < (nn : Int) := by omega
        have d0 := hbk.cell 0
        have d1 := hbk.cell 1
        have d2 := hbk.cell 2
        simp only [List.getElem?_toArray, List.getElem?_cons_zero, List.getElem?_cons_succ] at d0 d1 d2
        have CI := Lib.hid (rimg_any (fun g => g ≠ gD) Ab t cb (.slice Aw (plS t D0 os nn).1.wts.length cw) (refL (plS t D0 os nn).1) (rowsN (plS t D0 os nn).1.img t) wr (by rw [rowsN_length]) (by omega) hrf.rs (rows256 hrf.ok) Aw (plS t D0 os nn).1.wts.length cw rfl)
        have HFL := Lib.hid (show (rowsN (plS t D0 os nn).1.img t).flatten = (plS t D0 os nn).1.img from rows_flat t _ hrf.ok.len)
        have HLN := Lib.hid (show t * 256 = (plS t D0 os nn).1.img.length from hrf.ok.len.symm)
        have HB := Lib.hid hb
        clear hbk hrf hb
        go_wp2_with fail
        refine CI.out.mono ?_
        rintro e w8 ⟨A8, c8, rfl, hs8, hb8⟩
        rw [HFL.out] at hs8
        have HB8 := Lib.hid (below_step HB.out hb8)
        have hB38 := Below.trans HB34.out (HB8.out.mono HB34.out.size)
        have CE := same_u8 Ai A8 (t * 256) (t * 256) ci c8 _ _ HLN.out HLN.out w8 (HSI.out.bel hB38) hs8 (by omega) (by omega)
        rw [decide_eq_true rfl] at CE
        have CE := Lib.hid CE
        clear hs8 hb8 hB38 CI d0 d1 d2
        go_wp2_with fail
        refine CE.out.mono ?_
        rintro e w9 ⟨rfl, hb9⟩
        have HBE := Lib.hid (HB4.out.trans ((below_step HB8.out hb9).mono HB4.out.size))
        clear hb9
        go_wp2_with fail
        go_ret
        exact ⟨rfl, HBE.out⟩
set_option maxRecDepth 100000 in
set_option maxHeartbeats 4000000 in
theorem plays_no (T : Int) (hT : T < 1 ∨ 2048 < T) (arm : Int) (A : Option Addr) (c n : Nat) (ops : List OpM) (w : World) (hn : n = ops.length) (hO : OpsAt w A ops) :
    Calls Try.prog 3 #[.int .i64 T, .int .i64 arm, .slice A n c] w fun e w' => e = .returned (.bool true) ∧ Below w.heap.size w w' := by
  have CF1 := Lib.hid (few_any (w := w) A c ops n hn hO)
  have hP : ∀ (v : Value) (w : World), Calls Try.prog 14 #[.int .i64 T, .int .i64 arm, v] w fun e w' => e = .returned (.tuple #[.slice none 0 0, .slice none 0 0, .slice none 0 0]) ∧ Below w.heap.size w w' := fun v w => play_no (w := w) T (by omega) arm v
  have HP := Lib.hid hP
  clear hn hO hP
  rcases hT with h1 | h1
  · have h2 : ¬ 40 < T := by omega
    go_enter Try.func3, Try.ntmps3
    go_wp2_with fail
    refine CF1.out.mono ?_
    rintro e w1 ⟨A1, c1, rfl, _, hI1, hb1⟩
    have HB1 := Lib.hid hb1
    obtain ⟨os, hos⟩ : ∃ os, os = ops.take 200 := ⟨_, rfl⟩
    rw [← hos] at hI1 ⊢
    obtain ⟨n1, hn1⟩ : ∃ n1, n1 = os.length := ⟨_, rfl⟩
    rw [← hn1] at hI1 ⊢
    have CF2 := few_any (w := w1) A1 c1 os n1 hn1 hI1.at
    clear hI1 hb1 CF1 hos hn1
    have CF2 := Lib.hid CF2
    go_wp2_with fail
    refine CF2.out.mono ?_
    rintro e w2 ⟨A2, c2, rfl, _, _, hb2⟩
    have HB2 := Lib.hid (below_step HB1.out hb2)
    obtain ⟨n2, hn2⟩ : ∃ n2, n2 = (os.take 200).length := ⟨_, rfl⟩
    rw [← hn2]
    clear hb2 CF2 hn2
    have CP := Lib.hid (HP.out (.slice A2 n2 c2) w2)
    go_wp2_with fail
    refine CP.out.mono ?_
    rintro e w3 ⟨rfl, hb3⟩
    have HB3 := Lib.hid (below_step HB2.out hb3)
    have CA := Lib.hid (dawake_any (w := w3))
    clear hb3 CP
    go_wp2_with fail
    refine CA.out.mono ?_
    rintro e w4 ⟨rfl, hb4⟩
    have HB4 := Lib.hid (below_step HB3.out hb4)
    clear hb4
    go_wp2_with fail
    go_ret
    exact ⟨rfl, HB4.out⟩
  · have h2 : 40 < T := by omega
    have h3 : ¬ T ≤ 2048 := by omega
    have h4 : ¬ T < 1 := by omega
    go_enter Try.func3, Try.ntmps3
    go_wp2_with fail
    refine CF1.out.mono ?_
    rintro e w1 ⟨A1, c1, rfl, _, hI1, hb1⟩
    have HB1 := Lib.hid hb1
    obtain ⟨os, hos⟩ : ∃ os, os = ops.take 200 := ⟨_, rfl⟩
    rw [← hos] at hI1 ⊢
    obtain ⟨n1, hn1⟩ : ∃ n1, n1 = os.length := ⟨_, rfl⟩
    rw [← hn1] at hI1 ⊢
    have CF2 := few_any (w := w1) A1 c1 os n1 hn1 hI1.at
    clear hI1 hb1 CF1 hos hn1
    have CF2 := Lib.hid CF2
    go_wp2_with fail
    refine CF2.out.mono ?_
    rintro e w2 ⟨A2, c2, rfl, _, _, hb2⟩
    have HB2 := Lib.hid (below_step HB1.out hb2)
    obtain ⟨n2, hn2⟩ : ∃ n2, n2 = (os.take 200).length := ⟨_, rfl⟩
    rw [← hn2]
    clear hb2 CF2 hn2
    have CP := Lib.hid (HP.out (.slice A2 n2 c2) w2)
    go_wp2_with fail
    refine CP.out.mono ?_
    rintro e w3 ⟨rfl, hb3⟩
    have HB3 := Lib.hid (below_step HB2.out hb3)
    have CA := Lib.hid (dawake_any (w := w3))
    clear hb3 CP
    go_wp2_with fail
    refine CA.out.mono ?_
    rintro e w4 ⟨rfl, hb4⟩
    have HB4 := Lib.hid (below_step HB3.out hb4)
    clear hb4
    go_wp2_with fail
    go_ret
    exact ⟨rfl, HB4.out⟩
theorem plays_any (T arm : Int) (harm : arm < 9223372036854775808) (A : Option Addr) (c n : Nat) (ops : List OpM) (w : World) (hn : n = ops.length) (hO : OpsAt w A ops) :
    Calls Try.prog 3 #[.int .i64 T, .int .i64 arm, .slice A n c] w fun e w' => e = .returned (.bool true) ∧ Below w.heap.size w w' := by
  by_cases h1 : 1 ≤ T ∧ T ≤ 40
  · exact plays_main T T.toNat (.inl ⟨by omega, by omega⟩) (by omega) arm harm A c n ops w hn hO
  · by_cases h2 : 1 ≤ T ∧ T ≤ 2048
    · exact plays_main T 40 (.inr ⟨by omega, h2.2, rfl⟩) (by omega) arm harm A c n ops w hn hO
    · exact plays_no T (by omega) arm A c n ops w hn hO
end Go.Proofs.Ytmgbmnbjionapaa
