/- The reference's Do: what a block reads as. Condition: its disk lies in memory. -/
import Derived.Test.YtmgbmnbjionapaaDpD
namespace Go.Proofs.Ytmgbmnbjionapaa
open Go.RowKit

/-- What block n reads as, by the first k waiting writes. -/
def rdK (im : List Nat) (wts : List (Nat × List Nat)) (n : Nat) : Nat → List Nat
  | 0 => blkN im n
  | k + 1 => if (wts.getD k (0, [])).1 = n then (wts.getD k (0, [])).2 else rdK im wts n k
theorem rdK_last (im : List Nat) (wts : List (Nat × List Nat)) (n : Nat) : ∀ k, rdK im wts n k = (match lastW wts n k with | some j => (wts.getD j (0, [])).2 | none => (im.drop (n * 256)).take 256)
  | 0 => rfl
  | k + 1 => by
    unfold rdK lastW
    by_cases h : (wts.getD k (0, [])).1 = n
    · rw [if_pos h, if_pos h]
    · rw [if_neg h, if_neg h, rdK_last im wts n k]
theorem rdK_all (D : DM) (n : Nat) : rdK D.img D.wts n D.wts.length = D.rd n := by
  rw [rdK_last]; rfl
theorem rdK_256 {D : DM} {T : Nat} (h : D.Ok T) (n : Nat) (hn : n < T) : ∀ k, k ≤ D.wts.length → (rdK D.img D.wts n k).length = 256
  | 0, _ => by
    have := Nat.mul_le_mul_right 256 (show n + 1 ≤ T by omega)
    show (blkN D.img n).length = 256
    unfold blkN
    rw [List.length_take, List.length_drop, h.len]; omega
  | k + 1, hk => by
    unfold rdK
    split
    · refine h.full _ ?_
      rw [List.getD_eq_getElem?_getD, List.getElem?_eq_getElem (by omega)]
      exact List.getElem_mem _
    · exact rdK_256 h n hn k (by omega)
structure RrG (w0 : World) (C2 : Array Value) (w : World) : Prop where
  bel : Below w0.heap.size w0 w
  b2 : Bk w w0.heap.size 32 C2
theorem RrG.next {w0 w w' : World} {C2 : Array Value} (h : RrG w0 C2 w) (hb : Below w.heap.size w w') : RrG w0 C2 w' := ⟨below_step h.bel hb, h.b2.bel hb⟩
def rrF (B g4 : Nat) (a b c Vx : Value) (L : List Nat) (j : Nat) (v _u : Value) (w : World) : Prop := match j with
  | 0 => v = .agg #[a, b, c]
  | 1 => ∃ ge, v = .slice (some ⟨ge, 0, none⟩) 0 0 ∧ B ≤ ge ∧ Bk w ge 5 #[] ∧ ge ≠ g4
  | 2 => v = Vx
  | 3 => ∃ A' c', v = .slice A' 256 c' ∧ w.ownsRow B 5 1 (.slice A' 256 c') 256 (u8s L)
  | 4 => Bk w g4 32 #[a, b, c]
  | 5 => ∃ A' c', v = .slice A' 256 c' ∧ w.ownsRow B 5 1 (.slice A' 256 c') 256 (u8s L)
  | 6 => v = .int .i64 0
  | _ => True
def rrH (g4 : Nat) (m : Nat) (w : World) : Prop := match m with
  | 4 => Bk w g4 32 ResC
  | _ => True
theorem rrF_bel {B g4 : Nat} {a b c Vx : Value} {L : List Nat} {w w' : World} (hb : Below w.heap.size w w') : ∀ j u u', rrF B g4 a b c Vx L j u u' w → rrF B g4 a b c Vx L j u u' w' := by
  intro j u u' h
  unfold rrF at *
  split at h <;> first | exact h | exact Bk.bel h hb | skip
  · obtain ⟨ge, hv, h1, h2, h3⟩ := h
    exact ⟨ge, hv, h1, h2.bel hb, h3⟩
  · obtain ⟨A', c', hv, h1⟩ := h
    exact ⟨A', c', hv, own_belS h1 hb⟩
  · obtain ⟨A', c', hv, h1⟩ := h
    exact ⟨A', c', hv, own_belS h1 hb⟩
theorem rrH_bel {g4 : Nat} {w w' : World} (hb : Below w.heap.size w w') : ∀ m, rrH g4 m w → rrH g4 m w' := by
  intro m h
  unfold rrH at *
  split at h <;> first | exact h | exact Bk.bel h hb
theorem rrF_set {B g4 i : Nat} {a b c Vx u0 : Value} {L : List Nat} {w : World} {cs : Array Value} (hg : Bk w g4 32 cs) : ∀ j, j ≠ 4 → ∀ u u', rrF B g4 a b c Vx L j u u' w → rrF B g4 a b c Vx L j u u' (w.setCell ⟨g4, i, none⟩ u0) := by
  intro j h4 u u' h
  unfold rrF at *
  split at h <;> first | exact h | exact absurd rfl h4 | skip
  · obtain ⟨ge, hv, h1, h2, h3⟩ := h
    exact ⟨ge, hv, h1, h2.far h3 _, h3⟩
  · obtain ⟨A', c', hv, h1⟩ := h
    exact ⟨A', c', hv, ownsRow_setCell_other h1 (own_neV h1 hg (by decide)) _⟩
  · obtain ⟨A', c', hv, h1⟩ := h
    exact ⟨A', c', hv, ownsRow_setCell_other h1 (own_neV h1 hg (by decide)) _⟩
set_option maxRecDepth 100000 in
set_option maxHeartbeats 8000000 in
theorem rdo_read (N : Nat → Prop) (Ab Aw : Option Addr) (T cb cw : Nat) (D : DM) (o : OpM) (A : Option Addr) (c : Nat) (w : World) (h : RfD N w Ab Aw D T) (n : Nat) (hk : o.kind = 2) (hin : o.block = (n : Int)) (hnT : n < T) : Calls Try.prog 17 #[RfV Ab T cb Aw D.wts.length cw (refL D), .agg (o.cells A c)] w (RdPost N w T (D, D.rd n, 0)) := by
  have hk1 : (o.kind == 1) = false := by rw [hk]; rfl
  have hk2 : (o.kind == 2) = true := by rw [hk]; rfl
  have hk3 : (o.kind == 3) = false := by rw [hk]; rfl
  have hk4 : (o.kind == 4) = false := by rw [hk]; rfl
  have hg4 : w.heap.size ≤ w.heap.size + 1 + 1 := by omega
  obtain ⟨j0, hj0, hi0, hi1, hi2⟩ := info_parts info_u8
  have hb0 : 0 ≤ o.block := by omega
  have hbT : o.block < (T : Int) := by omega
  have HRD := Lib.hid (rdK_all D n)
  have HK256 := Lib.hid (fun k hk => rdK_256 h.ok n hnT k hk)
  have HIN := Lib.hid hin
  clear hk hin
  obtain ⟨lf, hlf⟩ : ∃ lf, lf = refL D := ⟨_, rfl⟩
  obtain ⟨m, hm⟩ : ∃ m, m = D.wts.length := ⟨_, rfl⟩
  obtain ⟨dl, hdl⟩ : ∃ dl, dl = o.data.length := ⟨_, rfl⟩
  have hT := h.ok.top
  have hT1 := h.ok.one
  have hfew : m ≤ 64 := by rw [hm]; exact h.ok.few
  obtain ⟨wA, hwA⟩ : ∃ wA, wA = w.alloc (.cells #[.slice Ab T cb, .slice Aw m cw, .int .i64 lf] 32) := ⟨_, rfl⟩
  have hsA : wA.heap.size = w.heap.size + 1 := by rw [hwA]; simp
  obtain ⟨wB, hwB⟩ : ∃ wB, wB = wA.alloc (.cells #[.int .i64 o.kind, .int .i64 o.block, .slice A dl c, .int .u64 (o.keep : Int), .int .i64 o.tear, .int .i64 o.sectors] 36) := ⟨_, rfl⟩
  have hsB : wB.heap.size = w.heap.size + 1 + 1 := by rw [hwB]; simp [hsA]
  obtain ⟨wC, hwC⟩ : ∃ wC, wC = wB.alloc (.cells ResC 32) := ⟨_, rfl⟩
  have hsC : wC.heap.size = w.heap.size + 1 + 1 + 1 := by rw [hwC]; simp [hsB]
  have X2 : Bk wC w.heap.size 32 #[.slice Ab T cb, .slice Aw m cw, .int .i64 lf] := by rw [hwC, hwB, hwA]; exact ((Bk.new w _ _).alloc _).alloc _
  have X3 : Bk wC (w.heap.size + 1) 36 #[.int .i64 o.kind, .int .i64 o.block, .slice A dl c, .int .u64 (o.keep : Int), .int .i64 o.tear, .int .i64 o.sectors] := by rw [hwC, hwB, ← hsA]; exact (Bk.new wA _ _).alloc _
  have X4 : Bk wC (w.heap.size + 1 + 1) 32 ResC := by rw [hwC, ← hsB]; exact Bk.new wB _ _
  have BC : Below w.heap.size w wC := by rw [hwC, hwB, hwA]; exact (((Below.refl _ _).alloc (Nat.le_refl _) _).alloc (by simp) _).alloc (by simp; omega) _
  have x0 := X2.cell 0
  have x1 := X2.cell 1
  have x2 := X2.cell 2
  have y0 := X3.cell 0
  have y1 := X3.cell 1
  have y2 := X3.cell 2
  have y3 := X3.cell 3
  have y4 := X3.cell 4
  have y5 := X3.cell 5
  have z0 := X4.cell 0
  have z1 := X4.cell 1
  have z2 := X4.cell 2
  simp only [ResC, List.getElem?_toArray, List.getElem?_cons_zero, List.getElem?_cons_succ] at x0 x1 x2 y0 y1 y2 y3 y4 y5 z0 z1 z2
  have f0 := X4.frozen 0
  have f1 := X4.frozen 1
  have f2 := X4.frozen 2
  have fx2 := X2.frozen 2
  have HX2 := Lib.hid X2
  have HX3 := Lib.hid X3
  have HX4 := Lib.hid X4
  have HBC := Lib.hid BC
  have HH := Lib.hid h
  have HLF := Lib.hid hlf
  have HM := Lib.hid hm
  have HDL := Lib.hid hdl
  have HSC := Lib.hid hsC
  have HWW := Lib.hid (show ((w.alloc (.cells #[.slice Ab T cb, .slice Aw m cw, .int .i64 lf] 32)).alloc (.cells #[.int .i64 o.kind, .int .i64 o.block, .slice A dl c, .int .u64 (o.keep : Int), .int .i64 o.tear, .int .i64 o.sectors] 36)).alloc (.cells #[.slice none 0 0, .slice none 0 0, .int .i64 0] 32) = wC by rw [hwC, hwB, hwA]; rfl)
  rw [← hlf, ← hm]
  unfold RfV OpM.cells
  rw [← hdl]
  clear hwA hwB hwC hsA hsB hsC X2 X3 X4 BC h hlf hm hdl
  go_enter Try.func17, Try.ntmps17
  go_upto_region 1 with fail
  rw [HWW.out]
  have HG4 := Lib.hid hg4
  have hn0 : (0 : Int) ≤ (n : Int) := by omega
  have hnTI : (n : Int) < (T : Int) := by omega
  rw [← HM.out] at HRD HK256
  obtain ⟨b1, off, Ad, ca, rfl, hb1, _, c0, hs0, _⟩ := HH.out.rs.at' n (by rw [rowsN_length]; exact hnT)
  have hr0 : (rowsN D.img T)[n]'(by rw [rowsN_length]; exact hnT) = blkN D.img n := by
    have h2 := rowsN_at D.img T n hnT
    rw [List.getElem?_eq_getElem (by rw [rowsN_length]; exact hnT)] at h2
    exact Option.some.inj h2
  rw [hr0] at c0 hs0
  have hb256 : (blkN D.img n).length = 256 := HK256.out 0 (Nat.zero_le _)
  rw [hb256] at c0
  have c0' := (HBC.out.cell (p := ⟨b1, off + n, none⟩) hb1).trans c0
  have hin := HIN.out
  rw [hin] at y1 hb0 hbT
  have HS0 := Lib.hid hs0.seg
  have HX3' := HX3
  rw [hin] at HX3'
  clear c0 hs0 hr0 hb256 hin HX3
  go_wp2_with fail
  go_loopw [8, 80] (fun v i wr => ∃ k : Nat, k ≤ m ∧ i = .int .i64 k ∧ (∃ Bx cx, v = .slice Bx 256 cx ∧ Seg w Bx (u8s (rdK D.img D.wts n k))) ∧ Below wC.heap.size wC wr) (fun _ i _ => m - (intOf i).toNat)
  case atStart => exact ⟨0, by omega, rfl, ⟨Ad, ca, rfl, HS0.out⟩, Below.refl _ _⟩
  case round =>
    obtain ⟨k, hk, rfl, ⟨Bx, cx, rfl, hsx⟩, hb⟩ := hrel
    by_cases hkm : k < m
    · have hkl : k < D.wts.length := by rw [← HM.out]; exact hkm
      have hkI : (k : Int) < (m : Int) := by omega
      have hk0 : (0 : Int) ≤ (k : Int) := by omega
      obtain ⟨b2, off2, Aw2, cw2, rfl, hb2, c0w, c1w, _, hsw⟩ := HH.out.wt.wt.at' k hkl
      have HB0 := Lib.hid (HBC.out.trans (hb.mono HBC.out.size))
      have c0 := (HB0.out.cell (p := ⟨b2, off2 + k * 2, none⟩) hb2).trans c0w
      have c1 := (HB0.out.cell (p := ⟨b2, off2 + k * 2 + 1, none⟩) hb2).trans c1w
      obtain ⟨mm, L2, hml⟩ : ∃ mm L2, D.wts[k] = (mm, L2) := ⟨_, _, rfl⟩
      have hgd : D.wts.getD k (0, []) = (mm, L2) := by rw [List.getD_eq_getElem?_getD, List.getElem?_eq_getElem hkl, hml]; rfl
      rw [hml] at c0 hsw
      have HSTEP := Lib.hid (show rdK D.img D.wts n (k + 1) = if mm = n then L2 else rdK D.img D.wts n k by
        show (if (D.wts.getD k (0, [])).1 = n then _ else _) = _
        rw [hgd])
      obtain ⟨wD, hwD⟩ : ∃ wD, wD = wr.alloc (.cells #[.int .i64 (mm : Int), .slice Aw2 256 cw2] 76) := ⟨_, rfl⟩
      have BD : Below wr.heap.size wr wD := by rw [hwD]; exact (Below.refl _ _).alloc (Nat.le_refl _) _
      have XD : Bk wD wr.heap.size 76 #[.int .i64 (mm : Int), .slice Aw2 256 cw2] := by rw [hwD]; exact Bk.new wr _ _
      have u0 := XD.cell 0
      have u1 := XD.cell 1
      simp only [List.getElem?_toArray, List.getElem?_cons_zero, List.getElem?_cons_succ] at u0 u1
      have HBD := Lib.hid (below_step hb BD)
      have y1' := (HX3'.out.bel HBD.out).cell 1
      simp only [List.getElem?_toArray, List.getElem?_cons_zero, List.getElem?_cons_succ] at y1'
      have HWD := Lib.hid hwD
      have HSX := Lib.hid hsx
      have HSW := Lib.hid (show Seg w Aw2 (u8s L2) from hsw)
      clear hwD BD XD hb hsx hsw c0w c1w hml hgd
      go_upto_region 21 with fail
      rw [← HWD.out]
      by_cases he : mm = n
      · have heb : ((mm : Int) == (n : Int)) = true := by rw [he]; simp
        have HN2 := Lib.hid (show rdK D.img D.wts n (k + 1) = L2 by rw [HSTEP.out, if_pos he])
        clear he
        go_wp2_with fail
        exact ⟨⟨k + 1, by omega, by go_num, ⟨Aw2, cw2, rfl, by rw [HN2.out]; exact HSW.out⟩, HBD.out⟩, by simp [intOf]; omega⟩
      · have heb : ((mm : Int) == (n : Int)) = false := by rw [beq_eq_false_iff_ne]; omega
        have HN2 := Lib.hid (show rdK D.img D.wts n (k + 1) = rdK D.img D.wts n k by rw [HSTEP.out, if_neg he])
        clear he
        go_wp2_with fail
        exact ⟨⟨k + 1, by omega, by go_num, ⟨Bx, cx, rfl, by rw [HN2.out]; exact HSX.out⟩, HBD.out⟩, by simp [intOf]; omega⟩
    · obtain rfl : m = k := by omega
      have hkk : ¬ (m : Int) < (m : Int) := by omega
      have hl256 := HK256.out m (Nat.le_refl _)
      rw [HRD.out] at hsx hl256
      obtain ⟨L, hLL⟩ : ∃ L, L = D.rd n := ⟨_, rfl⟩
      rw [← hLL] at hsx hl256
      have HL := Lib.hid hl256
      have HSL := Lib.hid hsx
      have HLL := Lib.hid hLL
      have G0 := Lib.hid (show RrG w #[.slice (some ⟨b1, off, none⟩) T cb, .slice Aw m cw, .int .i64 lf] wr.drew from ⟨(HBC.out.trans (hb.mono HBC.out.size)).drew, (HX2.out.bel hb).drew⟩)
      have H0 := Lib.hid (show ∀ m, m < 7 → rrH (w.heap.size + 1 + 1) m wr.drew from fun m _ => by
        unfold rrH
        split
        · exact (HX4.out.bel hb).drew
        · trivial)
      clear hsx hl256 hLL hb x0 x1 x2 y0 y1 y2 y3 y4 y5 z0 z1 z2 f0 f1 f2 fx2 c0'
      go_wp2_with fail
      refine wp_region_late [some 92, some 93, some 94, some 95, none, some 5, some 6] (fun _ => 0) (rrF w.heap.size (w.heap.size + 1 + 1) (.slice (some ⟨b1, off, none⟩) T cb) (.slice Aw m cw) (.int .i64 lf) (.slice Bx 256 cx) L) (RrG w #[.slice (some ⟨b1, off, none⟩) T cb, .slice Aw m cw, .int .i64 lf]) (rrH (w.heap.size + 1 + 1)) (by kernel_rfl) G0.out H0.out rfl (by kernel_rfl) (by kernel_rfl) (by kernel_rfl) (by kernel_rfl) (fun T hT => ?_)
      simp only [List.filterMap_cons, List.filterMap_nil, id, putsS, Act.put, List.setIfInBounds_toArray, List.set_cons_zero, List.set_cons_succ] at hT
      subst hT
      refine ⟨⟨?_, ?_, ?_, ?_, ?_, ?_, ?_, trivial⟩, ?_⟩
      · -- 0: Op.load 32 t2
        intro f w1 hG hO hL hF K hK
        clear hF hO hL
        dsimp only at hK ⊢
        have y0 := hG.b2.cell 0
        have y1 := hG.b2.cell 1
        have y2 := hG.b2.cell 2
        simp only [List.getElem?_toArray, List.getElem?_cons_zero, List.getElem?_cons_succ] at y0 y1 y2
        go_simp
        exact hK.out _ _ hG rfl (fun _ _ _ h => h) (fun _ _ h => h)
      · -- 1: Op.buildSlice 26 0 #[]
        intro f w1 hG hO hL hF K hK
        have l4 : (rrH (w.heap.size + 1 + 1)) 4 w1 := hL 4 (Nat.le_of_ble_eq_true (by kernel_rfl)) (by kernel_rfl)
        clear hF hO hL
        dsimp only at hK ⊢
        have hsz : w.heap.size + 1 + 1 < w1.heap.size := by
          have := hG.bel.size
          have h2 := HG4.out
          have h3 := (show Bk w1 (w.heap.size + 1 + 1) 32 ResC from l4).lt
          exact h3
        go_simp
        exact hK.out _ _ (hG.next ((Below.refl _ _).alloc (Nat.le_refl _) _)) ⟨w1.heap.size, rfl, hG.bel.size, Bk.new w1 _ _, (by omega)⟩ (fun j _ _ h => rrF_bel ((Below.refl _ _).alloc (Nat.le_refl _) _) j _ _ h) (fun m _ h => rrH_bel ((Below.refl _ _).alloc (Nat.le_refl _) _) m h)
      · -- 2: Op.move t8
        intro f w1 hG hO hL hF K hK
        clear hF hO hL
        dsimp only at hK ⊢
        go_simp
        exact hK.out _ _ hG rfl (fun _ _ _ h => h) (fun _ _ h => h)
      · -- 3: Op.call ( builtin append, args := #[t93, t94], argTypes := #[26, 26] )
        intro f w1 hG hO hL hF K hK
        have d1 : (rrF w.heap.size (w.heap.size + 1 + 1) (.slice (some ⟨b1, off, none⟩) T cb) (.slice Aw m cw) (.int .i64 lf) (.slice Bx 256 cx) L) 1 (f 93) (f 0) w1 := hF 1 (by kernel_rfl)
        have d2 : (rrF w.heap.size (w.heap.size + 1 + 1) (.slice (some ⟨b1, off, none⟩) T cb) (.slice Aw m cw) (.int .i64 lf) (.slice Bx 256 cx) L) 2 (f 94) (f 0) w1 := hF 2 (by kernel_rfl)
        clear hF hO hL
        dsimp only at hK ⊢
        generalize hf93 : f 93 = v93 at *
        generalize hf94 : f 94 = v94 at *
        have d2 : v94 = .slice Bx 256 cx := d2
        subst d2
        obtain ⟨ge, rfl, hge, hbk, hne4⟩ := d1
        obtain ⟨v', w2', hrun, hown, hbel⟩ := run_append_empty (P := Try.prog) w1 w.heap.size 26 26 5 j0 _ 1 Try.underlying26 hj0 hi0 hi1 hi2 rfl ge hge hbk Bx 256 cx (u8s L) (by rw [u8s_length]; exact HL.out.symm) (HSL.out.below (Nat.le_refl _) hG.bel) (u8s_one _) (by simp only [maxLen]; omega) (by omega)
        obtain ⟨A6, c6, rfl, _⟩ := own_shape hown
        refine Lib.wp_append_run w1 _ _ _ _ rfl _ _ rfl rfl _ w2' hrun (hK.out _ _ (hG.next hbel) ⟨A6, c6, rfl, hown⟩ (fun j _ _ h => rrF_bel hbel j _ _ h) (fun m _ h => rrH_bel hbel m h))
      · -- 4: Op.store 32 t4 t92
        intro f w1 hG hO hL hF K hK
        have l4 : (rrH (w.heap.size + 1 + 1)) 4 w1 := hL 4 (Nat.le_of_ble_eq_true (by kernel_rfl)) (by kernel_rfl)
        have d0 : (rrF w.heap.size (w.heap.size + 1 + 1) (.slice (some ⟨b1, off, none⟩) T cb) (.slice Aw m cw) (.int .i64 lf) (.slice Bx 256 cx) L) 0 (f 92) (f 0) w1 := hF 0 (by kernel_rfl)
        clear hF hO hL
        dsimp only at hK ⊢
        generalize hf92 : f 92 = v92 at *
        have d0 : v92 = .agg #[.slice (some ⟨b1, off, none⟩) T cb, .slice Aw m cw, .int .i64 lf] := d0
        subst d0
        have L4 := Lib.hid (show Bk w1 (w.heap.size + 1 + 1) 32 ResC from l4)
        have z0 := L4.out.cell 0
        have z1 := L4.out.cell 1
        have z2 := L4.out.cell 2
        simp only [ResC, List.getElem?_toArray, List.getElem?_cons_zero, List.getElem?_cons_succ] at z0 z1 z2
        have f0 := L4.out.frozen 0
        have f1 := L4.out.frozen 1
        have f2 := L4.out.frozen 2
        have HG := Lib.hid hG
        have B1 := L4.out.put 0 (.slice (some ⟨b1, off, none⟩) T cb)
        have B2 := B1.put 1 (.slice Aw m cw)
        have B3 := B2.put 2 (.int .i64 lf)
        have HB1 := Lib.hid B1
        have HB2 := Lib.hid B2
        have HB3 := Lib.hid B3
        have hg4' : w.heap.size ≠ w.heap.size + 1 + 1 := by omega
        clear l4 hG B1 B2 B3
        go_simp
        refine hK.out undef _ ⟨((HG.out.bel.setCell (p := ⟨w.heap.size + 1 + 1, 0, none⟩) hg4 _).setCell (p := ⟨w.heap.size + 1 + 1, 1, none⟩) hg4 _).setCell (p := ⟨w.heap.size + 1 + 1, 2, none⟩) hg4 _, ((HG.out.b2.far hg4' _).far hg4' _).far hg4' _⟩ HB3.out (fun j hj _ h => rrF_set HB2.out j hj _ _ (rrF_set HB1.out j hj _ _ (rrF_set L4.out j hj _ _ h))) ?_
        intro m2 hm2 h
        unfold rrH at *
        split at h
        · exact absurd rfl hm2
        · trivial
      · -- 5: Op.assign t95
        intro f w1 hG hO hL hF K hK
        have d3 : (rrF w.heap.size (w.heap.size + 1 + 1) (.slice (some ⟨b1, off, none⟩) T cb) (.slice Aw m cw) (.int .i64 lf) (.slice Bx 256 cx) L) 3 (f 95) (f 0) w1 := hF 3 (by kernel_rfl)
        clear hF hO hL
        dsimp only at hK ⊢
        generalize hf95 : f 95 = v95 at *
        obtain ⟨A6, c6, rfl, hown⟩ := d3
        go_simp
        exact hK.out _ _ hG ⟨A6, c6, rfl, hown⟩ (fun _ _ _ h => h) (fun _ _ h => h)
      · -- 6: Op.assign (const (0:i64))
        intro f w1 hG hO hL hF K hK
        clear hF hO hL
        dsimp only at hK ⊢
        go_simp
        exact hK.out _ _ hG rfl (fun _ _ _ h => h) (fun _ _ h => h)
      intro f w6 hG hF
      obtain ⟨A6, c6, e6, ho6⟩ : ∃ A' c', f 5 = .slice A' 256 c' ∧ w6.ownsRow w.heap.size 5 1 (.slice A' 256 c') 256 (u8s L) := hF 5 (by decide)
      have hb4 : Bk w6 (w.heap.size + 1 + 1) 32 #[.slice (some ⟨b1, off, none⟩) T cb, .slice Aw m cw, .int .i64 lf] := hF 4 (by decide)
      have e7 : f 6 = .int .i64 0 := hF 6 (by decide)
      have HG := Lib.hid hG
      clear hF hG
      dsimp only
      generalize f 92 = v92
      generalize f 93 = v93
      generalize f 94 = v94
      generalize f 95 = v95
      generalize f 5 = v5 at *
      generalize f 6 = v6 at *
      subst e6 e7
      have q0 := hb4.cell 0
      have q1 := hb4.cell 1
      have q2 := hb4.cell 2
      simp only [List.getElem?_toArray, List.getElem?_cons_zero, List.getElem?_cons_succ] at q0 q1 q2
      have HS6 := Lib.hid (Seg.of_own ho6)
      clear hb4 ho6
      go_wp2_with fail
      exact bodyPost_ret (v := .tuple #[.agg #[.slice (some ⟨b1, off, none⟩) T cb, .slice Aw m cw, .int .i64 lf], .slice A6 256 c6, .int .i64 0]) (by simp [results, Try.results17, go_sem, q0, q1, q2]) rfl ⟨_, cb, _, cw, A6, c6, by unfold RfV; rw [← HLF.out, ← HM.out, ← HLL.out, HL.out], HH.out.bel HG.out.bel, by rw [← HLL.out]; exact HS6.out, HG.out.bel⟩
end Go.Proofs.Ytmgbmnbjionapaa
