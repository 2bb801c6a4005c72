/- The reference's Do: flush. Condition: the pages lie in memory. -/
import Derived.Test.YtfbpagbfdccgfaaGRS
import Derived.LoopTactic
import Derived.Lib.AppendZeros
namespace Go.Proofs.Ytfbpagbfdccgfaa
open Go.RowKit

set_option maxRecDepth 100000 in
set_option maxHeartbeats 8000000 in
theorem rdo_flush (A : Option Addr) (n c : Nat) (l : List HeldM) (room page : Int) (hn : n = l.length) (hz : n ≤ 1000000) (w : World) (hS : Seg w A (rowH l)) :
    Calls Try.prog 9 #[.slice A n c, .int .i64 room, .int .i64 4, .int .i64 page] w (RdP w (flushM l)) := by
  obtain ⟨W2, hW2⟩ : ∃ W2, W2 = (w.alloc (.cells #[.int .i64 0, .bool false, .int .i64 0, .slice none 0 0] 33)).alloc (.cells #[.int .i64 0, .bool false, .int .i64 (-1), .slice none 0 0] 33) := ⟨_, rfl⟩
  have HS2 := Lib.hid (show RdS w 0 false (-1) (.slice none 0 0) [] W2 by
    refine ⟨by rw [hW2]; exact ((Below.refl _ _).alloc (Nat.le_refl _) _).alloc (by simp) _, ?_, ?_, World.ownsRow_nil _ _ _ _⟩
    · rw [hW2]; exact (Bk.new w _ _).alloc _
    · rw [hW2]
      have k1 := Bk.new (w.alloc (.cells #[.int .i64 0, .bool false, .int .i64 0, .slice none 0 0] 33)) 33 #[.int .i64 0, .bool false, .int .i64 (-1), .slice none 0 0]
      rw [World.size_alloc] at k1
      exact k1)
  have HW2 := Lib.hid hW2
  clear hW2
  have HX := Lib.hid hS
  have HN := Lib.hid hn
  have hO0 := kept_bel (World.ownsRow_nil W2 w.heap.size 41 3) (Below.refl _ _)
  clear hO0
  have al := (Below.refl W2.heap.size W2).alloc (Nat.le_refl _) (.cells #[] 41)
  have HS3 := Lib.hid (HS2.out.bel2 al)
  have HO3 := Lib.hid (World.ownsRow_lit (e := 41) (size := 3) W2 #[] 0 (base := w.heap.size) HS2.out.bel.size (by decide) rfl)
  have e0 : foldP (dirtyN (l.take 0)) = [] := rfl
  clear hS hn al
  go_enter Try.func9, Try.ntmps9
  go_upto_region 2 with fail
  rw [← HW2.out]
  go_wp2_with fail
  go_loopw [11, 42] (fun s11 s wr => ∃ (i : Nat) (W : Value), i ≤ n ∧ s = .int .i64 i ∧ Hid (RdS w 0 false (-1) W (foldP (dirtyN (l.take i))) wr) ∧ Hid (wr.ownsRow w.heap.size 41 3 s11 i (rowH ((l.take i).map cleanH)))) (fun _ s _ => n - (intOf s).toNat)
  case atStart => exact ⟨0, .slice none 0 0, Nat.zero_le _, rfl, HS3, HO3⟩
  case round =>
    clear HS2 HS3 HO3 HW2 e0
    obtain ⟨i, W, hin, rfl, hS, hO⟩ := hrel
    obtain ⟨AR, cR, hv, hcR⟩ := own_shapeS hO.out
    subst hv
    obtain ⟨AW, cW, hW, hcW⟩ := own_shapeS hS.out.wrote
    subst hW
    by_cases hlt : i < n
    · have hil : i < l.length := by have := HN.out; omega
      obtain ⟨b, off, rfl, hbl, hcell⟩ := HX.out (by intro e; have := congrArg List.length e; rw [rowH_length] at this; simp only [List.length_nil] at this; omega)
      obtain ⟨s, hs⟩ : ∃ s, s = l[i] := ⟨_, rfl⟩
      have CC : ∀ k, k < 3 → wr.cell? ⟨b, off + i * 3 + k, none⟩ = (heldV s)[k]? := fun k hk => by
        rw [Nat.add_assoc, World.cell?_of_block (hS.out.bel.block b hbl), hcell (i * 3 + k) (by rw [rowH_length]; omega), rowH_at hil hk]; exact congrArg (fun x : HeldM => (heldV x)[k]?) hs.symm
      have DN := Lib.hid (dirty_next hil)
      have MN := Lib.hid (show (l.take (i + 1)).map cleanH = (l.take i).map cleanH ++ [cleanH s] by rw [List.take_succ_eq_append_getElem hil, List.map_append, hs]; rfl)
      rw [← hs] at DN
      have HLE := Lib.hid (show (foldP (dirtyN (l.take i))).length ≤ 1000000 by rw [fold_sort]; unfold sortI; rw [List.length_mergeSort]; have := dirty_le l i; have := HN.out; omega)
      have E1 := Lib.hid (show ((i : Int) + 1) = ((i + 1 : Nat) : Int) by omega)
      have MM := Lib.hid (show n - (intOf (.int .i64 ((i + 1 : Nat) : Int))).toNat < n - (intOf (.int .i64 (i : Int))).toNat by simp only [intOf]; omega)
      have i1 : (0 : Int) ≤ (i : Int) := by omega
      have i2 : (i : Int) < (n : Int) := by omega
      obtain ⟨pa, pb, pc⟩ := s
      have c0 : wr.cell? ⟨b, off + i * 3, none⟩ = some (.int .i64 pa) := CC 0 (by omega)
      have c1 : wr.cell? ⟨b, off + i * 3 + 1, none⟩ = some (.int .i64 (pb : Int)) := CC 1 (by omega)
      have c2 : wr.cell? ⟨b, off + i * 3 + 2, none⟩ = some (.bool pc) := CC 2 (by omega)
      obtain ⟨w1, hw1⟩ : ∃ w1, w1 = wr.alloc (.cells #[.int .i64 pa, .int .i64 (pb : Int), .bool pc] 41) := ⟨_, rfl⟩
      have al := (Below.refl wr.heap.size wr).alloc (Nat.le_refl _) (.cells #[.int .i64 pa, .int .i64 (pb : Int), .bool pc] 41)
      rw [← hw1] at al
      have HS1 := Lib.hid (hS.out.bel2 al)
      have HO1 := Lib.hid (kept_bel hO.out al)
      have HB1 := Lib.hid (show Bk w1 wr.heap.size 41 #[.int .i64 pa, .int .i64 (pb : Int), .bool pc] by rw [hw1]; exact Bk.new wr _ _)
      have hne : ¬ wr.heap.size = w.heap.size + 1 := by have := hS.out.act.lt; omega
      have HW1 := Lib.hid hw1
      obtain ⟨ws, hws⟩ : ∃ ws, ws = foldP (dirtyN (l.take i)) := ⟨_, rfl⟩
      have HWE := Lib.hid hws
      rw [← hws] at HS1 HLE hcW
      clear hcell hs CC hil al hw1 hws hS hO
      go_upto_region 10 with fail
      rw [← HW1.out]
      cases pc
      · have DN2 := Lib.hid (show foldP (dirtyN (l.take (i + 1))) = ws by rw [HWE.out, DN.out]; simp)
        have b0 := HB1.out.cell 0
        have b1 := HB1.out.cell 1
        have b2 := HB1.out.cell 2
        obtain ⟨v', w6, hrun, hown6, hs6⟩ := HS1.out.grow HO1.out (by have := HN.out; omega) (cleanH ⟨pa, pb, false⟩)
        obtain ⟨A6, c6, rfl, _⟩ := own_shapeS hown6
        have HRUN := Lib.hid hrun
        have HO6 := Lib.hid (show w6.ownsRow w.heap.size 41 3 (.slice A6 (i + 1) c6) (i + 1) (rowH ((l.take (i + 1)).map cleanH)) by rw [MN.out]; exact hown6)
        have HS6 := Lib.hid hs6
        clear hrun hown6 hs6
        go_wp2_with (at_builtin; refine Lib.wpList_append_run _ rfl _ _ _ _ rfl _ _ rfl rfl _ _ HRUN.out ?_)
        rw [E1.out]
        exact ⟨⟨i + 1, _, by omega, rfl, by rw [DN2.out]; exact HS6, HO6⟩, MM.out⟩
      · have DN2 := Lib.hid (show foldP (dirtyN (l.take (i + 1))) = putI ws pa by rw [HWE.out, DN.out]; simp only [if_true]; exact fold_snoc _ _)
        have b0 := HB1.out.cell 0
        have b2 := HB1.out.cell 2
        have y3 := HS1.out.act.cell 3
        have CP := Lib.hid (put_any AW ws.length cW ws pa rfl HLE.out w1 (own_seg HS1.out.wrote))
        go_wp2_with fail
        refine CP.out.mono ?_
        rintro e w2 ⟨⟨B3, d3, rfl, o3⟩, b3⟩
        have S2 := HS1.out.bel2 b3
        have o4 := own_base o3 HS1.out.bel.size
        rw [← putI_length pa ws] at o4
        have HS3 := Lib.hid (S2.put 3 (.slice B3 (putI ws pa).length d3) (e2 := 0) (hit2 := false) (out2 := -1) rfl o4)
        have y9 := S2.act.cell 3
        have k9 := S2.act.frozen 3
        have O2 := kept_bel HO1.out b3
        have HO3 := Lib.hid (own_setB (i := 3) (u := .slice B3 (putI ws pa).length d3) O2 (own_block_ne O2 S2.act (by decide)))
        have B2 := HB1.out.bel b3
        have HB3 := Lib.hid (bk_set2 (i := 3) (u := .slice B3 (putI ws pa).length d3) B2 hne)
        have HL3 := Lib.hid (putI_length pa ws)
        obtain ⟨w3, hw3⟩ : ∃ w3, w3 = w2.setCell ⟨w.heap.size + 1, 3, none⟩ (.slice B3 (putI ws pa).length d3) := ⟨_, rfl⟩
        rw [← hw3] at HS3 HO3 HB3
        have HW3 := Lib.hid hw3
        clear o3 b3 o4 S2 O2 B2 hw3 b0 b2 y3 CP
        rw [← HL3.out]
        go_upto_region 12 with fail
        rw [← HW3.out]
        have b0 := HB3.out.cell 0
        have b1 := HB3.out.cell 1
        obtain ⟨v', w6, hrun, hown6, hs6⟩ := HS3.out.grow HO3.out (by have := HN.out; omega) (cleanH ⟨pa, pb, true⟩)
        obtain ⟨A6, c6, rfl, _⟩ := own_shapeS hown6
        have HRUN := Lib.hid hrun
        have HO6 := Lib.hid (show w6.ownsRow w.heap.size 41 3 (.slice A6 (i + 1) c6) (i + 1) (rowH ((l.take (i + 1)).map cleanH)) by rw [MN.out]; exact hown6)
        have HS6 := Lib.hid hs6
        clear hrun hown6 hs6
        go_wp2_with (at_builtin; refine Lib.wpList_append_run _ rfl _ _ _ _ rfl _ _ rfl rfl _ _ HRUN.out ?_)
        rw [E1.out]
        exact ⟨⟨i + 1, _, by omega, rfl, by rw [DN2.out]; exact HS6, HO6⟩, MM.out⟩
    · have hii : i = l.length := by have := HN.out; omega
      have i0 : ¬ (i : Int) < (n : Int) := by omega
      have E1 := Lib.hid (show l.take i = l by rw [hii]; exact List.take_length)
      obtain ⟨ws, hws⟩ : ∃ ws, ws = foldP (dirtyN (l.take i)) := ⟨_, rfl⟩
      have HR := Lib.hid (show flushM l = (l.map cleanH, ⟨0, false, -1, ws⟩) by rw [hws, E1.out, fold_sort]; rfl)
      have HS1 := Lib.hid (show RdS w 0 false (-1) (.slice AW ws.length cW) ws wr by rw [hws]; exact hS.out)
      have HN1 := Lib.hid (show i = (l.map cleanH).length by rw [List.length_map]; exact hii)
      have HX1 := Lib.hid (show Seg wr AR (rowH (l.map cleanH)) by have := own_seg hO.out; rw [E1.out] at this; exact this)
      have HA1 := Lib.hid (show ∀ a, AR = some a → rowH (l.map cleanH) ≠ [] → a.block ≠ w.heap.size from fun a e _ k => own_block_ne hO.out hS.out.res (by decide) (by subst e; show some a.block = _; rw [k]))
      clear hS hO hii hws
      go_upto_region 14 with fail
      have FIN := Lib.hid (HS1.out.fin HN1.out hcR HX1.out HA1.out).drew
      have r0 := HS1.out.act.cell 0
      have r1 := HS1.out.act.cell 1
      have r2 := HS1.out.act.cell 2
      have r3 := HS1.out.act.cell 3
      have k0 := HS1.out.res.frozen 0
      have k1 := HS1.out.res.frozen 1
      have k2 := HS1.out.res.frozen 2
      have k3 := HS1.out.res.frozen 3
      have z0 := HS1.out.res.cell 0
      have z1 := HS1.out.res.cell 1
      have z2 := HS1.out.res.cell 2
      have z3 := HS1.out.res.cell 3
      go_region
      all_goals
        go_wp2_with fail
        exact bodyPost_ret (v := .tuple #[.slice AR i cR, .agg #[.int .i64 0, .bool false, .int .i64 (-1), (.slice AW ws.length cW)]]) (by simp [results, Try.results9, go_sem, r0, r1, r2, r3, k0, k1, k2, k3, z0, z1, z2, z3]) rfl (by rw [HR.out]; exact FIN.out)
end Go.Proofs.Ytfbpagbfdccgfaa
