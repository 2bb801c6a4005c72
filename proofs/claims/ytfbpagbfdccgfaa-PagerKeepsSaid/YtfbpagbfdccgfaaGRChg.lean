/- The reference's Do: unpin and dirty. Condition: the pages lie in memory, none twice. -/
import Derived.Test.YtfbpagbfdccgfaaGRS
import Derived.LoopTactic
import Derived.Lib.AppendZeros
namespace Go.Proofs.Ytfbpagbfdccgfaa
open Go.RowKit

set_option maxRecDepth 100000 in
set_option maxHeartbeats 4000000 in
theorem rdo_chg (A : Option Addr) (n c : Nat) (l : List HeldM) (room kind page : Int) (hn : n = l.length) (hc : n ≤ c) (hz : n ≤ 1000000) (w : World) (hS : Seg w A (rowH l)) (hA : ∀ a, A = some a → rowH l ≠ [] → a.block ≠ w.heap.size) (ho : Once l) (hk : kind = 2 ∨ kind = 3) (hp : 0 ≤ page) (hpn : ∀ s ∈ l, s.pins ≤ 4611686018427387904) :
    Calls Try.prog 9 #[.slice A n c, .int .i64 room, .int .i64 kind, .int .i64 page] w (RdP w (chgM l kind page)) := by
  obtain ⟨W2, hW2⟩ : ∃ W2, W2 = (w.alloc (.cells #[.int .i64 0, .bool false, .int .i64 0, .slice none 0 0] 33)).alloc (.cells #[.int .i64 0, .bool false, .int .i64 (-1), .slice none 0 0] 33) := ⟨_, rfl⟩
  have HS2 := Lib.hid (show RdS w 0 false (-1) (.slice none 0 0) [] W2 by
    refine ⟨by rw [hW2]; exact ((Below.refl _ _).alloc (Nat.le_refl _) _).alloc (by simp) _, ?_, ?_, World.ownsRow_nil _ _ _ _⟩
    · rw [hW2]; exact (Bk.new w _ _).alloc _
    · rw [hW2]
      have k1 := Bk.new (w.alloc (.cells #[.int .i64 0, .bool false, .int .i64 0, .slice none 0 0] 33)) 33 #[.int .i64 0, .bool false, .int .i64 (-1), .slice none 0 0]
      rw [World.size_alloc] at k1
      exact k1)
  have HW2 := Lib.hid hW2
  clear hW2
  have HX := Lib.hid hS
  have HN := Lib.hid hn
  have HA := Lib.hid hA
  have HO := Lib.hid ho
  have HP := Lib.hid hpn
  have HK := Lib.hid hk
  have g1 : decide (kind < 1) = false := decide_eq_false (by omega)
  have g2 : decide (kind > 4) = false := decide_eq_false (by omega)
  have g3 : decide (kind < 4) = true := decide_eq_true (by omega)
  have g4 : decide (page < 0) = false := decide_eq_false (by omega)
  have g5 : (kind == 4) = false := beq_eq_false_iff_ne.2 (by omega)
  have g6 : (kind == 1) = false := beq_eq_false_iff_ne.2 (by omega)
  obtain ⟨r, hr⟩ : ∃ r, r = chgM l kind page := ⟨_, rfl⟩
  rw [← hr]
  have HR := Lib.hid hr
  clear hS hn hA ho hpn hk hp hr
  go_enter Try.func9, Try.ntmps9
  go_upto_region 2 with fail
  rw [← HW2.out]
  go_wp2_with fail
  go_loopw [14, 67] (fun s14 s wr => ∃ (i : Nat) (z : Int), i ≤ n ∧ s = .int .i64 i ∧ s14 = .int .i64 z ∧ Hid (AtI (isP page) l i z) ∧ Hid (RdS w 0 false (-1) (.slice none 0 0) [] wr)) (fun _ s _ => n - (intOf s).toNat)
  case atStart => exact ⟨0, -1, Nat.zero_le _, rfl, rfl, Lib.hid (Or.inl ⟨rfl, fun j _ h => absurd h (Nat.not_lt_zero j)⟩), HS2⟩
  case round =>
    clear HS2 HW2
    obtain ⟨i, z, hin, rfl, rfl, hZ, hS⟩ := hrel
    by_cases hlt : i < n
    · have hil : i < l.length := by have := HN.out; omega
      obtain ⟨b, off, rfl, hbl, hcell⟩ := HX.out (by intro e; have := congrArg List.length e; rw [rowH_length] at this; simp only [List.length_nil] at this; omega)
      obtain ⟨s, hs⟩ : ∃ s, s = l[i] := ⟨_, rfl⟩
      have CC : ∀ k, k < 3 → wr.cell? ⟨b, off + i * 3 + k, none⟩ = (heldV s)[k]? := fun k hk => by
        rw [Nat.add_assoc, World.cell?_of_block (hS.out.bel.block b hbl), hcell (i * 3 + k) (by rw [rowH_length]; omega), rowH_at hil hk, hs]
      have HS1 := Lib.hid hs
      have HIL := Lib.hid hil
      have E1 := Lib.hid (show ((i : Int) + 1) = ((i + 1 : Nat) : Int) by omega)
      have MM := Lib.hid (show n - (intOf (.int .i64 ((i + 1 : Nat) : Int))).toNat < n - (intOf (.int .i64 (i : Int))).toNat by simp only [intOf]; omega)
      have i1 : (0 : Int) ≤ (i : Int) := by omega
      have i2 : (i : Int) < (n : Int) := by omega
      obtain ⟨pa, pb, pc⟩ := s
      have c0 : wr.cell? ⟨b, off + i * 3, none⟩ = some (.int .i64 pa) := CC 0 (by omega)
      have c1 : wr.cell? ⟨b, off + i * 3 + 1, none⟩ = some (.int .i64 (pb : Int)) := CC 1 (by omega)
      have c2 : wr.cell? ⟨b, off + i * 3 + 2, none⟩ = some (.bool pc) := CC 2 (by omega)
      have HS9 := Lib.hid (hS.out.bel2 ((Below.refl _ _).alloc (Nat.le_refl _) (.cells #[.int .i64 pa, .int .i64 (pb : Int), .bool pc] 41)))
      clear hcell hs CC
      by_cases hpp : pa = page
      · have e1 : (pa == page) = true := beq_iff_eq.2 hpp
        have HZ := Lib.hid (AtI.yes (p := isP page) HIL.out (by rw [← HS1.out]; exact e1))
        clear hZ hpp
        go_wp2_with fail
        rw [E1.out]
        exact ⟨⟨i + 1, i, by omega, rfl, rfl, HZ, HS9⟩, MM.out⟩
      · have e1 : (pa == page) = false := beq_eq_false_iff_ne.2 hpp
        have HZ := Lib.hid (hZ.out.no HIL.out (by rw [← HS1.out]; exact e1))
        clear hZ hpp
        go_wp2_with fail
        rw [E1.out]
        exact ⟨⟨i + 1, z, by omega, rfl, rfl, HZ, HS9⟩, MM.out⟩
    · have hii : i = l.length := by have := HN.out; omega
      have HZ := Lib.hid (show z = findZ (isP page) l by have := hZ.out; rw [hii] at this; exact this.fin HO.out)
      have i0 : ¬ (i : Int) < (n : Int) := by omega
      clear hZ hii
      rcases findZ_cases (isP page) l with ⟨h1, h2⟩ | ⟨ia, hia, h1, h2, h3⟩
      · have HR1 := Lib.hid (show r = (l, refM 6) by rw [HR.out]; unfold chgM; rw [h1, if_pos (by decide)])
        have hz1 : z = -1 := by rw [HZ.out, h1]
        subst hz1
        have S3 := hS.out.put 0 (.int .i64 6) (e2 := 6) rfl hS.out.wrote
        have HS3 := Lib.hid S3
        have HX3 := Lib.hid (show Seg (wr.setCell ⟨w.heap.size + 1, 0, none⟩ (.int .i64 6)) A (rowH l) from HX.out.bel S3.bel)
        have k9 := hS.out.act.frozen 0
        have y9 := hS.out.act.cell 0
        obtain ⟨W3, hW3⟩ : ∃ W3, W3 = wr.setCell ⟨w.heap.size + 1, 0, none⟩ (.int .i64 6) := ⟨_, rfl⟩
        rw [← hW3] at HS3 HX3
        have HW3 := Lib.hid hW3
        clear S3 hW3 h1 h2
        go_upto_region 42 with fail
        rw [← HW3.out]
        clear k9 y9
        have FIN := Lib.hid (HS3.out.fin HN.out hc HX3.out HA.out).drew
        have r0 := HS3.out.act.cell 0
        have r1 := HS3.out.act.cell 1
        have r2 := HS3.out.act.cell 2
        have r3 := HS3.out.act.cell 3
        have k0 := HS3.out.res.frozen 0
        have k1 := HS3.out.res.frozen 1
        have k2 := HS3.out.res.frozen 2
        have k3 := HS3.out.res.frozen 3
        have z0 := HS3.out.res.cell 0
        have z1 := HS3.out.res.cell 1
        have z2 := HS3.out.res.cell 2
        have z3 := HS3.out.res.cell 3
        go_region
        all_goals
          go_wp2_with fail
          exact bodyPost_ret (v := .tuple #[.slice A n c, .agg #[.int .i64 6, .bool false, .int .i64 (-1), (.slice none 0 0)]]) (by simp [results, Try.results9, go_sem, r0, r1, r2, r3, k0, k1, k2, k3, z0, z1, z2, z3]) rfl (by rw [HR1.out]; exact FIN.out)
      · have HIA := Lib.hid hia
        have hsn := HP.out l[ia] (List.getElem_mem hia)
        obtain ⟨s, hs⟩ : ∃ s, s = l[ia] := ⟨_, rfl⟩
        rw [← hs] at hsn
        have hz1 : z = (ia : Int) := by rw [HZ.out, h1]
        subst hz1
        obtain ⟨b, off, rfl, hbl, hcell⟩ := HX.out (by intro e; have := congrArg List.length e; rw [rowH_length] at this; simp only [List.length_nil] at this; omega)
        have CC : ∀ k, k < 3 → wr.cell? ⟨b, off + ia * 3 + k, none⟩ = (heldV s)[k]? := fun k hk => by
          rw [Nat.add_assoc, World.cell?_of_block (hS.out.bel.block b hbl), hcell (ia * 3 + k) (by rw [rowH_length]; omega), rowH_at hia hk]; exact congrArg (fun x : HeldM => (heldV x)[k]?) hs.symm
        have HR1 := Lib.hid (show r = (if s.pins = 0 then (l, refM 4) else (l.set ia (chgH kind s), refM 0)) by
          rw [HR.out]; unfold chgM; rw [h1, if_neg (by omega), Int.toNat_natCast, show l.getD ia default = s by simp [hia]; exact hs.symm]; rfl)
        have HSI := Lib.hid hs
        obtain ⟨pa, pb, pc⟩ := s
        dsimp only at HR1 hsn
        have c1 : wr.cell? ⟨b, off + ia * 3 + 1, none⟩ = some (.int .i64 (pb : Int)) := CC 1 (by omega)
        have j1 : ¬ (ia : Int) < 0 := by omega
        have j2 : decide ((ia : Int) < 0) = false := decide_eq_false j1
        have j3 : (0 : Int) ≤ (ia : Int) := by omega
        have j4 : (ia : Int) < (n : Int) := by have := HN.out; omega
        clear hcell CC hs h1 h2 h3 HR
        by_cases hp0 : pb = 0
        · have HR2 := Lib.hid (show r = (l, refM 4) by rw [HR1.out, if_pos hp0])
          have e1 : ((pb : Int) == 0) = true := by rw [beq_iff_eq]; omega
          have S3 := hS.out.put 0 (.int .i64 4) (e2 := 4) rfl hS.out.wrote
          have HS3 := Lib.hid S3
          have HX3 := Lib.hid (show Seg (wr.setCell ⟨w.heap.size + 1, 0, none⟩ (.int .i64 4)) (some ⟨b, off, none⟩) (rowH l) from HX.out.bel S3.bel)
          have k9 := hS.out.act.frozen 0
          have y9 := hS.out.act.cell 0
          obtain ⟨W3, hW3⟩ : ∃ W3, W3 = wr.setCell ⟨w.heap.size + 1, 0, none⟩ (.int .i64 4) := ⟨_, rfl⟩
          rw [← hW3] at HS3 HX3
          have HW3 := Lib.hid hW3
          clear S3 hW3 HR1 hp0
          go_upto_region 45 with fail
          rw [← HW3.out]
          clear k9 y9
          have FIN := Lib.hid (HS3.out.fin HN.out hc HX3.out HA.out).drew
          have r0 := HS3.out.act.cell 0
          have r1 := HS3.out.act.cell 1
          have r2 := HS3.out.act.cell 2
          have r3 := HS3.out.act.cell 3
          have k0 := HS3.out.res.frozen 0
          have k1 := HS3.out.res.frozen 1
          have k2 := HS3.out.res.frozen 2
          have k3 := HS3.out.res.frozen 3
          have z0 := HS3.out.res.cell 0
          have z1 := HS3.out.res.cell 1
          have z2 := HS3.out.res.cell 2
          have z3 := HS3.out.res.cell 3
          go_region
          all_goals
            go_wp2_with fail
            exact bodyPost_ret (v := .tuple #[.slice (some ⟨b, off, none⟩) n c, .agg #[.int .i64 4, .bool false, .int .i64 (-1), (.slice none 0 0)]]) (by simp [results, Try.results9, go_sem, r0, r1, r2, r3, k0, k1, k2, k3, z0, z1, z2, z3]) rfl (by rw [HR2.out]; exact FIN.out)
        · have HR2 := Lib.hid (show r = (l.set ia (chgH kind ⟨pa, pb, pc⟩), refM 0) by rw [HR1.out, if_neg hp0])
          have e1 : ((pb : Int) == 0) = false := by rw [beq_eq_false_iff_ne]; omega
          have e2 : IntKind.i64.wrap ((pb : Int) - 1) = (pb : Int) - 1 := by rw [IntKind.wrap_i64]; omega
          have e3 : wrap64 ((pb : Int) - 1) = (pb : Int) - 1 := by unfold wrap64; omega
          have HPB := Lib.hid (show 0 < pb by omega)
          obtain ⟨i0', hi0, hz0, hz1, hz2⟩ := info_parts info_slot
          have al := (Below.refl wr.heap.size wr).alloc (Nat.le_refl _) (.cells #[] 41)
          obtain ⟨v', w4, hrun, hown, hgr, _, _⟩ := run_append_own_at (P := Try.prog) (w := wr.alloc (.cells #[] 41)) wr.heap.size 29 29 41 i0' _ 3 24 Try.underlying29 hi0 hz0 hz1 hz2 rfl (by decide) _ 0 [] (World.ownsRow_lit wr #[] 0 (Nat.le_refl _) (by decide) rfl) ⟨b, off, none⟩ n c (rowH l) (by rw [rowH_length, HN.out]) (seg_cells ((HX.out.bel hS.out.bel).bel al)) (rowH_one _) (by simp only [maxLen]; omega) (by omega) al.size
          rw [Nat.zero_add, List.nil_append] at hown
          have b4 : Below wr.heap.size wr w4 := al.grown hgr al.size (fun j e => ((World.ownsRow_lit wr #[] 0 (Nat.le_refl _) (by decide) rfl : (wr.alloc (.cells #[] 41)).ownsRow wr.heap.size 41 3 _ 0 []).lt j e).1)
          have HS4 := Lib.hid (hS.out.bel2 b4)
          have hlo := hS.out.bel.size
          have HLT := Lib.hid hS.out.act.lt
          have HRUN := Lib.hid hrun
          rcases own_shapeR hown with ⟨_, h2⟩ | ⟨g, cap, h1, h3, h4, h5⟩
          · exfalso
            rw [h2] at HIA
            exact absurd HIA.out (Nat.not_lt_zero _)
          · subst h1
            have hg2 : w.heap.size + 1 < g := Nat.lt_of_lt_of_le HLT.out h3
            have c3 : w4.cell? ⟨g, ia * 3 + 1, none⟩ = some (.int .i64 (pb : Int)) := by exact (own_cellR hown HIA.out 1 (by omega)).trans (congrArg (fun x : HeldM => (heldV x)[1]?) HSI.out.symm)
            obtain ⟨cur, hb, _⟩ := own_cellsR hown
            have c4 : w4.cell? ⟨g, ia * 3 + 2, none⟩ = some (.bool pc) := by exact (own_cellR hown HIA.out 2 (by omega)).trans (congrArg (fun x : HeldM => (heldV x)[2]?) HSI.out.symm)
            have f1 := hb.frozen (ia * 3 + 1)
            have f2 := hb.frozen (ia * 3 + 2)
            have HNX := Lib.hid (show ∀ (k : Nat) (u : Value) (h2 : HeldM), k < 3 → (heldV ⟨pa, pb, pc⟩).set k u = heldV h2 → RdS w 0 false (-1) (.slice none 0 0) [] (w4.setCell ⟨g, ia * 3 + k, none⟩ u) ∧ Seg (w4.setCell ⟨g, ia * 3 + k, none⟩ u) (some ⟨g, 0, none⟩) (rowH (l.set ia h2)) from fun k u h2 hk hu =>
              ⟨HS4.out.far hg2 (by simp [Value.ownBlock]) _ _, own_seg (own_setR hown HIA.out hk u h2 ((congrArg (fun x : HeldM => (heldV x).set k u) HSI.out.symm).trans hu))⟩)
            have HGA := Lib.hid (show ∀ a : Addr, some (⟨g, 0, none⟩ : Addr) = some a → rowH (l.set ia (chgH kind ⟨pa, pb, pc⟩)) ≠ [] → a.block ≠ w.heap.size from fun a e _ => by cases e; show g ≠ w.heap.size; omega)
            have hnc : n ≤ cap := h5
            clear hb hown hgr b4 hrun al h3 h4 hlo HR1
            by_cases hk2 : kind = 2
            · subst hk2
              have NX := HNX.out 1 (.int .i64 ((pb : Int) - 1)) (chgH 2 ⟨pa, pb, pc⟩) (by omega) (by
                unfold chgH heldV
                rw [if_pos rfl]
                have : ((pb - 1 : Nat) : Int) = (pb : Int) - 1 := by have := HPB.out; omega
                simp [this])
              obtain ⟨W5, hW5⟩ : ∃ W5, W5 = w4.setCell ⟨g, ia * 3 + 1, none⟩ (.int .i64 ((pb : Int) - 1)) := ⟨_, rfl⟩
              rw [← hW5] at NX
              have HS5 := Lib.hid NX.1
              have HX5 := Lib.hid NX.2
              have HW5 := Lib.hid hW5
              have HL5 := Lib.hid (show n = (l.set ia (chgH 2 ⟨pa, pb, pc⟩)).length by rw [List.length_set]; exact HN.out)
              clear hW5 NX HNX
              go_upto_region 47 with (at_builtin; refine Lib.wpList_append_run _ rfl _ _ _ _ rfl _ _ rfl rfl _ _ HRUN.out ?_)
              go_upto_region 50 with fail
              rw [← HW5.out]
              clear c1 c3 c4 f1 f2
              have FIN := Lib.hid (HS5.out.fin HL5.out hnc HX5.out HGA.out).drew
              have r0 := HS5.out.act.cell 0
              have r1 := HS5.out.act.cell 1
              have r2 := HS5.out.act.cell 2
              have r3 := HS5.out.act.cell 3
              have k0 := HS5.out.res.frozen 0
              have k1 := HS5.out.res.frozen 1
              have k2 := HS5.out.res.frozen 2
              have k3 := HS5.out.res.frozen 3
              have z0 := HS5.out.res.cell 0
              have z1 := HS5.out.res.cell 1
              have z2 := HS5.out.res.cell 2
              have z3 := HS5.out.res.cell 3
              go_region
              all_goals
                go_wp2_with fail
                exact bodyPost_ret (v := .tuple #[.slice (some ⟨g, 0, none⟩) n cap, .agg #[.int .i64 0, .bool false, .int .i64 (-1), (.slice none 0 0)]]) (by simp [results, Try.results9, go_sem, r0, r1, r2, r3, k0, k1, k2, k3, z0, z1, z2, z3]) rfl (by rw [HR2.out]; exact FIN.out)
            · have e4 : (kind == 2) = false := beq_eq_false_iff_ne.2 hk2
              have NX := HNX.out 2 (.bool true) (chgH kind ⟨pa, pb, pc⟩) (by omega) (by
                unfold chgH heldV
                rw [if_neg hk2]
                rfl)
              obtain ⟨W5, hW5⟩ : ∃ W5, W5 = w4.setCell ⟨g, ia * 3 + 2, none⟩ (.bool true) := ⟨_, rfl⟩
              rw [← hW5] at NX
              have HS5 := Lib.hid NX.1
              have HX5 := Lib.hid NX.2
              have HW5 := Lib.hid hW5
              have HL5 := Lib.hid (show n = (l.set ia (chgH kind ⟨pa, pb, pc⟩)).length by rw [List.length_set]; exact HN.out)
              clear hW5 NX HNX
              go_upto_region 47 with (at_builtin; refine Lib.wpList_append_run _ rfl _ _ _ _ rfl _ _ rfl rfl _ _ HRUN.out ?_)
              go_upto_region 50 with fail
              rw [← HW5.out]
              clear c1 c3 c4 f1 f2
              have FIN := Lib.hid (HS5.out.fin HL5.out hnc HX5.out HGA.out).drew
              have r0 := HS5.out.act.cell 0
              have r1 := HS5.out.act.cell 1
              have r2 := HS5.out.act.cell 2
              have r3 := HS5.out.act.cell 3
              have k0 := HS5.out.res.frozen 0
              have k1 := HS5.out.res.frozen 1
              have k2 := HS5.out.res.frozen 2
              have k3 := HS5.out.res.frozen 3
              have z0 := HS5.out.res.cell 0
              have z1 := HS5.out.res.cell 1
              have z2 := HS5.out.res.cell 2
              have z3 := HS5.out.res.cell 3
              go_region
              all_goals
                go_wp2_with fail
                exact bodyPost_ret (v := .tuple #[.slice (some ⟨g, 0, none⟩) n cap, .agg #[.int .i64 0, .bool false, .int .i64 (-1), (.slice none 0 0)]]) (by simp [results, Try.results9, go_sem, r0, r1, r2, r3, k0, k1, k2, k3, z0, z1, z2, z3]) rfl (by rw [HR2.out]; exact FIN.out)
end Go.Proofs.Ytfbpagbfdccgfaa
