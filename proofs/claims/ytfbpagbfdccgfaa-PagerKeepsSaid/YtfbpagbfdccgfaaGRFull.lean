/- The reference's Do: a pin that finds no room. Condition: the pages lie in memory, none twice. -/
import Derived.Test.YtfbpagbfdccgfaaGRRoom
namespace Go.Proofs.Ytfbpagbfdccgfaa
open Go.RowKit

/-- How far the look for a page without pins has come. -/
def PinI (l : List HeldM) (i : Nat) (z : Int) : Prop :=
  (z = -1 ∧ ∀ j (hj : j < l.length), i ≤ j → isF l[j] = false) ∨ ∃ j, ∃ hj : j < l.length, i ≤ j ∧ z = (j : Int) ∧ isF l[j] = true ∧ ∀ k (hk : k < l.length), i ≤ k → k < j → isF l[k] = false
theorem PinI.no {l : List HeldM} {i : Nat} {z : Int} (h : PinI l (i + 1) z) (hi : i < l.length) (hp : isF l[i] = false) : PinI l i z := by
  have st : ∀ k (hk : k < l.length), i ≤ k → ¬ i + 1 ≤ k → isF l[k] = false := fun k hk h1 h2 => by
    have : k = i := by omega
    subst this
    exact hp
  rcases h with ⟨h1, h2⟩ | ⟨j, hj, h1, h2, h3, h4⟩
  · exact Or.inl ⟨h1, fun j hj hji => by
      by_cases h : i + 1 ≤ j
      · exact h2 j hj h
      · exact st j hj hji h⟩
  · exact Or.inr ⟨j, hj, by omega, h2, h3, fun k hk h5 h6 => by
      by_cases h : i + 1 ≤ k
      · exact h4 k hk h h6
      · exact st k hk h5 h⟩
theorem PinI.yes {l : List HeldM} {i : Nat} (hi : i < l.length) (hp : isF l[i] = true) : PinI l i (i : Int) := Or.inr ⟨i, hi, Nat.le_refl _, rfl, hp, fun k _ h1 h2 => by omega⟩
theorem PinI.fin {l : List HeldM} {z : Int} (h : PinI l 0 z) : z = findZ isF l := by
  rcases h with ⟨h1, h2⟩ | ⟨j, hj, _, h2, h3, h4⟩
  · rw [h1, findZ_no fun j hj => h2 j hj (Nat.zero_le _)]
  · rw [h2, findZ_at hj h3 fun k hk h5 => ?_]
    rcases Nat.lt_or_ge k j with h | h
    · rw [h4 k hk (Nat.zero_le _) h] at h5; cases h5
    · exact h
set_option maxRecDepth 100000 in
set_option maxHeartbeats 8000000 in
theorem rdo_full (A : Option Addr) (n c : Nat) (l : List HeldM) (room page : Int) (hn : n = l.length) (hc : n ≤ c) (hz : n ≤ 1000000) (w : World) (hS : Seg w A (rowH l)) (hA : ∀ a, A = some a → rowH l ≠ [] → a.block ≠ w.heap.size) (ho : Once l) (hp : 0 ≤ page) (hr : (l.length : Int) ≤ room) (h1 : findZ (isP page) l = -1) (hfull : (n : Int) = room) :
    Calls Try.prog 9 #[.slice A n c, .int .i64 room, .int .i64 1, .int .i64 page] w (RdP w (pinM room l page)) := by
  obtain ⟨W2, hW2⟩ : ∃ W2, W2 = (w.alloc (.cells #[.int .i64 0, .bool false, .int .i64 0, .slice none 0 0] 33)).alloc (.cells #[.int .i64 0, .bool false, .int .i64 (-1), .slice none 0 0] 33) := ⟨_, rfl⟩
  have HS2 := Lib.hid (show RdS w 0 false (-1) (.slice none 0 0) [] W2 by
    refine ⟨by rw [hW2]; exact ((Below.refl _ _).alloc (Nat.le_refl _) _).alloc (by simp) _, ?_, ?_, World.ownsRow_nil _ _ _ _⟩
    · rw [hW2]; exact (Bk.new w _ _).alloc _
    · rw [hW2]
      have k1 := Bk.new (w.alloc (.cells #[.int .i64 0, .bool false, .int .i64 0, .slice none 0 0] 33)) 33 #[.int .i64 0, .bool false, .int .i64 (-1), .slice none 0 0]
      rw [World.size_alloc] at k1
      exact k1)
  have HW2 := Lib.hid hW2
  clear hW2
  have HX := Lib.hid hS
  have HN := Lib.hid hn
  have HA := Lib.hid hA
  have HO := Lib.hid ho
  have HLR := Lib.hid hr
  have h2 := True.intro
  have g4 : decide (page < 0) = false := decide_eq_false (by omega)
  obtain ⟨r, hr0⟩ : ∃ r, r = pinM room l page := ⟨_, rfl⟩
  rw [← hr0]
  have HR00 := Lib.hid hr0
  clear hS hn hA ho hp hr hr0
  go_enter Try.func9, Try.ntmps9
  go_upto_region 2 with fail
  rw [← HW2.out]
  go_wp2_with fail
  go_loopw [14, 67] (fun s14 s wr => ∃ (i : Nat) (z : Int), i ≤ n ∧ s = .int .i64 i ∧ s14 = .int .i64 z ∧ Hid (AtI (isP page) l i z) ∧ Hid (RdS w 0 false (-1) (.slice none 0 0) [] wr)) (fun _ s _ => n - (intOf s).toNat)
  case atStart => exact ⟨0, -1, Nat.zero_le _, rfl, rfl, Lib.hid (Or.inl ⟨rfl, fun j _ h => absurd h (Nat.not_lt_zero j)⟩), HS2⟩
  case round =>
    clear HS2 HW2
    obtain ⟨i, z, hin, rfl, rfl, hZ, hS⟩ := hrel
    by_cases hlt : i < n
    · have hil : i < l.length := by have := HN.out; omega
      obtain ⟨b, off, rfl, hbl, hcell⟩ := HX.out (by intro e; have := congrArg List.length e; rw [rowH_length] at this; simp only [List.length_nil] at this; omega)
      obtain ⟨s, hs⟩ : ∃ s, s = l[i] := ⟨_, rfl⟩
      have CC : ∀ k, k < 3 → wr.cell? ⟨b, off + i * 3 + k, none⟩ = (heldV s)[k]? := fun k hk => by
        rw [Nat.add_assoc, World.cell?_of_block (hS.out.bel.block b hbl), hcell (i * 3 + k) (by rw [rowH_length]; omega), rowH_at hil hk, hs]
      have HS1 := Lib.hid hs
      have HIL := Lib.hid hil
      have E1 := Lib.hid (show ((i : Int) + 1) = ((i + 1 : Nat) : Int) by omega)
      have MM := Lib.hid (show n - (intOf (.int .i64 ((i + 1 : Nat) : Int))).toNat < n - (intOf (.int .i64 (i : Int))).toNat by simp only [intOf]; omega)
      have i1 : (0 : Int) ≤ (i : Int) := by omega
      have i2 : (i : Int) < (n : Int) := by omega
      obtain ⟨pa, pb, pc⟩ := s
      have c0 : wr.cell? ⟨b, off + i * 3, none⟩ = some (.int .i64 pa) := CC 0 (by omega)
      have c1 : wr.cell? ⟨b, off + i * 3 + 1, none⟩ = some (.int .i64 (pb : Int)) := CC 1 (by omega)
      have c2 : wr.cell? ⟨b, off + i * 3 + 2, none⟩ = some (.bool pc) := CC 2 (by omega)
      have HS9 := Lib.hid (hS.out.bel2 ((Below.refl _ _).alloc (Nat.le_refl _) (.cells #[.int .i64 pa, .int .i64 (pb : Int), .bool pc] 41)))
      clear hcell hs CC
      by_cases hpp : pa = page
      · have e1 : (pa == page) = true := beq_iff_eq.2 hpp
        have HZ := Lib.hid (AtI.yes (p := isP page) HIL.out (by rw [← HS1.out]; exact e1))
        clear hZ hpp
        go_wp2_with fail
        rw [E1.out]
        exact ⟨⟨i + 1, i, by omega, rfl, rfl, HZ, HS9⟩, MM.out⟩
      · have e1 : (pa == page) = false := beq_eq_false_iff_ne.2 hpp
        have HZ := Lib.hid (hZ.out.no HIL.out (by rw [← HS1.out]; exact e1))
        clear hZ hpp
        go_wp2_with fail
        rw [E1.out]
        exact ⟨⟨i + 1, z, by omega, rfl, rfl, HZ, HS9⟩, MM.out⟩
    · have hii : i = l.length := by have := HN.out; omega
      have HZ := Lib.hid (show z = findZ (isP page) l by have := hZ.out; rw [hii] at this; exact this.fin HO.out)
      have i0 : ¬ (i : Int) < (n : Int) := by omega
      clear hZ hii
      have HZ1 : z = -1 := by rw [HZ.out, h1]
      subst HZ1
      have g7 : ((n : Int) == room) = true := beq_iff_eq.2 hfull
      have HR0 := Lib.hid (show r = (if findZ isF l < 0 then (l, refM 5) else (l.eraseIdx (findZ isF l).toNat ++ [⟨page, 1, false⟩], ⟨0, false, (l.getD (findZ isF l).toNat default).page, if (l.getD (findZ isF l).toNat default).turned then [(l.getD (findZ isF l).toNat default).page] else []⟩)) by rw [HR00.out]; unfold pinM; rw [h1, if_neg (by decide), if_pos (by have := HN.out; omega)])
      clear h1 HR00
      go_wp2_with fail
      go_loopw [14, 17] (fun s14 s wr => ∃ (i : Nat) (z y : Int), i ≤ n ∧ y = (i : Int) - 1 ∧ s = .int .i64 y ∧ s14 = .int .i64 z ∧ Hid (PinI l i z) ∧ Hid (RdS w 0 false (-1) (.slice none 0 0) [] wr)) (fun _ s _ => (intOf s + 1).toNat)
      case atStart => exact ⟨n, -1, room - 1, Nat.le_refl _, by omega, rfl, rfl, Lib.hid (Or.inl ⟨rfl, fun j hj h => by have := HN.out; omega⟩), hS⟩
      case round =>
        clear hS
        obtain ⟨i2, z2, y, hin2, hy, rfl, rfl, hP2, hS2⟩ := hrel
        cases i2 with
        | succ k =>
          obtain rfl : y = (k : Int) := by omega
          clear hy
          have hil : k < l.length := by have := HN.out; omega
          obtain ⟨b, off, rfl, hbl, hcell⟩ := HX.out (by intro e; have := congrArg List.length e; rw [rowH_length] at this; simp only [List.length_nil] at this; omega)
          obtain ⟨s, hs⟩ : ∃ s, s = l[k] := ⟨_, rfl⟩
          have CC : wr.cell? ⟨b, off + k * 3 + 1, none⟩ = (heldV s)[1]? := by
            rw [Nat.add_assoc, World.cell?_of_block (hS2.out.bel.block b hbl), hcell (k * 3 + 1) (by rw [rowH_length]; omega), rowH_at hil (by omega)]; exact congrArg (fun x : HeldM => (heldV x)[1]?) hs.symm
          obtain ⟨pa, pb, pc⟩ := s
          have c1 : wr.cell? ⟨b, off + k * 3 + 1, none⟩ = some (.int .i64 (pb : Int)) := CC
          have HSI := Lib.hid hs
          have HIL := Lib.hid hil
          have MM := Lib.hid (show (intOf (.int .i64 ((k : Int) - 1)) + 1).toNat < (intOf (.int .i64 (k : Int)) + 1).toNat by simp only [intOf]; omega)
          have i1 : (0 : Int) ≤ (k : Int) := by omega
          have i2 : (k : Int) < (n : Int) := by omega
          clear hcell hs CC
          by_cases hpp : pb = 0
          · have e1 : ((pb : Int) == 0) = true := by rw [beq_iff_eq]; omega
            have HZ := Lib.hid (PinI.yes HIL.out (by rw [← HSI.out]; exact beq_iff_eq.2 hpp))
            clear hP2 hpp
            go_wp2_with fail
            exact ⟨⟨k, k, (k : Int) - 1, by omega, rfl, rfl, rfl, HZ, hS2⟩, MM.out⟩
          · have e1 : ((pb : Int) == 0) = false := by rw [beq_eq_false_iff_ne]; omega
            have HZ := Lib.hid (hP2.out.no HIL.out (by rw [← HSI.out]; exact beq_eq_false_iff_ne.2 hpp))
            clear hP2 hpp
            go_wp2_with fail
            exact ⟨⟨k, z2, (k : Int) - 1, by omega, rfl, rfl, rfl, HZ, hS2⟩, MM.out⟩
        | zero =>
          obtain rfl : y = -1 := by omega
          clear hy
          have HZ2 := Lib.hid hP2.out.fin
          clear hP2
          rcases findZ_cases isF l with ⟨q1, q2⟩ | ⟨ia, hia, q1, q2, q3⟩
          · have HR1 := Lib.hid (show r = (l, refM 5) by rw [HR0.out, if_pos (by rw [q1]; decide)])
            have hz1 : z2 = -1 := by rw [HZ2.out, q1]
            subst hz1
            have S3 := hS2.out.put 0 (.int .i64 5) (e2 := 5) rfl hS2.out.wrote
            have HS3 := Lib.hid S3
            have HX3 := Lib.hid (show Seg (wr.setCell ⟨w.heap.size + 1, 0, none⟩ (.int .i64 5)) A (rowH l) from HX.out.bel S3.bel)
            have k9 := hS2.out.act.frozen 0
            have y9 := hS2.out.act.cell 0
            obtain ⟨W3, hW3⟩ : ∃ W3, W3 = wr.setCell ⟨w.heap.size + 1, 0, none⟩ (.int .i64 5) := ⟨_, rfl⟩
            rw [← hW3] at HS3 HX3
            have HW3 := Lib.hid hW3
            clear S3 hW3 q1 q2
            go_upto_region 34 with fail
            rw [← HW3.out]
            clear k9 y9
            have FIN := Lib.hid (HS3.out.fin HN.out hc HX3.out HA.out).drew
            have r0 := HS3.out.act.cell 0
            have r1 := HS3.out.act.cell 1
            have r2 := HS3.out.act.cell 2
            have r3 := HS3.out.act.cell 3
            have k0 := HS3.out.res.frozen 0
            have k1 := HS3.out.res.frozen 1
            have k2 := HS3.out.res.frozen 2
            have k3 := HS3.out.res.frozen 3
            have z0 := HS3.out.res.cell 0
            have z1 := HS3.out.res.cell 1
            have z2 := HS3.out.res.cell 2
            have z3 := HS3.out.res.cell 3
            go_region
            all_goals
              go_wp2_with fail
              exact bodyPost_ret (v := .tuple #[.slice A n c, .agg #[.int .i64 5, .bool false, .int .i64 (-1), (.slice none 0 0)]]) (by simp [results, Try.results9, go_sem, r0, r1, r2, r3, k0, k1, k2, k3, z0, z1, z2, z3]) rfl (by rw [HR1.out]; exact FIN.out)
          · obtain ⟨s, hs⟩ : ∃ s, s = l[ia] := ⟨_, rfl⟩
            have hz1 : z2 = (ia : Int) := by rw [HZ2.out, q1]
            subst hz1
            have HR2 := Lib.hid (show r = (l.eraseIdx ia ++ [⟨page, 1, false⟩], ⟨0, false, s.page, if s.turned then [s.page] else []⟩) by
              rw [HR0.out, q1, if_neg (by omega), Int.toNat_natCast, show l.getD ia default = s by simp [hia]; exact hs.symm])
            obtain ⟨b, off, rfl, hbl, hcell⟩ := HX.out (by intro e; have := congrArg List.length e; rw [rowH_length] at this; simp only [List.length_nil] at this; omega)
            have HCC := Lib.hid (show ∀ w1, Below w.heap.size w w1 → ∀ k, k < 3 → w1.cell? ⟨b, off + ia * 3 + k, none⟩ = (heldV s)[k]? from fun w1 hB k hk => by
              rw [Nat.add_assoc, World.cell?_of_block (hB.block b hbl), hcell (ia * 3 + k) (by rw [rowH_length]; omega), rowH_at hia hk]
              exact congrArg (fun x : HeldM => (heldV x)[k]?) hs.symm)
            obtain ⟨qa, qb, pc⟩ := s
            dsimp only at HR2
            have c0 : wr.cell? ⟨b, off + ia * 3, none⟩ = some (.int .i64 qa) := HCC.out wr hS2.out.bel 0 (by omega)
            have S3 := hS2.out.put 2 (.int .i64 qa) (out2 := qa) rfl hS2.out.wrote
            have k9 := hS2.out.act.frozen 2
            have y9 := hS2.out.act.cell 2
            obtain ⟨W3, hW3⟩ : ∃ W3, W3 = wr.setCell ⟨w.heap.size + 1, 2, none⟩ (.int .i64 qa) := ⟨_, rfl⟩
            rw [← hW3] at S3
            have HS3 := Lib.hid S3
            have HW3 := Lib.hid hW3
            have c2 : W3.cell? ⟨b, off + ia * 3 + 2, none⟩ = some (.bool pc) := HCC.out W3 S3.bel 2 (by omega)
            have HIA := Lib.hid hia
            have HIN := Lib.hid (show ia < n by have := HN.out; omega)
            have j3 : (0 : Int) ≤ (ia : Int) := by omega
            have j4 : (ia : Int) < (n : Int) := by have := HIN.out; omega
            have j5 : ¬ (ia : Int) < 0 := by omega
            clear q1 q2 q3 hs hW3 hcell S3 hS2 HCC HR0
            go_upto_region 36 with fail
            rw [← HW3.out]
            clear k9 y9 c0
            cases pc
            · have HR1 := Lib.hid (show r = (l.eraseIdx ia ++ [⟨page, 1, false⟩], ⟨0, false, qa, []⟩) by rw [HR2.out]; rfl)
              clear HR2
              have CW := Lib.hid (without_any l n c ia b off HN.out HIN.out hc hz W3 (HX.out.bel HS3.out.bel))
              go_wp2_with fail
              refine CW.out.mono ?_
              rintro e w5 ⟨⟨g5, cap5, rfl, o5⟩, b5⟩
              have S5 := HS3.out.bel2 b5
              obtain ⟨D, hD⟩ : ∃ D, D = w5.heap.size := ⟨_, rfl⟩
              obtain ⟨n1, hn1⟩ : ∃ n1, n1 = n - 1 := ⟨_, rfl⟩
              rw [← hn1] at o5
              have hlt5 := HS3.out.act.lt
              have G0 := Lib.hid (show RdG w D 0 false qa (.slice none 0 0) [] (some ⟨g5, 0, none⟩) (l.eraseIdx ia) w5.drew from ⟨S5.bel.drew, by rw [hD]; exact Nat.le_refl _, by rw [hD]; exact S5.act.lt, S5.act, ⟨_, rfl, S5.res⟩, kept_bel S5.wrote (Below.refl _ _).drew, (fun b e => by cases e), fun hx => by
                obtain ⟨b2, off2, e1, e2, e3⟩ := own_seg o5 hx
                have hb := own_ge o5 (b := b2) (by have e1' := e1; injection e1' with e1'; rw [e1']; rfl)
                exact ⟨b2, off2, e1, by omega, by omega, e3⟩⟩)
              have HLN := Lib.hid (show n1 = (l.eraseIdx ia).length by rw [List.length_eraseIdx, if_pos HIA.out, hn1, HN.out])
              have HNO := Lib.hid (show (some (⟨g5, 0, none⟩ : Addr)) = none → n1 = 0 from fun e => by cases e)
              have hz1 : n1 ≤ 1000000 := by omega
              rw [← hn1]
              clear hD hn1 o5 b5 S5 hlt5 CW
              go_upto_region 39 with fail
              refine wp_region_list [some 147, some 148, some 149, some 150, some 151, some 152, some 153, some 154, some 8, none] (fun j => bif j == 8 then 153 else 0) (peF w.heap.size D 0 false qa (.slice none 0 0) (some ⟨g5, 0, none⟩) n1 cap5 (l.eraseIdx ia) page) (RdG w D 0 false qa (.slice none 0 0) [] (some ⟨g5, 0, none⟩) (l.eraseIdx ia)) (by kernel_rfl) G0.out rfl (by kernel_rfl) (by kernel_rfl) (by kernel_rfl) (by kernel_rfl) (fun T hT => ?_)
              simp only [List.filterMap_cons, List.filterMap_nil, id, putsS, Act.put, List.setIfInBounds_toArray, List.set_cons_zero, List.set_cons_succ] at hT
              subst hT
              refine ⟨⟨?_, ?_, ?_, ?_, ?_, ?_, ?_, ?_, ?_, ?_, trivial⟩, ?_⟩
              · -- 0: Op.buildSlice 29 0 #[]
                refine StepL.act ?_
                intro f w1 hG hF K hK
                clear hF
                dsimp only at hK ⊢
                go_simp
                exact hK.out _ _ (hG.next ((Below.refl _ _).alloc (Nat.le_refl _) _)) ⟨World.ownsRow_lit w1 #[] 0 hG.size (by decide) rfl, _, rfl⟩ (fun j _ u u' h => peF_bel ((Below.refl _ _).alloc (Nat.le_refl _) _) j u u' h)
              · -- 1: Op.move t0
                refine StepL.act ?_
                intro f w1 hG hF K hK
                clear hF
                dsimp only at hK ⊢
                go_simp
                exact hK.out _ _ hG rfl (fun _ _ _ _ h => h)
              · -- 2: Op.call ( builtin append, args := #[t147, t148], argTypes := #[29, 29] )
                intro f w1 hG hF K hK
                have d0 : (peF w.heap.size D 0 false qa (.slice none 0 0) (some ⟨g5, 0, none⟩) n1 cap5 (l.eraseIdx ia) page) 0 (f 147) (f 0) w1 := hF 0 (by kernel_rfl)
                have d1 : (peF w.heap.size D 0 false qa (.slice none 0 0) (some ⟨g5, 0, none⟩) n1 cap5 (l.eraseIdx ia) page) 1 (f 148) (f 0) w1 := hF 1 (by kernel_rfl)
                clear hF
                dsimp only at hK ⊢
                generalize hf147 : f 147 = v147 at *
                generalize hf148 : f 148 = v148 at *
                obtain ⟨d0, g0, rfl⟩ := d0
                have d1 : v148 = .slice (some ⟨g5, 0, none⟩) n1 cap5 := d1
                subst d1
                obtain ⟨v', w2', hrun, hown, hsome, hb2⟩ := app_lit D g0 w1 d0 (some ⟨g5, 0, none⟩) n1 cap5 (l.eraseIdx ia) HLN.out (fun ad e j u hu => by cases e; exact seg_cellsA (hG.seg.seg hG.size) j u hu) (by omega) HNO.out hG.size
                refine Lib.wp_append_run w1 _ _ _ _ rfl _ _ rfl rfl _ w2' hrun (hK.out v' w2' (hG.next hb2) ⟨hown, hsome⟩ (fun j hj hdep h => peF_bel hb2 j _ _ h))
              · -- 3: Op.move t3
                refine StepL.act ?_
                intro f w1 hG hF K hK
                clear hF
                dsimp only at hK ⊢
                go_simp
                exact hK.out _ _ hG rfl (fun _ _ _ _ h => h)
              · -- 4: Op.build 41 #[(0, t150), (1, const (1:i64)), (2, const (Value.bool false))]
                refine StepL.act ?_
                intro f w1 hG hF K hK
                have d3 : (peF w.heap.size D 0 false qa (.slice none 0 0) (some ⟨g5, 0, none⟩) n1 cap5 (l.eraseIdx ia) page) 3 (f 150) (f 0) w1 := hF 3 (by kernel_rfl)
                clear hF
                dsimp only at hK ⊢
                generalize f 150 = v150 at *
                subst d3
                go_simp
                exact hK.out _ _ hG rfl (fun _ _ _ _ h => h)
              · -- 5: Op.buildSlice 29 1 #[(0, t151)]
                refine StepL.act ?_
                intro f w1 hG hF K hK
                have d4 : (peF w.heap.size D 0 false qa (.slice none 0 0) (some ⟨g5, 0, none⟩) n1 cap5 (l.eraseIdx ia) page) 4 (f 151) (f 0) w1 := hF 4 (by kernel_rfl)
                clear hF
                dsimp only at hK ⊢
                generalize f 151 = v151 at *
                subst d4
                go_simp
                exact hK.out _ _ (hG.next ((Below.refl _ _).alloc (Nat.le_refl _) _)) ⟨w1.heap.size, rfl, hG.size, Bk.new w1 _ _⟩ (fun j _ u u' h => peF_bel ((Below.refl _ _).alloc (Nat.le_refl _) _) j u u' h)
              · -- 6: Op.call ( builtin append, args := #[t149, t152], argTypes := #[29, 29] )
                intro f w1 hG hF K hK
                have d2 : (peF w.heap.size D 0 false qa (.slice none 0 0) (some ⟨g5, 0, none⟩) n1 cap5 (l.eraseIdx ia) page) 2 (f 149) (f 0) w1 := hF 2 (by kernel_rfl)
                have d5 : (peF w.heap.size D 0 false qa (.slice none 0 0) (some ⟨g5, 0, none⟩) n1 cap5 (l.eraseIdx ia) page) 5 (f 152) (f 0) w1 := hF 5 (by kernel_rfl)
                clear hF
                dsimp only at hK ⊢
                generalize hf149 : f 149 = v149 at *
                generalize hf152 : f 152 = v152 at *
                obtain ⟨d2, g4, c4, rfl⟩ := d2
                obtain ⟨gq, rfl, hq0, hq1⟩ := d5
                have hcb : ∀ ad : Addr, some (⟨gq, 0, none⟩ : Addr) = some ad → ∀ j u, (rowH [⟨page, 1, false⟩])[j]? = some u → w1.cell? (ad.add j) = some u := fun ad e j u hu => by
                  cases e
                  rw [show ((⟨gq, 0, none⟩ : Addr).add j) = ⟨gq, j, none⟩ by unfold Addr.add; split <;> simp_all, hq1.cell j]; simpa [rowH] using hu
                obtain ⟨v', w2', hrun, hown, hsome, hold, hzero, hlit, hb2, _⟩ := app_two D g4 n1 c4 (l.eraseIdx ia) w1 d2 (some ⟨gq, 0, none⟩) 1 1 [⟨page, 1, false⟩] rfl hcb (by omega) (fun e => by cases e) hG.size
                refine Lib.wp_append_run w1 _ _ _ _ rfl _ _ rfl rfl _ w2' hrun (hK.out v' w2' (hG.low hb2) ⟨hown, hsome⟩ ?_)
                intro j hj hdep h
                by_cases h0 : j = 0
                · subst h0
                  obtain ⟨k1, k2⟩ := h
                  exact ⟨hzero _ k1, k2⟩
                by_cases h2 : j = 2
                · subst h2
                  have h : (peF w.heap.size D 0 false qa (.slice none 0 0) (some ⟨g5, 0, none⟩) n1 cap5 (l.eraseIdx ia) page) 2 (f 149) (f 0) w1 := h
                  obtain ⟨k1, g5, c5, k2⟩ := h
                  have h2 : (peF w.heap.size D 0 false qa (.slice none 0 0) (some ⟨g5, 0, none⟩) n1 cap5 (l.eraseIdx ia) page) 2 (f 149) (f 0) w2' := ⟨by rw [hf149]; exact hold, g5, c5, k2⟩
                  exact h2
                by_cases h5 : j = 5
                · subst h5
                  obtain ⟨g5, k1, k2, k3⟩ := h
                  exact ⟨g5, k1, k2, hlit _ _ rfl k3⟩
                exact peF_low hb2 (by have := hG.base; omega) j h0 h2 hj h5 _ _ h
              · -- 7: Op.load 33 t10
                refine StepL.act ?_
                intro f w1 hG hF K hK
                clear hF
                dsimp only at hK ⊢
                have y0 := hG.act.cell 0
                have y1 := hG.act.cell 1
                have y2 := hG.act.cell 2
                have y3 := hG.act.cell 3
                go_simp
                exact hK.out _ _ hG rfl (fun _ _ _ _ h => h)
              · -- 8: Op.assign t153
                intro f w1 hG hF K hK
                have d6 : (peF w.heap.size D 0 false qa (.slice none 0 0) (some ⟨g5, 0, none⟩) n1 cap5 (l.eraseIdx ia) page) 6 (f 153) (f 0) w1 := hF 6 (by kernel_rfl)
                clear hF
                dsimp only at hK ⊢
                generalize hf153 : f 153 = v153 at *
                obtain ⟨d6, g9, c9, rfl⟩ := d6
                go_simp
                exact hK.out _ _ hG hf153.symm (fun _ _ _ h => h)
              · -- 9: Op.store 33 t9 t154
                intro f w1 hG hF K hK
                have d7 : (peF w.heap.size D 0 false qa (.slice none 0 0) (some ⟨g5, 0, none⟩) n1 cap5 (l.eraseIdx ia) page) 7 (f 154) (f 0) w1 := hF 7 (by kernel_rfl)
                clear hF
                dsimp only at hK ⊢
                generalize hf154 : f 154 = v154 at *
                subst d7
                obtain ⟨cs, hcs, hres⟩ := hG.res
                have f0 := hres.frozen 0
                have f1 := hres.frozen 1
                have f2 := hres.frozen 2
                have f3 := hres.frozen 3
                have q0 := hres.cell 0
                have q1 := hres.cell 1
                have q2 := hres.cell 2
                have q3 := hres.cell 3
                obtain ⟨x0, x1, x2, x3, rfl⟩ := four hcs
                have HRS := Lib.hid hres
                have HG := Lib.hid hG
                clear hres hG
                go_simp
                exact hK.out undef _ HG.out.set (bk_at4 HRS.out rfl) (fun j hj _ h => peF_set (by have := HG.out.base; omega) j hj _ _ h)
              · intro f w6 hG hF
                have R : (peF w.heap.size D 0 false qa (.slice none 0 0) (some ⟨g5, 0, none⟩) n1 cap5 (l.eraseIdx ia) page) 6 (f 153) (f 0) w6 := hF 6 (by decide)
                have R2 : f 8 = f 153 := hF 8 (by decide)
                have R3 : Bk w6 w.heap.size 33 #[.int .i64 0, .bool false, .int .i64 qa, (.slice none 0 0)] := hF 9 (by decide)
                obtain ⟨R, g9, c9, R4⟩ := R
                rw [R4] at R R2
                clear R4
                have HG := Lib.hid hG
                clear hF hG
                dsimp only
                generalize f 147 = v147 at *
                generalize f 148 = v148 at *
                generalize f 149 = v149 at *
                generalize f 150 = v150 at *
                generalize f 151 = v151 at *
                generalize f 152 = v152 at *
                generalize f 153 = v153 at *
                generalize f 154 = v154 at *
                generalize f 8 = v8 at *
                subst R2
                have r0 := R3.cell 0
                have r1 := R3.cell 1
                have r2 := R3.cell 2
                have r3 := R3.cell 3
                have HR := Lib.hid R
                clear R R3
                go_wp2_with fail
                exact bodyPost_ret (v := .tuple #[.slice (some ⟨g9, 0, none⟩) (n1 + 1) c9, .agg #[.int .i64 0, .bool false, .int .i64 qa, (.slice none 0 0)]]) (by simp [results, Try.results9, go_sem, r0, r1, r2, r3]) rfl (by rw [HR1.out]; exact ⟨_, _, _, _, rfl, by rw [List.length_append, ← HLN.out]; rfl, own_le HR.out, own_seg HR.out, HG.out.wrote, HG.out.bel⟩)
            · have HR1 := Lib.hid (show r = (l.eraseIdx ia ++ [⟨page, 1, false⟩], ⟨0, false, qa, [qa]⟩) by rw [HR2.out]; rfl)
              clear HR2
              have y2 := HS3.out.act.cell 2
              have y3 := HS3.out.act.cell 3
              have k9 := HS3.out.act.frozen 3
              obtain ⟨W4, hW4⟩ : ∃ W4, W4 = (W3.setCell ⟨w.heap.size + 1, 3, none⟩ (.slice (some ⟨W3.heap.size, 0, none⟩) 1 1)).alloc (.cells #[.int .i64 qa] 3) := ⟨_, rfl⟩
              have hw := HS3.out.act.lt
              have HS4 := Lib.hid (show RdS w 0 false qa (.slice (some ⟨W3.heap.size, 0, none⟩) 1 1) [qa] W4 by
                rw [hW4, ← World.setCell_alloc_past _ _ _ _ HS3.out.act.lt]
                have al := (Below.refl W3.heap.size W3).alloc (Nat.le_refl _) (.cells #[.int .i64 qa] 3)
                exact (HS3.out.bel2 al).put 3 (.slice (some ⟨W3.heap.size, 0, none⟩) 1 1) rfl ⟨rfl, Or.inr ⟨W3.heap.size, 1, #[.int .i64 qa], rfl, by omega, Bk.new W3 _ _, Nat.le_refl _, by decide, rfl, rfl⟩⟩)
              have HGW := Lib.hid (show W3.heap.size < W4.heap.size by rw [hW4]; simp [World.setCell])
              obtain ⟨gW, hgW⟩ : ∃ gW, gW = W3.heap.size := ⟨_, rfl⟩
              rw [← hgW] at HS4 HGW hW4
              have HW4 := Lib.hid hW4
              clear hW4
              have CW := Lib.hid (without_any l n c ia b off HN.out HIN.out hc hz W4 (HX.out.bel HS4.out.bel))
              go_wp2_with fail
              rw [← hgW, ← HW4.out]
              clear y2 y3 k9 c2 hgW hw HS3 HW3
              refine CW.out.mono ?_
              rintro e w5 ⟨⟨g5, cap5, rfl, o5⟩, b5⟩
              have S5 := HS4.out.bel2 b5
              obtain ⟨D, hD⟩ : ∃ D, D = w5.heap.size := ⟨_, rfl⟩
              obtain ⟨n1, hn1⟩ : ∃ n1, n1 = n - 1 := ⟨_, rfl⟩
              rw [← hn1] at o5
              have hlt5 := HS4.out.act.lt
              have G0 := Lib.hid (show RdG w D 0 false qa (.slice (some ⟨gW, 0, none⟩) 1 1) [qa] (some ⟨g5, 0, none⟩) (l.eraseIdx ia) w5.drew from ⟨S5.bel.drew, by rw [hD]; exact Nat.le_refl _, by rw [hD]; exact S5.act.lt, S5.act, ⟨_, rfl, S5.res⟩, kept_bel S5.wrote (Below.refl _ _).drew, (fun b e => by injection e with e; rw [hD, ← e]; exact Nat.lt_of_lt_of_le HGW.out b5.size), fun hx => by
                obtain ⟨b2, off2, e1, e2, e3⟩ := own_seg o5 hx
                have hb := own_ge o5 (b := b2) (by have e1' := e1; injection e1' with e1'; rw [e1']; rfl)
                exact ⟨b2, off2, e1, by omega, by omega, e3⟩⟩)
              have HLN := Lib.hid (show n1 = (l.eraseIdx ia).length by rw [List.length_eraseIdx, if_pos HIA.out, hn1, HN.out])
              have HNO := Lib.hid (show (some (⟨g5, 0, none⟩ : Addr)) = none → n1 = 0 from fun e => by cases e)
              have hz1 : n1 ≤ 1000000 := by omega
              rw [← hn1]
              clear hD hn1 o5 b5 S5 hlt5 CW
              go_upto_region 39 with fail
              refine wp_region_list [some 147, some 148, some 149, some 150, some 151, some 152, some 153, some 154, some 8, none] (fun j => bif j == 8 then 153 else 0) (peF w.heap.size D 0 false qa (.slice (some ⟨gW, 0, none⟩) 1 1) (some ⟨g5, 0, none⟩) n1 cap5 (l.eraseIdx ia) page) (RdG w D 0 false qa (.slice (some ⟨gW, 0, none⟩) 1 1) [qa] (some ⟨g5, 0, none⟩) (l.eraseIdx ia)) (by kernel_rfl) G0.out rfl (by kernel_rfl) (by kernel_rfl) (by kernel_rfl) (by kernel_rfl) (fun T hT => ?_)
              simp only [List.filterMap_cons, List.filterMap_nil, id, putsS, Act.put, List.setIfInBounds_toArray, List.set_cons_zero, List.set_cons_succ] at hT
              subst hT
              refine ⟨⟨?_, ?_, ?_, ?_, ?_, ?_, ?_, ?_, ?_, ?_, trivial⟩, ?_⟩
              · -- 0: Op.buildSlice 29 0 #[]
                refine StepL.act ?_
                intro f w1 hG hF K hK
                clear hF
                dsimp only at hK ⊢
                go_simp
                exact hK.out _ _ (hG.next ((Below.refl _ _).alloc (Nat.le_refl _) _)) ⟨World.ownsRow_lit w1 #[] 0 hG.size (by decide) rfl, _, rfl⟩ (fun j _ u u' h => peF_bel ((Below.refl _ _).alloc (Nat.le_refl _) _) j u u' h)
              · -- 1: Op.move t0
                refine StepL.act ?_
                intro f w1 hG hF K hK
                clear hF
                dsimp only at hK ⊢
                go_simp
                exact hK.out _ _ hG rfl (fun _ _ _ _ h => h)
              · -- 2: Op.call ( builtin append, args := #[t147, t148], argTypes := #[29, 29] )
                intro f w1 hG hF K hK
                have d0 : (peF w.heap.size D 0 false qa (.slice (some ⟨gW, 0, none⟩) 1 1) (some ⟨g5, 0, none⟩) n1 cap5 (l.eraseIdx ia) page) 0 (f 147) (f 0) w1 := hF 0 (by kernel_rfl)
                have d1 : (peF w.heap.size D 0 false qa (.slice (some ⟨gW, 0, none⟩) 1 1) (some ⟨g5, 0, none⟩) n1 cap5 (l.eraseIdx ia) page) 1 (f 148) (f 0) w1 := hF 1 (by kernel_rfl)
                clear hF
                dsimp only at hK ⊢
                generalize hf147 : f 147 = v147 at *
                generalize hf148 : f 148 = v148 at *
                obtain ⟨d0, g0, rfl⟩ := d0
                have d1 : v148 = .slice (some ⟨g5, 0, none⟩) n1 cap5 := d1
                subst d1
                obtain ⟨v', w2', hrun, hown, hsome, hb2⟩ := app_lit D g0 w1 d0 (some ⟨g5, 0, none⟩) n1 cap5 (l.eraseIdx ia) HLN.out (fun ad e j u hu => by cases e; exact seg_cellsA (hG.seg.seg hG.size) j u hu) (by omega) HNO.out hG.size
                refine Lib.wp_append_run w1 _ _ _ _ rfl _ _ rfl rfl _ w2' hrun (hK.out v' w2' (hG.next hb2) ⟨hown, hsome⟩ (fun j hj hdep h => peF_bel hb2 j _ _ h))
              · -- 3: Op.move t3
                refine StepL.act ?_
                intro f w1 hG hF K hK
                clear hF
                dsimp only at hK ⊢
                go_simp
                exact hK.out _ _ hG rfl (fun _ _ _ _ h => h)
              · -- 4: Op.build 41 #[(0, t150), (1, const (1:i64)), (2, const (Value.bool false))]
                refine StepL.act ?_
                intro f w1 hG hF K hK
                have d3 : (peF w.heap.size D 0 false qa (.slice (some ⟨gW, 0, none⟩) 1 1) (some ⟨g5, 0, none⟩) n1 cap5 (l.eraseIdx ia) page) 3 (f 150) (f 0) w1 := hF 3 (by kernel_rfl)
                clear hF
                dsimp only at hK ⊢
                generalize f 150 = v150 at *
                subst d3
                go_simp
                exact hK.out _ _ hG rfl (fun _ _ _ _ h => h)
              · -- 5: Op.buildSlice 29 1 #[(0, t151)]
                refine StepL.act ?_
                intro f w1 hG hF K hK
                have d4 : (peF w.heap.size D 0 false qa (.slice (some ⟨gW, 0, none⟩) 1 1) (some ⟨g5, 0, none⟩) n1 cap5 (l.eraseIdx ia) page) 4 (f 151) (f 0) w1 := hF 4 (by kernel_rfl)
                clear hF
                dsimp only at hK ⊢
                generalize f 151 = v151 at *
                subst d4
                go_simp
                exact hK.out _ _ (hG.next ((Below.refl _ _).alloc (Nat.le_refl _) _)) ⟨w1.heap.size, rfl, hG.size, Bk.new w1 _ _⟩ (fun j _ u u' h => peF_bel ((Below.refl _ _).alloc (Nat.le_refl _) _) j u u' h)
              · -- 6: Op.call ( builtin append, args := #[t149, t152], argTypes := #[29, 29] )
                intro f w1 hG hF K hK
                have d2 : (peF w.heap.size D 0 false qa (.slice (some ⟨gW, 0, none⟩) 1 1) (some ⟨g5, 0, none⟩) n1 cap5 (l.eraseIdx ia) page) 2 (f 149) (f 0) w1 := hF 2 (by kernel_rfl)
                have d5 : (peF w.heap.size D 0 false qa (.slice (some ⟨gW, 0, none⟩) 1 1) (some ⟨g5, 0, none⟩) n1 cap5 (l.eraseIdx ia) page) 5 (f 152) (f 0) w1 := hF 5 (by kernel_rfl)
                clear hF
                dsimp only at hK ⊢
                generalize hf149 : f 149 = v149 at *
                generalize hf152 : f 152 = v152 at *
                obtain ⟨d2, g4, c4, rfl⟩ := d2
                obtain ⟨gq, rfl, hq0, hq1⟩ := d5
                have hcb : ∀ ad : Addr, some (⟨gq, 0, none⟩ : Addr) = some ad → ∀ j u, (rowH [⟨page, 1, false⟩])[j]? = some u → w1.cell? (ad.add j) = some u := fun ad e j u hu => by
                  cases e
                  rw [show ((⟨gq, 0, none⟩ : Addr).add j) = ⟨gq, j, none⟩ by unfold Addr.add; split <;> simp_all, hq1.cell j]; simpa [rowH] using hu
                obtain ⟨v', w2', hrun, hown, hsome, hold, hzero, hlit, hb2, _⟩ := app_two D g4 n1 c4 (l.eraseIdx ia) w1 d2 (some ⟨gq, 0, none⟩) 1 1 [⟨page, 1, false⟩] rfl hcb (by omega) (fun e => by cases e) hG.size
                refine Lib.wp_append_run w1 _ _ _ _ rfl _ _ rfl rfl _ w2' hrun (hK.out v' w2' (hG.low hb2) ⟨hown, hsome⟩ ?_)
                intro j hj hdep h
                by_cases h0 : j = 0
                · subst h0
                  obtain ⟨k1, k2⟩ := h
                  exact ⟨hzero _ k1, k2⟩
                by_cases h2 : j = 2
                · subst h2
                  have h : (peF w.heap.size D 0 false qa (.slice (some ⟨gW, 0, none⟩) 1 1) (some ⟨g5, 0, none⟩) n1 cap5 (l.eraseIdx ia) page) 2 (f 149) (f 0) w1 := h
                  obtain ⟨k1, g5, c5, k2⟩ := h
                  have h2 : (peF w.heap.size D 0 false qa (.slice (some ⟨gW, 0, none⟩) 1 1) (some ⟨g5, 0, none⟩) n1 cap5 (l.eraseIdx ia) page) 2 (f 149) (f 0) w2' := ⟨by rw [hf149]; exact hold, g5, c5, k2⟩
                  exact h2
                by_cases h5 : j = 5
                · subst h5
                  obtain ⟨g5, k1, k2, k3⟩ := h
                  exact ⟨g5, k1, k2, hlit _ _ rfl k3⟩
                exact peF_low hb2 (by have := hG.base; omega) j h0 h2 hj h5 _ _ h
              · -- 7: Op.load 33 t10
                refine StepL.act ?_
                intro f w1 hG hF K hK
                clear hF
                dsimp only at hK ⊢
                have y0 := hG.act.cell 0
                have y1 := hG.act.cell 1
                have y2 := hG.act.cell 2
                have y3 := hG.act.cell 3
                go_simp
                exact hK.out _ _ hG rfl (fun _ _ _ _ h => h)
              · -- 8: Op.assign t153
                intro f w1 hG hF K hK
                have d6 : (peF w.heap.size D 0 false qa (.slice (some ⟨gW, 0, none⟩) 1 1) (some ⟨g5, 0, none⟩) n1 cap5 (l.eraseIdx ia) page) 6 (f 153) (f 0) w1 := hF 6 (by kernel_rfl)
                clear hF
                dsimp only at hK ⊢
                generalize hf153 : f 153 = v153 at *
                obtain ⟨d6, g9, c9, rfl⟩ := d6
                go_simp
                exact hK.out _ _ hG hf153.symm (fun _ _ _ h => h)
              · -- 9: Op.store 33 t9 t154
                intro f w1 hG hF K hK
                have d7 : (peF w.heap.size D 0 false qa (.slice (some ⟨gW, 0, none⟩) 1 1) (some ⟨g5, 0, none⟩) n1 cap5 (l.eraseIdx ia) page) 7 (f 154) (f 0) w1 := hF 7 (by kernel_rfl)
                clear hF
                dsimp only at hK ⊢
                generalize hf154 : f 154 = v154 at *
                subst d7
                obtain ⟨cs, hcs, hres⟩ := hG.res
                have f0 := hres.frozen 0
                have f1 := hres.frozen 1
                have f2 := hres.frozen 2
                have f3 := hres.frozen 3
                have q0 := hres.cell 0
                have q1 := hres.cell 1
                have q2 := hres.cell 2
                have q3 := hres.cell 3
                obtain ⟨x0, x1, x2, x3, rfl⟩ := four hcs
                have HRS := Lib.hid hres
                have HG := Lib.hid hG
                clear hres hG
                go_simp
                exact hK.out undef _ HG.out.set (bk_at4 HRS.out rfl) (fun j hj _ h => peF_set (by have := HG.out.base; omega) j hj _ _ h)
              · intro f w6 hG hF
                have R : (peF w.heap.size D 0 false qa (.slice (some ⟨gW, 0, none⟩) 1 1) (some ⟨g5, 0, none⟩) n1 cap5 (l.eraseIdx ia) page) 6 (f 153) (f 0) w6 := hF 6 (by decide)
                have R2 : f 8 = f 153 := hF 8 (by decide)
                have R3 : Bk w6 w.heap.size 33 #[.int .i64 0, .bool false, .int .i64 qa, (.slice (some ⟨gW, 0, none⟩) 1 1)] := hF 9 (by decide)
                obtain ⟨R, g9, c9, R4⟩ := R
                rw [R4] at R R2
                clear R4
                have HG := Lib.hid hG
                clear hF hG
                dsimp only
                generalize f 147 = v147 at *
                generalize f 148 = v148 at *
                generalize f 149 = v149 at *
                generalize f 150 = v150 at *
                generalize f 151 = v151 at *
                generalize f 152 = v152 at *
                generalize f 153 = v153 at *
                generalize f 154 = v154 at *
                generalize f 8 = v8 at *
                subst R2
                have r0 := R3.cell 0
                have r1 := R3.cell 1
                have r2 := R3.cell 2
                have r3 := R3.cell 3
                have HR := Lib.hid R
                clear R R3
                go_wp2_with fail
                exact bodyPost_ret (v := .tuple #[.slice (some ⟨g9, 0, none⟩) (n1 + 1) c9, .agg #[.int .i64 0, .bool false, .int .i64 qa, (.slice (some ⟨gW, 0, none⟩) 1 1)]]) (by simp [results, Try.results9, go_sem, r0, r1, r2, r3]) rfl (by rw [HR1.out]; exact ⟨_, _, _, _, rfl, by rw [List.length_append, ← HLN.out]; rfl, own_le HR.out, own_seg HR.out, HG.out.wrote, HG.out.bel⟩)
end Go.Proofs.Ytfbpagbfdccgfaa
