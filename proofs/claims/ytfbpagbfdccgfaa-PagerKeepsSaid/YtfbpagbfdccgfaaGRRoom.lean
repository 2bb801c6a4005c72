/- The reference's Do: a pin that finds room. Condition: the pages lie in memory, none twice. -/
import Derived.Test.YtfbpagbfdccgfaaGRS
import Derived.LoopTactic
import Derived.Lib.AppendZeros
namespace Go.Proofs.Ytfbpagbfdccgfaa
open Go.RowKit

/-- Each operation's fact, in the region of 10 operations. -/
def peF (B D : Nat) (e : Int) (hit : Bool) (out : Int) (W : Value) (A : Option Addr) (n : Nat) (c : Nat) (l : List HeldM) (page : Int) (j : Nat) (v u0 : Value) (w : World) : Prop := match j with
  | 0 => w.ownsRow D 41 3 v 0 [] ∧ ∃ g, v = .slice (some ⟨g, 0, none⟩) 0 0
  | 1 => v = .slice A n c
  | 2 => w.ownsRow D 41 3 v n (rowH l) ∧ ∃ g cap, v = .slice (some ⟨g, 0, none⟩) n cap
  | 3 => v = .int .i64 page
  | 4 => v = .agg #[.int .i64 page, .int .i64 1, .bool false]
  | 5 => ∃ g, v = .slice (some ⟨g, 0, none⟩) 1 1 ∧ D ≤ g ∧ Bk w g 41 (heldV ⟨page, 1, false⟩).toArray
  | 6 => w.ownsRow D 41 3 v (n + 1) (rowH (l ++ [⟨page, 1, false⟩])) ∧ ∃ g cap, v = .slice (some ⟨g, 0, none⟩) (n + 1) cap
  | 7 => v = .agg #[.int .i64 e, .bool hit, .int .i64 out, W]
  | 8 => v = u0
  | 9 => Bk w B 33 #[.int .i64 e, .bool hit, .int .i64 out, W]
  | _ => True
theorem peF_bel {B D : Nat} {e : Int} {hit : Bool} {out : Int} {W : Value} {A : Option Addr} {n : Nat} {c : Nat} {l : List HeldM} {page : Int} {w w' : World} (hb : Below w.heap.size w w') : ∀ j u u', peF B D e hit out W A n c l page j u u' w → peF B D e hit out W A n c l page j u u' w' := by
  intro j u u' s
  unfold peF at *
  split at s <;> first | exact s | exact ⟨kept_bel s.1 hb, s.2⟩ | exact s.bel hb | skip
  · obtain ⟨g, hv, h0, h1⟩ := s
    exact ⟨g, hv, h0, h1.bel hb⟩
theorem peF_low {B D : Nat} {e : Int} {hit : Bool} {out : Int} {W : Value} {A : Option Addr} {n : Nat} {c : Nat} {l : List HeldM} {page : Int} {w w' : World} (hb : Below D w w') (hD : B < D) : ∀ j, j ≠ 0 → j ≠ 2 → j ≠ 6 → j ≠ 5 → ∀ u u', peF B D e hit out W A n c l page j u u' w → peF B D e hit out W A n c l page j u u' w' := by
  intro j h0 h2 h6 h5 u u' s
  unfold peF at *
  split at s <;> first | exact s | exact absurd rfl h0 | exact absurd rfl h2 | exact absurd rfl h6 | exact absurd rfl h5 | exact Bk.below s hb hD
theorem peF_set {B D : Nat} {e : Int} {hit : Bool} {out : Int} {W : Value} {A : Option Addr} {n : Nat} {c : Nat} {l : List HeldM} {page : Int} {w : World} {e2 : Int} {hit2 : Bool} {out2 : Int} {W2 : Value} (hD : B < D) : ∀ j, j ≠ 9 → ∀ u u', peF B D e hit out W A n c l page j u u' w → peF B D e hit out W A n c l page j u u' (set4 w B e2 hit2 out2 W2) := by
  intro j h9 u u' s
  unfold peF at *
  split at s <;> first | exact absurd rfl h9 | exact ⟨own_set4 s.1 (fun q => by have := own_ge s.1 q; omega), s.2⟩ | (obtain ⟨g, hv, h0, h1⟩ := s; exact ⟨g, hv, h0, bk_set4 h1 (by omega)⟩) | exact s
set_option maxRecDepth 100000 in
set_option maxHeartbeats 8000000 in
theorem rdo_room (A : Option Addr) (n c : Nat) (l : List HeldM) (room page : Int) (hn : n = l.length) (hc : n ≤ c) (hz : n ≤ 1000000) (w : World) (hS : Seg w A (rowH l)) (hA : ∀ a, A = some a → rowH l ≠ [] → a.block ≠ w.heap.size) (ho : Once l) (hp : 0 ≤ page) (hr : (l.length : Int) ≤ room) (h1 : findZ (isP page) l = -1) (hfull : ¬ (n : Int) = room) :
    Calls Try.prog 9 #[.slice A n c, .int .i64 room, .int .i64 1, .int .i64 page] w (RdP w (pinM room l page)) := by
  obtain ⟨W2, hW2⟩ : ∃ W2, W2 = (w.alloc (.cells #[.int .i64 0, .bool false, .int .i64 0, .slice none 0 0] 33)).alloc (.cells #[.int .i64 0, .bool false, .int .i64 (-1), .slice none 0 0] 33) := ⟨_, rfl⟩
  have HS2 := Lib.hid (show RdS w 0 false (-1) (.slice none 0 0) [] W2 by
    refine ⟨by rw [hW2]; exact ((Below.refl _ _).alloc (Nat.le_refl _) _).alloc (by simp) _, ?_, ?_, World.ownsRow_nil _ _ _ _⟩
    · rw [hW2]; exact (Bk.new w _ _).alloc _
    · rw [hW2]
      have k1 := Bk.new (w.alloc (.cells #[.int .i64 0, .bool false, .int .i64 0, .slice none 0 0] 33)) 33 #[.int .i64 0, .bool false, .int .i64 (-1), .slice none 0 0]
      rw [World.size_alloc] at k1
      exact k1)
  have HW2 := Lib.hid hW2
  clear hW2
  have HX := Lib.hid hS
  have HN := Lib.hid hn
  have HA := Lib.hid hA
  have HO := Lib.hid ho
  have HLR := Lib.hid hr
  have h2 := True.intro
  have g4 : decide (page < 0) = false := decide_eq_false (by omega)
  obtain ⟨r, hr0⟩ : ∃ r, r = pinM room l page := ⟨_, rfl⟩
  rw [← hr0]
  have HR0 := Lib.hid hr0
  clear hS hn hA ho hp hr hr0
  go_enter Try.func9, Try.ntmps9
  go_upto_region 2 with fail
  rw [← HW2.out]
  go_wp2_with fail
  go_loopw [14, 67] (fun s14 s wr => ∃ (i : Nat) (z : Int), i ≤ n ∧ s = .int .i64 i ∧ s14 = .int .i64 z ∧ Hid (AtI (isP page) l i z) ∧ Hid (RdS w 0 false (-1) (.slice none 0 0) [] wr)) (fun _ s _ => n - (intOf s).toNat)
  case atStart => exact ⟨0, -1, Nat.zero_le _, rfl, rfl, Lib.hid (Or.inl ⟨rfl, fun j _ h => absurd h (Nat.not_lt_zero j)⟩), HS2⟩
  case round =>
    clear HS2 HW2
    obtain ⟨i, z, hin, rfl, rfl, hZ, hS⟩ := hrel
    by_cases hlt : i < n
    · have hil : i < l.length := by have := HN.out; omega
      obtain ⟨b, off, rfl, hbl, hcell⟩ := HX.out (by intro e; have := congrArg List.length e; rw [rowH_length] at this; simp only [List.length_nil] at this; omega)
      obtain ⟨s, hs⟩ : ∃ s, s = l[i] := ⟨_, rfl⟩
      have CC : ∀ k, k < 3 → wr.cell? ⟨b, off + i * 3 + k, none⟩ = (heldV s)[k]? := fun k hk => by
        rw [Nat.add_assoc, World.cell?_of_block (hS.out.bel.block b hbl), hcell (i * 3 + k) (by rw [rowH_length]; omega), rowH_at hil hk, hs]
      have HS1 := Lib.hid hs
      have HIL := Lib.hid hil
      have E1 := Lib.hid (show ((i : Int) + 1) = ((i + 1 : Nat) : Int) by omega)
      have MM := Lib.hid (show n - (intOf (.int .i64 ((i + 1 : Nat) : Int))).toNat < n - (intOf (.int .i64 (i : Int))).toNat by simp only [intOf]; omega)
      have i1 : (0 : Int) ≤ (i : Int) := by omega
      have i2 : (i : Int) < (n : Int) := by omega
      obtain ⟨pa, pb, pc⟩ := s
      have c0 : wr.cell? ⟨b, off + i * 3, none⟩ = some (.int .i64 pa) := CC 0 (by omega)
      have c1 : wr.cell? ⟨b, off + i * 3 + 1, none⟩ = some (.int .i64 (pb : Int)) := CC 1 (by omega)
      have c2 : wr.cell? ⟨b, off + i * 3 + 2, none⟩ = some (.bool pc) := CC 2 (by omega)
      have HS9 := Lib.hid (hS.out.bel2 ((Below.refl _ _).alloc (Nat.le_refl _) (.cells #[.int .i64 pa, .int .i64 (pb : Int), .bool pc] 41)))
      clear hcell hs CC
      by_cases hpp : pa = page
      · have e1 : (pa == page) = true := beq_iff_eq.2 hpp
        have HZ := Lib.hid (AtI.yes (p := isP page) HIL.out (by rw [← HS1.out]; exact e1))
        clear hZ hpp
        go_wp2_with fail
        rw [E1.out]
        exact ⟨⟨i + 1, i, by omega, rfl, rfl, HZ, HS9⟩, MM.out⟩
      · have e1 : (pa == page) = false := beq_eq_false_iff_ne.2 hpp
        have HZ := Lib.hid (hZ.out.no HIL.out (by rw [← HS1.out]; exact e1))
        clear hZ hpp
        go_wp2_with fail
        rw [E1.out]
        exact ⟨⟨i + 1, z, by omega, rfl, rfl, HZ, HS9⟩, MM.out⟩
    · have hii : i = l.length := by have := HN.out; omega
      have HZ := Lib.hid (show z = findZ (isP page) l by have := hZ.out; rw [hii] at this; exact this.fin HO.out)
      have i0 : ¬ (i : Int) < (n : Int) := by omega
      clear hZ hii
      have HR1 := Lib.hid (show r = (l ++ [⟨page, 1, false⟩], ⟨0, false, -1, []⟩) by rw [HR0.out]; unfold pinM; rw [h1, if_neg (by decide), if_neg (by have := HLR.out; have := HN.out; omega)])
      have hz1 : z = -1 := by rw [HZ.out, h1]
      subst hz1
      have g7 : ((n : Int) == room) = false := beq_eq_false_iff_ne.2 hfull
      obtain ⟨D, hD⟩ : ∃ D, D = wr.heap.size := ⟨_, rfl⟩
      have G0 := Lib.hid (show RdG w D 0 false (-1) (.slice none 0 0) [] A l wr.drew from ⟨hS.out.bel.drew, by rw [hD]; exact Nat.le_refl _, by rw [hD]; exact hS.out.act.lt, hS.out.act, ⟨_, rfl, hS.out.res⟩, World.ownsRow_nil _ _ _ _, (fun b e => by cases e), fun hx => by
        obtain ⟨b, off, e1, e2, e3⟩ := HX.out hx
        have hb := hS.out.bel.size
        exact ⟨b, off, e1, by omega, HA.out _ e1 hx, fun i hi => by rw [← e3 i hi]; exact World.cell?_of_block (hS.out.bel.block b e2)⟩⟩)
      have HLN := HN
      have HNO := Lib.hid (show A = none → n = 0 from fun e => by
        rw [HN.out]
        cases l with
        | nil => rfl
        | cons x y => obtain ⟨b, off, e1, _⟩ := HX.out (by rw [rowH_cons]; simp [heldV]); rw [e] at e1; cases e1)
      clear h1 h2 hfull hD
      go_upto_region 39 with fail
      refine wp_region_list [some 147, some 148, some 149, some 150, some 151, some 152, some 153, some 154, some 8, none] (fun j => bif j == 8 then 153 else 0) (peF w.heap.size D 0 false (-1) (.slice none 0 0) A n c l page) (RdG w D 0 false (-1) (.slice none 0 0) [] A l) (by kernel_rfl) G0.out rfl (by kernel_rfl) (by kernel_rfl) (by kernel_rfl) (by kernel_rfl) (fun T hT => ?_)
      simp only [List.filterMap_cons, List.filterMap_nil, id, putsS, Act.put, List.setIfInBounds_toArray, List.set_cons_zero, List.set_cons_succ] at hT
      subst hT
      refine ⟨⟨?_, ?_, ?_, ?_, ?_, ?_, ?_, ?_, ?_, ?_, trivial⟩, ?_⟩
      · -- 0: Op.buildSlice 29 0 #[]
        refine StepL.act ?_
        intro f w1 hG hF K hK
        clear hF
        dsimp only at hK ⊢
        go_simp
        exact hK.out _ _ (hG.next ((Below.refl _ _).alloc (Nat.le_refl _) _)) ⟨World.ownsRow_lit w1 #[] 0 hG.size (by decide) rfl, _, rfl⟩ (fun j _ u u' h => peF_bel ((Below.refl _ _).alloc (Nat.le_refl _) _) j u u' h)
      · -- 1: Op.move t0
        refine StepL.act ?_
        intro f w1 hG hF K hK
        clear hF
        dsimp only at hK ⊢
        go_simp
        exact hK.out _ _ hG rfl (fun _ _ _ _ h => h)
      · -- 2: Op.call ( builtin append, args := #[t147, t148], argTypes := #[29, 29] )
        intro f w1 hG hF K hK
        have d0 : (peF w.heap.size D 0 false (-1) (.slice none 0 0) A n c l page) 0 (f 147) (f 0) w1 := hF 0 (by kernel_rfl)
        have d1 : (peF w.heap.size D 0 false (-1) (.slice none 0 0) A n c l page) 1 (f 148) (f 0) w1 := hF 1 (by kernel_rfl)
        clear hF
        dsimp only at hK ⊢
        generalize hf147 : f 147 = v147 at *
        generalize hf148 : f 148 = v148 at *
        obtain ⟨d0, g0, rfl⟩ := d0
        have d1 : v148 = .slice A n c := d1
        subst d1
        obtain ⟨v', w2', hrun, hown, hsome, hb2⟩ := app_lit D g0 w1 d0 A n c l HLN.out (fun ad e j u hu => by cases e; exact seg_cellsA (hG.seg.seg hG.size) j u hu) (by omega) HNO.out hG.size
        refine Lib.wp_append_run w1 _ _ _ _ rfl _ _ rfl rfl _ w2' hrun (hK.out v' w2' (hG.next hb2) ⟨hown, hsome⟩ (fun j hj hdep h => peF_bel hb2 j _ _ h))
      · -- 3: Op.move t3
        refine StepL.act ?_
        intro f w1 hG hF K hK
        clear hF
        dsimp only at hK ⊢
        go_simp
        exact hK.out _ _ hG rfl (fun _ _ _ _ h => h)
      · -- 4: Op.build 41 #[(0, t150), (1, const (1:i64)), (2, const (Value.bool false))]
        refine StepL.act ?_
        intro f w1 hG hF K hK
        have d3 : (peF w.heap.size D 0 false (-1) (.slice none 0 0) A n c l page) 3 (f 150) (f 0) w1 := hF 3 (by kernel_rfl)
        clear hF
        dsimp only at hK ⊢
        generalize f 150 = v150 at *
        subst d3
        go_simp
        exact hK.out _ _ hG rfl (fun _ _ _ _ h => h)
      · -- 5: Op.buildSlice 29 1 #[(0, t151)]
        refine StepL.act ?_
        intro f w1 hG hF K hK
        have d4 : (peF w.heap.size D 0 false (-1) (.slice none 0 0) A n c l page) 4 (f 151) (f 0) w1 := hF 4 (by kernel_rfl)
        clear hF
        dsimp only at hK ⊢
        generalize f 151 = v151 at *
        subst d4
        go_simp
        exact hK.out _ _ (hG.next ((Below.refl _ _).alloc (Nat.le_refl _) _)) ⟨w1.heap.size, rfl, hG.size, Bk.new w1 _ _⟩ (fun j _ u u' h => peF_bel ((Below.refl _ _).alloc (Nat.le_refl _) _) j u u' h)
      · -- 6: Op.call ( builtin append, args := #[t149, t152], argTypes := #[29, 29] )
        intro f w1 hG hF K hK
        have d2 : (peF w.heap.size D 0 false (-1) (.slice none 0 0) A n c l page) 2 (f 149) (f 0) w1 := hF 2 (by kernel_rfl)
        have d5 : (peF w.heap.size D 0 false (-1) (.slice none 0 0) A n c l page) 5 (f 152) (f 0) w1 := hF 5 (by kernel_rfl)
        clear hF
        dsimp only at hK ⊢
        generalize hf149 : f 149 = v149 at *
        generalize hf152 : f 152 = v152 at *
        obtain ⟨d2, g4, c4, rfl⟩ := d2
        obtain ⟨gq, rfl, hq0, hq1⟩ := d5
        have hcb : ∀ ad : Addr, some (⟨gq, 0, none⟩ : Addr) = some ad → ∀ j u, (rowH [⟨page, 1, false⟩])[j]? = some u → w1.cell? (ad.add j) = some u := fun ad e j u hu => by
          cases e
          rw [show ((⟨gq, 0, none⟩ : Addr).add j) = ⟨gq, j, none⟩ by unfold Addr.add; split <;> simp_all, hq1.cell j]; simpa [rowH] using hu
        obtain ⟨v', w2', hrun, hown, hsome, hold, hzero, hlit, hb2, _⟩ := app_two D g4 n c4 l w1 d2 (some ⟨gq, 0, none⟩) 1 1 [⟨page, 1, false⟩] rfl hcb (by omega) (fun e => by cases e) hG.size
        refine Lib.wp_append_run w1 _ _ _ _ rfl _ _ rfl rfl _ w2' hrun (hK.out v' w2' (hG.low hb2) ⟨hown, hsome⟩ ?_)
        intro j hj hdep h
        by_cases h0 : j = 0
        · subst h0
          obtain ⟨k1, k2⟩ := h
          exact ⟨hzero _ k1, k2⟩
        by_cases h2 : j = 2
        · subst h2
          have h : (peF w.heap.size D 0 false (-1) (.slice none 0 0) A n c l page) 2 (f 149) (f 0) w1 := h
          obtain ⟨k1, g5, c5, k2⟩ := h
          have h2 : (peF w.heap.size D 0 false (-1) (.slice none 0 0) A n c l page) 2 (f 149) (f 0) w2' := ⟨by rw [hf149]; exact hold, g5, c5, k2⟩
          exact h2
        by_cases h5 : j = 5
        · subst h5
          obtain ⟨g5, k1, k2, k3⟩ := h
          exact ⟨g5, k1, k2, hlit _ _ rfl k3⟩
        exact peF_low hb2 (by have := hG.base; omega) j h0 h2 hj h5 _ _ h
      · -- 7: Op.load 33 t10
        refine StepL.act ?_
        intro f w1 hG hF K hK
        clear hF
        dsimp only at hK ⊢
        have y0 := hG.act.cell 0
        have y1 := hG.act.cell 1
        have y2 := hG.act.cell 2
        have y3 := hG.act.cell 3
        go_simp
        exact hK.out _ _ hG rfl (fun _ _ _ _ h => h)
      · -- 8: Op.assign t153
        intro f w1 hG hF K hK
        have d6 : (peF w.heap.size D 0 false (-1) (.slice none 0 0) A n c l page) 6 (f 153) (f 0) w1 := hF 6 (by kernel_rfl)
        clear hF
        dsimp only at hK ⊢
        generalize hf153 : f 153 = v153 at *
        obtain ⟨d6, g9, c9, rfl⟩ := d6
        go_simp
        exact hK.out _ _ hG hf153.symm (fun _ _ _ h => h)
      · -- 9: Op.store 33 t9 t154
        intro f w1 hG hF K hK
        have d7 : (peF w.heap.size D 0 false (-1) (.slice none 0 0) A n c l page) 7 (f 154) (f 0) w1 := hF 7 (by kernel_rfl)
        clear hF
        dsimp only at hK ⊢
        generalize hf154 : f 154 = v154 at *
        subst d7
        obtain ⟨cs, hcs, hres⟩ := hG.res
        have f0 := hres.frozen 0
        have f1 := hres.frozen 1
        have f2 := hres.frozen 2
        have f3 := hres.frozen 3
        have q0 := hres.cell 0
        have q1 := hres.cell 1
        have q2 := hres.cell 2
        have q3 := hres.cell 3
        obtain ⟨x0, x1, x2, x3, rfl⟩ := four hcs
        have HRS := Lib.hid hres
        have HG := Lib.hid hG
        clear hres hG
        go_simp
        exact hK.out undef _ HG.out.set (bk_at4 HRS.out rfl) (fun j hj _ h => peF_set (by have := HG.out.base; omega) j hj _ _ h)
      · intro f w6 hG hF
        have R : (peF w.heap.size D 0 false (-1) (.slice none 0 0) A n c l page) 6 (f 153) (f 0) w6 := hF 6 (by decide)
        have R2 : f 8 = f 153 := hF 8 (by decide)
        have R3 : Bk w6 w.heap.size 33 #[.int .i64 0, .bool false, .int .i64 (-1), (.slice none 0 0)] := hF 9 (by decide)
        obtain ⟨R, g9, c9, R4⟩ := R
        rw [R4] at R R2
        clear R4
        have HG := Lib.hid hG
        clear hF hG
        dsimp only
        generalize f 147 = v147 at *
        generalize f 148 = v148 at *
        generalize f 149 = v149 at *
        generalize f 150 = v150 at *
        generalize f 151 = v151 at *
        generalize f 152 = v152 at *
        generalize f 153 = v153 at *
        generalize f 154 = v154 at *
        generalize f 8 = v8 at *
        subst R2
        have r0 := R3.cell 0
        have r1 := R3.cell 1
        have r2 := R3.cell 2
        have r3 := R3.cell 3
        have HR := Lib.hid R
        clear R R3
        go_wp2_with fail
        exact bodyPost_ret (v := .tuple #[.slice (some ⟨g9, 0, none⟩) (n + 1) c9, .agg #[.int .i64 0, .bool false, .int .i64 (-1), (.slice none 0 0)]]) (by simp [results, Try.results9, go_sem, r0, r1, r2, r3]) rfl (by rw [HR1.out]; exact ⟨_, _, _, _, rfl, by rw [List.length_append, ← HLN.out]; rfl, own_le HR.out, own_seg HR.out, HG.out.wrote, HG.out.bel⟩)
end Go.Proofs.Ytfbpagbfdccgfaa
