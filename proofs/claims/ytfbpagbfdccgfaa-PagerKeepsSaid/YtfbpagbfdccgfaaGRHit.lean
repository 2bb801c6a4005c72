/- The reference's Do: a pin of a page that is there. Condition: the pages lie in memory, none twice. -/
import Derived.Test.YtfbpagbfdccgfaaGRS
import Derived.LoopTactic
import Derived.Lib.AppendZeros
namespace Go.Proofs.Ytfbpagbfdccgfaa
open Go.RowKit

/-- Each operation's fact, in the region of 21 operations. -/
def phF (B D : Nat) (e : Int) (hit : Bool) (out : Int) (W : Value) (b : Nat) (off : Nat) (n : Nat) (c : Nat) (l : List HeldM) (ia : Nat) (page : Int) (pb : Nat) (pc : Bool) (j : Nat) (v u0 : Value) (w : World) : Prop := match j with
  | 0 => v = .slice (some ⟨b, off, none⟩) n c
  | 1 => v = .int .i64 (ia : Int)
  | 2 => w.ownsRow D 41 3 v (n - 1) (rowH (l.eraseIdx ia)) ∧ ∃ g cap, v = .slice (some ⟨g, 0, none⟩) (n - 1) cap
  | 3 => v = .int .i64 page
  | 4 => v = .slice (some ⟨b, off, none⟩) n c
  | 5 => v = .int .i64 (ia : Int)
  | 6 => v = .pointer (some ⟨b, off + ia * 3, none⟩)
  | 7 => v = .pointer (some ⟨b, off + ia * 3 + 1, none⟩)
  | 8 => v = .int .i64 (pb : Int)
  | 9 => v = .int .i64 ((pb + 1 : Nat) : Int)
  | 10 => v = .slice (some ⟨b, off, none⟩) n c
  | 11 => v = .int .i64 (ia : Int)
  | 12 => v = .pointer (some ⟨b, off + ia * 3, none⟩)
  | 13 => v = .pointer (some ⟨b, off + ia * 3 + 2, none⟩)
  | 14 => v = .bool pc
  | 15 => v = .agg #[.int .i64 page, .int .i64 ((pb + 1 : Nat) : Int), .bool pc]
  | 16 => ∃ g, v = .slice (some ⟨g, 0, none⟩) 1 1 ∧ D ≤ g ∧ Bk w g 41 (heldV ⟨page, pb + 1, pc⟩).toArray
  | 17 => w.ownsRow D 41 3 v n (rowH (l.eraseIdx ia ++ [⟨page, pb + 1, pc⟩])) ∧ ∃ g cap, v = .slice (some ⟨g, 0, none⟩) n cap
  | 18 => v = .agg #[.int .i64 e, .bool hit, .int .i64 out, W]
  | 19 => v = u0
  | 20 => Bk w B 33 #[.int .i64 e, .bool hit, .int .i64 out, W]
  | _ => True
theorem phF_bel {B D : Nat} {e : Int} {hit : Bool} {out : Int} {W : Value} {b : Nat} {off : Nat} {n : Nat} {c : Nat} {l : List HeldM} {ia : Nat} {page : Int} {pb : Nat} {pc : Bool} {w w' : World} (hb : Below w.heap.size w w') : ∀ j u u', phF B D e hit out W b off n c l ia page pb pc j u u' w → phF B D e hit out W b off n c l ia page pb pc j u u' w' := by
  intro j u u' s
  unfold phF at *
  split at s <;> first | exact s | exact ⟨kept_bel s.1 hb, s.2⟩ | exact s.bel hb | skip
  · obtain ⟨g, hv, h0, h1⟩ := s
    exact ⟨g, hv, h0, h1.bel hb⟩
theorem phF_low {B D : Nat} {e : Int} {hit : Bool} {out : Int} {W : Value} {b : Nat} {off : Nat} {n : Nat} {c : Nat} {l : List HeldM} {ia : Nat} {page : Int} {pb : Nat} {pc : Bool} {w w' : World} (hb : Below D w w') (hD : B < D) : ∀ j, j ≠ 2 → j ≠ 17 → j ≠ 16 → ∀ u u', phF B D e hit out W b off n c l ia page pb pc j u u' w → phF B D e hit out W b off n c l ia page pb pc j u u' w' := by
  intro j h2 h17 h16 u u' s
  unfold phF at *
  split at s <;> first | exact s | exact absurd rfl h2 | exact absurd rfl h17 | exact absurd rfl h16 | exact Bk.below s hb hD
theorem phF_set {B D : Nat} {e : Int} {hit : Bool} {out : Int} {W : Value} {b : Nat} {off : Nat} {n : Nat} {c : Nat} {l : List HeldM} {ia : Nat} {page : Int} {pb : Nat} {pc : Bool} {w : World} {e2 : Int} {hit2 : Bool} {out2 : Int} {W2 : Value} (hD : B < D) : ∀ j, j ≠ 20 → ∀ u u', phF B D e hit out W b off n c l ia page pb pc j u u' w → phF B D e hit out W b off n c l ia page pb pc j u u' (set4 w B e2 hit2 out2 W2) := by
  intro j h9 u u' s
  unfold phF at *
  split at s <;> first | exact absurd rfl h9 | exact ⟨own_set4 s.1 (fun q => by have := own_ge s.1 q; omega), s.2⟩ | (obtain ⟨g, hv, h0, h1⟩ := s; exact ⟨g, hv, h0, bk_set4 h1 (by omega)⟩) | exact s
set_option maxRecDepth 100000 in
set_option maxHeartbeats 8000000 in
theorem rdo_hit (A : Option Addr) (n c : Nat) (l : List HeldM) (room page : Int) (ia : Nat) (hia0 : ia < l.length) (hn : n = l.length) (hc : n ≤ c) (hz : n ≤ 1000000) (w : World) (hS : Seg w A (rowH l)) (hA : ∀ a, A = some a → rowH l ≠ [] → a.block ≠ w.heap.size) (ho : Once l) (hp : 0 ≤ page) (hpn : ∀ s ∈ l, s.pins ≤ 4611686018427387904) (h1 : findZ (isP page) l = (ia : Int)) (h2 : isP page l[ia] = true) :
    Calls Try.prog 9 #[.slice A n c, .int .i64 room, .int .i64 1, .int .i64 page] w (RdP w (pinM room l page)) := by
  obtain ⟨W2, hW2⟩ : ∃ W2, W2 = (w.alloc (.cells #[.int .i64 0, .bool false, .int .i64 0, .slice none 0 0] 33)).alloc (.cells #[.int .i64 0, .bool false, .int .i64 (-1), .slice none 0 0] 33) := ⟨_, rfl⟩
  have HS2 := Lib.hid (show RdS w 0 false (-1) (.slice none 0 0) [] W2 by
    refine ⟨by rw [hW2]; exact ((Below.refl _ _).alloc (Nat.le_refl _) _).alloc (by simp) _, ?_, ?_, World.ownsRow_nil _ _ _ _⟩
    · rw [hW2]; exact (Bk.new w _ _).alloc _
    · rw [hW2]
      have k1 := Bk.new (w.alloc (.cells #[.int .i64 0, .bool false, .int .i64 0, .slice none 0 0] 33)) 33 #[.int .i64 0, .bool false, .int .i64 (-1), .slice none 0 0]
      rw [World.size_alloc] at k1
      exact k1)
  have HW2 := Lib.hid hW2
  clear hW2
  have HX := Lib.hid hS
  have HN := Lib.hid hn
  have HA := Lib.hid hA
  have HO := Lib.hid ho
  have HP := Lib.hid hpn
  have hia := hia0
  have h3 := True.intro
  have g4 : decide (page < 0) = false := decide_eq_false (by omega)
  obtain ⟨r, hr0⟩ : ∃ r, r = pinM room l page := ⟨_, rfl⟩
  rw [← hr0]
  have HR0 := Lib.hid hr0
  clear hS hn hA ho hp hr0 hpn
  go_enter Try.func9, Try.ntmps9
  go_upto_region 2 with fail
  rw [← HW2.out]
  go_wp2_with fail
  go_loopw [14, 67] (fun s14 s wr => ∃ (i : Nat) (z : Int), i ≤ n ∧ s = .int .i64 i ∧ s14 = .int .i64 z ∧ Hid (AtI (isP page) l i z) ∧ Hid (RdS w 0 false (-1) (.slice none 0 0) [] wr)) (fun _ s _ => n - (intOf s).toNat)
  case atStart => exact ⟨0, -1, Nat.zero_le _, rfl, rfl, Lib.hid (Or.inl ⟨rfl, fun j _ h => absurd h (Nat.not_lt_zero j)⟩), HS2⟩
  case round =>
    clear HS2 HW2
    obtain ⟨i, z, hin, rfl, rfl, hZ, hS⟩ := hrel
    by_cases hlt : i < n
    · have hil : i < l.length := by have := HN.out; omega
      obtain ⟨b, off, rfl, hbl, hcell⟩ := HX.out (by intro e; have := congrArg List.length e; rw [rowH_length] at this; simp only [List.length_nil] at this; omega)
      obtain ⟨s, hs⟩ : ∃ s, s = l[i] := ⟨_, rfl⟩
      have CC : ∀ k, k < 3 → wr.cell? ⟨b, off + i * 3 + k, none⟩ = (heldV s)[k]? := fun k hk => by
        rw [Nat.add_assoc, World.cell?_of_block (hS.out.bel.block b hbl), hcell (i * 3 + k) (by rw [rowH_length]; omega), rowH_at hil hk, hs]
      have HS1 := Lib.hid hs
      have HIL := Lib.hid hil
      have E1 := Lib.hid (show ((i : Int) + 1) = ((i + 1 : Nat) : Int) by omega)
      have MM := Lib.hid (show n - (intOf (.int .i64 ((i + 1 : Nat) : Int))).toNat < n - (intOf (.int .i64 (i : Int))).toNat by simp only [intOf]; omega)
      have i1 : (0 : Int) ≤ (i : Int) := by omega
      have i2 : (i : Int) < (n : Int) := by omega
      obtain ⟨pa, pb, pc⟩ := s
      have c0 : wr.cell? ⟨b, off + i * 3, none⟩ = some (.int .i64 pa) := CC 0 (by omega)
      have c1 : wr.cell? ⟨b, off + i * 3 + 1, none⟩ = some (.int .i64 (pb : Int)) := CC 1 (by omega)
      have c2 : wr.cell? ⟨b, off + i * 3 + 2, none⟩ = some (.bool pc) := CC 2 (by omega)
      have HS9 := Lib.hid (hS.out.bel2 ((Below.refl _ _).alloc (Nat.le_refl _) (.cells #[.int .i64 pa, .int .i64 (pb : Int), .bool pc] 41)))
      clear hcell hs CC
      by_cases hpp : pa = page
      · have e1 : (pa == page) = true := beq_iff_eq.2 hpp
        have HZ := Lib.hid (AtI.yes (p := isP page) HIL.out (by rw [← HS1.out]; exact e1))
        clear hZ hpp
        go_wp2_with fail
        rw [E1.out]
        exact ⟨⟨i + 1, i, by omega, rfl, rfl, HZ, HS9⟩, MM.out⟩
      · have e1 : (pa == page) = false := beq_eq_false_iff_ne.2 hpp
        have HZ := Lib.hid (hZ.out.no HIL.out (by rw [← HS1.out]; exact e1))
        clear hZ hpp
        go_wp2_with fail
        rw [E1.out]
        exact ⟨⟨i + 1, z, by omega, rfl, rfl, HZ, HS9⟩, MM.out⟩
    · have hii : i = l.length := by have := HN.out; omega
      have HZ := Lib.hid (show z = findZ (isP page) l by have := hZ.out; rw [hii] at this; exact this.fin HO.out)
      have i0 : ¬ (i : Int) < (n : Int) := by omega
      clear hZ hii
      obtain ⟨s, hs⟩ : ∃ s, s = l[ia] := ⟨_, rfl⟩
      have hsn := HP.out l[ia] (List.getElem_mem hia)
      rw [← hs] at hsn h2
      have hz1 : z = (ia : Int) := by rw [HZ.out, h1]
      subst hz1
      have HR1 := Lib.hid (show r = (l.eraseIdx ia ++ [⟨s.page, s.pins + 1, s.turned⟩], ⟨0, true, -1, []⟩) by
        rw [HR0.out]; unfold pinM; rw [h1, if_pos (by omega), Int.toNat_natCast, show l.getD ia default = s by simp [hia]; exact hs.symm])
      obtain ⟨b, off, rfl, hbl, hcell⟩ := HX.out (by intro e; have := congrArg List.length e; rw [rowH_length] at this; simp only [List.length_nil] at this; omega)
      obtain ⟨pa, pb, pc⟩ := s
      obtain rfl : pa = page := by unfold isP at h2; exact eq_of_beq h2
      dsimp only at HR1 hsn
      have S3 := hS.out.put 1 (.bool true) (hit2 := true) rfl hS.out.wrote
      have k9 := hS.out.act.frozen 1
      have y9 := hS.out.act.cell 1
      obtain ⟨W3, hW3⟩ : ∃ W3, W3 = wr.setCell ⟨w.heap.size + 1, 1, none⟩ (.bool true) := ⟨_, rfl⟩
      rw [← hW3] at S3
      have HW3 := Lib.hid hW3
      obtain ⟨D, hD⟩ : ∃ D, D = W3.heap.size := ⟨_, rfl⟩
      have G0 := Lib.hid (show RdG w D 0 true (-1) (.slice none 0 0) [] (some ⟨b, off, none⟩) l W3.drew from ⟨S3.bel.drew, by rw [hD]; exact Nat.le_refl _, by rw [hD]; exact S3.act.lt, S3.act, ⟨_, rfl, S3.res⟩, World.ownsRow_nil _ _ _ _, (fun b e => by cases e), fun hx => by
        obtain ⟨b2, off2, e1, e2, e3⟩ := HX.out hx
        have hb := S3.bel.size
        exact ⟨b2, off2, e1, by omega, HA.out _ e1 hx, fun i hi => by rw [← e3 i hi]; exact World.cell?_of_block (S3.bel.block b2 e2)⟩⟩)
      have HIA := Lib.hid hia
      have HSI := Lib.hid hs
      have HCC := Lib.hid (show ∀ w1, RdG w D 0 true (-1) (.slice none 0 0) [] (some ⟨b, off, none⟩) l w1 → ∀ k, k < 3 → w1.cell? ⟨b, off + ia * 3 + k, none⟩ = (heldV ⟨pa, pb, pc⟩)[k]? from fun w1 hG k hk => by
        rw [Nat.add_assoc, World.cell?_of_block (hG.bel.block b hbl), hcell (ia * 3 + k) (by rw [rowH_length]; have := HIA.out; omega), rowH_at HIA.out hk]
        exact congrArg (fun x : HeldM => (heldV x)[k]?) HSI.out.symm)
      have HIN := Lib.hid (show ia < n by have := HN.out; omega)
      have HC := Lib.hid hc
      have HZN := Lib.hid hz
      have HN1 := Lib.hid (show n - 1 + 1 = n by have := HIN.out; omega)
      have HL9 := Lib.hid (show n = (l.eraseIdx ia ++ [(⟨pa, pb + 1, pc⟩ : HeldM)]).length by rw [List.length_append, List.length_eraseIdx, if_pos HIA.out]; show n = l.length - 1 + 1; have := HN.out; have := HIN.out; omega)
      have EPB := Lib.hid (show (pb : Int) + 1 = ((pb + 1 : Nat) : Int) by omega)
      have j3 : (0 : Int) ≤ (ia : Int) := by omega
      have j4 : (ia : Int) < (n : Int) := by have := HIN.out; omega
      have j5 : ¬ (ia : Int) < 0 := by omega
      have e2 : IntKind.i64.wrap ((pb : Int) + 1) = (pb : Int) + 1 := by rw [IntKind.wrap_i64]; omega
      clear h1 h3 hs hW3 hcell S3 hD HR0 h2
      go_upto_region 24 with fail
      rw [← HW3.out]
      clear k9 y9
      refine wp_region_list [some 85, some 86, some 87, some 88, some 89, some 90, some 91, some 92, some 93, some 94, some 95, some 96, some 97, some 98, some 99, some 100, some 101, some 102, some 103, some 8, none] (fun j => bif j == 19 then 102 else 0) (phF w.heap.size D 0 true (-1) (.slice none 0 0) b off n c l ia pa pb pc) (RdG w D 0 true (-1) (.slice none 0 0) [] (some ⟨b, off, none⟩) l) (by kernel_rfl) G0.out rfl (by kernel_rfl) (by kernel_rfl) (by kernel_rfl) (by kernel_rfl) (fun T hT => ?_)
      simp only [List.filterMap_cons, List.filterMap_nil, id, putsS, Act.put, List.setIfInBounds_toArray, List.set_cons_zero, List.set_cons_succ] at hT
      subst hT
      refine ⟨⟨?_, ?_, ?_, ?_, ?_, ?_, ?_, ?_, ?_, ?_, ?_, ?_, ?_, ?_, ?_, ?_, ?_, ?_, ?_, ?_, ?_, trivial⟩, ?_⟩
      · -- 0: Op.move t0
        refine StepL.act ?_
        intro f w1 hG hF K hK
        clear hF
        dsimp only at hK ⊢
        go_simp
        exact hK.out _ _ hG rfl (fun _ _ _ _ h => h)
      · -- 1: Op.move t14
        refine StepL.act ?_
        intro f w1 hG hF K hK
        clear hF
        dsimp only at hK ⊢
        go_simp
        exact hK.out _ _ hG rfl (fun _ _ _ _ h => h)
      · -- 2: Op.call ( value (Operand.func 18), args := #[t85, t86], argTypes := #[29, 3] )
        intro f w1 hG hF K hK
        have d0 : (phF w.heap.size D 0 true (-1) (.slice none 0 0) b off n c l ia pa pb pc) 0 (f 85) (f 0) w1 := hF 0 (by kernel_rfl)
        have d1 : (phF w.heap.size D 0 true (-1) (.slice none 0 0) b off n c l ia pa pb pc) 1 (f 86) (f 0) w1 := hF 1 (by kernel_rfl)
        clear hF
        dsimp only at hK ⊢
        generalize hf85 : f 85 = v85 at *
        generalize hf86 : f 86 = v86 at *
        subst d0
        subst d1
        go_simp
        refine (without_any l n c ia b off HN.out HIN.out HC.out HZN.out w1 (hG.seg.seg hG.size)).mono ?_
        rintro e w2' ⟨⟨g', cap', rfl, hown⟩, hb2⟩
        exact hK.out _ w2' (hG.next hb2) ⟨own_base hown hG.size, _, _, rfl⟩ (fun j hj hdep h => phF_bel hb2 j _ _ h)
      · -- 3: Op.move t3
        refine StepL.act ?_
        intro f w1 hG hF K hK
        clear hF
        dsimp only at hK ⊢
        go_simp
        exact hK.out _ _ hG rfl (fun _ _ _ _ h => h)
      · -- 4: Op.move t0
        refine StepL.act ?_
        intro f w1 hG hF K hK
        clear hF
        dsimp only at hK ⊢
        go_simp
        exact hK.out _ _ hG rfl (fun _ _ _ _ h => h)
      · -- 5: Op.move t14
        refine StepL.act ?_
        intro f w1 hG hF K hK
        clear hF
        dsimp only at hK ⊢
        go_simp
        exact hK.out _ _ hG rfl (fun _ _ _ _ h => h)
      · -- 6: Op.indexAddr 29 t89 t90
        refine StepL.act ?_
        intro f w1 hG hF K hK
        have d4 : (phF w.heap.size D 0 true (-1) (.slice none 0 0) b off n c l ia pa pb pc) 4 (f 89) (f 0) w1 := hF 4 (by kernel_rfl)
        have d5 : (phF w.heap.size D 0 true (-1) (.slice none 0 0) b off n c l ia pa pb pc) 5 (f 90) (f 0) w1 := hF 5 (by kernel_rfl)
        clear hF
        dsimp only at hK ⊢
        generalize f 89 = v89 at *
        generalize f 90 = v90 at *
        subst d4
        subst d5
        go_simp
        exact hK.out _ _ hG rfl (fun _ _ _ _ h => h)
      · -- 7: Op.fieldAddr 41 t91 1
        refine StepL.act ?_
        intro f w1 hG hF K hK
        have d6 : (phF w.heap.size D 0 true (-1) (.slice none 0 0) b off n c l ia pa pb pc) 6 (f 91) (f 0) w1 := hF 6 (by kernel_rfl)
        clear hF
        dsimp only at hK ⊢
        generalize f 91 = v91 at *
        subst d6
        go_simp
        exact hK.out _ _ hG rfl (fun _ _ _ _ h => h)
      · -- 8: Op.load 3 t92
        refine StepL.act ?_
        intro f w1 hG hF K hK
        have d7 : (phF w.heap.size D 0 true (-1) (.slice none 0 0) b off n c l ia pa pb pc) 7 (f 92) (f 0) w1 := hF 7 (by kernel_rfl)
        clear hF
        dsimp only at hK ⊢
        generalize f 92 = v92 at *
        subst d7
        have y := HCC.out w1 hG 1 (by omega)
        have y1 : w1.cell? ⟨b, off + ia * 3 + 1, none⟩ = some (.int .i64 (pb : Int)) := y
        go_simp
        exact hK.out _ _ hG rfl (fun _ _ _ _ h => h)
      · -- 9: Op.binOp BinOp.add 3 t93 (const (1:i64)) 3
        refine StepL.act ?_
        intro f w1 hG hF K hK
        have d8 : (phF w.heap.size D 0 true (-1) (.slice none 0 0) b off n c l ia pa pb pc) 8 (f 93) (f 0) w1 := hF 8 (by kernel_rfl)
        clear hF
        dsimp only at hK ⊢
        generalize f 93 = v93 at *
        subst d8
        go_simp
        exact hK.out _ _ hG (show Value.int .i64 _ = Value.int .i64 _ by first | rfl | (rw [EPB.out])) (fun _ _ _ _ h => h)
      · -- 10: Op.move t0
        refine StepL.act ?_
        intro f w1 hG hF K hK
        clear hF
        dsimp only at hK ⊢
        go_simp
        exact hK.out _ _ hG rfl (fun _ _ _ _ h => h)
      · -- 11: Op.move t14
        refine StepL.act ?_
        intro f w1 hG hF K hK
        clear hF
        dsimp only at hK ⊢
        go_simp
        exact hK.out _ _ hG rfl (fun _ _ _ _ h => h)
      · -- 12: Op.indexAddr 29 t95 t96
        refine StepL.act ?_
        intro f w1 hG hF K hK
        have d10 : (phF w.heap.size D 0 true (-1) (.slice none 0 0) b off n c l ia pa pb pc) 10 (f 95) (f 0) w1 := hF 10 (by kernel_rfl)
        have d11 : (phF w.heap.size D 0 true (-1) (.slice none 0 0) b off n c l ia pa pb pc) 11 (f 96) (f 0) w1 := hF 11 (by kernel_rfl)
        clear hF
        dsimp only at hK ⊢
        generalize f 95 = v95 at *
        generalize f 96 = v96 at *
        subst d10
        subst d11
        go_simp
        exact hK.out _ _ hG rfl (fun _ _ _ _ h => h)
      · -- 13: Op.fieldAddr 41 t97 2
        refine StepL.act ?_
        intro f w1 hG hF K hK
        have d12 : (phF w.heap.size D 0 true (-1) (.slice none 0 0) b off n c l ia pa pb pc) 12 (f 97) (f 0) w1 := hF 12 (by kernel_rfl)
        clear hF
        dsimp only at hK ⊢
        generalize f 97 = v97 at *
        subst d12
        go_simp
        exact hK.out _ _ hG rfl (fun _ _ _ _ h => h)
      · -- 14: Op.load 4 t98
        refine StepL.act ?_
        intro f w1 hG hF K hK
        have d13 : (phF w.heap.size D 0 true (-1) (.slice none 0 0) b off n c l ia pa pb pc) 13 (f 98) (f 0) w1 := hF 13 (by kernel_rfl)
        clear hF
        dsimp only at hK ⊢
        generalize f 98 = v98 at *
        subst d13
        have y := HCC.out w1 hG 2 (by omega)
        have y1 : w1.cell? ⟨b, off + ia * 3 + 2, none⟩ = some (.bool pc) := y
        go_simp
        exact hK.out _ _ hG rfl (fun _ _ _ _ h => h)
      · -- 15: Op.build 41 #[(0, t88), (1, t94), (2, t99)]
        refine StepL.act ?_
        intro f w1 hG hF K hK
        have d3 : (phF w.heap.size D 0 true (-1) (.slice none 0 0) b off n c l ia pa pb pc) 3 (f 88) (f 0) w1 := hF 3 (by kernel_rfl)
        have d9 : (phF w.heap.size D 0 true (-1) (.slice none 0 0) b off n c l ia pa pb pc) 9 (f 94) (f 0) w1 := hF 9 (by kernel_rfl)
        have d14 : (phF w.heap.size D 0 true (-1) (.slice none 0 0) b off n c l ia pa pb pc) 14 (f 99) (f 0) w1 := hF 14 (by kernel_rfl)
        clear hF
        dsimp only at hK ⊢
        generalize f 88 = v88 at *
        generalize f 94 = v94 at *
        generalize f 99 = v99 at *
        subst d3
        subst d9
        subst d14
        go_simp
        exact hK.out _ _ hG rfl (fun _ _ _ _ h => h)
      · -- 16: Op.buildSlice 29 1 #[(0, t100)]
        refine StepL.act ?_
        intro f w1 hG hF K hK
        have d15 : (phF w.heap.size D 0 true (-1) (.slice none 0 0) b off n c l ia pa pb pc) 15 (f 100) (f 0) w1 := hF 15 (by kernel_rfl)
        clear hF
        dsimp only at hK ⊢
        generalize f 100 = v100 at *
        subst d15
        go_simp
        exact hK.out _ _ (hG.next ((Below.refl _ _).alloc (Nat.le_refl _) _)) ⟨w1.heap.size, rfl, hG.size, Bk.new w1 _ _⟩ (fun j _ u u' h => phF_bel ((Below.refl _ _).alloc (Nat.le_refl _) _) j u u' h)
      · -- 17: Op.call ( builtin append, args := #[t87, t101], argTypes := #[29, 29] )
        intro f w1 hG hF K hK
        have d2 : (phF w.heap.size D 0 true (-1) (.slice none 0 0) b off n c l ia pa pb pc) 2 (f 87) (f 0) w1 := hF 2 (by kernel_rfl)
        have d16 : (phF w.heap.size D 0 true (-1) (.slice none 0 0) b off n c l ia pa pb pc) 16 (f 101) (f 0) w1 := hF 16 (by kernel_rfl)
        clear hF
        dsimp only at hK ⊢
        generalize hf87 : f 87 = v87 at *
        generalize hf101 : f 101 = v101 at *
        obtain ⟨d2, g4, c4, rfl⟩ := d2
        obtain ⟨gq, rfl, hq0, hq1⟩ := d16
        have hcb : ∀ ad : Addr, some (⟨gq, 0, none⟩ : Addr) = some ad → ∀ j u, (rowH [⟨pa, pb + 1, pc⟩])[j]? = some u → w1.cell? (ad.add j) = some u := fun ad e j u hu => by
          cases e
          rw [show ((⟨gq, 0, none⟩ : Addr).add j) = ⟨gq, j, none⟩ by unfold Addr.add; split <;> simp_all, hq1.cell j]; simpa [rowH] using hu
        obtain ⟨v', w2', hrun, hown, hsome, hold, hzero, hlit, hb2, _⟩ := app_two D g4 (n - 1) c4 (l.eraseIdx ia) w1 d2 (some ⟨gq, 0, none⟩) 1 1 [⟨pa, pb + 1, pc⟩] rfl hcb (by omega) (fun e => by cases e) hG.size
        refine Lib.wp_append_run w1 _ _ _ _ rfl _ _ rfl rfl _ w2' hrun (hK.out v' w2' (hG.low hb2) (by rw [HN1.out] at hown hsome; exact ⟨hown, hsome⟩) ?_)
        intro j hj hdep h
        by_cases h2 : j = 2
        · subst h2
          have h : (phF w.heap.size D 0 true (-1) (.slice none 0 0) b off n c l ia pa pb pc) 2 (f 87) (f 0) w1 := h
          obtain ⟨k1, g5, c5, k2⟩ := h
          have h2 : (phF w.heap.size D 0 true (-1) (.slice none 0 0) b off n c l ia pa pb pc) 2 (f 87) (f 0) w2' := ⟨by rw [hf87]; exact hold, g5, c5, k2⟩
          exact h2
        by_cases h16 : j = 16
        · subst h16
          obtain ⟨g5, k1, k2, k3⟩ := h
          exact ⟨g5, k1, k2, hlit _ _ rfl k3⟩
        exact phF_low hb2 (by have := hG.base; omega) j h2 hj h16 _ _ h
      · -- 18: Op.load 33 t10
        refine StepL.act ?_
        intro f w1 hG hF K hK
        clear hF
        dsimp only at hK ⊢
        have y0 := hG.act.cell 0
        have y1 := hG.act.cell 1
        have y2 := hG.act.cell 2
        have y3 := hG.act.cell 3
        go_simp
        exact hK.out _ _ hG rfl (fun _ _ _ _ h => h)
      · -- 19: Op.assign t102
        intro f w1 hG hF K hK
        have d17 : (phF w.heap.size D 0 true (-1) (.slice none 0 0) b off n c l ia pa pb pc) 17 (f 102) (f 0) w1 := hF 17 (by kernel_rfl)
        clear hF
        dsimp only at hK ⊢
        generalize hf102 : f 102 = v102 at *
        obtain ⟨d17, g9, c9, rfl⟩ := d17
        go_simp
        exact hK.out _ _ hG hf102.symm (fun _ _ _ h => h)
      · -- 20: Op.store 33 t9 t103
        intro f w1 hG hF K hK
        have d18 : (phF w.heap.size D 0 true (-1) (.slice none 0 0) b off n c l ia pa pb pc) 18 (f 103) (f 0) w1 := hF 18 (by kernel_rfl)
        clear hF
        dsimp only at hK ⊢
        generalize hf103 : f 103 = v103 at *
        subst d18
        obtain ⟨cs, hcs, hres⟩ := hG.res
        have f0 := hres.frozen 0
        have f1 := hres.frozen 1
        have f2 := hres.frozen 2
        have f3 := hres.frozen 3
        have q0 := hres.cell 0
        have q1 := hres.cell 1
        have q2 := hres.cell 2
        have q3 := hres.cell 3
        obtain ⟨x0, x1, x2, x3, rfl⟩ := four hcs
        have HRS := Lib.hid hres
        have HG := Lib.hid hG
        clear hres hG
        go_simp
        exact hK.out undef _ HG.out.set (bk_at4 HRS.out rfl) (fun j hj _ h => phF_set (by have := HG.out.base; omega) j hj _ _ h)
      · intro f w6 hG hF
        have R : (phF w.heap.size D 0 true (-1) (.slice none 0 0) b off n c l ia pa pb pc) 17 (f 102) (f 0) w6 := hF 17 (by decide)
        have R2 : f 8 = f 102 := hF 19 (by decide)
        have R3 : Bk w6 w.heap.size 33 #[.int .i64 0, .bool true, .int .i64 (-1), (.slice none 0 0)] := hF 20 (by decide)
        obtain ⟨R, g9, c9, R4⟩ := R
        rw [R4] at R R2
        clear R4
        have HG := Lib.hid hG
        clear hF hG
        dsimp only
        generalize f 85 = v85 at *
        generalize f 86 = v86 at *
        generalize f 87 = v87 at *
        generalize f 88 = v88 at *
        generalize f 89 = v89 at *
        generalize f 90 = v90 at *
        generalize f 91 = v91 at *
        generalize f 92 = v92 at *
        generalize f 93 = v93 at *
        generalize f 94 = v94 at *
        generalize f 95 = v95 at *
        generalize f 96 = v96 at *
        generalize f 97 = v97 at *
        generalize f 98 = v98 at *
        generalize f 99 = v99 at *
        generalize f 100 = v100 at *
        generalize f 101 = v101 at *
        generalize f 102 = v102 at *
        generalize f 103 = v103 at *
        generalize f 8 = v8 at *
        subst R2
        have r0 := R3.cell 0
        have r1 := R3.cell 1
        have r2 := R3.cell 2
        have r3 := R3.cell 3
        have HR := Lib.hid R
        clear R R3
        go_wp2_with fail
        exact bodyPost_ret (v := .tuple #[.slice (some ⟨g9, 0, none⟩) n c9, .agg #[.int .i64 0, .bool true, .int .i64 (-1), (.slice none 0 0)]]) (by simp [results, Try.results9, go_sem, r0, r1, r2, r3]) rfl (by rw [HR1.out]; exact ⟨_, _, _, _, rfl, HL9.out, own_le HR.out, own_seg HR.out, HG.out.wrote, HG.out.bel⟩)
end Go.Proofs.Ytfbpagbfdccgfaa
