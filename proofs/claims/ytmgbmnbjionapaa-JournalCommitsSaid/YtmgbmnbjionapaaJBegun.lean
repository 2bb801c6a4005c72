/- The blocks of a commit that has none. Conditions: the journal and its disk lie in memory. -/
import Derived.Test.YtmgbmnbjionapaaJRead
namespace Go.Proofs.Ytmgbmnbjionapaa
open Go.RowKit

def rdb (q p b : Nat) (i : Nat) (v _u : Value) (_w : World) : Prop := match i with
  | 0 => v = .pointer (some ⟨q, 0, none⟩)
  | 1 => v = .pointer (some ⟨q, 0, none⟩)
  | 2 => v = .pointer (some ⟨q, 0, none⟩)
  | 3 => v = .pointer (some ⟨p, 0, none⟩)
  | 4 => v = .pointer (some ⟨q, 0, none⟩)
  | 5 => v = .pointer (some ⟨q, 0, none⟩)
  | 6 => v = .pointer (some ⟨q, 1, none⟩)
  | 7 => v = .int .i64 (b : Int)
  | 8 => v = .int .i64 ((b + 1 : Nat) : Int)
  | 9 => ∃ A c, v = .tuple #[.slice A 256 c, .int .i64 0]
  | 10 => ∃ A c, v = .tuple #[.slice A 256 c, .int .i64 0]
  | 11 => ∃ A c, v = .slice A 256 c
  | 12 => v = .int .i64 0
  | 13 => ∃ A c, v = .slice A 256 c
  | 14 => v = .int .i64 0
  | _ => True
set_option maxRecDepth 100000 in
set_option maxHeartbeats 4000000 in
theorem begun_zero (q p b s T : Nat) (S : Nat → Prop) (D : DM) (w : World) (hJ : Bk w q 101 (JrC p b s)) (hD : Dsk w S p T D) (hb : b + 1 < T) (hT : T ≤ 2048) :
    Calls Try.prog 56 #[.pointer (some ⟨q, 0, none⟩), .int .i64 0] w fun e w' => e = .returned (.slice none 0 0) ∧ Below w.heap.size w w' := by
  have HJ := Lib.hid hJ
  have HD := Lib.hid hD
  have hbw : IntKind.i64.wrap ((b : Int) + 1) = ((b + 1 : Nat) : Int) := by rw [IntWalk.i64_in _ ⟨by omega, by omega⟩]; omega
  have hbv : wrap64 ((b : Int) + 1) = ((b + 1 : Nat) : Int) := by rw [IntWalk.wrap64_in _ ⟨by omega, by omega⟩]; omega
  have G1 := Lib.hid (show Below w.heap.size w w.drew from (Below.refl _ _).drew)
  clear hJ hD
  go_enter Try.func56, Try.ntmps56
  go_upto_region 1 with fail
  refine wp_region_list [some 12, some 13, some 14, some 15, some 16, some 17, some 18, some 19, some 20, some 21, some 11, some 22, some 23, some 5, some 6] (fun _ => 0) (rdb q p b) (fun w5 => Below w.heap.size w w5) (by kernel_rfl) G1.out rfl (by kernel_rfl) (by kernel_rfl) (by kernel_rfl) (by kernel_rfl) (fun T hT => ?_)
  simp only [List.filterMap_cons, List.filterMap_nil, id, putsS, Act.put, List.setIfInBounds_toArray, List.set_cons_zero, List.set_cons_succ] at hT
  subst hT
  refine ⟨⟨?_, ?_, ?_, ?_, ?_, ?_, ?_, ?_, ?_, ?_, ?_, ?_, ?_, ?_, ?_, trivial⟩, ?_⟩
  · -- 0: Op.move t0
    refine StepL.act ?_
    intro f w1 hG hF K hK
    clear hF
    dsimp only at hK ⊢
    go_simp
    exact hK.out _ _ hG rfl (fun _ _ _ _ h => h)
  · -- 1: Op.nilCheck t12
    refine StepL.act ?_
    intro f w1 hG hF K hK
    have d0 : (rdb q p b) 0 (f 12) (f 0) w1 := hF 0 (by kernel_rfl)
    clear hF
    dsimp only at hK ⊢
    generalize f 12 = v12 at *
    subst d0
    go_simp
    exact hK.out _ _ hG rfl (fun _ _ _ _ h => h)
  · -- 2: Op.fieldAddr 101 t13 0
    refine StepL.act ?_
    intro f w1 hG hF K hK
    have d1 : (rdb q p b) 1 (f 13) (f 0) w1 := hF 1 (by kernel_rfl)
    clear hF
    dsimp only at hK ⊢
    generalize f 13 = v13 at *
    subst d1
    go_simp
    exact hK.out _ _ hG rfl (fun _ _ _ _ h => h)
  · -- 3: Op.load 43 t14
    refine StepL.act ?_
    intro f w1 hG hF K hK
    have d2 : (rdb q p b) 2 (f 14) (f 0) w1 := hF 2 (by kernel_rfl)
    clear hF
    dsimp only at hK ⊢
    generalize f 14 = v14 at *
    subst d2
    have y := (HJ.out.bel hG).cell 0
    simp only [JrC, List.getElem?_toArray, List.getElem?_cons_zero] at y
    go_simp
    exact hK.out _ _ hG rfl (fun _ _ _ _ h => h)
  · -- 4: Op.move t0
    refine StepL.act ?_
    intro f w1 hG hF K hK
    clear hF
    dsimp only at hK ⊢
    go_simp
    exact hK.out _ _ hG rfl (fun _ _ _ _ h => h)
  · -- 5: Op.nilCheck t16
    refine StepL.act ?_
    intro f w1 hG hF K hK
    have d4 : (rdb q p b) 4 (f 16) (f 0) w1 := hF 4 (by kernel_rfl)
    clear hF
    dsimp only at hK ⊢
    generalize f 16 = v16 at *
    subst d4
    go_simp
    exact hK.out _ _ hG rfl (fun _ _ _ _ h => h)
  · -- 6: Op.fieldAddr 101 t17 1
    refine StepL.act ?_
    intro f w1 hG hF K hK
    have d5 : (rdb q p b) 5 (f 17) (f 0) w1 := hF 5 (by kernel_rfl)
    clear hF
    dsimp only at hK ⊢
    generalize f 17 = v17 at *
    subst d5
    go_simp
    exact hK.out _ _ hG rfl (fun _ _ _ _ h => h)
  · -- 7: Op.load 3 t18
    refine StepL.act ?_
    intro f w1 hG hF K hK
    have d6 : (rdb q p b) 6 (f 18) (f 0) w1 := hF 6 (by kernel_rfl)
    clear hF
    dsimp only at hK ⊢
    generalize f 18 = v18 at *
    subst d6
    have y := (HJ.out.bel hG).cell 1
    simp only [JrC, List.getElem?_toArray, List.getElem?_cons_zero, List.getElem?_cons_succ] at y
    go_simp
    exact hK.out _ _ hG rfl (fun _ _ _ _ h => h)
  · -- 8: Op.binOp BinOp.add 3 t19 (const (1:i64)) 3
    refine StepL.act ?_
    intro f w1 hG hF K hK
    have d7 : (rdb q p b) 7 (f 19) (f 0) w1 := hF 7 (by kernel_rfl)
    clear hF
    dsimp only at hK ⊢
    generalize f 19 = v19 at *
    subst d7
    go_simp
    exact hK.out _ _ hG rfl (fun _ _ _ _ h => h)
  · -- 9: Op.call ( value (Operand.func 24), args := #[t15, t20], argTypes := #[43, 3] )
    refine StepL.act ?_
    intro f w1 hG hF K hK
    have d3 : (rdb q p b) 3 (f 15) (f 0) w1 := hF 3 (by kernel_rfl)
    have d8 : (rdb q p b) 8 (f 20) (f 0) w1 := hF 8 (by kernel_rfl)
    clear hF
    dsimp only at hK ⊢
    generalize f 15 = v15 at *
    generalize f 20 = v20 at *
    subst d3 d8
    have CR := Lib.hid ((HD.out.bel hG).read_ok (b + 1) hb)
    go_simp
    refine CR.out.mono ?_
    rintro e w5 ⟨A, c, rfl, _, ho, hb5⟩
    exact hK.out _ _ (hG.trans (hb5.mono hG.size)) ⟨A, c, rfl⟩ (fun _ _ _ _ h => h)
  · -- 10: Op.move t21
    refine StepL.act ?_
    intro f w1 hG hF K hK
    have d9 : (rdb q p b) 9 (f 21) (f 0) w1 := hF 9 (by kernel_rfl)
    clear hF
    dsimp only at hK ⊢
    generalize f 21 = v21 at *
    obtain ⟨A, c, rfl⟩ := d9
    go_simp
    exact hK.out _ _ hG ⟨A, c, rfl⟩ (fun _ _ _ _ h => h)
  · -- 11: Op.extract t11 0
    refine StepL.act ?_
    intro f w1 hG hF K hK
    have d10 : (rdb q p b) 10 (f 11) (f 0) w1 := hF 10 (by kernel_rfl)
    clear hF
    dsimp only at hK ⊢
    generalize f 11 = v11 at *
    obtain ⟨A, c, rfl⟩ := d10
    go_simp
    exact hK.out _ _ hG ⟨A, c, rfl⟩ (fun _ _ _ _ h => h)
  · -- 12: Op.extract t11 1
    refine StepL.act ?_
    intro f w1 hG hF K hK
    have d10 : (rdb q p b) 10 (f 11) (f 0) w1 := hF 10 (by kernel_rfl)
    clear hF
    dsimp only at hK ⊢
    generalize f 11 = v11 at *
    obtain ⟨A, c, rfl⟩ := d10
    go_simp
    exact hK.out _ _ hG rfl (fun _ _ _ _ h => h)
  · -- 13: Op.assign t22
    refine StepL.act ?_
    intro f w1 hG hF K hK
    have d11 : (rdb q p b) 11 (f 22) (f 0) w1 := hF 11 (by kernel_rfl)
    clear hF
    dsimp only at hK ⊢
    generalize f 22 = v22 at *
    obtain ⟨A, c, rfl⟩ := d11
    go_simp
    exact hK.out _ _ hG ⟨A, c, rfl⟩ (fun _ _ _ _ h => h)
  · -- 14: Op.assign t23
    refine StepL.act ?_
    intro f w1 hG hF K hK
    have d12 : (rdb q p b) 12 (f 23) (f 0) w1 := hF 12 (by kernel_rfl)
    clear hF
    dsimp only at hK ⊢
    generalize f 23 = v23 at *
    subst d12
    go_simp
    exact hK.out _ _ hG rfl (fun _ _ _ _ h => h)
  intro f w2 hG hF
  have HG2 := Lib.hid hG
  clear hF hG
  dsimp only
  generalize f 12 = v12
  generalize f 13 = v13
  generalize f 14 = v14
  generalize f 15 = v15
  generalize f 16 = v16
  generalize f 17 = v17
  generalize f 18 = v18
  generalize f 19 = v19
  generalize f 20 = v20
  generalize f 21 = v21
  generalize f 11 = v11
  generalize f 22 = v22
  generalize f 23 = v23
  generalize f 5 = v5
  generalize f 6 = v6
  go_wp2_with fail
  go_loopw [7, 25] (fun v i wr => v = .slice none 0 0 ∧ i = .int .i64 0 ∧ wr = w2) (fun _ _ _ => 0)
  case atStart => exact ⟨rfl, rfl, rfl⟩
  case round =>
    obtain ⟨rfl, rfl, rfl⟩ := hrel
    go_wp2_with fail
    go_ret
    exact ⟨rfl, HG2.out⟩
end Go.Proofs.Ytmgbmnbjionapaa
