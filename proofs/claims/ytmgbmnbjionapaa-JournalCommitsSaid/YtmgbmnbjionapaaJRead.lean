/- A journal's head read. Conditions: the journal and its disk lie in memory; the block's bytes are bytes. -/
import Derived.Test.YtmgbmnbjionapaaJChk2
import Derived.Test.YtmgbmnbjionapaaJEq
import Derived.Test.YtmgbmnbjionapaaStableG
import Derived.IntWalk
namespace Go.Proofs.Ytmgbmnbjionapaa
open Go.RowKit

theorem own_belJ {w w' : World} {base n size : Nat} {e : TypeId} {v : Value} {xs : List Value} (h : w.ownsRow base e size v n xs) (hb : Below w.heap.size w w') : w'.ownsRow base e size v n xs := by
  refine ⟨h.1, ?_⟩
  rcases h.2 with hn | ⟨g, cap, cur, rfl, hg, hgg, rest⟩
  · exact .inl hn
  · refine .inr ⟨g, cap, cur, rfl, hg, ?_, rest⟩
    have hl : g < w.heap.size := by
      rcases Nat.lt_or_ge g w.heap.size with h | h
      · exact h
      · rw [Array.getElem?_eq_none h] at hgg; cases hgg
    exact (hb.block g hl).trans hgg
theorem own_lowJ {w : World} {b b' n size : Nat} {e : TypeId} {v : Value} {xs : List Value} (h : w.ownsRow b e size v n xs) (hb : b' ≤ b) : w.ownsRow b' e size v n xs := by
  refine ⟨h.1, ?_⟩
  rcases h.2 with hn | ⟨g, cap, cur, rfl, hg, rest⟩
  · exact .inl hn
  · exact .inr ⟨g, cap, cur, rfl, Nat.le_trans hb hg, rest⟩
def rd1 (w0 : World) (q p b : Nat) (B : List Nat) (i : Nat) (v _u : Value) (w : World) : Prop := match i with
  | 0 => v = .pointer (some ⟨q, 0, none⟩)
  | 1 => v = .pointer (some ⟨q, 0, none⟩)
  | 2 => v = .pointer (some ⟨q, 0, none⟩)
  | 3 => v = .pointer (some ⟨p, 0, none⟩)
  | 4 => v = .pointer (some ⟨q, 0, none⟩)
  | 5 => v = .pointer (some ⟨q, 0, none⟩)
  | 6 => v = .pointer (some ⟨q, 1, none⟩)
  | 7 => v = .int .i64 (b : Int)
  | 8 => v = .int .i64 (b : Int)
  | 9 => ∃ A c, v = .tuple #[.slice A 256 c, .int .i64 0] ∧ w.ownsRow w0.heap.size 5 1 (.slice A 256 c) 256 (u8s B)
  | 10 => ∃ A c, v = .tuple #[.slice A 256 c, .int .i64 0] ∧ w.ownsRow w0.heap.size 5 1 (.slice A 256 c) 256 (u8s B)
  | 11 => ∃ A c, v = .slice A 256 c ∧ w.ownsRow w0.heap.size 5 1 (.slice A 256 c) 256 (u8s B)
  | 12 => v = .int .i64 0
  | 13 => ∃ A c, v = .slice A 256 c ∧ w.ownsRow w0.heap.size 5 1 (.slice A 256 c) 256 (u8s B)
  | 14 => v = .int .i64 0
  | _ => True
theorem rd1_bel {w0 : World} {q p b : Nat} {B : List Nat} {w w' : World} (hb : Below w.heap.size w w') : ∀ j u u', rd1 w0 q p b B j u u' w → rd1 w0 q p b B j u u' w' := by
  intro j u u' h
  unfold rd1 at *
  split at h <;> first | exact h | (obtain ⟨A, c, hv, ho⟩ := h; exact ⟨A, c, hv, own_belJ ho hb⟩)
def rd2 (w0 : World) (g c : Nat) (x : Nat) (seq : Nat) (i : Nat) (v u : Value) (w : World) : Prop := match i with
  | 0 => v = .slice (some ⟨g, 0, none⟩) 256 c
  | 1 => v = .pointer (some ⟨g, 17, none⟩)
  | 2 => v = .int .u8 (x : Int)
  | 3 => v = .int .i64 (x : Int)
  | 4 => v = .slice (some ⟨g, 0, none⟩) 256 c
  | 5 => v = .slice (some ⟨g, 20, none⟩) 236 (c - 20)
  | 6 => v = .int .u64 (seq : Int)
  | 7 => v = .agg #[.int .i64 (x : Int), .int .u64 (seq : Int)]
  | 8 => ∃ pb, v = .pointer (some ⟨pb, 0, none⟩) ∧ w0.heap.size ≤ pb ∧ ∃ ds, ds.size = 2 ∧ Bk w pb 103 ds
  | 9 => ∃ pb, u = .pointer (some ⟨pb, 0, none⟩) ∧ w0.heap.size ≤ pb ∧ Bk w pb 103 #[.int .i64 (x : Int), .int .u64 (seq : Int)]
  | _ => True
theorem rd2_bel {w0 : World} {g c x seq : Nat} {w w' : World} (hb : Below w.heap.size w w') : ∀ j u u', rd2 w0 g c x seq j u u' w → rd2 w0 g c x seq j u u' w' := by
  intro j u u' h
  unfold rd2 at *
  split at h <;> first | exact h | skip
  · obtain ⟨pb, hv, hp, ds, hs, hk⟩ := h
    exact ⟨pb, hv, hp, ds, hs, hk.bel hb⟩
  · obtain ⟨pb, hv, hp, hk⟩ := h
    exact ⟨pb, hv, hp, hk.bel hb⟩
theorem rd2_set {w0 : World} {g c x seq : Nat} {w w' : World} : ∀ j, j ≠ 8 → j ≠ 9 → ∀ u u', rd2 w0 g c x seq j u u' w → rd2 w0 g c x seq j u u' w' := by
  intro j h8 h9 u u' h
  unfold rd2 at *
  split at h <;> first | exact h | exact absurd rfl h8 | exact absurd rfl h9
def rd3 (b s q g c pb x seq : Nat) (E : Bool) (i : Nat) (v _u : Value) (w : World) : Prop := match i with
  | 0 => v = .pointer (some ⟨pb, 0, none⟩)
  | 1 => v = .int .i64 (x : Int)
  | 2 => v = .pointer (some ⟨q, 0, none⟩)
  | 3 => v = .pointer (some ⟨q, 0, none⟩)
  | 4 => v = .pointer (some ⟨q, 2, none⟩)
  | 5 => v = .int .i64 (s : Int)
  | 6 => v = .bool false
  | 7 => v = .bool false
  | 8 => v = .slice (some ⟨g, 0, none⟩) 256 c
  | 9 => v = .slice (some ⟨g, 0, none⟩) 32 c
  | 10 => v = .pointer (some ⟨q, 0, none⟩)
  | 11 => v = .agg #[.int .i64 (x : Int), .int .u64 (seq : Int)]
  | 12 => ∃ gs, v = .slice (some ⟨gs, 0, none⟩) 32 32 ∧ Bk w gs 5 (u8s (sectN b s x seq)).toArray
  | 13 => v = .bool E
  | 14 => v = .bool (!E)
  | 15 => v = .bool (!E)
  | _ => True
theorem rd3_bel {b s q g c pb x seq : Nat} {E : Bool} {w w' : World} (hb : Below w.heap.size w w') : ∀ j u u', rd3 b s q g c pb x seq E j u u' w → rd3 b s q g c pb x seq E j u u' w' := by
  intro j u u' h
  unfold rd3 at *
  split at h <;> first | exact h | skip
  obtain ⟨gs, hv, hk⟩ := h
  exact ⟨gs, hv, hk.bel hb⟩
theorem array2 {xs : Array Value} (h : xs.size = 2) : ∃ a b, xs = #[a, b] := by
  obtain ⟨l⟩ := xs
  match l, h with
  | [a, b], _ => exact ⟨a, b, rfl⟩
set_option maxRecDepth 100000 in
set_option maxHeartbeats 4000000 in
theorem jhead_parts (q p b s T : Nat) (S : Nat → Prop) (D : DM) (w : World) (hJ : Bk w q 101 (JrC p b s)) (hD : Dsk w S p T D) (hb : b < T) (hT : T ≤ 2048) (hs : s < 256) (hB : ∀ x ∈ D.rd b, x < 256) (x seq : Nat) (hx : (D.rd b)[17]? = some x) (hseq : seq = leGet (((D.rd b).drop 20).take 8)) (R : Value) (ok : Bool)
    (hyes : x ≤ s → (D.rd b).take 32 = sectN b s x seq → ok = true ∧ R = .agg #[.int .i64 (x : Int), .int .u64 (seq : Int)]) (hno : ¬ (x ≤ s ∧ (D.rd b).take 32 = sectN b s x seq) → ok = false ∧ R = .agg #[.int .i64 0, .int .u64 0]) :
    Calls Try.prog 55 #[.pointer (some ⟨q, 0, none⟩)] w fun e w' => e = .returned (.tuple #[R, .bool ok]) ∧ Below w.heap.size w w' := by
  have hBl := rd_length hD.ok b hb
  obtain ⟨B, hBB⟩ : ∃ B, B = D.rd b := ⟨_, rfl⟩
  rw [← hBB] at hB hx hseq hyes hno hBl
  obtain ⟨wa, hw1⟩ : ∃ wa, wa = w.alloc (.cells #[.int .i64 0, .int .u64 0] 103) := ⟨_, rfl⟩
  have B1 : Below w.heap.size w wa := by rw [hw1]; exact (Below.refl _ _).alloc (Nat.le_refl _) _
  have HJ := Lib.hid (hJ.bel B1)
  have HD := Lib.hid (hD.bel B1)
  have HB1 := Lib.hid B1
  have HP := Lib.hid (show Bk wa w.heap.size 103 #[.int .i64 0, .int .u64 0] by rw [hw1]; exact Bk.new w _ _)
  have HW1 := Lib.hid hw1
  have HBB := Lib.hid hBB
  have HBL := Lib.hid hBl
  have HBY := Lib.hid hB
  have HX := Lib.hid hx
  have HSQ := Lib.hid hseq
  have HY := Lib.hid hyes
  have HNO := Lib.hid hno
  have hseq64 : seq < 18446744073709551616 := by rw [hseq]; exact leGet_take_lt _ (fun y hy => hB y (List.mem_of_mem_drop hy)) 8 (by omega)
  have hbw : IntKind.i64.wrap (b : Int) = (b : Int) := IntWalk.i64_in _ ⟨by omega, by omega⟩
  have hx256 : x < 256 := hB x (List.mem_of_getElem? hx)
  have hxw : IntKind.i64.wrap (x : Int) = (x : Int) := IntWalk.i64_in _ ⟨by omega, by omega⟩
  have G1 := Lib.hid (show Below wa.heap.size wa wa.drew from (Below.refl _ _).drew)
  clear hJ hD hw1 B1 hBB hB hx hseq hyes hno hBl
  go_enter Try.func55, Try.ntmps55
  go_upto_region 1 with fail
  rw [← HW1.out]
  refine wp_region_list [some 8, some 9, some 10, some 11, some 12, some 13, some 14, some 15, some 16, some 17, some 7, some 18, some 19, some 4, some 5] (fun _ => 0) (rd1 wa q p b B) (fun w5 => Below wa.heap.size wa w5) (by kernel_rfl) G1.out rfl (by kernel_rfl) (by kernel_rfl) (by kernel_rfl) (by kernel_rfl) (fun T hT => ?_)
  simp only [List.filterMap_cons, List.filterMap_nil, id, putsS, Act.put, List.setIfInBounds_toArray, List.set_cons_zero, List.set_cons_succ] at hT
  subst hT
  refine ⟨⟨?_, ?_, ?_, ?_, ?_, ?_, ?_, ?_, ?_, ?_, ?_, ?_, ?_, ?_, ?_, trivial⟩, ?_⟩
  · -- 0: Op.move t0
    refine StepL.act ?_
    intro f w1 hG hF K hK
    clear hF
    dsimp only at hK ⊢
    go_simp
    exact hK.out _ _ hG rfl (fun _ _ _ _ h => h)
  · -- 1: Op.nilCheck t8
    refine StepL.act ?_
    intro f w1 hG hF K hK
    have d0 : (rd1 wa q p b B) 0 (f 8) (f 0) w1 := hF 0 (by kernel_rfl)
    clear hF
    dsimp only at hK ⊢
    generalize f 8 = v8 at *
    subst d0
    go_simp
    exact hK.out _ _ hG rfl (fun _ _ _ _ h => h)
  · -- 2: Op.fieldAddr 101 t9 0
    refine StepL.act ?_
    intro f w1 hG hF K hK
    have d1 : (rd1 wa q p b B) 1 (f 9) (f 0) w1 := hF 1 (by kernel_rfl)
    clear hF
    dsimp only at hK ⊢
    generalize f 9 = v9 at *
    subst d1
    go_simp
    exact hK.out _ _ hG rfl (fun _ _ _ _ h => h)
  · -- 3: Op.load 43 t10
    refine StepL.act ?_
    intro f w1 hG hF K hK
    have d2 : (rd1 wa q p b B) 2 (f 10) (f 0) w1 := hF 2 (by kernel_rfl)
    clear hF
    dsimp only at hK ⊢
    generalize f 10 = v10 at *
    subst d2
    have y := (HJ.out.bel hG).cell 0
    simp only [JrC, List.getElem?_toArray, List.getElem?_cons_zero] at y
    go_simp
    exact hK.out _ _ hG rfl (fun _ _ _ _ h => h)
  · -- 4: Op.move t0
    refine StepL.act ?_
    intro f w1 hG hF K hK
    clear hF
    dsimp only at hK ⊢
    go_simp
    exact hK.out _ _ hG rfl (fun _ _ _ _ h => h)
  · -- 5: Op.nilCheck t12
    refine StepL.act ?_
    intro f w1 hG hF K hK
    have d4 : (rd1 wa q p b B) 4 (f 12) (f 0) w1 := hF 4 (by kernel_rfl)
    clear hF
    dsimp only at hK ⊢
    generalize f 12 = v12 at *
    subst d4
    go_simp
    exact hK.out _ _ hG rfl (fun _ _ _ _ h => h)
  · -- 6: Op.fieldAddr 101 t13 1
    refine StepL.act ?_
    intro f w1 hG hF K hK
    have d5 : (rd1 wa q p b B) 5 (f 13) (f 0) w1 := hF 5 (by kernel_rfl)
    clear hF
    dsimp only at hK ⊢
    generalize f 13 = v13 at *
    subst d5
    go_simp
    exact hK.out _ _ hG rfl (fun _ _ _ _ h => h)
  · -- 7: Op.load 3 t14
    refine StepL.act ?_
    intro f w1 hG hF K hK
    have d6 : (rd1 wa q p b B) 6 (f 14) (f 0) w1 := hF 6 (by kernel_rfl)
    clear hF
    dsimp only at hK ⊢
    generalize f 14 = v14 at *
    subst d6
    have y := (HJ.out.bel hG).cell 1
    simp only [JrC, List.getElem?_toArray, List.getElem?_cons_zero, List.getElem?_cons_succ] at y
    go_simp
    exact hK.out _ _ hG rfl (fun _ _ _ _ h => h)
  · -- 8: Op.binOp BinOp.add 3 t15 (const (0:i64)) 3
    refine StepL.act ?_
    intro f w1 hG hF K hK
    have d7 : (rd1 wa q p b B) 7 (f 15) (f 0) w1 := hF 7 (by kernel_rfl)
    clear hF
    dsimp only at hK ⊢
    generalize f 15 = v15 at *
    subst d7
    go_simp
    exact hK.out _ _ hG rfl (fun _ _ _ _ h => h)
  · -- 9: Op.call ( value (Operand.func 24), args := #[t11, t16], argTypes := #[43, 3] )
    refine StepL.act ?_
    intro f w1 hG hF K hK
    have d3 : (rd1 wa q p b B) 3 (f 11) (f 0) w1 := hF 3 (by kernel_rfl)
    have d8 : (rd1 wa q p b B) 8 (f 16) (f 0) w1 := hF 8 (by kernel_rfl)
    clear hF
    dsimp only at hK ⊢
    generalize f 11 = v11 at *
    generalize f 16 = v16 at *
    subst d3 d8
    have CR := Lib.hid ((HD.out.bel hG).read_ok b hb)
    go_simp
    refine CR.out.mono ?_
    rintro e w5 ⟨A, c, rfl, _, ho, hb5⟩
    rw [← HBB.out] at ho
    exact hK.out _ _ (hG.trans (hb5.mono hG.size)) ⟨A, c, rfl, own_lowJ ho hG.size⟩ (fun j _ u u' h => rd1_bel hb5 j u u' h)
  · -- 10: Op.move t17
    refine StepL.act ?_
    intro f w1 hG hF K hK
    have d9 : (rd1 wa q p b B) 9 (f 17) (f 0) w1 := hF 9 (by kernel_rfl)
    clear hF
    dsimp only at hK ⊢
    generalize f 17 = v17 at *
    obtain ⟨A, c, rfl, ho⟩ := d9
    go_simp
    exact hK.out _ _ hG ⟨A, c, rfl, ho⟩ (fun _ _ _ _ h => h)
  · -- 11: Op.extract t7 0
    refine StepL.act ?_
    intro f w1 hG hF K hK
    have d10 : (rd1 wa q p b B) 10 (f 7) (f 0) w1 := hF 10 (by kernel_rfl)
    clear hF
    dsimp only at hK ⊢
    generalize f 7 = v7 at *
    obtain ⟨A, c, rfl, ho⟩ := d10
    go_simp
    exact hK.out _ _ hG ⟨A, c, rfl, ho⟩ (fun _ _ _ _ h => h)
  · -- 12: Op.extract t7 1
    refine StepL.act ?_
    intro f w1 hG hF K hK
    have d10 : (rd1 wa q p b B) 10 (f 7) (f 0) w1 := hF 10 (by kernel_rfl)
    clear hF
    dsimp only at hK ⊢
    generalize f 7 = v7 at *
    obtain ⟨A, c, rfl, ho⟩ := d10
    go_simp
    exact hK.out _ _ hG rfl (fun _ _ _ _ h => h)
  · -- 13: Op.assign t18
    refine StepL.act ?_
    intro f w1 hG hF K hK
    have d11 : (rd1 wa q p b B) 11 (f 18) (f 0) w1 := hF 11 (by kernel_rfl)
    clear hF
    dsimp only at hK ⊢
    generalize f 18 = v18 at *
    obtain ⟨A, c, rfl, ho⟩ := d11
    go_simp
    exact hK.out _ _ hG ⟨A, c, rfl, ho⟩ (fun _ _ _ _ h => h)
  · -- 14: Op.assign t19
    refine StepL.act ?_
    intro f w1 hG hF K hK
    have d12 : (rd1 wa q p b B) 12 (f 19) (f 0) w1 := hF 12 (by kernel_rfl)
    clear hF
    dsimp only at hK ⊢
    generalize f 19 = v19 at *
    subst d12
    go_simp
    exact hK.out _ _ hG rfl (fun _ _ _ _ h => h)
  intro f wb hG hF
  obtain ⟨A, c, e13, ho⟩ : ∃ A c, f 4 = .slice A 256 c ∧ wb.ownsRow wa.heap.size 5 1 (.slice A 256 c) 256 (u8s B) := hF 13 (by decide)
  have HG2 := Lib.hid hG
  obtain ⟨g, cap, hv, _, hgl⟩ := ho.form (by decide)
  obtain ⟨rfl, rfl⟩ : A = some ⟨g, 0, none⟩ ∧ c = cap := by injection hv with h1 _ h3; exact ⟨h1, h3⟩
  have hcap : 256 ≤ c := by
    obtain ⟨_, _, hh, hc, _⟩ := own_shape ho
    injection hh with _ _ h3; omega
  have hc20 : ¬ c = 20 := by omega
  have HSeg := Lib.hid (Seg.of_own ho)
  clear hF hG hv
  dsimp only
  generalize f 8 = v8
  generalize f 9 = v9
  generalize f 10 = v10
  generalize f 11 = v11
  generalize f 12 = v12
  generalize f 13 = v13
  generalize f 14 = v14
  generalize f 15 = v15
  generalize f 16 = v16
  generalize f 17 = v17
  generalize f 7 = v7
  generalize f 18 = v18
  generalize f 19 = v19
  generalize f 5 = v5
  generalize f 4 = v4 at *
  subst e13
  have HO2 := Lib.hid ho
  have G2 := Lib.hid (show Below wb.heap.size wb wb.drew from (Below.refl _ _).drew)
  clear ho
  go_wp2_with fail
  refine wp_region_list [some 20, some 21, some 22, some 23, some 24, some 25, some 26, some 27, some 6, none] (fun j => if j = 9 then 6 else 0) (rd2 wb g c x seq) (fun w5 => Below wb.heap.size wb w5) (by kernel_rfl) G2.out rfl (by kernel_rfl) (by kernel_rfl) (by kernel_rfl) (by kernel_rfl) (fun T hT => ?_)
  simp only [List.filterMap_cons, List.filterMap_nil, id, putsS, Act.put, List.setIfInBounds_toArray, List.set_cons_zero, List.set_cons_succ] at hT
  subst hT
  refine ⟨⟨?_, ?_, ?_, ?_, ?_, ?_, ?_, ?_, ?_, ?_, trivial⟩, ?_⟩
  · -- 0: Op.move t4
    refine StepL.act ?_
    intro f w1 hG hF K hK
    clear hF
    dsimp only at hK ⊢
    go_simp
    exact hK.out _ _ hG rfl (fun _ _ _ _ h => h)
  · -- 1: Op.indexAddr 26 t20 (const (17:i64))
    refine StepL.act ?_
    intro f w1 hG hF K hK
    have d0 : (rd2 wb g c x seq) 0 (f 20) (f 0) w1 := hF 0 (by kernel_rfl)
    clear hF
    dsimp only at hK ⊢
    generalize f 20 = v20 at *
    subst d0
    go_simp
    exact hK.out _ _ hG rfl (fun _ _ _ _ h => h)
  · -- 2: Op.load 5 t21
    refine StepL.act ?_
    intro f w1 hG hF K hK
    have d1 : (rd2 wb g c x seq) 1 (f 21) (f 0) w1 := hF 1 (by kernel_rfl)
    clear hF
    dsimp only at hK ⊢
    generalize f 21 = v21 at *
    subst d1
    obtain ⟨b0, off0, e0, _, hc0⟩ := (HSeg.out.bel hG) (by intro h; have := congrArg List.length h; rw [u8s_length, HBL.out] at this; cases this)
    injection e0 with e0
    injection e0 with e1 e2
    subst e1
    subst e2
    have y := hc0 17 (by rw [u8s_length, HBL.out]; decide)
    rw [Nat.zero_add, show (u8s B)[17]? = some (.int .u8 (x : Int)) by unfold u8s; rw [List.getElem?_map, HX.out]; rfl] at y
    go_simp
    exact hK.out _ _ hG rfl (fun _ _ _ _ h => h)
  · -- 3: Op.convert 5 3 t22
    refine StepL.act ?_
    intro f w1 hG hF K hK
    have d2 : (rd2 wb g c x seq) 2 (f 22) (f 0) w1 := hF 2 (by kernel_rfl)
    clear hF
    dsimp only at hK ⊢
    generalize f 22 = v22 at *
    subst d2
    go_simp
    exact hK.out _ _ hG rfl (fun _ _ _ _ h => h)
  · -- 4: Op.move t4
    refine StepL.act ?_
    intro f w1 hG hF K hK
    clear hF
    dsimp only at hK ⊢
    go_simp
    exact hK.out _ _ hG rfl (fun _ _ _ _ h => h)
  · -- 5: Op.slice 26 t24 (some (const (20:i64))) none none
    refine StepL.act ?_
    intro f w1 hG hF K hK
    have d4 : (rd2 wb g c x seq) 4 (f 24) (f 0) w1 := hF 4 (by kernel_rfl)
    clear hF
    dsimp only at hK ⊢
    generalize f 24 = v24 at *
    subst d4
    go_simp
    exact hK.out _ _ hG rfl (fun _ _ _ _ h => h)
  · -- 6: Op.call ( value (Operand.func 71), args := #[t25, const (8:i64)], argTypes := #[
    refine StepL.act ?_
    intro f w1 hG hF K hK
    have d5 : (rd2 wb g c x seq) 5 (f 25) (f 0) w1 := hF 5 (by kernel_rfl)
    clear hF
    dsimp only at hK ⊢
    generalize f 25 = v25 at *
    subst d5
    have hs0 := (HSeg.out.bel hG).cut 20 c (by rw [u8s_length, HBL.out]; omega)
    rw [if_neg (by omega), show (u8s B).drop 20 = u8s (B.drop 20) by simp [u8s, List.map_drop]] at hs0
    have CG := Lib.hid (get_any (some ⟨g, 20, none⟩) 236 (c - 20) 8 (B.drop 20) (by rw [List.length_drop, HBL.out]) (by omega) (by omega) w1 hs0 (fun y hy => HBY.out y (List.mem_of_mem_drop hy)))
    rw [← HSQ.out] at CG
    go_simp
    refine CG.out.mono ?_
    rintro e w5 ⟨rfl, rfl⟩
    exact hK.out _ _ hG rfl (fun _ _ _ _ h => h)
  · -- 7: Op.build 103 #[(0, t23), (1, t26)]
    refine StepL.act ?_
    intro f w1 hG hF K hK
    have d3 : (rd2 wb g c x seq) 3 (f 23) (f 0) w1 := hF 3 (by kernel_rfl)
    have d6 : (rd2 wb g c x seq) 6 (f 26) (f 0) w1 := hF 6 (by kernel_rfl)
    clear hF
    dsimp only at hK ⊢
    generalize f 23 = v23 at *
    generalize f 26 = v26 at *
    subst d3
    subst d6
    go_simp
    exact hK.out _ _ hG rfl (fun _ _ _ _ h => h)
  · -- 8: Op.alloc 103
    refine StepL.act ?_
    intro f w1 hG hF K hK
    clear hF
    dsimp only at hK ⊢
    go_simp
    exact hK.out _ _ (hG.alloc hG.size _) ⟨w1.heap.size, rfl, hG.size, _, rfl, Bk.new w1 _ _⟩ (fun j _ u u' h => rd2_bel ((Below.refl _ _).alloc (Nat.le_refl _) _) j u u' h)
  · -- 9: Op.store 103 t6 t27
    intro f w1 hG hF K hK
    have d8 : (rd2 wb g c x seq) 8 (f 6) (f 0) w1 := hF 8 (by kernel_rfl)
    have d7 : (rd2 wb g c x seq) 7 (f 27) (f 0) w1 := hF 7 (by kernel_rfl)
    clear hF
    dsimp only at hK ⊢
    generalize hf6 : f 6 = v6 at *
    generalize hf27 : f 27 = v27 at *
    subst d7
    obtain ⟨pb, rfl, hp, ds, hds, hk⟩ := d8
    obtain ⟨a0, a1, rfl⟩ := array2 hds
    have z0 : w1.cell? ⟨pb, 0, none⟩ = some a0 := hk.cell 0
    have z1 : w1.cell? ⟨pb, 1, none⟩ = some a1 := hk.cell 1
    have f0 := hk.frozen 0
    have f1 := hk.frozen 1
    have HK9 := Lib.hid ((hk.put 0 (.int .i64 (x : Int))).put 1 (.int .u64 (seq : Int)))
    have HG9 := Lib.hid ((hG.setCell (p := ⟨pb, 0, none⟩) hp (.int .i64 (x : Int))).setCell (p := ⟨pb, 1, none⟩) hp (.int .u64 (seq : Int)))
    clear hk
    go_simp
    refine hK.out undef _ HG9.out ⟨pb, hf6, hp, HK9.out⟩ (fun j hj hdep h => ?_)
    by_cases h8 : j = 8
    · subst h8
      exact ⟨pb, hf6, hp, _, by simp, HK9.out⟩
    · exact rd2_set j h8 hj _ _ h
  intro f w3 hG hF
  obtain ⟨pb, e6, hpb, hbk⟩ : ∃ pb, f 6 = .pointer (some ⟨pb, 0, none⟩) ∧ wb.heap.size ≤ pb ∧ Bk w3 pb 103 #[.int .i64 (x : Int), .int .u64 (seq : Int)] := hF 9 (by decide)
  have HG3 := Lib.hid (HG2.out.trans (hG.mono HG2.out.size))
  have HB3 := Lib.hid (HB1.out.trans (HG3.out.mono HB1.out.size))
  have HJ3 := Lib.hid (HJ.out.bel HG3.out)
  have HP3 := Lib.hid (HP.out.bel HG3.out)
  have HSeg3 := Lib.hid (HSeg.out.bel hG)
  have HPB := Lib.hid hbk
  have G3 := Lib.hid (show Below w3.heap.size w3 w3.drew from (Below.refl _ _).drew)
  clear hF hG hbk
  dsimp only
  generalize f 20 = v20
  generalize f 21 = v21
  generalize f 22 = v22
  generalize f 23 = v23
  generalize f 24 = v24
  generalize f 25 = v25
  generalize f 26 = v26
  generalize f 27 = v27
  generalize f 6 = v6 at *
  subst e6
  by_cases hxs : x ≤ s
  · have hE0 : ∀ E : Bool, E = decide (B.take 32 = sectN b s x seq) → ok = E ∧ R = (if E then .agg #[.int .i64 (x : Int), .int .u64 (seq : Int)] else .agg #[.int .i64 0, .int .u64 0]) := fun E hE => by
      by_cases h : B.take 32 = sectN b s x seq
      · rw [decide_eq_true h] at hE; subst hE; exact HY.out hxs h
      · rw [decide_eq_false h] at hE; subst hE; exact HNO.out (fun hh => h hh.2)
    obtain ⟨E, hE⟩ : ∃ E : Bool, E = decide (B.take 32 = sectN b s x seq) := ⟨_, rfl⟩
    obtain ⟨rfl, hR⟩ := hE0 E hE
    have HE := Lib.hid hE
    have HR := Lib.hid hR
    have hsx : decide (s < x) = false := decide_eq_false (by omega)
    have hsxI : ¬ (s : Int) < (x : Int) := by omega
    clear hE0 hE hR
    go_wp2_with fail
    refine wp_region_guarded [some 28, some 29, some 30, some 31, some 32, some 33, some 34, some 35, some 36, some 37, some 38, some 39, some 40, some 41, some 42, some 43] (fun _ => 0) (rd3 b s q g c pb x seq ok) (fun w5 => Below w3.heap.size w3 w5) (by kernel_rfl) G3.out rfl (by kernel_rfl) (by kernel_rfl) (by kernel_rfl) (fun T hT => ?_)
    simp only [List.filterMap_cons, List.filterMap_nil, id, putsS, Act.put, List.setIfInBounds_toArray, List.set_cons_zero, List.set_cons_succ] at hT
    subst hT
    refine ⟨⟨?_, ?_, ?_, ?_, ?_, ?_, ?_, ?_, ?_, ?_, ?_, ?_, ?_, ?_, ?_, ?_, trivial⟩, ?_⟩
    · -- 0: Op.fieldAddr 103 t6 0
      refine StepA.guarded rfl ?_
      intro f w1 hG hF K hK
      clear hF
      dsimp only at hK ⊢
      go_simp
      exact hK.out _ _ hG rfl (fun _ _ _ h => h)
    · -- 1: Op.load 3 t28
      refine StepA.guarded rfl ?_
      intro f w1 hG hF K hK
      have d0 : (rd3 b s q g c pb x seq ok) 0 (f 28) (f 0) w1 := hF 0 (by kernel_rfl)
      clear hF
      dsimp only at hK ⊢
      generalize f 28 = v28 at *
      subst d0
      have y := (HPB.out.bel hG).cell 0
      simp only [List.getElem?_toArray, List.getElem?_cons_zero] at y
      go_simp
      exact hK.out _ _ hG rfl (fun _ _ _ h => h)
    · -- 2: Op.move t0
      refine StepA.guarded rfl ?_
      intro f w1 hG hF K hK
      clear hF
      dsimp only at hK ⊢
      go_simp
      exact hK.out _ _ hG rfl (fun _ _ _ h => h)
    · -- 3: Op.nilCheck t30
      refine StepA.guarded rfl ?_
      intro f w1 hG hF K hK
      have d2 : (rd3 b s q g c pb x seq ok) 2 (f 30) (f 0) w1 := hF 2 (by kernel_rfl)
      clear hF
      dsimp only at hK ⊢
      generalize f 30 = v30 at *
      subst d2
      go_simp
      exact hK.out _ _ hG rfl (fun _ _ _ h => h)
    · -- 4: Op.fieldAddr 101 t31 2
      refine StepA.guarded rfl ?_
      intro f w1 hG hF K hK
      have d3 : (rd3 b s q g c pb x seq ok) 3 (f 31) (f 0) w1 := hF 3 (by kernel_rfl)
      clear hF
      dsimp only at hK ⊢
      generalize f 31 = v31 at *
      subst d3
      go_simp
      exact hK.out _ _ hG rfl (fun _ _ _ h => h)
    · -- 5: Op.load 3 t32
      refine StepA.guarded rfl ?_
      intro f w1 hG hF K hK
      have d4 : (rd3 b s q g c pb x seq ok) 4 (f 32) (f 0) w1 := hF 4 (by kernel_rfl)
      clear hF
      dsimp only at hK ⊢
      generalize f 32 = v32 at *
      subst d4
      have y := (HJ3.out.bel hG).cell 2
      simp only [JrC, List.getElem?_toArray, List.getElem?_cons_zero, List.getElem?_cons_succ] at y
      go_simp
      exact hK.out _ _ hG rfl (fun _ _ _ h => h)
    · -- 6: Op.binOp BinOp.gtr 3 t29 t33 3
      refine StepA.guarded rfl ?_
      intro f w1 hG hF K hK
      have d1 : (rd3 b s q g c pb x seq ok) 1 (f 29) (f 0) w1 := hF 1 (by kernel_rfl)
      have d5 : (rd3 b s q g c pb x seq ok) 5 (f 33) (f 0) w1 := hF 5 (by kernel_rfl)
      clear hF
      dsimp only at hK ⊢
      generalize f 29 = v29 at *
      generalize f 33 = v33 at *
      subst d1
      subst d5
      go_simp
      exact hK.out _ _ hG rfl (fun _ _ _ h => h)
    · -- 7: Op.move t34
      refine StepA.guarded rfl ?_
      intro f w1 hG hF K hK
      have d6 : (rd3 b s q g c pb x seq ok) 6 (f 34) (f 0) w1 := hF 6 (by kernel_rfl)
      clear hF
      dsimp only at hK ⊢
      generalize f 34 = v34 at *
      subst d6
      go_simp
      exact hK.out _ _ hG rfl (fun _ _ _ h => h)
    · -- 8: Op.move t4   
      intro f w1 hG hF K hK
      have d7 : (rd3 b s q g c pb x seq ok) 7 (f 35) (f 0) w1 := hF 7 (by kernel_rfl)
      clear hF
      rw [if_pos (by rw [wanted_val (g := 7) (d := 35) (b := false) (c := false) rfl (by kernel_rfl) (show some (f 35) = some (.bool false) from congrArg some d7)]; rfl)]
      dsimp only at hK ⊢
      generalize f 35 = v35 at *
      subst d7
      go_simp
      exact hK.out _ _ hG rfl (fun _ _ _ h => h)
    · -- 9: Op.slice 26 t36 none (some (const (32:i64))) none   
      intro f w1 hG hF K hK
      have d7 : (rd3 b s q g c pb x seq ok) 7 (f 35) (f 0) w1 := hF 7 (by kernel_rfl)
      have d8 : (rd3 b s q g c pb x seq ok) 8 (f 36) (f 0) w1 := hF 8 (by kernel_rfl)
      clear hF
      rw [if_pos (by rw [wanted_val (g := 7) (d := 35) (b := false) (c := false) rfl (by kernel_rfl) (show some (f 35) = some (.bool false) from congrArg some d7)]; rfl)]
      dsimp only at hK ⊢
      generalize f 35 = v35 at *
      generalize f 36 = v36 at *
      subst d7
      subst d8
      have hc32 : (32 : Int) ≤ (c : Int) := by omega
      go_simp
      exact hK.out _ _ hG rfl (fun _ _ _ h => h)
    · -- 10: Op.move t0   
      intro f w1 hG hF K hK
      have d7 : (rd3 b s q g c pb x seq ok) 7 (f 35) (f 0) w1 := hF 7 (by kernel_rfl)
      clear hF
      rw [if_pos (by rw [wanted_val (g := 7) (d := 35) (b := false) (c := false) rfl (by kernel_rfl) (show some (f 35) = some (.bool false) from congrArg some d7)]; rfl)]
      dsimp only at hK ⊢
      generalize f 35 = v35 at *
      subst d7
      go_simp
      exact hK.out _ _ hG rfl (fun _ _ _ h => h)
    · -- 11: Op.load 103 t6   
      intro f w1 hG hF K hK
      have d7 : (rd3 b s q g c pb x seq ok) 7 (f 35) (f 0) w1 := hF 7 (by kernel_rfl)
      clear hF
      rw [if_pos (by rw [wanted_val (g := 7) (d := 35) (b := false) (c := false) rfl (by kernel_rfl) (show some (f 35) = some (.bool false) from congrArg some d7)]; rfl)]
      dsimp only at hK ⊢
      generalize f 35 = v35 at *
      subst d7
      have y0 := (HPB.out.bel hG).cell 0
      have y1 := (HPB.out.bel hG).cell 1
      simp only [List.getElem?_toArray, List.getElem?_cons_zero, List.getElem?_cons_succ] at y0 y1
      go_simp
      exact hK.out _ _ hG rfl (fun _ _ _ h => h)
    · -- 12: Op.call ( value (Operand.func 73), args := #[t38, t39], argT
      intro f w1 hG hF K hK
      have d7 : (rd3 b s q g c pb x seq ok) 7 (f 35) (f 0) w1 := hF 7 (by kernel_rfl)
      have d10 : (rd3 b s q g c pb x seq ok) 10 (f 38) (f 0) w1 := hF 10 (by kernel_rfl)
      have d11 : (rd3 b s q g c pb x seq ok) 11 (f 39) (f 0) w1 := hF 11 (by kernel_rfl)
      clear hF
      rw [if_pos (by rw [wanted_val (g := 7) (d := 35) (b := false) (c := false) rfl (by kernel_rfl) (show some (f 35) = some (.bool false) from congrArg some d7)]; rfl)]
      dsimp only at hK ⊢
      generalize f 35 = v35 at *
      generalize f 38 = v38 at *
      generalize f 39 = v39 at *
      subst d7
      have d11 : v39 = .agg #[.int .i64 (x : Int), .int .u64 (seq : Int)] := d11
      subst d10 d11
      have CS := Lib.hid (sector_any q p b s x seq w1 (HJ3.out.bel hG) hs hx256 (by omega) hseq64)
      go_simp
      refine CS.out.mono ?_
      rintro e w5 ⟨gs, rfl, _, hk, hb5⟩
      exact hK.out _ _ (hG.trans (hb5.mono hG.size)) ⟨gs, rfl, hk⟩ (fun j _ _ h => rd3_bel hb5 j _ _ h)
    · -- 13: Op.call ( value (Operand.func 72), args := #[t37, t40], argT
      intro f w1 hG hF K hK
      have d7 : (rd3 b s q g c pb x seq ok) 7 (f 35) (f 0) w1 := hF 7 (by kernel_rfl)
      have d9 : (rd3 b s q g c pb x seq ok) 9 (f 37) (f 0) w1 := hF 9 (by kernel_rfl)
      have d12 : (rd3 b s q g c pb x seq ok) 12 (f 40) (f 0) w1 := hF 12 (by kernel_rfl)
      clear hF
      rw [if_pos (by rw [wanted_val (g := 7) (d := 35) (b := false) (c := false) rfl (by kernel_rfl) (show some (f 35) = some (.bool false) from congrArg some d7)]; rfl)]
      dsimp only at hK ⊢
      generalize f 35 = v35 at *
      generalize f 37 = v37 at *
      generalize f 40 = v40 at *
      subst d7
      subst d9
      obtain ⟨gs, rfl, hk⟩ := d12
      have CE := Lib.hid (equal_any (some ⟨g, 0, none⟩) (some ⟨gs, 0, none⟩) 32 32 c 32 (B.take 32) (sectN b s x seq) (by rw [List.length_take, HBL.out]; rfl) (by rw [sectN_length]) w1 (by have := (HSeg3.out.bel hG).take 32; rwa [show (u8s B).take 32 = u8s (B.take 32) by simp [u8s, List.map_take]] at this) (Seg.of_block hk (fun i hi => by simp)) (fun y hy => HBY.out y (List.mem_of_mem_take hy)) (sectN_lt b s x seq hs hx256))
      rw [← HE.out] at CE
      go_simp
      refine CE.out.mono ?_
      rintro e w5 ⟨rfl, rfl⟩
      exact hK.out _ _ hG rfl (fun _ _ _ h => h)
    · -- 14: Op.unOp UnOp.not 4 t41   
      intro f w1 hG hF K hK
      have d7 : (rd3 b s q g c pb x seq ok) 7 (f 35) (f 0) w1 := hF 7 (by kernel_rfl)
      have d13 : (rd3 b s q g c pb x seq ok) 13 (f 41) (f 0) w1 := hF 13 (by kernel_rfl)
      clear hF
      rw [if_pos (by rw [wanted_val (g := 7) (d := 35) (b := false) (c := false) rfl (by kernel_rfl) (show some (f 35) = some (.bool false) from congrArg some d7)]; rfl)]
      dsimp only at hK ⊢
      generalize f 35 = v35 at *
      generalize f 41 = v41 at *
      subst d7
      subst d13
      go_simp
      exact hK.out _ _ hG rfl (fun _ _ _ h => h)
    · -- 15: Op.pick t35 (const (Value.bool true)) t42
      refine StepA.guarded rfl ?_
      intro f w1 hG hF K hK
      have d7 : (rd3 b s q g c pb x seq ok) 7 (f 35) (f 0) w1 := hF 7 (by kernel_rfl)
      have d14 : (rd3 b s q g c pb x seq ok) 14 (f 42) (f 0) w1 := hF 14 (by kernel_rfl)
      clear hF
      dsimp only at hK ⊢
      generalize f 35 = v35 at *
      generalize f 42 = v42 at *
      subst d7
      subst d14
      go_simp
      exact hK.out _ _ hG rfl (fun _ _ _ h => h)
    intro f w4 hG hF
    have e43 : f 43 = .bool (!ok) := hF 15 (by decide)
    have HB4 := Lib.hid (HB3.out.trans (hG.mono HB3.out.size))
    have X4 := HP3.out.bel hG
    have Y4 := HPB.out.bel hG
    clear hF hG
    dsimp only
    generalize f 28 = v28
    generalize f 29 = v29
    generalize f 30 = v30
    generalize f 31 = v31
    generalize f 32 = v32
    generalize f 33 = v33
    generalize f 34 = v34
    generalize f 35 = v35
    generalize f 36 = v36
    generalize f 37 = v37
    generalize f 38 = v38
    generalize f 39 = v39
    generalize f 40 = v40
    generalize f 41 = v41
    generalize f 42 = v42
    generalize f 43 = v43 at *
    subst e43
    cases ok with
    | true =>
      have x0 := X4.cell 0
      have x1 := X4.cell 1
      have f0 := X4.frozen 0
      have f1 := X4.frozen 1
      have y0 := Y4.cell 0
      have y1 := Y4.cell 1
      simp only [List.getElem?_toArray, List.getElem?_cons_zero, List.getElem?_cons_succ] at x0 x1 y0 y1
      have X9 := Lib.hid ((X4.put 0 (.int .i64 (x : Int))).put 1 (.int .u64 (seq : Int)))
      have HB9 := Lib.hid ((HB4.out.setCell (p := ⟨w.heap.size, 0, none⟩) (Nat.le_refl _) (.int .i64 (x : Int))).setCell (p := ⟨w.heap.size, 1, none⟩) (Nat.le_refl _) (.int .u64 (seq : Int)))
      clear X4 Y4
      go_wp2_with fail
      generalize ((w4.setCell ⟨w.heap.size, 0, none⟩ (.int .i64 (x : Int))).setCell ⟨w.heap.size, 1, none⟩ (.int .u64 (seq : Int))) = w9 at *
      have q0 := X9.out.cell 0
      have q1 := X9.out.cell 1
      rw [show (((#[.int .i64 0, .int .u64 0] : Array Value).setIfInBounds 0 (.int .i64 (x : Int))).setIfInBounds 1 (.int .u64 (seq : Int)) : Array Value) = #[.int .i64 (x : Int), .int .u64 (seq : Int)] from rfl] at q0 q1
      simp only [List.getElem?_toArray, List.getElem?_cons_zero, List.getElem?_cons_succ] at q0 q1
      refine bodyPost_ret (v := .tuple #[.agg #[.int .i64 (x : Int), .int .u64 (seq : Int)], .bool true]) (by simp [results, Try.results55, go_sem, q0, q1]) rfl ⟨by rw [HR.out]; rfl, HB9.out⟩
    | false =>
      have x0 := X4.cell 0
      have x1 := X4.cell 1
      have f0 := X4.frozen 0
      have f1 := X4.frozen 1
      simp only [List.getElem?_toArray, List.getElem?_cons_zero, List.getElem?_cons_succ] at x0 x1
      have X9 := Lib.hid ((X4.put 0 (.int .i64 0)).put 1 (.int .u64 0))
      have HB9 := Lib.hid ((HB4.out.setCell (p := ⟨w.heap.size, 0, none⟩) (Nat.le_refl _) (.int .i64 0)).setCell (p := ⟨w.heap.size, 1, none⟩) (Nat.le_refl _) (.int .u64 0))
      clear X4 Y4
      go_wp2_with fail
      generalize ((w4.setCell ⟨w.heap.size, 0, none⟩ (.int .i64 0)).setCell ⟨w.heap.size, 1, none⟩ (.int .u64 0)) = w9 at *
      have q0 := X9.out.cell 0
      have q1 := X9.out.cell 1
      rw [show (((#[.int .i64 0, .int .u64 0] : Array Value).setIfInBounds 0 (.int .i64 0)).setIfInBounds 1 (.int .u64 0) : Array Value) = #[.int .i64 0, .int .u64 0] from rfl] at q0 q1
      simp only [List.getElem?_toArray, List.getElem?_cons_zero, List.getElem?_cons_succ] at q0 q1
      refine bodyPost_ret (v := .tuple #[.agg #[.int .i64 0, .int .u64 0], .bool false]) (by simp [results, Try.results55, go_sem, q0, q1]) rfl ⟨by rw [HR.out]; rfl, HB9.out⟩
  · have hsx : decide (s < x) = true := decide_eq_true (by omega)
    obtain ⟨rfl, rfl⟩ := HNO.out (fun hh => hxs hh.1)
    have y0 := HPB.out.cell 0
    have j2 := HJ3.out.cell 2
    simp only [JrC, List.getElem?_toArray, List.getElem?_cons_zero, List.getElem?_cons_succ] at y0 j2
    clear hxs
    go_wp2_with fail
    go_quiet (fail)
    have HB4 := Lib.hid (below_drewN HB3.out nq)
    have X4 := HP3.out.drewN nq
    clear y0 j2
    generalize w3.drewN nq = w4 at *
    have x0 := X4.cell 0
    have x1 := X4.cell 1
    have f0 := X4.frozen 0
    have f1 := X4.frozen 1
    simp only [List.getElem?_toArray, List.getElem?_cons_zero, List.getElem?_cons_succ] at x0 x1
    have X9 := Lib.hid ((X4.put 0 (.int .i64 0)).put 1 (.int .u64 0))
    have HB9 := Lib.hid ((HB4.out.setCell (p := ⟨w.heap.size, 0, none⟩) (Nat.le_refl _) (.int .i64 0)).setCell (p := ⟨w.heap.size, 1, none⟩) (Nat.le_refl _) (.int .u64 0))
    clear X4
    go_wp2_with fail
    generalize ((w4.setCell ⟨w.heap.size, 0, none⟩ (.int .i64 0)).setCell ⟨w.heap.size, 1, none⟩ (.int .u64 0)) = w9 at *
    have q0 := X9.out.cell 0
    have q1 := X9.out.cell 1
    rw [show (((#[.int .i64 0, .int .u64 0] : Array Value).setIfInBounds 0 (.int .i64 0)).setIfInBounds 1 (.int .u64 0) : Array Value) = #[.int .i64 0, .int .u64 0] from rfl] at q0 q1
    simp only [List.getElem?_toArray, List.getElem?_cons_zero, List.getElem?_cons_succ] at q0 q1
    refine bodyPost_ret (v := .tuple #[.agg #[.int .i64 0, .int .u64 0], .bool false]) (by simp [results, Try.results55, go_sem, q0, q1]) rfl ⟨rfl, HB9.out⟩
end Go.Proofs.Ytmgbmnbjionapaa
