/- http.Write of an answer without fields. Conditions: the code is a number and not 101; the body is not great; the table of powers is laid. -/
import Derived.Test.YtofhhdomodjjdaaDoorIAns
namespace Go.Proofs.YtofhhdomodjjdaaDoor
open Go.RowKit

theorem Pows.bel {w w' : World} (h : Pows w) (hb : Below w.heap.size w w') : Pows w' := Lib.tabBelow_of_tabIs h w' hb
theorem OwnZ.base {w : World} {b0 b1 : Nat} {e : TypeId} {v : Value} {n : Nat} {xs : List Value} (h : OwnZ w b0 e v n xs) (hb : b1 ≤ b0) : OwnZ w b1 e v n xs := by
  refine ⟨h.1, h.2.imp id ?_⟩
  rintro ⟨g, cap, cur, fz, rfl, h1, r⟩
  exact ⟨g, cap, cur, fz, rfl, Nat.le_trans hb h1, r⟩
def httpS : ByteArray := ⟨#[72, 84, 84, 80, 47, 49, 46, 49, 32]⟩
def lenS : ByteArray := ⟨#[99, 111, 110, 116, 101, 110, 116, 45, 108, 101, 110, 103, 116, 104]⟩
def conS : ByteArray := ⟨#[99, 111, 110, 110, 101, 99, 116, 105, 111, 110]⟩
def cloS : ByteArray := ⟨#[99, 108, 111, 115, 101]⟩
/-- The first line. -/
def firstS (code : Int) : ByteArray := httpS ++ intS code ++ ⟨#[32]⟩ ++ reasonN code ++ ⟨#[13, 10]⟩
theorem first_size (code : Int) (h0 : -9223372036854775808 ≤ code) (h1 : code ≤ 9223372036854775807) : (firstS code).size ≤ 64 := by
  have := intS_size code h0 h1
  have := reason_size code
  unfold firstS
  rw [ByteArray.size_append, ByteArray.size_append, ByteArray.size_append, ByteArray.size_append]
  show 9 + _ + 1 + _ + 2 ≤ 64
  omega
/-- All of it. -/
def ansS (code : Int) (body : ByteArray) (shut : Bool) : ByteArray := firstS code ++ fieldS lenS (intS (body.size : Int)) ++ (if shut then fieldS conS cloS else ⟨#[]⟩) ++ ⟨#[13, 10]⟩ ++ body
/-- Each operation's fact, where the first line is made. -/
def iwF (code : Int) (B : Nat) (j : Nat) (v u0 : Value) (w : World) : Prop := match j with
  | 0 => v = .pointer (some ⟨B - 1, 0, none⟩)
  | 1 => v = .int .i64 code
  | 2 => v = .string (intS code)
  | 3 => v = .string (httpS ++ intS code)
  | 4 => v = .string (httpS ++ intS code ++ ⟨#[32]⟩)
  | 5 => v = .pointer (some ⟨B - 1, 0, none⟩)
  | 6 => v = .int .i64 code
  | 7 => v = .string (reasonN code)
  | 8 => v = .string (httpS ++ intS code ++ ⟨#[32]⟩ ++ reasonN code)
  | 9 => v = .string (firstS code)
  | 10 => OwnZ w B 5 v (firstS code).size (Lib.strCells (firstS code))
  | 11 => v = u0
  | _ => True
theorem iwF_bel {code : Int} {B : Nat} {w w' : World} (hb : Below w.heap.size w w') : ∀ j u u', iwF code B j u u' w → iwF code B j u u' w' := by
  intro j u u' s
  unfold iwF at *
  split at s <;> first | exact s | exact s.bel hb
set_option maxRecDepth 100000 in
set_option maxHeartbeats 1000000 in
theorem write_any (code : Int) (hc0 : -9223372036854775808 ≤ code) (hc1 : code ≤ 9223372036854775807) (hne : code ≠ 101) (body : ByteArray) (hz : body.size ≤ 3000000) (shut : Bool) (w : World) (hP : Pows w) :
    Calls Tryd.prog 5 #[.agg #[.int .i64 code, .slice none 0 0, .string body, .bool shut]] w fun e w' => (∃ v, e = .returned v ∧ OwnZ w' w.heap.size 5 v (ansS code body shut).size (Lib.strCells (ansS code body shut))) ∧ Below w.heap.size w w' := by
  obtain ⟨w0, hw0⟩ : ∃ x, x = w.alloc (.cells #[.int .i64 code, .slice none 0 0, .string body, .bool shut] 27) := ⟨_, rfl⟩
  have al : Below w.heap.size w w0 := by rw [hw0]; exact (Below.refl _ _).alloc (Nat.le_refl _) _
  have hsz0 : w0.heap.size = w.heap.size + 1 := by rw [hw0]; simp
  have HBK := Lib.hid (show Bk w0 (w0.heap.size - 1) 27 #[.int .i64 code, .slice none 0 0, .string body, .bool shut] by
    rw [hsz0, Nat.add_sub_cancel, hw0]; exact Bk.new w _ _)
  have HSZ := Lib.hid (show w.heap.size = w0.heap.size - 1 by omega)
  have HS0 := Lib.hid hsz0
  have HPW := Lib.hid (hP.bel al)
  have HAL := Lib.hid al
  have HW0 := Lib.hid hw0
  have hfs := first_size code hc0 hc1
  have his := intS_size code hc0 hc1
  have hrs := reason_size code
  have hx1 : ∀ w' : World, (Op.stringOp .add ⟨#[72, 84, 84, 80, 47, 49, 46, 49, 32]⟩ (intS code)).run Tryd.prog w' = .ok (.string (httpS ++ intS code)) w' := fun w' => run_string_add_sum (P := Tryd.prog) w' _ _ (by show 9 + _ ≤ _; omega)
  have hs1 : (httpS ++ intS code).size ≤ 30 := by rw [ByteArray.size_append]; show 9 + _ ≤ _; omega
  have hx2 : ∀ w' : World, (Op.stringOp .add (httpS ++ intS code) ⟨#[32]⟩).run Tryd.prog w' = .ok (.string (httpS ++ intS code ++ ⟨#[32]⟩)) w' := fun w' => run_string_add_sum (P := Tryd.prog) w' _ _ (by show _ + 1 ≤ _; omega)
  have hs2 : (httpS ++ intS code ++ ⟨#[32]⟩).size ≤ 31 := by rw [ByteArray.size_append]; show _ + 1 ≤ _; omega
  have hx3 : ∀ w' : World, (Op.stringOp .add (httpS ++ intS code ++ ⟨#[32]⟩) (reasonN code)).run Tryd.prog w' = .ok (.string (httpS ++ intS code ++ ⟨#[32]⟩ ++ reasonN code)) w' := fun w' => run_string_add_sum (P := Tryd.prog) w' _ _ (by omega)
  have hs3 : (httpS ++ intS code ++ ⟨#[32]⟩ ++ reasonN code).size ≤ 62 := by rw [ByteArray.size_append]; omega
  have hx4 : ∀ w' : World, (Op.stringOp .add (httpS ++ intS code ++ ⟨#[32]⟩ ++ reasonN code) ⟨#[13, 10]⟩).run Tryd.prog w' = .ok (.string (firstS code)) w' := fun w' => run_string_add_sum (P := Tryd.prog) w' _ _ (by show _ + 2 ≤ _; omega)
  have hne2 : (code != 101) = true := by simpa using hne
  clear hP hne hw0 hsz0 his hrs hs1 hs2 hs3 al
  go_enter Tryd.func5, Tryd.ntmps5
  go_upto_region 1 with fail
  rw [← HW0.out, HSZ.out]
  refine wp_region_list [some 6, some 7, some 8, some 9, some 10, some 11, some 12, some 13, some 14, some 15, some 16, some 3] (fun j => bif j == 11 then 16 else 0) (iwF code w0.heap.size) (fun w1 => Below w0.heap.size w0 w1) (by kernel_rfl) (Below.refl _ _).drew rfl (by kernel_rfl) (by kernel_rfl) (by kernel_rfl) (by kernel_rfl) (fun T hT => ?_)
  simp only [List.filterMap_cons, List.filterMap_nil, id, putsS, Act.put, List.setIfInBounds_toArray, List.set_cons_zero, List.set_cons_succ] at hT
  subst hT
  refine ⟨⟨?_, ?_, ?_, ?_, ?_, ?_, ?_, ?_, ?_, ?_, ?_, ?_, trivial⟩, ?_⟩
  · -- 0: Op.fieldAddr 27 t1 0
    refine StepL.act ?_
    intro f w1 hG hF K hK
    clear hF
    dsimp only at hK ⊢
    go_simp
    exact hK.out _ _ hG rfl (fun _ _ _ _ h => h)
  · -- 1: Op.load 3 t6
    refine StepL.act ?_
    intro f w1 hG hF K hK
    have d0 : (iwF code w0.heap.size) 0 (f 6) (f 0) w1 := hF 0 (by kernel_rfl)
    clear hF
    dsimp only at hK ⊢
    generalize f 6 = v6 at *
    subst d0
    have y := (HBK.out.bel hG).cell 0
    go_simp
    exact hK.out _ _ hG rfl (fun _ _ _ _ h => h)
  · -- 2: Op.call ( value (Operand.func 8), args := #[t7], argTypes := #[3] )
    refine StepL.act ?_
    intro f w1 hG hF K hK
    have d1 : (iwF code w0.heap.size) 1 (f 7) (f 0) w1 := hF 1 (by kernel_rfl)
    clear hF
    dsimp only at hK ⊢
    generalize f 7 = v7 at *
    subst d1
    go_simp
    refine (itoa_any code hc0 hc1 w1 (HPW.out.bel hG)).mono ?_
    rintro e w2 ⟨rfl, b2⟩
    exact hK.out _ _ (hG.trans (b2.mono hG.size)) rfl (fun j _ _ _ h => iwF_bel b2 j _ _ h)
  · -- 3: Op.binOp BinOp.add 9 (const (Value.string ( data := #[72, 84, 84, 80, 47, 49, 46
    refine StepL.act ?_
    intro f w1 hG hF K hK
    have d2 : (iwF code w0.heap.size) 2 (f 8) (f 0) w1 := hF 2 (by kernel_rfl)
    clear hF
    dsimp only at hK ⊢
    generalize f 8 = v8 at *
    subst d2
    go_simp
    exact hK.out _ _ hG rfl (fun _ _ _ _ h => h)
  · -- 4: Op.binOp BinOp.add 9 t9 (const (Value.string ( data := #[32] ))) 9
    refine StepL.act ?_
    intro f w1 hG hF K hK
    have d3 : (iwF code w0.heap.size) 3 (f 9) (f 0) w1 := hF 3 (by kernel_rfl)
    clear hF
    dsimp only at hK ⊢
    generalize f 9 = v9 at *
    subst d3
    go_simp
    exact hK.out _ _ hG rfl (fun _ _ _ _ h => h)
  · -- 5: Op.fieldAddr 27 t1 0
    refine StepL.act ?_
    intro f w1 hG hF K hK
    clear hF
    dsimp only at hK ⊢
    go_simp
    exact hK.out _ _ hG rfl (fun _ _ _ _ h => h)
  · -- 6: Op.load 3 t11
    refine StepL.act ?_
    intro f w1 hG hF K hK
    have d5 : (iwF code w0.heap.size) 5 (f 11) (f 0) w1 := hF 5 (by kernel_rfl)
    clear hF
    dsimp only at hK ⊢
    generalize f 11 = v11 at *
    subst d5
    have y := (HBK.out.bel hG).cell 0
    go_simp
    exact hK.out _ _ hG rfl (fun _ _ _ _ h => h)
  · -- 7: Op.call ( value (Operand.func 4), args := #[t12], argTypes := #[3] )
    refine StepL.act ?_
    intro f w1 hG hF K hK
    have d6 : (iwF code w0.heap.size) 6 (f 12) (f 0) w1 := hF 6 (by kernel_rfl)
    clear hF
    dsimp only at hK ⊢
    generalize f 12 = v12 at *
    subst d6
    go_simp
    refine (reason_any code w1).mono ?_
    rintro e w2 ⟨rfl, rfl⟩
    exact hK.out _ _ hG rfl (fun _ _ _ _ h => h)
  · -- 8: Op.binOp BinOp.add 9 t10 t13 9
    refine StepL.act ?_
    intro f w1 hG hF K hK
    have d4 : (iwF code w0.heap.size) 4 (f 10) (f 0) w1 := hF 4 (by kernel_rfl)
    have d7 : (iwF code w0.heap.size) 7 (f 13) (f 0) w1 := hF 7 (by kernel_rfl)
    clear hF
    dsimp only at hK ⊢
    generalize f 10 = v10 at *
    generalize f 13 = v13 at *
    subst d4
    subst d7
    go_simp
    exact hK.out _ _ hG rfl (fun _ _ _ _ h => h)
  · -- 9: Op.binOp BinOp.add 9 t14 (const (Value.string ( data := #[13, 10] ))) 9
    refine StepL.act ?_
    intro f w1 hG hF K hK
    have d8 : (iwF code w0.heap.size) 8 (f 14) (f 0) w1 := hF 8 (by kernel_rfl)
    clear hF
    dsimp only at hK ⊢
    generalize f 14 = v14 at *
    subst d8
    go_simp
    exact hK.out _ _ hG rfl (fun _ _ _ _ h => h)
  · -- 10: Op.convert 9 23 t15
    refine StepL.act ?_
    intro f w1 hG hF K hK
    have d9 : (iwF code w0.heap.size) 9 (f 15) (f 0) w1 := hF 9 (by kernel_rfl)
    clear hF
    dsimp only at hK ⊢
    generalize f 15 = v15 at *
    subst d9
    have cv := Lib.run_convert_string_bytes (P := Tryd.prog) w1 9 23 5 (firstS code) Tryd.underlying9 Tryd.underlying23 Tryd.underlying5
    have b2 := below_bytes w1 5 (firstS code)
    have o2 := (own_bytes w1 5 (firstS code) (by have := first_size code hc0 hc1; simp only [maxLen]; omega)).base hG.size
    go_simp
    exact hK.out _ _ (hG.trans (b2.mono hG.size)) o2 (fun j _ _ _ h => iwF_bel b2 j _ _ h)
  · -- 11: Op.assign t16
    intro f w1 hG hF K hK
    have d10 : (iwF code w0.heap.size) 10 (f 16) (f 0) w1 := hF 10 (by kernel_rfl)
    clear hF
    dsimp only at hK ⊢
    generalize hf16 : f 16 = v16 at *
    go_simp
    exact hK.out _ _ hG hf16.symm (fun _ _ _ h => h)
  · intro f w2 hG hF
    have R : OwnZ w2 w0.heap.size 5 (f 16) (firstS code).size (Lib.strCells (firstS code)) := hF 10 (by decide)
    have R2 : f 3 = f 16 := hF 11 (by decide)
    rw [← R2] at R
    have HO := Lib.hid R
    have HG := Lib.hid hG
    have HBK2 := Lib.hid (HBK.out.bel hG)
    have HPW2 := Lib.hid (HPW.out.bel hG)
    obtain ⟨gb, hgb⟩ : ∃ g, g = w0.heap.size - 1 := ⟨_, rfl⟩
    rw [← hgb] at HBK2
    have HGB := Lib.hid (show gb < w0.heap.size by have := HS0.out; omega)
    clear hF hG R R2
    dsimp only
    rw [← hgb]
    clear hgb HBK HPW HW0 HSZ HS0 hx1 hx2 hx3 hx4
    generalize f 3 = v3 at *
    generalize f 6 = v6
    generalize f 7 = v7
    generalize f 8 = v8
    generalize f 9 = v9
    generalize f 10 = v10
    generalize f 11 = v11
    generalize f 12 = v12
    generalize f 13 = v13
    generalize f 14 = v14
    generalize f 15 = v15
    generalize f 16 = v16
    have y0 := HBK2.out.cell 0
    have y1 := HBK2.out.cell 1
    have y2 := HBK2.out.cell 2
    have y3 := HBK2.out.cell 3
    go_wp2_with fail
    go_loopw [3, 20] (fun s3 s wr => s3 = v3 ∧ s = .int .i64 0 ∧ wr = w2) (fun _ _ _ => 0)
    case atStart => exact ⟨rfl, rfl, rfl⟩
    case round =>
      obtain ⟨h3, rfl, rfl⟩ := hrel
      have h3 := h3.symm
      subst h3
      go_wp2_with fail
      refine (itoa_any (body.size : Int) (by omega) (by omega) wr HPW2.out).mono ?_
      rintro e w3 ⟨rfl, b3⟩
      have HBK3 := Lib.hid (HBK2.out.bel b3)
      have HO3 := Lib.hid (HO.out.bel b3)
      have HG3 := Lib.hid (HG.out.trans (b3.mono HG.out.size))
      have hls := intS_size (body.size : Int) (by omega) (by omega)
      clear b3 HBK2 HO HG y0 y1 y2 y3
      have C4 := Lib.hid (field_any w0.heap.size v3 (firstS code) lenS (intS (body.size : Int)) w3 HO3.out (by show _ + 14 + _ ≤ _; omega) HG3.out.size)
      go_wp2_with fail
      refine C4.out.mono ?_
      rintro e w4 ⟨⟨v4, rfl, o4⟩, b4⟩
      have HO4 := Lib.hid o4
      have hl4 : (firstS code ++ fieldS lenS (intS (body.size : Int))).size ≤ 200 := by rw [ByteArray.size_append, field_size]; show _ + (14 + _ + 4) ≤ _; omega
      obtain ⟨T4, hT4⟩ : ∃ T, T = firstS code ++ fieldS lenS (intS (body.size : Int)) := ⟨_, rfl⟩
      rw [← hT4] at HO4 hl4
      have HT4 := Lib.hid hT4
      have HB4 := Lib.hid (HG3.out.trans b4)
      have HBK4 := Lib.hid (HBK3.out.below b4 HGB.out)
      have hB4 : w0.heap.size ≤ w4.heap.size := HB4.out.size
      clear o4 b4 hT4 HO3 HG3 HBK3 C4
      have y2 := HBK4.out.cell 2
      have y3 := HBK4.out.cell 3
      cases shut with
      | true =>
        have C5 := Lib.hid (field_any w0.heap.size v4 T4 conS cloS w4 HO4.out (by show _ + 10 + 5 ≤ _; omega) hB4)
        go_wp2_with fail
        refine C5.out.mono ?_
        rintro e w5 ⟨⟨v5, rfl, o5⟩, b5⟩
        have HO5 := Lib.hid o5
        have hl5 : (T4 ++ fieldS conS cloS).size ≤ 300 := by rw [ByteArray.size_append, field_size]; show _ + (10 + 5 + 4) ≤ _; omega
        obtain ⟨T5, hT5⟩ : ∃ T, T = T4 ++ fieldS conS cloS := ⟨_, rfl⟩
        rw [← hT5] at HO5 hl5
        have HX := Lib.hid (show T5 ++ ⟨#[13, 10]⟩ ++ body = ansS code body true by rw [hT5, HT4.out]; rfl)
        have HB5 := Lib.hid (HB4.out.trans b5)
        have HBK5 := Lib.hid (HBK4.out.below b5 HGB.out)
        have hB5 : w0.heap.size ≤ w5.heap.size := HB5.out.size
        clear o5 b5 hT5 HO4 HBK4 C5 y2 y3 HB4 hB4
        have y2 := HBK5.out.cell 2
        go_upto_region 12 with (at_builtin; refine wpList_append_Z rfl (.tmp 44) (.const (.string ⟨#[13, 10]⟩)) rfl w0.heap.size v5 T5.size _ rfl HO5.out ⟨#[13, 10]⟩ rfl (by show _ + 2 ≤ _; omega) hB5 ?_; intro v6 w6 o6 b6)
        have HO6 := Lib.hid o6
        have HB6 := Lib.hid (HB5.out.trans b6)
        have HBK6 := Lib.hid (HBK5.out.below b6 HGB.out)
        have hB6 : w0.heap.size ≤ w6.heap.size := HB6.out.size
        clear o6 b6 y2
        have y2 := HBK6.out.cell 2
        go_wp2_with (at_builtin; refine wpList_append_Z rfl (.tmp 46) (.tmp 48) rfl w0.heap.size v6 (T5.size + 2) _ rfl HO6.out body rfl (by omega) hB6 ?_; intro v7 w7 o7 b7)
        have HO7 := Lib.hid (show OwnZ w7 w0.heap.size 5 v7 (ansS code body true).size (Lib.strCells (ansS code body true)) by
          rw [← HX.out, strCells_append, strCells_append, ByteArray.size_append, ByteArray.size_append]; exact o7)
        have HB7 := Lib.hid (HB6.out.trans b7)
        clear o7 b7
        go_ret
        exact ⟨⟨v7, rfl, HO7.out.base HAL.out.size⟩, HAL.out.trans (HB7.out.mono HAL.out.size)⟩
      | false =>
        have HX := Lib.hid (show T4 ++ ⟨#[13, 10]⟩ ++ body = ansS code body false by rw [HT4.out]; unfold ansS; rw [if_neg (by decide), show (firstS code ++ fieldS lenS (intS (body.size : Int)) ++ ⟨#[]⟩) = firstS code ++ fieldS lenS (intS (body.size : Int)) from ByteArray.append_empty])
        go_upto_region 12 with (at_builtin; refine wpList_append_Z rfl (.tmp 44) (.const (.string ⟨#[13, 10]⟩)) rfl w0.heap.size v4 T4.size _ rfl HO4.out ⟨#[13, 10]⟩ rfl (by show _ + 2 ≤ _; omega) hB4 ?_; intro v6 w6 o6 b6)
        have HO6 := Lib.hid o6
        have HB6 := Lib.hid (HB4.out.trans b6)
        have HBK6 := Lib.hid (HBK4.out.below b6 HGB.out)
        have hB6 : w0.heap.size ≤ w6.heap.size := HB6.out.size
        clear o6 b6 y2
        have y2 := HBK6.out.cell 2
        go_wp2_with (at_builtin; refine wpList_append_Z rfl (.tmp 46) (.tmp 48) rfl w0.heap.size v6 (T4.size + 2) _ rfl HO6.out body rfl (by omega) hB6 ?_; intro v7 w7 o7 b7)
        have HO7 := Lib.hid (show OwnZ w7 w0.heap.size 5 v7 (ansS code body false).size (Lib.strCells (ansS code body false)) by
          rw [← HX.out, strCells_append, strCells_append, ByteArray.size_append, ByteArray.size_append]; exact o7)
        have HB7 := Lib.hid (HB6.out.trans b7)
        clear o7 b7
        go_ret
        exact ⟨⟨v7, rfl, HO7.out.base HAL.out.size⟩, HAL.out.trans (HB7.out.mono HAL.out.size)⟩
end Go.Proofs.YtofhhdomodjjdaaDoor
