/- What a frame may be, and what a Close says. Condition: the tables of UTF-8 are laid. -/
import Derived.Test.YtnbhgjionpidnaaDoorSTurn
import Derived.Test.YtnbhgjionpidnaaDoorSUtf
namespace Go.Proofs.YtnbhgjionpidnaaDoor
open Go.RowKit

theorem Tabs.bel {w w' : World} (h : Tabs w) (hb : Below w.heap.size w w') : Tabs w' := Utf8Tabs_below h hb
/-- May a Close say this code? -/
def isCodeB (c : Nat) : Bool := (decide (1000 ≤ c) && decide (c ≤ 1003)) || (decide (1007 ≤ c) && decide (c ≤ 1011)) || (decide (3000 ≤ c) && decide (c ≤ 4999))
structure ItM where
  kind : Nat
  text : ByteArray
  code : Nat
def itV (i : ItM) : Value := .agg #[.int .i64 (i.kind : Nat), .string i.text, .int .i64 (i.code : Nat)]
def itC (i : ItM) : Array Value := #[.int .i64 (i.kind : Nat), .string i.text, .int .i64 (i.code : Nat)]
/-- A frame as data; m is its mask. -/
structure FrM where
  fin : Bool
  op : Nat
  msk : Bool
  pay : ByteArray
def frV (f : FrM) (m : Nat → Nat) : Value := .agg #[.bool f.fin, .int .i64 (f.op : Nat), .bool f.msk, .int .u8 (m 0 : Nat), .int .u8 (m 1 : Nat), .int .u8 (m 2 : Nat), .int .u8 (m 3 : Nat), .string f.pay]
def frC (f : FrM) (m : Nat → Nat) : Array Value := #[.bool f.fin, .int .i64 (f.op : Nat), .bool f.msk, .int .u8 (m 0 : Nat), .int .u8 (m 1 : Nat), .int .u8 (m 2 : Nat), .int .u8 (m 3 : Nat), .string f.pay]
set_option maxRecDepth 100000 in
theorem isCode_any (c : Nat) (w : World) : Calls Tryd.prog 53 #[.int .i64 c] w fun e w' => e = .returned (.bool (isCodeB c)) ∧ w' = w := by
  obtain ⟨b, hb⟩ : ∃ b, b = isCodeB c := ⟨_, rfl⟩
  rw [← hb]
  unfold isCodeB at hb
  by_cases h1 : 1000 ≤ c
  · have i1 : decide ((c : Int) ≥ 1000) = true := decide_eq_true (by omega)
    by_cases h2 : c ≤ 1003
    · have i2 : decide ((c : Int) ≤ 1003) = true := decide_eq_true (by omega)
      have hb2 : b = true := by rw [hb]; simp; omega
      subst hb2
      clear hb h1 h2
      go_enter Tryd.func53, Tryd.ntmps53
      go_wp2_with fail
      go_ret
      exact ⟨rfl, rfl⟩
    · have i2 : decide ((c : Int) ≤ 1003) = false := decide_eq_false (by omega)
      by_cases h3 : 1007 ≤ c
      · have i3 : decide ((c : Int) ≥ 1007) = true := decide_eq_true (by omega)
        by_cases h4 : c ≤ 1011
        · have i4 : decide ((c : Int) ≤ 1011) = true := decide_eq_true (by omega)
          have hb2 : b = true := by rw [hb]; simp; omega
          subst hb2
          clear hb h1 h2 h3 h4
          go_enter Tryd.func53, Tryd.ntmps53
          go_wp2_with fail
          go_ret
          exact ⟨rfl, rfl⟩
        · have i4 : decide ((c : Int) ≤ 1011) = false := decide_eq_false (by omega)
          by_cases h5 : 3000 ≤ c
          · have i5 : decide ((c : Int) ≥ 3000) = true := decide_eq_true (by omega)
            by_cases h6 : c ≤ 4999
            · have i6 : decide ((c : Int) ≤ 4999) = true := decide_eq_true (by omega)
              have hb2 : b = true := by rw [hb]; simp; omega
              subst hb2
              clear hb h1 h2 h3 h4 h5 h6
              go_enter Tryd.func53, Tryd.ntmps53
              go_wp2_with fail
              go_ret
              exact ⟨rfl, rfl⟩
            · have i6 : decide ((c : Int) ≤ 4999) = false := decide_eq_false (by omega)
              have hb2 : b = false := by rw [hb]; simp; omega
              subst hb2
              clear hb h1 h2 h3 h4 h5 h6
              go_enter Tryd.func53, Tryd.ntmps53
              go_wp2_with fail
              go_ret
              exact ⟨rfl, rfl⟩
          · have i5 : decide ((c : Int) ≥ 3000) = false := decide_eq_false (by omega)
            have hb2 : b = false := by rw [hb]; simp; omega
            subst hb2
            clear hb h1 h2 h3 h4 h5
            go_enter Tryd.func53, Tryd.ntmps53
            go_wp2_with fail
            go_ret
            exact ⟨rfl, rfl⟩
      · have i3 : decide ((c : Int) ≥ 1007) = false := decide_eq_false (by omega)
        have i5 : decide ((c : Int) ≥ 3000) = false := decide_eq_false (by omega)
        have hb2 : b = false := by rw [hb]; simp; omega
        subst hb2
        clear hb h1 h2 h3
        go_enter Tryd.func53, Tryd.ntmps53
        go_wp2_with fail
        go_ret
        exact ⟨rfl, rfl⟩
  · have i1 : decide ((c : Int) ≥ 1000) = false := decide_eq_false (by omega)
    have i3 : decide ((c : Int) ≥ 1007) = false := decide_eq_false (by omega)
    have i5 : decide ((c : Int) ≥ 3000) = false := decide_eq_false (by omega)
    have hb2 : b = false := by rw [hb]; simp; omega
    subst hb2
    clear hb h1
    go_enter Tryd.func53, Tryd.ntmps53
    go_wp2_with fail
    go_ret
    exact ⟨rfl, rfl⟩
def TextPost (w : World) (s : ByteArray) (e : Ending) (w' : World) : Prop := Below w.heap.size w w' ∧ if Lib.validD s.data.toList then e = .returned (.tuple #[]) else e = .panicked (giveE 1007)
theorem needText_any (s : ByteArray) (hz : s.size ≤ 9223372036854775807) (w : World) (hT : Tabs w) : Calls Tryd.prog 49 #[.string s] w (TextPost w s) := by
  have C := Lib.hid (vstring_any s w hz hT)
  obtain ⟨b, hb⟩ : ∃ b, b = Lib.validD s.data.toList := ⟨_, rfl⟩
  have HB := Lib.hid hb
  rw [← hb] at C
  clear hT hb
  cases b with
  | true =>
    go_enter Tryd.func49, Tryd.ntmps49
    go_wp2_with fail
    refine C.out.mono ?_
    rintro e w1 ⟨rfl, b1⟩
    have HB1 := Lib.hid b1
    clear b1
    go_wp2_with fail
    go_end0
    exact ⟨HB1.out, by rw [if_pos HB.out.symm]⟩
  | false =>
    go_enter Tryd.func49, Tryd.ntmps49
    go_wp2_with fail
    refine C.out.mono ?_
    rintro e w1 ⟨rfl, b1⟩
    have HB1 := Lib.hid b1
    clear b1
    go_wp2_with fail
    refine ⟨rfl, HB1.out, ?_⟩
    rw [if_neg (by rw [← HB.out]; decide)]
    rfl
/-- What a Close says, or the code with which the connection fails. -/
def codeN (p : ByteArray) : Nat := (p.data.toList.getD 0 0).toNat * 256 + (p.data.toList.getD 1 0).toNat
def closedN (p : ByteArray) : Except Nat ItM :=
  if p.size = 0 then .ok ⟨8, ⟨#[]⟩, 1005⟩ else if p.size < 2 then .error 1002
  else if isCodeB (codeN p) = false then .error 1002
  else if Lib.validD (p.extract 2 p.size).data.toList = false then .error 1007
  else .ok ⟨8, p.extract 2 p.size, codeN p⟩
def ClosedPost (w : World) (r : Except Nat ItM) (e : Ending) (w' : World) : Prop := Below w.heap.size w w' ∧ match r with
  | .ok i => e = .returned (itV i)
  | .error c => e = .panicked (giveE c)
theorem run_index2 (s : ByteArray) (k : Nat) (hk : k < s.size) : s.data.toList.getD k 0 = s.data.toList[k]'(by rw [Array.length_toList]; exact hk) := by
  rw [List.getD_eq_getElem?_getD, List.getElem?_eq_getElem (by rw [Array.length_toList]; exact hk)]; rfl
theorem box3 {w : World} {g : Nat} {t : TypeId} {x y z : Value} (h : Bk w g t #[x, y, z]) (a b c : Value) : Bk (((w.setCell ⟨g, 0, none⟩ a).setCell ⟨g, 1, none⟩ b).setCell ⟨g, 2, none⟩ c) g t #[a, b, c] := ((h.put 0 a).put 1 b).put 2 c
theorem below3 {B g : Nat} {w w' : World} (h : Below B w w') (hg : B ≤ g) (a b c : Value) : Below B w (((w'.setCell ⟨g, 0, none⟩ a).setCell ⟨g, 1, none⟩ b).setCell ⟨g, 2, none⟩ c) :=
  ((h.setCell (p := ⟨g, 0, none⟩) hg a).setCell (p := ⟨g, 1, none⟩) hg b).setCell (p := ⟨g, 2, none⟩) hg c
theorem toList_nil (s : ByteArray) : s.toList = [] ↔ s.size = 0 := by
  rw [ByteArray.toList_eq]
  rw [← List.length_eq_zero_iff, Array.length_toList]; rfl
theorem nil_isE (s : ByteArray) : s.toList.isEmpty = decide (s.size = 0) := by
  rw [Bool.eq_iff_iff, List.isEmpty_iff, toList_nil, decide_eq_true_iff]
theorem or_code (a b : Nat) (ha : a < 256) (hb : b < 256) : bits .or .i64 ((a : Int) * 256) (b : Int) = ((a * 256 + b : Nat) : Int) := by
  have h1 : (BitVec.ofInt 64 (b : Int)).toNat = b := by rw [BitVec.toNat_ofInt]; omega
  have h2 : (BitVec.ofInt 64 ((a : Int) * 256)).toNat = a * 256 := by rw [BitVec.toNat_ofInt]; omega
  have h3 : (BitVec.ofInt 64 ((a : Int) * 256) ||| BitVec.ofInt 64 (b : Int)).toNat = a * 256 + b := by
    rw [BitVec.toNat_or, h1, h2, or_low a b hb]
  show IntKind.i64.wrap ((BitVec.ofInt 64 ((a : Int) * 256) ||| BitVec.ofInt 64 (b : Int)).toNat : Int) = _
  rw [h3, IntKind.wrap_i64]
  omega
set_option maxRecDepth 100000 in
set_option maxHeartbeats 1000000 in
theorem closed_any (p : ByteArray) (hz : p.size ≤ 100000) (w : World) (hT : Tabs w) : Calls Tryd.prog 48 #[.string p] w (ClosedPost w (closedN p)) := by
  obtain ⟨r, hr⟩ : ∃ r, r = closedN p := ⟨_, rfl⟩
  rw [← hr]
  unfold closedN at hr
  obtain ⟨w0, hw0⟩ : ∃ x, x = w.alloc (.cells #[.int .i64 0, .string ⟨#[]⟩, .int .i64 0] 56) := ⟨_, rfl⟩
  have al : Below w.heap.size w w0 := by rw [hw0]; exact (Below.refl _ _).alloc (Nat.le_refl _) _
  have HBK := Lib.hid (show Bk w0 w.heap.size 56 #[.int .i64 0, .string ⟨#[]⟩, .int .i64 0] by rw [hw0]; exact Bk.new w _ _)
  have HAL := Lib.hid al
  have HT0 := Lib.hid (hT.bel al)
  have HW0 := Lib.hid hw0
  obtain ⟨g, hg⟩ : ∃ g, g = w.heap.size := ⟨_, rfl⟩
  have HG := Lib.hid hg
  have HGL := Lib.hid (show w.heap.size ≤ g from Nat.le_of_eq hg.symm)
  rw [← hg] at HBK
  clear hw0 al hg hT
  by_cases h0 : p.size = 0
  · rw [if_pos h0] at hr
    subst hr
    have hp : p = ⟨#[]⟩ := by
      apply ByteArray.ext
      apply Array.ext'
      exact List.eq_nil_of_length_eq_zero (by rw [Array.length_toList]; exact h0)
    subst hp
    have f0 := HBK.out.frozen 0
    have f1 := HBK.out.frozen 1
    have f2 := HBK.out.frozen 2
    have y0 := HBK.out.cell 0
    have y1 := HBK.out.cell 1
    have y2 := HBK.out.cell 2
    go_enter Tryd.func48, Tryd.ntmps48
    go_upto_region 1 with fail
    rw [← HW0.out, ← HG.out]
    go_wp2_with fail
    have FB := box3 HBK.out (.int .i64 8) (.string ⟨#[]⟩) (.int .i64 1005)
    have r0 := FB.cell 0
    have r1 := FB.cell 1
    have r2 := FB.cell 2
    exact bodyPost_ret (v := itV ⟨8, ⟨#[]⟩, 1005⟩) (by simp [results, Tryd.results48, go_sem, r0, r1, r2, itV]) rfl ⟨below3 HAL.out HGL.out _ _ _, rfl⟩
  · rw [if_neg h0] at hr
    have e1 : p.toList.isEmpty = false := by rw [nil_isE]; exact decide_eq_false h0
    have e2 : ¬ p.toList = [] := by rw [toList_nil]; exact h0
    by_cases h1 : p.size < 2
    · rw [if_pos h1] at hr
      subst hr
      have i1 : (p.size : Int) < 2 := by omega
      clear h0 h1
      go_enter Tryd.func48, Tryd.ntmps48
      go_upto_region 1 with fail
      rw [← HW0.out, ← HG.out]
      go_wp2_with fail
      exact ⟨rfl, HAL.out, rfl⟩
    · rw [if_neg h1] at hr
      have i1 : ¬ (p.size : Int) < 2 := by omega
      have i2 : (2 : Int) ≤ (p.size : Int) := by omega
      obtain ⟨a, ha⟩ : ∃ a, a = (p.data.toList.getD 0 0).toNat := ⟨_, rfl⟩
      obtain ⟨b, hb⟩ : ∃ b, b = (p.data.toList.getD 1 0).toNat := ⟨_, rfl⟩
      have ha8 : a < 256 := by rw [ha]; exact UInt8.toNat_lt _
      have hb8 : b < 256 := by rw [hb]; exact UInt8.toNat_lt _
      have x0 : ∀ w' : World, (Instr.index 9 (.string p) (.int .i64 0)).run Tryd.prog w' = .ok (.int .u8 (a : Int)) w' := fun w' => by
        rw [run_index_string w' 9 p .i64 0 Tryd.underlying9, dif_pos (by omega), ha, run_index2 p 0 (by omega)]; rfl
      have x1 : ∀ w' : World, (Instr.index 9 (.string p) (.int .i64 1)).run Tryd.prog w' = .ok (.int .u8 (b : Int)) w' := fun w' => by
        rw [run_index_string w' 9 p .i64 1 Tryd.underlying9, dif_pos (by omega), hb, run_index2 p 1 (by omega)]; rfl
      obtain ⟨c, hc⟩ : ∃ c, c = codeN p := ⟨_, rfl⟩
      have o1 : bits .or .i64 ((a : Int) * 256) (b : Int) = (c : Int) := by rw [or_code a b ha8 hb8, hc, ha, hb]; rfl
      obtain ⟨T, hT⟩ : ∃ T, T = p.extract 2 p.size := ⟨_, rfl⟩
      have hTz : T.size ≤ 100000 := by rw [hT, ByteArray.size_extract]; omega
      have sl : ∀ w' : World, (Instr.slice 9 (.string p) (some (.int .i64 2)) none none).run Tryd.prog w' = .ok (.string T) w' := fun w' => by
        rw [run_slice_string_l w' 9 p Tryd.underlying9 .i64 2 (by omega) (by omega), hT]; rfl
      rw [← hc, ← hT] at hr
      have CC := Lib.hid (fun w' => isCode_any c w')
      obtain ⟨q, hq⟩ : ∃ q, q = isCodeB c := ⟨_, rfl⟩
      rw [← hq] at CC hr
      clear ha hb hc hT h0 h1 hq
      cases q with
      | false =>
        rw [if_pos rfl] at hr
        subst hr
        go_enter Tryd.func48, Tryd.ntmps48
        go_upto_region 1 with fail
        rw [← HW0.out, ← HG.out]
        go_wp2_with fail
        go_quiet (fail)
        generalize hW : w0.drewN nq = W
        have HB1 := Lib.hid (show Below w.heap.size w W by rw [← hW]; exact below_drewN HAL.out _)
        clear hW
        go_wp2_with fail
        refine (CC.out W).mono ?_
        rintro e w1 ⟨rfl, rfl⟩
        go_wp2_with fail
        exact ⟨rfl, HB1.out, rfl⟩
      | true =>
        rw [if_neg (by decide)] at hr
        have HR := Lib.hid hr
        clear hr
        have CN := Lib.hid (fun w' h => needText_any T (by omega) w' h)
        go_enter Tryd.func48, Tryd.ntmps48
        go_upto_region 1 with fail
        rw [← HW0.out, ← HG.out]
        go_wp2_with fail
        go_quiet (fail)
        generalize hW : w0.drewN nq = W
        have bW : Below w0.heap.size w0 W := by rw [← hW]; exact below_drewN (Below.refl _ _) _
        have HB1 := Lib.hid (HAL.out.trans (bW.mono HAL.out.size))
        have HT1 := Lib.hid (HT0.out.bel bW)
        have HK1 := Lib.hid (HBK.out.bel bW)
        clear hW bW
        go_wp2_with fail
        refine (CC.out W).mono ?_
        rintro e w1 ⟨rfl, rfl⟩
        go_wp2_with fail
        refine (CN.out w1 HT1.out).mono ?_
        rintro e w2 ⟨b2, he⟩
        have HB2 := Lib.hid (HB1.out.trans (b2.mono HB1.out.size))
        have HK2 := Lib.hid (HK1.out.bel b2)
        have hr := HR.out
        clear b2 HR
        by_cases hv : Lib.validD T.data.toList = true
        · rw [if_pos hv] at he
          rw [if_neg (by rw [hv]; decide)] at hr
          subst he
          subst hr
          clear hv
          have f0 := HK2.out.frozen 0
          have f1 := HK2.out.frozen 1
          have f2 := HK2.out.frozen 2
          have y0 := HK2.out.cell 0
          have y1 := HK2.out.cell 1
          have y2 := HK2.out.cell 2
          go_wp2_with fail
          have FB := box3 HK2.out (.int .i64 8) (.string T) (.int .i64 (c : Int))
          have r0 := FB.cell 0
          have r1 := FB.cell 1
          have r2 := FB.cell 2
          exact bodyPost_ret (v := itV ⟨8, T, c⟩) (by simp [results, Tryd.results48, go_sem, r0, r1, r2, itV]) rfl ⟨below3 HB2.out HGL.out _ _ _, rfl⟩
        · rw [if_neg hv] at he
          rw [if_pos (by simpa using hv)] at hr
          subst he
          subst hr
          clear hv
          go_wp2_with fail
          exact ⟨rfl, HB2.out, rfl⟩
end Go.Proofs.YtnbhgjionpidnaaDoor
