/- The reference's Encode: the bytes of a frame. Conditions: none that a frame that can be does not meet. -/
import Derived.Test.YtnbhgjionpidnaaDoorSEnc
import Derived.PlainAid
namespace Go.Proofs.YtnbhgjionpidnaaDoor
open Go.RowKit Go.PlainAid

def rfrC (fin : Bool) (op : Nat) (msk : Bool) (M : Nat → Nat) (p : ByteArray) : Array Value := #[.bool fin, .int .i64 (op : Nat), .bool msk, .int .u8 (M 0 : Nat), .int .u8 (M 1 : Nat), .int .u8 (M 2 : Nat), .int .u8 (M 3 : Nat), .string p]
/-- What is put behind the head, byte for byte. -/
def bodyE (msk : Bool) (M : Nat → Nat) (p : ByteArray) : List Nat := if msk then xorN M (octs p) else octs p
def maskE (msk : Bool) (M : Nat → Nat) : List Nat := if msk then [M 0, M 1, M 2, M 3] else []
theorem encN_eq (fin : Bool) (op : Nat) (msk : Bool) (M : Nat → Nat) (p : ByteArray) : encN ⟨fin, op, msk, p⟩ M = headE fin op msk p.size ++ maskE msk M ++ bodyE msk M p := by
  unfold encN maskE bodyE
  dsimp only
  cases msk
  · simp
  · simp
theorem bodyE_at (msk : Bool) (M : Nat → Nat) (p : ByteArray) (i : Nat) (hi : i < p.size) : (bodyE msk M p)[i]? = some (if msk then p[i].toNat ^^^ M (i % 4) else p[i].toNat) := by
  have hi2 : i < p.data.toList.length := hi
  have ho : (octs p)[i]? = some p[i].toNat := by
    unfold octs
    rw [List.getElem?_map, List.getElem?_eq_getElem hi2]
    rfl
  unfold bodyE
  cases msk
  · exact ho
  · rw [if_pos rfl, if_pos rfl]
    have hl : i < (octs p).length := by rw [octs_length]; exact hi
    have h := xorFrom_at M 0 (octs p) i hl
    rw [Nat.zero_add] at h
    rw [List.getElem?_eq_getElem hl] at ho
    rw [← Option.some.inj ho]
    exact h
theorem take_next {X : List Nat} {i v : Nat} (h : X[i]? = some v) : X.take (i + 1) = X.take i ++ [v] := by
  obtain ⟨hi, he⟩ := List.getElem?_eq_some_iff.1 h
  rw [List.take_succ_eq_append_getElem hi, he]
set_option maxRecDepth 100000 in
set_option maxHeartbeats 4000000 in
theorem renc_any (fin msk : Bool) (op : Nat) (M : Nat → Nat) (p : ByteArray) (hop : op < 16) (hp : p.size ≤ 4096) (hM : ∀ i, i < 4 → M i < 256) (w : World) :
    Calls Tryd.prog 15 #[.agg (rfrC fin op msk M p)] w fun e w' => ∃ v, e = .returned v ∧ w'.ownsRow w.heap.size 5 1 v (encN ⟨fin, op, msk, p⟩ M).length (u8s (encN ⟨fin, op, msk, p⟩ M)) ∧ Below w.heap.size w w' := by
  obtain ⟨i0, hi0, hz0, hz1, hz2⟩ := info_parts info5
  obtain ⟨w0, hw0⟩ : ∃ x, x = w.alloc (.cells (rfrC fin op msk M p) 35) := ⟨_, rfl⟩
  obtain ⟨g, hg⟩ : ∃ g, g = w.heap.size := ⟨_, rfl⟩
  have hB : Bk w0 g 35 (rfrC fin op msk M p) := by rw [hw0, hg]; exact Bk.new w _ _
  have y0 : w0.cell? ⟨g, 0, none⟩ = some (.bool fin) := hB.cell 0
  have y1 : w0.cell? ⟨g, 1, none⟩ = some (.int .i64 (op : Nat)) := hB.cell 1
  have y2 : w0.cell? ⟨g, 2, none⟩ = some (.bool msk) := hB.cell 2
  have y7 : w0.cell? ⟨g, 7, none⟩ = some (.string p) := hB.cell 7
  obtain ⟨z, hz⟩ : ∃ z, z = w0.heap.size := ⟨_, rfl⟩
  have HB := Lib.hid hB
  have HB0 := Lib.hid (show Below w.heap.size w w0 by rw [hw0]; exact (Below.refl _ _).alloc (Nat.le_refl _) _)
  have HW0 := Lib.hid hw0
  have HG := Lib.hid hg
  have HM := Lib.hid hM
  have HZ := Lib.hid hz
  have HGZ := Lib.hid (show g < z by rw [hz]; exact hB.lt)
  clear hw0 hg hB hM hz
  unfold rfrC at HW0 ⊢
  go_enter Tryd.func15, Tryd.ntmps15
  go_upto_region 1 with fail
  rw [← HW0.out, ← HG.out]
  go_upto_if 12 with fail
  go_cut [3] (fun s wx => ∃ a : Nat, a = op + (if fin then 128 else 0) ∧ s = .int .i64 (a : Int) ∧ wx = w0)
  case first =>
    cases fin
    · go_wp2_with fail
      go_meet
      refine ⟨op, ?_, ?_, ?_⟩ <;> first | rfl | trivial | simp | (congr 1; omega)
    · go_wp2_with fail
      go_meet
      refine ⟨op + 128, ?_, ?_, ?_⟩ <;> first | rfl | trivial | simp | (congr 1; omega)
  case rest =>
    obtain ⟨a, ha, rfl, hwc⟩ := hcut
    rw [hwc]
    clear hwc
    have ha2 : a < 256 := by rw [ha]; split <;> omega
    have HA := Lib.hid ha
    clear ha
    go_upto_if 16 with fail
    go_cut [4] (fun s wx => ∃ b : Nat, b = (if msk then 128 else 0) ∧ s = .int .i64 (b : Int) ∧ wx = w0)
    case first =>
      cases msk
      · go_wp2_with fail
        go_meet
        exact ⟨0, by simp, rfl, by first | rfl | trivial⟩
      · go_wp2_with fail
        go_meet
        exact ⟨128, by simp, rfl, by first | rfl | trivial⟩
    case rest =>
      obtain ⟨b, hb, rfl, hwc⟩ := hcut
      rw [hwc]
      clear hwc
      have hb2 : b ≤ 128 := by rw [hb]; split <;> omega
      have e1 : IntKind.u8.wrap (a : Int) = (a : Int) := by rw [IntKind.wrap_u8]; omega
      have HBB := Lib.hid hb
      have HH := Lib.hid (show headE fin op msk p.size = a :: (if p.size < 126 then [b + p.size] else [b + 126, p.size / 256, p.size % 256]) by unfold headE; rw [HA.out, hb])
      clear hb
      go_upto_if 28 with fail
      go_cut [6] (fun s wx => wx.ownsRow z 5 1 s (headE fin op msk p.size).length (u8s (headE fin op msk p.size)) ∧ Below z w0 wx)
      case first =>
        by_cases hsm : p.size < 126
        · have j1 : ¬ (125 : Int) < (p.size : Int) := by omega
          go_wp2_with fail
          go_meet
          rw [HH.out, if_pos hsm, HZ.out]
          refine ⟨?_, (Below.refl _ _).alloc (Nat.le_refl _) _⟩
          rw [show ((b : Int) + (p.size : Int)) % 256 = ((b + p.size : Nat) : Int) by omega]
          exact World.ownsRow_lit (size := 1) w0 #[.int .u8 (a : Nat), .int .u8 ((b + p.size : Nat) : Int)] 2 (Nat.le_refl _) (by decide) rfl
        · have j1 : (125 : Int) < (p.size : Int) := by omega
          go_wp2_with fail
          go_meet
          rw [HH.out, if_neg hsm, HZ.out]
          refine ⟨?_, ((Below.refl _ _).alloc (Nat.le_refl _) _).alloc (by simp) _⟩
          obtain ⟨w1, hw1⟩ : ∃ x, x = w0.alloc (.cells #[.int .u8 (a : Nat), .int .u8 (((b : Int) + (p.size : Int)) % 256)] 5) := ⟨_, rfl⟩
          have h1 : w0.heap.size + 1 = w1.heap.size := by rw [hw1]; simp
          rw [← hw1, h1]
          exact own_base (World.ownsRow_lit (size := 1) w1 #[.int .u8 (a : Nat), .int .u8 ((b : Int) + 126), .int .u8 ((p.size : Int) / 256), .int .u8 ((p.size : Int) % 256)] 4 (Nat.le_refl _) (by decide) rfl) (by omega)
      case rest =>
        obtain ⟨ho, hb⟩ := hcut
        obtain ⟨w1, hw1⟩ : ∃ x, x = wc := ⟨_, rfl⟩
        rw [← hw1] at ho hb ⊢
        clear hw1
        have hB1 := HB.out.below hb HGZ.out
        have y0 : w1.cell? ⟨g, 0, none⟩ = some (.bool fin) := hB1.cell 0
        have y2 : w1.cell? ⟨g, 2, none⟩ = some (.bool msk) := hB1.cell 2
        have y3 : w1.cell? ⟨g, 3, none⟩ = some (.int .u8 (M 0 : Nat)) := hB1.cell 3
        have y4 : w1.cell? ⟨g, 4, none⟩ = some (.int .u8 (M 1 : Nat)) := hB1.cell 4
        have y5 : w1.cell? ⟨g, 5, none⟩ = some (.int .u8 (M 2 : Nat)) := hB1.cell 5
        have y6 : w1.cell? ⟨g, 6, none⟩ = some (.int .u8 (M 3 : Nat)) := hB1.cell 6
        have HO1 := Lib.hid ho
        have HB1 := Lib.hid hb
        clear ho hb hB1
        obtain ⟨H, hH⟩ : ∃ H, H = headE fin op msk p.size := ⟨_, rfl⟩
        have hH9 : H.length ≤ 4 := by
          rw [hH, HH.out]
          split <;> simp
        rw [← hH] at HO1
        have HHE := Lib.hid hH
        clear hH e1 hb2
        go_upto_if 42 with fail
        go_cut [6] (fun s wx => wx.ownsRow z 5 1 s (H ++ maskE msk M).length (u8s (H ++ maskE msk M)) ∧ Below z w0 wx)
        case first =>
          cases msk
          · go_wp2_with fail
            go_meet
            exact ⟨by rw [show maskE false M = [] from rfl, List.append_nil]; exact HO1.out, HB1.out⟩
          · obtain ⟨w2, hw2⟩ : ∃ x, x = w1.alloc (.cells #[.int .u8 (M 0 : Nat), .int .u8 (M 1 : Nat), .int .u8 (M 2 : Nat), .int .u8 (M 3 : Nat)] 5) := ⟨_, rfl⟩
            obtain ⟨n2, hn2⟩ : ∃ x, x = w1.heap.size := ⟨_, rfl⟩
            have HS2 := Lib.hid (show Seg w2 (some ⟨n2, 0, none⟩) (u8s [M 0, M 1, M 2, M 3]) by rw [hw2, hn2]; exact seg_litU rfl)
            have HO2 := Lib.hid (show w2.ownsRow z 5 1 u6 H.length (u8s H) by rw [hw2]; exact HO1.out.alloc _)
            have HB2 := Lib.hid (show Below z w0 w2 by rw [hw2]; exact HB1.out.alloc (HZ.out ▸ (HZ.out ▸ HB1.out).size) _)
            have HSZ := Lib.hid (show z ≤ w2.heap.size from HZ.out ▸ (HZ.out ▸ HB2.out).size)
            have HW2 := Lib.hid hw2
            have HN2 := Lib.hid hn2
            clear hw2 hn2
            go_wp2_with (at_builtin; rw [← HW2.out, ← HN2.out]; refine wpList_append_seg _ rfl _ _ _ rfl z 5 i0 _ 1 Tryd.underlying25 hi0 hz0 hz1 hz2 rfl _ H.length _ rfl HO2.out _ 4 _ (u8s [M 0, M 1, M 2, M 3]) rfl rfl HS2.out (u8s_one _) (by unfold maxLen; omega) (by omega) HSZ.out ?_; intro v3 w3 ho3 hb3)
            go_meet
            have h := ho3
            rw [u8s_app] at h
            rw [show maskE true M = [M 0, M 1, M 2, M 3] from rfl, List.length_append]
            exact ⟨h, HB2.out.trans hb3⟩
        case rest =>
          obtain ⟨ho, hb⟩ := hcut
          obtain ⟨HD, hHD⟩ : ∃ x, x = H ++ maskE msk M := ⟨_, rfl⟩
          have hHL : HD.length ≤ 8 := by
            rw [hHD, List.length_append]
            unfold maskE
            split <;> simp <;> omega
          rw [← hHD] at ho
          obtain ⟨X, hX⟩ : ∃ x, x = bodyE msk M p := ⟨_, rfl⟩
          have hXl : X.length = p.size := by
            rw [hX]
            unfold bodyE
            split
            · rw [xorN_length, octs_length]
            · exact octs_length p
          have HEQ := Lib.hid (show encN ⟨fin, op, msk, p⟩ M = HD ++ X by rw [encN_eq, ← HHE.out, ← hHD, ← hX])
          have HX := Lib.hid hX
          have HXL := Lib.hid hXl
          have HO2 := Lib.hid ho
          have HB2 := Lib.hid hb
          clear ho hb hHD hX hXl y0 y1 y2 y3 y4 y5 y6 y7 hH9 HO1 HHE
          go_wp2_with fail
          go_loopw [6, 7] (fun v s wr => ∃ i : Nat, i ≤ p.size ∧ s = .int .i64 i ∧ Hid (wr.ownsRow z 5 1 v (HD.length + i) (u8s (HD ++ X.take i))) ∧ Hid (Below z w0 wr)) (fun _ s _ => p.size - (intOf s).toNat)
          case atStart => exact ⟨0, Nat.zero_le _, rfl, Lib.hid (by rw [List.take_zero, List.append_nil]; exact HO2.out), HB2⟩
          case round =>
            obtain ⟨i, hi, rfl, hO, hB⟩ := hrel
            have X' := HB.out.below hB.out HGZ.out
            have y0 : wr.cell? ⟨g, 0, none⟩ = some (.bool fin) := X'.cell 0
            have y2 : wr.cell? ⟨g, 2, none⟩ = some (.bool msk) := X'.cell 2
            have y7 : wr.cell? ⟨g, 7, none⟩ = some (.string p) := X'.cell 7
            by_cases hlt : i < p.size
            · have i1 : (0 : Int) ≤ (i : Int) := by omega
              have i2 : (i : Int) < (p.size : Int) := by omega
              obtain ⟨x, hx⟩ : ∃ x : Nat, x = (p[i]'hlt).toNat := ⟨_, rfl⟩
              have hx8 : x < 256 := by rw [hx]; exact (p[i]'hlt).toNat_lt
              obtain ⟨v, hv⟩ : ∃ v, v = (if msk then x ^^^ M (i % 4) else x) := ⟨_, rfl⟩
              have HXI := Lib.hid (show X.take (i + 1) = X.take i ++ [v] by
                apply take_next
                rw [HX.out, bodyE_at msk M p i hlt, ← hx, ← hv])
              have HV := Lib.hid hv
              have HO := Lib.hid hO.out
              have HBR := Lib.hid hB.out
              have HXX := Lib.hid X'
              clear hO hB hv X'
              go_upto_if 68 with fail
              rw [← hx]
              clear hx
              go_cut [8] (fun s wx => s = .int .u8 (v : Int) ∧ wx = wr)
              case first =>
                cases msk
                · go_wp2_with fail
                  go_meet
                  exact ⟨by rw [HV.out]; rfl, rfl⟩
                · obtain ⟨j, hj⟩ : ∃ j, j = i % 4 := ⟨_, rfl⟩
                  have hj4 : j < 4 := by omega
                  obtain ⟨y, hy⟩ : ∃ y, y = M j := ⟨_, rfl⟩
                  have hy8 : y < 256 := by rw [hy]; exact HM.out j hj4
                  have c1' : wr.cell? ⟨g, 3 + j, none⟩ = some (.int .u8 (y : Int)) := by
                    rw [HXX.out.cell (3 + j), hy]
                    have : j = 0 ∨ j = 1 ∨ j = 2 ∨ j = 3 := by omega
                    rcases this with h | h | h | h <;> subst h <;> rfl
                  have i3 : (0 : Int) ≤ (j : Int) := by omega
                  have i4 : (j : Int) < 4 := by omega
                  have r1 : (i : Int) % 4 = (j : Int) := by omega
                  have r2 : (i : Int).tmod 4 = (j : Int) := by rw [Int.tmod_eq_emod_of_nonneg (by omega)]; omega
                  have r3 : wrap64 (j : Int) = (j : Int) := by rw [wrap64]; omega
                  have xo : bits .xor .u8 (x : Int) (y : Int) = (v : Int) := by rw [HV.out, if_pos rfl, ← hj, ← hy]; exact u8_xor_nat x y hx8 hy8
                  clear hy hj
                  go_wp2_with fail
                  go_meet
                  exact ⟨rfl, rfl⟩
              case rest =>
                obtain ⟨rfl, hw⟩ := hcut
                rw [hw]
                clear hw
                obtain ⟨w2, hw2⟩ : ∃ x, x = wr.alloc (.cells #[.int .u8 (v : Int)] 5) := ⟨_, rfl⟩
                obtain ⟨n2, hn2⟩ : ∃ x, x = wr.heap.size := ⟨_, rfl⟩
                have HS2 := Lib.hid (show Seg w2 (some ⟨n2, 0, none⟩) (u8s [v]) by rw [hw2, hn2]; exact seg_litU rfl)
                have HO3 := Lib.hid (show w2.ownsRow z 5 1 u6 (HD.length + i) (u8s (HD ++ X.take i)) by rw [hw2]; exact HO.out.alloc _)
                have HB3 := Lib.hid (show Below z w0 w2 by rw [hw2]; exact HBR.out.alloc (HZ.out ▸ (HZ.out ▸ HBR.out).size) _)
                have HSZ := Lib.hid (show z ≤ w2.heap.size from HZ.out ▸ (HZ.out ▸ HB3.out).size)
                have HW2 := Lib.hid hw2
                have HN2 := Lib.hid hn2
                have E1 := Lib.hid (show ((i : Int) + 1) = ((i + 1 : Nat) : Int) by omega)
                have MM := Lib.hid (show p.size - (intOf (.int .i64 ((i + 1 : Nat) : Int))).toNat < p.size - (intOf (.int .i64 (i : Int))).toNat by simp only [intOf]; omega)
                clear hw2 hn2 y0 y2 y7
                go_wp2_with (at_builtin; rw [← HW2.out, ← HN2.out]; refine wpList_append_seg _ rfl _ _ _ rfl z 5 i0 _ 1 Tryd.underlying25 hi0 hz0 hz1 hz2 rfl _ (HD.length + i) _ rfl HO3.out _ 1 _ (u8s [v]) rfl rfl HS2.out (u8s_one _) (by unfold maxLen; omega) (by omega) HSZ.out ?_; intro v3 w3 ho3 hb3; have HO4 := Lib.hid ho3; have HB4 := Lib.hid (HB3.out.trans hb3); clear ho3 hb3)
                rw [E1.out]
                exact ⟨⟨i + 1, hlt, rfl, Lib.hid (by
                  have h := HO4.out
                  rw [u8s_app, List.append_assoc, ← HXI.out, Nat.add_assoc] at h
                  exact h), Lib.hid HB4.out⟩, MM.out⟩
            · have hin : i = p.size := by omega
              have i0 : ¬ (i : Int) < (p.size : Int) := by omega
              have FIN := Lib.hid (show wr.ownsRow w.heap.size 5 1 u6 (encN ⟨fin, op, msk, p⟩ M).length (u8s (encN ⟨fin, op, msk, p⟩ M)) by
                have h := hO.out
                rw [hin, ← HXL.out, List.take_length] at h
                rw [HEQ.out, List.length_append]
                exact own_base h (HZ.out ▸ HB0.out.size))
              have FB := Lib.hid (HB0.out.trans (hB.out.mono (HZ.out ▸ HB0.out.size)))
              clear hO hB hin X'
              go_wp2_with fail
              go_ret
              exact ⟨_, rfl, FIN.out, FB.out⟩
end Go.Proofs.YtnbhgjionpidnaaDoor
