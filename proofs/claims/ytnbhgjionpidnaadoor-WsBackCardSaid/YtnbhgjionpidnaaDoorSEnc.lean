/- Encode: the bytes of a frame. Conditions: none that a frame that can be does not meet. -/
import Derived.Test.YtnbhgjionpidnaaDoorSTold
import Derived.Test.YtnbhgjionpidnaaDoorSAcc
import Derived.Lib.AppendStr
namespace Go.Proofs.YtnbhgjionpidnaaDoor
open Go.RowKit

/-- The bytes of a frame. -/
def headE (fin : Bool) (op : Nat) (msk : Bool) (n : Nat) : List Nat := (op + (if fin then 128 else 0)) :: (if n < 126 then [(if msk then 128 else 0) + n] else [(if msk then 128 else 0) + 126, n / 256, n % 256])
def encN (f : FrM) (M : Nat → Nat) : List Nat := headE f.fin f.op f.msk f.pay.size ++ (if f.msk then [M 0, M 1, M 2, M 3] ++ xorN M (octs f.pay) else octs f.pay)
theorem or_top (x : Nat) (h : x < 16) : bits .or .u8 (x : Int) 128 = ((x + 128 : Nat) : Int) := by
  have : ∀ y, y < 16 → bits .or .u8 ((y : Nat) : Int) 128 = ((y + 128 : Nat) : Int) := by decide +kernel
  exact this x h
theorem or_size1 (x : Nat) (h : x < 126) : bits .or .u8 128 (x : Int) = ((128 + x : Nat) : Int) := by
  have : ∀ y, y < 126 → bits .or .u8 128 ((y : Nat) : Int) = ((128 + y : Nat) : Int) := by decide +kernel
  exact this x h
theorem or_size0 (x : Nat) (h : x < 126) : bits .or .u8 0 (x : Int) = (x : Int) := by
  have : ∀ y, y < 126 → bits .or .u8 0 ((y : Nat) : Int) = ((y : Nat) : Int) := by decide +kernel
  exact this x h
theorem strC (s : ByteArray) : Lib.strCells s = u8s (octs s) := by
  simp [Lib.strCells, u8s, octs]
theorem seg_litU {w : World} {cs : Array Value} {xs : List Value} (h : cs.toList = xs) : Seg (w.alloc (.cells cs 5)) (some ⟨w.heap.size, 0, none⟩) xs := by
  subst h
  exact Seg.of_block (heap_alloc_new _ _) (fun i _ => by simp)
theorem u8s_app (a b : List Nat) : u8s a ++ u8s b = u8s (a ++ b) := by simp [u8s]
/-- The mask where it lies in a frame. -/
theorem seg_mask {w : World} {g op : Nat} {fin msk : Bool} {p : ByteArray} {M : Nat → Nat} (h : Bk w g 24 (frC ⟨fin, op, msk, p⟩ M)) : Seg w (some ⟨g, 3, none⟩) (u8s [M 0, M 1, M 2, M 3]) := fun _ => by
  refine ⟨g, 3, rfl, h.lt, fun i hi => ?_⟩
  have hi4 : i < 4 := hi
  have h3 := h.cell 3
  have h4 := h.cell 4
  have h5 := h.cell 5
  have h6 := h.cell 6
  rcases i with _ | _ | _ | _ | i
  · exact h3
  · exact h4
  · exact h5
  · exact h6
  · omega
/-- What Encode answers of a frame that can be. -/
def EncPost (f : FrM) (M : Nat → Nat) (w : World) (e : Ending) (w' : World) : Prop := ∃ v, e = .returned (.tuple #[v, .int .i64 0]) ∧ w'.ownsRow w.heap.size 5 1 v (encN f M).length (u8s (encN f M)) ∧ Below w.heap.size w w'
set_option maxRecDepth 100000 in
set_option maxHeartbeats 2000000 in
theorem enc_tts (op : Nat) (M : Nat → Nat) (p : ByteArray) (hop : op < 16) (hp : p.size ≤ 4096) (hM : ∀ i, i < 4 → M i < 256) (hsm : p.size < 126) (w : World) :
    Calls Tryd.prog 9 #[frV ⟨true, op, true, p⟩ M] w (EncPost ⟨true, op, true, p⟩ M w) := by
  obtain ⟨i0, hi0, hz0, hz1, hz2⟩ := info_parts info5
  obtain ⟨w0, hw0⟩ : ∃ x, x = w.alloc (.cells (frC ⟨true, op, true, p⟩ M) 24) := ⟨_, rfl⟩
  obtain ⟨g, hg⟩ : ∃ g, g = w.heap.size := ⟨_, rfl⟩
  have hB : Bk w0 g 24 (frC ⟨true, op, true, p⟩ M) := by rw [hw0, hg]; exact Bk.new w _ _
  have hb0 : Below w.heap.size w w0 := by rw [hw0]; exact (Below.refl _ _).alloc (Nat.le_refl _) _
  have y0 : w0.cell? ⟨g, 0, none⟩ = some (.bool true) := hB.cell 0
  have y1 : w0.cell? ⟨g, 1, none⟩ = some (.int .i64 (op : Nat)) := hB.cell 1
  have y2 : w0.cell? ⟨g, 2, none⟩ = some (.bool true) := hB.cell 2
  have y7 : w0.cell? ⟨g, 7, none⟩ = some (.string p) := hB.cell 7
  have i1 : ¬ (op : Int) < 0 := by omega
  have i2 : ¬ (15 : Int) < (op : Int) := by omega
  have i3 : ¬ (4096 : Int) < (p.size : Int) := by omega
  have e1 : IntKind.u8.wrap (op : Int) = (op : Int) := by rw [IntKind.wrap_u8]; omega
  have o1 := or_top op hop
  have i4 : (p.size : Int) < 126 := by omega
  have e2 : IntKind.u8.wrap (p.size : Int) = (p.size : Int) := by rw [IntKind.wrap_u8]; omega
  have o2 := or_size1 p.size hsm
  obtain ⟨n1, hn1⟩ : ∃ x, x = w0.heap.size := ⟨_, rfl⟩
  obtain ⟨w1, hw1⟩ : ∃ x, x = w0.alloc (.cells #[.int .u8 ((op + 128 : Nat) : Int)] 5) := ⟨_, rfl⟩
  have ho1 : w1.ownsRow n1 5 1 (.slice (some ⟨n1, 0, none⟩) 1 1) 1 (u8s [op + 128]) := by
    rw [hw1, hn1]
    exact World.ownsRow_lit (size := 1) w0 #[.int .u8 ((op + 128 : Nat) : Int)] 1 (Nat.le_refl _) (by decide) rfl
  have hb1 : Below n1 w0 w1 := by rw [hw1, hn1]; exact (Below.refl _ _).alloc (Nat.le_refl _) _
  have hgn : g < n1 := by rw [hn1]; exact hB.lt
  obtain ⟨w2, hw2⟩ : ∃ x, x = w1.alloc (.cells #[.int .u8 ((128 + p.size : Nat) : Int)] 5) := ⟨_, rfl⟩
  obtain ⟨n2, hn2⟩ : ∃ x, x = w1.heap.size := ⟨_, rfl⟩
  have HS2 := Lib.hid (show Seg w2 (some ⟨n2, 0, none⟩) (u8s [128 + p.size]) by rw [hw2, hn2]; exact seg_litU rfl)
  have HO2 := Lib.hid (show w2.ownsRow n1 5 1 (.slice (some ⟨n1, 0, none⟩) 1 1) 1 (u8s [op + 128]) by rw [hw2]; exact ho1.alloc _)
  have HB2 := Lib.hid (show Below n1 w0 w2 by rw [hw2]; exact hb1.alloc (by rw [hn1]; exact (hn1 ▸ hb1).size) _)
  have HB := Lib.hid hB
  have HB0 := Lib.hid hb0
  have HW0 := Lib.hid hw0
  have HW1 := Lib.hid hw1
  have HW2 := Lib.hid hw2
  have HN1 := Lib.hid hn1
  have HN2 := Lib.hid hn2
  have HG := Lib.hid hg
  have HM := Lib.hid hM
  have HGN := Lib.hid hgn
  have HSZ := Lib.hid (show n1 ≤ w2.heap.size from HN1.out ▸ (HN1.out ▸ HB2.out).size)
  have HH := Lib.hid (show headE true op true p.size = [op + 128] ++ [128 + p.size] by
    unfold headE
    rw [if_pos hsm]
    first | rfl | simp)
  clear hw0 hb0 hB hg hM hn1 hw1 ho1 hb1 hw2 hn2 hgn
  unfold frV
  dsimp only
  go_enter Tryd.func9, Tryd.ntmps9
  go_upto_region 1 with fail
  rw [show w.alloc (.cells #[.bool true, .int .i64 (op : Nat), .bool true, .int .u8 (M 0 : Nat), .int .u8 (M 1 : Nat), .int .u8 (M 2 : Nat), .int .u8 (M 3 : Nat), .string p] 24) = w0 from HW0.out.symm, ← HG.out]
  go_upto_region 12 with fail
  rw [show w0.alloc (.cells #[.int .u8 ((op : Int) + 128)] 5) = w1 from HW1.out.symm, ← HN1.out]
  clear y0 y1
  go_upto_region 15 with (at_builtin; rw [show w1.alloc (.cells #[.int .u8 (128 + (p.size : Int))] 5) = w2 from HW2.out.symm, ← HN2.out]; refine wpList_append_seg _ rfl _ _ _ rfl n1 5 i0 _ 1 Tryd.underlying25 hi0 hz0 hz1 hz2 rfl _ 1 _ rfl HO2.out _ 1 _ (u8s [128 + p.size]) rfl rfl HS2.out (u8s_one _) (by decide) (by decide) HSZ.out ?_; intro v3 w3 ho3 hb3; have HO3 := Lib.hid ho3; have HB3 := Lib.hid (HB2.out.trans hb3); clear ho3 hb3 y2 y7)
  have hB3 := HB.out.below HB3.out HGN.out
  have y2 : w3.cell? ⟨g, 2, none⟩ = some (.bool true) := hB3.cell 2
  have SM := Lib.hid (seg_mask hB3)
  have HS3 := Lib.hid (show n1 ≤ w3.heap.size from HN1.out ▸ (HN1.out ▸ HB3.out).size)
  have HBB := Lib.hid hB3
  clear hB3
  go_upto_region 18 with (at_builtin; refine wpList_append_seg _ rfl _ _ _ rfl n1 5 i0 _ 1 Tryd.underlying25 hi0 hz0 hz1 hz2 rfl _ (1 + 1) _ rfl HO3.out _ 4 _ (u8s [M 0, M 1, M 2, M 3]) rfl rfl SM.out (u8s_one _) (by decide) (by decide) HS3.out ?_; intro v4 w4 ho4 hb4; have HO4 := Lib.hid ho4; have HB4 := Lib.hid (HB3.out.trans hb4); clear ho4 hb4 y2)
  obtain ⟨c5, w5, hrun, hc5, hs5, hb5⟩ := convS_any p w4
  have hB4 := HB.out.below HB4.out HGN.out
  have y7 : w4.cell? ⟨g, 7, none⟩ = some (.string p) := hB4.cell 7
  have hB5 := hB4.bel hb5
  have y3 : w5.cell? ⟨g, 3, none⟩ = some (.int .u8 (M 0 : Nat)) := hB5.cell 3
  have y4 : w5.cell? ⟨g, 4, none⟩ = some (.int .u8 (M 1 : Nat)) := hB5.cell 4
  have y5 : w5.cell? ⟨g, 5, none⟩ = some (.int .u8 (M 2 : Nat)) := hB5.cell 5
  have y6 : w5.cell? ⟨g, 6, none⟩ = some (.int .u8 (M 3 : Nat)) := hB5.cell 6
  have HO5 := Lib.hid (own_belS HO4.out hb5)
  have HB5 := Lib.hid (show Below n1 w0 w5 from HB4.out.trans (hb5.mono (HN1.out ▸ (HN1.out ▸ HB4.out).size)))
  have CT := Lib.hid (turned_any (some ⟨w4.heap.size, 0, none⟩) p.size c5 (octs p) M HM.out (octs_lt p) (octs_length p).symm hc5 (by omega) w5 hs5)
  clear hB4 hB5 hs5 hb5 hc5
  go_wp2_with (first | (go_at_call 24; refine CT.out.mono ?_; rintro e w6 ⟨⟨v6, rfl, ho6⟩, hb6⟩; obtain ⟨A6, c6, rfl, h6, hs6⟩ := own_shape ho6; have HO6 := Lib.hid (own_belS HO5.out hb6); have HB6 := Lib.hid (show Below n1 w0 w6 from HB5.out.trans (hb6.mono (HN1.out ▸ (HN1.out ▸ HB5.out).size))); have HS6 := Lib.hid hs6; clear ho6 hs6 hb6) | (at_builtin; refine wpList_append_seg _ rfl _ _ _ rfl n1 5 i0 _ 1 Tryd.underlying25 hi0 hz0 hz1 hz2 rfl _ (1 + 1 + 4) _ rfl HO6.out A6 p.size c6 (u8s (xorN M (octs p))) rfl (by rw [u8s_length, xorN_length, octs_length]) HS6.out (u8s_one _) (by unfold maxLen; omega) (by omega) (HN1.out ▸ (HN1.out ▸ HB6.out).size) ?_; intro v7 w7 ho7 hb7; have HO7 := Lib.hid ho7; have HB7 := Lib.hid (HB6.out.trans hb7); clear ho7 hb7))
  have true := Lib.hid (show EncPost ⟨true, op, true, p⟩ M w (.returned (.tuple #[v7, .int .i64 0])) w7 from by
    have hE : encN ⟨true, op, true, p⟩ M = [op + 128] ++ [128 + p.size] ++ [M 0, M 1, M 2, M 3] ++ xorN M (octs p) := by
      unfold encN
      dsimp only
      rw [HH.out, if_pos rfl, List.append_assoc ([op + 128] ++ [128 + p.size])]
    refine ⟨v7, rfl, ?_, HB0.out.trans (HB7.out.mono (HN1.out ▸ HB0.out.size))⟩
    have ho := own_base HO7.out (show w.heap.size ≤ n1 from HN1.out ▸ HB0.out.size)
    rw [u8s_app, u8s_app, u8s_app] at ho
    rw [hE, show ([op + 128] ++ [128 + p.size] ++ [M 0, M 1, M 2, M 3] ++ xorN M (octs p)).length = 1 + 1 + 4 + p.size by simp only [List.length_append, List.length_cons, List.length_nil, xorN_length, octs_length]]
    exact ho)
  exact bodyPost_ret (v := .tuple #[v7, .int .i64 0]) (by simp [results, Tryd.results9, go_sem]) rfl true.out
set_option maxRecDepth 100000 in
set_option maxHeartbeats 2000000 in
theorem enc_ttb (op : Nat) (M : Nat → Nat) (p : ByteArray) (hop : op < 16) (hp : p.size ≤ 4096) (hM : ∀ i, i < 4 → M i < 256) (hsm : ¬ p.size < 126) (w : World) :
    Calls Tryd.prog 9 #[frV ⟨true, op, true, p⟩ M] w (EncPost ⟨true, op, true, p⟩ M w) := by
  obtain ⟨i0, hi0, hz0, hz1, hz2⟩ := info_parts info5
  obtain ⟨w0, hw0⟩ : ∃ x, x = w.alloc (.cells (frC ⟨true, op, true, p⟩ M) 24) := ⟨_, rfl⟩
  obtain ⟨g, hg⟩ : ∃ g, g = w.heap.size := ⟨_, rfl⟩
  have hB : Bk w0 g 24 (frC ⟨true, op, true, p⟩ M) := by rw [hw0, hg]; exact Bk.new w _ _
  have hb0 : Below w.heap.size w w0 := by rw [hw0]; exact (Below.refl _ _).alloc (Nat.le_refl _) _
  have y0 : w0.cell? ⟨g, 0, none⟩ = some (.bool true) := hB.cell 0
  have y1 : w0.cell? ⟨g, 1, none⟩ = some (.int .i64 (op : Nat)) := hB.cell 1
  have y2 : w0.cell? ⟨g, 2, none⟩ = some (.bool true) := hB.cell 2
  have y7 : w0.cell? ⟨g, 7, none⟩ = some (.string p) := hB.cell 7
  have i1 : ¬ (op : Int) < 0 := by omega
  have i2 : ¬ (15 : Int) < (op : Int) := by omega
  have i3 : ¬ (4096 : Int) < (p.size : Int) := by omega
  have e1 : IntKind.u8.wrap (op : Int) = (op : Int) := by rw [IntKind.wrap_u8]; omega
  have o1 := or_top op hop
  have i4 : ¬ (p.size : Int) < 126 := by omega
  have o3 : bits .or .u8 128 126 = 254 := by decide +kernel
  have e2 : IntKind.u8.wrap (p.size : Int) = ((p.size % 256 : Nat) : Int) := by rw [IntKind.wrap_u8]; omega
  have e3 : IntKind.u8.wrap ((p.size : Int) / 256) = ((p.size / 256 : Nat) : Int) := by rw [IntKind.wrap_u8]; omega
  obtain ⟨n1, hn1⟩ : ∃ x, x = w0.heap.size := ⟨_, rfl⟩
  obtain ⟨w1, hw1⟩ : ∃ x, x = w0.alloc (.cells #[.int .u8 ((op + 128 : Nat) : Int)] 5) := ⟨_, rfl⟩
  have ho1 : w1.ownsRow n1 5 1 (.slice (some ⟨n1, 0, none⟩) 1 1) 1 (u8s [op + 128]) := by
    rw [hw1, hn1]
    exact World.ownsRow_lit (size := 1) w0 #[.int .u8 ((op + 128 : Nat) : Int)] 1 (Nat.le_refl _) (by decide) rfl
  have hb1 : Below n1 w0 w1 := by rw [hw1, hn1]; exact (Below.refl _ _).alloc (Nat.le_refl _) _
  have hgn : g < n1 := by rw [hn1]; exact hB.lt
  obtain ⟨w2, hw2⟩ : ∃ x, x = w1.alloc (.cells #[.int .u8 ((128 + 126 : Nat) : Int), .int .u8 ((p.size / 256 : Nat) : Int), .int .u8 ((p.size % 256 : Nat) : Int)] 5) := ⟨_, rfl⟩
  obtain ⟨n2, hn2⟩ : ∃ x, x = w1.heap.size := ⟨_, rfl⟩
  have HS2 := Lib.hid (show Seg w2 (some ⟨n2, 0, none⟩) (u8s [128 + 126, p.size / 256, p.size % 256]) by rw [hw2, hn2]; exact seg_litU rfl)
  have HO2 := Lib.hid (show w2.ownsRow n1 5 1 (.slice (some ⟨n1, 0, none⟩) 1 1) 1 (u8s [op + 128]) by rw [hw2]; exact ho1.alloc _)
  have HB2 := Lib.hid (show Below n1 w0 w2 by rw [hw2]; exact hb1.alloc (by rw [hn1]; exact (hn1 ▸ hb1).size) _)
  have HB := Lib.hid hB
  have HB0 := Lib.hid hb0
  have HW0 := Lib.hid hw0
  have HW1 := Lib.hid hw1
  have HW2 := Lib.hid hw2
  have HN1 := Lib.hid hn1
  have HN2 := Lib.hid hn2
  have HG := Lib.hid hg
  have HM := Lib.hid hM
  have HGN := Lib.hid hgn
  have HSZ := Lib.hid (show n1 ≤ w2.heap.size from HN1.out ▸ (HN1.out ▸ HB2.out).size)
  have HH := Lib.hid (show headE true op true p.size = [op + 128] ++ [128 + 126, p.size / 256, p.size % 256] by
    unfold headE
    rw [if_neg hsm]
    first | rfl | simp)
  clear hw0 hb0 hB hg hM hn1 hw1 ho1 hb1 hw2 hn2 hgn
  unfold frV
  dsimp only
  go_enter Tryd.func9, Tryd.ntmps9
  go_upto_region 1 with fail
  rw [show w.alloc (.cells #[.bool true, .int .i64 (op : Nat), .bool true, .int .u8 (M 0 : Nat), .int .u8 (M 1 : Nat), .int .u8 (M 2 : Nat), .int .u8 (M 3 : Nat), .string p] 24) = w0 from HW0.out.symm, ← HG.out]
  go_upto_region 12 with fail
  rw [show w0.alloc (.cells #[.int .u8 ((op : Int) + 128)] 5) = w1 from HW1.out.symm, ← HN1.out]
  clear y0 y1
  go_upto_region 15 with (at_builtin; rw [show w1.alloc (.cells #[.int .u8 254, .int .u8 ((p.size : Int) / 256), .int .u8 ((p.size : Int) % 256)] 5) = w2 from HW2.out.symm, ← HN2.out]; refine wpList_append_seg _ rfl _ _ _ rfl n1 5 i0 _ 1 Tryd.underlying25 hi0 hz0 hz1 hz2 rfl _ 1 _ rfl HO2.out _ 3 _ (u8s [128 + 126, p.size / 256, p.size % 256]) rfl rfl HS2.out (u8s_one _) (by decide) (by decide) HSZ.out ?_; intro v3 w3 ho3 hb3; have HO3 := Lib.hid ho3; have HB3 := Lib.hid (HB2.out.trans hb3); clear ho3 hb3 y2 y7)
  have hB3 := HB.out.below HB3.out HGN.out
  have y2 : w3.cell? ⟨g, 2, none⟩ = some (.bool true) := hB3.cell 2
  have SM := Lib.hid (seg_mask hB3)
  have HS3 := Lib.hid (show n1 ≤ w3.heap.size from HN1.out ▸ (HN1.out ▸ HB3.out).size)
  have HBB := Lib.hid hB3
  clear hB3
  go_upto_region 18 with (at_builtin; refine wpList_append_seg _ rfl _ _ _ rfl n1 5 i0 _ 1 Tryd.underlying25 hi0 hz0 hz1 hz2 rfl _ (1 + 3) _ rfl HO3.out _ 4 _ (u8s [M 0, M 1, M 2, M 3]) rfl rfl SM.out (u8s_one _) (by decide) (by decide) HS3.out ?_; intro v4 w4 ho4 hb4; have HO4 := Lib.hid ho4; have HB4 := Lib.hid (HB3.out.trans hb4); clear ho4 hb4 y2)
  obtain ⟨c5, w5, hrun, hc5, hs5, hb5⟩ := convS_any p w4
  have hB4 := HB.out.below HB4.out HGN.out
  have y7 : w4.cell? ⟨g, 7, none⟩ = some (.string p) := hB4.cell 7
  have hB5 := hB4.bel hb5
  have y3 : w5.cell? ⟨g, 3, none⟩ = some (.int .u8 (M 0 : Nat)) := hB5.cell 3
  have y4 : w5.cell? ⟨g, 4, none⟩ = some (.int .u8 (M 1 : Nat)) := hB5.cell 4
  have y5 : w5.cell? ⟨g, 5, none⟩ = some (.int .u8 (M 2 : Nat)) := hB5.cell 5
  have y6 : w5.cell? ⟨g, 6, none⟩ = some (.int .u8 (M 3 : Nat)) := hB5.cell 6
  have HO5 := Lib.hid (own_belS HO4.out hb5)
  have HB5 := Lib.hid (show Below n1 w0 w5 from HB4.out.trans (hb5.mono (HN1.out ▸ (HN1.out ▸ HB4.out).size)))
  have CT := Lib.hid (turned_any (some ⟨w4.heap.size, 0, none⟩) p.size c5 (octs p) M HM.out (octs_lt p) (octs_length p).symm hc5 (by omega) w5 hs5)
  clear hB4 hB5 hs5 hb5 hc5
  go_wp2_with (first | (go_at_call 24; refine CT.out.mono ?_; rintro e w6 ⟨⟨v6, rfl, ho6⟩, hb6⟩; obtain ⟨A6, c6, rfl, h6, hs6⟩ := own_shape ho6; have HO6 := Lib.hid (own_belS HO5.out hb6); have HB6 := Lib.hid (show Below n1 w0 w6 from HB5.out.trans (hb6.mono (HN1.out ▸ (HN1.out ▸ HB5.out).size))); have HS6 := Lib.hid hs6; clear ho6 hs6 hb6) | (at_builtin; refine wpList_append_seg _ rfl _ _ _ rfl n1 5 i0 _ 1 Tryd.underlying25 hi0 hz0 hz1 hz2 rfl _ (1 + 3 + 4) _ rfl HO6.out A6 p.size c6 (u8s (xorN M (octs p))) rfl (by rw [u8s_length, xorN_length, octs_length]) HS6.out (u8s_one _) (by unfold maxLen; omega) (by omega) (HN1.out ▸ (HN1.out ▸ HB6.out).size) ?_; intro v7 w7 ho7 hb7; have HO7 := Lib.hid ho7; have HB7 := Lib.hid (HB6.out.trans hb7); clear ho7 hb7))
  have true := Lib.hid (show EncPost ⟨true, op, true, p⟩ M w (.returned (.tuple #[v7, .int .i64 0])) w7 from by
    have hE : encN ⟨true, op, true, p⟩ M = [op + 128] ++ [128 + 126, p.size / 256, p.size % 256] ++ [M 0, M 1, M 2, M 3] ++ xorN M (octs p) := by
      unfold encN
      dsimp only
      rw [HH.out, if_pos rfl, List.append_assoc ([op + 128] ++ [128 + 126, p.size / 256, p.size % 256])]
    refine ⟨v7, rfl, ?_, HB0.out.trans (HB7.out.mono (HN1.out ▸ HB0.out.size))⟩
    have ho := own_base HO7.out (show w.heap.size ≤ n1 from HN1.out ▸ HB0.out.size)
    rw [u8s_app, u8s_app, u8s_app] at ho
    rw [hE, show ([op + 128] ++ [128 + 126, p.size / 256, p.size % 256] ++ [M 0, M 1, M 2, M 3] ++ xorN M (octs p)).length = 1 + 3 + 4 + p.size by simp only [List.length_append, List.length_cons, List.length_nil, xorN_length, octs_length]]
    exact ho)
  exact bodyPost_ret (v := .tuple #[v7, .int .i64 0]) (by simp [results, Tryd.results9, go_sem]) rfl true.out
set_option maxRecDepth 100000 in
set_option maxHeartbeats 2000000 in
theorem enc_tfs (op : Nat) (M : Nat → Nat) (p : ByteArray) (hop : op < 16) (hp : p.size ≤ 4096) (hM : ∀ i, i < 4 → M i < 256) (hsm : p.size < 126) (w : World) :
    Calls Tryd.prog 9 #[frV ⟨true, op, false, p⟩ M] w (EncPost ⟨true, op, false, p⟩ M w) := by
  obtain ⟨i0, hi0, hz0, hz1, hz2⟩ := info_parts info5
  obtain ⟨w0, hw0⟩ : ∃ x, x = w.alloc (.cells (frC ⟨true, op, false, p⟩ M) 24) := ⟨_, rfl⟩
  obtain ⟨g, hg⟩ : ∃ g, g = w.heap.size := ⟨_, rfl⟩
  have hB : Bk w0 g 24 (frC ⟨true, op, false, p⟩ M) := by rw [hw0, hg]; exact Bk.new w _ _
  have hb0 : Below w.heap.size w w0 := by rw [hw0]; exact (Below.refl _ _).alloc (Nat.le_refl _) _
  have y0 : w0.cell? ⟨g, 0, none⟩ = some (.bool true) := hB.cell 0
  have y1 : w0.cell? ⟨g, 1, none⟩ = some (.int .i64 (op : Nat)) := hB.cell 1
  have y2 : w0.cell? ⟨g, 2, none⟩ = some (.bool false) := hB.cell 2
  have y7 : w0.cell? ⟨g, 7, none⟩ = some (.string p) := hB.cell 7
  have i1 : ¬ (op : Int) < 0 := by omega
  have i2 : ¬ (15 : Int) < (op : Int) := by omega
  have i3 : ¬ (4096 : Int) < (p.size : Int) := by omega
  have e1 : IntKind.u8.wrap (op : Int) = (op : Int) := by rw [IntKind.wrap_u8]; omega
  have o1 := or_top op hop
  have i4 : (p.size : Int) < 126 := by omega
  have e2 : IntKind.u8.wrap (p.size : Int) = (p.size : Int) := by rw [IntKind.wrap_u8]; omega
  have o2 := or_size0 p.size hsm
  obtain ⟨n1, hn1⟩ : ∃ x, x = w0.heap.size := ⟨_, rfl⟩
  obtain ⟨w1, hw1⟩ : ∃ x, x = w0.alloc (.cells #[.int .u8 ((op + 128 : Nat) : Int)] 5) := ⟨_, rfl⟩
  have ho1 : w1.ownsRow n1 5 1 (.slice (some ⟨n1, 0, none⟩) 1 1) 1 (u8s [op + 128]) := by
    rw [hw1, hn1]
    exact World.ownsRow_lit (size := 1) w0 #[.int .u8 ((op + 128 : Nat) : Int)] 1 (Nat.le_refl _) (by decide) rfl
  have hb1 : Below n1 w0 w1 := by rw [hw1, hn1]; exact (Below.refl _ _).alloc (Nat.le_refl _) _
  have hgn : g < n1 := by rw [hn1]; exact hB.lt
  obtain ⟨w2, hw2⟩ : ∃ x, x = w1.alloc (.cells #[.int .u8 (p.size : Int)] 5) := ⟨_, rfl⟩
  obtain ⟨n2, hn2⟩ : ∃ x, x = w1.heap.size := ⟨_, rfl⟩
  have HS2 := Lib.hid (show Seg w2 (some ⟨n2, 0, none⟩) (u8s [p.size]) by rw [hw2, hn2]; exact seg_litU rfl)
  have HO2 := Lib.hid (show w2.ownsRow n1 5 1 (.slice (some ⟨n1, 0, none⟩) 1 1) 1 (u8s [op + 128]) by rw [hw2]; exact ho1.alloc _)
  have HB2 := Lib.hid (show Below n1 w0 w2 by rw [hw2]; exact hb1.alloc (by rw [hn1]; exact (hn1 ▸ hb1).size) _)
  have HB := Lib.hid hB
  have HB0 := Lib.hid hb0
  have HW0 := Lib.hid hw0
  have HW1 := Lib.hid hw1
  have HW2 := Lib.hid hw2
  have HN1 := Lib.hid hn1
  have HN2 := Lib.hid hn2
  have HG := Lib.hid hg
  have HM := Lib.hid hM
  have HGN := Lib.hid hgn
  have HSZ := Lib.hid (show n1 ≤ w2.heap.size from HN1.out ▸ (HN1.out ▸ HB2.out).size)
  have HH := Lib.hid (show headE true op false p.size = [op + 128] ++ [p.size] by
    unfold headE
    rw [if_pos hsm]
    first | rfl | simp)
  clear hw0 hb0 hB hg hM hn1 hw1 ho1 hb1 hw2 hn2 hgn
  unfold frV
  dsimp only
  go_enter Tryd.func9, Tryd.ntmps9
  go_upto_region 1 with fail
  rw [show w.alloc (.cells #[.bool true, .int .i64 (op : Nat), .bool false, .int .u8 (M 0 : Nat), .int .u8 (M 1 : Nat), .int .u8 (M 2 : Nat), .int .u8 (M 3 : Nat), .string p] 24) = w0 from HW0.out.symm, ← HG.out]
  go_upto_region 12 with fail
  rw [show w0.alloc (.cells #[.int .u8 ((op : Int) + 128)] 5) = w1 from HW1.out.symm, ← HN1.out]
  clear y0 y1
  go_upto_region 15 with (at_builtin; rw [show w1.alloc (.cells #[.int .u8 (p.size : Int)] 5) = w2 from HW2.out.symm, ← HN2.out]; refine wpList_append_seg _ rfl _ _ _ rfl n1 5 i0 _ 1 Tryd.underlying25 hi0 hz0 hz1 hz2 rfl _ 1 _ rfl HO2.out _ 1 _ (u8s [p.size]) rfl rfl HS2.out (u8s_one _) (by decide) (by decide) HSZ.out ?_; intro v3 w3 ho3 hb3; have HO3 := Lib.hid ho3; have HB3 := Lib.hid (HB2.out.trans hb3); clear ho3 hb3 y2 y7)
  have hB3 := HB.out.below HB3.out HGN.out
  have y2 : w3.cell? ⟨g, 2, none⟩ = some (.bool false) := hB3.cell 2
  have y7 : w3.cell? ⟨g, 7, none⟩ = some (.string p) := hB3.cell 7
  have HS3 := Lib.hid (show n1 ≤ w3.heap.size from HN1.out ▸ (HN1.out ▸ HB3.out).size)
  clear hB3
  go_wp2_with (refine Lib.wpList_append_own_string _ rfl _ _ _ _ rfl n1 5 i0 Tryd.underlying25 Tryd.underlying9 hi0 hz0 hz1 hz2 _ (1 + 1) _ rfl HO3.out p rfl (by unfold maxLen; omega) (by omega) HS3.out ?_; intro v7 w7 ho7 hg7 _; have HO7 := Lib.hid ho7; have HB7 := Lib.hid (HB3.out.grown hg7 HS3.out (fun k hk => (HO3.out.lt k hk).1)); clear ho7 hg7)
  have true := Lib.hid (show EncPost ⟨true, op, false, p⟩ M w (.returned (.tuple #[v7, .int .i64 0])) w7 from by
    have hE : encN ⟨true, op, false, p⟩ M = [op + 128] ++ [p.size] ++ octs p := by
      unfold encN
      dsimp only
      rw [HH.out, if_neg (by decide)]
    refine ⟨v7, rfl, ?_, HB0.out.trans (HB7.out.mono (HN1.out ▸ HB0.out.size))⟩
    have ho := own_base HO7.out (show w.heap.size ≤ n1 from HN1.out ▸ HB0.out.size)
    rw [strC, u8s_app, u8s_app] at ho
    rw [hE, show ([op + 128] ++ [p.size] ++ octs p).length = 1 + 1 + p.size by simp only [List.length_append, List.length_cons, List.length_nil, octs_length]]
    exact ho)
  exact bodyPost_ret (v := .tuple #[v7, .int .i64 0]) (by simp [results, Tryd.results9, go_sem]) rfl true.out
set_option maxRecDepth 100000 in
set_option maxHeartbeats 2000000 in
theorem enc_tfb (op : Nat) (M : Nat → Nat) (p : ByteArray) (hop : op < 16) (hp : p.size ≤ 4096) (hM : ∀ i, i < 4 → M i < 256) (hsm : ¬ p.size < 126) (w : World) :
    Calls Tryd.prog 9 #[frV ⟨true, op, false, p⟩ M] w (EncPost ⟨true, op, false, p⟩ M w) := by
  obtain ⟨i0, hi0, hz0, hz1, hz2⟩ := info_parts info5
  obtain ⟨w0, hw0⟩ : ∃ x, x = w.alloc (.cells (frC ⟨true, op, false, p⟩ M) 24) := ⟨_, rfl⟩
  obtain ⟨g, hg⟩ : ∃ g, g = w.heap.size := ⟨_, rfl⟩
  have hB : Bk w0 g 24 (frC ⟨true, op, false, p⟩ M) := by rw [hw0, hg]; exact Bk.new w _ _
  have hb0 : Below w.heap.size w w0 := by rw [hw0]; exact (Below.refl _ _).alloc (Nat.le_refl _) _
  have y0 : w0.cell? ⟨g, 0, none⟩ = some (.bool true) := hB.cell 0
  have y1 : w0.cell? ⟨g, 1, none⟩ = some (.int .i64 (op : Nat)) := hB.cell 1
  have y2 : w0.cell? ⟨g, 2, none⟩ = some (.bool false) := hB.cell 2
  have y7 : w0.cell? ⟨g, 7, none⟩ = some (.string p) := hB.cell 7
  have i1 : ¬ (op : Int) < 0 := by omega
  have i2 : ¬ (15 : Int) < (op : Int) := by omega
  have i3 : ¬ (4096 : Int) < (p.size : Int) := by omega
  have e1 : IntKind.u8.wrap (op : Int) = (op : Int) := by rw [IntKind.wrap_u8]; omega
  have o1 := or_top op hop
  have i4 : ¬ (p.size : Int) < 126 := by omega
  have o3 : bits .or .u8 0 126 = 126 := by decide +kernel
  have e2 : IntKind.u8.wrap (p.size : Int) = ((p.size % 256 : Nat) : Int) := by rw [IntKind.wrap_u8]; omega
  have e3 : IntKind.u8.wrap ((p.size : Int) / 256) = ((p.size / 256 : Nat) : Int) := by rw [IntKind.wrap_u8]; omega
  obtain ⟨n1, hn1⟩ : ∃ x, x = w0.heap.size := ⟨_, rfl⟩
  obtain ⟨w1, hw1⟩ : ∃ x, x = w0.alloc (.cells #[.int .u8 ((op + 128 : Nat) : Int)] 5) := ⟨_, rfl⟩
  have ho1 : w1.ownsRow n1 5 1 (.slice (some ⟨n1, 0, none⟩) 1 1) 1 (u8s [op + 128]) := by
    rw [hw1, hn1]
    exact World.ownsRow_lit (size := 1) w0 #[.int .u8 ((op + 128 : Nat) : Int)] 1 (Nat.le_refl _) (by decide) rfl
  have hb1 : Below n1 w0 w1 := by rw [hw1, hn1]; exact (Below.refl _ _).alloc (Nat.le_refl _) _
  have hgn : g < n1 := by rw [hn1]; exact hB.lt
  obtain ⟨w2, hw2⟩ : ∃ x, x = w1.alloc (.cells #[.int .u8 ((0 + 126 : Nat) : Int), .int .u8 ((p.size / 256 : Nat) : Int), .int .u8 ((p.size % 256 : Nat) : Int)] 5) := ⟨_, rfl⟩
  obtain ⟨n2, hn2⟩ : ∃ x, x = w1.heap.size := ⟨_, rfl⟩
  have HS2 := Lib.hid (show Seg w2 (some ⟨n2, 0, none⟩) (u8s [0 + 126, p.size / 256, p.size % 256]) by rw [hw2, hn2]; exact seg_litU rfl)
  have HO2 := Lib.hid (show w2.ownsRow n1 5 1 (.slice (some ⟨n1, 0, none⟩) 1 1) 1 (u8s [op + 128]) by rw [hw2]; exact ho1.alloc _)
  have HB2 := Lib.hid (show Below n1 w0 w2 by rw [hw2]; exact hb1.alloc (by rw [hn1]; exact (hn1 ▸ hb1).size) _)
  have HB := Lib.hid hB
  have HB0 := Lib.hid hb0
  have HW0 := Lib.hid hw0
  have HW1 := Lib.hid hw1
  have HW2 := Lib.hid hw2
  have HN1 := Lib.hid hn1
  have HN2 := Lib.hid hn2
  have HG := Lib.hid hg
  have HM := Lib.hid hM
  have HGN := Lib.hid hgn
  have HSZ := Lib.hid (show n1 ≤ w2.heap.size from HN1.out ▸ (HN1.out ▸ HB2.out).size)
  have HH := Lib.hid (show headE true op false p.size = [op + 128] ++ [0 + 126, p.size / 256, p.size % 256] by
    unfold headE
    rw [if_neg hsm]
    first | rfl | simp)
  clear hw0 hb0 hB hg hM hn1 hw1 ho1 hb1 hw2 hn2 hgn
  unfold frV
  dsimp only
  go_enter Tryd.func9, Tryd.ntmps9
  go_upto_region 1 with fail
  rw [show w.alloc (.cells #[.bool true, .int .i64 (op : Nat), .bool false, .int .u8 (M 0 : Nat), .int .u8 (M 1 : Nat), .int .u8 (M 2 : Nat), .int .u8 (M 3 : Nat), .string p] 24) = w0 from HW0.out.symm, ← HG.out]
  go_upto_region 12 with fail
  rw [show w0.alloc (.cells #[.int .u8 ((op : Int) + 128)] 5) = w1 from HW1.out.symm, ← HN1.out]
  clear y0 y1
  go_upto_region 15 with (at_builtin; rw [show w1.alloc (.cells #[.int .u8 126, .int .u8 ((p.size : Int) / 256), .int .u8 ((p.size : Int) % 256)] 5) = w2 from HW2.out.symm, ← HN2.out]; refine wpList_append_seg _ rfl _ _ _ rfl n1 5 i0 _ 1 Tryd.underlying25 hi0 hz0 hz1 hz2 rfl _ 1 _ rfl HO2.out _ 3 _ (u8s [0 + 126, p.size / 256, p.size % 256]) rfl rfl HS2.out (u8s_one _) (by decide) (by decide) HSZ.out ?_; intro v3 w3 ho3 hb3; have HO3 := Lib.hid ho3; have HB3 := Lib.hid (HB2.out.trans hb3); clear ho3 hb3 y2 y7)
  have hB3 := HB.out.below HB3.out HGN.out
  have y2 : w3.cell? ⟨g, 2, none⟩ = some (.bool false) := hB3.cell 2
  have y7 : w3.cell? ⟨g, 7, none⟩ = some (.string p) := hB3.cell 7
  have HS3 := Lib.hid (show n1 ≤ w3.heap.size from HN1.out ▸ (HN1.out ▸ HB3.out).size)
  clear hB3
  go_wp2_with (refine Lib.wpList_append_own_string _ rfl _ _ _ _ rfl n1 5 i0 Tryd.underlying25 Tryd.underlying9 hi0 hz0 hz1 hz2 _ (1 + 3) _ rfl HO3.out p rfl (by unfold maxLen; omega) (by omega) HS3.out ?_; intro v7 w7 ho7 hg7 _; have HO7 := Lib.hid ho7; have HB7 := Lib.hid (HB3.out.grown hg7 HS3.out (fun k hk => (HO3.out.lt k hk).1)); clear ho7 hg7)
  have true := Lib.hid (show EncPost ⟨true, op, false, p⟩ M w (.returned (.tuple #[v7, .int .i64 0])) w7 from by
    have hE : encN ⟨true, op, false, p⟩ M = [op + 128] ++ [0 + 126, p.size / 256, p.size % 256] ++ octs p := by
      unfold encN
      dsimp only
      rw [HH.out, if_neg (by decide)]
    refine ⟨v7, rfl, ?_, HB0.out.trans (HB7.out.mono (HN1.out ▸ HB0.out.size))⟩
    have ho := own_base HO7.out (show w.heap.size ≤ n1 from HN1.out ▸ HB0.out.size)
    rw [strC, u8s_app, u8s_app] at ho
    rw [hE, show ([op + 128] ++ [0 + 126, p.size / 256, p.size % 256] ++ octs p).length = 1 + 3 + p.size by simp only [List.length_append, List.length_cons, List.length_nil, octs_length]]
    exact ho)
  exact bodyPost_ret (v := .tuple #[v7, .int .i64 0]) (by simp [results, Tryd.results9, go_sem]) rfl true.out
set_option maxRecDepth 100000 in
set_option maxHeartbeats 2000000 in
theorem enc_fts (op : Nat) (M : Nat → Nat) (p : ByteArray) (hop : op < 16) (hp : p.size ≤ 4096) (hM : ∀ i, i < 4 → M i < 256) (hsm : p.size < 126) (w : World) :
    Calls Tryd.prog 9 #[frV ⟨false, op, true, p⟩ M] w (EncPost ⟨false, op, true, p⟩ M w) := by
  obtain ⟨i0, hi0, hz0, hz1, hz2⟩ := info_parts info5
  obtain ⟨w0, hw0⟩ : ∃ x, x = w.alloc (.cells (frC ⟨false, op, true, p⟩ M) 24) := ⟨_, rfl⟩
  obtain ⟨g, hg⟩ : ∃ g, g = w.heap.size := ⟨_, rfl⟩
  have hB : Bk w0 g 24 (frC ⟨false, op, true, p⟩ M) := by rw [hw0, hg]; exact Bk.new w _ _
  have hb0 : Below w.heap.size w w0 := by rw [hw0]; exact (Below.refl _ _).alloc (Nat.le_refl _) _
  have y0 : w0.cell? ⟨g, 0, none⟩ = some (.bool false) := hB.cell 0
  have y1 : w0.cell? ⟨g, 1, none⟩ = some (.int .i64 (op : Nat)) := hB.cell 1
  have y2 : w0.cell? ⟨g, 2, none⟩ = some (.bool true) := hB.cell 2
  have y7 : w0.cell? ⟨g, 7, none⟩ = some (.string p) := hB.cell 7
  have i1 : ¬ (op : Int) < 0 := by omega
  have i2 : ¬ (15 : Int) < (op : Int) := by omega
  have i3 : ¬ (4096 : Int) < (p.size : Int) := by omega
  have e1 : IntKind.u8.wrap (op : Int) = (op : Int) := by rw [IntKind.wrap_u8]; omega
  have o1 := or_top op hop
  have i4 : (p.size : Int) < 126 := by omega
  have e2 : IntKind.u8.wrap (p.size : Int) = (p.size : Int) := by rw [IntKind.wrap_u8]; omega
  have o2 := or_size1 p.size hsm
  obtain ⟨n1, hn1⟩ : ∃ x, x = w0.heap.size := ⟨_, rfl⟩
  obtain ⟨w1, hw1⟩ : ∃ x, x = w0.alloc (.cells #[.int .u8 ((op : Nat) : Int)] 5) := ⟨_, rfl⟩
  have ho1 : w1.ownsRow n1 5 1 (.slice (some ⟨n1, 0, none⟩) 1 1) 1 (u8s [op]) := by
    rw [hw1, hn1]
    exact World.ownsRow_lit (size := 1) w0 #[.int .u8 ((op : Nat) : Int)] 1 (Nat.le_refl _) (by decide) rfl
  have hb1 : Below n1 w0 w1 := by rw [hw1, hn1]; exact (Below.refl _ _).alloc (Nat.le_refl _) _
  have hgn : g < n1 := by rw [hn1]; exact hB.lt
  obtain ⟨w2, hw2⟩ : ∃ x, x = w1.alloc (.cells #[.int .u8 ((128 + p.size : Nat) : Int)] 5) := ⟨_, rfl⟩
  obtain ⟨n2, hn2⟩ : ∃ x, x = w1.heap.size := ⟨_, rfl⟩
  have HS2 := Lib.hid (show Seg w2 (some ⟨n2, 0, none⟩) (u8s [128 + p.size]) by rw [hw2, hn2]; exact seg_litU rfl)
  have HO2 := Lib.hid (show w2.ownsRow n1 5 1 (.slice (some ⟨n1, 0, none⟩) 1 1) 1 (u8s [op]) by rw [hw2]; exact ho1.alloc _)
  have HB2 := Lib.hid (show Below n1 w0 w2 by rw [hw2]; exact hb1.alloc (by rw [hn1]; exact (hn1 ▸ hb1).size) _)
  have HB := Lib.hid hB
  have HB0 := Lib.hid hb0
  have HW0 := Lib.hid hw0
  have HW1 := Lib.hid hw1
  have HW2 := Lib.hid hw2
  have HN1 := Lib.hid hn1
  have HN2 := Lib.hid hn2
  have HG := Lib.hid hg
  have HM := Lib.hid hM
  have HGN := Lib.hid hgn
  have HSZ := Lib.hid (show n1 ≤ w2.heap.size from HN1.out ▸ (HN1.out ▸ HB2.out).size)
  have HH := Lib.hid (show headE false op true p.size = [op] ++ [128 + p.size] by
    unfold headE
    rw [if_pos hsm]
    first | rfl | simp)
  clear hw0 hb0 hB hg hM hn1 hw1 ho1 hb1 hw2 hn2 hgn
  unfold frV
  dsimp only
  go_enter Tryd.func9, Tryd.ntmps9
  go_upto_region 1 with fail
  rw [show w.alloc (.cells #[.bool false, .int .i64 (op : Nat), .bool true, .int .u8 (M 0 : Nat), .int .u8 (M 1 : Nat), .int .u8 (M 2 : Nat), .int .u8 (M 3 : Nat), .string p] 24) = w0 from HW0.out.symm, ← HG.out]
  go_upto_region 12 with fail
  rw [show w0.alloc (.cells #[.int .u8 (op : Int)] 5) = w1 from HW1.out.symm, ← HN1.out]
  clear y0 y1
  go_upto_region 15 with (at_builtin; rw [show w1.alloc (.cells #[.int .u8 (128 + (p.size : Int))] 5) = w2 from HW2.out.symm, ← HN2.out]; refine wpList_append_seg _ rfl _ _ _ rfl n1 5 i0 _ 1 Tryd.underlying25 hi0 hz0 hz1 hz2 rfl _ 1 _ rfl HO2.out _ 1 _ (u8s [128 + p.size]) rfl rfl HS2.out (u8s_one _) (by decide) (by decide) HSZ.out ?_; intro v3 w3 ho3 hb3; have HO3 := Lib.hid ho3; have HB3 := Lib.hid (HB2.out.trans hb3); clear ho3 hb3 y2 y7)
  have hB3 := HB.out.below HB3.out HGN.out
  have y2 : w3.cell? ⟨g, 2, none⟩ = some (.bool true) := hB3.cell 2
  have SM := Lib.hid (seg_mask hB3)
  have HS3 := Lib.hid (show n1 ≤ w3.heap.size from HN1.out ▸ (HN1.out ▸ HB3.out).size)
  have HBB := Lib.hid hB3
  clear hB3
  go_upto_region 18 with (at_builtin; refine wpList_append_seg _ rfl _ _ _ rfl n1 5 i0 _ 1 Tryd.underlying25 hi0 hz0 hz1 hz2 rfl _ (1 + 1) _ rfl HO3.out _ 4 _ (u8s [M 0, M 1, M 2, M 3]) rfl rfl SM.out (u8s_one _) (by decide) (by decide) HS3.out ?_; intro v4 w4 ho4 hb4; have HO4 := Lib.hid ho4; have HB4 := Lib.hid (HB3.out.trans hb4); clear ho4 hb4 y2)
  obtain ⟨c5, w5, hrun, hc5, hs5, hb5⟩ := convS_any p w4
  have hB4 := HB.out.below HB4.out HGN.out
  have y7 : w4.cell? ⟨g, 7, none⟩ = some (.string p) := hB4.cell 7
  have hB5 := hB4.bel hb5
  have y3 : w5.cell? ⟨g, 3, none⟩ = some (.int .u8 (M 0 : Nat)) := hB5.cell 3
  have y4 : w5.cell? ⟨g, 4, none⟩ = some (.int .u8 (M 1 : Nat)) := hB5.cell 4
  have y5 : w5.cell? ⟨g, 5, none⟩ = some (.int .u8 (M 2 : Nat)) := hB5.cell 5
  have y6 : w5.cell? ⟨g, 6, none⟩ = some (.int .u8 (M 3 : Nat)) := hB5.cell 6
  have HO5 := Lib.hid (own_belS HO4.out hb5)
  have HB5 := Lib.hid (show Below n1 w0 w5 from HB4.out.trans (hb5.mono (HN1.out ▸ (HN1.out ▸ HB4.out).size)))
  have CT := Lib.hid (turned_any (some ⟨w4.heap.size, 0, none⟩) p.size c5 (octs p) M HM.out (octs_lt p) (octs_length p).symm hc5 (by omega) w5 hs5)
  clear hB4 hB5 hs5 hb5 hc5
  go_wp2_with (first | (go_at_call 24; refine CT.out.mono ?_; rintro e w6 ⟨⟨v6, rfl, ho6⟩, hb6⟩; obtain ⟨A6, c6, rfl, h6, hs6⟩ := own_shape ho6; have HO6 := Lib.hid (own_belS HO5.out hb6); have HB6 := Lib.hid (show Below n1 w0 w6 from HB5.out.trans (hb6.mono (HN1.out ▸ (HN1.out ▸ HB5.out).size))); have HS6 := Lib.hid hs6; clear ho6 hs6 hb6) | (at_builtin; refine wpList_append_seg _ rfl _ _ _ rfl n1 5 i0 _ 1 Tryd.underlying25 hi0 hz0 hz1 hz2 rfl _ (1 + 1 + 4) _ rfl HO6.out A6 p.size c6 (u8s (xorN M (octs p))) rfl (by rw [u8s_length, xorN_length, octs_length]) HS6.out (u8s_one _) (by unfold maxLen; omega) (by omega) (HN1.out ▸ (HN1.out ▸ HB6.out).size) ?_; intro v7 w7 ho7 hb7; have HO7 := Lib.hid ho7; have HB7 := Lib.hid (HB6.out.trans hb7); clear ho7 hb7))
  have false := Lib.hid (show EncPost ⟨false, op, true, p⟩ M w (.returned (.tuple #[v7, .int .i64 0])) w7 from by
    have hE : encN ⟨false, op, true, p⟩ M = [op] ++ [128 + p.size] ++ [M 0, M 1, M 2, M 3] ++ xorN M (octs p) := by
      unfold encN
      dsimp only
      rw [HH.out, if_pos rfl, List.append_assoc ([op] ++ [128 + p.size])]
    refine ⟨v7, rfl, ?_, HB0.out.trans (HB7.out.mono (HN1.out ▸ HB0.out.size))⟩
    have ho := own_base HO7.out (show w.heap.size ≤ n1 from HN1.out ▸ HB0.out.size)
    rw [u8s_app, u8s_app, u8s_app] at ho
    rw [hE, show ([op] ++ [128 + p.size] ++ [M 0, M 1, M 2, M 3] ++ xorN M (octs p)).length = 1 + 1 + 4 + p.size by simp only [List.length_append, List.length_cons, List.length_nil, xorN_length, octs_length]]
    exact ho)
  exact bodyPost_ret (v := .tuple #[v7, .int .i64 0]) (by simp [results, Tryd.results9, go_sem]) rfl false.out
set_option maxRecDepth 100000 in
set_option maxHeartbeats 2000000 in
theorem enc_ftb (op : Nat) (M : Nat → Nat) (p : ByteArray) (hop : op < 16) (hp : p.size ≤ 4096) (hM : ∀ i, i < 4 → M i < 256) (hsm : ¬ p.size < 126) (w : World) :
    Calls Tryd.prog 9 #[frV ⟨false, op, true, p⟩ M] w (EncPost ⟨false, op, true, p⟩ M w) := by
  obtain ⟨i0, hi0, hz0, hz1, hz2⟩ := info_parts info5
  obtain ⟨w0, hw0⟩ : ∃ x, x = w.alloc (.cells (frC ⟨false, op, true, p⟩ M) 24) := ⟨_, rfl⟩
  obtain ⟨g, hg⟩ : ∃ g, g = w.heap.size := ⟨_, rfl⟩
  have hB : Bk w0 g 24 (frC ⟨false, op, true, p⟩ M) := by rw [hw0, hg]; exact Bk.new w _ _
  have hb0 : Below w.heap.size w w0 := by rw [hw0]; exact (Below.refl _ _).alloc (Nat.le_refl _) _
  have y0 : w0.cell? ⟨g, 0, none⟩ = some (.bool false) := hB.cell 0
  have y1 : w0.cell? ⟨g, 1, none⟩ = some (.int .i64 (op : Nat)) := hB.cell 1
  have y2 : w0.cell? ⟨g, 2, none⟩ = some (.bool true) := hB.cell 2
  have y7 : w0.cell? ⟨g, 7, none⟩ = some (.string p) := hB.cell 7
  have i1 : ¬ (op : Int) < 0 := by omega
  have i2 : ¬ (15 : Int) < (op : Int) := by omega
  have i3 : ¬ (4096 : Int) < (p.size : Int) := by omega
  have e1 : IntKind.u8.wrap (op : Int) = (op : Int) := by rw [IntKind.wrap_u8]; omega
  have o1 := or_top op hop
  have i4 : ¬ (p.size : Int) < 126 := by omega
  have o3 : bits .or .u8 128 126 = 254 := by decide +kernel
  have e2 : IntKind.u8.wrap (p.size : Int) = ((p.size % 256 : Nat) : Int) := by rw [IntKind.wrap_u8]; omega
  have e3 : IntKind.u8.wrap ((p.size : Int) / 256) = ((p.size / 256 : Nat) : Int) := by rw [IntKind.wrap_u8]; omega
  obtain ⟨n1, hn1⟩ : ∃ x, x = w0.heap.size := ⟨_, rfl⟩
  obtain ⟨w1, hw1⟩ : ∃ x, x = w0.alloc (.cells #[.int .u8 ((op : Nat) : Int)] 5) := ⟨_, rfl⟩
  have ho1 : w1.ownsRow n1 5 1 (.slice (some ⟨n1, 0, none⟩) 1 1) 1 (u8s [op]) := by
    rw [hw1, hn1]
    exact World.ownsRow_lit (size := 1) w0 #[.int .u8 ((op : Nat) : Int)] 1 (Nat.le_refl _) (by decide) rfl
  have hb1 : Below n1 w0 w1 := by rw [hw1, hn1]; exact (Below.refl _ _).alloc (Nat.le_refl _) _
  have hgn : g < n1 := by rw [hn1]; exact hB.lt
  obtain ⟨w2, hw2⟩ : ∃ x, x = w1.alloc (.cells #[.int .u8 ((128 + 126 : Nat) : Int), .int .u8 ((p.size / 256 : Nat) : Int), .int .u8 ((p.size % 256 : Nat) : Int)] 5) := ⟨_, rfl⟩
  obtain ⟨n2, hn2⟩ : ∃ x, x = w1.heap.size := ⟨_, rfl⟩
  have HS2 := Lib.hid (show Seg w2 (some ⟨n2, 0, none⟩) (u8s [128 + 126, p.size / 256, p.size % 256]) by rw [hw2, hn2]; exact seg_litU rfl)
  have HO2 := Lib.hid (show w2.ownsRow n1 5 1 (.slice (some ⟨n1, 0, none⟩) 1 1) 1 (u8s [op]) by rw [hw2]; exact ho1.alloc _)
  have HB2 := Lib.hid (show Below n1 w0 w2 by rw [hw2]; exact hb1.alloc (by rw [hn1]; exact (hn1 ▸ hb1).size) _)
  have HB := Lib.hid hB
  have HB0 := Lib.hid hb0
  have HW0 := Lib.hid hw0
  have HW1 := Lib.hid hw1
  have HW2 := Lib.hid hw2
  have HN1 := Lib.hid hn1
  have HN2 := Lib.hid hn2
  have HG := Lib.hid hg
  have HM := Lib.hid hM
  have HGN := Lib.hid hgn
  have HSZ := Lib.hid (show n1 ≤ w2.heap.size from HN1.out ▸ (HN1.out ▸ HB2.out).size)
  have HH := Lib.hid (show headE false op true p.size = [op] ++ [128 + 126, p.size / 256, p.size % 256] by
    unfold headE
    rw [if_neg hsm]
    first | rfl | simp)
  clear hw0 hb0 hB hg hM hn1 hw1 ho1 hb1 hw2 hn2 hgn
  unfold frV
  dsimp only
  go_enter Tryd.func9, Tryd.ntmps9
  go_upto_region 1 with fail
  rw [show w.alloc (.cells #[.bool false, .int .i64 (op : Nat), .bool true, .int .u8 (M 0 : Nat), .int .u8 (M 1 : Nat), .int .u8 (M 2 : Nat), .int .u8 (M 3 : Nat), .string p] 24) = w0 from HW0.out.symm, ← HG.out]
  go_upto_region 12 with fail
  rw [show w0.alloc (.cells #[.int .u8 (op : Int)] 5) = w1 from HW1.out.symm, ← HN1.out]
  clear y0 y1
  go_upto_region 15 with (at_builtin; rw [show w1.alloc (.cells #[.int .u8 254, .int .u8 ((p.size : Int) / 256), .int .u8 ((p.size : Int) % 256)] 5) = w2 from HW2.out.symm, ← HN2.out]; refine wpList_append_seg _ rfl _ _ _ rfl n1 5 i0 _ 1 Tryd.underlying25 hi0 hz0 hz1 hz2 rfl _ 1 _ rfl HO2.out _ 3 _ (u8s [128 + 126, p.size / 256, p.size % 256]) rfl rfl HS2.out (u8s_one _) (by decide) (by decide) HSZ.out ?_; intro v3 w3 ho3 hb3; have HO3 := Lib.hid ho3; have HB3 := Lib.hid (HB2.out.trans hb3); clear ho3 hb3 y2 y7)
  have hB3 := HB.out.below HB3.out HGN.out
  have y2 : w3.cell? ⟨g, 2, none⟩ = some (.bool true) := hB3.cell 2
  have SM := Lib.hid (seg_mask hB3)
  have HS3 := Lib.hid (show n1 ≤ w3.heap.size from HN1.out ▸ (HN1.out ▸ HB3.out).size)
  have HBB := Lib.hid hB3
  clear hB3
  go_upto_region 18 with (at_builtin; refine wpList_append_seg _ rfl _ _ _ rfl n1 5 i0 _ 1 Tryd.underlying25 hi0 hz0 hz1 hz2 rfl _ (1 + 3) _ rfl HO3.out _ 4 _ (u8s [M 0, M 1, M 2, M 3]) rfl rfl SM.out (u8s_one _) (by decide) (by decide) HS3.out ?_; intro v4 w4 ho4 hb4; have HO4 := Lib.hid ho4; have HB4 := Lib.hid (HB3.out.trans hb4); clear ho4 hb4 y2)
  obtain ⟨c5, w5, hrun, hc5, hs5, hb5⟩ := convS_any p w4
  have hB4 := HB.out.below HB4.out HGN.out
  have y7 : w4.cell? ⟨g, 7, none⟩ = some (.string p) := hB4.cell 7
  have hB5 := hB4.bel hb5
  have y3 : w5.cell? ⟨g, 3, none⟩ = some (.int .u8 (M 0 : Nat)) := hB5.cell 3
  have y4 : w5.cell? ⟨g, 4, none⟩ = some (.int .u8 (M 1 : Nat)) := hB5.cell 4
  have y5 : w5.cell? ⟨g, 5, none⟩ = some (.int .u8 (M 2 : Nat)) := hB5.cell 5
  have y6 : w5.cell? ⟨g, 6, none⟩ = some (.int .u8 (M 3 : Nat)) := hB5.cell 6
  have HO5 := Lib.hid (own_belS HO4.out hb5)
  have HB5 := Lib.hid (show Below n1 w0 w5 from HB4.out.trans (hb5.mono (HN1.out ▸ (HN1.out ▸ HB4.out).size)))
  have CT := Lib.hid (turned_any (some ⟨w4.heap.size, 0, none⟩) p.size c5 (octs p) M HM.out (octs_lt p) (octs_length p).symm hc5 (by omega) w5 hs5)
  clear hB4 hB5 hs5 hb5 hc5
  go_wp2_with (first | (go_at_call 24; refine CT.out.mono ?_; rintro e w6 ⟨⟨v6, rfl, ho6⟩, hb6⟩; obtain ⟨A6, c6, rfl, h6, hs6⟩ := own_shape ho6; have HO6 := Lib.hid (own_belS HO5.out hb6); have HB6 := Lib.hid (show Below n1 w0 w6 from HB5.out.trans (hb6.mono (HN1.out ▸ (HN1.out ▸ HB5.out).size))); have HS6 := Lib.hid hs6; clear ho6 hs6 hb6) | (at_builtin; refine wpList_append_seg _ rfl _ _ _ rfl n1 5 i0 _ 1 Tryd.underlying25 hi0 hz0 hz1 hz2 rfl _ (1 + 3 + 4) _ rfl HO6.out A6 p.size c6 (u8s (xorN M (octs p))) rfl (by rw [u8s_length, xorN_length, octs_length]) HS6.out (u8s_one _) (by unfold maxLen; omega) (by omega) (HN1.out ▸ (HN1.out ▸ HB6.out).size) ?_; intro v7 w7 ho7 hb7; have HO7 := Lib.hid ho7; have HB7 := Lib.hid (HB6.out.trans hb7); clear ho7 hb7))
  have false := Lib.hid (show EncPost ⟨false, op, true, p⟩ M w (.returned (.tuple #[v7, .int .i64 0])) w7 from by
    have hE : encN ⟨false, op, true, p⟩ M = [op] ++ [128 + 126, p.size / 256, p.size % 256] ++ [M 0, M 1, M 2, M 3] ++ xorN M (octs p) := by
      unfold encN
      dsimp only
      rw [HH.out, if_pos rfl, List.append_assoc ([op] ++ [128 + 126, p.size / 256, p.size % 256])]
    refine ⟨v7, rfl, ?_, HB0.out.trans (HB7.out.mono (HN1.out ▸ HB0.out.size))⟩
    have ho := own_base HO7.out (show w.heap.size ≤ n1 from HN1.out ▸ HB0.out.size)
    rw [u8s_app, u8s_app, u8s_app] at ho
    rw [hE, show ([op] ++ [128 + 126, p.size / 256, p.size % 256] ++ [M 0, M 1, M 2, M 3] ++ xorN M (octs p)).length = 1 + 3 + 4 + p.size by simp only [List.length_append, List.length_cons, List.length_nil, xorN_length, octs_length]]
    exact ho)
  exact bodyPost_ret (v := .tuple #[v7, .int .i64 0]) (by simp [results, Tryd.results9, go_sem]) rfl false.out
set_option maxRecDepth 100000 in
set_option maxHeartbeats 2000000 in
theorem enc_ffs (op : Nat) (M : Nat → Nat) (p : ByteArray) (hop : op < 16) (hp : p.size ≤ 4096) (hM : ∀ i, i < 4 → M i < 256) (hsm : p.size < 126) (w : World) :
    Calls Tryd.prog 9 #[frV ⟨false, op, false, p⟩ M] w (EncPost ⟨false, op, false, p⟩ M w) := by
  obtain ⟨i0, hi0, hz0, hz1, hz2⟩ := info_parts info5
  obtain ⟨w0, hw0⟩ : ∃ x, x = w.alloc (.cells (frC ⟨false, op, false, p⟩ M) 24) := ⟨_, rfl⟩
  obtain ⟨g, hg⟩ : ∃ g, g = w.heap.size := ⟨_, rfl⟩
  have hB : Bk w0 g 24 (frC ⟨false, op, false, p⟩ M) := by rw [hw0, hg]; exact Bk.new w _ _
  have hb0 : Below w.heap.size w w0 := by rw [hw0]; exact (Below.refl _ _).alloc (Nat.le_refl _) _
  have y0 : w0.cell? ⟨g, 0, none⟩ = some (.bool false) := hB.cell 0
  have y1 : w0.cell? ⟨g, 1, none⟩ = some (.int .i64 (op : Nat)) := hB.cell 1
  have y2 : w0.cell? ⟨g, 2, none⟩ = some (.bool false) := hB.cell 2
  have y7 : w0.cell? ⟨g, 7, none⟩ = some (.string p) := hB.cell 7
  have i1 : ¬ (op : Int) < 0 := by omega
  have i2 : ¬ (15 : Int) < (op : Int) := by omega
  have i3 : ¬ (4096 : Int) < (p.size : Int) := by omega
  have e1 : IntKind.u8.wrap (op : Int) = (op : Int) := by rw [IntKind.wrap_u8]; omega
  have o1 := or_top op hop
  have i4 : (p.size : Int) < 126 := by omega
  have e2 : IntKind.u8.wrap (p.size : Int) = (p.size : Int) := by rw [IntKind.wrap_u8]; omega
  have o2 := or_size0 p.size hsm
  obtain ⟨n1, hn1⟩ : ∃ x, x = w0.heap.size := ⟨_, rfl⟩
  obtain ⟨w1, hw1⟩ : ∃ x, x = w0.alloc (.cells #[.int .u8 ((op : Nat) : Int)] 5) := ⟨_, rfl⟩
  have ho1 : w1.ownsRow n1 5 1 (.slice (some ⟨n1, 0, none⟩) 1 1) 1 (u8s [op]) := by
    rw [hw1, hn1]
    exact World.ownsRow_lit (size := 1) w0 #[.int .u8 ((op : Nat) : Int)] 1 (Nat.le_refl _) (by decide) rfl
  have hb1 : Below n1 w0 w1 := by rw [hw1, hn1]; exact (Below.refl _ _).alloc (Nat.le_refl _) _
  have hgn : g < n1 := by rw [hn1]; exact hB.lt
  obtain ⟨w2, hw2⟩ : ∃ x, x = w1.alloc (.cells #[.int .u8 (p.size : Int)] 5) := ⟨_, rfl⟩
  obtain ⟨n2, hn2⟩ : ∃ x, x = w1.heap.size := ⟨_, rfl⟩
  have HS2 := Lib.hid (show Seg w2 (some ⟨n2, 0, none⟩) (u8s [p.size]) by rw [hw2, hn2]; exact seg_litU rfl)
  have HO2 := Lib.hid (show w2.ownsRow n1 5 1 (.slice (some ⟨n1, 0, none⟩) 1 1) 1 (u8s [op]) by rw [hw2]; exact ho1.alloc _)
  have HB2 := Lib.hid (show Below n1 w0 w2 by rw [hw2]; exact hb1.alloc (by rw [hn1]; exact (hn1 ▸ hb1).size) _)
  have HB := Lib.hid hB
  have HB0 := Lib.hid hb0
  have HW0 := Lib.hid hw0
  have HW1 := Lib.hid hw1
  have HW2 := Lib.hid hw2
  have HN1 := Lib.hid hn1
  have HN2 := Lib.hid hn2
  have HG := Lib.hid hg
  have HM := Lib.hid hM
  have HGN := Lib.hid hgn
  have HSZ := Lib.hid (show n1 ≤ w2.heap.size from HN1.out ▸ (HN1.out ▸ HB2.out).size)
  have HH := Lib.hid (show headE false op false p.size = [op] ++ [p.size] by
    unfold headE
    rw [if_pos hsm]
    first | rfl | simp)
  clear hw0 hb0 hB hg hM hn1 hw1 ho1 hb1 hw2 hn2 hgn
  unfold frV
  dsimp only
  go_enter Tryd.func9, Tryd.ntmps9
  go_upto_region 1 with fail
  rw [show w.alloc (.cells #[.bool false, .int .i64 (op : Nat), .bool false, .int .u8 (M 0 : Nat), .int .u8 (M 1 : Nat), .int .u8 (M 2 : Nat), .int .u8 (M 3 : Nat), .string p] 24) = w0 from HW0.out.symm, ← HG.out]
  go_upto_region 12 with fail
  rw [show w0.alloc (.cells #[.int .u8 (op : Int)] 5) = w1 from HW1.out.symm, ← HN1.out]
  clear y0 y1
  go_upto_region 15 with (at_builtin; rw [show w1.alloc (.cells #[.int .u8 (p.size : Int)] 5) = w2 from HW2.out.symm, ← HN2.out]; refine wpList_append_seg _ rfl _ _ _ rfl n1 5 i0 _ 1 Tryd.underlying25 hi0 hz0 hz1 hz2 rfl _ 1 _ rfl HO2.out _ 1 _ (u8s [p.size]) rfl rfl HS2.out (u8s_one _) (by decide) (by decide) HSZ.out ?_; intro v3 w3 ho3 hb3; have HO3 := Lib.hid ho3; have HB3 := Lib.hid (HB2.out.trans hb3); clear ho3 hb3 y2 y7)
  have hB3 := HB.out.below HB3.out HGN.out
  have y2 : w3.cell? ⟨g, 2, none⟩ = some (.bool false) := hB3.cell 2
  have y7 : w3.cell? ⟨g, 7, none⟩ = some (.string p) := hB3.cell 7
  have HS3 := Lib.hid (show n1 ≤ w3.heap.size from HN1.out ▸ (HN1.out ▸ HB3.out).size)
  clear hB3
  go_wp2_with (refine Lib.wpList_append_own_string _ rfl _ _ _ _ rfl n1 5 i0 Tryd.underlying25 Tryd.underlying9 hi0 hz0 hz1 hz2 _ (1 + 1) _ rfl HO3.out p rfl (by unfold maxLen; omega) (by omega) HS3.out ?_; intro v7 w7 ho7 hg7 _; have HO7 := Lib.hid ho7; have HB7 := Lib.hid (HB3.out.grown hg7 HS3.out (fun k hk => (HO3.out.lt k hk).1)); clear ho7 hg7)
  have false := Lib.hid (show EncPost ⟨false, op, false, p⟩ M w (.returned (.tuple #[v7, .int .i64 0])) w7 from by
    have hE : encN ⟨false, op, false, p⟩ M = [op] ++ [p.size] ++ octs p := by
      unfold encN
      dsimp only
      rw [HH.out, if_neg (by decide)]
    refine ⟨v7, rfl, ?_, HB0.out.trans (HB7.out.mono (HN1.out ▸ HB0.out.size))⟩
    have ho := own_base HO7.out (show w.heap.size ≤ n1 from HN1.out ▸ HB0.out.size)
    rw [strC, u8s_app, u8s_app] at ho
    rw [hE, show ([op] ++ [p.size] ++ octs p).length = 1 + 1 + p.size by simp only [List.length_append, List.length_cons, List.length_nil, octs_length]]
    exact ho)
  exact bodyPost_ret (v := .tuple #[v7, .int .i64 0]) (by simp [results, Tryd.results9, go_sem]) rfl false.out
set_option maxRecDepth 100000 in
set_option maxHeartbeats 2000000 in
theorem enc_ffb (op : Nat) (M : Nat → Nat) (p : ByteArray) (hop : op < 16) (hp : p.size ≤ 4096) (hM : ∀ i, i < 4 → M i < 256) (hsm : ¬ p.size < 126) (w : World) :
    Calls Tryd.prog 9 #[frV ⟨false, op, false, p⟩ M] w (EncPost ⟨false, op, false, p⟩ M w) := by
  obtain ⟨i0, hi0, hz0, hz1, hz2⟩ := info_parts info5
  obtain ⟨w0, hw0⟩ : ∃ x, x = w.alloc (.cells (frC ⟨false, op, false, p⟩ M) 24) := ⟨_, rfl⟩
  obtain ⟨g, hg⟩ : ∃ g, g = w.heap.size := ⟨_, rfl⟩
  have hB : Bk w0 g 24 (frC ⟨false, op, false, p⟩ M) := by rw [hw0, hg]; exact Bk.new w _ _
  have hb0 : Below w.heap.size w w0 := by rw [hw0]; exact (Below.refl _ _).alloc (Nat.le_refl _) _
  have y0 : w0.cell? ⟨g, 0, none⟩ = some (.bool false) := hB.cell 0
  have y1 : w0.cell? ⟨g, 1, none⟩ = some (.int .i64 (op : Nat)) := hB.cell 1
  have y2 : w0.cell? ⟨g, 2, none⟩ = some (.bool false) := hB.cell 2
  have y7 : w0.cell? ⟨g, 7, none⟩ = some (.string p) := hB.cell 7
  have i1 : ¬ (op : Int) < 0 := by omega
  have i2 : ¬ (15 : Int) < (op : Int) := by omega
  have i3 : ¬ (4096 : Int) < (p.size : Int) := by omega
  have e1 : IntKind.u8.wrap (op : Int) = (op : Int) := by rw [IntKind.wrap_u8]; omega
  have o1 := or_top op hop
  have i4 : ¬ (p.size : Int) < 126 := by omega
  have o3 : bits .or .u8 0 126 = 126 := by decide +kernel
  have e2 : IntKind.u8.wrap (p.size : Int) = ((p.size % 256 : Nat) : Int) := by rw [IntKind.wrap_u8]; omega
  have e3 : IntKind.u8.wrap ((p.size : Int) / 256) = ((p.size / 256 : Nat) : Int) := by rw [IntKind.wrap_u8]; omega
  obtain ⟨n1, hn1⟩ : ∃ x, x = w0.heap.size := ⟨_, rfl⟩
  obtain ⟨w1, hw1⟩ : ∃ x, x = w0.alloc (.cells #[.int .u8 ((op : Nat) : Int)] 5) := ⟨_, rfl⟩
  have ho1 : w1.ownsRow n1 5 1 (.slice (some ⟨n1, 0, none⟩) 1 1) 1 (u8s [op]) := by
    rw [hw1, hn1]
    exact World.ownsRow_lit (size := 1) w0 #[.int .u8 ((op : Nat) : Int)] 1 (Nat.le_refl _) (by decide) rfl
  have hb1 : Below n1 w0 w1 := by rw [hw1, hn1]; exact (Below.refl _ _).alloc (Nat.le_refl _) _
  have hgn : g < n1 := by rw [hn1]; exact hB.lt
  obtain ⟨w2, hw2⟩ : ∃ x, x = w1.alloc (.cells #[.int .u8 ((0 + 126 : Nat) : Int), .int .u8 ((p.size / 256 : Nat) : Int), .int .u8 ((p.size % 256 : Nat) : Int)] 5) := ⟨_, rfl⟩
  obtain ⟨n2, hn2⟩ : ∃ x, x = w1.heap.size := ⟨_, rfl⟩
  have HS2 := Lib.hid (show Seg w2 (some ⟨n2, 0, none⟩) (u8s [0 + 126, p.size / 256, p.size % 256]) by rw [hw2, hn2]; exact seg_litU rfl)
  have HO2 := Lib.hid (show w2.ownsRow n1 5 1 (.slice (some ⟨n1, 0, none⟩) 1 1) 1 (u8s [op]) by rw [hw2]; exact ho1.alloc _)
  have HB2 := Lib.hid (show Below n1 w0 w2 by rw [hw2]; exact hb1.alloc (by rw [hn1]; exact (hn1 ▸ hb1).size) _)
  have HB := Lib.hid hB
  have HB0 := Lib.hid hb0
  have HW0 := Lib.hid hw0
  have HW1 := Lib.hid hw1
  have HW2 := Lib.hid hw2
  have HN1 := Lib.hid hn1
  have HN2 := Lib.hid hn2
  have HG := Lib.hid hg
  have HM := Lib.hid hM
  have HGN := Lib.hid hgn
  have HSZ := Lib.hid (show n1 ≤ w2.heap.size from HN1.out ▸ (HN1.out ▸ HB2.out).size)
  have HH := Lib.hid (show headE false op false p.size = [op] ++ [0 + 126, p.size / 256, p.size % 256] by
    unfold headE
    rw [if_neg hsm]
    first | rfl | simp)
  clear hw0 hb0 hB hg hM hn1 hw1 ho1 hb1 hw2 hn2 hgn
  unfold frV
  dsimp only
  go_enter Tryd.func9, Tryd.ntmps9
  go_upto_region 1 with fail
  rw [show w.alloc (.cells #[.bool false, .int .i64 (op : Nat), .bool false, .int .u8 (M 0 : Nat), .int .u8 (M 1 : Nat), .int .u8 (M 2 : Nat), .int .u8 (M 3 : Nat), .string p] 24) = w0 from HW0.out.symm, ← HG.out]
  go_upto_region 12 with fail
  rw [show w0.alloc (.cells #[.int .u8 (op : Int)] 5) = w1 from HW1.out.symm, ← HN1.out]
  clear y0 y1
  go_upto_region 15 with (at_builtin; rw [show w1.alloc (.cells #[.int .u8 126, .int .u8 ((p.size : Int) / 256), .int .u8 ((p.size : Int) % 256)] 5) = w2 from HW2.out.symm, ← HN2.out]; refine wpList_append_seg _ rfl _ _ _ rfl n1 5 i0 _ 1 Tryd.underlying25 hi0 hz0 hz1 hz2 rfl _ 1 _ rfl HO2.out _ 3 _ (u8s [0 + 126, p.size / 256, p.size % 256]) rfl rfl HS2.out (u8s_one _) (by decide) (by decide) HSZ.out ?_; intro v3 w3 ho3 hb3; have HO3 := Lib.hid ho3; have HB3 := Lib.hid (HB2.out.trans hb3); clear ho3 hb3 y2 y7)
  have hB3 := HB.out.below HB3.out HGN.out
  have y2 : w3.cell? ⟨g, 2, none⟩ = some (.bool false) := hB3.cell 2
  have y7 : w3.cell? ⟨g, 7, none⟩ = some (.string p) := hB3.cell 7
  have HS3 := Lib.hid (show n1 ≤ w3.heap.size from HN1.out ▸ (HN1.out ▸ HB3.out).size)
  clear hB3
  go_wp2_with (refine Lib.wpList_append_own_string _ rfl _ _ _ _ rfl n1 5 i0 Tryd.underlying25 Tryd.underlying9 hi0 hz0 hz1 hz2 _ (1 + 3) _ rfl HO3.out p rfl (by unfold maxLen; omega) (by omega) HS3.out ?_; intro v7 w7 ho7 hg7 _; have HO7 := Lib.hid ho7; have HB7 := Lib.hid (HB3.out.grown hg7 HS3.out (fun k hk => (HO3.out.lt k hk).1)); clear ho7 hg7)
  have false := Lib.hid (show EncPost ⟨false, op, false, p⟩ M w (.returned (.tuple #[v7, .int .i64 0])) w7 from by
    have hE : encN ⟨false, op, false, p⟩ M = [op] ++ [0 + 126, p.size / 256, p.size % 256] ++ octs p := by
      unfold encN
      dsimp only
      rw [HH.out, if_neg (by decide)]
    refine ⟨v7, rfl, ?_, HB0.out.trans (HB7.out.mono (HN1.out ▸ HB0.out.size))⟩
    have ho := own_base HO7.out (show w.heap.size ≤ n1 from HN1.out ▸ HB0.out.size)
    rw [strC, u8s_app, u8s_app] at ho
    rw [hE, show ([op] ++ [0 + 126, p.size / 256, p.size % 256] ++ octs p).length = 1 + 3 + p.size by simp only [List.length_append, List.length_cons, List.length_nil, octs_length]]
    exact ho)
  exact bodyPost_ret (v := .tuple #[v7, .int .i64 0]) (by simp [results, Tryd.results9, go_sem]) rfl false.out
theorem enc_any (fin msk : Bool) (op : Nat) (M : Nat → Nat) (p : ByteArray) (hop : op < 16) (hp : p.size ≤ 4096) (hM : ∀ i, i < 4 → M i < 256) (w : World) :
    Calls Tryd.prog 9 #[frV ⟨fin, op, msk, p⟩ M] w (EncPost ⟨fin, op, msk, p⟩ M w) := by
  by_cases hs : p.size < 126
  · cases fin <;> cases msk
    · exact enc_ffs op M p hop hp hM hs w
    · exact enc_fts op M p hop hp hM hs w
    · exact enc_tfs op M p hop hp hM hs w
    · exact enc_tts op M p hop hp hM hs w
  · cases fin <;> cases msk
    · exact enc_ffb op M p hop hp hM hs w
    · exact enc_ftb op M p hop hp hM hs w
    · exact enc_tfb op M p hop hp hM hs w
    · exact enc_ttb op M p hop hp hM hs w
set_option maxRecDepth 100000 in
theorem enc_arg (fin msk : Bool) (op : Int) (M : Nat → Nat) (p : ByteArray) (hop : op < 0 ∨ 15 < op) (w : World) :
    Calls Tryd.prog 9 #[.agg #[.bool fin, .int .i64 op, .bool msk, .int .u8 (M 0 : Nat), .int .u8 (M 1 : Nat), .int .u8 (M 2 : Nat), .int .u8 (M 3 : Nat), .string p]] w fun e w' => e = .returned (.tuple #[.slice none 0 0, .int .i64 1]) ∧ Below w.heap.size w w' := by
  obtain ⟨w0, hw0⟩ : ∃ x, x = w.alloc (.cells #[.bool fin, .int .i64 op, .bool msk, .int .u8 (M 0 : Nat), .int .u8 (M 1 : Nat), .int .u8 (M 2 : Nat), .int .u8 (M 3 : Nat), .string p] 24) := ⟨_, rfl⟩
  have hB : Bk w0 w.heap.size 24 #[.bool fin, .int .i64 op, .bool msk, .int .u8 (M 0 : Nat), .int .u8 (M 1 : Nat), .int .u8 (M 2 : Nat), .int .u8 (M 3 : Nat), .string p] := by rw [hw0]; exact Bk.new w _ _
  have hb0 : Below w.heap.size w w0 := by rw [hw0]; exact (Below.refl _ _).alloc (Nat.le_refl _) _
  have y1 : w0.cell? ⟨w.heap.size, 1, none⟩ = some (.int .i64 op) := hB.cell 1
  have HB0 := Lib.hid hb0
  have HW0 := Lib.hid hw0
  clear hB hb0 hw0
  obtain ⟨b, hb⟩ : ∃ b, b = decide (op < 0) := ⟨_, rfl⟩
  rcases hop with h | h
  · have i1 : op < 0 := h
    go_enter Tryd.func9, Tryd.ntmps9
    go_upto_region 1 with fail
    rw [← HW0.out]
    go_wp2_with fail
    exact bodyPost_ret (v := .tuple #[.slice none 0 0, .int .i64 1]) (by simp [results, Tryd.results9, go_sem]) rfl ⟨rfl, HB0.out⟩
  · have i1 : ¬ op < 0 := by omega
    have i2 : (15 : Int) < op := h
    go_enter Tryd.func9, Tryd.ntmps9
    go_upto_region 1 with fail
    rw [← HW0.out]
    go_wp2_with fail
    exact bodyPost_ret (v := .tuple #[.slice none 0 0, .int .i64 1]) (by simp [results, Tryd.results9, go_sem]) rfl ⟨rfl, HB0.out⟩
set_option maxRecDepth 100000 in
theorem enc_big (fin msk : Bool) (op : Int) (M : Nat → Nat) (p : ByteArray) (h0 : 0 ≤ op) (h15 : op ≤ 15) (hp : 4096 < p.size) (w : World) :
    Calls Tryd.prog 9 #[.agg #[.bool fin, .int .i64 op, .bool msk, .int .u8 (M 0 : Nat), .int .u8 (M 1 : Nat), .int .u8 (M 2 : Nat), .int .u8 (M 3 : Nat), .string p]] w fun e w' => e = .returned (.tuple #[.slice none 0 0, .int .i64 2]) ∧ Below w.heap.size w w' := by
  obtain ⟨w0, hw0⟩ : ∃ x, x = w.alloc (.cells #[.bool fin, .int .i64 op, .bool msk, .int .u8 (M 0 : Nat), .int .u8 (M 1 : Nat), .int .u8 (M 2 : Nat), .int .u8 (M 3 : Nat), .string p] 24) := ⟨_, rfl⟩
  have hB : Bk w0 w.heap.size 24 #[.bool fin, .int .i64 op, .bool msk, .int .u8 (M 0 : Nat), .int .u8 (M 1 : Nat), .int .u8 (M 2 : Nat), .int .u8 (M 3 : Nat), .string p] := by rw [hw0]; exact Bk.new w _ _
  have hb0 : Below w.heap.size w w0 := by rw [hw0]; exact (Below.refl _ _).alloc (Nat.le_refl _) _
  have y1 : w0.cell? ⟨w.heap.size, 1, none⟩ = some (.int .i64 op) := hB.cell 1
  have y7 : w0.cell? ⟨w.heap.size, 7, none⟩ = some (.string p) := hB.cell 7
  have i1 : ¬ op < 0 := by omega
  have i2 : ¬ (15 : Int) < op := by omega
  have i3 : (4096 : Int) < (p.size : Int) := by omega
  have HB0 := Lib.hid hb0
  have HW0 := Lib.hid hw0
  clear hB hb0 hw0
  go_enter Tryd.func9, Tryd.ntmps9
  go_upto_region 1 with fail
  rw [← HW0.out]
  go_wp2_with fail
  exact bodyPost_ret (v := .tuple #[.slice none 0 0, .int .i64 2]) (by simp [results, Tryd.results9, go_sem]) rfl ⟨rfl, HB0.out⟩
set_option maxRecDepth 100000 in
/-- A close frame's payload. -/
def closeN (code : Int) (r : ByteArray) : ByteArray := if code = 1005 then ⟨#[]⟩ else txt [(code / 256 % 256).toNat, (code % 256).toNat] ++ r
end Go.Proofs.YtnbhgjionpidnaaDoor
