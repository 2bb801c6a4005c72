/- The reference's Encode: the same bytes. Condition: the message is in form and its entries lie in memory. -/
import Derived.Test.YtgifbjomaenlnaaWRNum
import Derived.Test.YtgifbjomaenlnaaWApp
import Derived.Laws.IdiomStrings
namespace Go.Proofs.Ytgifbjomaenlnaa
open Go.RowKit

theorem numN_ne (z : Int) : numN z ≠ [] := by
  unfold numN varF
  split <;> simp
/-- A text's bytes in new memory. -/
theorem conv_any (s : ByteArray) (w : World) : ∃ c w', (convert 9 26 (.string s)).run Try.prog w = .ok (.slice (some ⟨w.heap.size, 0, none⟩) s.size c) w' ∧ Seg w' (some ⟨w.heap.size, 0, none⟩) (u8s (bytesN s)) ∧ Below w.heap.size w w' := by
  refine ⟨_, _, run_bytes_of_string (P := Try.prog) w 9 26 5 s Try.underlying9 Try.underlying26 Try.underlying5, ?_, ?_⟩
  · refine Seg.of_block (heap_alloc_new _ _) ?_
    intro i hi
    rw [u8s_length, bytesN_length] at hi
    simp [bytesRow, u8s, bytesN, Array.getElem?_append]
    rw [if_pos hi]
    rfl
  · exact (Below.refl _ w).drew.alloc (Nat.le_refl _) _
theorem own_lt_slice {w : World} {B n c : Nat} {e : TypeId} {A : Option Addr} {xs : List Value} (h : w.ownsRow B e 1 (.slice A n c) n xs) {a : Addr} (ha : A = some a) : a.block < w.heap.size := by
  subst ha
  rcases h.2 with ⟨h, _⟩ | ⟨g, cap, cur, h, hb, hc, _⟩
  · cases h
  · injection h with h1
    injection h1 with h1
    subst h1
    rcases Nat.lt_or_ge g w.heap.size with h | h
    · exact h
    · rw [Array.getElem?_eq_none h] at hc; cases hc
theorem seg_cells {w : World} {A : Option Addr} {xs : List Value} (h : Seg w A xs) (hn : xs ≠ []) : ∃ b off, A = some ⟨b, off, none⟩ ∧ b < w.heap.size ∧ ∀ j u, xs[j]? = some u → w.cell? ((⟨b, off, none⟩ : Addr).add j) = some u := by
  obtain ⟨b, off, rfl, hl, hc⟩ := h hn
  refine ⟨b, off, rfl, hl, fun j u hu => ?_⟩
  have hj : j < xs.length := by
    rcases Nat.lt_or_ge j xs.length with h | h
    · exact h
    · rw [List.getElem?_eq_none h] at hu; cases hu
  rw [show ((⟨b, off, none⟩ : Addr).add j) = ⟨b, off + j, none⟩ by unfold Addr.add; split <;> simp_all, hc j hj]
  exact hu
set_option maxRecDepth 100000 in
set_option maxHeartbeats 4000000 in
theorem renc_any (m : MsgM) (A : Option Addr) (n c : Nat) (w : World) (h : Mg w m A n c) (hc : checkN m = 0) :
    Calls Try.prog 15 #[.agg (msgC m A n c)] w fun e w' => (∃ A2 c2, e = .returned (.slice A2 (encN m).length c2) ∧ (encN m).length ≤ c2 ∧ Seg w' A2 (u8s (encN m)) ∧ ∀ a, A2 = some a → a.block < w'.heap.size) ∧ Below w.heap.size w w' := by
  obtain ⟨k0, k1, n8, e80⟩ := check_ok hc
  obtain ⟨i0, hi0, hz0, hz1, hz2⟩ := info_parts info5
  have H := Lib.hid h
  have HE := Lib.hid h.en
  have hn8 : n ≤ 8 := by rw [h.en]; exact n8
  have HL80 := Lib.hid e80
  obtain ⟨K, hK⟩ : ∃ K, K = m.kind := ⟨_, rfl⟩
  rw [← hK] at k0 k1
  obtain ⟨Kn, hKn⟩ : ∃ Kn : Nat, K = (Kn : Int) := ⟨K.toNat, by omega⟩
  subst hKn
  have HK := Lib.hid hK
  have hKn2 : Kn ≤ 255 := by omega
  have HD := Lib.hid (show headN m = [Kn] ++ numsN m 7 ++ [(if m.ok then 1 else 0), n] by unfold headN; rw [← HK.out, ← HE.out, Nat.mod_eq_of_lt (by omega), show (((Kn : Int)) % 256).toNat = Kn by omega])
  obtain ⟨w1, hw1⟩ : ∃ w1, w1 = w.alloc (.cells (msgC m A n c) 24) := ⟨_, rfl⟩
  have B1 : Below w.heap.size w w1 := by rw [hw1]; exact (Below.refl _ _).alloc (Nat.le_refl _) _
  have X1 : Bk w1 w.heap.size 24 (msgC m A n c) := by rw [hw1]; exact Bk.new w _ _
  have hs1 : w1.heap.size = w.heap.size + 1 := by rw [hw1]; simp
  obtain ⟨w2, hw2⟩ : ∃ w2, w2 = w1.alloc (.cells #[.int .u8 (Kn : Int)] 5) := ⟨_, rfl⟩
  have O2 : w2.ownsRow (w.heap.size + 1) 5 1 (.slice (some ⟨w.heap.size + 1, 0, none⟩) 1 1) 1 (u8s [Kn]) := by
    rw [hw2, ← hs1]
    exact World.ownsRow_lit w1 #[.int .u8 (Kn : Int)] 1 (by omega) (by decide) rfl
  have X2 : Bk w2 w.heap.size 24 (msgC m A n c) := by rw [hw2]; exact X1.alloc _
  have hs2 : w2.heap.size = w.heap.size + 2 := by rw [hw2]; simp [hs1]
  have B2 : Below w.heap.size w w2 := by rw [hw2]; exact B1.alloc (by omega) _
  obtain ⟨w3, hw3⟩ : ∃ w3, w3 = w2.alloc (.cells #[.int .i64 m.n0, .int .i64 m.n1, .int .i64 m.n2, .int .i64 m.n3, .int .i64 m.n4, .int .i64 m.n5, .int .i64 m.n6] 3) := ⟨_, rfl⟩
  have hs3 : w3.heap.size = w.heap.size + 3 := by rw [hw3]; simp [hs2]
  have HA3 := Lib.hid (show AbW w (w.heap.size + 1) w.heap.size (msgC m A n c) 1 [Kn] (.slice (some ⟨w.heap.size + 1, 0, none⟩) 1 1) w3 by
    rw [hw3]
    exact ⟨X2.alloc _, own_alloc O2 _, rfl, B2.alloc (by omega) _, by omega, by simp [hs2], by omega⟩)
  have HG3 := Lib.hid (show Bk w3 (w.heap.size + 2) 3 #[.int .i64 m.n0, .int .i64 m.n1, .int .i64 m.n2, .int .i64 m.n3, .int .i64 m.n4, .int .i64 m.n5, .int .i64 m.n6] by rw [hw3, ← hs2]; exact Bk.new w2 _ _)
  have c0 : w1.cell? ⟨w.heap.size, 0, none⟩ = some (.int .i64 (Kn : Int)) := by rw [HK.out]; exact X1.cell 0
  have hkc : (msgC m A n c) = #[.int .i64 (Kn : Int), .int .i64 m.n0, .int .i64 m.n1, .int .i64 m.n2, .int .i64 m.n3, .int .i64 m.n4, .int .i64 m.n5, .slice A n c, .bool m.ok, .int .i64 m.n6] := by rw [HK.out]; rfl
  have d1 : w2.cell? ⟨w.heap.size, 1, none⟩ = some (.int .i64 m.n0) := X2.cell 1
  have d2 : w2.cell? ⟨w.heap.size, 2, none⟩ = some (.int .i64 m.n1) := X2.cell 2
  have d3 : w2.cell? ⟨w.heap.size, 3, none⟩ = some (.int .i64 m.n2) := X2.cell 3
  have d4 : w2.cell? ⟨w.heap.size, 4, none⟩ = some (.int .i64 m.n3) := X2.cell 4
  have d5 : w2.cell? ⟨w.heap.size, 5, none⟩ = some (.int .i64 m.n4) := X2.cell 5
  have d6 : w2.cell? ⟨w.heap.size, 6, none⟩ = some (.int .i64 m.n5) := X2.cell 6
  have d9 : w2.cell? ⟨w.heap.size, 9, none⟩ = some (.int .i64 m.n6) := X2.cell 9
  rw [hkc] at hw1
  have HW1 := Lib.hid hw1
  have HW2 := Lib.hid hw2
  have HW3 := Lib.hid hw3
  have HS1 := Lib.hid hs1
  have HS2 := Lib.hid hs2
  rw [hkc]
  clear h hc hK hw1 hw2 hw3 k0 k1 n8 e80 hkc hs1 hs2 hs3 B1 B2 X1 X2 O2
  go_enter Try.func15, Try.ntmps15
  go_upto_region 1 with fail
  rw [← HW1.out]
  go_upto_region 2 with fail
  rw [← HW2.out, HS1.out]
  go_upto_region 3 with fail
  rw [← HW3.out, HS2.out]
  clear c0 d1 d2 d3 d4 d5 d6 d9 HW1 HW2 HW3 HS1 HS2
  go_loopw [3, 28] (fun v u wr => ∃ k nl : Nat, k ≤ 7 ∧ u = .int .i64 (k : Int) ∧ nl ≤ 71 ∧ Hid (AbW w (w.heap.size + 1) w.heap.size (msgC m A n c) nl ([Kn] ++ numsN m k) v wr) ∧ Hid (Bk wr (w.heap.size + 2) 3 #[.int .i64 m.n0, .int .i64 m.n1, .int .i64 m.n2, .int .i64 m.n3, .int .i64 m.n4, .int .i64 m.n5, .int .i64 m.n6])) (fun _ u _ => 7 - (intOf u).toNat)
  case atStart => exact ⟨0, 1, by omega, rfl, by omega, HA3, HG3⟩
  case round =>
    clear HA3 HG3
    obtain ⟨k, nl, hk, rfl, hnl, HN, HG⟩ := hrel
    obtain ⟨A2, c2, rfl, hc2, _⟩ := own_shape HN.out.own
    by_cases hlt : k < 7
    · have hk7 : k = 0 ∨ k = 1 ∨ k = 2 ∨ k = 3 ∨ k = 4 ∨ k = 5 ∨ k = 6 := by omega
      clear hk hlt
      rcases hk7 with rfl | rfl | rfl | rfl | rfl | rfl | rfl
      · have yk : wr.cell? ⟨w.heap.size + 2, 0, none⟩ = some (.int .i64 m.n0) := HG.out.cell 0
        have C1 := Lib.hid (rnumber_any m.n0 (H.out.bm 0) wr)
        go_wp2_with fail
        refine C1.out.mono ?_
        rintro e w5 ⟨v5, rfl, hown5, hb5⟩
        obtain ⟨A5, c5, rfl, hc5, hs5⟩ := own_shape hown5
        have HN5 := Lib.hid (HN.out.next hb5)
        have HG5 := Lib.hid (HG.out.bel hb5)
        obtain ⟨b5, o5, rfl, hl5, hcell5⟩ := seg_cells hs5 (by unfold u8s; rw [Ne, List.map_eq_nil_iff]; exact numN_ne _)
        have HC5 := Lib.hid hcell5
        have hbig := HN5.out.big
        have hnn := numN_len m.n0
        clear hown5 hb5 hs5 hcell5 C1 yk
        go_wp2_with (at_builtin; refine wpList_append_own_at _ rfl (.tmp 32) (.tmp 34) 26 rfl (w.heap.size + 1) 5 i0 (.int .u8 0) 1 1 Try.underlying26 hi0 hz0 hz1 hz2 rfl (by decide) (.slice A2 nl c2) nl _ rfl HN5.out.own ⟨b5, o5, none⟩ (numN m.n0).length c5 (u8s (numN m.n0)) rfl (by rw [u8s_length, Nat.mul_one]) HC5.out (u8s_one _) (by simp only [maxLen]; omega) (by omega) hbig ?_; intro v6 w6 hown6 hgr6 _ hat6)
        have hb6 := (Below.refl (w.heap.size + 1) w5).grown hgr6 hbig (fun j e => (HN5.out.own.lt j e).1)
        have g6 : Gr w5 (.slice A2 nl c2) w6 v6 := (Gr.refl w5 (.slice A2 nl c2)).app hgr6 hat6
        have HG6 := Lib.hid (g6.bk HN5.out.own HG5.out (by decide))
        have HN6 := Lib.hid (show AbW w (w.heap.size + 1) w.heap.size (msgC m A n c) (nl + (numN m.n0).length) ([Kn] ++ numsN m 1) v6 w6 from HN5.out.step (by
          have e1 : [Kn] ++ numsN m 1 = ([Kn] ++ numsN m 0) ++ numN m.n0 := by rw [List.append_assoc]; rfl
          rw [e1, ← u8s_append]
          exact hown6) (by
          have e1 : [Kn] ++ numsN m 1 = ([Kn] ++ numsN m 0) ++ numN m.n0 := by rw [List.append_assoc]; rfl
          rw [e1, List.length_append, ← HN5.out.len]) hb6)
        have HL6 := Lib.hid (show nl + (numN m.n0).length ≤ 71 by
          have h1 := numsN_len m 1
          have h3 := HN6.out.len
          simp only [List.length_append, List.length_singleton] at h3
          omega)
        clear hown6 hgr6 hat6 hb6 g6 HN5 HG5 HN HG HC5
        go_roundw
        case rel => exact ⟨1, _, by omega, rfl, HL6.out, HN6, HG6⟩
        case measure => simp [intOf]
      · have yk : wr.cell? ⟨w.heap.size + 2, 1, none⟩ = some (.int .i64 m.n1) := HG.out.cell 1
        have C1 := Lib.hid (rnumber_any m.n1 (H.out.bm 1) wr)
        go_wp2_with fail
        refine C1.out.mono ?_
        rintro e w5 ⟨v5, rfl, hown5, hb5⟩
        obtain ⟨A5, c5, rfl, hc5, hs5⟩ := own_shape hown5
        have HN5 := Lib.hid (HN.out.next hb5)
        have HG5 := Lib.hid (HG.out.bel hb5)
        obtain ⟨b5, o5, rfl, hl5, hcell5⟩ := seg_cells hs5 (by unfold u8s; rw [Ne, List.map_eq_nil_iff]; exact numN_ne _)
        have HC5 := Lib.hid hcell5
        have hbig := HN5.out.big
        have hnn := numN_len m.n1
        clear hown5 hb5 hs5 hcell5 C1 yk
        go_wp2_with (at_builtin; refine wpList_append_own_at _ rfl (.tmp 32) (.tmp 34) 26 rfl (w.heap.size + 1) 5 i0 (.int .u8 0) 1 1 Try.underlying26 hi0 hz0 hz1 hz2 rfl (by decide) (.slice A2 nl c2) nl _ rfl HN5.out.own ⟨b5, o5, none⟩ (numN m.n1).length c5 (u8s (numN m.n1)) rfl (by rw [u8s_length, Nat.mul_one]) HC5.out (u8s_one _) (by simp only [maxLen]; omega) (by omega) hbig ?_; intro v6 w6 hown6 hgr6 _ hat6)
        have hb6 := (Below.refl (w.heap.size + 1) w5).grown hgr6 hbig (fun j e => (HN5.out.own.lt j e).1)
        have g6 : Gr w5 (.slice A2 nl c2) w6 v6 := (Gr.refl w5 (.slice A2 nl c2)).app hgr6 hat6
        have HG6 := Lib.hid (g6.bk HN5.out.own HG5.out (by decide))
        have HN6 := Lib.hid (show AbW w (w.heap.size + 1) w.heap.size (msgC m A n c) (nl + (numN m.n1).length) ([Kn] ++ numsN m 2) v6 w6 from HN5.out.step (by
          have e1 : [Kn] ++ numsN m 2 = ([Kn] ++ numsN m 1) ++ numN m.n1 := by rw [List.append_assoc]; rfl
          rw [e1, ← u8s_append]
          exact hown6) (by
          have e1 : [Kn] ++ numsN m 2 = ([Kn] ++ numsN m 1) ++ numN m.n1 := by rw [List.append_assoc]; rfl
          rw [e1, List.length_append, ← HN5.out.len]) hb6)
        have HL6 := Lib.hid (show nl + (numN m.n1).length ≤ 71 by
          have h1 := numsN_len m 2
          have h3 := HN6.out.len
          simp only [List.length_append, List.length_singleton] at h3
          omega)
        clear hown6 hgr6 hat6 hb6 g6 HN5 HG5 HN HG HC5
        go_roundw
        case rel => exact ⟨2, _, by omega, rfl, HL6.out, HN6, HG6⟩
        case measure => simp [intOf]
      · have yk : wr.cell? ⟨w.heap.size + 2, 2, none⟩ = some (.int .i64 m.n2) := HG.out.cell 2
        have C1 := Lib.hid (rnumber_any m.n2 (H.out.bm 2) wr)
        go_wp2_with fail
        refine C1.out.mono ?_
        rintro e w5 ⟨v5, rfl, hown5, hb5⟩
        obtain ⟨A5, c5, rfl, hc5, hs5⟩ := own_shape hown5
        have HN5 := Lib.hid (HN.out.next hb5)
        have HG5 := Lib.hid (HG.out.bel hb5)
        obtain ⟨b5, o5, rfl, hl5, hcell5⟩ := seg_cells hs5 (by unfold u8s; rw [Ne, List.map_eq_nil_iff]; exact numN_ne _)
        have HC5 := Lib.hid hcell5
        have hbig := HN5.out.big
        have hnn := numN_len m.n2
        clear hown5 hb5 hs5 hcell5 C1 yk
        go_wp2_with (at_builtin; refine wpList_append_own_at _ rfl (.tmp 32) (.tmp 34) 26 rfl (w.heap.size + 1) 5 i0 (.int .u8 0) 1 1 Try.underlying26 hi0 hz0 hz1 hz2 rfl (by decide) (.slice A2 nl c2) nl _ rfl HN5.out.own ⟨b5, o5, none⟩ (numN m.n2).length c5 (u8s (numN m.n2)) rfl (by rw [u8s_length, Nat.mul_one]) HC5.out (u8s_one _) (by simp only [maxLen]; omega) (by omega) hbig ?_; intro v6 w6 hown6 hgr6 _ hat6)
        have hb6 := (Below.refl (w.heap.size + 1) w5).grown hgr6 hbig (fun j e => (HN5.out.own.lt j e).1)
        have g6 : Gr w5 (.slice A2 nl c2) w6 v6 := (Gr.refl w5 (.slice A2 nl c2)).app hgr6 hat6
        have HG6 := Lib.hid (g6.bk HN5.out.own HG5.out (by decide))
        have HN6 := Lib.hid (show AbW w (w.heap.size + 1) w.heap.size (msgC m A n c) (nl + (numN m.n2).length) ([Kn] ++ numsN m 3) v6 w6 from HN5.out.step (by
          have e1 : [Kn] ++ numsN m 3 = ([Kn] ++ numsN m 2) ++ numN m.n2 := by rw [List.append_assoc]; rfl
          rw [e1, ← u8s_append]
          exact hown6) (by
          have e1 : [Kn] ++ numsN m 3 = ([Kn] ++ numsN m 2) ++ numN m.n2 := by rw [List.append_assoc]; rfl
          rw [e1, List.length_append, ← HN5.out.len]) hb6)
        have HL6 := Lib.hid (show nl + (numN m.n2).length ≤ 71 by
          have h1 := numsN_len m 3
          have h3 := HN6.out.len
          simp only [List.length_append, List.length_singleton] at h3
          omega)
        clear hown6 hgr6 hat6 hb6 g6 HN5 HG5 HN HG HC5
        go_roundw
        case rel => exact ⟨3, _, by omega, rfl, HL6.out, HN6, HG6⟩
        case measure => simp [intOf]
      · have yk : wr.cell? ⟨w.heap.size + 2, 3, none⟩ = some (.int .i64 m.n3) := HG.out.cell 3
        have C1 := Lib.hid (rnumber_any m.n3 (H.out.bm 3) wr)
        go_wp2_with fail
        refine C1.out.mono ?_
        rintro e w5 ⟨v5, rfl, hown5, hb5⟩
        obtain ⟨A5, c5, rfl, hc5, hs5⟩ := own_shape hown5
        have HN5 := Lib.hid (HN.out.next hb5)
        have HG5 := Lib.hid (HG.out.bel hb5)
        obtain ⟨b5, o5, rfl, hl5, hcell5⟩ := seg_cells hs5 (by unfold u8s; rw [Ne, List.map_eq_nil_iff]; exact numN_ne _)
        have HC5 := Lib.hid hcell5
        have hbig := HN5.out.big
        have hnn := numN_len m.n3
        clear hown5 hb5 hs5 hcell5 C1 yk
        go_wp2_with (at_builtin; refine wpList_append_own_at _ rfl (.tmp 32) (.tmp 34) 26 rfl (w.heap.size + 1) 5 i0 (.int .u8 0) 1 1 Try.underlying26 hi0 hz0 hz1 hz2 rfl (by decide) (.slice A2 nl c2) nl _ rfl HN5.out.own ⟨b5, o5, none⟩ (numN m.n3).length c5 (u8s (numN m.n3)) rfl (by rw [u8s_length, Nat.mul_one]) HC5.out (u8s_one _) (by simp only [maxLen]; omega) (by omega) hbig ?_; intro v6 w6 hown6 hgr6 _ hat6)
        have hb6 := (Below.refl (w.heap.size + 1) w5).grown hgr6 hbig (fun j e => (HN5.out.own.lt j e).1)
        have g6 : Gr w5 (.slice A2 nl c2) w6 v6 := (Gr.refl w5 (.slice A2 nl c2)).app hgr6 hat6
        have HG6 := Lib.hid (g6.bk HN5.out.own HG5.out (by decide))
        have HN6 := Lib.hid (show AbW w (w.heap.size + 1) w.heap.size (msgC m A n c) (nl + (numN m.n3).length) ([Kn] ++ numsN m 4) v6 w6 from HN5.out.step (by
          have e1 : [Kn] ++ numsN m 4 = ([Kn] ++ numsN m 3) ++ numN m.n3 := by rw [List.append_assoc]; rfl
          rw [e1, ← u8s_append]
          exact hown6) (by
          have e1 : [Kn] ++ numsN m 4 = ([Kn] ++ numsN m 3) ++ numN m.n3 := by rw [List.append_assoc]; rfl
          rw [e1, List.length_append, ← HN5.out.len]) hb6)
        have HL6 := Lib.hid (show nl + (numN m.n3).length ≤ 71 by
          have h1 := numsN_len m 4
          have h3 := HN6.out.len
          simp only [List.length_append, List.length_singleton] at h3
          omega)
        clear hown6 hgr6 hat6 hb6 g6 HN5 HG5 HN HG HC5
        go_roundw
        case rel => exact ⟨4, _, by omega, rfl, HL6.out, HN6, HG6⟩
        case measure => simp [intOf]
      · have yk : wr.cell? ⟨w.heap.size + 2, 4, none⟩ = some (.int .i64 m.n4) := HG.out.cell 4
        have C1 := Lib.hid (rnumber_any m.n4 (H.out.bm 4) wr)
        go_wp2_with fail
        refine C1.out.mono ?_
        rintro e w5 ⟨v5, rfl, hown5, hb5⟩
        obtain ⟨A5, c5, rfl, hc5, hs5⟩ := own_shape hown5
        have HN5 := Lib.hid (HN.out.next hb5)
        have HG5 := Lib.hid (HG.out.bel hb5)
        obtain ⟨b5, o5, rfl, hl5, hcell5⟩ := seg_cells hs5 (by unfold u8s; rw [Ne, List.map_eq_nil_iff]; exact numN_ne _)
        have HC5 := Lib.hid hcell5
        have hbig := HN5.out.big
        have hnn := numN_len m.n4
        clear hown5 hb5 hs5 hcell5 C1 yk
        go_wp2_with (at_builtin; refine wpList_append_own_at _ rfl (.tmp 32) (.tmp 34) 26 rfl (w.heap.size + 1) 5 i0 (.int .u8 0) 1 1 Try.underlying26 hi0 hz0 hz1 hz2 rfl (by decide) (.slice A2 nl c2) nl _ rfl HN5.out.own ⟨b5, o5, none⟩ (numN m.n4).length c5 (u8s (numN m.n4)) rfl (by rw [u8s_length, Nat.mul_one]) HC5.out (u8s_one _) (by simp only [maxLen]; omega) (by omega) hbig ?_; intro v6 w6 hown6 hgr6 _ hat6)
        have hb6 := (Below.refl (w.heap.size + 1) w5).grown hgr6 hbig (fun j e => (HN5.out.own.lt j e).1)
        have g6 : Gr w5 (.slice A2 nl c2) w6 v6 := (Gr.refl w5 (.slice A2 nl c2)).app hgr6 hat6
        have HG6 := Lib.hid (g6.bk HN5.out.own HG5.out (by decide))
        have HN6 := Lib.hid (show AbW w (w.heap.size + 1) w.heap.size (msgC m A n c) (nl + (numN m.n4).length) ([Kn] ++ numsN m 5) v6 w6 from HN5.out.step (by
          have e1 : [Kn] ++ numsN m 5 = ([Kn] ++ numsN m 4) ++ numN m.n4 := by rw [List.append_assoc]; rfl
          rw [e1, ← u8s_append]
          exact hown6) (by
          have e1 : [Kn] ++ numsN m 5 = ([Kn] ++ numsN m 4) ++ numN m.n4 := by rw [List.append_assoc]; rfl
          rw [e1, List.length_append, ← HN5.out.len]) hb6)
        have HL6 := Lib.hid (show nl + (numN m.n4).length ≤ 71 by
          have h1 := numsN_len m 5
          have h3 := HN6.out.len
          simp only [List.length_append, List.length_singleton] at h3
          omega)
        clear hown6 hgr6 hat6 hb6 g6 HN5 HG5 HN HG HC5
        go_roundw
        case rel => exact ⟨5, _, by omega, rfl, HL6.out, HN6, HG6⟩
        case measure => simp [intOf]
      · have yk : wr.cell? ⟨w.heap.size + 2, 5, none⟩ = some (.int .i64 m.n5) := HG.out.cell 5
        have C1 := Lib.hid (rnumber_any m.n5 (H.out.bm 5) wr)
        go_wp2_with fail
        refine C1.out.mono ?_
        rintro e w5 ⟨v5, rfl, hown5, hb5⟩
        obtain ⟨A5, c5, rfl, hc5, hs5⟩ := own_shape hown5
        have HN5 := Lib.hid (HN.out.next hb5)
        have HG5 := Lib.hid (HG.out.bel hb5)
        obtain ⟨b5, o5, rfl, hl5, hcell5⟩ := seg_cells hs5 (by unfold u8s; rw [Ne, List.map_eq_nil_iff]; exact numN_ne _)
        have HC5 := Lib.hid hcell5
        have hbig := HN5.out.big
        have hnn := numN_len m.n5
        clear hown5 hb5 hs5 hcell5 C1 yk
        go_wp2_with (at_builtin; refine wpList_append_own_at _ rfl (.tmp 32) (.tmp 34) 26 rfl (w.heap.size + 1) 5 i0 (.int .u8 0) 1 1 Try.underlying26 hi0 hz0 hz1 hz2 rfl (by decide) (.slice A2 nl c2) nl _ rfl HN5.out.own ⟨b5, o5, none⟩ (numN m.n5).length c5 (u8s (numN m.n5)) rfl (by rw [u8s_length, Nat.mul_one]) HC5.out (u8s_one _) (by simp only [maxLen]; omega) (by omega) hbig ?_; intro v6 w6 hown6 hgr6 _ hat6)
        have hb6 := (Below.refl (w.heap.size + 1) w5).grown hgr6 hbig (fun j e => (HN5.out.own.lt j e).1)
        have g6 : Gr w5 (.slice A2 nl c2) w6 v6 := (Gr.refl w5 (.slice A2 nl c2)).app hgr6 hat6
        have HG6 := Lib.hid (g6.bk HN5.out.own HG5.out (by decide))
        have HN6 := Lib.hid (show AbW w (w.heap.size + 1) w.heap.size (msgC m A n c) (nl + (numN m.n5).length) ([Kn] ++ numsN m 6) v6 w6 from HN5.out.step (by
          have e1 : [Kn] ++ numsN m 6 = ([Kn] ++ numsN m 5) ++ numN m.n5 := by rw [List.append_assoc]; rfl
          rw [e1, ← u8s_append]
          exact hown6) (by
          have e1 : [Kn] ++ numsN m 6 = ([Kn] ++ numsN m 5) ++ numN m.n5 := by rw [List.append_assoc]; rfl
          rw [e1, List.length_append, ← HN5.out.len]) hb6)
        have HL6 := Lib.hid (show nl + (numN m.n5).length ≤ 71 by
          have h1 := numsN_len m 6
          have h3 := HN6.out.len
          simp only [List.length_append, List.length_singleton] at h3
          omega)
        clear hown6 hgr6 hat6 hb6 g6 HN5 HG5 HN HG HC5
        go_roundw
        case rel => exact ⟨6, _, by omega, rfl, HL6.out, HN6, HG6⟩
        case measure => simp [intOf]
      · have yk : wr.cell? ⟨w.heap.size + 2, 6, none⟩ = some (.int .i64 m.n6) := HG.out.cell 6
        have C1 := Lib.hid (rnumber_any m.n6 (H.out.bm 6) wr)
        go_wp2_with fail
        refine C1.out.mono ?_
        rintro e w5 ⟨v5, rfl, hown5, hb5⟩
        obtain ⟨A5, c5, rfl, hc5, hs5⟩ := own_shape hown5
        have HN5 := Lib.hid (HN.out.next hb5)
        have HG5 := Lib.hid (HG.out.bel hb5)
        obtain ⟨b5, o5, rfl, hl5, hcell5⟩ := seg_cells hs5 (by unfold u8s; rw [Ne, List.map_eq_nil_iff]; exact numN_ne _)
        have HC5 := Lib.hid hcell5
        have hbig := HN5.out.big
        have hnn := numN_len m.n6
        clear hown5 hb5 hs5 hcell5 C1 yk
        go_wp2_with (at_builtin; refine wpList_append_own_at _ rfl (.tmp 32) (.tmp 34) 26 rfl (w.heap.size + 1) 5 i0 (.int .u8 0) 1 1 Try.underlying26 hi0 hz0 hz1 hz2 rfl (by decide) (.slice A2 nl c2) nl _ rfl HN5.out.own ⟨b5, o5, none⟩ (numN m.n6).length c5 (u8s (numN m.n6)) rfl (by rw [u8s_length, Nat.mul_one]) HC5.out (u8s_one _) (by simp only [maxLen]; omega) (by omega) hbig ?_; intro v6 w6 hown6 hgr6 _ hat6)
        have hb6 := (Below.refl (w.heap.size + 1) w5).grown hgr6 hbig (fun j e => (HN5.out.own.lt j e).1)
        have g6 : Gr w5 (.slice A2 nl c2) w6 v6 := (Gr.refl w5 (.slice A2 nl c2)).app hgr6 hat6
        have HG6 := Lib.hid (g6.bk HN5.out.own HG5.out (by decide))
        have HN6 := Lib.hid (show AbW w (w.heap.size + 1) w.heap.size (msgC m A n c) (nl + (numN m.n6).length) ([Kn] ++ numsN m 7) v6 w6 from HN5.out.step (by
          have e1 : [Kn] ++ numsN m 7 = ([Kn] ++ numsN m 6) ++ numN m.n6 := by rw [List.append_assoc]; rfl
          rw [e1, ← u8s_append]
          exact hown6) (by
          have e1 : [Kn] ++ numsN m 7 = ([Kn] ++ numsN m 6) ++ numN m.n6 := by rw [List.append_assoc]; rfl
          rw [e1, List.length_append, ← HN5.out.len]) hb6)
        have HL6 := Lib.hid (show nl + (numN m.n6).length ≤ 71 by
          have h1 := numsN_len m 7
          have h3 := HN6.out.len
          simp only [List.length_append, List.length_singleton] at h3
          omega)
        clear hown6 hgr6 hat6 hb6 g6 HN5 HG5 HN HG HC5
        go_roundw
        case rel => exact ⟨7, _, by omega, rfl, HL6.out, HN6, HG6⟩
        case measure => simp [intOf]
    · have hk7 : k = 7 := by omega
      subst hk7
      clear hk hlt HG
      have z7 : wr.cell? ⟨w.heap.size, 7, none⟩ = some (.slice A n c) := HN.out.bk.cell 7
      have z8 : wr.cell? ⟨w.heap.size, 8, none⟩ = some (.bool m.ok) := HN.out.bk.cell 8
      have hbig := HN.out.big
      obtain ⟨ok, hok⟩ : ∃ ok, ok = m.ok := ⟨_, rfl⟩
      have HDo := Lib.hid (show headN m = [Kn] ++ numsN m 7 ++ [(if ok then 1 else 0), n] by rw [hok]; exact HD.out)
      rw [← hok] at z8
      have HLN := Lib.hid HN.out.len
      clear hok HD
      cases ok
      · go_upto_region 10 with (at_builtin; refine wpList_append_seg _ rfl (.tmp 42) (.tmp 43) _ rfl (w.heap.size + 1) 5 i0 _ 1 Try.underlying26 hi0 hz0 hz1 hz2 rfl _ nl _ rfl (own_alloc HN.out.own _) (some ⟨wr.heap.size, 0, none⟩) 1 1 [.int .u8 0] rfl rfl (seg_new _ _ _) (by simp [Value.oneCell']) (by simp only [maxLen]; omega) (by omega) (by simp only [World.size_alloc]; omega) ?_; intro v5 w5 hown5 hb5; have HA4 := Lib.hid (show AbW w (w.heap.size + 1) w.heap.size (msgC m A n c) (nl + 1) ([Kn] ++ numsN m 7 ++ [0]) v5 w5 from (HN.out.alloc _).step (by rw [← u8s_append]; exact hown5) (by rw [List.length_append, ← HLN.out]; rfl) hb5); have q7 : w5.cell? ⟨w.heap.size, 7, none⟩ = some (.slice A n c) := HA4.out.bk.cell 7; have big5 := HA4.out.big)
        clear hown5 hb5 z7 z8 hbig HN HLN
        have HLN := Lib.hid HA4.out.len
        go_upto_region 11 with (at_builtin; refine wpList_append_seg _ rfl (.tmp 45) (.tmp 50) _ rfl (w.heap.size + 1) 5 i0 _ 1 Try.underlying26 hi0 hz0 hz1 hz2 rfl _ (nl + 1) _ rfl (own_alloc HA4.out.own _) (some ⟨w5.heap.size, 0, none⟩) 1 1 [.int .u8 (n : Int)] rfl rfl (seg_new _ _ _) (by simp [Value.oneCell']) (by simp only [maxLen]; omega) (by omega) (by simp only [World.size_alloc]; omega) ?_; intro v6 w6 hown6 hb6; have HA5 := Lib.hid (show AbW w (w.heap.size + 1) w.heap.size (msgC m A n c) (nl + 1 + 1) (headN m) v6 w6 from (HA4.out.alloc _).step (by rw [HDo.out, show [Kn] ++ numsN m 7 ++ [(if false = true then 1 else 0), n] = ([Kn] ++ numsN m 7 ++ [0]) ++ [n] by simp, ← u8s_append]; exact hown6) (by rw [HDo.out, show [Kn] ++ numsN m 7 ++ [(if false = true then 1 else 0), n] = ([Kn] ++ numsN m 7 ++ [0]) ++ [n] by simp, List.length_append, ← HLN.out]; rfl) hb6); have p7 : w6.cell? ⟨w.heap.size, 7, none⟩ = some (.slice A n c) := HA5.out.bk.cell 7)
        clear hown6 hb6 q7 big5 HA4 HDo HLN
        go_wp2_with fail
        go_loopw [3, 55] (fun v u wx => ∃ k nl : Nat, k ≤ n ∧ u = .int .i64 (k : Int) ∧ nl ≤ 900 ∧ Hid (AbW w (w.heap.size + 1) w.heap.size (msgC m A n c) nl (headN m ++ entsN m.ents k) v wx)) (fun _ u _ => n - (intOf u).toNat)
        case atStart => exact ⟨0, nl + 1 + 1, by omega, rfl, by omega, by rw [show headN m ++ entsN m.ents 0 = headN m from List.append_nil _]; exact HA5⟩
        case round =>
          clear HA5
          obtain ⟨k, nk, hk, rfl, hnk, HM⟩ := hrel
          obtain ⟨A3, c3, rfl, hc3, _⟩ := own_shape HM.out.own
          by_cases hlt : k < n
          · have hkl : k < m.ents.length := by have := HE.out; omega
            obtain ⟨b, off, rfl, hbl, y1, y2⟩ := (H.out.bel HM.out.bel).ent hkl
            have hsz := HL80.out _ (List.getElem_mem hkl)
            have hin := (H.out.be _ (List.getElem_mem hkl)).1
            have HEn := Lib.hid (show entsN m.ents (k + 1) = entsN m.ents k ++ (numN m.ents[k].1 ++ ([m.ents[k].2.size] ++ bytesN m.ents[k].2)) by
              rw [entsN, show m.ents.getD k (0, ByteArray.empty) = m.ents[k] by simp [List.getElem?_eq_getElem hkl]]
              unfold entN
              rw [Nat.mod_eq_of_lt (by omega)]
              rfl)
            have HLn := Lib.hid (show (headN m ++ entsN m.ents (k + 1)).length ≤ 900 by
              have h1 := entsN_len m.ents HL80.out (k + 1) (by omega)
              have h2 := numsN_len m 7
              have h3 := HE.out
              rw [List.length_append]
              unfold headN
              simp only [List.length_append, List.length_cons, List.length_nil]
              omega)
            generalize m.ents[k].1 = Z at *
            generalize m.ents[k].2 = T at *
            have hbg := HM.out.big
            have HWf : ∀ W, wr.alloc (.cells #[.int .i64 Z, .string T] 54) = W → AbW w (w.heap.size + 1) w.heap.size (msgC m (some ⟨b, off, none⟩) n c) nk (headN m ++ entsN m.ents k) (.slice A3 nk c3) W ∧ Bk W wr.heap.size 54 #[.int .i64 Z, .string T] := by
              intro W hW
              subst hW
              have hbel : Below wr.heap.size wr (wr.alloc (.cells #[.int .i64 Z, .string T] 54)) := (Below.refl wr.heap.size wr).alloc (Nat.le_refl _) _
              exact ⟨HM.out.next hbel, Bk.new wr _ _⟩
            have HWF := Lib.hid HWf
            clear HWf HM
            go_upto_region 14 with fail
            generalize hWW : wr.alloc (.cells #[.int .i64 Z, .string T] 54) = W
            obtain ⟨hM, hX⟩ := HWF.out W hWW
            have C1 := Lib.hid (rnumber_any Z hin W)
            have x0 : W.cell? ⟨wr.heap.size, 0, none⟩ = some (.int .i64 Z) := hX.cell 0
            have HM5 := Lib.hid hM
            have HX5 := Lib.hid hX
            clear hM hX hWW HWF y1 y2
            go_wp2_with fail
            refine C1.out.mono ?_
            rintro e w5 ⟨v5, rfl, hown5, hb5⟩
            obtain ⟨A5, c5, rfl, hc5, hs5⟩ := own_shape hown5
            have HN5 := Lib.hid (HM5.out.next hb5)
            have HX6 := Lib.hid (HX5.out.bel hb5)
            obtain ⟨b5, o5, rfl, hl5, hcell5⟩ := seg_cells hs5 (by unfold u8s; rw [Ne, List.map_eq_nil_iff]; exact numN_ne _)
            have HC5 := Lib.hid hcell5
            have hbig := HN5.out.big
            have hnn := numN_len Z
            clear hown5 hb5 hs5 hcell5 C1 x0 HX5 HM5
            go_upto_region 15 with (at_builtin; refine wpList_append_own_at _ rfl (.tmp 59) (.tmp 62) 26 rfl (w.heap.size + 1) 5 i0 (.int .u8 0) 1 1 Try.underlying26 hi0 hz0 hz1 hz2 rfl (by decide) (.slice A3 nk c3) nk _ rfl HN5.out.own ⟨b5, o5, none⟩ (numN Z).length c5 (u8s (numN Z)) rfl (by rw [u8s_length, Nat.mul_one]) HC5.out (u8s_one _) (by simp only [maxLen]; omega) (by omega) hbig ?_; intro v6 w6 hown6 hgr6 _ hat6)
            have hb6 := (Below.refl (w.heap.size + 1) w5).grown hgr6 hbig (fun j e => (HN5.out.own.lt j e).1)
            have g6 : Gr w5 (.slice A3 nk c3) w6 v6 := (Gr.refl w5 (.slice A3 nk c3)).app hgr6 hat6
            have HX7 := Lib.hid (g6.bk HN5.out.own HX6.out (by decide))
            have HN6 := Lib.hid (show AbW w (w.heap.size + 1) w.heap.size (msgC m (some ⟨b, off, none⟩) n c) (nk + (numN Z).length) (headN m ++ entsN m.ents k ++ numN Z) v6 w6 from HN5.out.step (by rw [← u8s_append]; exact hown6) (by rw [List.length_append, ← HN5.out.len]) hb6)
            have x6 : w6.cell? ⟨wr.heap.size, 1, none⟩ = some (.string T) := HX7.out.cell 1
            have big6 := HN6.out.big
            clear hown6 hgr6 hat6 hb6 g6 HN5 HX6 HC5 hbig
            obtain ⟨A6, c6, rfl, hc6, _⟩ := own_shape HN6.out.own
            go_upto_region 16 with (at_builtin; refine wpList_append_own_at _ rfl (.tmp 64) (.tmp 69) 26 rfl (w.heap.size + 1) 5 i0 (.int .u8 0) 1 1 Try.underlying26 hi0 hz0 hz1 hz2 rfl (by decide) (.slice A6 (nk + (numN Z).length) c6) (nk + (numN Z).length) _ rfl (own_alloc HN6.out.own _) ⟨w6.heap.size, 0, none⟩ 1 1 [.int .u8 (T.size : Int)] rfl rfl (cell_one_new _ _ _) (by simp [Value.oneCell']) (by simp only [maxLen]; omega) (by omega) (by simp only [World.size_alloc]; omega) ?_; intro v7 w7 hown7 hgr7 _ hat7; have hb7 := (Below.refl (w.heap.size + 1) _).grown hgr7 (by simp only [World.size_alloc]; omega) (fun j e => (HN6.out.own.lt j e).1); have g7 := Lib.hid (((Gr.refl w6 (.slice A6 (nk + (numN Z).length) c6)).alloc (.cells #[.int .u8 (T.size : Int)] 5)).app hgr7 hat7); have HM7 := Lib.hid (show AbW w (w.heap.size + 1) w.heap.size (msgC m (some ⟨b, off, none⟩) n c) (nk + (numN Z).length + 1) ((headN m ++ entsN m.ents k ++ numN Z) ++ [T.size]) v7 w7 from (HN6.out.alloc (.cells #[.int .u8 (T.size : Int)] 5)).step (by rw [← u8s_append]; exact hown7) (by rw [List.length_append, ← HN6.out.len]; rfl) hb7); have x7 : w7.cell? ⟨wr.heap.size, 1, none⟩ = some (.string T) := (g7.out.bk HN6.out.own HX7.out (by decide)).cell 1; have big7 := HM7.out.big)
            clear hown7 hgr7 hat7 hb7 x6 HN6 HX7 g7
            obtain ⟨cb, w8, hcv, hs8, hb8⟩ := conv_any T w7
            have HM8 := Lib.hid (HM7.out.next hb8)
            have HS8 := Lib.hid hs8
            have big8 := HM8.out.big
            clear hs8 hb8 big7
            go_wp2_with (at_builtin; refine wpList_append_seg _ rfl (.tmp 71) (.tmp 74) _ rfl (w.heap.size + 1) 5 i0 _ 1 Try.underlying26 hi0 hz0 hz1 hz2 rfl _ (nk + (numN Z).length + 1) _ rfl HM8.out.own (some ⟨w7.heap.size, 0, none⟩) T.size cb (u8s (bytesN T)) rfl (by rw [u8s_length, bytesN_length]) HS8.out (u8s_one _) (by simp only [maxLen]; omega) (by omega) big8 ?_; intro v9 w9 hown9 hb9)
            have HM9 := Lib.hid (show AbW w (w.heap.size + 1) w.heap.size (msgC m (some ⟨b, off, none⟩) n c) (nk + (numN Z).length + 1 + T.size) (headN m ++ entsN m.ents (k + 1)) v9 w9 from HM8.out.step (by
              rw [HEn.out, show headN m ++ (entsN m.ents k ++ (numN Z ++ ([T.size] ++ bytesN T))) = (headN m ++ entsN m.ents k ++ numN Z ++ [T.size]) ++ bytesN T by simp only [List.append_assoc], ← u8s_append]
              exact hown9) (by
              rw [HEn.out, show headN m ++ (entsN m.ents k ++ (numN Z ++ ([T.size] ++ bytesN T))) = (headN m ++ entsN m.ents k ++ numN Z ++ [T.size]) ++ bytesN T by simp only [List.append_assoc], List.length_append, ← HM8.out.len, bytesN_length]) hb9)
            have hn9' := Lib.hid (show nk + (numN Z).length + 1 + T.size ≤ 900 by rw [HM9.out.len]; exact HLn.out)
            clear hown9 hb9 hcv x7 HEn
            go_roundw
            case rel => exact ⟨k + 1, _, by omega, by go_num, hn9'.out, HM9⟩
            case measure => simp [intOf]; omega
          · have hkn : k = n := by omega
            subst hkn
            have HF := Lib.hid (show encN m = headN m ++ entsN m.ents k by unfold encN; rw [← HE.out])
            have HFr := Lib.hid (fun a (e : A3 = some a) => (own_lt_slice HM.out.own e))
            clear hk hlt
            go_wp2_with fail
            go_ret
            rw [HF.out]
            refine ⟨⟨A3, c3, by rw [← HM.out.len]; rfl, by rw [← HM.out.len]; exact hc3, Seg.of_own HM.out.own, HFr.out⟩, HM.out.bel⟩
      · go_upto_region 10 with (at_builtin; refine wpList_append_seg _ rfl (.tmp 39) (.tmp 40) _ rfl (w.heap.size + 1) 5 i0 _ 1 Try.underlying26 hi0 hz0 hz1 hz2 rfl _ nl _ rfl (own_alloc HN.out.own _) (some ⟨wr.heap.size, 0, none⟩) 1 1 [.int .u8 1] rfl rfl (seg_new _ _ _) (by simp [Value.oneCell']) (by simp only [maxLen]; omega) (by omega) (by simp only [World.size_alloc]; omega) ?_; intro v5 w5 hown5 hb5; have HA4 := Lib.hid (show AbW w (w.heap.size + 1) w.heap.size (msgC m A n c) (nl + 1) ([Kn] ++ numsN m 7 ++ [1]) v5 w5 from (HN.out.alloc _).step (by rw [← u8s_append]; exact hown5) (by rw [List.length_append, ← HLN.out]; rfl) hb5); have q7 : w5.cell? ⟨w.heap.size, 7, none⟩ = some (.slice A n c) := HA4.out.bk.cell 7; have big5 := HA4.out.big)
        clear hown5 hb5 z7 z8 hbig HN HLN
        have HLN := Lib.hid HA4.out.len
        go_upto_region 11 with (at_builtin; refine wpList_append_seg _ rfl (.tmp 45) (.tmp 50) _ rfl (w.heap.size + 1) 5 i0 _ 1 Try.underlying26 hi0 hz0 hz1 hz2 rfl _ (nl + 1) _ rfl (own_alloc HA4.out.own _) (some ⟨w5.heap.size, 0, none⟩) 1 1 [.int .u8 (n : Int)] rfl rfl (seg_new _ _ _) (by simp [Value.oneCell']) (by simp only [maxLen]; omega) (by omega) (by simp only [World.size_alloc]; omega) ?_; intro v6 w6 hown6 hb6; have HA5 := Lib.hid (show AbW w (w.heap.size + 1) w.heap.size (msgC m A n c) (nl + 1 + 1) (headN m) v6 w6 from (HA4.out.alloc _).step (by rw [HDo.out, show [Kn] ++ numsN m 7 ++ [(if true = true then 1 else 0), n] = ([Kn] ++ numsN m 7 ++ [1]) ++ [n] by simp, ← u8s_append]; exact hown6) (by rw [HDo.out, show [Kn] ++ numsN m 7 ++ [(if true = true then 1 else 0), n] = ([Kn] ++ numsN m 7 ++ [1]) ++ [n] by simp, List.length_append, ← HLN.out]; rfl) hb6); have p7 : w6.cell? ⟨w.heap.size, 7, none⟩ = some (.slice A n c) := HA5.out.bk.cell 7)
        clear hown6 hb6 q7 big5 HA4 HDo HLN
        go_wp2_with fail
        go_loopw [3, 55] (fun v u wx => ∃ k nl : Nat, k ≤ n ∧ u = .int .i64 (k : Int) ∧ nl ≤ 900 ∧ Hid (AbW w (w.heap.size + 1) w.heap.size (msgC m A n c) nl (headN m ++ entsN m.ents k) v wx)) (fun _ u _ => n - (intOf u).toNat)
        case atStart => exact ⟨0, nl + 1 + 1, by omega, rfl, by omega, by rw [show headN m ++ entsN m.ents 0 = headN m from List.append_nil _]; exact HA5⟩
        case round =>
          clear HA5
          obtain ⟨k, nk, hk, rfl, hnk, HM⟩ := hrel
          obtain ⟨A3, c3, rfl, hc3, _⟩ := own_shape HM.out.own
          by_cases hlt : k < n
          · have hkl : k < m.ents.length := by have := HE.out; omega
            obtain ⟨b, off, rfl, hbl, y1, y2⟩ := (H.out.bel HM.out.bel).ent hkl
            have hsz := HL80.out _ (List.getElem_mem hkl)
            have hin := (H.out.be _ (List.getElem_mem hkl)).1
            have HEn := Lib.hid (show entsN m.ents (k + 1) = entsN m.ents k ++ (numN m.ents[k].1 ++ ([m.ents[k].2.size] ++ bytesN m.ents[k].2)) by
              rw [entsN, show m.ents.getD k (0, ByteArray.empty) = m.ents[k] by simp [List.getElem?_eq_getElem hkl]]
              unfold entN
              rw [Nat.mod_eq_of_lt (by omega)]
              rfl)
            have HLn := Lib.hid (show (headN m ++ entsN m.ents (k + 1)).length ≤ 900 by
              have h1 := entsN_len m.ents HL80.out (k + 1) (by omega)
              have h2 := numsN_len m 7
              have h3 := HE.out
              rw [List.length_append]
              unfold headN
              simp only [List.length_append, List.length_cons, List.length_nil]
              omega)
            generalize m.ents[k].1 = Z at *
            generalize m.ents[k].2 = T at *
            have hbg := HM.out.big
            have HWf : ∀ W, wr.alloc (.cells #[.int .i64 Z, .string T] 54) = W → AbW w (w.heap.size + 1) w.heap.size (msgC m (some ⟨b, off, none⟩) n c) nk (headN m ++ entsN m.ents k) (.slice A3 nk c3) W ∧ Bk W wr.heap.size 54 #[.int .i64 Z, .string T] := by
              intro W hW
              subst hW
              have hbel : Below wr.heap.size wr (wr.alloc (.cells #[.int .i64 Z, .string T] 54)) := (Below.refl wr.heap.size wr).alloc (Nat.le_refl _) _
              exact ⟨HM.out.next hbel, Bk.new wr _ _⟩
            have HWF := Lib.hid HWf
            clear HWf HM
            go_upto_region 14 with fail
            generalize hWW : wr.alloc (.cells #[.int .i64 Z, .string T] 54) = W
            obtain ⟨hM, hX⟩ := HWF.out W hWW
            have C1 := Lib.hid (rnumber_any Z hin W)
            have x0 : W.cell? ⟨wr.heap.size, 0, none⟩ = some (.int .i64 Z) := hX.cell 0
            have HM5 := Lib.hid hM
            have HX5 := Lib.hid hX
            clear hM hX hWW HWF y1 y2
            go_wp2_with fail
            refine C1.out.mono ?_
            rintro e w5 ⟨v5, rfl, hown5, hb5⟩
            obtain ⟨A5, c5, rfl, hc5, hs5⟩ := own_shape hown5
            have HN5 := Lib.hid (HM5.out.next hb5)
            have HX6 := Lib.hid (HX5.out.bel hb5)
            obtain ⟨b5, o5, rfl, hl5, hcell5⟩ := seg_cells hs5 (by unfold u8s; rw [Ne, List.map_eq_nil_iff]; exact numN_ne _)
            have HC5 := Lib.hid hcell5
            have hbig := HN5.out.big
            have hnn := numN_len Z
            clear hown5 hb5 hs5 hcell5 C1 x0 HX5 HM5
            go_upto_region 15 with (at_builtin; refine wpList_append_own_at _ rfl (.tmp 59) (.tmp 62) 26 rfl (w.heap.size + 1) 5 i0 (.int .u8 0) 1 1 Try.underlying26 hi0 hz0 hz1 hz2 rfl (by decide) (.slice A3 nk c3) nk _ rfl HN5.out.own ⟨b5, o5, none⟩ (numN Z).length c5 (u8s (numN Z)) rfl (by rw [u8s_length, Nat.mul_one]) HC5.out (u8s_one _) (by simp only [maxLen]; omega) (by omega) hbig ?_; intro v6 w6 hown6 hgr6 _ hat6)
            have hb6 := (Below.refl (w.heap.size + 1) w5).grown hgr6 hbig (fun j e => (HN5.out.own.lt j e).1)
            have g6 : Gr w5 (.slice A3 nk c3) w6 v6 := (Gr.refl w5 (.slice A3 nk c3)).app hgr6 hat6
            have HX7 := Lib.hid (g6.bk HN5.out.own HX6.out (by decide))
            have HN6 := Lib.hid (show AbW w (w.heap.size + 1) w.heap.size (msgC m (some ⟨b, off, none⟩) n c) (nk + (numN Z).length) (headN m ++ entsN m.ents k ++ numN Z) v6 w6 from HN5.out.step (by rw [← u8s_append]; exact hown6) (by rw [List.length_append, ← HN5.out.len]) hb6)
            have x6 : w6.cell? ⟨wr.heap.size, 1, none⟩ = some (.string T) := HX7.out.cell 1
            have big6 := HN6.out.big
            clear hown6 hgr6 hat6 hb6 g6 HN5 HX6 HC5 hbig
            obtain ⟨A6, c6, rfl, hc6, _⟩ := own_shape HN6.out.own
            go_upto_region 16 with (at_builtin; refine wpList_append_own_at _ rfl (.tmp 64) (.tmp 69) 26 rfl (w.heap.size + 1) 5 i0 (.int .u8 0) 1 1 Try.underlying26 hi0 hz0 hz1 hz2 rfl (by decide) (.slice A6 (nk + (numN Z).length) c6) (nk + (numN Z).length) _ rfl (own_alloc HN6.out.own _) ⟨w6.heap.size, 0, none⟩ 1 1 [.int .u8 (T.size : Int)] rfl rfl (cell_one_new _ _ _) (by simp [Value.oneCell']) (by simp only [maxLen]; omega) (by omega) (by simp only [World.size_alloc]; omega) ?_; intro v7 w7 hown7 hgr7 _ hat7; have hb7 := (Below.refl (w.heap.size + 1) _).grown hgr7 (by simp only [World.size_alloc]; omega) (fun j e => (HN6.out.own.lt j e).1); have g7 := Lib.hid (((Gr.refl w6 (.slice A6 (nk + (numN Z).length) c6)).alloc (.cells #[.int .u8 (T.size : Int)] 5)).app hgr7 hat7); have HM7 := Lib.hid (show AbW w (w.heap.size + 1) w.heap.size (msgC m (some ⟨b, off, none⟩) n c) (nk + (numN Z).length + 1) ((headN m ++ entsN m.ents k ++ numN Z) ++ [T.size]) v7 w7 from (HN6.out.alloc (.cells #[.int .u8 (T.size : Int)] 5)).step (by rw [← u8s_append]; exact hown7) (by rw [List.length_append, ← HN6.out.len]; rfl) hb7); have x7 : w7.cell? ⟨wr.heap.size, 1, none⟩ = some (.string T) := (g7.out.bk HN6.out.own HX7.out (by decide)).cell 1; have big7 := HM7.out.big)
            clear hown7 hgr7 hat7 hb7 x6 HN6 HX7 g7
            obtain ⟨cb, w8, hcv, hs8, hb8⟩ := conv_any T w7
            have HM8 := Lib.hid (HM7.out.next hb8)
            have HS8 := Lib.hid hs8
            have big8 := HM8.out.big
            clear hs8 hb8 big7
            go_wp2_with (at_builtin; refine wpList_append_seg _ rfl (.tmp 71) (.tmp 74) _ rfl (w.heap.size + 1) 5 i0 _ 1 Try.underlying26 hi0 hz0 hz1 hz2 rfl _ (nk + (numN Z).length + 1) _ rfl HM8.out.own (some ⟨w7.heap.size, 0, none⟩) T.size cb (u8s (bytesN T)) rfl (by rw [u8s_length, bytesN_length]) HS8.out (u8s_one _) (by simp only [maxLen]; omega) (by omega) big8 ?_; intro v9 w9 hown9 hb9)
            have HM9 := Lib.hid (show AbW w (w.heap.size + 1) w.heap.size (msgC m (some ⟨b, off, none⟩) n c) (nk + (numN Z).length + 1 + T.size) (headN m ++ entsN m.ents (k + 1)) v9 w9 from HM8.out.step (by
              rw [HEn.out, show headN m ++ (entsN m.ents k ++ (numN Z ++ ([T.size] ++ bytesN T))) = (headN m ++ entsN m.ents k ++ numN Z ++ [T.size]) ++ bytesN T by simp only [List.append_assoc], ← u8s_append]
              exact hown9) (by
              rw [HEn.out, show headN m ++ (entsN m.ents k ++ (numN Z ++ ([T.size] ++ bytesN T))) = (headN m ++ entsN m.ents k ++ numN Z ++ [T.size]) ++ bytesN T by simp only [List.append_assoc], List.length_append, ← HM8.out.len, bytesN_length]) hb9)
            have hn9' := Lib.hid (show nk + (numN Z).length + 1 + T.size ≤ 900 by rw [HM9.out.len]; exact HLn.out)
            clear hown9 hb9 hcv x7 HEn
            go_roundw
            case rel => exact ⟨k + 1, _, by omega, by go_num, hn9'.out, HM9⟩
            case measure => simp [intOf]; omega
          · have hkn : k = n := by omega
            subst hkn
            have HF := Lib.hid (show encN m = headN m ++ entsN m.ents k by unfold encN; rw [← HE.out])
            have HFr := Lib.hid (fun a (e : A3 = some a) => (own_lt_slice HM.out.own e))
            clear hk hlt
            go_wp2_with fail
            go_ret
            rw [HF.out]
            refine ⟨⟨A3, c3, by rw [← HM.out.len]; rfl, by rw [← HM.out.len]; exact hc3, Seg.of_own HM.out.own, HFr.out⟩, HM.out.bel⟩
end Go.Proofs.Ytgifbjomaenlnaa
