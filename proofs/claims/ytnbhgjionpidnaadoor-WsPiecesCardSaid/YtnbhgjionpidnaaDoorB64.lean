/- The walk of the base 64 text. Conditions: the bytes lie in memory. -/
import Derived.Test.YtnbhgjionpidnaaDoorFour
import Derived.Test.YtnbhgjionpidnaaDoorTxtP
import Derived.Lib.AppendStr
namespace Go.Proofs.YtnbhgjionpidnaaDoor
open Go.RowKit

def b64N : List Nat → List Nat
  | x :: y :: z :: r => fourN x y z ++ b64N r
  | [x, y] => (fourN x y 0).take 3 ++ [61]
  | [x] => (fourN x 0 0).take 2 ++ [61, 61]
  | [] => []
theorem b64N_lt : ∀ l : List Nat, ∀ x ∈ b64N l, x < 256
  | x :: y :: z :: r => fun a ha => by
    have ih := b64N_lt r
    simp only [b64N, List.mem_append] at ha
    rcases ha with ha | ha
    · simp only [fourN, List.mem_cons, List.not_mem_nil, or_false] at ha
      rcases ha with rfl | rfl | rfl | rfl <;> exact dC_lt _
    · exact ih a ha
  | [x, y] => fun a ha => by
    simp only [b64N, fourN, List.take, List.mem_append, List.mem_cons, List.not_mem_nil, or_false] at ha
    rcases ha with (rfl | rfl | rfl) | rfl
    · exact dC_lt _
    · exact dC_lt _
    · exact dC_lt _
    · omega
  | [x] => fun a ha => by
    simp only [b64N, fourN, List.take, List.mem_append, List.mem_cons, List.not_mem_nil, or_false] at ha
    rcases ha with (rfl | rfl) | rfl | rfl
    · exact dC_lt _
    · exact dC_lt _
    · omega
    · omega
  | [] => fun a ha => by simp [b64N] at ha
theorem b64N_length : ∀ l : List Nat, (b64N l).length = (l.length + 2) / 3 * 4
  | x :: y :: z :: r => by
    have ih := b64N_length r
    simp only [b64N, List.length_append, ih, List.length_cons]
    simp only [fourN, List.length_cons, List.length_nil]
    omega
  | [x, y] => by simp [b64N, fourN]
  | [x] => by simp [b64N, fourN]
  | [] => rfl
theorem b64N_front : ∀ (l m : List Nat), l.length % 3 = 0 → b64N (l ++ m) = b64N l ++ b64N m
  | x :: y :: z :: r, m => fun h => by
    have ih := b64N_front r m (by simp only [List.length_cons] at h; omega)
    simp only [List.cons_append, b64N, ih, List.append_assoc]
  | [x, y], m => fun h => by simp at h
  | [x], m => fun h => by simp at h
  | [], m => fun _ => rfl

theorem own_bel {w w' : World} {base : Nat} {e : TypeId} {v : Value} {n : Nat} {xs : List Value} (h : w.ownsRow base e 1 v n xs) (hb : Below w.heap.size w w') : w'.ownsRow base e 1 v n xs := by
  refine ⟨h.1, ?_⟩
  rcases h.2 with hn | ⟨g, cap, cur, rfl, hg, hgg, rest⟩
  · exact .inl hn
  · refine .inr ⟨g, cap, cur, rfl, hg, ?_, rest⟩
    rw [hb.block g (Array.getElem?_eq_some_iff.1 hgg).1]
    exact hgg

set_option maxRecDepth 100000 in
set_option maxHeartbeats 1000000 in
theorem b64_any (A : Option Addr) (n c : Nat) (l : List Nat) (hn : n = l.length) (hnc : n ≤ c) (hx : n ≤ 1000000) (w : World) (hA : Seg w A (u8s l)) (hl : ∀ x ∈ l, x < 256) :
    Calls Tryd.prog 25 #[.slice A n c] w fun e w' => e = .returned (.string (txt (b64N l))) ∧ Below w.heap.size w w' := by
  obtain ⟨i0, hi0, hz0, hz1, hz2⟩ := info_parts info5
  obtain ⟨q, hq⟩ : ∃ q, q = (n + 2) / 3 * 4 := ⟨_, rfl⟩
  have hmk : ∀ (w : World), (Instr.makeSlice 25 (.int .i64 0) (.int .i64 (((n : Int) + 2) / 3 * 4))).run Tryd.prog w = .ok (.slice (some ⟨w.heap.size, 0, none⟩) 0 q) (w.alloc (.cells (madeCells #[.int .u8 0] q) 5)) := fun w => by
    have e : ((n : Int) + 2) / 3 * 4 = ((q : Nat) : Int) := by omega
    rw [e]
    have := run_make (P := Tryd.prog) w 25 5 i0 (.int .u8 0) Tryd.underlying25 hi0 hz0 .i64 .i64 0 q (by omega) (by omega) (by rw [hz2]; omega) (by omega)
    rw [hz1, show ((q : Nat) : Int).toNat = q by omega, Nat.mul_one] at this
    exact this
  have hcs : (madeCells #[Value.int .u8 0] q).size = q := by
    rw [← Array.length_toList, show (madeCells #[Value.int .u8 0] q).toList = List.replicate q (Value.int .u8 0) from toList_madeCells_one _ _]; simp
  have HM := Lib.hid (World.ownsRow_made (w := w) (base := w.heap.size) (e := 5) (size := 1) (madeCells #[.int .u8 0] q) q (Nat.le_refl _) (by simp only [maxLen]; omega) (by rw [hcs]; omega))
  have HA := Lib.hid hA
  have HL := Lib.hid hl
  have HN := Lib.hid hn
  have HB := Lib.hid ((Below.refl w.heap.size w).alloc (Nat.le_refl _) (.cells (madeCells #[.int .u8 0] q) 5))
  clear hA hl hn hcs hq
  go_enter Tryd.func25, Tryd.ntmps25
  go_wp2_with fail
  have hlen := b64N_length l
  rw [← HN.out] at hlen
  have HLen := Lib.hid hlen
  clear hlen
  go_loopw [0, 3] (fun vb vt wr => ∃ (R D : List Nat) (A' : Option Addr) (c' : Nat), vb = .slice A' R.length c' ∧ R.length ≤ c' ∧ R.length ≤ n ∧ Seg w A' (u8s R) ∧ (∀ x ∈ R, x < 256) ∧ D ++ b64N R = b64N l ∧ wr.ownsRow w.heap.size 5 1 vt D.length (u8s D) ∧ Below w.heap.size w wr) (fun vb _ _ => lenOf vb)
  case atStart => exact ⟨l, [], A, c, by rw [← HN.out], by rw [← HN.out]; exact hnc, by rw [← HN.out]; exact Nat.le_refl _, HA.out, HL.out, rfl, HM.out, HB.out⟩
  case round =>
    obtain ⟨R, D, A', c', rfl, hRc, hRn, hS, hR, hD, hown, hb⟩ := hrel
    have HO := Lib.hid hown
    have HW := Lib.hid hb
    have hsz := hb.size
    have hDl : D.length ≤ 4000000 := by
      have := congrArg List.length hD
      rw [List.length_append, HLen.out] at this
      omega
    have HD := Lib.hid hD
    have HR := Lib.hid hR
    obtain ⟨A1, c1, rfl, hc1, _⟩ := own_shape hown
    clear hown hb HM HB hD hR HA HL
    match R with
    | x :: y :: z :: r =>
      obtain ⟨b, off, rfl, hbl, hcells, _⟩ := (hS.bel HW.out).pick (k := 0) (by simp [u8s])
      have k0 := hcells 0 (by simp [u8s])
      have k1 := hcells 1 (by simp [u8s])
      have k2 := hcells 2 (by simp [u8s])
      simp [u8s] at k0 k1 k2
      have l0 := HR.out x (by simp)
      have l1 := HR.out y (by simp)
      have l2 := HR.out z (by simp)
      have HS := Lib.hid hS
      have hF := fun w => four_any x y z l0 l1 l2 w
      have hRl : (x :: y :: z :: r).length = r.length + 3 := by simp
      rw [hRl] at hRc hRn ⊢
      clear hS hcells
      have hcut := HS.out.cut 3 c' (by rw [u8s_length, hRl]; exact hRc)
      rw [show (u8s (x :: y :: z :: r)).drop 3 = u8s r from rfl] at hcut
      obtain ⟨A2, hA2⟩ : ∃ A2, A2 = if c' = 3 then some (⟨b, off, none⟩ : Addr) else (some (⟨b, off, none⟩ : Addr)).map (·.add 3) := ⟨_, rfl⟩
      rw [← hA2] at hcut
      have hsl : ∀ w : World, (Instr.sliceAt 25 (.slice (some ⟨b, off, none⟩) (r.length + 3) c') (some (.int .i64 3)) none none).run Tryd.prog w = .ok (.slice A2 r.length (c' - 3)) w := fun w => by
        have hu : Tryd.prog.underlying 25 = some (.slice (Tryd.prog.elem 25)) := by kernel_rfl
        have he : Tryd.prog.elem 25 = 5 := by kernel_rfl
        rw [run_sliceAt_slice (P := Tryd.prog) w 25 _ _ _ _ hu, run_slice_l (P := Tryd.prog) w 25 (some ⟨b, off, none⟩) (r.length + 3) c' hu .i64 3 (by omega) (by omega), he]
        have hsz5 : (sizeOf 5).run Tryd.prog w = .ok 1 w := by simp [sizeOf, typeInfo, hi0, hz1]
        rw [hsz5, hA2]
        simp [Result.andThen, sliced]
      have HCut := Lib.hid hcut
      clear hcut hA2
      have i0' : (0 : Int) < (r.length : Int) + 3 := by omega
      have i1' : (1 : Int) < (r.length : Int) + 3 := by omega
      have i2' : (2 : Int) < (r.length : Int) + 3 := by omega
      have i3' : (3 : Int) ≤ (r.length : Int) + 3 := by omega
      go_wp2_with fail
      go_region_law (first
        | (refine step_append_seg _ rfl _ _ _ rfl w.heap.size 5 i0 _ 1 Tryd.underlying25 hi0 hz0 hz1 hz2 rfl _ D.length _ rfl O2.out (some ⟨wr.heap.size, 0, none⟩) 4 4 (u8s (fourN x y z)) rfl rfl S2.out (u8s_one _) (by simp only [maxLen]; omega) (by omega) (by omega) ?_; intro v' w' hown' hb')
        | (go_simp; go_at_call 36; refine (hF _).mono ?_; rintro e w2 ⟨rfl, s2, b2⟩; have O2 := Lib.hid (own_bel (show wr.drew.ownsRow _ _ _ _ _ _ from HO.out) b2); have S2 := Lib.hid s2; have B2 := Lib.hid (HW.out.drew.trans (b2.mono (show w.heap.size ≤ wr.drew.heap.size from hsz))); have z2 := B2.out.size; clear s2 b2))
      all_goals (
        rw [← u8s_append] at hown'
        obtain ⟨A3, c3, rfl, hc3, _⟩ := own_shape hown'
        have O3 := Lib.hid hown'
        have B3 := Lib.hid (B2.out.trans hb')
        clear hown' hb'
        go_wp2_with fail
        go_roundw
        case rel =>
          refine ⟨r, D ++ fourN x y z, A2, c' - 3, rfl, by omega, by omega, HCut.out, fun a ha => HR.out a (by simp [ha]), ?_, ?_, B3.out⟩
          · rw [← HD.out]; simp [b64N]
          · rw [show (D ++ fourN x y z).length = D.length + 4 by simp [fourN]]; exact O3.out
        case measure => simp [lenOf])
    | [x, y] =>
      obtain ⟨b, off, rfl, hbl, hcells, _⟩ := (hS.bel HW.out).pick (k := 0) (by simp [u8s])
      have k0 := hcells 0 (by simp [u8s])
      have k1 := hcells 1 (by simp [u8s])
      simp [u8s] at k0 k1
      have l0 := HR.out x (by simp)
      have l1 := HR.out y (by simp)
      have hF := fun w => four_any x y 0 l0 l1 (by omega) w
      simp only [List.length_cons, List.length_nil, Nat.zero_add] at hRc hRn ⊢
      clear hS hcells
      have i0' : (0 : Int) < 2 := by omega
      have i1' : (1 : Int) < 2 := by omega
      go_wp2_with fail
      go_region_law (first
        | (refine step_append_seg _ rfl _ _ _ rfl w.heap.size 5 i0 _ 1 Tryd.underlying25 hi0 hz0 hz1 hz2 rfl _ D.length _ rfl O2.out (some ⟨wr.heap.size, 0, none⟩) 3 4 (u8s ((fourN x y 0).take 3)) rfl rfl S2.out (u8s_one _) (by simp only [maxLen]; omega) (by omega) (by omega) ?_; intro v' w' hown' hb')
        | (go_simp; go_at_call 36; refine (hF _).mono ?_; rintro e w2 ⟨rfl, s2, b2⟩; have O2 := Lib.hid (own_bel (show wr.drew.ownsRow _ _ _ _ _ _ from HO.out) b2); have S2 := Lib.hid (show Seg w2 (some ⟨wr.heap.size, 0, none⟩) (u8s ((fourN x y 0).take 3)) by
            rw [show u8s ((fourN x y 0).take 3) = (u8s (fourN x y 0)).take 3 by simp [u8s]]; exact s2.take 3); have B2 := Lib.hid (HW.out.drew.trans (b2.mono (show w.heap.size ≤ wr.drew.heap.size from hsz))); have z2 := B2.out.size; clear s2 b2))
      all_goals (
        rw [← u8s_append] at hown'
        obtain ⟨A3, c3, rfl, hc3, _⟩ := own_shape hown'
        have O3 := Lib.hid hown'
        have B3 := Lib.hid (B2.out.trans hb')
        have z3 := B3.out.size
        clear hown' hb'
        go_wp2_with (at_builtin; refine wpList_append_seg _ rfl _ _ _ rfl w.heap.size 5 i0 _ 1 Tryd.underlying25 hi0 hz0 hz1 hz2 rfl _ (D.length + 3) _ rfl (own_alloc O3.out _) (some ⟨w'.heap.size, 0, none⟩) 1 1 (u8s [61]) rfl rfl (seg_new _ _ _) (u8s_one _) (by simp only [maxLen]; omega) (by omega) (by simp only [World.size_alloc]; omega) ?_; intro v4 w4 hown4 hb4; rw [← u8s_append] at hown4; obtain ⟨A4, c4, rfl, hc4, s4⟩ := own_shape hown4; have B4 := Lib.hid ((B3.out.alloc z3 _).trans hb4); have hcv := run_txt w4 A4 (D.length + 3 + 1) c4 (D ++ (fourN x y 0).take 3 ++ [61]) (by simp [fourN]) s4 (by intro a ha; rw [List.append_assoc, show (fourN x y 0).take 3 ++ [61] = b64N [x, y] from rfl, HD.out] at ha; exact b64N_lt l a ha); clear hown4 hb4 s4)
        go_ret
        exact ⟨by rw [show b64N l = D ++ ((fourN x y 0).take 3 ++ [61]) from HD.out.symm]; rfl, B4.out⟩)
    | [x] =>
      obtain ⟨b, off, rfl, hbl, hcells, _⟩ := (hS.bel HW.out).pick (k := 0) (by simp [u8s])
      have k0 := hcells 0 (by simp [u8s])
      simp [u8s] at k0
      have l0 := HR.out x (by simp)
      have hF := fun w => four_any x 0 0 l0 (by omega) (by omega) w
      simp only [List.length_cons, List.length_nil, Nat.zero_add] at hRc hRn ⊢
      clear hS hcells
      go_wp2_with fail
      refine (hF _).mono ?_; rintro e w2 ⟨rfl, s2, b2⟩
      have O2 := Lib.hid (own_bel HO.out b2)
      have S2 := Lib.hid (show Seg w2 (some ⟨wr.heap.size, 0, none⟩) (u8s ((fourN x 0 0).take 2)) by
        rw [show u8s ((fourN x 0 0).take 2) = (u8s (fourN x 0 0)).take 2 by simp [u8s]]; exact s2.take 2)
      have B2 := Lib.hid (HW.out.trans (b2.mono hsz))
      have z2 := B2.out.size
      clear s2 b2
      go_wp2_with (at_builtin; first
        | (refine wpList_append_seg _ rfl _ _ _ rfl w.heap.size 5 i0 _ 1 Tryd.underlying25 hi0 hz0 hz1 hz2 rfl _ D.length _ rfl O2.out (some ⟨wr.heap.size, 0, none⟩) 2 4 (u8s ((fourN x 0 0).take 2)) rfl rfl S2.out (u8s_one _) (by simp only [maxLen]; omega) (by omega) (by omega) ?_; intro v' w' hown' hb'; rw [← u8s_append] at hown'; obtain ⟨A3, c3, rfl, hc3, _⟩ := own_shape hown'; have O3 := Lib.hid hown'; have B3 := Lib.hid (B2.out.trans hb'); have z3 := B3.out.size; clear hown' hb')
        | (refine Lib.wpList_append_own_string _ rfl _ _ _ _ rfl w.heap.size 5 i0 Tryd.underlying25 Tryd.underlying9 hi0 hz0 hz1 hz2 _ (D.length + 2) _ rfl O3.out { data := #[61, 61] } rfl (by simp only [maxLen]; show D.length + 2 + 2 ≤ _; omega) (by show D.length + 2 + 2 ≤ _; omega) z3 ?_; intro v4 w4 hown4 hg4 _; have B4 := Lib.hid (B3.out.grown hg4 z3 (fun k hk => (O3.out.lt k hk).1)); rw [show Lib.strCells { data := #[61, 61] } = u8s [61, 61] from rfl, ← u8s_append, show ({ data := #[61, 61] } : ByteArray).size = 2 from rfl] at hown4; obtain ⟨A4, c4, rfl, hc4, s4⟩ := own_shape hown4; have hcv := run_txt w4 A4 (D.length + 2 + 2) c4 (D ++ (fourN x 0 0).take 2 ++ [61, 61]) (by simp [fourN]) s4 (by intro a ha; rw [List.append_assoc, show (fourN x 0 0).take 2 ++ [61, 61] = b64N [x] from rfl, HD.out] at ha; exact b64N_lt l a ha); clear hown4 hg4 s4))
      go_ret
      exact ⟨by rw [show b64N l = D ++ ((fourN x 0 0).take 2 ++ [61, 61]) from HD.out.symm]; rfl, B4.out⟩
    | [] =>
      obtain ⟨A2, c2, h2, _, s2⟩ := own_shape HO.out
      obtain ⟨rfl, rfl⟩ : A2 = A1 ∧ c2 = c1 := by injection h2 with h2 h3 h4; exact ⟨h2.symm, h4.symm⟩
      have hcv := run_txt wr A2 D.length c2 D rfl s2 (by intro a ha; have := HD.out; simp only [b64N, List.append_nil] at this; rw [this] at ha; exact b64N_lt l a ha)
      simp only [List.length_nil] at hRc hRn ⊢
      clear s2 h2 hS
      go_wp2
      go_ret
      exact ⟨by rw [← HD.out]; simp [b64N], HW.out⟩
end Go.Proofs.YtnbhgjionpidnaaDoor
