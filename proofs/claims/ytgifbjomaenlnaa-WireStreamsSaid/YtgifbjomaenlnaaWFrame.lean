/- Frame, and the reference's: the body with its length ahead. Condition: the message's entries lie in memory. -/
import Derived.Test.YtgifbjomaenlnaaWAppF
import Derived.Test.YtgifbjomaenlnaaWREnc
import Derived.Test.YtgifbjomaenlnaaWRdF
namespace Go.Proofs.Ytgifbjomaenlnaa
open Go.RowKit

theorem make_two (w : World) : (Instr.makeSlice 26 (.int .i64 2) (.int .i64 2)).run Try.prog w = .ok (.slice (some ⟨w.heap.size, 0, none⟩) 2 2) (w.alloc (.cells #[.int .u8 0, .int .u8 0] 5)) := by
  obtain ⟨i0, hi0, hz0, hz1, hz2⟩ := info_parts info5
  have := run_make (P := Try.prog) w 26 5 i0 (.int .u8 0) Try.underlying26 hi0 hz0 .i64 .i64 2 2 (by omega) (by omega) (by rw [hz2]; omega) (by omega)
  rw [hz1, show Int.toNat 2 = 2 from rfl, show madeCells (Value.int IntKind.u8 0).cells (2 * 1) = #[.int .u8 0, .int .u8 0] by kernel_rfl] at this
  exact this
/-- A row of two that is full grows anew. -/
theorem two_grow {w : World} {g : Nat} (hbk : Bk w g 5 #[.int .u8 0, .int .u8 0]) : ∀ (W : World) (x : Int), Below w.heap.size w W → ∃ v1 w2, (Builtin.append_ #[26, 26] 26 #[.slice (some ⟨g, 0, none⟩) 2 2, .slice (some ⟨W.heap.size, 0, none⟩) 1 1]).run Try.prog (W.alloc (.cells #[.int .u8 x] 5)) = .ok v1 w2 ∧ w2.ownsRow (W.heap.size + 1) 5 1 v1 (([0, 0] : List Nat).length + 1) (u8s [0, 0] ++ [.int .u8 x]) ∧ Below (W.heap.size + 1) (W.alloc (.cells #[.int .u8 x] 5)) w2 := by
  intro W x hb
  obtain ⟨i0, hi0, hz0, hz1, hz2⟩ := info_parts info5
  obtain ⟨w1, hw1⟩ : ∃ w1, w1 = W.alloc (.cells #[.int .u8 x] 5) := ⟨_, rfl⟩
  have hs : w1.heap.size = W.heap.size + 1 := by rw [hw1]; simp
  have h2 : Bk w1 g 5 #[.int .u8 0, .int .u8 0] := by rw [hw1]; exact (hbk.bel hb).alloc _
  have h1 : Bk w1 W.heap.size 5 #[.int .u8 x] := by rw [hw1]; exact Bk.new W _ _
  rw [← hw1]
  have hadd : ∀ b j : Nat, ((⟨b, 0, none⟩ : Addr).add j) = ⟨b, j, none⟩ := fun b j => by unfold Addr.add; split <;> simp_all
  have hr := run_append_grow (P := Try.prog) w1 26 26 5 i0 (.int .u8 0) Try.underlying26 hi0 hz0 ⟨g, 0, none⟩ 2 2 [.int .u8 0, .int .u8 0] (by rw [hz1]; rfl) (fun j u hu => by rw [hadd, h2.cell j]; simpa using hu) ⟨W.heap.size, 0, none⟩ 1 1 [.int .u8 x] (by rw [hz1]; rfl) (fun j u hu => by rw [hadd, h1.cell j]; simpa using hu) (by omega) (by omega) (by rw [hz2]; decide)
  have hge := grownCap_ge w1 (2 + 1) 2 5
  have hcm := grownCap_le_maxLen w1 (2 + 1) 2 5 (by simp only [maxLen]; omega)
  refine ⟨_, _, hr, ⟨rfl, .inr ⟨w1.heap.size, _, _, rfl, by omega, heap_alloc_new w1.drew _, hge, hcm, ?_, ?_⟩⟩, ((Below.refl _ w1).drew.alloc (by show W.heap.size + 1 ≤ w1.heap.size; omega) _)⟩
  · simp only [Array.size_append, List.size_toArray, List.length_cons, List.length_nil, size_zeroCells]
    show 2 + 1 + _ * 1 = _ * 1
    omega
  · simp only [Array.toList_append, List.append_assoc]
    rfl
/-- Each operation's fact. -/
def frF (m : MsgM) (A : Option Addr) (n c base : Nat) (j : Nat) (v _u : Value) (w : World) : Prop := match j with
  | 0 => ∃ g, v = .slice (some ⟨g, 0, none⟩) 2 2 ∧ base ≤ g ∧ Bk w g 5 #[.int .u8 0, .int .u8 0]
  | 1 => v = .agg #[.int .i64 m.kind, .int .i64 m.n0, .int .i64 m.n1, .int .i64 m.n2, .int .i64 m.n3, .int .i64 m.n4, .int .i64 m.n5, .slice A n c, .bool m.ok, .int .i64 m.n6]
  | 2 => w.ownsRow base 5 1 v ([0, 0] ++ encN m).length (u8s ([0, 0] ++ encN m))
  | 3 => w.ownsRow base 5 1 v ([0, 0] ++ encN m).length (u8s ([0, 0] ++ encN m))
  | _ => True
theorem frF_bel {m : MsgM} {A : Option Addr} {n c base : Nat} {w w' : World} (hb : Below w.heap.size w w') : ∀ j v u, frF m A n c base j v u w → frF m A n c base j v u w' := by
  intro j v u h
  unfold frF at *
  split at h <;> first | exact h | exact own_belS h hb | (obtain ⟨g, h1, h2, h3⟩ := h; exact ⟨g, h1, h2, h3.bel hb⟩)
def frameN (m : MsgM) : List Nat := (encN m).length / 256 :: (encN m).length % 256 :: encN m
theorem encN_len {m : MsgM} (hc : checkN m = 0) : (encN m).length ≤ 900 := by
  obtain ⟨_, _, n8, e80⟩ := check_ok hc
  have h1 := entsN_len m.ents e80 m.ents.length (Nat.le_refl _)
  have h2 := numsN_len m 7
  unfold encN headN
  simp only [List.length_append, List.length_cons, List.length_nil]
  omega
set_option maxRecDepth 100000 in
set_option maxHeartbeats 4000000 in
theorem wframe_ok (m : MsgM) (A : Option Addr) (n c : Nat) (w : World) (h : Mg w m A n c) (hc : checkN m = 0) :
    Calls Try.prog 9 #[.agg (msgC m A n c)] w fun e w' => (∃ A2 c2, e = .returned (.tuple #[.slice A2 (frameN m).length c2, .int .i64 0]) ∧ (frameN m).length ≤ c2 ∧ Seg w' A2 (u8s (frameN m)) ∧ ∀ a, A2 = some a → w.heap.size ≤ a.block) ∧ Below w.heap.size w w' := by
  have hmk := make_two
  have B0 := (Below.refl w.heap.size w).alloc (Nat.le_refl _) (.cells (msgC m A n c) 24)
  have X0 := Bk.new w 24 (msgC m A n c)
  have H := Lib.hid h
  have HC := Lib.hid hc
  obtain ⟨w1, hw1⟩ : ∃ w1, w1 = w.alloc (.cells (msgC m A n c) 24) := ⟨_, rfl⟩
  rw [← hw1] at B0 X0
  have y0 : w1.cell? ⟨w.heap.size, 0, none⟩ = some (.int .i64 m.kind) := X0.cell 0
  have y1 : w1.cell? ⟨w.heap.size, 1, none⟩ = some (.int .i64 m.n0) := X0.cell 1
  have y2 : w1.cell? ⟨w.heap.size, 2, none⟩ = some (.int .i64 m.n1) := X0.cell 2
  have y3 : w1.cell? ⟨w.heap.size, 3, none⟩ = some (.int .i64 m.n2) := X0.cell 3
  have y4 : w1.cell? ⟨w.heap.size, 4, none⟩ = some (.int .i64 m.n3) := X0.cell 4
  have y5 : w1.cell? ⟨w.heap.size, 5, none⟩ = some (.int .i64 m.n4) := X0.cell 5
  have y6 : w1.cell? ⟨w.heap.size, 6, none⟩ = some (.int .i64 m.n5) := X0.cell 6
  have y7 : w1.cell? ⟨w.heap.size, 7, none⟩ = some (.slice A n c) := X0.cell 7
  have y8 : w1.cell? ⟨w.heap.size, 8, none⟩ = some (.bool m.ok) := X0.cell 8
  have y9 : w1.cell? ⟨w.heap.size, 9, none⟩ = some (.int .i64 m.n6) := X0.cell 9
  have C1 := check_any m A n c w1 (h.bel B0)
  rw [hc] at C1
  have C1 := Lib.hid C1
  have HW1 := Lib.hid hw1
  have HB0 := Lib.hid B0
  have HX0 := Lib.hid X0
  clear h hc B0 X0 hw1
  unfold msgC at C1 HW1 ⊢
  go_enter Try.func9, Try.ntmps9
  go_upto_region 1 with fail
  rw [← HW1.out]
  go_wp2_with fail
  refine C1.out.mono ?_
  rintro e W ⟨rfl, hb2⟩
  have HX := Lib.hid (HX0.out.bel hb2)
  have HB := Lib.hid (HB0.out.trans (hb2.mono HB0.out.size))
  have HLT := Lib.hid (Nat.lt_of_lt_of_le HX0.out.lt hb2.size)
  clear hb2 y0 y1 y2 y3 y4 y5 y6 y7 y8 y9 HX0 C1 HW1 HB0
  go_wp2_with fail
  go_upto_region 4 with fail
  refine wp_region_list [some 12, some 13, some 14, some 5] (fun _ => 0) (frF m A n c W.heap.size) (fun w' => Below W.heap.size W w') (by kernel_rfl) (Below.refl _ _).drew rfl (by kernel_rfl) (by kernel_rfl) (by kernel_rfl) (by kernel_rfl) (fun T hT => ?_)
  simp only [List.filterMap_cons, List.filterMap_nil, id, putsS, Act.put, List.setIfInBounds_toArray, List.set_cons_zero, List.set_cons_succ] at hT
  subst hT
  refine ⟨⟨?_, ?_, ?_, ?_, trivial⟩, ?_⟩
  · -- 0: Op.makeSlice 26 (const (2:i64)) (const (2:i64))
    refine StepL.act ?_
    intro f w1 hG hF K hK
    clear hF
    dsimp only at hK ⊢
    have hb := (Below.refl w1.heap.size w1).alloc (Nat.le_refl _) (.cells #[.int .u8 0, .int .u8 0] 5)
    go_simp
    exact hK.out _ _ (hG.alloc hG.size _) ⟨w1.heap.size, rfl, hG.size, Bk.new w1 _ _⟩ (fun j _ v u h => frF_bel hb j v u h)
  · -- 1: Op.load 24 t1
    refine StepL.act ?_
    intro f w1 hG hF K hK
    clear hF
    dsimp only at hK ⊢
    have y0 : w1.cell? ⟨w.heap.size, 0, none⟩ = some (.int .i64 m.kind) := (HX.out.bel hG).cell 0
    have y1 : w1.cell? ⟨w.heap.size, 1, none⟩ = some (.int .i64 m.n0) := (HX.out.bel hG).cell 1
    have y2 : w1.cell? ⟨w.heap.size, 2, none⟩ = some (.int .i64 m.n1) := (HX.out.bel hG).cell 2
    have y3 : w1.cell? ⟨w.heap.size, 3, none⟩ = some (.int .i64 m.n2) := (HX.out.bel hG).cell 3
    have y4 : w1.cell? ⟨w.heap.size, 4, none⟩ = some (.int .i64 m.n3) := (HX.out.bel hG).cell 4
    have y5 : w1.cell? ⟨w.heap.size, 5, none⟩ = some (.int .i64 m.n4) := (HX.out.bel hG).cell 5
    have y6 : w1.cell? ⟨w.heap.size, 6, none⟩ = some (.int .i64 m.n5) := (HX.out.bel hG).cell 6
    have y7 : w1.cell? ⟨w.heap.size, 7, none⟩ = some (.slice A n c) := (HX.out.bel hG).cell 7
    have y8 : w1.cell? ⟨w.heap.size, 8, none⟩ = some (.bool m.ok) := (HX.out.bel hG).cell 8
    have y9 : w1.cell? ⟨w.heap.size, 9, none⟩ = some (.int .i64 m.n6) := (HX.out.bel hG).cell 9
    go_simp
    exact hK.out _ _ hG rfl (fun _ _ _ _ h => h)
  · -- 2: Op.call ( value (Operand.func 22), args := #[t12, t13], argT
    refine StepL.act ?_
    intro f w1 hG hF K hK
    have d0 : (frF m A n c W.heap.size) 0 (f 12) (f 0) w1 := hF 0 (by kernel_rfl)
    have d1 : (frF m A n c W.heap.size) 1 (f 13) (f 0) w1 := hF 1 (by kernel_rfl)
    clear hF
    dsimp only at hK ⊢
    generalize hf12 : f 12 = v12 at *
    generalize hf13 : f 13 = v13 at *
    have e1 : v13 = .agg #[.int .i64 m.kind, .int .i64 m.n0, .int .i64 m.n1, .int .i64 m.n2, .int .i64 m.n3, .int .i64 m.n4, .int .i64 m.n5, .slice A n c, .bool m.ok, .int .i64 m.n6] := d1
    subst e1
    obtain ⟨g, rfl, hg, hbk⟩ := d0
    have C := bodyf_any m A n c w1 (H.out.bel (HB.out.trans (hG.mono HB.out.size))) HC.out (.slice (some ⟨g, 0, none⟩) 2 2) [0, 0] (by decide) (two_grow hbk)
    unfold msgC at C
    go_simp
    refine C.mono ?_
    rintro e w20 ⟨v, rfl, hown, hb⟩
    exact hK.out _ _ (hG.trans (hb.mono hG.size)) (own_base hown (by have := hG.size; omega)) (fun j _ v u h => frF_bel hb j v u h)
  · -- 3: Op.assign t14
    refine StepL.act ?_
    intro f w1 hG hF K hK
    have d2 : (frF m A n c W.heap.size) 2 (f 14) (f 0) w1 := hF 2 (by kernel_rfl)
    clear hF
    dsimp only at hK ⊢
    generalize hf14 : f 14 = v14 at *
    have e2 : w1.ownsRow W.heap.size 5 1 v14 ([0, 0] ++ encN m).length (u8s ([0, 0] ++ encN m)) := d2
    go_simp
    exact hK.out _ _ hG e2 (fun _ _ _ _ h => h)
  intro f w6 hG hF
  have e3 : w6.ownsRow W.heap.size 5 1 (f 5) ([0, 0] ++ encN m).length (u8s ([0, 0] ++ encN m)) := hF 3 (by decide)
  clear hF
  dsimp only
  generalize f 12 = v12
  generalize f 13 = v13
  generalize f 14 = v14
  generalize f 5 = v5 at *
  obtain ⟨en, hen⟩ : ∃ en, en = (encN m).length := ⟨_, rfl⟩
  have hlen : ([0, 0] ++ encN m).length = en + 2 := by rw [hen]; simp
  have hen9 : en ≤ 900 := by rw [hen]; exact encN_len HC.out
  rw [hlen] at e3
  obtain ⟨g, cap, cur, rfl, hbg, hcell, hnc, _, hcs, htk⟩ : ∃ g cap cur, v5 = .slice (some ⟨g, 0, none⟩) (en + 2) cap ∧ W.heap.size ≤ g ∧ w6.heap[g]? = some (.cells cur 5 (0, 0)) ∧ en + 2 ≤ cap ∧ cap ≤ maxLen ∧ cur.size = cap * 1 ∧ cur.toList.take ((en + 2) * 1) = u8s ([0, 0] ++ encN m) := by
    rcases e3.2 with ⟨h, h0⟩ | h
    · omega
    · exact h
  have hbk : Bk w6 g 5 cur := hcell
  have hget : ∀ i, i < en + 2 → cur[i]? = (u8s ([0, 0] ++ encN m))[i]? := fun i hi => by
    rw [← htk, Nat.mul_one, List.getElem?_take, if_pos hi, Array.getElem?_toList]
  have t0 : w6.cell? ⟨g, 0, none⟩ = some (.int .u8 0) := by rw [hbk.cell 0, hget 0 (by omega)]; rfl
  have t1 : w6.cell? ⟨g, 1, none⟩ = some (.int .u8 0) := by rw [hbk.cell 1, hget 1 (by omega)]; rfl
  have f0 := hbk.frozen 0
  have f1 := hbk.frozen 1
  obtain ⟨hi, hhi⟩ : ∃ hi, hi = en / 256 := ⟨_, rfl⟩
  obtain ⟨lo, hlo⟩ : ∃ lo, lo = en % 256 := ⟨_, rfl⟩
  have HFIN := Lib.hid (show ∀ wf, (w6.setCell ⟨g, 0, none⟩ (.int .u8 (hi : Int))).setCell ⟨g, 1, none⟩ (.int .u8 (lo : Int)) = wf → Seg wf (some ⟨g, 0, none⟩) (u8s (frameN m)) ∧ Below w.heap.size w wf from fun wf hw => by
    subst hw
    refine ⟨Seg.of_block ((hbk.put 0 _).put 1 _) (fun i hi => ?_), ((HB.out.trans (hG.mono HB.out.size)).setCell (p := ⟨g, 0, none⟩) (by have := HLT.out; show w.heap.size ≤ g; omega) _).setCell (p := ⟨g, 1, none⟩) (by have := HLT.out; show w.heap.size ≤ g; omega) _⟩
    rw [u8s_length] at hi
    have hi2 : i < en + 2 := by rw [hen]; simpa [frameN] using hi
    have h1 := hget i hi2
    match i with
    | 0 => rw [Array.getElem?_setIfInBounds_ne (by omega), Array.getElem?_setIfInBounds_self_of_lt (by omega), hhi, hen]; rfl
    | 1 => rw [Array.getElem?_setIfInBounds_self_of_lt (by simp; omega), hlo, hen]; rfl
    | i + 2 =>
      rw [Array.getElem?_setIfInBounds_ne (by omega), Array.getElem?_setIfInBounds_ne (by omega), h1]
      rfl)
  have HLF := Lib.hid (show (frameN m).length = en + 2 by rw [hen]; rfl)
  have HCAP := Lib.hid hnc
  have HG := Lib.hid (show w.heap.size ≤ g by have := HLT.out; omega)
  have i9 : (en : Int) / 256 = (hi : Int) := by omega
  have i8 : (en : Int) % 256 = (lo : Int) := by omega
  have i6 : hi < 256 := by omega
  have i5 : (hi : Int) % 256 = (hi : Int) := by omega
  clear hhi hlo
  clear hlen hen e3 hcell hcs htk hbk hget hG hbg hnc
  go_wp2_with fail
  generalize hwf : (w6.setCell ⟨g, 0, none⟩ (.int .u8 (hi : Int))).setCell ⟨g, 1, none⟩ (.int .u8 (lo : Int)) = wf
  obtain ⟨g1, g2⟩ := HFIN.out wf hwf
  refine bodyPost_ret (v := .tuple #[.slice (some ⟨g, 0, none⟩) (en + 2) cap, .int .i64 0]) (by simp [results, Try.results9, go_sem]) rfl ⟨?_, g2⟩
  rw [HLF.out]
  exact ⟨some ⟨g, 0, none⟩, cap, rfl, HCAP.out, g1, fun a e => by injection e with e; subst e; exact HG.out⟩
set_option maxRecDepth 100000 in
theorem wframe_no (m : MsgM) (A : Option Addr) (n c : Nat) (w : World) (h : Mg w m A n c) (hc : checkN m ≠ 0) :
    Calls Try.prog 9 #[.agg (msgC m A n c)] w fun e w' => e = .returned (.tuple #[.slice none 0 0, .int .i64 (checkN m : Nat)]) ∧ Below w.heap.size w w' := by
  have B0 := (Below.refl w.heap.size w).alloc (Nat.le_refl _) (.cells (msgC m A n c) 24)
  have X0 := Bk.new w 24 (msgC m A n c)
  obtain ⟨w1, hw1⟩ : ∃ w1, w1 = w.alloc (.cells (msgC m A n c) 24) := ⟨_, rfl⟩
  rw [← hw1] at B0 X0
  have y0 : w1.cell? ⟨w.heap.size, 0, none⟩ = some (.int .i64 m.kind) := X0.cell 0
  have y1 : w1.cell? ⟨w.heap.size, 1, none⟩ = some (.int .i64 m.n0) := X0.cell 1
  have y2 : w1.cell? ⟨w.heap.size, 2, none⟩ = some (.int .i64 m.n1) := X0.cell 2
  have y3 : w1.cell? ⟨w.heap.size, 3, none⟩ = some (.int .i64 m.n2) := X0.cell 3
  have y4 : w1.cell? ⟨w.heap.size, 4, none⟩ = some (.int .i64 m.n3) := X0.cell 4
  have y5 : w1.cell? ⟨w.heap.size, 5, none⟩ = some (.int .i64 m.n4) := X0.cell 5
  have y6 : w1.cell? ⟨w.heap.size, 6, none⟩ = some (.int .i64 m.n5) := X0.cell 6
  have y7 : w1.cell? ⟨w.heap.size, 7, none⟩ = some (.slice A n c) := X0.cell 7
  have y8 : w1.cell? ⟨w.heap.size, 8, none⟩ = some (.bool m.ok) := X0.cell 8
  have y9 : w1.cell? ⟨w.heap.size, 9, none⟩ = some (.int .i64 m.n6) := X0.cell 9
  have C1 := check_any m A n c w1 (h.bel B0)
  obtain ⟨K, hK⟩ : ∃ K, K = checkN m := ⟨_, rfl⟩
  rw [← hK] at hc C1 ⊢
  have hk : ((K : Int) != 0) = true := by rw [bne_iff_ne]; omega
  have C1 := Lib.hid C1
  have HW1 := Lib.hid hw1
  have HB0 := Lib.hid B0
  clear h B0 X0 hw1 hK
  unfold msgC at C1 HW1 ⊢
  go_enter Try.func9, Try.ntmps9
  go_upto_region 1 with fail
  rw [← HW1.out]
  go_wp2_with fail
  refine C1.out.mono ?_
  rintro e w2 ⟨rfl, hb2⟩
  have HB2 := Lib.hid (HB0.out.trans (hb2.mono HB0.out.size))
  clear hb2 y0 y1 y2 y3 y4 y5 y6 y7 y8 y9 C1
  go_wp2_with fail
  refine bodyPost_ret (v := .tuple #[.slice none 0 0, .int .i64 (K : Nat)]) (by simp [results, Try.results9, go_sem]) rfl ⟨rfl, HB2.out⟩
set_option maxRecDepth 100000 in
theorem rframe_any (m : MsgM) (A : Option Addr) (n c : Nat) (w : World) (h : Mg w m A n c) (hc : checkN m = 0) :
    Calls Try.prog 16 #[.agg (msgC m A n c)] w fun e w' => (∃ A2 c2, e = .returned (.slice A2 (frameN m).length c2) ∧ (frameN m).length ≤ c2 ∧ Seg w' A2 (u8s (frameN m))) ∧ Below w.heap.size w w' := by
  obtain ⟨i0, hi0, hz0, hz1, hz2⟩ := info_parts info5
  have B0 := (Below.refl w.heap.size w).alloc (Nat.le_refl _) (.cells (msgC m A n c) 24)
  have X0 := Bk.new w 24 (msgC m A n c)
  obtain ⟨w1, hw1⟩ : ∃ w1, w1 = w.alloc (.cells (msgC m A n c) 24) := ⟨_, rfl⟩
  rw [← hw1] at B0 X0
  have y0 : w1.cell? ⟨w.heap.size, 0, none⟩ = some (.int .i64 m.kind) := X0.cell 0
  have y1 : w1.cell? ⟨w.heap.size, 1, none⟩ = some (.int .i64 m.n0) := X0.cell 1
  have y2 : w1.cell? ⟨w.heap.size, 2, none⟩ = some (.int .i64 m.n1) := X0.cell 2
  have y3 : w1.cell? ⟨w.heap.size, 3, none⟩ = some (.int .i64 m.n2) := X0.cell 3
  have y4 : w1.cell? ⟨w.heap.size, 4, none⟩ = some (.int .i64 m.n3) := X0.cell 4
  have y5 : w1.cell? ⟨w.heap.size, 5, none⟩ = some (.int .i64 m.n4) := X0.cell 5
  have y6 : w1.cell? ⟨w.heap.size, 6, none⟩ = some (.int .i64 m.n5) := X0.cell 6
  have y7 : w1.cell? ⟨w.heap.size, 7, none⟩ = some (.slice A n c) := X0.cell 7
  have y8 : w1.cell? ⟨w.heap.size, 8, none⟩ = some (.bool m.ok) := X0.cell 8
  have y9 : w1.cell? ⟨w.heap.size, 9, none⟩ = some (.int .i64 m.n6) := X0.cell 9
  have C1 := renc_any m A n c w1 (h.bel B0) hc
  have hen9 := encN_len hc
  obtain ⟨en, hen⟩ : ∃ en, en = (encN m).length := ⟨_, rfl⟩
  rw [← hen] at C1 hen9
  obtain ⟨hi, hhi⟩ : ∃ hi, hi = en / 256 := ⟨_, rfl⟩
  obtain ⟨lo, hlo⟩ : ∃ lo, lo = en % 256 := ⟨_, rfl⟩
  have HFN := Lib.hid (show frameN m = [hi, lo] ++ encN m by unfold frameN; rw [hhi, hlo, hen]; rfl)
  have HLF := Lib.hid (show (frameN m).length = 2 + en by unfold frameN; rw [hen]; simp; omega)
  have HEN := Lib.hid hen
  have i9 : (en : Int) / 256 = (hi : Int) := by omega
  have i8 : (en : Int) % 256 = (lo : Int) := by omega
  have i6 : hi < 256 := by omega
  have i4 : lo < 256 := by omega
  have i5 : (hi : Int) % 256 = (hi : Int) := by omega
  have i7 : (lo : Int) % 256 = (lo : Int) := by omega
  have C1 := Lib.hid C1
  have HW1 := Lib.hid hw1
  have HB0 := Lib.hid B0
  clear h B0 X0 hw1 hc hhi hlo hen
  unfold msgC at C1 HW1 ⊢
  go_enter Try.func16, Try.ntmps16
  go_upto_region 1 with fail
  rw [← HW1.out]
  go_wp2_with fail
  refine C1.out.mono ?_
  rintro e w2 ⟨⟨A2, c2, rfl, hc2, hs2, _⟩, hb2⟩
  have HB2 := Lib.hid (HB0.out.trans (hb2.mono HB0.out.size))
  have HS2 := Lib.hid hs2
  clear hb2 y0 y1 y2 y3 y4 y5 y6 y7 y8 y9 C1 hs2
  go_wp2_with (at_builtin; refine wpList_append_seg _ rfl (.tmp 14) (.tmp 15) _ rfl w2.heap.size 5 i0 _ 1 Try.underlying26 hi0 hz0 hz1 hz2 rfl _ 2 _ rfl (World.ownsRow_lit w2 #[.int .u8 (hi : Int), .int .u8 (lo : Int)] 2 (by omega) (by decide) rfl) A2 en c2 (u8s (encN m)) rfl (by rw [u8s_length, ← HEN.out]) (HS2.out.bel ((Below.refl _ _).alloc (Nat.le_refl _) _)) (u8s_one _) (by simp only [maxLen]; omega) (by omega) (by simp only [World.size_alloc]; omega) ?_; intro v3 w3 hown3 hb3)
  obtain ⟨A3, c3, rfl, hc3, s3⟩ := own_shape hown3
  have HB3 := Lib.hid (HB2.out.trans ((((Below.refl w2.heap.size w2).alloc (Nat.le_refl _) (.cells #[.int .u8 (hi : Int), .int .u8 (lo : Int)] 5)).trans hb3).mono HB2.out.size))
  have HS3 := Lib.hid (show Seg w3 A3 (u8s (frameN m)) by rw [HFN.out, ← u8s_append]; exact s3)
  have HC3 := Lib.hid hc3
  clear hown3 hb3 s3 hc3
  go_wp2_with fail
  go_ret
  rw [HLF.out]
  exact ⟨⟨A3, c3, rfl, HC3.out, HS3.out⟩, HB3.out⟩
end Go.Proofs.Ytgifbjomaenlnaa
