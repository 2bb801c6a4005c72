/- few: a message of at most twenty entries, with copies of them. Condition: the message's entries lie in memory. -/
import Derived.Test.YtgifbjomaenlnaaWBody
namespace Go.Proofs.Ytgifbjomaenlnaa
open Go.RowKit

def fewM (m : MsgM) : MsgM := { m with ents := m.ents.take 20 }
theorem fewM_two (m : MsgM) : fewM (fewM m) = fewM m := by
  unfold fewM
  simp [List.take_take]
theorem entV_take : ∀ (l : List (Int × ByteArray)) (k : Nat), (entV l).take (k * 2) = entV (l.take k)
  | [], k => by simp [entV]
  | e :: l, 0 => by simp [entV]
  | e :: l, k + 1 => by
    rw [show (k + 1) * 2 = k * 2 + 1 + 1 by omega]
    simp only [entV, List.take_succ_cons]
    rw [entV_take l k]
theorem entV_one (l : List (Int × ByteArray)) : ∀ u ∈ entV l, u.oneCell' = true := by
  induction l with
  | nil => intro u hu; cases hu
  | cons e l ih =>
    intro u hu
    rcases List.mem_cons.1 hu with rfl | hu
    · rfl
    · rcases List.mem_cons.1 hu with rfl | hu
      · rfl
      · exact ih u hu
/-- Entries put behind a row of one's own that is empty. -/
theorem append_ents (l : List (Int × ByteArray)) (A : Option Addr) (k c : Nat) (w : World) (base : Nat) (hk : k = l.length) (hs : Seg w A (entV l)) (hz : k ≤ 5864062014805) (g : Nat) (_hg : g < w.heap.size) (hown : w.ownsRow base 54 2 (.slice (some ⟨g, 0, none⟩) 0 0) 0 []) (hbase : base ≤ w.heap.size) :
    ∃ v' w', (Builtin.append_ #[22, 22] 22 #[.slice (some ⟨g, 0, none⟩) 0 0, .slice A k c]).run Try.prog w = .ok v' w' ∧ w'.ownsRow base 54 2 v' k (entV l) ∧ Below base w w' := by
  obtain ⟨j0, hj0, hj1, hj2, hj3⟩ := info_parts info_ent
  rcases l with _ | ⟨e, l⟩
  · obtain rfl : k = 0 := hk
    exact ⟨_, w, run_append_none (P := Try.prog) w base 22 22 54 j0 Try.underlying22 hj0 _ 0 2 [] hown A c, hown, Below.refl _ _⟩
  · obtain ⟨b, off, rfl, hl, hc⟩ := hs (by simp [entV])
    have hlen := entV_length (e :: l)
    obtain ⟨v', w', hrun, hown', hgr, _, _⟩ := run_append_own_at (P := Try.prog) (w := w) base 22 22 54 j0 _ 2 24 Try.underlying22 hj0 hj1 hj2 hj3 rfl (by decide) (.slice (some ⟨g, 0, none⟩) 0 0) 0 [] hown ⟨b, off, none⟩ k c (entV (e :: l)) (by rw [hlen, hk]) (fun j u hu => by
      have hj : j < (entV (e :: l)).length := by
        rcases Nat.lt_or_ge j (entV (e :: l)).length with h | h
        · exact h
        · rw [List.getElem?_eq_none h] at hu; cases hu
      rw [show ((⟨b, off, none⟩ : Addr).add j) = ⟨b, off + j, none⟩ by unfold Addr.add; split <;> simp_all, hc j hj]
      exact hu) (entV_one _) (by simp only [maxLen]; omega) (by omega) hbase
    rw [Nat.zero_add, List.nil_append] at hown'
    exact ⟨v', w', hrun, hown', (Below.refl base w).grown hgr hbase (fun j e => (hown.lt j e).1)⟩
set_option maxRecDepth 100000 in
set_option maxHeartbeats 2000000 in
theorem few_any (m : MsgM) (A : Option Addr) (n c : Nat) (w : World) (h : Mg w m A n c) :
    Calls Try.prog 7 #[.agg (msgC m A n c)] w fun e w' => (∃ A' c', e = .returned (.agg (msgC (fewM m) A' (fewM m).ents.length c')) ∧ Mg w' (fewM m) A' (fewM m).ents.length c' ∧ ∀ a, A' = some a → w.heap.size ≤ a.block) ∧ Below w.heap.size w w' := by
  obtain ⟨wa, hwa⟩ : ∃ wa, wa = w.alloc (.cells (msgC m A n c) 24) := ⟨_, rfl⟩
  have hsa : wa.heap.size = w.heap.size + 1 := by rw [hwa]; simp
  obtain ⟨wb, hwb⟩ : ∃ wb, wb = wa.alloc (.cells zMsg 24) := ⟨_, rfl⟩
  have hsb : wb.heap.size = w.heap.size + 2 := by rw [hwb]; simp [hsa]
  have HX1 := Lib.hid (show Bk wb w.heap.size 24 (msgC m A n c) by rw [hwb, hwa]; exact (Bk.new w _ _).alloc _)
  have HR1 := Lib.hid (show Bk wb (w.heap.size + 1) 24 zMsg by rw [hwb, ← hsa]; exact Bk.new wa _ _)
  have HB1 := Lib.hid (show Below w.heap.size w wb by rw [hwb, hwa]; exact ((Below.refl _ _).alloc (Nat.le_refl _) _).alloc (by simp) _)
  have H := Lib.hid h
  have HWA := Lib.hid hwa
  have HWB := Lib.hid hwb
  have HSB := Lib.hid hsb
  have hne := h.en
  have hbn := h.bn
  have hnc := h.nc
  have HML := Lib.hid (show n = m.ents.length from hne)
  have p7 : wb.cell? ⟨w.heap.size, 7, none⟩ = some (.slice A n c) := HX1.out.cell 7
  have r7 := HX1.out.frozen 7
  clear h hwa hwb hsa hsb hne
  unfold msgC zMsg at *
  by_cases h20 : 20 < n
  · have i1 : (20 : Int) < (n : Int) := by omega
    have i2 : (20 : Int) ≤ (c : Int) := by omega
    go_enter Try.func7, Try.ntmps7
    go_upto_region 1 with fail
    rw [← HWA.out, ← HWB.out]
    go_upto_region 3 with fail
    have HAB := Lib.hid (show ∀ a, A = some a → a.block ≠ w.heap.size by
      obtain ⟨b, off, rfl, hbl, _⟩ := H.out.es (by
        intro e0
        have := entV_length m.ents
        rw [e0, ← HML.out] at this
        simp only [List.length_nil] at this
        omega)
      intro a e
      injection e with e
      subst e
      show b ≠ _
      omega)
    have HSW3 := Lib.hid (show ∀ W3, wb.setCell ⟨w.heap.size, 7, none⟩ (.slice A 20 c) = W3 → Bk W3 w.heap.size 24 #[.int .i64 m.kind, .int .i64 m.n0, .int .i64 m.n1, .int .i64 m.n2, .int .i64 m.n3, .int .i64 m.n4, .int .i64 m.n5, .slice A 20 c, .bool m.ok, .int .i64 m.n6] ∧ Bk W3 (w.heap.size + 1) 24 zMsg ∧ Below w.heap.size w W3 ∧ W3.heap.size = w.heap.size + 2 ∧ Seg W3 A (entV (m.ents.take 20)) from fun W3 hW => by
      have hE : ∀ e ∈ m.ents, inI e.1 ∧ e.2.size ≤ 140737488355328 := H.out.be
      subst hW
      refine ⟨HX1.out.put 7 (.slice A 20 c), HR1.out.far (p := ⟨w.heap.size, 7, none⟩) (by simp) _, HB1.out.setCell (p := ⟨w.heap.size, 7, none⟩) (Nat.le_refl _) _, by rw [← HSB.out]; simp, ?_⟩
      rw [← entV_take]
      exact (((H.out.es.bel HB1.out).kept (Kept1.set wb w.heap.size 7 _) (fun a e => HAB.out a e)).take 40))
    generalize hW3 : wb.setCell ⟨w.heap.size, 7, none⟩ (.slice A 20 c) = W3
    obtain ⟨X3, R3, B3, Z3, S3⟩ := HSW3.out W3 hW3
    have HX3 := Lib.hid X3
    have HR3 := Lib.hid R3
    have HB3 := Lib.hid B3
    have HSZ3 := Lib.hid Z3
    have HS3 := Lib.hid S3
    clear hW3 HSW3 X3 R3 B3 Z3 S3 p7 r7 HWA HWB
    have HK3 := Lib.hid (show 20 = (m.ents.take 20).length by rw [List.length_take, ← HML.out]; omega)
    have HKK := Lib.hid (show (fewM m).ents.length = 20 from HK3.out.symm)
    obtain ⟨v5, w5, hrun, hown5, hb5⟩ := append_ents (m.ents.take 20) A 20 c (W3.alloc (.cells #[] 54)) (w.heap.size + 2) HK3.out (HS3.out.bel ((Below.refl _ _).alloc (Nat.le_refl _) _)) (by omega) W3.heap.size (by simp) (World.ownsRow_lit W3 #[] 0 (by have := HSZ3.out; omega) (by decide) rfl) (by have := HSZ3.out; simp; omega)
    obtain ⟨A5, c5, rfl, hc5, hs5, hf5⟩ := rowz_shape hown5
    have HRUN := Lib.hid hrun
    have HS5 := Lib.hid hs5
    have HF5 := Lib.hid hf5
    have HC5 := Lib.hid hc5
    have hb5' : Below (w.heap.size + 2) W3 w5 := ((Below.refl _ _).alloc (by have := HSZ3.out; omega) _).trans hb5
    have HX5 := Lib.hid (HX3.out.below hb5' (by omega))
    have HR5 := Lib.hid (HR3.out.below hb5' (by omega))
    have HB5 := Lib.hid (HB3.out.trans (hb5'.mono (by omega)))
    have q7 : w5.cell? ⟨w.heap.size, 7, none⟩ = some (.slice A 20 c) := HX5.out.cell 7
    have r7 := HX5.out.frozen 7
    have p7 : W3.cell? ⟨w.heap.size, 7, none⟩ = some (.slice A 20 c) := HX3.out.cell 7
    clear hrun hs5 hf5 hc5 hown5 hb5 hb5'
    have p7' : (W3.alloc (.cells #[] 54)).cell? ⟨w.heap.size, 7, none⟩ = some (.slice A 20 c) := (HX3.out.alloc _).cell 7
    go_upto_region 4 with (at_builtin; refine Lib.wpList_append_run _ rfl (.tmp 11) (.tmp 13) _ _ rfl _ _ rfl rfl _ _ HRUN.out ?_)
    have X6 := HX5.out.put 7 (.slice A5 20 c5)
    have R6 := HR5.out.far (p := ⟨w.heap.size, 7, none⟩) (by simp) (.slice A5 20 c5)
    have B6 := HB5.out.setCell (p := ⟨w.heap.size, 7, none⟩) (Nat.le_refl _) (.slice A5 20 c5)
    have S6 := HS5.out.kept (Kept1.set w5 w.heap.size 7 (.slice A5 20 c5)) (fun a e => by have := HF5.out a e; omega)
    have HSW := Lib.hid (show ∀ W6, w5.setCell ⟨w.heap.size, 7, none⟩ (.slice A5 20 c5) = W6 → Bk W6 w.heap.size 24 #[.int .i64 m.kind, .int .i64 m.n0, .int .i64 m.n1, .int .i64 m.n2, .int .i64 m.n3, .int .i64 m.n4, .int .i64 m.n5, .slice A5 20 c5, .bool m.ok, .int .i64 m.n6] ∧ Bk W6 (w.heap.size + 1) 24 zMsg ∧ Below w.heap.size w W6 ∧ Seg W6 A5 (entV (m.ents.take 20)) from fun W6 hW => by
      subst hW
      exact ⟨X6, R6, B6, S6⟩)
    clear X6 R6 B6 S6
    generalize hW6 : w5.setCell ⟨w.heap.size, 7, none⟩ (.slice A5 20 c5) = W6
    obtain ⟨X6, R6, B6, S6⟩ := HSW.out W6 hW6
    clear hW6 HSW p7 p7' q7 r7
    have y0 : W6.cell? ⟨w.heap.size, 0, none⟩ = some (.int .i64 m.kind) := X6.cell 0
    have y1 : W6.cell? ⟨w.heap.size, 1, none⟩ = some (.int .i64 m.n0) := X6.cell 1
    have y2 : W6.cell? ⟨w.heap.size, 2, none⟩ = some (.int .i64 m.n1) := X6.cell 2
    have y3 : W6.cell? ⟨w.heap.size, 3, none⟩ = some (.int .i64 m.n2) := X6.cell 3
    have y4 : W6.cell? ⟨w.heap.size, 4, none⟩ = some (.int .i64 m.n3) := X6.cell 4
    have y5 : W6.cell? ⟨w.heap.size, 5, none⟩ = some (.int .i64 m.n4) := X6.cell 5
    have y6 : W6.cell? ⟨w.heap.size, 6, none⟩ = some (.int .i64 m.n5) := X6.cell 6
    have y7 : W6.cell? ⟨w.heap.size, 7, none⟩ = some (.slice A5 20 c5) := X6.cell 7
    have y8 : W6.cell? ⟨w.heap.size, 8, none⟩ = some (.bool m.ok) := X6.cell 8
    have y9 : W6.cell? ⟨w.heap.size, 9, none⟩ = some (.int .i64 m.n6) := X6.cell 9
    have t0 : W6.cell? ⟨w.heap.size + 1, 0, none⟩ = some (.int .i64 0) := R6.cell 0
    have t1 : W6.cell? ⟨w.heap.size + 1, 1, none⟩ = some (.int .i64 0) := R6.cell 1
    have t2 : W6.cell? ⟨w.heap.size + 1, 2, none⟩ = some (.int .i64 0) := R6.cell 2
    have t3 : W6.cell? ⟨w.heap.size + 1, 3, none⟩ = some (.int .i64 0) := R6.cell 3
    have t4 : W6.cell? ⟨w.heap.size + 1, 4, none⟩ = some (.int .i64 0) := R6.cell 4
    have t5 : W6.cell? ⟨w.heap.size + 1, 5, none⟩ = some (.int .i64 0) := R6.cell 5
    have t6 : W6.cell? ⟨w.heap.size + 1, 6, none⟩ = some (.int .i64 0) := R6.cell 6
    have t7 : W6.cell? ⟨w.heap.size + 1, 7, none⟩ = some (.slice none 0 0) := R6.cell 7
    have t8 : W6.cell? ⟨w.heap.size + 1, 8, none⟩ = some (.bool false) := R6.cell 8
    have t9 : W6.cell? ⟨w.heap.size + 1, 9, none⟩ = some (.int .i64 0) := R6.cell 9
    have z0 := R6.frozen 0
    have z1 := R6.frozen 1
    have z2 := R6.frozen 2
    have z3 := R6.frozen 3
    have z4 := R6.frozen 4
    have z5 := R6.frozen 5
    have z6 := R6.frozen 6
    have z7 := R6.frozen 7
    have z8 := R6.frozen 8
    have z9 := R6.frozen 9
    have HSET := Lib.hid (set_msg (g := w.heap.size + 1) (by omega) B6 R6 (.int .i64 m.kind) (.int .i64 m.n0) (.int .i64 m.n1) (.int .i64 m.n2) (.int .i64 m.n3) (.int .i64 m.n4) (.int .i64 m.n5) (.slice A5 20 c5) (.bool m.ok) (.int .i64 m.n6))
    have HS6 := Lib.hid S6
    clear X6 R6 B6 S6
    go_wp2_with fail
    generalize hwf : ((((((((((W6.setCell ⟨w.heap.size + 1, 0, none⟩ (.int .i64 m.kind)).setCell ⟨w.heap.size + 1, 1, none⟩ (.int .i64 m.n0)).setCell ⟨w.heap.size + 1, 2, none⟩ (.int .i64 m.n1)).setCell ⟨w.heap.size + 1, 3, none⟩ (.int .i64 m.n2)).setCell ⟨w.heap.size + 1, 4, none⟩ (.int .i64 m.n3)).setCell ⟨w.heap.size + 1, 5, none⟩ (.int .i64 m.n4)).setCell ⟨w.heap.size + 1, 6, none⟩ (.int .i64 m.n5)).setCell ⟨w.heap.size + 1, 7, none⟩ (.slice A5 20 c5)).setCell ⟨w.heap.size + 1, 8, none⟩ (.bool m.ok)).setCell ⟨w.heap.size + 1, 9, none⟩ (.int .i64 m.n6)) = wf
    obtain ⟨g1, g2, g3⟩ := HSET.out wf hwf
    have HS7 := Lib.hid (HS6.out.kept g3 (fun a e => by have := HF5.out a e; omega))
    have HG1 := Lib.hid g1
    clear hwf HSET y0 y1 y2 y3 y4 y5 y6 y7 y8 y9 t0 t1 t2 t3 t4 t5 t6 t7 t8 t9 z0 z1 z2 z3 z4 z5 z6 z7 z8 z9 g1 g3
    have s0 : wf.cell? ⟨w.heap.size + 1, 0, none⟩ = some (.int .i64 m.kind) := g2.cell 0
    have s1 : wf.cell? ⟨w.heap.size + 1, 1, none⟩ = some (.int .i64 m.n0) := g2.cell 1
    have s2 : wf.cell? ⟨w.heap.size + 1, 2, none⟩ = some (.int .i64 m.n1) := g2.cell 2
    have s3 : wf.cell? ⟨w.heap.size + 1, 3, none⟩ = some (.int .i64 m.n2) := g2.cell 3
    have s4 : wf.cell? ⟨w.heap.size + 1, 4, none⟩ = some (.int .i64 m.n3) := g2.cell 4
    have s5 : wf.cell? ⟨w.heap.size + 1, 5, none⟩ = some (.int .i64 m.n4) := g2.cell 5
    have s6 : wf.cell? ⟨w.heap.size + 1, 6, none⟩ = some (.int .i64 m.n5) := g2.cell 6
    have s7 : wf.cell? ⟨w.heap.size + 1, 7, none⟩ = some (.slice A5 20 c5) := g2.cell 7
    have s8 : wf.cell? ⟨w.heap.size + 1, 8, none⟩ = some (.bool m.ok) := g2.cell 8
    have s9 : wf.cell? ⟨w.heap.size + 1, 9, none⟩ = some (.int .i64 m.n6) := g2.cell 9
    clear g2
    refine bodyPost_ret (v := .agg (msgC (fewM m) A5 20 c5)) (by simp [results, Try.results7, go_sem, msgC, fewM, s0, s1, s2, s3, s4, s5, s6, s7, s8, s9]) rfl ⟨?_, HG1.out⟩
    rw [HKK.out]
    exact ⟨A5, c5, rfl, ⟨HKK.out.symm, HS7.out, HC5.out, by omega, H.out.bk, fun j => H.out.bm j, fun e he => H.out.be e (List.mem_of_mem_take he)⟩, fun a e => by have := HF5.out a e; omega⟩
  · have i1 : ¬ (20 : Int) < (n : Int) := by omega
    go_enter Try.func7, Try.ntmps7
    go_upto_region 1 with fail
    rw [← HWA.out, ← HWB.out]
    go_upto_region 3 with fail
    obtain ⟨W3, hW3⟩ : ∃ W3, W3 = wb := ⟨_, rfl⟩
    subst hW3
    have HX3 := HX1
    have HR3 := HR1
    have HB3 := HB1
    have HSZ3 := HSB
    have HS3 := Lib.hid (show Seg W3 A (entV (m.ents.take 20)) by
      rw [List.take_of_length_le (by rw [← HML.out]; omega)]
      exact H.out.es.bel HB1.out)
    have HK3 := Lib.hid (show n = (m.ents.take 20).length by rw [List.length_take, ← HML.out]; omega)
    have HKK := Lib.hid (show (fewM m).ents.length = n from HK3.out.symm)
    clear p7 r7 HWA HWB
    obtain ⟨v5, w5, hrun, hown5, hb5⟩ := append_ents (m.ents.take 20) A n c (W3.alloc (.cells #[] 54)) (w.heap.size + 2) HK3.out (HS3.out.bel ((Below.refl _ _).alloc (Nat.le_refl _) _)) (by omega) W3.heap.size (by simp) (World.ownsRow_lit W3 #[] 0 (by have := HSZ3.out; omega) (by decide) rfl) (by have := HSZ3.out; simp; omega)
    obtain ⟨A5, c5, rfl, hc5, hs5, hf5⟩ := rowz_shape hown5
    have HRUN := Lib.hid hrun
    have HS5 := Lib.hid hs5
    have HF5 := Lib.hid hf5
    have HC5 := Lib.hid hc5
    have hb5' : Below (w.heap.size + 2) W3 w5 := ((Below.refl _ _).alloc (by have := HSZ3.out; omega) _).trans hb5
    have HX5 := Lib.hid (HX3.out.below hb5' (by omega))
    have HR5 := Lib.hid (HR3.out.below hb5' (by omega))
    have HB5 := Lib.hid (HB3.out.trans (hb5'.mono (by omega)))
    have q7 : w5.cell? ⟨w.heap.size, 7, none⟩ = some (.slice A n c) := HX5.out.cell 7
    have r7 := HX5.out.frozen 7
    have p7 : W3.cell? ⟨w.heap.size, 7, none⟩ = some (.slice A n c) := HX3.out.cell 7
    clear hrun hs5 hf5 hc5 hown5 hb5 hb5'
    have p7' : (W3.alloc (.cells #[] 54)).cell? ⟨w.heap.size, 7, none⟩ = some (.slice A n c) := (HX3.out.alloc _).cell 7
    go_upto_region 4 with (at_builtin; refine Lib.wpList_append_run _ rfl (.tmp 11) (.tmp 13) _ _ rfl _ _ rfl rfl _ _ HRUN.out ?_)
    have X6 := HX5.out.put 7 (.slice A5 n c5)
    have R6 := HR5.out.far (p := ⟨w.heap.size, 7, none⟩) (by simp) (.slice A5 n c5)
    have B6 := HB5.out.setCell (p := ⟨w.heap.size, 7, none⟩) (Nat.le_refl _) (.slice A5 n c5)
    have S6 := HS5.out.kept (Kept1.set w5 w.heap.size 7 (.slice A5 n c5)) (fun a e => by have := HF5.out a e; omega)
    have HSW := Lib.hid (show ∀ W6, w5.setCell ⟨w.heap.size, 7, none⟩ (.slice A5 n c5) = W6 → Bk W6 w.heap.size 24 #[.int .i64 m.kind, .int .i64 m.n0, .int .i64 m.n1, .int .i64 m.n2, .int .i64 m.n3, .int .i64 m.n4, .int .i64 m.n5, .slice A5 n c5, .bool m.ok, .int .i64 m.n6] ∧ Bk W6 (w.heap.size + 1) 24 zMsg ∧ Below w.heap.size w W6 ∧ Seg W6 A5 (entV (m.ents.take 20)) from fun W6 hW => by
      subst hW
      exact ⟨X6, R6, B6, S6⟩)
    clear X6 R6 B6 S6
    generalize hW6 : w5.setCell ⟨w.heap.size, 7, none⟩ (.slice A5 n c5) = W6
    obtain ⟨X6, R6, B6, S6⟩ := HSW.out W6 hW6
    clear hW6 HSW p7 p7' q7 r7
    have y0 : W6.cell? ⟨w.heap.size, 0, none⟩ = some (.int .i64 m.kind) := X6.cell 0
    have y1 : W6.cell? ⟨w.heap.size, 1, none⟩ = some (.int .i64 m.n0) := X6.cell 1
    have y2 : W6.cell? ⟨w.heap.size, 2, none⟩ = some (.int .i64 m.n1) := X6.cell 2
    have y3 : W6.cell? ⟨w.heap.size, 3, none⟩ = some (.int .i64 m.n2) := X6.cell 3
    have y4 : W6.cell? ⟨w.heap.size, 4, none⟩ = some (.int .i64 m.n3) := X6.cell 4
    have y5 : W6.cell? ⟨w.heap.size, 5, none⟩ = some (.int .i64 m.n4) := X6.cell 5
    have y6 : W6.cell? ⟨w.heap.size, 6, none⟩ = some (.int .i64 m.n5) := X6.cell 6
    have y7 : W6.cell? ⟨w.heap.size, 7, none⟩ = some (.slice A5 n c5) := X6.cell 7
    have y8 : W6.cell? ⟨w.heap.size, 8, none⟩ = some (.bool m.ok) := X6.cell 8
    have y9 : W6.cell? ⟨w.heap.size, 9, none⟩ = some (.int .i64 m.n6) := X6.cell 9
    have t0 : W6.cell? ⟨w.heap.size + 1, 0, none⟩ = some (.int .i64 0) := R6.cell 0
    have t1 : W6.cell? ⟨w.heap.size + 1, 1, none⟩ = some (.int .i64 0) := R6.cell 1
    have t2 : W6.cell? ⟨w.heap.size + 1, 2, none⟩ = some (.int .i64 0) := R6.cell 2
    have t3 : W6.cell? ⟨w.heap.size + 1, 3, none⟩ = some (.int .i64 0) := R6.cell 3
    have t4 : W6.cell? ⟨w.heap.size + 1, 4, none⟩ = some (.int .i64 0) := R6.cell 4
    have t5 : W6.cell? ⟨w.heap.size + 1, 5, none⟩ = some (.int .i64 0) := R6.cell 5
    have t6 : W6.cell? ⟨w.heap.size + 1, 6, none⟩ = some (.int .i64 0) := R6.cell 6
    have t7 : W6.cell? ⟨w.heap.size + 1, 7, none⟩ = some (.slice none 0 0) := R6.cell 7
    have t8 : W6.cell? ⟨w.heap.size + 1, 8, none⟩ = some (.bool false) := R6.cell 8
    have t9 : W6.cell? ⟨w.heap.size + 1, 9, none⟩ = some (.int .i64 0) := R6.cell 9
    have z0 := R6.frozen 0
    have z1 := R6.frozen 1
    have z2 := R6.frozen 2
    have z3 := R6.frozen 3
    have z4 := R6.frozen 4
    have z5 := R6.frozen 5
    have z6 := R6.frozen 6
    have z7 := R6.frozen 7
    have z8 := R6.frozen 8
    have z9 := R6.frozen 9
    have HSET := Lib.hid (set_msg (g := w.heap.size + 1) (by omega) B6 R6 (.int .i64 m.kind) (.int .i64 m.n0) (.int .i64 m.n1) (.int .i64 m.n2) (.int .i64 m.n3) (.int .i64 m.n4) (.int .i64 m.n5) (.slice A5 n c5) (.bool m.ok) (.int .i64 m.n6))
    have HS6 := Lib.hid S6
    clear X6 R6 B6 S6
    go_wp2_with fail
    generalize hwf : ((((((((((W6.setCell ⟨w.heap.size + 1, 0, none⟩ (.int .i64 m.kind)).setCell ⟨w.heap.size + 1, 1, none⟩ (.int .i64 m.n0)).setCell ⟨w.heap.size + 1, 2, none⟩ (.int .i64 m.n1)).setCell ⟨w.heap.size + 1, 3, none⟩ (.int .i64 m.n2)).setCell ⟨w.heap.size + 1, 4, none⟩ (.int .i64 m.n3)).setCell ⟨w.heap.size + 1, 5, none⟩ (.int .i64 m.n4)).setCell ⟨w.heap.size + 1, 6, none⟩ (.int .i64 m.n5)).setCell ⟨w.heap.size + 1, 7, none⟩ (.slice A5 n c5)).setCell ⟨w.heap.size + 1, 8, none⟩ (.bool m.ok)).setCell ⟨w.heap.size + 1, 9, none⟩ (.int .i64 m.n6)) = wf
    obtain ⟨g1, g2, g3⟩ := HSET.out wf hwf
    have HS7 := Lib.hid (HS6.out.kept g3 (fun a e => by have := HF5.out a e; omega))
    have HG1 := Lib.hid g1
    clear hwf HSET y0 y1 y2 y3 y4 y5 y6 y7 y8 y9 t0 t1 t2 t3 t4 t5 t6 t7 t8 t9 z0 z1 z2 z3 z4 z5 z6 z7 z8 z9 g1 g3
    have s0 : wf.cell? ⟨w.heap.size + 1, 0, none⟩ = some (.int .i64 m.kind) := g2.cell 0
    have s1 : wf.cell? ⟨w.heap.size + 1, 1, none⟩ = some (.int .i64 m.n0) := g2.cell 1
    have s2 : wf.cell? ⟨w.heap.size + 1, 2, none⟩ = some (.int .i64 m.n1) := g2.cell 2
    have s3 : wf.cell? ⟨w.heap.size + 1, 3, none⟩ = some (.int .i64 m.n2) := g2.cell 3
    have s4 : wf.cell? ⟨w.heap.size + 1, 4, none⟩ = some (.int .i64 m.n3) := g2.cell 4
    have s5 : wf.cell? ⟨w.heap.size + 1, 5, none⟩ = some (.int .i64 m.n4) := g2.cell 5
    have s6 : wf.cell? ⟨w.heap.size + 1, 6, none⟩ = some (.int .i64 m.n5) := g2.cell 6
    have s7 : wf.cell? ⟨w.heap.size + 1, 7, none⟩ = some (.slice A5 n c5) := g2.cell 7
    have s8 : wf.cell? ⟨w.heap.size + 1, 8, none⟩ = some (.bool m.ok) := g2.cell 8
    have s9 : wf.cell? ⟨w.heap.size + 1, 9, none⟩ = some (.int .i64 m.n6) := g2.cell 9
    clear g2
    refine bodyPost_ret (v := .agg (msgC (fewM m) A5 n c5)) (by simp [results, Try.results7, go_sem, msgC, fewM, s0, s1, s2, s3, s4, s5, s6, s7, s8, s9]) rfl ⟨?_, HG1.out⟩
    rw [HKK.out]
    exact ⟨A5, c5, rfl, ⟨HKK.out.symm, HS7.out, HC5.out, by omega, H.out.bk, fun j => H.out.bm j, fun e he => H.out.be e (List.mem_of_mem_take he)⟩, fun a e => by have := HF5.out a e; omega⟩
end Go.Proofs.Ytgifbjomaenlnaa
